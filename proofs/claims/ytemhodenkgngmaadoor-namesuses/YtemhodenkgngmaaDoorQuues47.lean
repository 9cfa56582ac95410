/-
  Stage 13: the reference's Used.
-/
import Derived.Test.YtemhodenkgngmaaDoorQuues00
import Derived.Test.YtemhodenkgngmaaDoorQuues33
import Derived.Test.YtemhodenkgngmaaDoorQuues36
import Derived.Test.YtemhodenkgngmaaDoorQuues46
import Derived.Laws.CopyOwn
import Derived.Deep.AppendLies
set_option maxRecDepth 100000
set_option maxHeartbeats 16000000
namespace Go.Proofs.YtemhodenkgngmaaDoor
open Go.RowKit Go.Shelf Go.Maps
open Go.Proofs (encStr)
/-- An own list of names. -/
def Nw (w : World) (B : Nat) (v : Value) (O : List (List UInt8)) : Prop := w.ownsRow B 9 1 v O.length (O.map encStr)
theorem Nw.nil (w : World) (B : Nat) : Nw w B (.slice none 0 0) [] := World.ownsRow_nil _ _ _ _
theorem Nw.later {w w' : World} {B : Nat} {v : Value} {L : List (List UInt8)} (h : Nw w B v L) (hb : Below w.heap.size w w') : Nw w' B v L := World.ownsRow.kept h (jgrown.mpr hb) (by cases hv : v.ownBlock <;> simp)
theorem Nw.form {w : World} {B : Nat} {v : Value} {L : List (List UInt8)} (h : Nw w B v L) : ∃ a d, v = .slice a L.length d ∧ (a = none → L.length = 0 ∧ d = 0) := by
 rcases h.2 with ⟨e, h0⟩ | ⟨g, cap, cur, e, _⟩
 ·exact ⟨none, 0, by rw [e, h0], fun _ => ⟨h0, rfl⟩⟩
 ·exact ⟨_, _, e, fun x => by cases x⟩
theorem Nw.base {w : World} {B : Nat} {v : Value} {L : List (List UInt8)} (h : Nw w B v L) {g : Nat} (hg : v.ownBlock = some g) : B ≤ g ∧ g < w.heap.size := by
 rcases h.2 with ⟨e, _⟩ | ⟨g', cap, cur, e, hB, hb, _⟩
 ·rw [e] at hg; simp [Value.ownBlock] at hg
 ·rw [e] at hg; simp [Value.ownBlock] at hg; subst hg; exact ⟨hB, lt_of_block hb⟩
theorem Nw.el {w : World} {B n d : Nat} {a : Option Addr} {L : List (List UInt8)} (h : Nw w B (.slice a n d) L) {i : Nat} {x : List UInt8} (hx : L[i]? = some x) : ∃ g, a = some ⟨g, 0, none⟩ ∧ w.cell? ⟨g, i, none⟩ = some (.string ⟨x.toArray⟩) := by
 have hl := (List.getElem?_eq_some_iff.1 hx).1
 rcases h.2 with ⟨_, h0⟩ | ⟨g, cap, cur, e, hB, _⟩
 ·omega
 ·have hc := World.ownsRow.cells h (g := g) (by rw [e]; rfl) i (encStr x) (by rw [List.getElem?_map, hx]; rfl)
  cases e
  rw [Addr.add_mid, Nat.zero_add] at hc
  exact ⟨g, rfl, hc⟩
theorem qba : (Tryd.prog.info? 9).map (·.size) = some 1 := by kernel_rfl
theorem qc8 {ops : Array Oper} {o : Oper} {a : Act} {w : World} {K : Act → World → Prop} {Q : Exit → Act → World → Prop} {E : Prop} (hgd : o.guard = none) (d s : Operand) (ho : o.op = .call { callee := .builtin .copy, args := #[d, s], argTypes := #[44, 44] }) (dp sp : Option Addr) (dLen dCap sLen sCap : Nat) (hd : a.eval d = .slice dp dLen dCap) (hs : a.eval s = .slice sp sLen sCap)
  (g off : Nat) (cur : List Value) (hg : w.heap[g]? = some (.cells cur.toArray 9 (0, 0))) (cs : List Value) (hn : cs.length = Nat.min sLen dLen) (hpos : 0 < cs.length → dp = some ⟨g, off, none⟩ ∧ ∃ ad, sp = some ad ∧ ∀ j v, cs[j]? = some v → w.cell? (ad.add j) = some v) (hfit : off + cs.length ≤ cur.length) (h1 : ∀ v ∈ cs, v.oneCell' = true)
  (h : ∀ w', Vn w' g 9 (splice cur off cs).toArray → w.grownBy w' (some g) → K (a.put o.dst (goInt cs.length)) w') : if Region.wanted o (yielded ops a.tmps) = true then Oper.wp Tryd.prog o a w K Q else E := by
 have hw : Region.wanted o (yielded ops a.tmps) = true := by simp [Region.wanted, hgd]
 rw [if_pos hw]
 by_cases h0 : cs.length = 0
 ·obtain rfl : cs = [] := List.eq_nil_of_length_eq_zero h0
  have hrun := run_copy_none (P := Tryd.prog) w 44 44 o.type 9 dp sp dLen dCap sLen sCap Tryd.underlying44 qba (by simpa using hn.symm)
  unfold Oper.wp
  simp [execOp, ho, resolve, invoke, builtin, hd, hs, hrun, Result.andThen]
  exact h w (show _ = _ by simpa [splice] using hg) (World.grownBy.refl _ _)
 ·obtain ⟨rfl, ad, rfl, hsrc⟩ := hpos (by omega)
  have hrun := run_copy_row (P := Tryd.prog) w 44 44 o.type 9 g off dLen dCap ad sLen sCap cur.toArray 9 cs Tryd.underlying44 qba hg hn hsrc (by simpa using hfit) h1
  unfold Oper.wp
  simp [execOp, ho, resolve, invoke, builtin, hd, hs, hrun, Result.andThen]
  exact h _ (setRow_heap w g _ _ _ (0, 0) hg) (qb2 w g _)
theorem qft {A : List Value} {cur : List Value} {e v : Value} {n q : Nat} (hA : A.length = n) (hq : q ≤ n) (hc : n + 1 ≤ cur.length) (ht : cur.take (n + 1) = A ++ [e]) : ((splice cur (q + 1) (A.drop q)).set q v).take (n + 1) = A.take q ++ v :: A.drop q := by
 have h1 : cur.take q = A.take q := by
  have h := congrArg (List.take q) ht
  rw [List.take_take, Nat.min_eq_left (by omega), List.take_append_of_le_length (by omega)] at h
  exact h
 have h2 : cur.take (q + 1) = A.take q ++ [cur[q]'(by omega)] := by rw [List.take_add_one, List.getElem?_eq_getElem (by omega), h1]; rfl
 have hl : (A.take q).length = q := by rw [List.length_take]; omega
 unfold splice
 rw [h2, List.append_assoc, List.set_append_right _ _ (by omega), hl, Nat.sub_self]
 show (A.take q ++ (v :: (A.drop q ++ _))).take (n + 1) = _
 rw [← List.cons_append, ← List.append_assoc, List.take_append_of_le_length (by simp; omega), List.take_of_length_le (by simp; omega)]
theorem jstr13 : (Tryd.prog.info? 9).map (fun i => (i.zero, i.size, i.bytes)) = some (some (.string ⟨#[]⟩), 1, 16) := by kernel_rfl
theorem ris_len {O : List (List UInt8)} {U : List Us} (h : Ris O) (hm : ∀ x, x ∈ O ↔ ∃ u ∈ U, u.nm.data.toList = x) : O.length ≤ U.length := by
 rw [qfq h hm, List.length_mergeSort]
 exact qdj U
theorem less_lex : ∀ (x y : List UInt8), Op.bytesLess x y = decide (x < y) := by
 intro x
 induction x with
 | nil => intro y; cases y <;> simp [Op.bytesLess]
 | cons a x ih =>
  intro y
  cases y with
  | nil => simp [Op.bytesLess]
  | cons b y =>
   rw [Op.bytesLess, ih y]
   simp only [List.cons_lt_cons_iff]
   by_cases h1 : a < b <;> by_cases h2 : a = b <;> by_cases h3 : x < y <;> simp [h1, h2, h3]
theorem less_str (a b : ByteArray) : Op.bytesLess a.toList b.toList = decide (a.data.toList < b.data.toList) := by rw [less_lex, ByteArray.toList_eq, ByteArray.toList_eq]
theorem rused_ok (w : World) (a : Option Addr) (n c : Nat) (F : Nat → It) (hI : Its w a n F) (hn : n ≤ 549755813888) (hm : mayD F n = true) :
  Calls Tryd.prog 18 #[.slice a n c] w fun e w' => (∃ v, e = .returned (.tuple #[v, .int .i64 0]) ∧ Nw w' w.heap.size v ((nam (usl F n)).mergeSort leB)) ∧ Below w.heap.size w w' := by
 have HI := qa0 hI
 have HMy : Hid (∀ w' : World, Below w.heap.size w w' → Calls Tryd.prog 19 #[.slice a n c] w' fun e w'' => e = .returned (.bool true) ∧ Below w'.heap.size w' w'') := fun w' hb => by
  have h := rmay10 w' a n c F (hI.later hb) hn
  rw [hm] at h
  exact h
 obtain ⟨h64, hmi⟩ := qdg hm
 have HMi : Hid (∀ i, i < n → MI (F i) ∧ (F i).nl ≤ 64) := fun i hi => ⟨hmi i hi, iwant_nl (mayD_nl hm i hi)⟩
 have HFw : Hid (∀ i, i ≤ n → (usl F i).length ≤ 8192) := fun i hi => qdi (qd5 hm hi)
 obtain ⟨i0, hi0, hz0, hz1, hz2⟩ := info_parts jstr13
 clear hI hm hmi
 go_enter Tryd.func18, Tryd.ntmps18
 go_wp2_with (go_at_call 19; refine (HMy.out _ (Below.refl _ _)).mono ?_; rintro e w1 ⟨rfl, hb1⟩; have HBs := qa0 hb1; clear hb1)
 go_loopw [4, 5] (fun vt vi wr => ∃ (i : Nat) (O : List (List UInt8)), i ≤ n ∧ vi = .int .i64 (i : Int) ∧ Hid (Ris O ∧ ∀ x, x ∈ O ↔ ∃ u ∈ usl F i, u.nm.data.toList = x) ∧ (∃ x d, vt = .slice x O.length d) ∧ Hid (Nw wr w.heap.size vt O) ∧ Hid (Below w.heap.size w wr)) (fun _ vi _ => n - (intOf vi).toNat)
 case atStart => exact ⟨0, [], by omega, rfl, ⟨List.Pairwise.nil, fun x => ⟨fun h => (by cases h), fun ⟨u, h, _⟩ => (by cases h)⟩⟩, ⟨none, 0, rfl⟩, Nw.nil _ _, HBs⟩
 case round =>
  obtain ⟨i, O, hi, rfl, HR, ⟨x, d, rfl⟩, HN, HB⟩ := hrel
  clear HBs HMy
  by_cases hlt : i < n
  ·have p0 : (0 : Int) ≤ (i : Int) := by omega
   have p1 : (i : Int) < (n : Int) := by omega
   obtain ⟨b, o, k, pl, nl, vk, vl, vc, sk, na, ca, np, cp, nr, cr, lc, nm, vm, sm, vn, vln, vcl, sln, scl, ln, cl, va, aa, pa, ra, la, X, S, G, rfl, hF, hX, hSv, hG, k8, p8, hnm, hnl, hcl⟩ := HI.out.at_ hlt
   obtain ⟨hMI, hnl64⟩ := HMi.out i hlt
   rw [hF] at hMI hnl64
   have hui : UI X S nl G := hMI.ui hnl64
   obtain ⟨U, HU⟩ : ∃ U, Hid (ius ⟨k, nm, X, S, pl, nl, G, ln, cl⟩ = U) := ⟨_, rfl⟩
   have HSu : Hid (usl F (i + 1) = usl F i ++ U) := by show usl F i ++ ius (F i) = _; rw [hF, HU.out]
   have HUs : Hid (∀ w' : World, Below w.heap.size w w' → Calls Tryd.prog 29 #[.agg #[.int .u8 (k : Int), .string nm, .int .u8 (vk : Int), .int .i64 vn, .string vm, .slice va vl vc, .int .i64 vln, .int .i64 vcl, .int .u8 (sk : Int), .string sm, .slice aa na ca, .slice pa np cp, .slice ra nr cr, .int .i64 sln, .int .i64 scl, .int .u8 (pl : Int), .slice la nl lc, .int .i64 ln, .int .i64 cl]] w' fun e w'' => (∃ v, e = .returned v ∧ Uw w'' w'.heap.size v U) ∧ Below w'.heap.size w' w'') := fun w' hb => by
    have h := ruses13 w' k pl nl vk vl vc sk na ca np cp nr cr lc nm vm sm vn vln vcl sln scl ln cl va aa pa ra la X S G (hX.later hb) (hSv.later hb) (fun d => (hG d).later hb) hui
    rw [HU.out] at h
    exact h
   have HRg := qa0 (hcl _ HB.out)
   have hfew := HFw.out (i + 1) (by omega)
   rw [HSu.out, List.length_append] at hfew
   clear hcl hX hSv hG hF hMI hui HU hnl64
   go_wp2_with (first
    | (refine wpList_load_mid rfl 61 _ rfl b _ rfl [.int .u8 (k : Int), .string nm, .int .u8 (vk : Int), .int .i64 vn, .string vm, .slice va vl vc, .int .i64 vln, .int .i64 vcl, .int .u8 (sk : Int), .string sm, .slice aa na ca, .slice pa np cp, .slice ra nr cr, .int .i64 sln, .int .i64 scl, .int .u8 (pl : Int), .slice la nl lc, .int .i64 ln, .int .i64 cl] _ HRg.out Tryd.underlying61 rfl qai ?_)
    | (go_at_call 29; go_loud (refine (HUs.out _ HB.out).mono ?_; rintro e w3 ⟨⟨v3, rfl, h3⟩, hb3⟩; obtain ⟨xu, du, rfl, -⟩ := h3.form; have HSp3 : Hid (∀ g, (Value.slice x O.length d).ownBlock = some g → (Value.slice xu U.length du).ownBlock ≠ some g) := (fun g h1 h2 => by have := (HN.out.base h1).2; have := (h3.base h2).1; omega); have H3 := qa0 (h3.low HB.out.size); have HB3 := qa0 (jtwo HB.out hb3); have HN3 := qa0 (HN.out.later hb3); have z3 := hb3.size; clear h3 hb3)))
   go_loopw [4, 7] (fun vt vi wq => ∃ (j : Nat) (Q : List (List UInt8)), j ≤ U.length ∧ vi = .int .i64 (j : Int) ∧ Hid (Ris Q ∧ ∀ x, x ∈ Q ↔ ∃ u ∈ usl F i ++ U.take j, u.nm.data.toList = x) ∧ (∃ x d, vt = .slice x Q.length d) ∧ Hid (Nw wq w.heap.size vt Q) ∧ Hid (Uw wq w.heap.size (.slice xu U.length du) U) ∧ Hid (Below w.heap.size w wq) ∧ Hid (∀ g, vt.ownBlock = some g → (Value.slice xu U.length du).ownBlock ≠ some g)) (fun _ vi _ => U.length - (intOf vi).toNat)
   case atStart =>
    refine ⟨0, O, by omega, rfl, ?_, ⟨_, _, rfl⟩, HN3, H3, HB3, HSp3⟩
    show Ris O ∧ _
    rw [List.take_zero, List.append_nil]
    exact HR.out
   case round =>
    obtain ⟨j, Q, hj, rfl, HRq, ⟨xq, dq, rfl⟩, HNq, HUq, HBq, HSp⟩ := hrel
    clear H3 HB3 HN3 HUs HRg HN HB HSp3
    by_cases hjt : j < U.length
    ·have p2 : (0 : Int) ≤ (j : Int) := by omega
     have p3 : (j : Int) < (U.length : Int) := by omega
     obtain ⟨u, hu⟩ : ∃ u, U[j]? = some u := ⟨_, List.getElem?_eq_getElem hjt⟩
     have HCu : Hid (∀ W : World, Uw W w.heap.size (.slice xu U.length du) U → ∃ g, xu = some ⟨g, 0, none⟩ ∧ W.cell? ⟨g, j * 4, none⟩ = some (.string u.nm)) := fun W h => by
      obtain ⟨g, e, _, h0, _⟩ := h.el hu
      exact ⟨g, e, h0⟩
     have HTk : Hid (usl F i ++ U.take (j + 1) = (usl F i ++ U.take j) ++ [u]) := by show _ = _; rw [List.take_add_one, hu, List.append_assoc]; rfl
     have hql : Q.length ≤ 8192 := by
      have h := ris_len HRq.out.1 HRq.out.2
      rw [List.length_append, List.length_take] at h
      omega
     obtain ⟨un, uk, uln, ucl⟩ := u
     dsimp only at HCu
     clear hu
     go_wp2
     go_loopw [8] (fun vi wp => ∃ q : Nat, q ≤ Q.length ∧ vi = .int .i64 (q : Int) ∧ Hid (∀ (r : Nat) (y : List UInt8), r < q → Q[r]? = some y → y < un.data.toList) ∧ Hid (Nw wp w.heap.size (.slice xq Q.length dq) Q) ∧ Hid (Uw wp w.heap.size (.slice xu U.length du) U) ∧ Hid (Below w.heap.size w wp)) (fun vi _ => Q.length - (intOf vi).toNat)
     case atStart => exact ⟨0, by omega, rfl, (fun r y h => by omega), HNq, HUq, HBq⟩
     case round =>
      obtain ⟨q, hq, rfl, HLe, HNp, HUp, HBp⟩ := hrel
      clear HNq HUq HBq
      obtain ⟨gu, ex, z0⟩ := HCu.out _ HUp.out
      subst ex
      by_cases hqt : q < Q.length
      ·have p4 : (0 : Int) ≤ (q : Int) := by omega
       have p5 : (q : Int) < (Q.length : Int) := by omega
       obtain ⟨y, hy⟩ : ∃ y, Q[q]? = some y := ⟨_, List.getElem?_eq_getElem hqt⟩
       obtain ⟨gq, ex, z1⟩ := HNp.out.el hy
       subst ex
       obtain ⟨ys, Hys⟩ : ∃ ys : ByteArray, Hid (⟨y.toArray⟩ = ys) := ⟨_, rfl⟩
       have hyd : ys.data.toList = y := by rw [← Hys.out]
       rw [Hys.out] at z1
       have hls := less_str ys un
       rw [hyd] at hls
       by_cases hb : y < un.data.toList
       ·rw [decide_eq_true hb] at hls
        have HLe2 : Hid (∀ (r : Nat) (z : List UInt8), r < q + 1 → Q[r]? = some z → z < un.data.toList) := fun r z hr hz => by
         by_cases e : r = q
         ·subst e; rw [hy] at hz; cases hz; exact hb
         ·exact HLe.out r z (by omega) hz
        clear hy hyd Hys hb HLe
        go_wp2
        go_quiet (fail)
        go_wp2
        exact ⟨⟨q + 1, by omega, by go_num, HLe2, HNp.out.later (below_drewN (Below.refl _ _) _), HUp.out.later (below_drewN (Below.refl _ _) _), below_drewN HBp.out _⟩, by simp [intOf]; omega⟩
       ·rw [decide_eq_false hb] at hls
        by_cases hyx : y = un.data.toList
        ·have eyu : ys = un := ByteArray.ext (Array.toList_inj.1 (by rw [hyd, hyx]))
         subst eyu
         have HR2 : Hid (Ris Q ∧ ∀ x, x ∈ Q ↔ ∃ u ∈ usl F i ++ U.take (j + 1), u.nm.data.toList = x) := by
          refine ⟨HRq.out.1, fun z => ?_⟩
          rw [HTk.out, HRq.out.2 z]
          constructor
          ·rintro ⟨v, hv, e⟩; exact ⟨v, List.mem_append_left _ hv, e⟩
          ·rintro ⟨v, hv, e⟩
           rcases List.mem_append.1 hv with hv | hv
           ·exact ⟨v, hv, e⟩
           ·rw [List.mem_singleton.1 hv] at e
            have hz : z ∈ Q := by rw [← e, ← hyx]; exact List.mem_of_getElem? hy
            exact (HRq.out.2 z).1 hz
         clear hy hyd hyx Hys hb HLe
         go_wp2
         go_quiet (fail)
         go_wp2
         go_quiet (fail)
         go_wp2
         exact ⟨⟨j + 1, Q, by omega, by go_num, HR2, ⟨_, _, rfl⟩, HNp.out.later (below_drewN (Below.refl _ _) _), HUp.out.later (below_drewN (Below.refl _ _) _), below_drewN HBp.out _, HSp⟩, by simp [intOf]; omega⟩
        ·have eyu : ys ≠ un := fun e => hyx (by rw [← hyd, e])
         have g1 : sbq ys un = false := sbq_ne eyu
         have g2 : (ys.toList == un.toList) = false := g1
         have g3 : decide (ys = un) = false := decide_eq_false eyu
         have HPt : Hid (∀ z, Q[q]? = some z → ¬ z < un.data.toList ∧ z ≠ un.data.toList) := fun z hz => by
          rw [hy] at hz
          cases hz
          exact ⟨hb, hyx⟩
         clear hy hyd hyx Hys hb
         go_wp2
         go_quiet (fail)
         have hbA : Below wr.heap.size wr (wr.drewN nq) := below_drewN (Below.refl _ _) _
         have HNa := qa0 (HNp.out.later hbA)
         have HUa := qa0 (HUp.out.later hbA)
         have HBa := qa0 (jtwo HBp.out hbA)
         have y0 := cell_kept z0 hbA
         have y1 := cell_kept z1 hbA
         clear hbA z0 z1 HNp HUp HBp
         generalize wr.drewN nq = w6 at *
         go_wp2
         go_quiet (fail)
         have hbA : Below w6.heap.size w6 (w6.drewN nq) := below_drewN (Below.refl _ _) _
         have HNb := qa0 (HNa.out.later hbA)
         have HUb := qa0 (HUa.out.later hbA)
         have HBb := qa0 (jtwo HBa.out hbA)
         have x0 := cell_kept y0 hbA
         have x1 := cell_kept y1 hbA
         clear hbA y0 y1 HNa HUa HBa
         generalize w6.drewN nq = w7 at *
         go_wp2_with (at_builtin; go_loud (refine wpList_append_lies _ rfl _ _ 44 rfl w.heap.size 9 i0 (.string ⟨#[]⟩) 1 16 Tryd.underlying44 hi0 hz0 hz1 hz2 rfl (by decide) _ Q.length _ rfl (HNb.out.later (jlow _ _)) ⟨w7.heap.size, 0, none⟩ 1 1 [.string ⟨#[]⟩] rfl rfl (qb5 _ _ _) (by intro u hu; rw [List.mem_singleton.1 hu]; rfl) (by omega) (by unfold maxLen; omega) (by omega) (by have := HBb.out.size; simp; omega) _ rfl ?_; intro ga capa wa hOa hga hla hlb; have HOa := qa0 hOa; have HCm : Hid (capa ≤ maxLen) := (by rcases hOa.2 with ⟨e, _⟩ | ⟨g, cap, cur, e, _, _, _, h, _⟩ <;> cases e; exact h); have HUa2 : Hid (Uw wa w.heap.size (.slice (some ⟨gu, 0, none⟩) U.length du) U) := World.ownsRow.kept (HUb.out.later (jlow _ _)) hga (.inr (fun e => HSp.out gu e.symm rfl)); have HNe : Hid (ga ≠ gu) := (fun e => by rcases hla with h | h; exact HSp.out gu (h.trans (congrArg some e)) rfl; (have h2 := (HUb.out.base (g := gu) rfl).2; simp at h; omega)); have HBa := qa0 ((HBb.out.trans ((jlow _ _).mono HBb.out.size)).trans (jbelow hga (by have := HBb.out.size; simp; omega) (fun g hg => (HNb.out.base hg).1))); clear hOa hga))
         have hcp : Q.length + 1 ≤ capa := by rcases HOa.out.2 with ⟨e, _⟩ | ⟨g, cap, cur, e, _, _, h, _⟩; (cases e); (cases e; exact h)
         have w1' : IntKind.i64.wrap ((q : Int) + 1) = (q : Int) + 1 := by rw [IntKind.wrap_i64]; omega
         have w2' : ((q : Int) + 1).toNat = q + 1 := by omega
         have w3' : (0 : Int) ≤ (q : Int) + 1 := by omega
         have w4' : (q : Int) + 1 ≤ (Q.length : Int) + 1 := by omega
         have w5' : (q : Int) ≤ (Q.length : Int) + 1 := by omega
         have w6' : (0 : Int) ≤ (q : Int) := by omega
         refine wp_region_held (S := fun _ => True) (by kernel_rfl) ?_
         change wpAnyH _ _ _ _ _ _ _ _ (World.drew _)
         obtain ⟨wd, HWd⟩ : ∃ wd, Hid (wa.drew = wd) := ⟨_, rfl⟩
         have hbd : Below wa.heap.size wa wd := by rw [← HWd.out]; exact (Below.refl _ _).drew
         rw [HWd.out]
         clear HWd
         refine wtkq 0 ?vi180 rfl (by kernel_rfl) (fun _ _ _ h => h) (by rfl) ?yi180 trivial ?zi180
         case yi180 => (intro wq hSw; go_simp; try with_reducible rfl)
         try simp only [mz1, mz3, Act.put, mz4, mz5, mz6]
         refine wtkq 1 ?vi181 rfl (by kernel_rfl) (fun _ _ _ h => h) (by rfl) ?yi181 trivial ?zi181
         case yi181 => (intro wq hSw; go_simp; try with_reducible rfl)
         try simp only [mz1, mz2, mz3, Act.put, mz4, mz5, mz6]
         refine wtkq 2 ?vi182 rfl (by kernel_rfl) (fun _ _ _ h => h) (by rfl) ?yi182 trivial ?zi182
         case yi182 => (intro wq hSw; go_simp; try with_reducible rfl)
         try simp only [mz1, mz2, mz3, Act.put, mz4, mz5, mz6]
         refine wtkq 3 ?vi183 rfl (by kernel_rfl) (fun _ _ _ h => h) (by rfl) ?yi183 trivial ?zi183
         case yi183 => (intro wq hSw; go_simp; try with_reducible rfl)
         try simp only [mz1, mz2, mz3, Act.put, mz4, mz5, mz6]
         refine wtkq 4 ?vi184 rfl (by kernel_rfl) (fun _ _ _ h => h) (by rfl) ?yi184 trivial ?zi184
         case yi184 => (intro wq hSw; go_simp; try with_reducible rfl)
         try simp only [mz1, mz2, mz3, Act.put, mz4, mz5, mz6]
         refine wtkq 5 ?vi185 rfl (by kernel_rfl) (fun _ _ _ h => h) (by rfl) ?yi185 trivial ?zi185
         case yi185 => (intro wq hSw; go_simp; try with_reducible rfl)
         try simp only [mz1, mz2, mz3, Act.put, mz4, mz5, mz6]
         refine wtkq 6 ?vi186 rfl (by kernel_rfl) (fun _ _ _ h => h) (by rfl) ?yi186 trivial ?zi186
         case yi186 => (intro wq hSw; go_simp; try with_reducible rfl)
         try simp only [mz1, mz2, mz3, Act.put, mz4, mz5, mz6]
         obtain ⟨cur, hBg, hcur, hcs, hct⟩ : ∃ cur : Array Value, w.heap.size ≤ ga ∧ wa.heap[ga]? = some (.cells cur 9 (0, 0)) ∧ cur.size = capa ∧ cur.toList.take (Q.length + 1) = Q.map encStr ++ [.string ⟨#[]⟩] := by
          rcases HOa.out.2 with ⟨e, _⟩ | ⟨g, cap, cur, e, h1, h2, _, _, h5, h6⟩
          ·cases e
          ·cases e; exact ⟨cur, h1, h2, by rw [h5, Nat.mul_one], by rw [Nat.mul_one] at h6; exact h6⟩
         have hcl : cur.toList.length = capa := (Array.length_toList (xs := cur)).trans hcs
         have hmq : (Q.map encStr).length = Q.length := List.length_map ..
         have hwd : wd.heap[ga]? = some (.cells cur.toList.toArray 9 (0, 0)) := by rw [hbd.block ga (lt_of_block hcur), hcur, Array.toArray_toList]
         have Hsrc : Hid (∀ j v, ((Q.map encStr).drop q)[j]? = some v → wd.cell? ((⟨ga, q, none⟩ : Addr).add j) = some v) := fun j v hv => by
          rw [List.getElem?_drop] at hv
          rw [Addr.add_mid, cell_of_row _ _ _ _ _ _ hwd]
          have hlj : q + j < Q.length := by have := (List.getElem?_eq_some_iff.1 hv).1; omega
          have h := congrArg (fun l => l[q + j]?) hct
          rw [List.getElem?_take, if_pos (by omega), List.getElem?_append_left (by omega), hv] at h
          rw [List.getElem?_toArray]
          exact h
         refine wpAnyH_ready (rs := [7]) (by kernel_rfl) (by simp) ?_
         refine AllReadyH.cons rfl (fun KK hKK => ?_) AllReadyH.nil
         refine qc8 rfl _ _ rfl _ _ _ _ _ _ rfl rfl ga (q + 1) cur.toList hwd ((Q.map encStr).drop q) (by rw [List.length_drop, hmq]; exact (Nat.min_eq_right (by omega)).symm) (fun h0 => ⟨if_neg (by rw [List.length_drop, hmq] at h0; omega), ⟨ga, q, none⟩, if_neg (by omega), Hsrc.out⟩) (by rw [List.length_drop, hmq, hcl]; omega) (fun v hv => by obtain ⟨z, _, e⟩ := List.mem_map.1 (List.mem_of_mem_drop hv); rw [← e]; rfl) ?_
         intro wc hvc hgc
         have HVc := qa0 hvc
         have hbc : Below w.heap.size w wc := (jtwo HBa.out hbd).trans (jbelow hgc (jtwo HBa.out hbd).size (fun g e => by cases e; exact hBg))
         have HBc := qa0 hbc
         have HUc : Hid (Uw wc w.heap.size (.slice (some ⟨gu, 0, none⟩) U.length du) U) := by
          refine World.ownsRow.kept (HUa2.out.later hbd) hgc (.inr (fun e => by cases e; exact HNe.out rfl))
         refine hKK.out _ _ trivial (fun _ => ?_)
         clear hKK KK
         try simp only [mz1, mz2, mz3, Act.put, mz4, mz5, mz6]
         refine wpAnyH_done (by kernel_rfl) ?_ _
         try simp only [mz1, mz2, mz3, Act.put, mz4, mz5, mz6]
         obtain ⟨gu', ex', x0'⟩ := HCu.out _ HUc.out
         cases ex'
         have HFin : Hid (∀ w9 : World, Vn w9 ga 9 ((splice cur.toList (q + 1) ((Q.map encStr).drop q)).toArray.setIfInBounds q (.string un)) → Nw w9 w.heap.size (.slice (some ⟨ga, 0, none⟩) (Q.length + 1) capa) (Q.take q ++ un.data.toList :: Q.drop q)) := fun w9 hv9 => by
          have hln : (Q.take q ++ un.data.toList :: Q.drop q).length = Q.length + 1 := by simp <;> omega
          have hsp : (splice cur.toList (q + 1) ((Q.map encStr).drop q)).length = capa := by rw [length_splice _ _ _ (by rw [List.length_drop, hmq, hcl]; omega), hcl]
          refine ⟨by simp, .inr ⟨ga, capa, _, by rw [hln], hBg, hv9, by rw [hln]; exact hcp, HCm.out, by simp [hsp], ?_⟩⟩
          rw [hln, Nat.mul_one]
          have h := qft (v := .string un) hmq (show q ≤ Q.length by omega) (by rw [hcl]; exact hcp) hct
          rw [List.map_append, List.map_cons, List.map_take, List.map_drop]
          have e5 : encStr un.data.toList = .string un := by simp [encStr]
          rw [e5, ← h]
          simp
         have HR2 : Hid (Ris (Q.take q ++ un.data.toList :: Q.drop q) ∧ ∀ x, x ∈ Q.take q ++ un.data.toList :: Q.drop q ↔ ∃ u ∈ usl F i ++ U.take (j + 1), u.nm.data.toList = x) := by
          refine ⟨qfp HRq.out.1 (by omega) HLe.out HPt.out, fun z => ?_⟩
          rw [HTk.out, put_mem, HRq.out.2 z]
          constructor
          ·rintro (rfl | ⟨v, hv, e⟩)
           ·exact ⟨_, List.mem_append_right _ (List.mem_singleton.2 rfl), rfl⟩
           ·exact ⟨v, List.mem_append_left _ hv, e⟩
          ·rintro ⟨v, hv, e⟩
           rcases List.mem_append.1 hv with hv | hv
           ·exact .inr ⟨v, hv, e⟩
           ·rw [List.mem_singleton.1 hv] at e; exact .inl e.symm
         have hlR : q < (splice cur.toList (q + 1) ((Q.map encStr).drop q)).toArray.size := by rw [List.size_toArray, length_splice _ _ _ (by rw [List.length_drop, hmq, hcl]; omega), hcl]; omega
         generalize hRR : (splice cur.toList (q + 1) ((Q.map encStr).drop q)).toArray = RR at *
         obtain ⟨Q2, HQ2⟩ : ∃ Q2, Hid (Q.take q ++ un.data.toList :: Q.drop q = Q2) := ⟨_, rfl⟩
         have HL2 : Hid (Q2.length = Q.length + 1) := by show _ = _; rw [← HQ2.out]; simp <;> omega
         rw [HQ2.out] at HFin HR2
         have hgu := HNe.out
         clear hcur hwd hct hRR hbc hvc hgc hbd Hsrc HPt HLe hmq
         go_wp2_with (refine wpList_store_one rfl 9 _ _ rfl ga q 9 RR (.string un) rfl rfl qba rfl rfl HVc.out hlR ?_; go_loud (intro w9 HV9 hg9; have HN9 := qa0 (HFin.out w9 HV9.out); have HB9 := qa0 (HBc.out.trans (jbelow hg9.out HBc.out.size (fun g e => by cases e; exact hBg))); have HU9 : Hid (Uw w9 w.heap.size (.slice (some ⟨gu, 0, none⟩) U.length du) U) := World.ownsRow.kept HUc.out hg9.out (.inr (fun e => by cases e; exact hgu rfl)); clear hg9))
         have HSp9 : Hid (∀ g, (Value.slice (some ⟨ga, 0, none⟩) (Q.length + 1) capa).ownBlock = some g → (Value.slice (some ⟨gu, 0, none⟩) U.length du).ownBlock ≠ some g) := fun g h1 h2 => by cases h1; cases h2; exact hgu rfl
         exact ⟨⟨j + 1, Q2, by omega, by go_num, HR2, ⟨_, _, by rw [HL2.out]⟩, HN9, HU9, HB9, HSp9⟩, by simp [intOf]; omega⟩
      ·obtain rfl : q = Q.length := by omega
       have HPt : Hid (∀ z, Q[Q.length]? = some z → ¬ z < un.data.toList ∧ z ≠ un.data.toList) := fun z hz => by
        rw [List.getElem?_eq_none (Nat.le_refl _)] at hz
        cases hz
       have g1 : decide ((Q.length : Int) < (Q.length : Int)) = false := decide_eq_false (by omega)
       go_wp2
       go_quiet (fail)
       have hbA : Below wr.heap.size wr (wr.drewN nq) := below_drewN (Below.refl _ _) _
       have HNa := qa0 (HNp.out.later hbA)
       have HUa := qa0 (HUp.out.later hbA)
       have HBa := qa0 (jtwo HBp.out hbA)
       have y0 := cell_kept z0 hbA
       clear hbA z0  HNp HUp HBp
       generalize wr.drewN nq = w6 at *
       go_wp2
       go_quiet (fail)
       have hbA : Below w6.heap.size w6 (w6.drewN nq) := below_drewN (Below.refl _ _) _
       have HNb := qa0 (HNa.out.later hbA)
       have HUb := qa0 (HUa.out.later hbA)
       have HBb := qa0 (jtwo HBa.out hbA)
       have x0 := cell_kept y0 hbA
       clear hbA y0  HNa HUa HBa
       generalize w6.drewN nq = w7 at *
       go_wp2_with (at_builtin; go_loud (refine wpList_append_lies _ rfl _ _ 44 rfl w.heap.size 9 i0 (.string ⟨#[]⟩) 1 16 Tryd.underlying44 hi0 hz0 hz1 hz2 rfl (by decide) _ Q.length _ rfl (HNb.out.later (jlow _ _)) ⟨w7.heap.size, 0, none⟩ 1 1 [.string ⟨#[]⟩] rfl rfl (qb5 _ _ _) (by intro u hu; rw [List.mem_singleton.1 hu]; rfl) (by omega) (by unfold maxLen; omega) (by omega) (by have := HBb.out.size; simp; omega) _ rfl ?_; intro ga capa wa hOa hga hla hlb; have HOa := qa0 hOa; have HCm : Hid (capa ≤ maxLen) := (by rcases hOa.2 with ⟨e, _⟩ | ⟨g, cap, cur, e, _, _, _, h, _⟩ <;> cases e; exact h); have HUa2 : Hid (Uw wa w.heap.size (.slice (some ⟨gu, 0, none⟩) U.length du) U) := World.ownsRow.kept (HUb.out.later (jlow _ _)) hga (.inr (fun e => HSp.out gu e.symm rfl)); have HNe : Hid (ga ≠ gu) := (fun e => by rcases hla with h | h; exact HSp.out gu (h.trans (congrArg some e)) rfl; (have h2 := (HUb.out.base (g := gu) rfl).2; simp at h; omega)); have HBa := qa0 ((HBb.out.trans ((jlow _ _).mono HBb.out.size)).trans (jbelow hga (by have := HBb.out.size; simp; omega) (fun g hg => (HNb.out.base hg).1))); clear hOa hga))
       have hcp : Q.length + 1 ≤ capa := by rcases HOa.out.2 with ⟨e, _⟩ | ⟨g, cap, cur, e, _, _, h, _⟩; (cases e); (cases e; exact h)
       have w1' : IntKind.i64.wrap ((Q.length : Int) + 1) = (Q.length : Int) + 1 := by rw [IntKind.wrap_i64]; omega
       have w2' : ((Q.length : Int) + 1).toNat = Q.length + 1 := by omega
       have w3' : (0 : Int) ≤ (Q.length : Int) + 1 := by omega
       have w4' : (Q.length : Int) + 1 ≤ (Q.length : Int) + 1 := by omega
       have w5' : (Q.length : Int) ≤ (Q.length : Int) + 1 := by omega
       have w6' : (0 : Int) ≤ (Q.length : Int) := by omega
       refine wp_region_held (S := fun _ => True) (by kernel_rfl) ?_
       change wpAnyH _ _ _ _ _ _ _ _ (World.drew _)
       obtain ⟨wd, HWd⟩ : ∃ wd, Hid (wa.drew = wd) := ⟨_, rfl⟩
       have hbd : Below wa.heap.size wa wd := by rw [← HWd.out]; exact (Below.refl _ _).drew
       rw [HWd.out]
       clear HWd
       refine wtkq 0 ?vi140 rfl (by kernel_rfl) (fun _ _ _ h => h) (by rfl) ?yi140 trivial ?zi140
       case yi140 => (intro wq hSw; go_simp; try with_reducible rfl)
       try simp only [mz1, mz3, Act.put, mz4, mz5, mz6]
       refine wtkq 1 ?vi141 rfl (by kernel_rfl) (fun _ _ _ h => h) (by rfl) ?yi141 trivial ?zi141
       case yi141 => (intro wq hSw; go_simp; try with_reducible rfl)
       try simp only [mz1, mz2, mz3, Act.put, mz4, mz5, mz6]
       refine wtkq 2 ?vi142 rfl (by kernel_rfl) (fun _ _ _ h => h) (by rfl) ?yi142 trivial ?zi142
       case yi142 => (intro wq hSw; go_simp; try with_reducible rfl)
       try simp only [mz1, mz2, mz3, Act.put, mz4, mz5, mz6]
       refine wtkq 3 ?vi143 rfl (by kernel_rfl) (fun _ _ _ h => h) (by rfl) ?yi143 trivial ?zi143
       case yi143 => (intro wq hSw; go_simp; try with_reducible rfl)
       try simp only [mz1, mz2, mz3, Act.put, mz4, mz5, mz6]
       refine wtkq 4 ?vi144 rfl (by kernel_rfl) (fun _ _ _ h => h) (by rfl) ?yi144 trivial ?zi144
       case yi144 => (intro wq hSw; go_simp; try with_reducible rfl)
       try simp only [mz1, mz2, mz3, Act.put, mz4, mz5, mz6]
       refine wtkq 5 ?vi145 rfl (by kernel_rfl) (fun _ _ _ h => h) (by rfl) ?yi145 trivial ?zi145
       case yi145 => (intro wq hSw; go_simp; try with_reducible rfl)
       try simp only [mz1, mz2, mz3, Act.put, mz4, mz5, mz6]
       refine wtkq 6 ?vi146 rfl (by kernel_rfl) (fun _ _ _ h => h) (by rfl) ?yi146 trivial ?zi146
       case yi146 => (intro wq hSw; go_simp; try with_reducible rfl)
       try simp only [mz1, mz2, mz3, Act.put, mz4, mz5, mz6]
       obtain ⟨cur, hBg, hcur, hcs, hct⟩ : ∃ cur : Array Value, w.heap.size ≤ ga ∧ wa.heap[ga]? = some (.cells cur 9 (0, 0)) ∧ cur.size = capa ∧ cur.toList.take (Q.length + 1) = Q.map encStr ++ [.string ⟨#[]⟩] := by
        rcases HOa.out.2 with ⟨e, _⟩ | ⟨g, cap, cur, e, h1, h2, _, _, h5, h6⟩
        ·cases e
        ·cases e; exact ⟨cur, h1, h2, by rw [h5, Nat.mul_one], by rw [Nat.mul_one] at h6; exact h6⟩
       have hcl : cur.toList.length = capa := (Array.length_toList (xs := cur)).trans hcs
       have hmq : (Q.map encStr).length = Q.length := List.length_map ..
       have hwd : wd.heap[ga]? = some (.cells cur.toList.toArray 9 (0, 0)) := by rw [hbd.block ga (lt_of_block hcur), hcur, Array.toArray_toList]
       have Hsrc : Hid (∀ j v, ((Q.map encStr).drop Q.length)[j]? = some v → wd.cell? ((⟨ga, Q.length, none⟩ : Addr).add j) = some v) := fun j v hv => by
        rw [List.getElem?_drop] at hv
        rw [Addr.add_mid, cell_of_row _ _ _ _ _ _ hwd]
        have hlj : Q.length + j < Q.length := by have := (List.getElem?_eq_some_iff.1 hv).1; omega
        have h := congrArg (fun l => l[Q.length + j]?) hct
        rw [List.getElem?_take, if_pos (by omega), List.getElem?_append_left (by omega), hv] at h
        rw [List.getElem?_toArray]
        exact h
       refine wpAnyH_ready (rs := [7]) (by kernel_rfl) (by simp) ?_
       refine AllReadyH.cons rfl (fun KK hKK => ?_) AllReadyH.nil
       refine qc8 rfl _ _ rfl _ _ _ _ _ _ rfl rfl ga (Q.length + 1) cur.toList hwd ((Q.map encStr).drop Q.length) (by rw [List.length_drop, hmq]; simp) (fun h0 => ⟨if_neg (by rw [List.length_drop, hmq] at h0; omega), ⟨ga, Q.length, none⟩, if_neg (by omega), Hsrc.out⟩) (by rw [List.length_drop, hmq, hcl]; omega) (fun v hv => by obtain ⟨z, _, e⟩ := List.mem_map.1 (List.mem_of_mem_drop hv); rw [← e]; rfl) ?_
       intro wc hvc hgc
       have HVc := qa0 hvc
       have hbc : Below w.heap.size w wc := (jtwo HBa.out hbd).trans (jbelow hgc (jtwo HBa.out hbd).size (fun g e => by cases e; exact hBg))
       have HBc := qa0 hbc
       have HUc : Hid (Uw wc w.heap.size (.slice (some ⟨gu, 0, none⟩) U.length du) U) := by
        refine World.ownsRow.kept (HUa2.out.later hbd) hgc (.inr (fun e => by cases e; exact HNe.out rfl))
       refine hKK.out _ _ trivial (fun _ => ?_)
       clear hKK KK
       try simp only [mz1, mz2, mz3, Act.put, mz4, mz5, mz6]
       refine wpAnyH_done (by kernel_rfl) ?_ _
       try simp only [mz1, mz2, mz3, Act.put, mz4, mz5, mz6]
       obtain ⟨gu', ex', x0'⟩ := HCu.out _ HUc.out
       cases ex'
       have HFin : Hid (∀ w9 : World, Vn w9 ga 9 ((splice cur.toList (Q.length + 1) ((Q.map encStr).drop Q.length)).toArray.setIfInBounds Q.length (.string un)) → Nw w9 w.heap.size (.slice (some ⟨ga, 0, none⟩) (Q.length + 1) capa) (Q.take Q.length ++ un.data.toList :: Q.drop Q.length)) := fun w9 hv9 => by
        have hln : (Q.take Q.length ++ un.data.toList :: Q.drop Q.length).length = Q.length + 1 := by simp <;> omega
        have hsp : (splice cur.toList (Q.length + 1) ((Q.map encStr).drop Q.length)).length = capa := by rw [length_splice _ _ _ (by rw [List.length_drop, hmq, hcl]; omega), hcl]
        refine ⟨by simp, .inr ⟨ga, capa, _, by rw [hln], hBg, hv9, by rw [hln]; exact hcp, HCm.out, by simp [hsp], ?_⟩⟩
        rw [hln, Nat.mul_one]
        have h := qft (v := .string un) hmq (show Q.length ≤ Q.length by omega) (by rw [hcl]; exact hcp) hct
        rw [List.map_append, List.map_cons, List.map_take, List.map_drop]
        have e5 : encStr un.data.toList = .string un := by simp [encStr]
        rw [e5, ← h]
        simp
       have HR2 : Hid (Ris (Q.take Q.length ++ un.data.toList :: Q.drop Q.length) ∧ ∀ x, x ∈ Q.take Q.length ++ un.data.toList :: Q.drop Q.length ↔ ∃ u ∈ usl F i ++ U.take (j + 1), u.nm.data.toList = x) := by
        refine ⟨qfp HRq.out.1 (by omega) HLe.out HPt.out, fun z => ?_⟩
        rw [HTk.out, put_mem, HRq.out.2 z]
        constructor
        ·rintro (rfl | ⟨v, hv, e⟩)
         ·exact ⟨_, List.mem_append_right _ (List.mem_singleton.2 rfl), rfl⟩
         ·exact ⟨v, List.mem_append_left _ hv, e⟩
        ·rintro ⟨v, hv, e⟩
         rcases List.mem_append.1 hv with hv | hv
         ·exact .inr ⟨v, hv, e⟩
         ·rw [List.mem_singleton.1 hv] at e; exact .inl e.symm
       have hlR : Q.length < (splice cur.toList (Q.length + 1) ((Q.map encStr).drop Q.length)).toArray.size := by rw [List.size_toArray, length_splice _ _ _ (by rw [List.length_drop, hmq, hcl]; omega), hcl]; omega
       generalize hRR : (splice cur.toList (Q.length + 1) ((Q.map encStr).drop Q.length)).toArray = RR at *
       obtain ⟨Q2, HQ2⟩ : ∃ Q2, Hid (Q.take Q.length ++ un.data.toList :: Q.drop Q.length = Q2) := ⟨_, rfl⟩
       have HL2 : Hid (Q2.length = Q.length + 1) := by show _ = _; rw [← HQ2.out]; simp <;> omega
       rw [HQ2.out] at HFin HR2
       have hgu := HNe.out
       clear hcur hwd hct hRR hbc hvc hgc hbd Hsrc HPt HLe hmq
       go_wp2_with (refine wpList_store_one rfl 9 _ _ rfl ga Q.length 9 RR (.string un) rfl rfl qba rfl rfl HVc.out hlR ?_; go_loud (intro w9 HV9 hg9; have HN9 := qa0 (HFin.out w9 HV9.out); have HB9 := qa0 (HBc.out.trans (jbelow hg9.out HBc.out.size (fun g e => by cases e; exact hBg))); have HU9 : Hid (Uw w9 w.heap.size (.slice (some ⟨gu, 0, none⟩) U.length du) U) := World.ownsRow.kept HUc.out hg9.out (.inr (fun e => by cases e; exact hgu rfl)); clear hg9))
       have HSp9 : Hid (∀ g, (Value.slice (some ⟨ga, 0, none⟩) (Q.length + 1) capa).ownBlock = some g → (Value.slice (some ⟨gu, 0, none⟩) U.length du).ownBlock ≠ some g) := fun g h1 h2 => by cases h1; cases h2; exact hgu rfl
       exact ⟨⟨j + 1, Q2, by omega, by go_num, HR2, ⟨_, _, by rw [HL2.out]⟩, HN9, HU9, HB9, HSp9⟩, by simp [intOf]; omega⟩
    ·obtain rfl : j = U.length := by omega
     go_wp2
     refine ⟨⟨i + 1, Q, by omega, by go_num, ?_, ⟨_, _, rfl⟩, HNq, HBq⟩, by simp [intOf]; omega⟩
     show Ris Q ∧ _
     rw [HSu.out]
     have h := HRq.out
     rw [List.take_length] at h
     exact h
  ·obtain rfl : i = n := by omega
   go_wp2
   go_ret2
   refine ⟨⟨_, rfl, ?_⟩, HB.out⟩
   rw [← qfq HR.out.1 HR.out.2]
   exact HN.out
theorem qfu (w : World) (a : Option Addr) (n c : Nat) (F : Nat → It) (hI : Its w a n F) (hn : n ≤ 549755813888) (hm : mayD F n = false) :
  Calls Tryd.prog 18 #[.slice a n c] w fun e w' => e = .returned (.tuple #[.slice none 0 0, .int .i64 2]) ∧ Below w.heap.size w w' := by
 have HM : Hid (∀ w' : World, Below w.heap.size w w' → Calls Tryd.prog 19 #[.slice a n c] w' fun e w'' => e = .returned (.bool false) ∧ Below w'.heap.size w' w'') := fun w' hb => by
  have h := rmay10 w' a n c F (hI.later hb) hn
  rw [hm] at h
  exact h
 clear hI hm
 go_enter Tryd.func18, Tryd.ntmps18
 go_wp2_with (go_at_call 19; refine (HM.out _ (Below.refl _ _)).mono ?_; rintro e w1 ⟨rfl, hb1⟩; have HB1 := qa0 hb1; clear hb1)
 go_ret2
 exact ⟨rfl, HB1.out⟩
end Go.Proofs.YtemhodenkgngmaaDoor
