/-
  Stage 13: a list of items, copied into new memory with one item behind it.
-/
import Derived.Test.YtemhodenkgngmaaDoorQmmre00
import Derived.Test.YtemhodenkgngmaaDoorQmmre39
import Derived.Test.YtemhodenkgngmaaDoorQmmre18
import Derived.Deep.AppendLies
set_option maxRecDepth 100000
set_option maxHeartbeats 16000000
namespace Go.Proofs.YtemhodenkgngmaaDoor
open Go.RowKit Go.Shelf Go.Maps
/-- The cells of n items. -/
def irow (C : Nat → List Value) : Nat → List Value
 | 0 => []
 | n + 1 => irow C n ++ C n
theorem qbn {C : Nat → List Value} : ∀ {n : Nat}, (∀ i, i < n → (C i).length = 19) → (irow C n).length = n * 19 := by
 intro n
 induction n with
 | zero => intro _; rfl
 | succ n ih =>
  intro h
  show (irow C n ++ C n).length = _
  rw [List.length_append, ih (fun i hi => h i (by omega)), h n (by omega)]
  omega
theorem qe6 {C : Nat → List Value} : ∀ {n : Nat}, (∀ i, i < n → (C i).length = 19) → ∀ {i j : Nat}, i < n → j < 19 → (irow C n)[i * 19 + j]? = (C i)[j]? := by
 intro n
 induction n with
 | zero => intro _ i j hi; omega
 | succ n ih =>
  intro h i j hi hj
  have hl := qbn (C := C) (n := n) (fun q hq => h q (by omega))
  show (irow C n ++ C n)[i * 19 + j]? = _
  by_cases e : i = n
  ·subst e
   rw [List.getElem?_append_right (by omega), hl, show i * 19 + j - i * 19 = j by omega]
  ·rw [List.getElem?_append_left (by omega)]
   exact ih (fun q hq => h q (by omega)) (by omega) hj
theorem irow_mem {C : Nat → List Value} {u : Value} : ∀ {n : Nat}, u ∈ irow C n → ∃ i, i < n ∧ u ∈ C i := by
 intro n
 induction n with
 | zero => intro h; cases h
 | succ n ih =>
  intro h
  rcases List.mem_append.1 h with h | h
  ·obtain ⟨i, hi, hu⟩ := ih h
   exact ⟨i, by omega, hu⟩
  ·exact ⟨n, by omega, h⟩
/-- The cells of an item, as they lie. -/
structure IQ (w : World) (cs : List Value) (I : It) : Prop where
 ic : IC w cs I
 len : cs.length = 19
 one : ∀ u ∈ cs, u.oneCell' = true
theorem mem19 {cs : List Value} (h : cs.toArray.all (·.oneCell') = true) : ∀ u ∈ cs, u.oneCell' = true := by simpa using h
theorem XC.later {w w' : World} {cs : List Value} {T : Xt} (h : XC w cs T) (hb : Below w.heap.size w w') : XC w' cs T := by
 obtain ⟨a, cap, e, hok, hl⟩ := h
 exact ⟨a, cap, e, hok, fun d => (hl d).later hb⟩
theorem SC.later {w w' : World} {cs : List Value} {S : St} (h : SC w cs S) (hb : Below w.heap.size w w') : SC w' cs S := by
 obtain ⟨aa, pa, ra, ca, cp, cr, e, hok, ha, hr, hp⟩ := h
 exact ⟨aa, pa, ra, ca, cp, cr, e, hok, fun d => (ha d).later hb, hr.later hb, fun d => (hp d).later hb⟩
theorem IQ.later {w w' : World} {cs : List Value} {I : It} (h : IQ w cs I) (hb : Below w.heap.size w w') : IQ w' cs I := by
 obtain ⟨⟨vc, sc, a, c, e, h1, h2, h3, h4⟩, h5, h6⟩ := h
 exact ⟨⟨vc, sc, a, c, e, h1.later hb, h2.later hb, fun d => (h3 d).later hb, h4⟩, h5, h6⟩
theorem ia_cells {w : World} {a : Option Addr} {n : Nat} {F : Nat → It} (h : Its w a n F) {i : Nat} (hi : i < n) : ∃ cs : List Value, IQ w cs (F i) ∧ ∃ b o, a = some ⟨b, o, none⟩ ∧ w.rangeAt b (o + i * 19) cs := by
 obtain ⟨b, o, k, pl, nl, vk, vl, vc, sk, na, ca, np, cp, nr, cr, lc, nm, vm, sm, vn, vln, vcl, sln, scl, ln, cl, va, aa, pa, ra, la, T, S, G, e, eF, hT, hS, hG, k8, p8, hnm, hnl, hr⟩ := h.at_ hi
 refine ⟨_, ⟨?_, ?_, ?_⟩, b, o, e, hr w (Below.refl _ _)⟩
 ·rw [eF]
  exact ⟨_, _, la, lc, rfl, hT.cells, hS.cells, hG, k8, hnm, p8, hnl⟩
 ·rfl
 ·exact mem19 (qbi rfl rfl rfl rfl rfl rfl rfl rfl rfl rfl rfl rfl rfl rfl rfl rfl rfl rfl rfl)
/-- The cells of a list of items. -/
theorem qfm {w : World} {a : Option Addr} {n : Nat} {F : Nat → It} (h : Its w a n F) : ∃ C : Nat → List Value, (∀ i, i < n → IQ w (C i) (F i)) ∧ ∀ ad, a = some ad → ∀ j u, (irow C n)[j]? = some u → w.cell? (ad.add j) = some u := by
 have h0 : ∀ i, ∃ cs : List Value, i < n → (IQ w cs (F i) ∧ ∃ b o, a = some ⟨b, o, none⟩ ∧ w.rangeAt b (o + i * 19) cs) := fun i => by
  by_cases hi : i < n
  ·obtain ⟨cs, h1⟩ := ia_cells h hi
   exact ⟨cs, fun _ => h1⟩
  ·exact ⟨[], fun g => absurd g hi⟩
 obtain ⟨C, hC⟩ := Classical.skolem.1 h0
 refine ⟨C, fun i hi => (hC i hi).1, fun ad e j u hu => ?_⟩
 have hl := qbn (C := C) (n := n) (fun i hi => (hC i hi).1.len)
 have hj : j < n * 19 := by
  have := (List.getElem?_eq_some_iff.1 hu).1
  omega
 have hi : j / 19 < n := by omega
 obtain ⟨h1, b, o, e2, hr⟩ := hC (j / 19) hi
 rw [e] at e2
 cases e2
 have hg := qe6 (C := C) (fun i hi => (hC i hi).1.len) hi (show j % 19 < 19 by omega)
 rw [show j / 19 * 19 + j % 19 = j by omega, hu] at hg
 have := hr _ _ hg.symm
 rw [Addr.add_mid]
 rw [show o + j / 19 * 19 + j % 19 = o + j by omega] at this
 exact this
/-- One item more. -/
def snocI (F : Nat → It) (n : Nat) (I : It) : Nat → It := fun i => if i < n then F i else I
theorem qbo {w : World} {B g n cap : Nat} {C : Nat → List Value} {cs : List Value} {F : Nat → It} {I : It} (h : w.ownsRow B 61 19 (.slice (some ⟨g, 0, none⟩) (n + 1) cap) (n + 1) (irow C n ++ cs)) (hC : ∀ i, i < n → IQ w (C i) (F i)) (hI : IQ w cs I) : Its w (some ⟨g, 0, none⟩) (n + 1) (snocI F n I) := by
 have hc := World.ownsRow.cells h (g := g) rfl
 have hl := qbn (C := C) (n := n) (fun i hi => (hC i hi).len)
 intro i hi
 refine ⟨g, 0, rfl, ?_⟩
 unfold snocI
 by_cases hlt : i < n
 ·rw [if_pos hlt]
  refine (hC i hlt).ic.at_ (fun j hj => ?_)
  have hg := qe6 (C := C) (fun i hi => (hC i hi).len) hlt hj
  have h2 : j < (C i).length := by rw [(hC i hlt).len]; exact hj
  rw [List.getElem?_eq_getElem h2] at hg ⊢
  have := hc (i * 19 + j) _ (by rw [List.getElem?_append_left (by omega)]; exact hg)
  rw [Addr.add_mid] at this
  rw [show 0 + i * 19 + j = 0 + (i * 19 + j) by omega]
  exact this
 ·obtain rfl : i = n := by omega
  rw [if_neg hlt]
  refine hI.ic.at_ (fun j hj => ?_)
  have h2 : j < cs.length := by rw [hI.len]; exact hj
  rw [List.getElem?_eq_getElem h2]
  have := hc (i * 19 + j) _ (by rw [List.getElem?_append_right (by omega), hl, show i * 19 + j - i * 19 = j by omega, List.getElem?_eq_getElem h2])
  rw [Addr.add_mid] at this
  rw [show 0 + i * 19 + j = 0 + (i * 19 + j) by omega]
  exact this
theorem sizeI13 : (Tryd.prog.info? 61).map (fun i => (i.size, i.bytes)) = some (19, 256) := by kernel_rfl
theorem zeroI13 : (((Tryd.prog.info? 61).bind (·.zero)).map fun z => z.cells.size) = some 19 := by kernel_rfl
theorem infoI13 : ∃ i z, Tryd.prog.info? 61 = some i ∧ i.zero = some z ∧ i.size = 19 ∧ i.bytes = 256 ∧ z.cells.size = 19 := by
 have h1 := sizeI13
 have h2 := zeroI13
 cases hi : Tryd.prog.info? 61 with
 | none => rw [hi] at h1; cases h1
 | some i =>
  rw [hi] at h1 h2
  simp only [Option.map_some, Option.some.injEq, Prod.mk.injEq] at h1
  cases hz : i.zero with
  | none => simp [hz] at h2
  | some z =>
   simp only [Option.bind_some, hz, Option.map_some, Option.some.injEq] at h2
   exact ⟨i, z, rfl, hz, h1.1, h1.2, h2⟩
/-- Items put behind a list of the call's own. -/
theorem qa8 {ops : Array Oper} {op : Oper} {a : Act} {w : World} {K : Act → World → Prop} {Q : Exit → Act → World → Prop} {E : Prop} (hgd : op.guard = none) (sl x : Operand) (ho : op.op = .call { callee := .builtin .append, args := #[sl, x], argTypes := #[22, 22] })
  (B : Nat) (v : Value) (n : Nat) (xs : List Value) (hs : a.eval sl = v) (hown : w.ownsRow B 61 19 v n xs) (ad : Addr) (m c : Nat) (news : List Value) (hx : a.eval x = .slice (some ad) m c) (hl : news.length = m * 19) (hc : ∀ j u, news[j]? = some u → w.cell? (ad.add j) = some u) (h1 : ∀ u ∈ news, u.oneCell' = true) (hm : 0 < m) (hlim : n + m ≤ 100000000000) (hB : B ≤ w.heap.size)
  (h : ∀ g cap w', w'.ownsRow B 61 19 (.slice (some ⟨g, 0, none⟩) (n + m) cap) (n + m) (xs ++ news) → Below B w w' → (v.ownBlock = none → Below w.heap.size w w') → K (a.put op.dst (.slice (some ⟨g, 0, none⟩) (n + m) cap)) w') : if Region.wanted op (yielded ops a.tmps) = true then Oper.wp Tryd.prog op a w K Q else E := by
 obtain ⟨i0, z, hi0, hz0, hz1, hz2, hz3⟩ := infoI13
 refine step_append_lies w hgd sl x 22 ho B 61 i0 z 19 256 Tryd.underlying22 hi0 hz0 hz1 hz2 hz3 (by decide) v n xs hs hown ad m c news hx hl hc h1 hm (by unfold maxLen; omega) (by omega) hB _ rfl (fun g cap w' h2 h3 _ _ => h g cap w' h2 (jbelow h3 hB (fun k hk => ?_)) (fun e => jgrown.1 (e ▸ h3)))
 rcases hown.2 with ⟨e, _⟩ | ⟨g', cap, cur, e, hB', _⟩
 ·rw [e] at hk; simp [Value.ownBlock] at hk
 ·rw [e] at hk; simp [Value.ownBlock] at hk; subst hk; exact hB'
theorem qca {w w' : World} {B n : Nat} {v : Value} {xs : List Value} {T : TypeId} {s : Nat} (h : w.ownsRow B T s v n xs) (hb : Below w.heap.size w w') : w'.ownsRow B T s v n xs := World.ownsRow.kept h (jgrown.mpr hb) (by cases hv : v.ownBlock <;> simp)
/-- Two ways that come to one place. -/
theorem join4 {G : Value → Value → Value → World → Prop} {R : Prop} (P : Value → Value → Value → World → Prop) (hr : (∀ x y z w, P x y z w → G x y z w) → R) (hg : ∀ x y z w, P x y z w → G x y z w) : R := hr hg
theorem qfn {F G : Nat → It} : ∀ {n : Nat}, (∀ i, i < n → F i = G i) → tbl F n = tbl G n := by
 intro n
 induction n with
 | zero => intro _; rfl
 | succ n ih =>
  intro h
  rw [qb5, qb5, ih (fun i hi => h i (by omega)), h n (by omega)]
theorem qe7 {F : Nat → It} {n : Nat} {I : It} {T : List Sy} (h : tbl F n = .ok T) : tbl (snocI F n I) (n + 1) = stp n I T := by
 rw [qb5, qfn (F := snocI F n I) (G := F) (fun i hi => if_pos hi), h]
 show stp n (if n < n then F n else I) T = _
 rw [if_neg (Nat.lt_irrefl n)]
/-- The name's item again; an item that uses it. -/
def ia13 (s : ByteArray) : It := ⟨1, s, x2, l0s, 0, 0, fun _ => l0x, 9, 8⟩
def xnm13 (s : ByteArray) : Xt := fun _ => ⟨2, 0, s, 0, 7, 6⟩
def ib13 (s : ByteArray) : It := ⟨6, ⟨#[]⟩, xnm13 s, l0s, 0, 0, fun _ => l0x, 0, 0⟩
theorem ia_uses (s : ByteArray) : ius (ia13 s) = [] := rfl
theorem ib_uses (s : ByteArray) : ius (ib13 s) = [⟨s, 1, 7, 6⟩] := rfl
theorem xvn13 (w : World) (s : ByteArray) (h : s.size ≤ 140737488351232) : XV w (.agg #[.int .u8 ((2 : Nat) : Int), .int .i64 0, .string s, .slice none 0 0, .int .i64 7, .int .i64 6]) (xnm13 s) := ⟨⟨none, 0, rfl, fun d i hi => absurd hi (Nat.not_lt_zero i)⟩, ⟨by show 2 < 256; omega, by show _ ≤ (0 : Int); omega, by show (0 : Int) ≤ _; omega, h, by show 0 ≤ _; omega⟩⟩
theorem ia_iq (w : World) (s : ByteArray) (h : s.size ≤ 140737488351232) : IQ w [.int .u8 1, .string s, .int .u8 1, .int .i64 2, .string ⟨#[]⟩, .slice none 0 0, .int .i64 0, .int .i64 0, .int .u8 0, .string ⟨#[]⟩, .slice none 0 0, .slice none 0 0, .slice none 0 0, .int .i64 0, .int .i64 0, .int .u8 0, .slice none 0 0, .int .i64 9, .int .i64 8] (ia13 s) :=
 ⟨⟨_, _, none, 0, rfl, (xv2 w).cells, (sv0 w).cells, fun d i hi => absurd hi (Nat.not_lt_zero i), by show 1 < 256; omega, h, by show 0 < 256; omega, by show 0 ≤ _; omega⟩, rfl, mem19 (qbi rfl rfl rfl rfl rfl rfl rfl rfl rfl rfl rfl rfl rfl rfl rfl rfl rfl rfl rfl)⟩
theorem ib_iq (w : World) (s : ByteArray) (h : s.size ≤ 140737488351232) : IQ w [.int .u8 6, .string ⟨#[]⟩, .int .u8 2, .int .i64 0, .string s, .slice none 0 0, .int .i64 7, .int .i64 6, .int .u8 0, .string ⟨#[]⟩, .slice none 0 0, .slice none 0 0, .slice none 0 0, .int .i64 0, .int .i64 0, .int .u8 0, .slice none 0 0, .int .i64 0, .int .i64 0] (ib13 s) :=
 ⟨⟨_, _, none, 0, rfl, (xvn13 w s h).cells, (sv0 w).cells, fun d i hi => absurd hi (Nat.not_lt_zero i), by show 6 < 256; omega, by show 0 ≤ _; omega, by show 0 < 256; omega, by show 0 ≤ _; omega⟩, rfl, mem19 (qbi rfl rfl rfl rfl rfl rfl rfl rfl rfl rfl rfl rfl rfl rfl rfl rfl rfl rfl rfl)⟩
theorem ia_val {F : Nat → It} {n : Nat} {T : List Sy} (h : TR F n T) (s : ByteArray) : mdk (ia13 s) T = ⟨2, 0, 0, 0⟩ := by
 show (if mayE _ _ = true then (if mayX x2 = true then xval _ 16 x2 else _) else _) = _
 rw [if_pos h.env, if_pos (by kernel_rfl)]
 rfl
/-- A name made twice. -/
theorem qfo {F : Nat → It} {n : Nat} {V : List Sy} {y : Sy} (hM : ∀ i, i < n → MI (F i)) (h : tbl F n = .ok (V ++ [y])) : tbl (snocI F n (ia13 y.nm)) (n + 1) = .error (130, 9, 8) := by
 have hT := tbl_tr hM h
 rw [qe7 h]
 unfold stp
 rw [ia_uses, if_neg (by show ¬ ((0, 0, 0) : Int × Int × Int) ≠ (0, 0, 0); simp), ia_val hT, if_neg (by decide), if_pos (show (ia13 y.nm).k = 1 ∨ (ia13 y.nm).k = 2 from Or.inl rfl)]
 have e : skd (V ++ [y]) (ia13 y.nm).nm = some y.k := qe5 (hT V y [] rfl).new
 rw [e]
 rfl
theorem tbl_use {F : Nat → It} {n : Nat} {V : List Sy} {y : Sy} (hM : ∀ i, i < n → MI (F i)) (h : tbl F n = .ok (V ++ [y])) : (y.k = 2 ∧ tbl (snocI F n (ib13 y.nm)) (n + 1) = .error (131, 7, 6)) ∨ (y.k = 1 ∧ tbl (snocI F n (ib13 y.nm)) (n + 1) = .ok (V ++ [y])) := by
 have hT := tbl_tr hM h
 have hy := hT V y [] rfl
 have e : skd (V ++ [y]) y.nm = some y.k := qe5 hy.new
 have ew : wfl (skd (V ++ [y])) (ius (ib13 y.nm)) = (if y.k = 1 then (0, 0, 0) else (131, 7, 6)) := by
  rw [ib_uses]
  show (match skd (V ++ [y]) y.nm with | none => ((121 : Int), (7 : Int), (6 : Int)) | some k => if k = 1 then wfl (skd (V ++ [y])) [] else (131, 7, 6)) = _
  rw [e]
  rfl
 rw [qe7 h]
 unfold stp
 rw [ew]
 rcases hy.k with hk | hk
 ·right
  refine ⟨hk, ?_⟩
  rw [if_pos hk, if_neg (by simp)]
  rfl
 ·left
  refine ⟨hk, ?_⟩
  rw [if_neg (show ¬ y.k = 1 by omega)]
  rfl
theorem sizeSy13 : (Tryd.prog.info? 35).map (·.size) = some 4 := by kernel_rfl
theorem qfp : (Tryd.prog.info? 9).map (·.size) = some 1 := by kernel_rfl
theorem qd5 : (Tryd.prog.info? 3).map (·.size) = some 1 := by kernel_rfl
theorem qct {w : World} {b : Nat} {T : TypeId} {xs : Array Value} (h : Vn w b T xs) : w.rangeAt b 0 xs.toList := fun j v hj => by
 rw [Nat.zero_add]
 exact h.cell j v (by rw [← Array.getElem?_toList]; exact hj)
theorem qbp {w : World} {b : Nat} {T : TypeId} {xs : Array Value} (h : Vn w b T xs) : ∀ j u, xs.toList[j]? = some u → w.cell? ((⟨b, 0, none⟩ : Addr).add j) = some u := fun j u hu => by
 rw [Addr.add_mid]
 exact qct h j u hu
end Go.Proofs.YtemhodenkgngmaaDoor
