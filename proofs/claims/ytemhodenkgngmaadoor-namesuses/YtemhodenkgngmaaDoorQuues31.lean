/-
  Stage 13: the anchor of the laws.
  Stage 13: the table of some items.
  Stage 13: Table.
  Stage 13: the reference's Like over like lists; the tables of beginnings.
-/
import Derived.Test.YtemhodenkgngmaaDoorQuues00
import Derived.Test.YtemhodenkgngmaaDoorQuues30
import Derived.Deep.RegionHeld
set_option maxRecDepth 100000
set_option maxHeartbeats 16000000
namespace Go.Proofs.YtemhodenkgngmaaDoor
open Go.RowKit Go.Shelf Go.Maps
theorem pone13 (w : World) : Calls Tryd.prog 20 #[] w fun e w' => e = .returned (.agg #[.int .u8 1, .string ⟨#[97]⟩, .int .u8 1, .int .i64 2, .string ⟨#[]⟩, .slice none 0 0, .int .i64 0, .int .i64 0, .int .u8 0, .string ⟨#[]⟩, .slice none 0 0, .slice none 0 0, .slice none 0 0, .int .i64 0, .int .i64 0, .int .u8 0, .slice none 0 0, .int .i64 0, .int .i64 0]) ∧ Below w.heap.size w w' := by
 go_enter Tryd.func20, Tryd.ntmps20
 go_wp2_with (refine qa1 rfl 61 _ _ rfl w.heap.size _ #[.int .u8 1, .string ⟨#[97]⟩, .int .u8 1, .int .i64 2, .string ⟨#[]⟩, .slice none 0 0, .int .i64 0, .int .i64 0, .int .u8 0, .string ⟨#[]⟩, .slice none 0 0, .slice none 0 0, .slice none 0 0, .int .i64 0, .int .i64 0, .int .u8 0, .slice none 0 0, .int .i64 0, .int .i64 0] rfl rfl (Vn.new w _ _) qai rfl (all19 rfl rfl rfl rfl rfl rfl rfl rfl rfl rfl rfl rfl rfl rfl rfl rfl rfl rfl rfl) ?_; intro w2 HV2 hg2; have hb2 : Below w.heap.size w w2 := (jlow _ _).trans (jbelow hg2.out (jlow _ _).size (fun g e => by cases e; exact Nat.le_refl _)))
 refine bodyPost_ret (v := .agg #[.int .u8 1, .string ⟨#[97]⟩, .int .u8 1, .int .i64 2, .string ⟨#[]⟩, .slice none 0 0, .int .i64 0, .int .i64 0, .int .u8 0, .string ⟨#[]⟩, .slice none 0 0, .slice none 0 0, .slice none 0 0, .int .i64 0, .int .i64 0, .int .u8 0, .slice none 0 0, .int .i64 0, .int .i64 0]) (results_cell_row Tryd.results20 _ _ w.heap.size 61 #[.int .u8 1, .string ⟨#[97]⟩, .int .u8 1, .int .i64 2, .string ⟨#[]⟩, .slice none 0 0, .int .i64 0, .int .i64 0, .int .u8 0, .string ⟨#[]⟩, .slice none 0 0, .slice none 0 0, .slice none 0 0, .int .i64 0, .int .i64 0, .int .u8 0, .slice none 0 0, .int .i64 0, .int .i64 0] (0, 0) _ rfl HV2.out Tryd.underlying61 rfl qai) rfl ?_
 exact ⟨rfl, hb2⟩
theorem qem (w : World) (hw : Wt9 w) : Calls Tryd.prog 12 #[] w fun e w' => e = .returned (.bool true) ∧ Below w.heap.size w w' := by
 have HW := qa0 hw
 obtain ⟨nm, Hn⟩ : ∃ nm : ByteArray, Hid (nm = ⟨#[97]⟩) := ⟨_, rfl⟩
 have HO : Hid (∀ w' : World, Calls Tryd.prog 20 #[] w' fun e w'' => e = .returned (.agg #[.int .u8 1, .string nm, .int .u8 1, .int .i64 2, .string ⟨#[]⟩, .slice none 0 0, .int .i64 0, .int .i64 0, .int .u8 0, .string ⟨#[]⟩, .slice none 0 0, .slice none 0 0, .slice none 0 0, .int .i64 0, .int .i64 0, .int .u8 0, .slice none 0 0, .int .i64 0, .int .i64 0]) ∧ Below w'.heap.size w' w'') := fun w' => by rw [Hn.out]; exact pone13 w'
 have HT : Hid (∀ w' : World, Below w.heap.size w w' → Calls Tryd.prog 9 #[.slice (some ⟨w'.heap.size, 0, none⟩) 1 1] (w'.alloc (.cells #[.int .u8 1, .string nm, .int .u8 1, .int .i64 2, .string ⟨#[]⟩, .slice none 0 0, .int .i64 0, .int .i64 0, .int .u8 0, .string ⟨#[]⟩, .slice none 0 0, .slice none 0 0, .slice none 0 0, .int .i64 0, .int .i64 0, .int .u8 0, .slice none 0 0, .int .i64 0, .int .i64 0] 61)) fun e w'' => (∃ v, e = .returned (.tuple #[v, .agg #[.int .i64 0, .int .i64 0, .int .i64 0]]) ∧ Sw w'' (w'.alloc (.cells #[.int .u8 1, .string nm, .int .u8 1, .int .i64 2, .string ⟨#[]⟩, .slice none 0 0, .int .i64 0, .int .i64 0, .int .u8 0, .string ⟨#[]⟩, .slice none 0 0, .slice none 0 0, .slice none 0 0, .int .i64 0, .int .i64 0, .int .u8 0, .slice none 0 0, .int .i64 0, .int .i64 0] 61)).heap.size v [⟨nm, 1, 0, 2⟩]) ∧ Below (w'.alloc (.cells #[.int .u8 1, .string nm, .int .u8 1, .int .i64 2, .string ⟨#[]⟩, .slice none 0 0, .int .i64 0, .int .i64 0, .int .u8 0, .string ⟨#[]⟩, .slice none 0 0, .slice none 0 0, .slice none 0 0, .int .i64 0, .int .i64 0, .int .u8 0, .slice none 0 0, .int .i64 0, .int .i64 0] 61)).heap.size (w'.alloc (.cells #[.int .u8 1, .string nm, .int .u8 1, .int .i64 2, .string ⟨#[]⟩, .slice none 0 0, .int .i64 0, .int .i64 0, .int .u8 0, .string ⟨#[]⟩, .slice none 0 0, .slice none 0 0, .slice none 0 0, .int .i64 0, .int .i64 0, .int .u8 0, .slice none 0 0, .int .i64 0, .int .i64 0] 61)) w'') := fun w' hb => ptab1 _ _ nm Hn.out (Vn.new _ _ _) (HW.out.later (jtwo hb (jlow _ _)))
 have heq := qf8
 have hng := qbi
 have hes := eql_sy13
 have hns := qdh
 clear hw
 go_enter Tryd.func12, Tryd.ntmps12
 go_wp2_with (first
  | (go_at_call 20; refine (HO.out _).mono ?_; rintro e w1 ⟨rfl, hb1⟩; have HB1 := qa0 hb1; clear hb1)
  | (go_at_call 9; go_loud (refine (HT.out w1 HB1.out).mono ?_; rintro e w2 ⟨⟨v, rfl, hs2⟩, hb2⟩; obtain ⟨x, d, rfl, _⟩ := hs2.form; obtain ⟨_, hl2⟩ := hs2.el (fun c hc => by rw [List.mem_singleton.1 hc]; exact ⟨by rw [Hn.out]; show 1 ≤ _; omega, by show 1 < 256; omega, by show _ ≤ (0 : Int); omega, by show (0 : Int) ≤ _; omega, by show _ ≤ (2 : Int); omega, by show (2 : Int) ≤ _; omega⟩); obtain ⟨_, sb, so, rfl, a0, a1, a2, a3⟩ := hl2 0 (by show 0 < 1; omega); have HS2 : Hid (w2.cell? ⟨sb, so, none⟩ = some (.string ⟨#[97]⟩) ∧ w2.cell? ⟨sb, so + 1, none⟩ = some (.int .u8 1) ∧ w2.cell? ⟨sb, so + 2, none⟩ = some (.int .i64 0) ∧ w2.cell? ⟨sb, so + 3, none⟩ = some (.int .i64 2)) := ⟨by rw [← Hn.out]; exact a0, a1, a2, a3⟩; clear a0 a1 a2 a3 hl2; have HB2 := qa0 (jtwo (jtwo HB1.out (jlow _ _)) hb2); clear hb2 hs2))
  | (refine qa1 rfl 26 _ _ rfl w2.heap.size _ #[.int .i64 0, .int .i64 0, .int .i64 0] rfl rfl (Vn.new w2 _ _) sizeFau rfl (all3 rfl rfl rfl) ?_; intro w3 HV3 hg3; have hb3 : Below w2.heap.size w2 w3 := (jlow _ _).trans (jbelow hg3.out (jlow _ _).size (fun g e => by cases e; exact Nat.le_refl _)); have HB3 := qa0 (jtwo HB2.out hb3); have c0 := cell_kept HS2.out.1 hb3; have c1 := cell_kept HS2.out.2.1 hb3; have c2 := cell_kept HS2.out.2.2.1 hb3; have c3 := cell_kept HS2.out.2.2.2 hb3; have m0 := HV3.out.cell 0 _ rfl; have m1 := HV3.out.cell 1 _ rfl; have m2 := HV3.out.cell 2 _ rfl; clear hg3 hb3))
 go_ret
 exact ⟨rfl, HB3.out⟩
open Go.RowKit Go.Shelf Go.Maps
/-- An expression whose nodes are Go's, as far down as one looks. -/
def XG (T : Xt) : Prop := ∀ e, ∃ w b o, XA e w b o T
theorem XG.ok {T : Xt} (h : XG T) : LxOk (T []) := by
 obtain ⟨w, b, o, a, cap, _, _, _, _, _, _, hok, _⟩ := h 1
 exact hok
theorem XG.kid {T : Xt} (h : XG T) {i : Nat} (hi : i < (T []).len) : XG (Go.Proofs.YtemhodenkgngmaaDoor.kid T i) := fun e => by
 obtain ⟨w, b, o, a, cap, _, _, _, _, _, _, _, hk⟩ := h (e + 1)
 obtain ⟨b', o', _, hx⟩ := hk i hi
 exact ⟨w, b', _, hx⟩
theorem XL.xg {w : World} {a : Option Addr} {n : Nat} {F : Nat → Xt} (h : ∀ d, XL d w a n F) {i : Nat} (hi : i < n) : XG (F i) := fun e => by
 obtain ⟨b, o, _, hx⟩ := h e i hi
 exact ⟨w, b, _, hx⟩
theorem qbg {f : Xt → List Us} {F : Nat → Xt} {u : Us} : ∀ {n : Nat}, u ∈ xcat f F n → ∃ i, i < n ∧ u ∈ f (F i) := by
 intro n
 induction n with
 | zero => intro h; cases h
 | succ n ih =>
  intro h
  rcases List.mem_append.1 h with h | h
  ·obtain ⟨i, hi, hu⟩ := ih h
   exact ⟨i, by omega, hu⟩
  ·exact ⟨n, by omega, h⟩
theorem xus_sz : ∀ (d : Nat) (T : Xt), LxOk (T []) → (∀ i, i < (T []).len → XG (kid T i)) → ∀ u ∈ xus d T, u.nm.size ≤ 140737488351232 := by
 intro d
 induction d with
 | zero =>
  intro T h1 _ u hu
  unfold xus at hu
  split at hu
  ·rw [List.mem_singleton.1 hu]; exact h1.nm47
  ·cases hu
 | succ d ih =>
  intro T h1 h2 u hu
  unfold xus at hu
  split at hu
  ·rw [List.mem_singleton.1 hu]; exact h1.nm47
  ·obtain ⟨i, hi, hu⟩ := qbg hu
   exact ih _ (h2 i hi).ok (fun q hq => (h2 i hi).kid hq) u hu
theorem XG.sz {T : Xt} (h : XG T) {d : Nat} : ∀ u ∈ xus d T, u.nm.size ≤ 140737488351232 := xus_sz d T h.ok (fun _ hi => h.kid hi)
theorem XV.sz {w : World} {v : Value} {T : Xt} (h : XV w v T) {d : Nat} : ∀ u ∈ xus d T, u.nm.size ≤ 140737488351232 := by
 obtain ⟨⟨a, cap, _, hl⟩, hok⟩ := h
 exact xus_sz d T hok (fun _ hi => XL.xg hl hi)
/-- A shape whose nodes are Go's. -/
structure SG (S : St) : Prop where
 ok : LsOk (S [])
 args : ∀ i, i < (S []).na → XG ((S []).args i)
 rows : ∀ i, i < (S []).nr → ∀ q, q < (S []).rl i → XG ((S []).rows i q)
theorem XR.xg {w : World} {a : Option Addr} {n : Nat} {len : Nat → Nat} {F : Nat → Nat → Xt} (h : XR w a n len F) {i : Nat} (hi : i < n) {q : Nat} (hq : q < len i) : XG (F i q) := by
 obtain ⟨b, o, a', c, _, _, hx⟩ := h i hi
 exact XL.xg hx hq
theorem qea {len : Nat → Nat} {F : Nat → Nat → Xt} {u : Us} : ∀ {n : Nat}, u ∈ rcat len F n → ∃ i q, i < n ∧ q < len i ∧ u ∈ xus 16 (F i q) := by
 intro n
 induction n with
 | zero => intro h; cases h
 | succ n ih =>
  intro h
  rcases List.mem_append.1 h with h | h
  ·obtain ⟨i, q, hi, hu⟩ := ih h
   exact ⟨i, q, by omega, hu⟩
  ·obtain ⟨q, hq, hu⟩ := qbg h
   exact ⟨n, q, by omega, hq, hu⟩
theorem scat_mem {f : St → List Us} {F : Nat → St} {u : Us} : ∀ {n : Nat}, u ∈ scat f F n → ∃ i, i < n ∧ u ∈ f (F i) := by
 intro n
 induction n with
 | zero => intro h; cases h
 | succ n ih =>
  intro h
  rcases List.mem_append.1 h with h | h
  ·obtain ⟨i, hi, hu⟩ := ih h
   exact ⟨i, by omega, hu⟩
  ·exact ⟨n, by omega, h⟩
def SH (S : St) : Prop := ∀ e, ∃ w b o, SA e w b o S
theorem SH.sg {S : St} (h : SH S) : SG S := by
 obtain ⟨w, b, o, aa, pa, ra, ca, cp, cr, _, _, _, _, _, _, _, hok, ha, hr, _⟩ := h 1
 exact ⟨hok, fun i hi => XL.xg ha hi, fun i hi q hq => hr.xg hi hq⟩
theorem SH.part {S : St} (h : SH S) {i : Nat} (hi : i < (S []).np) : SH (Go.Proofs.YtemhodenkgngmaaDoor.part S i) := fun e => by
 obtain ⟨w, b, o, aa, pa, ra, ca, cp, cr, _, _, _, _, _, _, _, _, _, _, hp⟩ := h (e + 1)
 obtain ⟨b', o', _, hx⟩ := hp i hi
 exact ⟨w, b', _, hx⟩
theorem sus_sz : ∀ (d : Nat) (S : St), SG S → (∀ i, i < (S []).np → SH (part S i)) → ∀ u ∈ sus d S, u.nm.size ≤ 140737488351232 := by
 intro d
 induction d with
 | zero =>
  intro S h1 _ u hu
  unfold sus at hu
  split at hu
  ·rw [List.mem_singleton.1 hu]; exact h1.ok.nm47
  ·rcases List.mem_append.1 hu with hu | hu
   ·obtain ⟨i, q, hi, hq, hu⟩ := qea hu
    exact (h1.rows i hi q hq).sz u hu
   ·obtain ⟨i, hi, hu⟩ := qbg hu
    exact (h1.args i hi).sz u hu
 | succ d ih =>
  intro S h1 h2 u hu
  unfold sus at hu
  split at hu
  ·rw [List.mem_singleton.1 hu]; exact h1.ok.nm47
  ·rcases List.mem_append.1 hu with hu | hu
   ·obtain ⟨i, hi, hu⟩ := scat_mem hu
    exact ih _ (h2 i hi).sg (fun q hq => (h2 i hi).part hq) u hu
   ·rcases List.mem_append.1 hu with hu | hu
    ·obtain ⟨i, q, hi, hq, hu⟩ := qea hu
     exact (h1.rows i hi q hq).sz u hu
    ·obtain ⟨i, hi, hu⟩ := qbg hu
     exact (h1.args i hi).sz u hu
theorem SV.sz {w : World} {v : Value} {S : St} (h : SV w v S) {d : Nat} : ∀ u ∈ sus d S, u.nm.size ≤ 140737488351232 := by
 obtain ⟨⟨aa, pa, ra, ca, cp, cr, _, ha, hr, hp⟩, hok⟩ := h
 exact sus_sz d S ⟨hok, fun i hi => XL.xg ha hi, fun i hi q hq => hr.xg hi hq⟩ (fun i hi e => by
  obtain ⟨b, o, _, hx⟩ := hp e i hi
  exact ⟨w, b, _, hx⟩)
/-- The names of an item are Go's. -/
theorem ius_sz {w : World} {v v' : Value} {la : Option Addr} {k pl nl : Nat} {nm : ByteArray} {X : Xt} {S : St} {G : Nat → Xt} {ln cl : Int} (hX : XV w v X) (hS : SV w v' S) (hG : ∀ d, XL d w la nl G) (hn : nm.size ≤ 140737488351232) : ∀ (j : Nat) (u : Us), (ius ⟨k, nm, X, S, pl, nl, G, ln, cl⟩)[j]? = some u → u.nm.size ≤ 140737488351232 := by
 intro j u h
 have hm := List.mem_of_getElem? h
 unfold ius at hm
 split at hm
 ·rw [List.mem_singleton.1 hm]; exact hn
 ·rcases List.mem_append.1 hm with hm | hm
  ·exact hX.sz u hm
  ·rcases List.mem_append.1 hm with hm | hm
   ·exact hS.sz u hm
   ·obtain ⟨i, hi, hu⟩ := qbg hm
    exact (XL.xg hG hi).sz u hu
theorem MS.dps : ∀ {d : Nat} {S : St}, MS d S → Go.Proofs.YtemhodenkgngmaaDoor.dps d S := by
 intro d
 induction d with
 | zero => intro S h; (obtain ⟨left, _, h⟩ := h; have : sleft 0 S left = -1 := rfl; omega)
 | succ d ih =>
  intro S h
  obtain ⟨_, h1, h2, h3⟩ := h.parts
  exact ⟨fun i hi => ih (h3 i hi), fun i hi => (h1 i hi).dpx, fun i hi q hq => ((h2 i hi).2.2 q hq).dpx⟩
theorem ZS.dps {S : St} (h : ZS S) : Go.Proofs.YtemhodenkgngmaaDoor.dps 16 S := ⟨fun i hi => by have := h.2.2.2.2; omega, fun i hi => by have := h.2.2.1; omega, fun i hi => by have := h.2.2.2.1; omega⟩
theorem MI.dpi {I : It} (h : MI I) : Go.Proofs.YtemhodenkgngmaaDoor.dpi I := by
 rcases h with ⟨_, _, _, h1, h2, h3⟩ | ⟨_, _, _, h1, h2, h3⟩ | ⟨_, _, _, h1, h2, h3⟩ | ⟨_, _, _, h1, h2, h3⟩ | ⟨_, _, _, h1, h2, h3⟩ | ⟨_, _, _, h1, h2, h3⟩ | ⟨_, _, _, h1, h2, h3⟩ | ⟨_, _, _, h1, h2, h3⟩ | ⟨_, _, _, h1, h2, h3⟩
 ·exact ⟨h1.dpx, h2.dps, fun i hi => by omega⟩
 ·exact ⟨qb7 h1.2.2.2, h2.dps, fun i hi => by omega⟩
 ·exact ⟨qb7 h1.2.2.2, h2.dps, fun i hi => by omega⟩
 ·exact ⟨h1.dpx, h2.dps, fun i hi => by omega⟩
 ·exact ⟨h1.dpx, h2.dps, fun i hi => by omega⟩
 ·exact ⟨qb7 h1.2.2.2, h2.dps, fun i hi => by omega⟩
 ·exact ⟨qb7 h1.2.2.2, h2.dps, fun i hi => by omega⟩
 ·exact ⟨h1.dpx, h2.dps, fun i hi => by omega⟩
 ·exact ⟨qb7 h1.2.2.2, h2.dps, fun i hi => (h3.2 i hi).dpx⟩
/-- The kind of a name in a table. -/
def skd : List Sy → ByteArray → Option Nat
 | [], _ => none
 | y :: L, s => if sbq y.nm s then some y.k else skd L s
theorem Mk.lt {w : World} {b n : Nat} {E : ByteArray → Option Nat} (h : Mk w b n E) : b < w.heap.size := by
 obtain ⟨D, h1, _⟩ := h
 exact h1.lt
theorem Sw.lower {w : World} {B C : Nat} {v : Value} {L : List Sy} (h : Sw w B v L) (hc : C ≤ B) : Sw w C v L := by
 refine ⟨h.1, ?_⟩
 rcases h.2 with h | ⟨g, cap, cur, e, hB, hr⟩
 ·exact .inl h
 ·exact .inr ⟨g, cap, cur, e, by omega, hr⟩
/-- What a table comes to: the first fault, or the symbols. -/
abbrev Tr := Except (Int × Int × Int) (List Sy)
/-- The symbol that an item makes, and its fault. -/
def mdk (I : It) (T : List Sy) : Vt := if I.k = 1 then evl (fun i => (cst (fun j => T.getD j sy0) T.length).getD i cn0) (cst (fun j => T.getD j sy0) T.length).length I.val else ⟨0, 0, 0, 0⟩
/-- One item more. -/
def stp (i : Nat) (I : It) (T : List Sy) : Tr :=
 if wfl (skd T) (ius I) ≠ (0, 0, 0) then .error ((wfl (skd T) (ius I)).1, (wfl (skd T) (ius I)).2.1, (wfl (skd T) (ius I)).2.2)
 else if (mdk I T).c ≠ 0 then .error ((mdk I T).c, (mdk I T).ln, (mdk I T).cl)
 else if I.k = 1 ∨ I.k = 2 then (if (skd T I.nm).isSome then .error (130, I.ln, I.cl) else .ok (T ++ [⟨I.nm, I.k, i, (mdk I T).v⟩]))
 else .ok T
open Go.RowKit Go.Shelf Go.Maps
theorem qd5 {F : Nat → It} {k n : Nat} (h : mayD F n = true) (hk : k ≤ n) : mayD F k = true := by
 unfold mayD at h ⊢
 simp only [Bool.and_eq_true, decide_eq_true_eq] at h ⊢
 exact ⟨by omega, qc0 (by omega) h.2 k hk⟩
end Go.Proofs.YtemhodenkgngmaaDoor
