/-
  Stage 12: Eval, of the program.
  Stage 12: environments that came in; what quotients and rests are.
  Stage 13: symbols in memory; Look, of the program and of the reference.
  Stage 13: Env, of the program and of the reference.
  Stage 13: the reference's Env.
-/
import Derived.Test.YtemhodenkgngmaaDoorQuues00
import Derived.Test.YtemhodenkgngmaaDoorQuues21
import Derived.Test.YtemhodenkgngmaaDoorQuues22
set_option maxRecDepth 100000
set_option maxHeartbeats 16000000
namespace Go.Proofs.YtemhodenkgngmaaDoor
open Go.RowKit Go.Maps
/-- What Eval answers. -/
def evl (F : Nat → Cn) (n : Nat) (T : Xt) : Vt := if mayE F n = true then (if mayX T = true then xval (elk F n) 16 T else ⟨0, 2, 0, 0⟩) else ⟨0, 2, 0, 0⟩
def vtV (V : Vt) : Value := .tuple #[.int .i64 V.v, .agg #[.int .i64 (V.c : Int), .int .i64 V.ln, .int .i64 V.cl]]
theorem eval_any (w : World) (T : Xt) (v : Value) (ea : Option Addr) (en ec : Nat) (F : Nat → Cn) (hX : XV w v T) (hE : EL w ea en F) (hn : en ≤ 140737488351232) (hw : Wt9 w) :
  Calls Tryd.prog 33 #[v, .slice ea en ec] w fun e w' => e = .returned (vtV (evl F en T)) ∧ Below w.heap.size w w' := by
 unfold vtV evl
 have HMx : Hid (∀ w' : World, Below w.heap.size w w' → Calls Tryd.prog 56 #[v] w' fun e w'' => e = .returned (.bool (mayX T)) ∧ Below w'.heap.size w' w'') := fun w' hb => tmayx w' T v (hX.later hb) (hw.later hb)
 have HBy : Hid (∀ w' : World, Below w.heap.size w w' → Calls Tryd.prog 55 #[.slice ea en ec] w' fun e w'' => BnA w'' F en e ∧ Below w'.heap.size w' w'') := fun w' hb => qeh w' ea en ec F (hE.later hb) hn (hw.later hb)
 have HWo : Hid (∀ (w' : World) (b : Nat), mayX T = true → Below w.heap.size w w' → Mp w' b en (elk F en) → Calls Tryd.prog 57 #[v, .map (some b)] w' fun e w'' => e = .returned (.tuple #[.int .i64 (xval (elk F en) 16 T).v, .agg #[.int .i64 ((xval (elk F en) 16 T).c : Int), .int .i64 (xval (elk F en) 16 T).ln, .int .i64 (xval (elk F en) 16 T).cl]]) ∧ Below w'.heap.size w' w'') := fun w' b hm hb hp => qfe 16 w' T v b en _ (hX.later hb) (mayX_mx hm) hp
 obtain ⟨⟨a, cap, rfl, _⟩, _⟩ := hX
 clear hE hw
 generalize xval (elk F en) 16 T = V at *
 generalize mayX T = mx at *
 generalize T [] = l at *
 obtain ⟨k, n, nm, len, ln, cl⟩ := l
 dsimp only at HMx HWo ⊢
 have HX := qa0 (Vn.new w 53 #[.int .u8 (k : Int), .int .i64 n, .string nm, .slice a len cap, .int .i64 ln, .int .i64 cl])
 have HX2 := qa0 (HX.out.later (jlow _ (.cells #[.int .i64 0, .int .i64 0, .int .i64 0] 26)))
 have HVt := qa0 (Vn.new (w.alloc (.cells #[.int .u8 (k : Int), .int .i64 n, .string nm, .slice a len cap, .int .i64 ln, .int .i64 cl] 53)) 26 #[.int .i64 0, .int .i64 0, .int .i64 0])
 have HB := qa0 (jtwo (jlow w (.cells #[.int .u8 (k : Int), .int .i64 n, .string nm, .slice a len cap, .int .i64 ln, .int .i64 cl] 53)) (jlow _ (.cells #[.int .i64 0, .int .i64 0, .int .i64 0] 26)))
 rw [qab] at HVt
 have c0 := HX2.out.cell 0 _ rfl
 have c1 := HX2.out.cell 1 _ rfl
 have c2 := HX2.out.cell 2 _ rfl
 have c3 := HX2.out.cell 3 _ rfl
 have c4 := HX2.out.cell 4 _ rfl
 have c5 := HX2.out.cell 5 _ rfl
 clear HX
 cases hme : mayE F en with
 | false =>
  rw [if_neg (by decide)]
  have HBy : Hid (∀ w' : World, Below w.heap.size w w' → Calls Tryd.prog 55 #[.slice ea en ec] w' fun e w'' => e = .returned (.tuple #[.map none, .bool false]) ∧ Below w'.heap.size w' w'') := fun w' hb => (HBy.out w' hb).mono (fun e w'' h => by
   rcases h.1 with ⟨g, _⟩ | ⟨_, g⟩
   ·rw [hme] at g
    cases g
   ·exact ⟨g, h.2⟩)
  clear HMx HWo hme
  go_enter Tryd.func33, Tryd.ntmps33
  go_wp2_with (first
   | (go_at_call 55; refine (HBy.out _ HB.out).mono ?_; rintro e w1 ⟨rfl, hb1⟩; have HB1 := qa0 (jtwo HB.out hb1); have HV1 := qa0 (HVt.out.later hb1); have HX1 := qa0 (HX2.out.later hb1); have y0 := HX1.out.cell 0 _ rfl; have y1 := HX1.out.cell 1 _ rfl; have y2 := HX1.out.cell 2 _ rfl; have y3 := HX1.out.cell 3 _ rfl; have y4 := HX1.out.cell 4 _ rfl; have y5 := HX1.out.cell 5 _ rfl; clear hb1)
   | (refine qa1 rfl 26 _ _ rfl (w.heap.size + 1) _ #[.int .i64 2, .int .i64 0, .int .i64 0] rfl rfl HV1.out sizeFau rfl (all3 rfl rfl rfl) ?_; intro w8 HV8 hg8))
  have d0 := HV8.out.cell 0 _ rfl
  have d1 := HV8.out.cell 1 _ rfl
  have d2 := HV8.out.cell 2 _ rfl
  refine bodyPost_ret (v := .tuple #[.int .i64 0, .agg #[.int .i64 2, .int .i64 0, .int .i64 0]]) (by simp [results, Tryd.results33, go_sem, d0, d1, d2]) rfl ?_
  exact ⟨rfl, HB1.out.trans (jbelow hg8.out HB1.out.size (fun g e => by cases e; omega))⟩
 | true =>
  rw [if_pos rfl]
  have HBy : Hid (∀ w' : World, Below w.heap.size w w' → Calls Tryd.prog 55 #[.slice ea en ec] w' fun e w'' => (∃ b, e = .returned (.tuple #[.map (some b), .bool true]) ∧ Mp w'' b en (elk F en)) ∧ Below w'.heap.size w' w'') := fun w' hb => (HBy.out w' hb).mono (fun e w'' h => by
   rcases h.1 with ⟨_, g⟩ | ⟨g, _⟩
   ·exact ⟨g, h.2⟩
   ·rw [hme] at g
    cases g)
  clear hme
  cases mx with
  | false =>
   rw [if_neg (by decide)]
   clear HWo
   go_enter Tryd.func33, Tryd.ntmps33
   go_wp2_with (first
    | (go_at_call 55; refine (HBy.out _ HB.out).mono ?_; rintro e w1 ⟨⟨bm, rfl, hp⟩, hb1⟩; have HP1 := qa0 hp; clear hp; have HB1 := qa0 (jtwo HB.out hb1); have HV1 := qa0 (HVt.out.later hb1); have HX1 := qa0 (HX2.out.later hb1); have y0 := HX1.out.cell 0 _ rfl; have y1 := HX1.out.cell 1 _ rfl; have y2 := HX1.out.cell 2 _ rfl; have y3 := HX1.out.cell 3 _ rfl; have y4 := HX1.out.cell 4 _ rfl; have y5 := HX1.out.cell 5 _ rfl; clear hb1)
    | (go_at_call 56; refine (HMx.out _ HB1.out).mono ?_; rintro e w2 ⟨rfl, hb2⟩; have HB2 := qa0 (jtwo HB1.out hb2); have HV2 := qa0 (HV1.out.later hb2); have HX2b := qa0 (HX1.out.later hb2); have z0 := HX2b.out.cell 0 _ rfl; have z1 := HX2b.out.cell 1 _ rfl; have z2 := HX2b.out.cell 2 _ rfl; have z3 := HX2b.out.cell 3 _ rfl; have z4 := HX2b.out.cell 4 _ rfl; have z5 := HX2b.out.cell 5 _ rfl; clear hb2)
    | (refine qa1 rfl 26 _ _ rfl (w.heap.size + 1) _ #[.int .i64 2, .int .i64 0, .int .i64 0] rfl rfl HV2.out sizeFau rfl (all3 rfl rfl rfl) ?_; intro w8 HV8 hg8))
   have d0 := HV8.out.cell 0 _ rfl
   have d1 := HV8.out.cell 1 _ rfl
   have d2 := HV8.out.cell 2 _ rfl
   refine bodyPost_ret (v := .tuple #[.int .i64 0, .agg #[.int .i64 2, .int .i64 0, .int .i64 0]]) (by simp [results, Tryd.results33, go_sem, d0, d1, d2]) rfl ?_
   exact ⟨rfl, HB2.out.trans (jbelow hg8.out HB2.out.size (fun g e => by cases e; omega))⟩
  | true =>
   rw [if_pos rfl]
   have HWp : Hid (∀ (w' : World) (b : Nat), Below w.heap.size w w' → Mp w' b en (elk F en) → Calls Tryd.prog 57 #[.agg #[.int .u8 (k : Int), .int .i64 n, .string nm, .slice a len cap, .int .i64 ln, .int .i64 cl], .map (some b)] w' fun e w'' => e = .returned (.tuple #[.int .i64 V.v, .agg #[.int .i64 (V.c : Int), .int .i64 V.ln, .int .i64 V.cl]]) ∧ Below w'.heap.size w' w'') := fun w' b hb hp => HWo.out w' b rfl hb hp
   clear HWo
   obtain ⟨vv, vc, vl, vk⟩ := V
   dsimp only at HWp ⊢
   go_enter Tryd.func33, Tryd.ntmps33
   go_wp2_with (first
    | (go_at_call 55; refine (HBy.out _ HB.out).mono ?_; rintro e w1 ⟨⟨bm, rfl, hp⟩, hb1⟩; have HP1 := qa0 hp; clear hp; have HB1 := qa0 (jtwo HB.out hb1); have HV1 := qa0 (HVt.out.later hb1); have HX1 := qa0 (HX2.out.later hb1); have y0 := HX1.out.cell 0 _ rfl; have y1 := HX1.out.cell 1 _ rfl; have y2 := HX1.out.cell 2 _ rfl; have y3 := HX1.out.cell 3 _ rfl; have y4 := HX1.out.cell 4 _ rfl; have y5 := HX1.out.cell 5 _ rfl; clear hb1)
    | (go_at_call 56; refine (HMx.out _ HB1.out).mono ?_; rintro e w2 ⟨rfl, hb2⟩; have HB2 := qa0 (jtwo HB1.out hb2); have HV2 := qa0 (HV1.out.later hb2); have HX2b := qa0 (HX1.out.later hb2); have z0 := HX2b.out.cell 0 _ rfl; have z1 := HX2b.out.cell 1 _ rfl; have z2 := HX2b.out.cell 2 _ rfl; have z3 := HX2b.out.cell 3 _ rfl; have z4 := HX2b.out.cell 4 _ rfl; have z5 := HX2b.out.cell 5 _ rfl; have HP2 := qa0 (HP1.out.later hb2); clear hb2)
    | (go_at_call 57; refine (HWp.out _ _ HB2.out HP2.out).mono ?_; rintro e w3 ⟨rfl, hb3⟩; have HB3 := qa0 (jtwo HB2.out hb3); have HV3 := qa0 (HV2.out.later hb3); clear hb3)
    | (refine qa1 rfl 26 _ _ rfl (w.heap.size + 1) _ #[.int .i64 (vc : Int), .int .i64 vl, .int .i64 vk] rfl rfl HV3.out sizeFau rfl (all3 rfl rfl rfl) ?_; intro w8 HV8 hg8))
   have d0 := HV8.out.cell 0 _ rfl
   have d1 := HV8.out.cell 1 _ rfl
   have d2 := HV8.out.cell 2 _ rfl
   refine bodyPost_ret (v := .tuple #[.int .i64 vv, .agg #[.int .i64 (vc : Int), .int .i64 vl, .int .i64 vk]]) (by simp [results, Tryd.results33, go_sem, d0, d1, d2]) rfl ?_
   exact ⟨rfl, HB3.out.trans (jbelow hg8.out HB3.out.size (fun g e => by cases e; omega))⟩
open Go.RowKit Go.ChangeShapes Go.WideShapes
/-- A symbol. -/
structure Sy where
 nm : ByteArray
 k : Nat
 it : Int
 n : Int
structure SyOk (s : Sy) : Prop where
 nm47 : s.nm.size ≤ 140737488351232
 k8 : s.k < 256
 i1 : -9223372036854775808 ≤ s.it
 i2 : s.it ≤ 9223372036854775807
 n1 : -9223372036854775808 ≤ s.n
 n2 : s.n ≤ 9223372036854775807
/-- Symbols lie at a slice's address. -/
def SyL (w : World) (a : Option Addr) (n : Nat) (F : Nat → Sy) : Prop := ∀ i, i < n → SyOk (F i) ∧ ∃ b o, a = some ⟨b, o, none⟩ ∧ w.cell? ⟨b, o + i * 4, none⟩ = some (.string (F i).nm) ∧ w.cell? ⟨b, o + i * 4 + 1, none⟩ = some (.int .u8 ((F i).k : Int)) ∧ w.cell? ⟨b, o + i * 4 + 2, none⟩ = some (.int .i64 (F i).it) ∧ w.cell? ⟨b, o + i * 4 + 3, none⟩ = some (.int .i64 (F i).n)
theorem SyL.later {w w' : World} {a : Option Addr} {n : Nat} {F : Nat → Sy} (h : SyL w a n F) (hb : Below w.heap.size w w') : SyL w' a n F := fun i hi => by
 obtain ⟨ok, b, o, e, h0, h1, h2, h3⟩ := h i hi
 exact ⟨ok, b, o, e, cell_kept h0 hb, cell_kept h1 hb, cell_kept h2 hb, cell_kept h3 hb⟩
theorem sizeSy : (Tryd.prog.info? 35).map (·.size) = some 4 := by kernel_rfl
theorem qff {x y z u : Value} (h0 : x.oneCell' = true) (h1 : y.oneCell' = true) (h2 : z.oneCell' = true) (h3 : u.oneCell' = true) : (#[x, y, z, u] : Array Value).all (·.oneCell') = true := by simp [h0, h1, h2, h3]
def sy0 : Sy := ⟨⟨#[]⟩, 0, 0, 0⟩
open Go.RowKit
/-- The cells of some constants. -/
def crow (L : List Cn) : List Value := L.flatMap (fun c => [.string c.nm, .int .i64 c.n])
theorem crow_app (L M : List Cn) : crow (L ++ M) = crow L ++ crow M := by unfold crow; rw [List.flatMap_append]
theorem crow_get : ∀ (L : List Cn) (i : Nat) (c : Cn), L[i]? = some c → (crow L)[i * 2]? = some (.string c.nm) ∧ (crow L)[i * 2 + 1]? = some (.int .i64 c.n) := by
 intro L
 induction L with
 | nil => intro i c h; cases h
 | cons x L ih =>
  intro i c h
  cases i with
  | zero => cases h; exact ⟨rfl, rfl⟩
  | succ i =>
   have h2 : L[i]? = some c := by simpa using h
   obtain ⟨h3, h4⟩ := ih i c h2
   have e : (i + 1) * 2 = i * 2 + 1 + 1 := by omega
   rw [e]
   exact ⟨h3, h4⟩
/-- A list of constants of the call's own. -/
def Cw (w : World) (B : Nat) (v : Value) (L : List Cn) : Prop := w.ownsRow B 42 2 v L.length (crow L)
theorem Cw.nil (w : World) (B : Nat) : Cw w B (.slice none 0 0) [] := World.ownsRow_nil _ _ _ _
theorem Cw.later {w w' : World} {B : Nat} {v : Value} {L : List Cn} (h : Cw w B v L) (hb : Below w.heap.size w w') : Cw w' B v L := World.ownsRow.kept h (jgrown.mpr hb) (by cases hv : v.ownBlock <;> simp)
theorem Cw.kept {w w' : World} {B : Nat} {v : Value} {L : List Cn} {row : Option Nat} (h : Cw w B v L) (hg : w.grownBy w' row) (hne : v.ownBlock = none ∨ v.ownBlock ≠ row) : Cw w' B v L := World.ownsRow.kept h hg hne
theorem Cw.form {w : World} {B : Nat} {v : Value} {L : List Cn} (h : Cw w B v L) : ∃ a d, v = .slice a L.length d ∧ (a = none → L.length = 0 ∧ d = 0) := by
 rcases h.2 with ⟨e, h0⟩ | ⟨g, cap, cur, e, _⟩
 ·exact ⟨none, 0, by rw [e, h0], fun _ => ⟨h0, rfl⟩⟩
 ·exact ⟨_, _, e, fun x => by cases x⟩
theorem Cw.base {w : World} {B : Nat} {v : Value} {L : List Cn} (h : Cw w B v L) {g : Nat} (hg : v.ownBlock = some g) : B ≤ g ∧ g < w.heap.size := by
 rcases h.2 with ⟨e, _⟩ | ⟨g', cap, cur, e, hB, hb, _⟩
 ·rw [e] at hg; simp [Value.ownBlock] at hg
 ·rw [e] at hg; simp [Value.ownBlock] at hg; subst hg; exact ⟨hB, lt_of_block hb⟩
theorem Cw.push {w : World} {B : Nat} {v : Value} {L : List Cn} {c : Cn} (h : w.ownsRow B 42 2 v (L.length + 1) (crow L ++ [.string c.nm, .int .i64 c.n])) : Cw w B v (L ++ [c]) := by
 unfold Cw
 rw [crow_app, List.length_append]
 exact h
def cn0 : Cn := ⟨⟨#[]⟩, 0⟩
/-- Such a list, read. -/
theorem Cw.el {w : World} {B : Nat} {a : Option Addr} {n d : Nat} {L : List Cn} (h : Cw w B (.slice a n d) L) (hok : ∀ c ∈ L, CnOk c) : n = L.length ∧ EL w a L.length (fun i => L.getD i cn0) := by
 obtain ⟨a', d', e, hz⟩ := h.form
 obtain ⟨rfl, rfl, rfl⟩ : a = a' ∧ n = L.length ∧ d = d' := by cases e; exact ⟨rfl, rfl, rfl⟩
 refine ⟨rfl, fun i hi => ?_⟩
 have hg : L[i]? = some (L.getD i cn0) := by rw [List.getD_eq_getElem?_getD, List.getElem?_eq_getElem hi]; rfl
 obtain ⟨h0, h1⟩ := crow_get L i _ hg
 cases ha : a with
 | none => rw [ha] at hz; have := (hz rfl).1; omega
 | some x =>
  rw [ha] at h
  have hb : ∃ g, x = ⟨g, 0, none⟩ := by
   rcases h.2 with ⟨e, _⟩ | ⟨g, cap, cur, e, _⟩
   ·cases e
   ·cases e; exact ⟨g, rfl⟩
  obtain ⟨g, rfl⟩ := hb
  have hc : ∀ j u, (crow L)[j]? = some u → w.cell? ((⟨g, 0, none⟩ : Addr).add j) = some u := World.ownsRow.cells h (g := g) rfl
  refine ⟨hok _ (List.mem_of_getElem? hg), g, 0, rfl, ?_, ?_⟩
  ·have := hc _ _ h0
   rw [show (⟨g, 0, none⟩ : Addr).add (i * 2) = ⟨g, 0 + i * 2, none⟩ by unfold Addr.add; split <;> simp_all] at this
   exact this
  ·have := hc _ _ h1
   rw [show (⟨g, 0, none⟩ : Addr).add (i * 2 + 1) = ⟨g, 0 + i * 2 + 1, none⟩ by unfold Addr.add; split <;> simp_all] at this
   exact this
/-- The constants among the first n symbols. -/
def cst (F : Nat → Sy) : Nat → List Cn
 | 0 => []
 | n + 1 => cst F n ++ (if (F n).k = 1 then [⟨(F n).nm, (F n).n⟩] else [])
theorem cst_len (F : Nat → Sy) : ∀ n, (cst F n).length ≤ n := by
 intro n
 induction n with
 | zero => exact Nat.le_refl _
 | succ n ih =>
  show (cst F n ++ _).length ≤ _
  rw [List.length_append]
  split
  ·show _ + 1 ≤ _; omega
  ·show _ + 0 ≤ _; omega
theorem cst_ok {F : Nat → Sy} : ∀ n, (∀ i, i < n → SyOk (F i)) → ∀ c ∈ cst F n, CnOk c := by
 intro n
 induction n with
 | zero => intro _ c h; cases h
 | succ n ih =>
  intro hF c h
  rcases List.mem_append.1 h with h | h
  ·exact ih (fun i hi => hF i (by omega)) c h
  ·split at h
   ·have ok := hF n (by omega)
    rw [List.mem_singleton.1 h]
    exact ⟨ok.nm47, ok.n1, ok.n2⟩
   ·cases h
theorem jcnst : (Tryd.prog.info? 42).map (fun i => (i.zero, i.size, i.bytes)) = some (some (.agg #[.string ⟨#[]⟩, .int .i64 0]), 2, 24) := by kernel_rfl
/-- The program's Env. -/
theorem penv (w : World) (a : Option Addr) (n c : Nat) (F : Nat → Sy) (hF : SyL w a n F) (hn : n ≤ 4000000000000) :
  Calls Tryd.prog 15 #[.slice a n c] w fun e w' => (∃ v, e = .returned v ∧ Cw w' w.heap.size v (cst F n)) ∧ Below w.heap.size w w' := by
 have HF := qa0 hF
 obtain ⟨i0, hi0, hz0, hz1, hz2⟩ := info_parts jcnst
 clear hF
 go_enter Tryd.func15, Tryd.ntmps15
 go_wp2
 go_loopw [3, 8] (fun v vi wr => ∃ (i : Nat) (L : List Cn), i ≤ n ∧ vi = .int .i64 (i : Int) ∧ Hid (cst F i = L) ∧ (∃ x d, v = .slice x L.length d) ∧ Cw wr w.heap.size v L ∧ L.length ≤ i ∧ Below w.heap.size w wr) (fun _ vi _ => n - (intOf vi).toNat)
 case atStart => exact ⟨0, [], by omega, rfl, rfl, ⟨none, 0, rfl⟩, Cw.nil _ _, Nat.le_refl _, Below.refl _ _⟩
 case round =>
  obtain ⟨i, L, hi, rfl, HL, ⟨x, d, rfl⟩, hw, hlen, hb⟩ := hrel
  have HW := qa0 hw
  have HB := qa0 hb
  clear hw
  by_cases hlt : i < n
  ·have p0 : (0 : Int) ≤ (i : Int) := by omega
   have p1 : (i : Int) < (n : Int) := by omega
   obtain ⟨ok, b, o, rfl, t0, t1, t2, t3⟩ := (HF.out.later hb) i hlt
   obtain ⟨y, Hy⟩ : ∃ y, Hid (F i = y) := ⟨_, rfl⟩
   rw [Hy.out] at t0 t1 t2 t3
   obtain ⟨nm, k, it, nn⟩ := y
   dsimp only at t0 t1 t2 t3
   have M1 : True := trivial
   by_cases hk : k = 1
   ·have HL2 : Hid (cst F (i + 1) = L ++ [⟨nm, nn⟩]) := by
     show cst F i ++ (if (F i).k = 1 then _ else _) = _
     rw [HL.out, Hy.out, if_pos hk]
    have q0 : ((k : Int) == 1) = true := by simp; omega
    clear hk hb ok
    go_wp2_with (first
     | (clear M1; refine qa1 rfl 35 _ _ rfl wr.heap.size _ #[.string nm, .int .u8 (k : Int), .int .i64 it, .int .i64 nn] rfl rfl (Vn.new wr _ _) sizeSy rfl (qff rfl rfl rfl rfl) ?_; intro w2 HW2 hg2; have hb2 : Below wr.heap.size wr w2 := (jlow _ _).trans (jbelow hg2.out (jlow _ _).size (fun g e => by cases e; exact Nat.le_refl _)); have HB2 := qa0 (jtwo HB.out hb2); have HC2 := qa0 (HW.out.later hb2); have x0 := HW2.out.cell 0 _ rfl; have x1 := HW2.out.cell 1 _ rfl; have x2 := HW2.out.cell 2 _ rfl; have x3 := HW2.out.cell 3 _ rfl; clear hg2 hb2)
     | (at_builtin; refine wpList_append_own _ rfl _ _ 38 rfl w.heap.size 42 i0 (.agg #[.string ⟨#[]⟩, .int .i64 0]) 2 24 Tryd.underlying38 hi0 hz0 hz1 hz2 rfl (by decide) _ L.length _ rfl (HC2.out.later (jlow _ _)) ⟨w2.heap.size, 0, none⟩ 1 1 [.string nm, .int .i64 nn] rfl rfl (qb5 _ _ _) (by intro u hu; simp at hu; rcases hu with rfl | rfl <;> rfl) (by unfold maxLen; omega) (by omega) (by have := HB2.out.size; simp; omega) ?_; intro v' w6 hown' hgrow' _; have HT6 : Hid (Cw w6 w.heap.size v' (L ++ [⟨nm, nn⟩])) := Cw.push hown'; have HB6 : Hid (Below w.heap.size w w6) := (HB2.out.trans ((jlow _ _).mono HB2.out.size)).trans (jbelow hgrow' (by have := HB2.out.size; simp; omega) (fun g hg => (HC2.out.base hg).1)); clear hown' hgrow'))
    obtain ⟨x', d', rfl, _⟩ := HT6.out.form
    exact ⟨⟨i + 1, _, by omega, by go_num, HL2, ⟨x', d', rfl⟩, HT6.out, by rw [List.length_append]; show _ + 1 ≤ _; omega, HB6.out⟩, by simp [intOf]; omega⟩
   ·have HL2 : Hid (cst F (i + 1) = L) := by
     show cst F i ++ (if (F i).k = 1 then _ else _) = _
     rw [HL.out, Hy.out, if_neg hk, List.append_nil]
    have q0 : ((k : Int) == 1) = false := by simp; omega
    clear hk hb ok
    go_wp2_with (clear M1; refine qa1 rfl 35 _ _ rfl wr.heap.size _ #[.string nm, .int .u8 (k : Int), .int .i64 it, .int .i64 nn] rfl rfl (Vn.new wr _ _) sizeSy rfl (qff rfl rfl rfl rfl) ?_; intro w2 HW2 hg2; have hb2 : Below wr.heap.size wr w2 := (jlow _ _).trans (jbelow hg2.out (jlow _ _).size (fun g e => by cases e; exact Nat.le_refl _)); have HB2 := qa0 (jtwo HB.out hb2); have HC2 := qa0 (HW.out.later hb2); have x1 := HW2.out.cell 1 _ rfl; clear hg2 hb2)
    exact ⟨⟨i + 1, _, by omega, by go_num, HL2, ⟨x, d, rfl⟩, HC2.out, by omega, HB2.out⟩, by simp [intOf]; omega⟩
  ·obtain rfl : i = n := by omega
   clear hb
   go_wp2
   go_ret
   exact ⟨⟨_, rfl, by rw [HL.out]; exact HW.out⟩, HB.out⟩
end Go.Proofs.YtemhodenkgngmaaDoor
