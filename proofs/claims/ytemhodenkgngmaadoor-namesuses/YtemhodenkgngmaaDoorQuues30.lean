/-
  Stage 13: symbols in memory of the call's own; the item of the anchor.
  Stage 13: the table of the anchor.
-/
import Derived.Test.YtemhodenkgngmaaDoorQuues00
import Derived.Test.YtemhodenkgngmaaDoorQuues28
import Derived.Test.YtemhodenkgngmaaDoorQuues15
import Derived.Test.YtemhodenkgngmaaDoorQuues29
set_option maxRecDepth 100000
set_option maxHeartbeats 16000000
namespace Go.Proofs.YtemhodenkgngmaaDoor
open Go.RowKit Go.Shelf Go.Maps
/-- The cells of some symbols. -/
def srow (L : List Sy) : List Value := L.flatMap (fun s => [.string s.nm, .int .u8 (s.k : Int), .int .i64 s.it, .int .i64 s.n])
theorem srow_app (L M : List Sy) : srow (L ++ M) = srow L ++ srow M := by unfold srow; rw [List.flatMap_append]
theorem srow_get : ∀ (L : List Sy) (i : Nat) (c : Sy), L[i]? = some c → (srow L)[i * 4]? = some (.string c.nm) ∧ (srow L)[i * 4 + 1]? = some (.int .u8 (c.k : Int)) ∧ (srow L)[i * 4 + 2]? = some (.int .i64 c.it) ∧ (srow L)[i * 4 + 3]? = some (.int .i64 c.n) := by
 intro L
 induction L with
 | nil => intro i c h; cases h
 | cons x L ih =>
  intro i c h
  cases i with
  | zero => cases h; exact ⟨rfl, rfl, rfl, rfl⟩
  | succ i =>
   have h2 : L[i]? = some c := by simpa using h
   obtain ⟨h3, h4, h5, h6⟩ := ih i c h2
   have e : (i + 1) * 4 = i * 4 + 1 + 1 + 1 + 1 := by omega
   rw [e]
   exact ⟨h3, h4, h5, h6⟩
/-- A list of symbols of the call's own. -/
def Sw (w : World) (B : Nat) (v : Value) (L : List Sy) : Prop := w.ownsRow B 35 4 v L.length (srow L)
theorem Sw.nil (w : World) (B : Nat) : Sw w B (.slice none 0 0) [] := World.ownsRow_nil _ _ _ _
theorem Sw.later {w w' : World} {B : Nat} {v : Value} {L : List Sy} (h : Sw w B v L) (hb : Below w.heap.size w w') : Sw w' B v L := World.ownsRow.kept h (jgrown.mpr hb) (by cases hv : v.ownBlock <;> simp)
theorem Sw.kept {w w' : World} {B : Nat} {v : Value} {L : List Sy} {row : Option Nat} (h : Sw w B v L) (hg : w.grownBy w' row) (hne : v.ownBlock = none ∨ v.ownBlock ≠ row) : Sw w' B v L := World.ownsRow.kept h hg hne
theorem Sw.form {w : World} {B : Nat} {v : Value} {L : List Sy} (h : Sw w B v L) : ∃ a d, v = .slice a L.length d ∧ (a = none → L.length = 0 ∧ d = 0) := by
 rcases h.2 with ⟨e, h0⟩ | ⟨g, cap, cur, e, _⟩
 ·exact ⟨none, 0, by rw [e, h0], fun _ => ⟨h0, rfl⟩⟩
 ·exact ⟨_, _, e, fun x => by cases x⟩
theorem Sw.base {w : World} {B : Nat} {v : Value} {L : List Sy} (h : Sw w B v L) {g : Nat} (hg : v.ownBlock = some g) : B ≤ g ∧ g < w.heap.size := by
 rcases h.2 with ⟨e, _⟩ | ⟨g', cap, cur, e, hB, hb, _⟩
 ·rw [e] at hg; simp [Value.ownBlock] at hg
 ·rw [e] at hg; simp [Value.ownBlock] at hg; subst hg; exact ⟨hB, lt_of_block hb⟩
theorem Sw.push {w : World} {B : Nat} {v : Value} {L : List Sy} {c : Sy} (h : w.ownsRow B 35 4 v (L.length + 1) (srow L ++ [.string c.nm, .int .u8 (c.k : Int), .int .i64 c.it, .int .i64 c.n])) : Sw w B v (L ++ [c]) := by
 unfold Sw
 rw [srow_app, List.length_append]
 exact h
/-- Such a list, read. -/
theorem Sw.el {w : World} {B : Nat} {a : Option Addr} {n d : Nat} {L : List Sy} (h : Sw w B (.slice a n d) L) (hok : ∀ c ∈ L, SyOk c) : n = L.length ∧ SyL w a L.length (fun i => L.getD i sy0) := by
 obtain ⟨a', d', e, hz⟩ := h.form
 obtain ⟨rfl, rfl, rfl⟩ : a = a' ∧ n = L.length ∧ d = d' := by cases e; exact ⟨rfl, rfl, rfl⟩
 refine ⟨rfl, fun i hi => ?_⟩
 have hg : L[i]? = some (L.getD i sy0) := by rw [List.getD_eq_getElem?_getD, List.getElem?_eq_getElem hi]; rfl
 obtain ⟨h0, h1, h2, h3⟩ := srow_get L i _ hg
 cases ha : a with
 | none => rw [ha] at hz; have := (hz rfl).1; omega
 | some x =>
  rw [ha] at h
  have hb : ∃ g, x = ⟨g, 0, none⟩ := by
   rcases h.2 with ⟨e, _⟩ | ⟨g, cap, cur, e, _⟩
   ·cases e
   ·cases e; exact ⟨g, rfl⟩
  obtain ⟨g, rfl⟩ := hb
  have hc : ∀ j u, (srow L)[j]? = some u → w.cell? ((⟨g, 0, none⟩ : Addr).add j) = some u := World.ownsRow.cells h (g := g) rfl
  have ad : ∀ j, (⟨g, 0, none⟩ : Addr).add j = ⟨g, 0 + j, none⟩ := fun j => by unfold Addr.add; split <;> simp_all
  refine ⟨hok _ (List.mem_of_getElem? hg), g, 0, rfl, ?_, ?_, ?_, ?_⟩
  ·have := hc _ _ h0; rw [ad] at this; exact this
  ·have := hc _ _ h1; rw [ad] at this; exact this
  ·have := hc _ _ h2; rw [ad] at this; exact this
  ·have := hc _ _ h3; rw [ad] at this; exact this
theorem jsym : (Tryd.prog.info? 35).map (fun i => (i.zero, i.size, i.bytes)) = some (some (.agg #[.string ⟨#[]⟩, .int .u8 0, .int .i64 0, .int .i64 0]), 4, 40) := by kernel_rfl
theorem mkD_nil : MkD (.map []) (fun _ => none) := fun s hs => ⟨rfl, fun v hv => by cases hv⟩
/-- The number 2. -/
def x2 : Xt := fun _ => ⟨1, 2, ⟨#[]⟩, 0, 0, 0⟩
def i1 : It := ⟨1, ⟨#[97]⟩, x2, l0s, 0, 0, fun _ => l0x, 0, 0⟩
theorem xv2 (w : World) : XV w (.agg #[.int .u8 ((1 : Nat) : Int), .int .i64 2, .string ⟨#[]⟩, .slice none 0 0, .int .i64 0, .int .i64 0]) x2 := ⟨⟨none, 0, rfl, fun d i hi => absurd hi (Nat.not_lt_zero i)⟩, ⟨by show 1 < 256; omega, by show _ ≤ (2 : Int); omega, by show (2 : Int) ≤ _; omega, by show 0 ≤ _; omega, by show 0 ≤ _; omega⟩⟩
theorem sv0 (w : World) : SV w (.agg #[.int .u8 ((0 : Nat) : Int), .string ⟨#[]⟩, .slice none 0 0, .slice none 0 0, .slice none 0 0, .int .i64 0, .int .i64 0]) l0s := ⟨⟨none, none, none, 0, 0, 0, rfl, fun d i hi => absurd hi (Nat.not_lt_zero i), fun i hi => absurd hi (Nat.not_lt_zero i), fun d i hi => absurd hi (Nat.not_lt_zero i)⟩, ⟨by show 0 < 256; omega, by show 0 ≤ _; omega, by show 0 ≤ _; omega, by show 0 ≤ _; omega, by show 0 ≤ _; omega, fun i hi => absurd hi (Nat.not_lt_zero i)⟩⟩
theorem i1_may : mayD (fun _ => i1) 1 = true := by kernel_rfl
theorem i1_uses : ius i1 = [] := by kernel_rfl
theorem i1_dp : dpi i1 := ⟨qb7 rfl, ⟨fun i hi => absurd hi (Nat.not_lt_zero i), fun i hi => absurd hi (Nat.not_lt_zero i), fun i hi => absurd hi (Nat.not_lt_zero i)⟩, fun i hi => absurd hi (Nat.not_lt_zero i)⟩
theorem i1_val (F : Nat → Sy) : evl (fun i => (cst F 0).getD i cn0) (cst F 0).length x2 = ⟨2, 0, 0, 0⟩ := by
 show (if mayE _ 0 = true then (if mayX x2 = true then xval _ 16 x2 else _) else _) = _
 rw [if_pos (show mayE _ 0 = true from rfl), if_pos (by kernel_rfl)]
 rfl
theorem eql_sy13 : ∀ (s : ByteArray) (a1 a2 a3 : Int) (w : World), (binOp .eql 35 (.agg #[.string s, .int .u8 a1, .int .i64 a2, .int .i64 a3]) (.agg #[.string s, .int .u8 a1, .int .i64 a2, .int .i64 a3])).run Tryd.prog w = .ok (.bool true) w := by
 intro s a1 a2 a3 w
 rw [run_eql_struct, run_equalIn_struct w 9999 _ _ _ (by kernel_rfl) (by kernel_rfl)]
 simp [Op.eqFields, go_sem]
theorem qdh : ∀ (op : BinOp) (x y : Operand) (xs ys : Array Value) (w : World), (eqGuard op 35 x y (.agg xs) (.agg ys)).run Tryd.prog w = .ok () w := fun op x y xs ys w => run_eqGuard_agg w op _ x y xs ys (by kernel_rfl)
open Go.RowKit Go.Shelf Go.Maps
theorem qbc (w : World) (g i : Nat) (v : Value) : w.grownBy (w.setCell ⟨g, i, none⟩ v) (some g) :=
 ⟨rfl, rfl, rfl, by simp, fun k _ hk => Below.heap_setCell w ⟨g, i, none⟩ v k (by intro e; apply hk; simpa using e)⟩
theorem Sw.low {w : World} {B : Nat} {v : Value} {L : List Sy} (h : Sw w (B + 1) v L) : Sw w B v L := by
 refine ⟨h.1, ?_⟩
 rcases h.2 with h | ⟨g, cap, cur, e, hB, hr⟩
 ·exact .inl h
 ·exact .inr ⟨g, cap, cur, e, by omega, hr⟩
theorem ptab1 (w : World) (b : Nat) (nm : ByteArray) (hn : nm = ⟨#[97]⟩) (hv : Vn w b 61 #[.int .u8 1, .string nm, .int .u8 1, .int .i64 2, .string ⟨#[]⟩, .slice none 0 0, .int .i64 0, .int .i64 0, .int .u8 0, .string ⟨#[]⟩, .slice none 0 0, .slice none 0 0, .slice none 0 0, .int .i64 0, .int .i64 0, .int .u8 0, .slice none 0 0, .int .i64 0, .int .i64 0]) (hw : Wt9 w) :
  Calls Tryd.prog 9 #[.slice (some ⟨b, 0, none⟩) 1 1] w fun e w' => (∃ v, e = .returned (.tuple #[v, .agg #[.int .i64 0, .int .i64 0, .int .i64 0]]) ∧ Sw w' w.heap.size v [⟨nm, 1, 0, 2⟩]) ∧ Below w.heap.size w w' := by
 have HV := qa0 hv
 have HW := qa0 hw
 have HM : Hid (∀ w' : World, Below w.heap.size w w' → Calls Tryd.prog 21 #[.slice (some ⟨b, 0, none⟩) 1 1] w' fun e w'' => e = .returned (.bool true) ∧ Below w'.heap.size w' w'') := fun w' hb => by
  subst hn
  have h := qfm w' (some ⟨b, 0, none⟩) 1 1 (fun _ => i1) (its_one (k := 1) (pl := 0) (vk := 1) (sk := 0) (HV.out.later hb) (xv2 w') (sv0 w') (fun d i hi => absurd hi (Nat.not_lt_zero i)) (by omega) (by omega) (by show 1 ≤ _; omega) (by omega)) (by omega) (HW.out.later hb)
  rw [i1_may] at h
  exact h
 have HU : Hid (∀ (w' : World) (bm : Nat), Mk w' bm 0 (fun _ => none) → Calls Tryd.prog 22 #[.agg #[.int .u8 1, .string nm, .int .u8 1, .int .i64 2, .string ⟨#[]⟩, .slice none 0 0, .int .i64 0, .int .i64 0, .int .u8 0, .string ⟨#[]⟩, .slice none 0 0, .slice none 0 0, .slice none 0 0, .int .i64 0, .int .i64 0, .int .u8 0, .slice none 0 0, .int .i64 0, .int .i64 0], .map (some bm)] w' fun e w'' => e = .returned (.agg #[.int .i64 0, .int .i64 0, .int .i64 0]) ∧ Below w'.heap.size w' w'') := fun w' bm hm => by subst hn; exact pwrong w' bm 0 1 0 0 1 0 0 0 0 0 0 0 0 0 0 ⟨#[97]⟩ ⟨#[]⟩ ⟨#[]⟩ 2 0 0 0 0 0 0 none none none none none x2 l0s (fun _ => l0x) (fun _ => none) [] (xv2 w') (sv0 w') (fun d i hi => absurd hi (Nat.not_lt_zero i)) (by omega) i1_dp i1_uses (fun j u h => by cases h) hm
 have HMd : Hid (∀ w' : World, Below w.heap.size w w' → Calls Tryd.prog 23 #[.agg #[.int .u8 1, .string nm, .int .u8 1, .int .i64 2, .string ⟨#[]⟩, .slice none 0 0, .int .i64 0, .int .i64 0, .int .u8 0, .string ⟨#[]⟩, .slice none 0 0, .slice none 0 0, .slice none 0 0, .int .i64 0, .int .i64 0, .int .u8 0, .slice none 0 0, .int .i64 0, .int .i64 0], .slice none 0 0] w' fun e w'' => e = .returned (.tuple #[.agg #[.string nm, .int .u8 1, .int .i64 0, .int .i64 2], .agg #[.int .i64 0, .int .i64 0, .int .i64 0]]) ∧ Below w'.heap.size w' w'') := fun w' hb => by subst hn; exact pmade1 w' 1 0 0 1 0 0 0 0 0 0 0 0 0 0 ⟨#[97]⟩ ⟨#[]⟩ ⟨#[]⟩ 2 0 0 0 0 0 0 none none none none none none 0 0 x2 (fun _ => sy0) rfl (xv2 w') (fun i hi => absurd hi (Nat.not_lt_zero i)) (by omega) (HW.out.later hb) ⟨2, 0, 0, 0⟩ (i1_val _)
 have hmm := @run_makeMap Tryd.prog
 have heq := qf8
 have hne := qf9
 have hng := qbi
 have HV0 := qa0 (Vn.new w 26 #[.int .i64 0, .int .i64 0, .int .i64 0])
 have HB0 := qa0 (jlow w (.cells #[.int .i64 0, .int .i64 0, .int .i64 0] 26))
 obtain ⟨i0, hi0, hz0, hz1, hz2⟩ := info_parts jsym
 have hns : nm.size ≤ 140737488351232 := by rw [hn]; show 1 ≤ _; omega
 obtain ⟨D, HD⟩ : ∃ D : DataW Unit, Hid (D = .map []) := ⟨_, rfl⟩
 have hh : Maps.has D (.string nm.data.toList) = false := by rw [HD.out]; rfl
 have HK := qa0 (WideMaps.keyOf_string_mk (P := Tryd.prog) (k := 9) Tryd.underlying9 (s := nm) (by unfold maxLen; omega))
 have HWf : Hid ((Lit.int .u8 1).wf = true) := by show _ = _; decide
 clear hv hw hn
 go_enter Tryd.func9, Tryd.ntmps9
 go_wp2_with (go_at_call 21; refine (HM.out _ HB0.out).mono ?_; rintro e w1 ⟨rfl, hb1⟩; have HV1 := qa0 (HV0.out.later hb1); have HB1 := qa0 (jtwo HB0.out hb1); clear hb1)
 go_loopw [4, 20] (fun vt vi wr => Below w.heap.size w wr ∧ Vn wr w.heap.size 26 #[.int .i64 0, .int .i64 0, .int .i64 0] ∧ ((vi = .int .i64 0 ∧ vt = .slice none 0 0 ∧ wr.ownsMap Tryd.prog 9 (plainElem Tryd.prog 33) w1.heap.size 0 D) ∨ (vi = .int .i64 1 ∧ Sw wr (w.heap.size + 1) vt [⟨nm, 1, 0, 2⟩]))) (fun _ vi _ => 1 - (intOf vi).toNat)
 case atStart => exact ⟨jtwo HB1.out (jlow _ _), HV1.out.later (jlow _ _), .inl ⟨rfl, rfl, by rw [HD.out]; exact World.ownsMap_made _ _ _ _⟩⟩
 case round =>
  obtain ⟨hb, hf, ⟨rfl, rfl, ho⟩ | ⟨rfl, hs⟩⟩ := hrel
  ·have HB := qa0 hb
   have HFv := qa0 hf
   have HO := qa0 ho
   have HIt := qa0 (HV.out.later hb)
   clear hb hf ho
   have HMk : Hid (Mk wr w1.heap.size 0 (fun _ => none)) := ⟨D, HO.out, by rw [HD.out]; exact mkD_nil⟩
   have hz1' := HB1.out.size
   have M1 : True := trivial
   have M2 : True := trivial
   have M3 : True := trivial
   go_wp2_with (first
    | (clear M1; refine wpList_load_row rfl 61 _ rfl b rfl 61 #[.int .u8 1, .string nm, .int .u8 1, .int .i64 2, .string ⟨#[]⟩, .slice none 0 0, .int .i64 0, .int .i64 0, .int .u8 0, .string ⟨#[]⟩, .slice none 0 0, .slice none 0 0, .slice none 0 0, .int .i64 0, .int .i64 0, .int .u8 0, .slice none 0 0, .int .i64 0, .int .i64 0] (0, 0) _ HIt.out Tryd.underlying61 rfl qai ?_)
    | (clear M2; refine qa1 rfl 61 _ _ rfl wr.heap.size _ #[.int .u8 1, .string nm, .int .u8 1, .int .i64 2, .string ⟨#[]⟩, .slice none 0 0, .int .i64 0, .int .i64 0, .int .u8 0, .string ⟨#[]⟩, .slice none 0 0, .slice none 0 0, .slice none 0 0, .int .i64 0, .int .i64 0, .int .u8 0, .slice none 0 0, .int .i64 0, .int .i64 0] rfl rfl (Vn.new wr _ _) qai rfl (all19 rfl rfl rfl rfl rfl rfl rfl rfl rfl rfl rfl rfl rfl rfl rfl rfl rfl rfl rfl) ?_; intro w2 HV2 hg2; have hb2 : Below wr.heap.size wr w2 := (jlow _ _).trans (jbelow hg2.out (jlow _ _).size (fun g e => by cases e; exact Nat.le_refl _)); have HB2 := qa0 (jtwo HB.out hb2); have HF2 := qa0 (HFv.out.later hb2); have HO2 := qa0 (qap HO.out hb2); have HM2 := qa0 (HMk.out.later hb2); clear hg2 hb2)
    | (refine wpList_load_row rfl 61 _ rfl wr.heap.size rfl 61 #[.int .u8 1, .string nm, .int .u8 1, .int .i64 2, .string ⟨#[]⟩, .slice none 0 0, .int .i64 0, .int .i64 0, .int .u8 0, .string ⟨#[]⟩, .slice none 0 0, .slice none 0 0, .slice none 0 0, .int .i64 0, .int .i64 0, .int .u8 0, .slice none 0 0, .int .i64 0, .int .i64 0] (0, 0) _ HV2.out Tryd.underlying61 rfl qai ?_)
    | (go_at_call 22; refine (HU.out _ _ HM2.out).mono ?_; rintro e w3 ⟨rfl, hb3⟩; have HB3 := qa0 (jtwo HB2.out hb3); have HF3 := qa0 (HF2.out.later hb3); have HV3 := qa0 (HV2.out.later hb3); have HO3 := qa0 (qap HO2.out hb3); clear hb3)
    | (clear M3; refine qa1 rfl 26 _ _ rfl w3.heap.size _ #[.int .i64 0, .int .i64 0, .int .i64 0] rfl rfl (Vn.new w3 _ _) qam rfl (all3 rfl rfl rfl) ?_; intro w4 HG4 hg4; have hb4 : Below w3.heap.size w3 w4 := (jlow _ _).trans (jbelow hg4.out (jlow _ _).size (fun g e => by cases e; exact Nat.le_refl _)); have HB4 := qa0 (jtwo HB3.out hb4); have HF4 := qa0 (HF3.out.later hb4); have HV4 := qa0 (HV3.out.later hb4); have HO4 := qa0 (qap HO3.out hb4); have g0 := HG4.out.cell 0 _ rfl; have g1 := HG4.out.cell 1 _ rfl; have g2 := HG4.out.cell 2 _ rfl; clear hg4 hb4)
    | (refine wpList_load_row rfl 61 _ rfl wr.heap.size rfl 61 #[.int .u8 1, .string nm, .int .u8 1, .int .i64 2, .string ⟨#[]⟩, .slice none 0 0, .int .i64 0, .int .i64 0, .int .u8 0, .string ⟨#[]⟩, .slice none 0 0, .slice none 0 0, .slice none 0 0, .int .i64 0, .int .i64 0, .int .u8 0, .slice none 0 0, .int .i64 0, .int .i64 0] (0, 0) _ HV4.out Tryd.underlying61 rfl qai ?_)
    | (go_at_call 23; refine (HMd.out _ HB4.out).mono ?_; rintro e w5 ⟨rfl, hb5⟩; have HB5 := qa0 (jtwo HB4.out hb5); have HF5 := qa0 (HF4.out.later hb5); have HO5 := qa0 (qap HO4.out hb5); have HBs : Hid (w1.heap.size < w5.heap.size) := (by have h1 := HO5.out.lt; exact h1); clear hb5; obtain ⟨w7, HW7⟩ : ∃ w7, Hid (w7 = (w5.alloc (.cells #[.string nm, .int .u8 1, .int .i64 0, .int .i64 2] 35)).alloc (.cells #[.int .i64 0, .int .i64 0, .int .i64 0] 26)) := ⟨_, rfl⟩; have HB57 : Hid (Below w5.heap.size w5 w7) := (by show Below _ _ _; rw [HW7.out]; exact jtwo (jlow _ _) (jlow _ _)); have HS7 : Hid (Vn w7 w5.heap.size 35 #[.string nm, .int .u8 1, .int .i64 0, .int .i64 2]) := (by show Vn _ _ _ _; rw [HW7.out]; exact (Vn.new _ _ _).later (jlow _ _)); have HB7 := qa0 (jtwo HB5.out HB57.out); have HF7 := qa0 (HF5.out.later HB57.out); have HO7 := qa0 (qap HO5.out HB57.out))
    | (at_lookup; rw [← HW7.out]; refine wpList_lookup_own_ok_int _ rfl _ _ 65 rfl 9 33 .u8 qau Tryd.underlying65 Tryd.underlying33 (qcp _) w1.heap.size 0 D rfl HO7.out _ _ rfl HK.out ?_; intro c hat hwc; clear hat hwc; have f2 := HS7.out.free 2; have s2 := HS7.out.cell 2 _ rfl; have HS8 : Hid (Vn (w7.setCell ⟨w5.heap.size, 2, none⟩ (.int .i64 0)) w5.heap.size 35 #[.string nm, .int .u8 1, .int .i64 0, .int .i64 2]) := HS7.out.set 2 _; have HO8 : Hid ((w7.setCell ⟨w5.heap.size, 2, none⟩ (.int .i64 0)).ownsMap Tryd.prog 9 (plainElem Tryd.prog 33) w1.heap.size 0 D) := HO7.out.kept (qbc _ _ _ _) (by have := HBs.out; simp; omega); have HF8 := qa0 (HF7.out.keptR (qbc w7 w5.heap.size 2 (.int .i64 0)) (by have := HBs.out; have := HV1.out.lt; simp; omega)); have HB8 : Hid (Below w.heap.size w (w7.setCell ⟨w5.heap.size, 2, none⟩ (.int .i64 0))) := HB7.out.trans (jbelow (qbc w7 w5.heap.size 2 (.int .i64 0)) HB7.out.size (fun g e => by cases e; have := HBs.out; have := HV1.out.lt; omega)); have t0 := HS8.out.cell 0 _ rfl; have t1 := HS8.out.cell 1 _ rfl; have t2 := HS8.out.cell 2 _ rfl; have t3 := HS8.out.cell 3 _ rfl)
    | (at_mapUpdate; refine wpList_mapUpdate_own _ rfl _ _ _ 65 rfl 9 33 qau Tryd.underlying65 _ w1.heap.size 0 D rfl HO8.out (by unfold maxLen; omega) _ _ _ rfl rfl HK.out _ [] (plainElem_int Tryd.underlying33 HWf.out) ?_; intro w9 hO9 hg9; have HB9 : Hid (Below w.heap.size w w9) := HB8.out.trans (jbelow hg9 HB8.out.size (fun g e => by cases e; have := HV1.out.lt; omega)); have HF9 := qa0 (HF8.out.keptR hg9 (by have := HV1.out.lt; simp; omega)); have HS9 := qa0 (HS8.out.keptR hg9 (by have := HBs.out; simp; omega)); have u0 := HS9.out.cell 0 _ rfl; have u1 := HS9.out.cell 1 _ rfl; have u2 := HS9.out.cell 2 _ rfl; have u3 := HS9.out.cell 3 _ rfl; clear hO9 hg9)
    | (at_builtin; go_loud (refine wpList_append_own _ rfl _ _ 23 rfl (w.heap.size + 1) 35 i0 (.agg #[.string ⟨#[]⟩, .int .u8 0, .int .i64 0, .int .i64 0]) 4 40 Tryd.underlying23 hi0 hz0 hz1 hz2 rfl (by decide) _ 0 [] rfl (World.ownsRow_nil _ _ _ _) ⟨w9.heap.size, 0, none⟩ 1 1 [.string nm, .int .u8 1, .int .i64 0, .int .i64 2] rfl rfl (qb5 _ _ _) (by intro u hu; simp at hu; rcases hu with rfl | rfl | rfl | rfl <;> rfl) (by unfold maxLen; omega) (by omega) (by have := HB9.out.size; have := HBs.out; have := HV1.out.lt; simp; omega) ?_; intro v' w10 hown' hgrow' _; have HT : Hid (Sw w10 (w.heap.size + 1) v' [⟨nm, 1, 0, 2⟩]) := hown'; have hb10 : Below w.heap.size w w10 := (HB9.out.trans ((jlow _ _).mono HB9.out.size)).trans (jbelow hgrow' (by have := HB9.out.size; simp; omega) (fun g hg => by cases hg)); have HB10 := qa0 hb10; have HF10 := qa0 ((HF9.out.later (jlow _ _)).keptR hgrow' (fun e => by have e' : some w.heap.size = none := e; cases e')); clear hown' hgrow' hb10))
    )
   exact ⟨⟨HB10.out, HF10.out, .inr ⟨rfl, HT.out⟩⟩, by simp [intOf]⟩
  ·obtain ⟨x, d, rfl, _⟩ := hs.form
   have HB := qa0 hb
   have HFv := qa0 hf
   have HS := qa0 hs
   clear hb hf hs
   go_wp2_with (refine qa1 rfl 26 _ _ rfl w.heap.size _ #[.int .i64 0, .int .i64 0, .int .i64 0] rfl rfl HFv.out qam rfl (all3 rfl rfl rfl) ?_; intro w8 HF8 hg8; have HB8 : Hid (Below w.heap.size w w8) := HB.out.trans (jbelow hg8.out HB.out.size (fun g e => by cases e; exact Nat.le_refl _)); have HS8 := qa0 (HS.out.kept hg8.out (by cases hx : (Value.slice x 1 d).ownBlock with | none => exact .inl rfl | some g => exact .inr (fun e => by cases e; have := (HS.out.base hx).1; omega))); have d0 := HF8.out.cell 0 _ rfl; have d1 := HF8.out.cell 1 _ rfl; have d2 := HF8.out.cell 2 _ rfl)
   refine bodyPost_ret (v := .tuple #[.slice x 1 d, .agg #[.int .i64 0, .int .i64 0, .int .i64 0]]) (by simp [results, Tryd.results9, go_sem, d0, d1, d2]) rfl ?_
   exact ⟨⟨_, rfl, HS8.out.low⟩, HB8.out⟩
end Go.Proofs.YtemhodenkgngmaaDoor
