/-
  Stage 13: symbols in memory of the call's own; the item of the anchor.
-/
import Derived.Test.YtemhodenkgngmaaDoorQkkwn00
import Derived.Test.YtemhodenkgngmaaDoorQkkwn36
import Derived.Test.YtemhodenkgngmaaDoorQkkwn15
set_option maxRecDepth 100000
set_option maxHeartbeats 16000000
namespace Go.Proofs.YtemhodenkgngmaaDoor
open Go.RowKit Go.Shelf Go.Maps
/-- The cells of some symbols. -/
def srow (L : List Sy) : List Value := L.flatMap (fun s => [.string s.nm, .int .u8 (s.k : Int), .int .i64 s.it, .int .i64 s.n])
theorem srow_app (L M : List Sy) : srow (L ++ M) = srow L ++ srow M := by unfold srow; rw [List.flatMap_append]
theorem srow_get : ∀ (L : List Sy) (i : Nat) (c : Sy), L[i]? = some c → (srow L)[i * 4]? = some (.string c.nm) ∧ (srow L)[i * 4 + 1]? = some (.int .u8 (c.k : Int)) ∧ (srow L)[i * 4 + 2]? = some (.int .i64 c.it) ∧ (srow L)[i * 4 + 3]? = some (.int .i64 c.n) := by
 intro L
 induction L with
 | nil => intro i c h; cases h
 | cons x L ih =>
  intro i c h
  cases i with
  | zero => cases h; exact ⟨rfl, rfl, rfl, rfl⟩
  | succ i =>
   have h2 : L[i]? = some c := by simpa using h
   obtain ⟨h3, h4, h5, h6⟩ := ih i c h2
   have e : (i + 1) * 4 = i * 4 + 1 + 1 + 1 + 1 := by omega
   rw [e]
   exact ⟨h3, h4, h5, h6⟩
/-- A list of symbols of the call's own. -/
def Sw (w : World) (B : Nat) (v : Value) (L : List Sy) : Prop := w.ownsRow B 35 4 v L.length (srow L)
theorem Sw.nil (w : World) (B : Nat) : Sw w B (.slice none 0 0) [] := World.ownsRow_nil _ _ _ _
theorem Sw.later {w w' : World} {B : Nat} {v : Value} {L : List Sy} (h : Sw w B v L) (hb : Below w.heap.size w w') : Sw w' B v L := World.ownsRow.kept h (jgrown.mpr hb) (by cases hv : v.ownBlock <;> simp)
theorem Sw.kept {w w' : World} {B : Nat} {v : Value} {L : List Sy} {row : Option Nat} (h : Sw w B v L) (hg : w.grownBy w' row) (hne : v.ownBlock = none ∨ v.ownBlock ≠ row) : Sw w' B v L := World.ownsRow.kept h hg hne
theorem Sw.form {w : World} {B : Nat} {v : Value} {L : List Sy} (h : Sw w B v L) : ∃ a d, v = .slice a L.length d ∧ (a = none → L.length = 0 ∧ d = 0) := by
 rcases h.2 with ⟨e, h0⟩ | ⟨g, cap, cur, e, _⟩
 ·exact ⟨none, 0, by rw [e, h0], fun _ => ⟨h0, rfl⟩⟩
 ·exact ⟨_, _, e, fun x => by cases x⟩
theorem Sw.base {w : World} {B : Nat} {v : Value} {L : List Sy} (h : Sw w B v L) {g : Nat} (hg : v.ownBlock = some g) : B ≤ g ∧ g < w.heap.size := by
 rcases h.2 with ⟨e, _⟩ | ⟨g', cap, cur, e, hB, hb, _⟩
 ·rw [e] at hg; simp [Value.ownBlock] at hg
 ·rw [e] at hg; simp [Value.ownBlock] at hg; subst hg; exact ⟨hB, lt_of_block hb⟩
theorem Sw.push {w : World} {B : Nat} {v : Value} {L : List Sy} {c : Sy} (h : w.ownsRow B 35 4 v (L.length + 1) (srow L ++ [.string c.nm, .int .u8 (c.k : Int), .int .i64 c.it, .int .i64 c.n])) : Sw w B v (L ++ [c]) := by
 unfold Sw
 rw [srow_app, List.length_append]
 exact h
/-- Such a list, read. -/
theorem Sw.el {w : World} {B : Nat} {a : Option Addr} {n d : Nat} {L : List Sy} (h : Sw w B (.slice a n d) L) (hok : ∀ c ∈ L, SyOk c) : n = L.length ∧ SyL w a L.length (fun i => L.getD i sy0) := by
 obtain ⟨a', d', e, hz⟩ := h.form
 obtain ⟨rfl, rfl, rfl⟩ : a = a' ∧ n = L.length ∧ d = d' := by cases e; exact ⟨rfl, rfl, rfl⟩
 refine ⟨rfl, fun i hi => ?_⟩
 have hg : L[i]? = some (L.getD i sy0) := by rw [List.getD_eq_getElem?_getD, List.getElem?_eq_getElem hi]; rfl
 obtain ⟨h0, h1, h2, h3⟩ := srow_get L i _ hg
 cases ha : a with
 | none => rw [ha] at hz; have := (hz rfl).1; omega
 | some x =>
  rw [ha] at h
  have hb : ∃ g, x = ⟨g, 0, none⟩ := by
   rcases h.2 with ⟨e, _⟩ | ⟨g, cap, cur, e, _⟩
   ·cases e
   ·cases e; exact ⟨g, rfl⟩
  obtain ⟨g, rfl⟩ := hb
  have hc : ∀ j u, (srow L)[j]? = some u → w.cell? ((⟨g, 0, none⟩ : Addr).add j) = some u := World.ownsRow.cells h (g := g) rfl
  have ad : ∀ j, (⟨g, 0, none⟩ : Addr).add j = ⟨g, 0 + j, none⟩ := fun j => by unfold Addr.add; split <;> simp_all
  refine ⟨hok _ (List.mem_of_getElem? hg), g, 0, rfl, ?_, ?_, ?_, ?_⟩
  ·have := hc _ _ h0; rw [ad] at this; exact this
  ·have := hc _ _ h1; rw [ad] at this; exact this
  ·have := hc _ _ h2; rw [ad] at this; exact this
  ·have := hc _ _ h3; rw [ad] at this; exact this
theorem jsym : (Tryd.prog.info? 35).map (fun i => (i.zero, i.size, i.bytes)) = some (some (.agg #[.string ⟨#[]⟩, .int .u8 0, .int .i64 0, .int .i64 0]), 4, 40) := by kernel_rfl
theorem qf1 : MkD (.map []) (fun _ => none) := fun s hs => ⟨rfl, fun v hv => by cases hv⟩
/-- The number 2. -/
def x2 : Xt := fun _ => ⟨1, 2, ⟨#[]⟩, 0, 0, 0⟩
def i1 : It := ⟨1, ⟨#[97]⟩, x2, l0s, 0, 0, fun _ => l0x, 0, 0⟩
theorem xv2 (w : World) : XV w (.agg #[.int .u8 ((1 : Nat) : Int), .int .i64 2, .string ⟨#[]⟩, .slice none 0 0, .int .i64 0, .int .i64 0]) x2 := ⟨⟨none, 0, rfl, fun d i hi => absurd hi (Nat.not_lt_zero i)⟩, ⟨by show 1 < 256; omega, by show _ ≤ (2 : Int); omega, by show (2 : Int) ≤ _; omega, by show 0 ≤ _; omega, by show 0 ≤ _; omega⟩⟩
theorem sv0 (w : World) : SV w (.agg #[.int .u8 ((0 : Nat) : Int), .string ⟨#[]⟩, .slice none 0 0, .slice none 0 0, .slice none 0 0, .int .i64 0, .int .i64 0]) l0s := ⟨⟨none, none, none, 0, 0, 0, rfl, fun d i hi => absurd hi (Nat.not_lt_zero i), fun i hi => absurd hi (Nat.not_lt_zero i), fun d i hi => absurd hi (Nat.not_lt_zero i)⟩, ⟨by show 0 < 256; omega, by show 0 ≤ _; omega, by show 0 ≤ _; omega, by show 0 ≤ _; omega, by show 0 ≤ _; omega, fun i hi => absurd hi (Nat.not_lt_zero i)⟩⟩
theorem i1_may : mayD (fun _ => i1) 1 = true := by kernel_rfl
theorem i1_uses : ius i1 = [] := by kernel_rfl
theorem i1_dp : dpi i1 := ⟨qav rfl, ⟨fun i hi => absurd hi (Nat.not_lt_zero i), fun i hi => absurd hi (Nat.not_lt_zero i), fun i hi => absurd hi (Nat.not_lt_zero i)⟩, fun i hi => absurd hi (Nat.not_lt_zero i)⟩
theorem i1_val (F : Nat → Sy) : evl (fun i => (cst F 0).getD i cn0) (cst F 0).length x2 = ⟨2, 0, 0, 0⟩ := by
 show (if mayE _ 0 = true then (if mayX x2 = true then xval _ 16 x2 else _) else _) = _
 rw [if_pos (show mayE _ 0 = true from rfl), if_pos (by kernel_rfl)]
 rfl
theorem eql_sy13 : ∀ (s : ByteArray) (a1 a2 a3 : Int) (w : World), (binOp .eql 35 (.agg #[.string s, .int .u8 a1, .int .i64 a2, .int .i64 a3]) (.agg #[.string s, .int .u8 a1, .int .i64 a2, .int .i64 a3])).run Tryd.prog w = .ok (.bool true) w := by
 intro s a1 a2 a3 w
 rw [run_eql_struct, run_equalIn_struct w 9999 _ _ _ (by kernel_rfl) (by kernel_rfl)]
 simp [Op.eqFields, go_sem]
theorem neq_sy13 : ∀ (s : ByteArray) (a1 a2 a3 : Int) (w : World), (binOp .neq 35 (.agg #[.string s, .int .u8 a1, .int .i64 a2, .int .i64 a3]) (.agg #[.string s, .int .u8 a1, .int .i64 a2, .int .i64 a3])).run Tryd.prog w = .ok (.bool false) w := by
 intro s a1 a2 a3 w
 rw [run_neq_struct, run_equalIn_struct w 9999 _ _ _ (by kernel_rfl) (by kernel_rfl)]
 simp [Op.eqFields, go_sem]
theorem qbp : ∀ (op : BinOp) (x y : Operand) (xs ys : Array Value) (w : World), (eqGuard op 35 x y (.agg xs) (.agg ys)).run Tryd.prog w = .ok () w := fun op x y xs ys w => run_eqGuard_agg w op _ x y xs ys (by kernel_rfl)
end Go.Proofs.YtemhodenkgngmaaDoor
