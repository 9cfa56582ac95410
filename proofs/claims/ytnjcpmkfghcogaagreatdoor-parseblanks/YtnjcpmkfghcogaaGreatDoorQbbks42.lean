/-
  Contracts of the program's parse: what is deferred while reading.
  Contracts of the program's parse: read, an expression.
-/
import Derived.Test.YtnjcpmkfghcogaaGreatDoorQbbks00
import Derived.Test.YtnjcpmkfghcogaaGreatDoorQbbks29
import Derived.Recover
import Derived.Test.YtnjcpmkfghcogaaGreatDoorQbbks41
import Derived.Defers
import Derived.Deep.RegionHeld3
set_option maxRecDepth 100000
set_option maxHeartbeats 16000000
namespace Go.Proofs.YtnjcpmkfghcogaaGreatDoor
open Go.RowKit
theorem qa5 : (Tryz.prog.info? 25).map (·.size) = some 3 := by kernel_rfl
theorem qab {x y z : Value} (h0 : x.oneCell' = true) (h1 : y.oneCell' = true) (h2 : z.oneCell' = true) : (#[x, y, z] : Array Value).all (·.oneCell') = true := by simp [h0, h1, h2]
theorem tas11 (v : Value) (w : World) : (Instr.typeAssert (.iface 96 v) 20 96 true).run Tryz.prog w = .ok (.tuple #[v, .bool true]) w := by simp [Instr.typeAssert, go_sem]
theorem zmis11 : (Tryz.prog.info? 96).bind (·.zero) = some (.agg #[.int .u8 0, .string ⟨#[]⟩, .int .i64 0, .int .i64 0, .int .i64 0]) := by kernel_rfl
theorem tan11 (w : World) : (Instr.typeAssert .nilIface 20 96 true).run Tryz.prog w = .ok (.tuple #[.agg #[.int .u8 0, .string ⟨#[]⟩, .int .i64 0, .int .i64 0, .int .i64 0], .bool false]) w := by
 cases hi : Tryz.prog.info? 96 with
 | none => have h := zmis11; rw [hi] at h; cases h
 | some i =>
  have hz : i.zero = some (.agg #[.int .u8 0, .string ⟨#[]⟩, .int .i64 0, .int .i64 0, .int .i64 0]) := by have h := zmis11; rw [hi] at h; exact h
  simp [Instr.typeAssert, go_sem, zeroValue, typeInfo, hi, hz]
theorem qey (w : World) (t : TV) (bf : Nat) (f0 f1 f2 : Value) (HV : Hid (Vn w bf 25 #[f0, f1, f2])) :
  CallsD Tryz.prog 81 #[.pointer (some ⟨bf, 0, none⟩)] (.panicking [{ v := .iface 96 (.agg (tvq t)), recovered := false }]) w fun e u' w' =>
   e = .returned (.tuple #[]) ∧ u' = .panicking [{ v := .iface 96 (.agg (tvq t)), recovered := true }] ∧ Vn w' bf 25 #[.int .i64 110, .int .i64 t.ln, .int .i64 t.cl] ∧ w.grownBy w' (some bf) := by
 unfold tvq
 have hta := tas11
 refine callsD_of_wpS Tryz.func81 rfl fun c₀ cs hu => ?_
 apply wpS_seq
 apply wpS_region
 simp [wpOpsS, go_sem, recoverD, hu, Tryz.ntmps81, Exit.thenS]
 refine wpS_of_wp ?_
 rw [show (Array.replicate 18 undef : Array Value) = #[undef, undef, undef, undef, undef, undef, undef, undef, undef, undef, undef, undef, undef, undef, undef, undef, undef, undef] from rfl]
 go_wp2_with (refine qa1 rfl 25 _ _ rfl bf _ #[.int .i64 110, .int .i64 t.ln, .int .i64 t.cl] rfl rfl (HV.out.later (jlow _ _)) qa5 rfl (qab rfl rfl rfl) ?_; intro w8 HV8 hg8)
 have hg : w.grownBy w8 (some bf) := by
  have hb := jlow w (.cells #[.int .u8 (t.k : Int), .string t.tx, .int .i64 t.n, .int .i64 t.ln, .int .i64 t.cl] 96)
  exact ⟨by rw [hg8.out.os, hb.os], by rw [hg8.out.tape, hb.tape], by rw [hg8.out.output, hb.output], Nat.le_trans hb.size hg8.out.size, fun k hk hn => by rw [hg8.out.block k (Nat.lt_of_lt_of_le hk hb.size) hn, hb.block k hk]⟩
 have hv := HV8.out
 simp [bodyPostS, results, Tryz.results81, hv, hg]
theorem qgz (w : World) (bf : Nat) :
  CallsD Tryz.prog 81 #[.pointer (some ⟨bf, 0, none⟩)] .returning w fun e u' w' => e = .returned (.tuple #[]) ∧ u' = .returning ∧ Below w.heap.size w w' := by
 refine callsD_of_wpS Tryz.func81 rfl fun c₀ cs hu => ?_
 apply wpS_seq
 apply wpS_region
 simp [wpOpsS, go_sem, recoverD, hu, Tryz.ntmps81, Exit.thenS]
 refine wpS_of_wp ?_
 rw [show (Array.replicate 18 undef : Array Value) = #[undef, undef, undef, undef, undef, undef, undef, undef, undef, undef, undef, undef, undef, undef, undef, undef, undef, undef] from rfl]
 have htn : ∀ w : World, (Instr.typeAssert .nilIface 20 96 true).run Tryz.prog w = .ok (.tuple #[.agg #[.int .u8 0, .string ⟨#[]⟩, .int .i64 0, .int .i64 0, .int .i64 0], .bool false]) w := tan11
 go_wp2
 cases c₀
 simp_all [bodyPostS, results, Tryz.results81]
 exact jlow _ _
open Go.RowKit
theorem qg3 {K : Rk} {B : Nat} {w w' w'' : World} (h : Below B w w') (g : Gk K w' w'') (hB : B ≤ w.heap.size) (h1 : B ≤ K.r) (h2 : B ≤ K.bt) : Below B w w'' :=
 ⟨g.os.trans h.os, g.tape.trans h.tape, g.output.trans h.output, Nat.le_trans h.size g.size, fun k hk => (g.block k (by have := h.size; omega) (by omega) (by omega)).trans (h.block k hk)⟩
theorem qez {s b : Nat} {w w' : World} (h : w.grownBy w' (some b)) (hb : b < s) : Ag s w w' := ⟨h.size, fun c hc hl => h.block c hl (fun e => by cases e; omega)⟩
def rfail (z : Value) (t : TV) : Ending := .returned (.tuple #[z, .agg #[.int .i64 110, .int .i64 t.ln, .int .i64 t.cl]])
def RdA {α : Type} (P : World → Value → α → Prop) (z : Value) (s : ByteArray) (L : List Tk) (E a : Nat) (q : Rd α) (w : World) (e : Ending) (w' : World) : Prop :=
 Below w.heap.size w w' ∧ if E = 0 then (match q with
  | .error r => e = rfail z (gof s L (L.length - r.length))
  | .ok (y, []) => ∃ v, e = .returned (.tuple #[v, .agg #[.int .i64 0, .int .i64 0, .int .i64 0]]) ∧ Fr w.heap.size w' (fun u => P u v y)
  | .ok (_, t :: r) => e = rfail z (gof s L (L.length - (t :: r).length)))
 else e = .returned (.tuple #[z, .agg #[.int .i64 (E : Int), .int .i64 (lnn s a : Nat), .int .i64 (cln s a : Nat)]])
theorem qej : (Tryz.prog.info? 37).map (·.size) = some 6 := by kernel_rfl
theorem qjw (w : World) (s : ByteArray) (L : List Tk) (a : Nat) (t : TV) (hs : s.size ≤ 65536) (hc : Cuts s 0 L 0 a) (he : Ev9 w)
  (HP : Hid (∀ (K : Rk) (w' : World), K.n = L.length → K.g = gof s L → Rr K w' 0 → Calls Tryz.prog 39 #[.pointer (some ⟨K.r, 0, none⟩)] w' fun e w'' => e = mis t ∧ Gk K w' w'')) :
  Calls Tryz.prog 38 #[.string s, .func (.func 39) #[] #[]] w fun e w' => e = .returned (.tuple #[.agg #[.int .u8 0, .int .i64 0, .string ⟨#[]⟩, .slice none 0 0, .int .i64 0, .int .i64 0], .agg #[.int .i64 110, .int .i64 t.ln, .int .i64 t.cl]]) ∧ Below w.heap.size w w' := by
 have hfew : L.length ≤ 1000000000 := by have := qei hc; omega
 have HC := qa0 hc
 clear hc
 obtain ⟨w2, hw2⟩ : ∃ w2, w2 = (w.alloc (.cells #[.int .u8 0, .int .i64 0, .string ⟨#[]⟩, .slice none 0 0, .int .i64 0, .int .i64 0] 37)).alloc (.cells #[.int .i64 0, .int .i64 0, .int .i64 0] 25) := ⟨_, rfl⟩
 have hz1 : (w.alloc (.cells #[.int .u8 0, .int .i64 0, .string ⟨#[]⟩, .slice none 0 0, .int .i64 0, .int .i64 0] 37)).heap.size = w.heap.size + 1 := Array.size_push _
 have HB2 : Hid (Below w.heap.size w w2) := by rw [hw2]; exact jtwo (jlow _ _) (jlow _ _)
 have HT2 : Hid (Vn w2 w.heap.size 37 #[.int .u8 0, .int .i64 0, .string ⟨#[]⟩, .slice none 0 0, .int .i64 0, .int .i64 0]) := by rw [hw2]; exact (Vn.new w 37 #[.int .u8 0, .int .i64 0, .string ⟨#[]⟩, .slice none 0 0, .int .i64 0, .int .i64 0]).later (jlow _ _)
 have HF2 : Hid (Vn w2 (w.heap.size + 1) 25 #[.int .i64 0, .int .i64 0, .int .i64 0]) := by rw [hw2, ← hz1]; exact Vn.new _ _ _
 have hz2 : w2.heap.size = w.heap.size + 2 := by rw [hw2]; show (Array.push _ _).size = _; rw [Array.size_push, hz1]
 have HW2 : Hid (w2 = (w.alloc (.cells #[.int .u8 0, .int .i64 0, .string ⟨#[]⟩, .slice none 0 0, .int .i64 0, .int .i64 0] 37)).alloc (.cells #[.int .i64 0, .int .i64 0, .int .i64 0] 25)) := hw2
 have HEv := qa0 (he.later HB2.out)
 clear hw2 hz1 he
 have hmf : ∀ (fn : Fn) (first cap : Array Value) (w : World), (Instr.makeFunc fn first cap).run Tryz.prog w = .ok (.func fn first cap) w := fun _ _ _ _ => rfl
 unfold mis at HP
 go_enter_defers Tryz.func38, Tryz.ntmps38
 go_wp2_with (first
  | (go_at_call 53; rw [← HW2.out]; refine (qdn w2 s L hs a HC.out HEv.out).mono ?_; rintro e w3 ⟨x3, d3, rfl, ht3, hx3, hb3⟩; have HF3 := qa0 (HF2.out.later hb3); have HT3 := qa0 (HT2.out.later hb3); have HB3 := qa0 (HB2.out.trans (hb3.mono (by omega))); have HX3 := qa0 hx3; have HTk3 := qa0 ht3; have z3 := hb3.size; clear ht3 hx3 hb3)
  | (refine qa1 rfl 25 _ _ rfl (w.heap.size + 1) _ #[.int .i64 0, .int .i64 0, .int .i64 0] rfl rfl HF3.out qa5 rfl (qab rfl rfl rfl) ?_; intro w4 HF4 hg4; have z4 := hg4.out.size; have f0 := HF4.out.cell 0 _ rfl; have f1 := HF4.out.cell 1 _ rfl; have f2 := HF4.out.cell 2 _ rfl; have HT4 := qa0 (HT3.out.keptG hg4.out (by simp)); have HB4 := qa0 (HB3.out.trans (jbelow hg4.out (by omega) (fun g e => by cases e; omega))); have HN4 := qa0 (rnew w4 s x3 d3 L.length (gof s L) hs hfew (fun i hi => (HTk3.out i hi).keptBy (P := fun b => b ≠ w.heap.size + 1) (fun b hb hn => hg4.out.block b hb (fun e => hn (by cases e; rfl))) (fun b o e => by have := HX3.out b o e; omega)) (fun b o e => by have := HX3.out b o e; omega) (qcs s L)); clear hg4)
  | (go_at_call 55; refine HN4.out.mono ?_; rintro e w5 ⟨K, rfl, hKn, hKg, hR5, hr5, hbt5, hb5⟩; have HR5 := qa0 hR5; have HF5 := qa0 (HF4.out.later hb5); have HT5 := qa0 (HT4.out.later hb5); have HB5 := qa0 (HB4.out.trans (hb5.mono (by omega))); have z5 := hb5.size; clear hR5 hb5 f0 f1 f2)
  | (go_at_call 39; refine (HP.out K _ hKn hKg HR5.out).mono ?_; rintro e w6 ⟨rfl, hg6⟩; have HF6 := qa0 (HF5.out.keptBy (hg6.block _ HF5.out.lt (by omega) (by omega))); have HT6 := qa0 (HT5.out.keptBy (hg6.block _ HT5.out.lt (by omega) (by omega))); have HB6 := qa0 (qg3 HB5.out hg6 (Nat.le_refl _) (by omega) (by omega)); have z6 := hg6.size; clear hg6))
 refine leaves_cons (f := 81) (args := #[.pointer (some ⟨w.heap.size + 1, 0, none⟩)]) (by simp) (by simp [go_sem]) ?_
 refine (qey _ _ (w.heap.size + 1) _ _ _ HF6).mono ?_
 rintro e u' w8 ⟨rfl, rfl, hv8, hg8⟩
 have HT8 := HT6.out.keptG hg8 (by simp)
 have f0 := hv8.cell 0 _ rfl
 have f1 := hv8.cell 1 _ rfl
 have f2 := hv8.cell 2 _ rfl
 have t0 := HT8.cell 0 _ rfl
 have t1 := HT8.cell 1 _ rfl
 have t2 := HT8.cell 2 _ rfl
 have t3 := HT8.cell 3 _ rfl
 have t4 := HT8.cell 4 _ rfl
 have t5 := HT8.cell 5 _ rfl
 have HB8 := HB6.out.trans (jbelow hg8 (by omega) (fun g e => by cases e; omega))
 simp [Leaves, settle, results, Tryz.results38, go_sem, f0, f1, f2, t0, t1, t2, t3, t4, t5, HB8]
theorem qjx (w : World) (s : ByteArray) (L : List Tk) (a j2 : Nat) (y : Xt) (hs : s.size ≤ 65536) (hc : Cuts s 0 L 0 a) (he : Ev9 w) (hk : (gof s L j2).k ≠ 0)
  (HP : Hid (∀ (K : Rk) (w' : World), K.n = L.length → K.g = gof s L → Rr K w' 0 → Calls Tryz.prog 39 #[.pointer (some ⟨K.r, 0, none⟩)] w' fun e w'' => (∃ v, e = .returned v ∧ Fr w'.heap.size w'' (fun u => XV u v y) ∧ Rr K w'' j2) ∧ Gk K w' w'')) :
  Calls Tryz.prog 38 #[.string s, .func (.func 39) #[] #[]] w fun e w' => e = .returned (.tuple #[.agg #[.int .u8 0, .int .i64 0, .string ⟨#[]⟩, .slice none 0 0, .int .i64 0, .int .i64 0], .agg #[.int .i64 110, .int .i64 (gof s L j2).ln, .int .i64 (gof s L j2).cl]]) ∧ Below w.heap.size w w' := by
 have hfew : L.length ≤ 1000000000 := by have := qei hc; omega
 have HC := qa0 hc
 have HK := qa0 hk
 clear hc hk
 obtain ⟨w2, hw2⟩ : ∃ w2, w2 = (w.alloc (.cells #[.int .u8 0, .int .i64 0, .string ⟨#[]⟩, .slice none 0 0, .int .i64 0, .int .i64 0] 37)).alloc (.cells #[.int .i64 0, .int .i64 0, .int .i64 0] 25) := ⟨_, rfl⟩
 have hz1 : (w.alloc (.cells #[.int .u8 0, .int .i64 0, .string ⟨#[]⟩, .slice none 0 0, .int .i64 0, .int .i64 0] 37)).heap.size = w.heap.size + 1 := Array.size_push _
 have HB2 : Hid (Below w.heap.size w w2) := by rw [hw2]; exact jtwo (jlow _ _) (jlow _ _)
 have HT2 : Hid (Vn w2 w.heap.size 37 #[.int .u8 0, .int .i64 0, .string ⟨#[]⟩, .slice none 0 0, .int .i64 0, .int .i64 0]) := by rw [hw2]; exact (Vn.new w 37 #[.int .u8 0, .int .i64 0, .string ⟨#[]⟩, .slice none 0 0, .int .i64 0, .int .i64 0]).later (jlow _ _)
 have HF2 : Hid (Vn w2 (w.heap.size + 1) 25 #[.int .i64 0, .int .i64 0, .int .i64 0]) := by rw [hw2, ← hz1]; exact Vn.new _ _ _
 have hz2 : w2.heap.size = w.heap.size + 2 := by rw [hw2]; show (Array.push _ _).size = _; rw [Array.size_push, hz1]
 have HW2 : Hid (w2 = (w.alloc (.cells #[.int .u8 0, .int .i64 0, .string ⟨#[]⟩, .slice none 0 0, .int .i64 0, .int .i64 0] 37)).alloc (.cells #[.int .i64 0, .int .i64 0, .int .i64 0] 25)) := hw2
 have HEv := qa0 (he.later HB2.out)
 clear hw2 hz1 he
 have hmf : ∀ (fn : Fn) (first cap : Array Value) (w : World), (Instr.makeFunc fn first cap).run Tryz.prog w = .ok (.func fn first cap) w := fun _ _ _ _ => rfl
 go_enter_defers Tryz.func38, Tryz.ntmps38
 go_wp2_with (first
  | (go_at_call 53; rw [← HW2.out]; refine (qdn w2 s L hs a HC.out HEv.out).mono ?_; rintro e w3 ⟨x3, d3, rfl, ht3, hx3, hb3⟩; have HF3 := qa0 (HF2.out.later hb3); have HT3 := qa0 (HT2.out.later hb3); have HB3 := qa0 (HB2.out.trans (hb3.mono (by omega))); have HX3 := qa0 hx3; have HTk3 := qa0 ht3; have z3 := hb3.size; clear ht3 hx3 hb3)
  | (refine qa1 rfl 25 _ _ rfl (w.heap.size + 1) _ #[.int .i64 0, .int .i64 0, .int .i64 0] rfl rfl HF3.out qa5 rfl (qab rfl rfl rfl) ?_; intro w4 HF4 hg4; have z4 := hg4.out.size; have f0 := HF4.out.cell 0 _ rfl; have f1 := HF4.out.cell 1 _ rfl; have f2 := HF4.out.cell 2 _ rfl; have HT4 := qa0 (HT3.out.keptG hg4.out (by simp)); have HB4 := qa0 (HB3.out.trans (jbelow hg4.out (by omega) (fun g e => by cases e; omega))); have HN4 := qa0 (rnew w4 s x3 d3 L.length (gof s L) hs hfew (fun i hi => (HTk3.out i hi).keptBy (P := fun b => b ≠ w.heap.size + 1) (fun b hb hn => hg4.out.block b hb (fun e => hn (by cases e; rfl))) (fun b o e => by have := HX3.out b o e; omega)) (fun b o e => by have := HX3.out b o e; omega) (qcs s L)); clear hg4)
  | (go_at_call 55; refine HN4.out.mono ?_; rintro e w5 ⟨K, rfl, hKn, hKg, hR5, hr5, hbt5, hb5⟩; have HR5 := qa0 hR5; have HF5 := qa0 (HF4.out.later hb5); have HT5 := qa0 (HT4.out.later hb5); have HB5 := qa0 (HB4.out.trans (hb5.mono (by omega))); have z5 := hb5.size; clear hR5 hb5 f0 f1 f2)
  | (go_at_call 39; refine (HP.out K _ hKn hKg HR5.out).mono ?_; rintro e w6 ⟨⟨v, rfl, hfr, hr6⟩, hg6⟩; obtain ⟨xa, xc, rfl, _⟩ := hfr.now.form; have HFr := qa0 hfr; have HR6 := qa0 hr6; clear hfr hr6; have HF6 := qa0 (HF5.out.keptBy (hg6.block _ HF5.out.lt (by omega) (by omega))); have HT6 := qa0 (HT5.out.keptBy (hg6.block _ HT5.out.lt (by omega) (by omega))); have HB6 := qa0 (qg3 HB5.out hg6 (Nat.le_refl _) (by omega) (by omega)); have z6 := hg6.size; clear hg6)
  | (refine qa1 rfl 37 _ _ rfl w6.heap.size _ #[.int .u8 ((y []).k : Int), .int .i64 (y []).n, .string (y []).nm, .slice xa (y []).len xc, .int .i64 (y []).ln, .int .i64 (y []).cl] rfl rfl (Vn.new w6 _ _) qej rfl (all6 rfl rfl rfl rfl rfl rfl) ?_; intro w7 HM7 hg7; have HBm : Hid (Below w6.heap.size w6 w7) := (jlow _ _).trans (jbelow hg7.out (jlow _ _).size (fun g e => by cases e; exact Nat.le_refl _)); have z7 := HBm.out.size; have zm := HM7.out.lt; have HF7 := qa0 (HF6.out.later HBm.out); have HT7 := qa0 (HT6.out.later HBm.out); have HR7 := qa0 (HR6.out.later HBm.out); have HB7 := qa0 (HB6.out.trans (HBm.out.mono (by omega))); clear hg7)
  | (have hk0 : ¬ (K.g j2).k = 0 := (by rw [hKg]; exact HK.out); (go_at_call 56; refine ((rend K w7 _ HR7).mono (fun e w'' h => (⟨h.1.trans (if_neg hk0), h.2⟩ : e = mis (K.g j2) ∧ w7 = w''))).mono ?_; unfold mis; rintro e w8 ⟨rfl, rfl⟩)))
 rw [← hKg]
 refine leaves_cons (f := 81) (args := #[.pointer (some ⟨w.heap.size + 1, 0, none⟩)]) (by simp) (by simp [go_sem]) ?_
 refine (qey _ _ (w.heap.size + 1) _ _ _ HF7).mono ?_
 rintro e u' w8 ⟨rfl, rfl, hv8, hg8⟩
 have HT8 := HT7.out.keptG hg8 (by simp)
 have f0 := hv8.cell 0 _ rfl
 have f1 := hv8.cell 1 _ rfl
 have f2 := hv8.cell 2 _ rfl
 have t0 := HT8.cell 0 _ rfl
 have t1 := HT8.cell 1 _ rfl
 have t2 := HT8.cell 2 _ rfl
 have t3 := HT8.cell 3 _ rfl
 have t4 := HT8.cell 4 _ rfl
 have t5 := HT8.cell 5 _ rfl
 have HB8 := HB7.out.trans (jbelow hg8 (by omega) (fun g e => by cases e; omega))
 simp [Leaves, settle, results, Tryz.results38, go_sem, f0, f1, f2, t0, t1, t2, t3, t4, t5, HB8]
theorem readE_ok (w : World) (s : ByteArray) (L : List Tk) (a : Nat) (y : Xt) (hs : s.size ≤ 65536) (hc : Cuts s 0 L 0 a) (he : Ev9 w)
  (HP : Hid (∀ (K : Rk) (w' : World), K.n = L.length → K.g = gof s L → Rr K w' 0 → Calls Tryz.prog 39 #[.pointer (some ⟨K.r, 0, none⟩)] w' fun e w'' => (∃ v, e = .returned v ∧ Fr w'.heap.size w'' (fun u => XV u v y) ∧ Rr K w'' L.length) ∧ Gk K w' w'')) :
  Calls Tryz.prog 38 #[.string s, .func (.func 39) #[] #[]] w fun e w' => (∃ v, e = .returned (.tuple #[v, .agg #[.int .i64 0, .int .i64 0, .int .i64 0]]) ∧ Fr w.heap.size w' (fun u => XV u v y)) ∧ Below w.heap.size w w' := by
 have hfew : L.length ≤ 1000000000 := by have := qei hc; omega
 have HC := qa0 hc
 clear hc
 obtain ⟨w2, hw2⟩ : ∃ w2, w2 = (w.alloc (.cells #[.int .u8 0, .int .i64 0, .string ⟨#[]⟩, .slice none 0 0, .int .i64 0, .int .i64 0] 37)).alloc (.cells #[.int .i64 0, .int .i64 0, .int .i64 0] 25) := ⟨_, rfl⟩
 have hz1 : (w.alloc (.cells #[.int .u8 0, .int .i64 0, .string ⟨#[]⟩, .slice none 0 0, .int .i64 0, .int .i64 0] 37)).heap.size = w.heap.size + 1 := Array.size_push _
 have HB2 : Hid (Below w.heap.size w w2) := by rw [hw2]; exact jtwo (jlow _ _) (jlow _ _)
 have HT2 : Hid (Vn w2 w.heap.size 37 #[.int .u8 0, .int .i64 0, .string ⟨#[]⟩, .slice none 0 0, .int .i64 0, .int .i64 0]) := by rw [hw2]; exact (Vn.new w 37 #[.int .u8 0, .int .i64 0, .string ⟨#[]⟩, .slice none 0 0, .int .i64 0, .int .i64 0]).later (jlow _ _)
 have HF2 : Hid (Vn w2 (w.heap.size + 1) 25 #[.int .i64 0, .int .i64 0, .int .i64 0]) := by rw [hw2, ← hz1]; exact Vn.new _ _ _
 have hz2 : w2.heap.size = w.heap.size + 2 := by rw [hw2]; show (Array.push _ _).size = _; rw [Array.size_push, hz1]
 have HW2 : Hid (w2 = (w.alloc (.cells #[.int .u8 0, .int .i64 0, .string ⟨#[]⟩, .slice none 0 0, .int .i64 0, .int .i64 0] 37)).alloc (.cells #[.int .i64 0, .int .i64 0, .int .i64 0] 25)) := hw2
 have HEv := qa0 (he.later HB2.out)
 clear hw2 hz1 he
 have hmf : ∀ (fn : Fn) (first cap : Array Value) (w : World), (Instr.makeFunc fn first cap).run Tryz.prog w = .ok (.func fn first cap) w := fun _ _ _ _ => rfl
 go_enter_defers Tryz.func38, Tryz.ntmps38
 go_wp2_with (first
  | (go_at_call 53; rw [← HW2.out]; refine (qdn w2 s L hs a HC.out HEv.out).mono ?_; rintro e w3 ⟨x3, d3, rfl, ht3, hx3, hb3⟩; have HF3 := qa0 (HF2.out.later hb3); have HT3 := qa0 (HT2.out.later hb3); have HB3 := qa0 (HB2.out.trans (hb3.mono (by omega))); have HX3 := qa0 hx3; have HTk3 := qa0 ht3; have z3 := hb3.size; clear ht3 hx3 hb3)
  | (refine qa1 rfl 25 _ _ rfl (w.heap.size + 1) _ #[.int .i64 0, .int .i64 0, .int .i64 0] rfl rfl HF3.out qa5 rfl (qab rfl rfl rfl) ?_; intro w4 HF4 hg4; have z4 := hg4.out.size; have f0 := HF4.out.cell 0 _ rfl; have f1 := HF4.out.cell 1 _ rfl; have f2 := HF4.out.cell 2 _ rfl; have HT4 := qa0 (HT3.out.keptG hg4.out (by simp)); have HB4 := qa0 (HB3.out.trans (jbelow hg4.out (by omega) (fun g e => by cases e; omega))); have HN4 := qa0 (rnew w4 s x3 d3 L.length (gof s L) hs hfew (fun i hi => (HTk3.out i hi).keptBy (P := fun b => b ≠ w.heap.size + 1) (fun b hb hn => hg4.out.block b hb (fun e => hn (by cases e; rfl))) (fun b o e => by have := HX3.out b o e; omega)) (fun b o e => by have := HX3.out b o e; omega) (qcs s L)); clear hg4)
  | (go_at_call 55; refine HN4.out.mono ?_; rintro e w5 ⟨K, rfl, hKn, hKg, hR5, hr5, hbt5, hb5⟩; have HR5 := qa0 hR5; have HF5 := qa0 (HF4.out.later hb5); have HT5 := qa0 (HT4.out.later hb5); have HB5 := qa0 (HB4.out.trans (hb5.mono (by omega))); have z5 := hb5.size; clear hR5 hb5 f0 f1 f2)
  | (go_at_call 39; refine (HP.out K _ hKn hKg HR5.out).mono ?_; rintro e w6 ⟨⟨v, rfl, hfr, hr6⟩, hg6⟩; obtain ⟨xa, xc, rfl, _⟩ := hfr.now.form; have HFr := qa0 hfr; have HR6 := qa0 hr6; clear hfr hr6; have HF6 := qa0 (HF5.out.keptBy (hg6.block _ HF5.out.lt (by omega) (by omega))); have HT6 := qa0 (HT5.out.keptBy (hg6.block _ HT5.out.lt (by omega) (by omega))); have HB6 := qa0 (qg3 HB5.out hg6 (Nat.le_refl _) (by omega) (by omega)); have z6 := hg6.size; clear hg6)
  | (refine qa1 rfl 37 _ _ rfl w6.heap.size _ #[.int .u8 ((y []).k : Int), .int .i64 (y []).n, .string (y []).nm, .slice xa (y []).len xc, .int .i64 (y []).ln, .int .i64 (y []).cl] rfl rfl (Vn.new w6 _ _) qej rfl (all6 rfl rfl rfl rfl rfl rfl) ?_; intro w7 HM7 hg7; have HBm : Hid (Below w6.heap.size w6 w7) := (jlow _ _).trans (jbelow hg7.out (jlow _ _).size (fun g e => by cases e; exact Nat.le_refl _)); have z7 := HBm.out.size; have zm := HM7.out.lt; have HF7 := qa0 (HF6.out.later HBm.out); have HT7 := qa0 (HT6.out.later HBm.out); have HR7 := qa0 (HR6.out.later HBm.out); have HB7 := qa0 (HB6.out.trans (HBm.out.mono (by omega))); clear hg7)
  | (have hk0 : (K.g L.length).k = 0 := (by rw [hKg, qcs]); (go_at_call 56; refine ((rend K w7 _ HR7).mono (fun e w'' h => (⟨h.1.trans (if_pos hk0), h.2⟩ : e = .returned (.tuple #[]) ∧ w7 = w''))).mono ?_; rintro e w8 ⟨rfl, rfl⟩; have m0 := HM7.out.cell 0 _ rfl; have m1 := HM7.out.cell 1 _ rfl; have m2 := HM7.out.cell 2 _ rfl; have m3 := HM7.out.cell 3 _ rfl; have m4 := HM7.out.cell 4 _ rfl; have m5 := HM7.out.cell 5 _ rfl))
  | (refine qa1 rfl 37 _ _ rfl w.heap.size _ #[.int .u8 ((y []).k : Int), .int .i64 (y []).n, .string (y []).nm, .slice xa (y []).len xc, .int .i64 (y []).ln, .int .i64 (y []).cl] rfl rfl HT7.out qej rfl (all6 rfl rfl rfl rfl rfl rfl) ?_; intro w9 HT9 hg9; have HF9 := qa0 (HF7.out.keptG hg9.out (by simp)); have z9 := hg9.out.size; have HG9 := hg9; clear hg9)
  | (refine qa1 rfl 25 _ _ rfl (w.heap.size + 1) _ #[.int .i64 0, .int .i64 0, .int .i64 0] rfl rfl HF9.out qa5 rfl (qab rfl rfl rfl) ?_; intro w10 HFa hga; have HTa := qa0 (HT9.out.keptG hga.out (by simp)); have za := hga.out.size; have HGa := hga; clear hga))
 refine leaves_cons (f := 81) (args := #[.pointer (some ⟨w.heap.size + 1, 0, none⟩)]) (by simp) (by simp [go_sem]) ?_
 refine (qgz _ (w.heap.size + 1)).mono ?_
 rintro e u' w8 ⟨rfl, rfl, hb8⟩
 have HT8 := HTa.out.later hb8
 have HF8 := HFa.out.later hb8
 have f0 := HF8.cell 0 _ rfl
 have f1 := HF8.cell 1 _ rfl
 have f2 := HF8.cell 2 _ rfl
 have t0 := HT8.cell 0 _ rfl
 have t1 := HT8.cell 1 _ rfl
 have t2 := HT8.cell 2 _ rfl
 have t3 := HT8.cell 3 _ rfl
 have t4 := HT8.cell 4 _ rfl
 have t5 := HT8.cell 5 _ rfl
 have HB8 : Below w.heap.size w w8 := ((HB7.out.trans (jbelow HG9.out (by omega) (fun g e => by cases e; omega))).trans (jbelow HGa.out (by omega) (fun g e => by cases e; omega))).trans (hb8.mono (by omega))
 have hag : Ag w5.heap.size w6 w8 := (((Ag.of HBm.out).trans (qez HG9.out (by omega))).trans (qez HGa.out (by omega))).trans (Ag.of hb8)
 have hfin := (HFr.out.step hag).weak (s := w.heap.size) (by omega)
 simp [Leaves, settle, results, Tryz.results38, go_sem, f0, f1, f2, t0, t1, t2, t3, t4, t5, HB8]
 exact hfin
theorem qjy (w : World) (s : ByteArray) (L : List Tk) (E a : Nat) (h : CutA s L E a) (hE : E ≠ 0) (he : Ev9 w) :
  Calls Tryz.prog 38 #[.string s, .func (.func 39) #[] #[]] w fun e w' => e = .returned (.tuple #[.agg #[.int .u8 0, .int .i64 0, .string ⟨#[]⟩, .slice none 0 0, .int .i64 0, .int .i64 0], .agg #[.int .i64 (E : Int), .int .i64 (lnn s a : Nat), .int .i64 (cln s a : Nat)]]) ∧ Below w.heap.size w w' := by
 obtain ⟨w2, hw2⟩ : ∃ w2, w2 = (w.alloc (.cells #[.int .u8 0, .int .i64 0, .string ⟨#[]⟩, .slice none 0 0, .int .i64 0, .int .i64 0] 37)).alloc (.cells #[.int .i64 0, .int .i64 0, .int .i64 0] 25) := ⟨_, rfl⟩
 have hz1 : (w.alloc (.cells #[.int .u8 0, .int .i64 0, .string ⟨#[]⟩, .slice none 0 0, .int .i64 0, .int .i64 0] 37)).heap.size = w.heap.size + 1 := Array.size_push _
 have HB2 : Hid (Below w.heap.size w w2) := by rw [hw2]; exact jtwo (jlow _ _) (jlow _ _)
 have HT2 : Hid (Vn w2 w.heap.size 37 #[.int .u8 0, .int .i64 0, .string ⟨#[]⟩, .slice none 0 0, .int .i64 0, .int .i64 0]) := by rw [hw2]; exact (Vn.new w 37 #[.int .u8 0, .int .i64 0, .string ⟨#[]⟩, .slice none 0 0, .int .i64 0, .int .i64 0]).later (jlow _ _)
 have HF2 : Hid (Vn w2 (w.heap.size + 1) 25 #[.int .i64 0, .int .i64 0, .int .i64 0]) := by rw [hw2, ← hz1]; exact Vn.new _ _ _
 have hz2 : w2.heap.size = w.heap.size + 2 := by rw [hw2]; show (Array.push _ _).size = _; rw [Array.size_push, hz1]
 have HW2 : Hid (w2 = (w.alloc (.cells #[.int .u8 0, .int .i64 0, .string ⟨#[]⟩, .slice none 0 0, .int .i64 0, .int .i64 0] 37)).alloc (.cells #[.int .i64 0, .int .i64 0, .int .i64 0] 25)) := hw2
 have HEv := qa0 (he.later HB2.out)
 clear hw2 hz1 he
 have hmf : ∀ (fn : Fn) (first cap : Array Value) (w : World), (Instr.makeFunc fn first cap).run Tryz.prog w = .ok (.func fn first cap) w := fun _ _ _ _ => rfl
 have HCt := qa0 (qjv w2 s L E a h hE HEv.out)
 generalize lnn s a = ln at *
 generalize cln s a = cl at *
 have hE2 : ¬ (E : Int) = 0 := by omega
 clear h
 go_enter_defers Tryz.func38, Tryz.ntmps38
 go_wp2_with (first
  | (go_at_call 53; rw [← HW2.out]; refine HCt.out.mono ?_; rintro e w3 ⟨rfl, hb3⟩; have HF3 := qa0 (HF2.out.later hb3); have HT3 := qa0 (HT2.out.later hb3); have HB3 := qa0 (HB2.out.trans (hb3.mono (by omega))); have z3 := hb3.size; clear hb3)
  | (refine qa1 rfl 25 _ _ rfl (w.heap.size + 1) _ #[.int .i64 (E : Int), .int .i64 (ln : Int), .int .i64 (cl : Int)] rfl rfl HF3.out qa5 rfl (qab rfl rfl rfl) ?_; intro w4 HF4 hg4; have z4 := hg4.out.size; have f0 := HF4.out.cell 0 _ rfl; have f1 := HF4.out.cell 1 _ rfl; have f2 := HF4.out.cell 2 _ rfl; have HT4 := qa0 (HT3.out.keptG hg4.out (by simp)); have HB4 := qa0 (HB3.out.trans (jbelow hg4.out (by omega) (fun g e => by cases e; omega))); clear hg4))
 refine wp_region_noPanic ?_
 refine wp_region_held (S := fun w' => Vn w' w.heap.size 37 #[.int .u8 0, .int .i64 0, .string ⟨#[]⟩, .slice none 0 0, .int .i64 0, .int .i64 0] ∧ Vn w' (w.heap.size + 1) 25 #[.int .i64 (E : Int), .int .i64 (ln : Int), .int .i64 (cl : Int)]) (by kernel_rfl) ?_
 change wpAnyH _ _ _ _ _ _ _ _ (World.drew _)
 obtain ⟨wd, HWd⟩ : ∃ wd, Hid (w4.drew = wd) := ⟨_, rfl⟩
 have HBd : Hid (Below w.heap.size w wd) := by show Below _ _ _; rw [← HWd.out]; exact HB4.out.drew
 have HTd : Hid (Vn wd w.heap.size 37 #[.int .u8 0, .int .i64 0, .string ⟨#[]⟩, .slice none 0 0, .int .i64 0, .int .i64 0]) := by show Vn _ _ _ _; rw [← HWd.out]; exact HT4.out
 have HFd : Hid (Vn wd (w.heap.size + 1) 25 #[.int .i64 (E : Int), .int .i64 (ln : Int), .int .i64 (cl : Int)]) := by show Vn _ _ _ _; rw [← HWd.out]; exact HF4.out
 have zd : w.heap.size + 2 ≤ wd.heap.size := by rw [← HWd.out]; show _ ≤ w4.heap.size; omega
 rw [HWd.out]
 clear HWd HT4 HF4 HB4 f0 f1 f2
 refine wtkq 0 ?v0 rfl (by kernel_rfl) (fun _ _ _ h => h) (by rfl) ?y0 ⟨HTd.out, HFd.out⟩ ?z0
 case y0 => (intro w hSw; (try dsimp only at hSw); obtain ⟨hS1, hS2⟩ := hSw; have s0 := hS1.cell 0 _ rfl; have s1 := hS1.cell 1 _ rfl; have s2 := hS1.cell 2 _ rfl; have s3 := hS1.cell 3 _ rfl; have s4 := hS1.cell 4 _ rfl; have s5 := hS1.cell 5 _ rfl; have r0 := hS2.cell 0 _ rfl; have r1 := hS2.cell 1 _ rfl; have r2 := hS2.cell 2 _ rfl; clear hS1 hS2; go_simp; try with_reducible rfl)
 try simp only [mz1, mz3, Act.put, mz4, mz5, mz6]
 refine wtkq 1 ?v1 rfl (by kernel_rfl) (fun _ _ _ h => h) (by rfl) ?y1 ⟨HTd.out, HFd.out⟩ ?z1
 case y1 => (intro w hSw; (try dsimp only at hSw); obtain ⟨hS1, hS2⟩ := hSw; have s0 := hS1.cell 0 _ rfl; have s1 := hS1.cell 1 _ rfl; have s2 := hS1.cell 2 _ rfl; have s3 := hS1.cell 3 _ rfl; have s4 := hS1.cell 4 _ rfl; have s5 := hS1.cell 5 _ rfl; have r0 := hS2.cell 0 _ rfl; have r1 := hS2.cell 1 _ rfl; have r2 := hS2.cell 2 _ rfl; clear hS1 hS2; go_simp; try with_reducible rfl)
 try simp only [mz1, mz2, mz3, Act.put, mz4, mz5, mz6]
 refine wpAnyH_ready (rs := [2]) (by kernel_rfl) (by simp) ?_
 refine AllReadyH.cons rfl (fun K hK => ?_) AllReadyH.nil
 refine qa9 37 _ _ rfl w.heap.size _ #[.int .u8 0, .int .i64 0, .string ⟨#[]⟩, .slice none 0 0, .int .i64 0, .int .i64 0] rfl rfl HTd.out qej rfl (all6 rfl rfl rfl rfl rfl rfl) ?_; intro we HTe hge; have HFe := qa0 (HFd.out.keptG hge.out (by simp)); have ze := hge.out.size; have HGe := hge; clear hge
 refine hK.out _ _ ⟨HTe.out, HFe.out⟩ (fun _ => ?_)
 clear hK K
 try simp only [mz1, mz2, mz3, Act.put]
 refine wpAnyH_ready (rs := [3]) (by kernel_rfl) (by simp) ?_
 refine AllReadyH.cons rfl (fun K hK => ?_) AllReadyH.nil
 refine qa9 25 _ _ rfl (w.heap.size + 1) _ #[.int .i64 (E : Int), .int .i64 (ln : Int), .int .i64 (cl : Int)] rfl rfl HFe.out qa5 rfl (qab rfl rfl rfl) ?_; intro w8 HF8 hg8; have HT8 := qa0 (HTe.out.keptG hg8.out (by simp))
 refine hK.out _ _ ⟨HT8.out, HF8.out⟩ (fun _ => ?_)
 clear hK K
 try simp only [mz1, mz2, mz3, Act.put]
 refine wpAnyH_done (by kernel_rfl) ?_ _
 refine NoPanic.normal ?_
 try simp only [mz1, mz2, mz3, Act.put, mz4, mz5, mz6]
 go_wp2
 have f0 := HF8.out.cell 0 _ rfl
 have f1 := HF8.out.cell 1 _ rfl
 have f2 := HF8.out.cell 2 _ rfl
 have t0 := HT8.out.cell 0 _ rfl
 have t1 := HT8.out.cell 1 _ rfl
 have t2 := HT8.out.cell 2 _ rfl
 have t3 := HT8.out.cell 3 _ rfl
 have t4 := HT8.out.cell 4 _ rfl
 have t5 := HT8.out.cell 5 _ rfl
 have HB8 : Below w.heap.size w w8 := (HBd.out.trans (jbelow HGe.out (by omega) (fun g e => by cases e; omega))).trans (jbelow hg8.out (by omega) (fun g e => by cases e; omega))
 simp [bodyPostD, Leaves, results, Tryz.results38, go_sem, f0, f1, f2, t0, t1, t2, t3, t4, t5, HB8]
theorem readE (w : World) (s : ByteArray) (L : List Tk) (E a : Nat) (h : CutA s L E a) (he : Ev9 w) : Calls Tryz.prog 38 #[.string s, .func (.func 39) #[] #[]] w (RdA XV (.agg #[.int .u8 0, .int .i64 0, .string ⟨#[]⟩, .slice none 0 0, .int .i64 0, .int .i64 0]) s L E a (pX (tks s L)) w) := by
 by_cases hE : E = 0
 ·subst hE
  obtain ⟨hs, hc⟩ : s.size ≤ 65536 ∧ Cuts s 0 L 0 a := by
   rcases h with ⟨_, _, h, _⟩ | h
   ·cases h
   ·exact h
  have hsuf : Suf (pX (tks s L)) (tks s L) := qd3 _
  cases hq : pX (tks s L) with
  | error r =>
   refine (qjw w s L a (gof s L (L.length - r.length)) hs hc he (fun K w' hn hg hR => (qbp K (qd0 hs hc hn hg) w' 0 hR).mono (fun e w'' h => by rw [qeh hn hg, hq] at h; have h2 := qat h; rw [hn, hg] at h2; exact h2))).mono ?_
   rintro e w' ⟨rfl, hb⟩
   exact ⟨hb, Eq.mpr (if_pos rfl) rfl⟩
  | ok p =>
   obtain ⟨y, r⟩ := p
   cases r with
   | nil =>
    refine (readE_ok w s L a y hs hc he (fun K w' hn hg hR => (qbp K (qd0 hs hc hn hg) w' 0 hR).mono (fun e w'' h => by rw [qeh hn hg, hq] at h; have h2 := qbe h; rw [hn] at h2; exact h2))).mono ?_
    rintro e w' ⟨hv, hb⟩
    exact ⟨hb, Eq.mpr (if_pos rfl) hv⟩
   | cons t r =>
    rw [hq] at hsuf
    have hle : (t :: r).length ≤ (tks s L).length := List.IsSuffix.length_le hsuf
    rw [tks, List.length_map, List.length_cons] at hle
    have hk : (gof s L (L.length - (t :: r).length)).k ≠ 0 := (qd0 (K := ⟨0, 0, 0, 0, none, 0, L.length, gof s L⟩) hs hc rfl rfl).some_ _ (by show _ < L.length; rw [List.length_cons]; omega)
    refine (qjx w s L a (L.length - (t :: r).length) y hs hc he hk (fun K w' hn hg hR => (qbp K (qd0 hs hc hn hg) w' 0 hR).mono (fun e w'' h => by rw [qeh hn hg, hq] at h; have h2 := qbe h; rw [hn] at h2; exact h2))).mono ?_
    rintro e w' ⟨rfl, hb⟩
    exact ⟨hb, Eq.mpr (if_pos rfl) rfl⟩
 ·refine (qjy w s L E a h hE he).mono ?_
  rintro e w' ⟨rfl, hb⟩
  exact ⟨hb, Eq.mpr (if_neg hE) rfl⟩
end Go.Proofs.YtnjcpmkfghcogaaGreatDoor
