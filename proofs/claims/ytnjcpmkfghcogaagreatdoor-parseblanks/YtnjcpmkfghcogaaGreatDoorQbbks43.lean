/-
  Contracts of the program's parse: read, a description.
  Contracts of the program's parse: Program, where the text is not read, and where what it tells may be.
  Contracts of the program's parse: sort.Search over a closure of one variable, the first item too much.
  Contracts of the program's parse: the first item too much, Program whole.
-/
import Derived.Test.YtnjcpmkfghcogaaGreatDoorQbbks00
import Derived.Test.YtnjcpmkfghcogaaGreatDoorQbbks42
import Derived.Test.YtnjcpmkfghcogaaGreatDoorQbbks14
import Derived.Deep.LoopGhost
set_option maxRecDepth 100000
set_option maxHeartbeats 16000000
namespace Go.Proofs.YtnjcpmkfghcogaaGreatDoor
open Go.RowKit
theorem qh0 (w : World) (t : TV) (bf : Nat) (f0 f1 f2 : Value) (HV : Hid (Vn w bf 25 #[f0, f1, f2])) :
  CallsD Tryz.prog 54 #[.pointer (some ⟨bf, 0, none⟩)] (.panicking [{ v := .iface 96 (.agg (tvq t)), recovered := false }]) w fun e u' w' =>
   e = .returned (.tuple #[]) ∧ u' = .panicking [{ v := .iface 96 (.agg (tvq t)), recovered := true }] ∧ Vn w' bf 25 #[.int .i64 110, .int .i64 t.ln, .int .i64 t.cl] ∧ w.grownBy w' (some bf) := by
 unfold tvq
 have hta := tas11
 refine callsD_of_wpS Tryz.func54 rfl fun c₀ cs hu => ?_
 apply wpS_seq
 apply wpS_region
 simp [wpOpsS, go_sem, recoverD, hu, Tryz.ntmps54, Exit.thenS]
 refine wpS_of_wp ?_
 rw [show (Array.replicate 18 undef : Array Value) = #[undef, undef, undef, undef, undef, undef, undef, undef, undef, undef, undef, undef, undef, undef, undef, undef, undef, undef] from rfl]
 go_wp2_with (refine qa1 rfl 25 _ _ rfl bf _ #[.int .i64 110, .int .i64 t.ln, .int .i64 t.cl] rfl rfl (HV.out.later (jlow _ _)) qa5 rfl (qab rfl rfl rfl) ?_; intro w8 HV8 hg8)
 have hg : w.grownBy w8 (some bf) := by
  have hb := jlow w (.cells #[.int .u8 (t.k : Int), .string t.tx, .int .i64 t.n, .int .i64 t.ln, .int .i64 t.cl] 96)
  exact ⟨by rw [hg8.out.os, hb.os], by rw [hg8.out.tape, hb.tape], by rw [hg8.out.output, hb.output], Nat.le_trans hb.size hg8.out.size, fun k hk hn => by rw [hg8.out.block k (Nat.lt_of_lt_of_le hk hb.size) hn, hb.block k hk]⟩
 have hv := HV8.out
 simp [bodyPostS, results, Tryz.results54, hv, hg]
theorem qg4 (w : World) (bf : Nat) :
  CallsD Tryz.prog 54 #[.pointer (some ⟨bf, 0, none⟩)] .returning w fun e u' w' => e = .returned (.tuple #[]) ∧ u' = .returning ∧ Below w.heap.size w w' := by
 refine callsD_of_wpS Tryz.func54 rfl fun c₀ cs hu => ?_
 apply wpS_seq
 apply wpS_region
 simp [wpOpsS, go_sem, recoverD, hu, Tryz.ntmps54, Exit.thenS]
 refine wpS_of_wp ?_
 rw [show (Array.replicate 18 undef : Array Value) = #[undef, undef, undef, undef, undef, undef, undef, undef, undef, undef, undef, undef, undef, undef, undef, undef, undef, undef] from rfl]
 have htn : ∀ w : World, (Instr.typeAssert .nilIface 20 96 true).run Tryz.prog w = .ok (.tuple #[.agg #[.int .u8 0, .string ⟨#[]⟩, .int .i64 0, .int .i64 0, .int .i64 0], .bool false]) w := tan11
 go_wp2
 cases c₀
 simp_all [bodyPostS, results, Tryz.results54]
 exact jlow _ _
theorem qjz (w : World) (s : ByteArray) (L : List Tk) (a : Nat) (t : TV) (hs : s.size ≤ 65536) (hc : Cuts s 0 L 0 a) (he : Ev9 w)
  (HP : Hid (∀ (K : Rk) (w' : World), K.n = L.length → K.g = gof s L → Rr K w' 0 → Calls Tryz.prog 29 #[.pointer (some ⟨K.r, 0, none⟩)] w' fun e w'' => e = mis t ∧ Gk K w' w'')) :
  Calls Tryz.prog 28 #[.string s, .func (.func 29) #[] #[]] w fun e w' => e = .returned (.tuple #[.slice none 0 0, .agg #[.int .i64 110, .int .i64 t.ln, .int .i64 t.cl]]) ∧ Below w.heap.size w w' := by
 have hfew : L.length ≤ 1000000000 := by have := qei hc; omega
 have HC := qa0 hc
 clear hc
 obtain ⟨w2, hw2⟩ : ∃ w2, w2 = w.alloc (.cells #[.int .i64 0, .int .i64 0, .int .i64 0] 25) := ⟨_, rfl⟩
 have HB2 : Hid (Below w.heap.size w w2) := by rw [hw2]; exact jlow _ _
 have HF2 : Hid (Vn w2 w.heap.size 25 #[.int .i64 0, .int .i64 0, .int .i64 0]) := by rw [hw2]; exact Vn.new _ _ _
 have hz2 : w2.heap.size = w.heap.size + 1 := by rw [hw2]; exact Array.size_push _
 have HW2 : Hid (w2 = w.alloc (.cells #[.int .i64 0, .int .i64 0, .int .i64 0] 25)) := hw2
 have HEv := qa0 (he.later HB2.out)
 clear hw2 he
 have hmf : ∀ (fn : Fn) (first cap : Array Value) (w : World), (Instr.makeFunc fn first cap).run Tryz.prog w = .ok (.func fn first cap) w := fun _ _ _ _ => rfl
 unfold mis at HP
 go_enter_defers Tryz.func28, Tryz.ntmps28
 go_wp2_with (first
  | (go_at_call 53; rw [← HW2.out]; refine (qdn w2 s L hs a HC.out HEv.out).mono ?_; rintro e w3 ⟨x3, d3, rfl, ht3, hx3, hb3⟩; have HF3 := qa0 (HF2.out.later hb3); have HB3 := qa0 (HB2.out.trans (hb3.mono (by omega))); have HX3 := qa0 hx3; have HTk3 := qa0 ht3; have z3 := hb3.size; clear ht3 hx3 hb3)
  | (refine qa1 rfl 25 _ _ rfl w.heap.size _ #[.int .i64 0, .int .i64 0, .int .i64 0] rfl rfl HF3.out qa5 rfl (qab rfl rfl rfl) ?_; intro w4 HF4 hg4; have z4 := hg4.out.size; have f0 := HF4.out.cell 0 _ rfl; have f1 := HF4.out.cell 1 _ rfl; have f2 := HF4.out.cell 2 _ rfl; have HB4 := qa0 (HB3.out.trans (jbelow hg4.out (by omega) (fun g e => by cases e; omega))); have HN4 := qa0 (rnew w4 s x3 d3 L.length (gof s L) hs hfew (fun i hi => (HTk3.out i hi).keptBy (P := fun b => b ≠ w.heap.size) (fun b hb hn => hg4.out.block b hb (fun e => hn (by cases e; rfl))) (fun b o e => by have := HX3.out b o e; omega)) (fun b o e => by have := HX3.out b o e; omega) (qcs s L)); clear hg4)
  | (go_at_call 55; refine HN4.out.mono ?_; rintro e w5 ⟨K, rfl, hKn, hKg, hR5, hr5, hbt5, hb5⟩; have HR5 := qa0 hR5; have HF5 := qa0 (HF4.out.later hb5); have HB5 := qa0 (HB4.out.trans (hb5.mono (by omega))); have z5 := hb5.size; clear hR5 hb5 f0 f1 f2)
  | (go_at_call 29; refine (HP.out K _ hKn hKg HR5.out).mono ?_; rintro e w6 ⟨rfl, hg6⟩; have HF6 := qa0 (HF5.out.keptBy (hg6.block _ HF5.out.lt (by omega) (by omega))); have HB6 := qa0 (qg3 HB5.out hg6 (Nat.le_refl _) (by omega) (by omega)); have z6 := hg6.size; clear hg6))
 refine leaves_cons (f := 54) (args := #[.pointer (some ⟨w.heap.size, 0, none⟩)]) (by simp) (by simp [go_sem]) ?_
 refine (qh0 _ _ w.heap.size _ _ _ HF6).mono ?_
 rintro e u' w8 ⟨rfl, rfl, hv8, hg8⟩
 have f0 := hv8.cell 0 _ rfl
 have f1 := hv8.cell 1 _ rfl
 have f2 := hv8.cell 2 _ rfl
 have HB8 := HB6.out.trans (jbelow hg8 (by omega) (fun g e => by cases e; omega))
 simp [Leaves, settle, results, Tryz.results28, go_sem, f0, f1, f2, HB8]
theorem readD_ok (w : World) (s : ByteArray) (L : List Tk) (a : Nat) (y : List It) (hs : s.size ≤ 65536) (hc : Cuts s 0 L 0 a) (he : Ev9 w)
  (HP : Hid (∀ (K : Rk) (w' : World), K.n = L.length → K.g = gof s L → Rr K w' 0 → Calls Tryz.prog 29 #[.pointer (some ⟨K.r, 0, none⟩)] w' fun e w'' => (∃ v, e = .returned v ∧ Fr w'.heap.size w'' (fun u => ItV u v y) ∧ Rr K w'' L.length) ∧ Gk K w' w'')) :
  Calls Tryz.prog 28 #[.string s, .func (.func 29) #[] #[]] w fun e w' => (∃ v, e = .returned (.tuple #[v, .agg #[.int .i64 0, .int .i64 0, .int .i64 0]]) ∧ Fr w.heap.size w' (fun u => ItV u v y)) ∧ Below w.heap.size w w' := by
 have hfew : L.length ≤ 1000000000 := by have := qei hc; omega
 have HC := qa0 hc
 clear hc
 obtain ⟨w2, hw2⟩ : ∃ w2, w2 = w.alloc (.cells #[.int .i64 0, .int .i64 0, .int .i64 0] 25) := ⟨_, rfl⟩
 have HB2 : Hid (Below w.heap.size w w2) := by rw [hw2]; exact jlow _ _
 have HF2 : Hid (Vn w2 w.heap.size 25 #[.int .i64 0, .int .i64 0, .int .i64 0]) := by rw [hw2]; exact Vn.new _ _ _
 have hz2 : w2.heap.size = w.heap.size + 1 := by rw [hw2]; exact Array.size_push _
 have HW2 : Hid (w2 = w.alloc (.cells #[.int .i64 0, .int .i64 0, .int .i64 0] 25)) := hw2
 have HEv := qa0 (he.later HB2.out)
 clear hw2 he
 have hmf : ∀ (fn : Fn) (first cap : Array Value) (w : World), (Instr.makeFunc fn first cap).run Tryz.prog w = .ok (.func fn first cap) w := fun _ _ _ _ => rfl
 go_enter_defers Tryz.func28, Tryz.ntmps28
 go_wp2_with (first
  | (go_at_call 53; rw [← HW2.out]; refine (qdn w2 s L hs a HC.out HEv.out).mono ?_; rintro e w3 ⟨x3, d3, rfl, ht3, hx3, hb3⟩; have HF3 := qa0 (HF2.out.later hb3); have HB3 := qa0 (HB2.out.trans (hb3.mono (by omega))); have HX3 := qa0 hx3; have HTk3 := qa0 ht3; have z3 := hb3.size; clear ht3 hx3 hb3)
  | (refine qa1 rfl 25 _ _ rfl w.heap.size _ #[.int .i64 0, .int .i64 0, .int .i64 0] rfl rfl HF3.out qa5 rfl (qab rfl rfl rfl) ?_; intro w4 HF4 hg4; have z4 := hg4.out.size; have f0 := HF4.out.cell 0 _ rfl; have f1 := HF4.out.cell 1 _ rfl; have f2 := HF4.out.cell 2 _ rfl; have HB4 := qa0 (HB3.out.trans (jbelow hg4.out (by omega) (fun g e => by cases e; omega))); have HN4 := qa0 (rnew w4 s x3 d3 L.length (gof s L) hs hfew (fun i hi => (HTk3.out i hi).keptBy (P := fun b => b ≠ w.heap.size) (fun b hb hn => hg4.out.block b hb (fun e => hn (by cases e; rfl))) (fun b o e => by have := HX3.out b o e; omega)) (fun b o e => by have := HX3.out b o e; omega) (qcs s L)); clear hg4)
  | (go_at_call 55; refine HN4.out.mono ?_; rintro e w5 ⟨K, rfl, hKn, hKg, hR5, hr5, hbt5, hb5⟩; have HR5 := qa0 hR5; have HF5 := qa0 (HF4.out.later hb5); have HB5 := qa0 (HB4.out.trans (hb5.mono (by omega))); have z5 := hb5.size; clear hR5 hb5 f0 f1 f2)
  | (go_at_call 29; refine (HP.out K _ hKn hKg HR5.out).mono ?_; rintro e w6 ⟨⟨v, rfl, hfr, hr6⟩, hg6⟩; obtain ⟨xa, xc, rfl, _⟩ := hfr.now; have HFr := qa0 hfr; have HR6 := qa0 hr6; clear hfr hr6; have HF6 := qa0 (HF5.out.keptBy (hg6.block _ HF5.out.lt (by omega) (by omega))); have HB6 := qa0 (qg3 HB5.out hg6 (Nat.le_refl _) (by omega) (by omega)); have z6 := hg6.size; clear hg6)
  | (have hk0 : (K.g L.length).k = 0 := (by rw [hKg, qcs]); go_at_call 56; refine ((rend K w6 _ HR6).mono (fun e w'' h => (⟨h.1.trans (if_pos hk0), h.2⟩ : e = .returned (.tuple #[]) ∧ w6 = w''))).mono ?_; rintro e w8 ⟨rfl, rfl⟩)
  | (refine qa1 rfl 25 _ _ rfl w.heap.size _ #[.int .i64 0, .int .i64 0, .int .i64 0] rfl rfl HF6.out qa5 rfl (qab rfl rfl rfl) ?_; intro w10 HFa hga; have za := hga.out.size; have HGa := hga; clear hga))
 refine leaves_cons (f := 54) (args := #[.pointer (some ⟨w.heap.size, 0, none⟩)]) (by simp) (by simp [go_sem]) ?_
 refine (qg4 _ w.heap.size).mono ?_
 rintro e u' w8 ⟨rfl, rfl, hb8⟩
 have HF8 := HFa.out.later hb8
 have f0 := HF8.cell 0 _ rfl
 have f1 := HF8.cell 1 _ rfl
 have f2 := HF8.cell 2 _ rfl
 have HB8 : Below w.heap.size w w8 := (HB6.out.trans (jbelow HGa.out (by omega) (fun g e => by cases e; omega))).trans (hb8.mono (by omega))
 have hag : Ag w5.heap.size w6 w8 := (qez HGa.out (by omega)).trans (Ag.of hb8)
 have hfin := (HFr.out.step hag).weak (s := w.heap.size) (by omega)
 simp [Leaves, settle, results, Tryz.results28, go_sem, f0, f1, f2, HB8]
 exact hfin
theorem qk0 (w : World) (s : ByteArray) (L : List Tk) (E a : Nat) (h : CutA s L E a) (hE : E ≠ 0) (he : Ev9 w) :
  Calls Tryz.prog 28 #[.string s, .func (.func 29) #[] #[]] w fun e w' => e = .returned (.tuple #[.slice none 0 0, .agg #[.int .i64 (E : Int), .int .i64 (lnn s a : Nat), .int .i64 (cln s a : Nat)]]) ∧ Below w.heap.size w w' := by
 obtain ⟨w2, hw2⟩ : ∃ w2, w2 = w.alloc (.cells #[.int .i64 0, .int .i64 0, .int .i64 0] 25) := ⟨_, rfl⟩
 have HB2 : Hid (Below w.heap.size w w2) := by rw [hw2]; exact jlow _ _
 have HF2 : Hid (Vn w2 w.heap.size 25 #[.int .i64 0, .int .i64 0, .int .i64 0]) := by rw [hw2]; exact Vn.new _ _ _
 have hz2 : w2.heap.size = w.heap.size + 1 := by rw [hw2]; exact Array.size_push _
 have HW2 : Hid (w2 = w.alloc (.cells #[.int .i64 0, .int .i64 0, .int .i64 0] 25)) := hw2
 have HEv := qa0 (he.later HB2.out)
 clear hw2 he
 have hmf : ∀ (fn : Fn) (first cap : Array Value) (w : World), (Instr.makeFunc fn first cap).run Tryz.prog w = .ok (.func fn first cap) w := fun _ _ _ _ => rfl
 have HCt := qa0 (qjv w2 s L E a h hE HEv.out)
 generalize lnn s a = ln at *
 generalize cln s a = cl at *
 have hE2 : ¬ (E : Int) = 0 := by omega
 clear h
 go_enter_defers Tryz.func28, Tryz.ntmps28
 go_wp2_with (first
  | (go_at_call 53; rw [← HW2.out]; refine HCt.out.mono ?_; rintro e w3 ⟨rfl, hb3⟩; have HF3 := qa0 (HF2.out.later hb3); have HB3 := qa0 (HB2.out.trans (hb3.mono (by omega))); have z3 := hb3.size; clear hb3)
  | (refine qa1 rfl 25 _ _ rfl w.heap.size _ #[.int .i64 (E : Int), .int .i64 (ln : Int), .int .i64 (cl : Int)] rfl rfl HF3.out qa5 rfl (qab rfl rfl rfl) ?_; intro w4 HF4 hg4; have z4 := hg4.out.size; have f0 := HF4.out.cell 0 _ rfl; have f1 := HF4.out.cell 1 _ rfl; have f2 := HF4.out.cell 2 _ rfl; have HB4 := qa0 (HB3.out.trans (jbelow hg4.out (by omega) (fun g e => by cases e; omega))); clear hg4))
 refine wp_region_noPanic ?_
 refine wp_region_held (S := fun w' => Vn w' w.heap.size 25 #[.int .i64 (E : Int), .int .i64 (ln : Int), .int .i64 (cl : Int)]) (by kernel_rfl) ?_
 change wpAnyH _ _ _ _ _ _ _ _ (World.drew _)
 obtain ⟨wd, HWd⟩ : ∃ wd, Hid (w4.drew = wd) := ⟨_, rfl⟩
 have HBd : Hid (Below w.heap.size w wd) := by show Below _ _ _; rw [← HWd.out]; exact HB4.out.drew
 have HFd : Hid (Vn wd w.heap.size 25 #[.int .i64 (E : Int), .int .i64 (ln : Int), .int .i64 (cl : Int)]) := by show Vn _ _ _ _; rw [← HWd.out]; exact HF4.out
 have zd : w.heap.size + 1 ≤ wd.heap.size := by rw [← HWd.out]; show _ ≤ w4.heap.size; omega
 rw [HWd.out]
 clear HWd HF4 HB4 f0 f1 f2
 refine wtkq 0 ?v0 rfl (by kernel_rfl) (fun _ _ _ h => h) (by rfl) ?y0 HFd.out ?z0
 case y0 => (intro w hSw; (try dsimp only at hSw); have r0 := hSw.cell 0 _ rfl; have r1 := hSw.cell 1 _ rfl; have r2 := hSw.cell 2 _ rfl; clear hSw; go_simp; try with_reducible rfl)
 try simp only [mz1, mz3, Act.put, mz4, mz5, mz6]
 refine wtkq 1 ?v1 rfl (by kernel_rfl) (fun _ _ _ h => h) (by rfl) ?y1 HFd.out ?z1
 case y1 => (intro w hSw; (try dsimp only at hSw); have r0 := hSw.cell 0 _ rfl; have r1 := hSw.cell 1 _ rfl; have r2 := hSw.cell 2 _ rfl; clear hSw; go_simp; try with_reducible rfl)
 try simp only [mz1, mz2, mz3, Act.put, mz4, mz5, mz6]
 refine wtkq 2 ?v2 rfl (by kernel_rfl) (fun _ _ _ h => h) (by rfl) ?y2 HFd.out ?z2
 case y2 => (intro w hSw; (try dsimp only at hSw); have r0 := hSw.cell 0 _ rfl; have r1 := hSw.cell 1 _ rfl; have r2 := hSw.cell 2 _ rfl; clear hSw; go_simp; try with_reducible rfl)
 try simp only [mz1, mz2, mz3, Act.put, mz4, mz5, mz6]
 refine wpAnyH_ready (rs := [3]) (by kernel_rfl) (by simp) ?_
 refine AllReadyH.cons rfl (fun K hK => ?_) AllReadyH.nil
 refine qa9 25 _ _ rfl w.heap.size _ #[.int .i64 (E : Int), .int .i64 (ln : Int), .int .i64 (cl : Int)] rfl rfl HFd.out qa5 rfl (qab rfl rfl rfl) ?_; intro w8 HF8 hg8
 refine hK.out _ _ HF8.out (fun _ => ?_)
 clear hK K
 try simp only [mz1, mz2, mz3, Act.put]
 refine wpAnyH_done (by kernel_rfl) ?_ _
 refine NoPanic.normal ?_
 try simp only [mz1, mz2, mz3, Act.put, mz4, mz5, mz6]
 go_wp2
 have f0 := HF8.out.cell 0 _ rfl
 have f1 := HF8.out.cell 1 _ rfl
 have f2 := HF8.out.cell 2 _ rfl
 have HB8 : Below w.heap.size w w8 := HBd.out.trans (jbelow hg8.out (by omega) (fun g e => by cases e; omega))
 simp [bodyPostD, Leaves, results, Tryz.results28, go_sem, f0, f1, f2, HB8]
def RdD (s : ByteArray) (L : List Tk) (E a : Nat) (q : Except (List TV) (List It)) (w : World) (e : Ending) (w' : World) : Prop :=
 Below w.heap.size w w' ∧ if E = 0 then (match q with
  | .error r => e = rfail (.slice none 0 0) (gof s L (L.length - r.length))
  | .ok l => ∃ v, e = .returned (.tuple #[v, .agg #[.int .i64 0, .int .i64 0, .int .i64 0]]) ∧ Fr w.heap.size w' (fun u => ItV u v l))
 else e = .returned (.tuple #[.slice none 0 0, .agg #[.int .i64 (E : Int), .int .i64 (lnn s a : Nat), .int .i64 (cln s a : Nat)]])
theorem rds_err {K : Rk} {w w' : World} {s : List TV} {e : Ending} (h : RDs K w (.error s) e w') : e = mis (K.g (K.n - s.length)) ∧ Gk K w w' := ⟨h.2, h.1⟩
theorem rds_ok {K : Rk} {w w' : World} {l : List It} {e : Ending} (h : RDs K w (.ok l) e w') : (∃ v, e = .returned v ∧ Fr w.heap.size w' (fun u => ItV u v l) ∧ Rr K w' K.n) ∧ Gk K w w' := ⟨h.2, h.1⟩
theorem readD (w : World) (s : ByteArray) (L : List Tk) (E a : Nat) (h : CutA s L E a) (he : Ev9 w) : Calls Tryz.prog 28 #[.string s, .func (.func 29) #[] #[]] w (RdD s L E a (pits ((tks s L).length + 1) (tks s L)) w) := by
 by_cases hE : E = 0
 ·subst hE
  obtain ⟨hs, hc⟩ : s.size ≤ 65536 ∧ Cuts s 0 L 0 a := by
   rcases h with ⟨_, _, h, _⟩ | h
   ·cases h
   ·exact h
  cases hq : pits ((tks s L).length + 1) (tks s L) with
  | error r =>
   refine (qjz w s L a (gof s L (L.length - r.length)) hs hc he (fun K w' hn hg hR => (rdesc K (qd0 hs hc hn hg) w' 0 hR).mono (fun e w'' h => by rw [qeh hn hg, hq] at h; have h2 := rds_err h; rw [hn, hg] at h2; exact h2))).mono ?_
   rintro e w' ⟨rfl, hb⟩
   exact ⟨hb, Eq.mpr (if_pos rfl) rfl⟩
  | ok y =>
   refine (readD_ok w s L a y hs hc he (fun K w' hn hg hR => (rdesc K (qd0 hs hc hn hg) w' 0 hR).mono (fun e w'' h => by rw [qeh hn hg, hq] at h; have h2 := rds_ok h; rw [hn] at h2; exact h2))).mono ?_
   rintro e w' ⟨hv, hb⟩
   exact ⟨hb, Eq.mpr (if_pos rfl) hv⟩
 ·refine (qk0 w s L E a h hE he).mono ?_
  rintro e w' ⟨rfl, hb⟩
  exact ⟨hb, Eq.mpr (if_neg hE) rfl⟩
open Go.RowKit
theorem ItV.form {u : World} {a : Option Addr} {n cap : Nat} {l : List It} (h : ItV u (.slice a n cap) l) : n = l.length ∧ l.length ≤ 1000000000 ∧ l.length ≤ cap ∧ Its u a l.length (gi l) := by
 obtain ⟨a', cap', e, h1, h2, h3⟩ := h
 cases e
 exact ⟨rfl, h1, h2, h3⟩
theorem Fr.its {s : Nat} {w : World} {a : Option Addr} {n cap : Nat} {l : List It} (h : Fr s w (fun u => ItV u (.slice a n cap) l)) : Its w a l.length (gi l) := h.now.form.2.2.2
theorem qk1 (w : World) (s : ByteArray) (f0 f1 f2 : Int) (hf : f0 ≠ 0) (he : Ev9 w)
  (HR : Hid (∀ w' : World, Ev9 w' → Calls Tryz.prog 28 #[.string s, .func (.func 29) #[] #[]] w' fun e w'' => e = .returned (.tuple #[.slice none 0 0, .agg #[.int .i64 f0, .int .i64 f1, .int .i64 f2]]) ∧ Below w'.heap.size w' w'')) :
  Calls Tryz.prog 9 #[.string s] w fun e w' => e = .returned (.tuple #[.slice none 0 0, .agg #[.int .i64 f0, .int .i64 f1, .int .i64 f2]]) ∧ Below w.heap.size w w' := by
 obtain ⟨w2, hw2⟩ : ∃ w2, w2 = w.alloc (.cells #[.int .i64 0, .int .i64 0, .int .i64 0] 25) := ⟨_, rfl⟩
 have HB2 : Hid (Below w.heap.size w w2) := by rw [hw2]; exact jlow _ _
 have HF2 : Hid (Vn w2 w.heap.size 25 #[.int .i64 0, .int .i64 0, .int .i64 0]) := by rw [hw2]; exact Vn.new _ _ _
 have hz2 : w2.heap.size = w.heap.size + 1 := by rw [hw2]; exact Array.size_push _
 have HW2 : Hid (w2 = w.alloc (.cells #[.int .i64 0, .int .i64 0, .int .i64 0] 25)) := hw2
 have HEv := qa0 (he.later HB2.out)
 clear hw2 he
 go_enter Tryz.func9, Tryz.ntmps9
 go_wp2_with (first
  | (go_at_call 28; rw [← HW2.out]; refine (HR.out _ HEv.out).mono ?_; rintro e w3 ⟨rfl, hb3⟩; have z3 := hb3.size; have HB3 := qa0 (HB2.out.trans (hb3.mono (by omega))); have HF3 := qa0 (HF2.out.later hb3); have HY4 := qa0 (Vn.new w3 25 #[.int .i64 0, .int .i64 0, .int .i64 0]); have HB34 := qa0 (jlow w3 (.cells #[.int .i64 0, .int .i64 0, .int .i64 0] 25)); clear hb3)
  | (refine qa1 rfl 25 _ _ rfl w3.heap.size _ #[.int .i64 f0, .int .i64 f1, .int .i64 f2] rfl rfl HY4.out qa5 rfl (qab rfl rfl rfl) ?_; intro w6 HY6 hg6; have HB36 : Hid (Below w3.heap.size w3 w6) := HB34.out.trans (jbelow hg6.out HB34.out.size (fun g e => by cases e; exact Nat.le_refl _)); have zy := HY6.out.lt; have HF6 := qa0 (HF3.out.later HB36.out); have HB6 := qa0 (HB3.out.trans (HB36.out.mono (by omega))); have y0 := HY6.out.cell 0 _ rfl; have y1 := HY6.out.cell 1 _ rfl; have y2 := HY6.out.cell 2 _ rfl; clear hg6))
 refine wp_region_held (S := fun w' => Vn w' w3.heap.size 25 #[.int .i64 f0, .int .i64 f1, .int .i64 f2]) (by kernel_rfl) ?_
 change wpAnyH _ _ _ _ _ _ _ _ (World.drew _)
 obtain ⟨wd, HWd⟩ : ∃ wd, Hid (w6.drew = wd) := ⟨_, rfl⟩
 have HBd : Hid (Below w.heap.size w wd) := by show Below _ _ _; rw [← HWd.out]; exact HB6.out.drew
 have HFd : Hid (Vn wd w.heap.size 25 #[.int .i64 0, .int .i64 0, .int .i64 0]) := by show Vn _ _ _ _; rw [← HWd.out]; exact HF6.out
 have HYd : Hid (Vn wd w3.heap.size 25 #[.int .i64 f0, .int .i64 f1, .int .i64 f2]) := by show Vn _ _ _ _; rw [← HWd.out]; exact HY6.out
 have zd : w.heap.size + 1 ≤ wd.heap.size := by rw [← HWd.out]; show _ ≤ w6.heap.size; omega
 rw [HWd.out]
 clear HWd HF6 HB6 HY6 y0 y1 y2
 refine wtkq 0 ?v0 rfl (by kernel_rfl) (fun _ _ _ h => h) (by rfl) ?y0 HYd.out ?z0
 case y0 => (intro w hSw; (try dsimp only at hSw); have r0 := hSw.cell 0 _ rfl; have r1 := hSw.cell 1 _ rfl; have r2 := hSw.cell 2 _ rfl; clear hSw; go_simp; try with_reducible rfl)
 try simp only [mz1, mz3, Act.put, mz4, mz5, mz6]
 refine wtkq 1 ?v1 rfl (by kernel_rfl) (fun _ _ _ h => h) (by rfl) ?y1 HYd.out ?z1
 case y1 => (intro w hSw; (try dsimp only at hSw); have r0 := hSw.cell 0 _ rfl; have r1 := hSw.cell 1 _ rfl; have r2 := hSw.cell 2 _ rfl; clear hSw; go_simp; try with_reducible rfl)
 try simp only [mz1, mz2, mz3, Act.put, mz4, mz5, mz6]
 refine wpAnyH_ready (rs := [2]) (by kernel_rfl) (by simp) ?_
 refine AllReadyH.cons rfl (fun K hK => ?_) AllReadyH.nil
 refine qa9 25 _ _ rfl w.heap.size _ #[.int .i64 f0, .int .i64 f1, .int .i64 f2] rfl rfl HFd.out qa5 rfl (qab rfl rfl rfl) ?_; intro w8 HF8 hg8; have HY8 := qa0 (HYd.out.keptG hg8.out (by simp; omega))
 refine hK.out _ _ HY8.out (fun _ => ?_)
 clear hK K
 try simp only [mz1, mz2, mz3, Act.put]
 refine wpAnyH_done (by kernel_rfl) ?_ _
 try simp only [mz1, mz2, mz3, Act.put, mz4, mz5, mz6]
 go_wp2
 have g0 := HF8.out.cell 0 _ rfl
 have g1 := HF8.out.cell 1 _ rfl
 have g2 := HF8.out.cell 2 _ rfl
 have HB8 : Below w.heap.size w w8 := HBd.out.trans (jbelow hg8.out (by omega) (fun g e => by cases e; omega))
 refine bodyPost_ret (v := .tuple #[.slice none 0 0, .agg #[.int .i64 f0, .int .i64 f1, .int .i64 f2]]) (by simp [results, Tryz.results9, go_sem, g0, g1, g2]) rfl ?_
 exact ⟨rfl, HB8⟩
theorem pP_ok (w : World) (s : ByteArray) (y : List It) (hm : mayD (gi y) y.length = true) (he : Ev9 w)
  (HR : Hid (∀ w' : World, Ev9 w' → Calls Tryz.prog 28 #[.string s, .func (.func 29) #[] #[]] w' fun e w'' => (∃ v, e = .returned (.tuple #[v, .agg #[.int .i64 0, .int .i64 0, .int .i64 0]]) ∧ Fr w'.heap.size w'' (fun u => ItV u v y)) ∧ Below w'.heap.size w' w'')) :
  Calls Tryz.prog 9 #[.string s] w fun e w' => (∃ v, e = .returned (.tuple #[v, .agg #[.int .i64 0, .int .i64 0, .int .i64 0]]) ∧ Fr w.heap.size w' (fun u => ItV u v y)) ∧ Below w.heap.size w w' := by
 have HMy := qa0 hm
 have HEv6 : ∀ w' : World, Below w.heap.size w w' → Wt9 w' := fun w' hb => (he.later hb).1
 clear hm
 obtain ⟨w2, hw2⟩ : ∃ w2, w2 = w.alloc (.cells #[.int .i64 0, .int .i64 0, .int .i64 0] 25) := ⟨_, rfl⟩
 have HB2 : Hid (Below w.heap.size w w2) := by rw [hw2]; exact jlow _ _
 have HF2 : Hid (Vn w2 w.heap.size 25 #[.int .i64 0, .int .i64 0, .int .i64 0]) := by rw [hw2]; exact Vn.new _ _ _
 have hz2 : w2.heap.size = w.heap.size + 1 := by rw [hw2]; exact Array.size_push _
 have HW2 : Hid (w2 = w.alloc (.cells #[.int .i64 0, .int .i64 0, .int .i64 0] 25)) := hw2
 have HEv := qa0 (he.later HB2.out)
 clear hw2 he
 go_enter Tryz.func9, Tryz.ntmps9
 go_wp2_with (first
  | (go_at_call 28; rw [← HW2.out]; refine (HR.out _ HEv.out).mono ?_; rintro e w3 ⟨⟨v, rfl, hfr⟩, hb3⟩; obtain ⟨xa, xc, rfl, hfew, _⟩ := hfr.now; have HFr := qa0 hfr; clear hfr; have z3 := hb3.size; have HB3 := qa0 (HB2.out.trans (hb3.mono (by omega))); have HF3 := qa0 (HF2.out.later hb3); have HY4 := qa0 (Vn.new w3 25 #[.int .i64 0, .int .i64 0, .int .i64 0]); have HB34 := qa0 (jlow w3 (.cells #[.int .i64 0, .int .i64 0, .int .i64 0] 25)); clear hb3)
  | (refine qa1 rfl 25 _ _ rfl w3.heap.size _ #[.int .i64 0, .int .i64 0, .int .i64 0] rfl rfl HY4.out qa5 rfl (qab rfl rfl rfl) ?_; intro w6 HY6 hg6; have HB36 : Hid (Below w3.heap.size w3 w6) := HB34.out.trans (jbelow hg6.out HB34.out.size (fun g e => by cases e; exact Nat.le_refl _)); have zy := HY6.out.lt; have HF6 := qa0 (HF3.out.later HB36.out); have HB6 := qa0 (HB3.out.trans (HB36.out.mono (by omega))); have y0 := HY6.out.cell 0 _ rfl; have y1 := HY6.out.cell 1 _ rfl; have y2 := HY6.out.cell 2 _ rfl; clear hg6)
  | (go_at_call 30; refine (qjc w6 xa y.length xc (gi y) ((HFr.out.step (Ag.of HB36.out)).its) (by omega) (HEv6 w6 HB6.out)).mono ?_; rintro e w7 ⟨rfl, hb7⟩; rw [HMy.out]; have z7 := hb7.size; have HF7 := qa0 (HF6.out.later hb7); have HB7 := qa0 (HB6.out.trans (hb7.mono (by omega))); have HB67 := qa0 hb7; clear hb7)
  | (refine qa1 rfl 25 _ _ rfl w.heap.size _ #[.int .i64 0, .int .i64 0, .int .i64 0] rfl rfl HF7.out qa5 rfl (qab rfl rfl rfl) ?_; intro w8 HF8 hg8))
 have g0 := HF8.out.cell 0 _ rfl
 have g1 := HF8.out.cell 1 _ rfl
 have g2 := HF8.out.cell 2 _ rfl
 have HB8 : Below w.heap.size w w8 := HB7.out.trans (jbelow hg8.out (by omega) (fun g e => by cases e; omega))
 have hag : Ag w2.heap.size w3 w8 := ((Ag.of HB36.out).trans (Ag.of HB67.out)).trans (qez hg8.out (by omega))
 have hfin := (HFr.out.step hag).weak (s := w.heap.size) (by omega)
 refine bodyPost_ret (v := .tuple #[.slice xa y.length xc, .agg #[.int .i64 0, .int .i64 0, .int .i64 0]]) (by simp [results, Tryz.results9, go_sem, g0, g1, g2]) rfl ?_
 exact ⟨⟨_, rfl, hfin⟩, HB8⟩
open Go.RowKit
theorem tsearch (w : World) (bf n : Nat) (p : Nat → Bool) (hn : n ≤ 1000000000)
  (HP : Hid (∀ (k : Nat) (w' : World), k < n → Below w.heap.size w w' → Calls Tryz.prog 62 #[.int .i64 (k : Int), .pointer (some ⟨bf, 0, none⟩)] w' fun e w'' => e = .returned (.bool (p k)) ∧ Below w'.heap.size w' w'')) :
  Calls Tryz.prog 61 #[.int .i64 (n : Int), .func (.func 62) #[] #[.pointer (some ⟨bf, 0, none⟩)]] w fun e w' => ∃ i : Nat, e = .returned (.int .i64 (i : Int)) ∧ i ≤ n ∧ (i = 0 ∨ p (i - 1) = false) ∧ (i = n ∨ p i = true) ∧ Below w.heap.size w w' := by
 go_enter Tryz.func61, Tryz.ntmps61
 go_wp2
 go_loopw [5, 6] (fun s5 s6 wr => ∃ lo hi : Nat, s5 = .int .i64 (lo : Int) ∧ s6 = .int .i64 (hi : Int) ∧ lo ≤ hi ∧ hi ≤ n ∧ Hid (lo = 0 ∨ p (lo - 1) = false) ∧ Hid (hi = n ∨ p hi = true) ∧ Hid (Below w.heap.size w wr)) (fun s5 s6 _ => (intOf s6).toNat - (intOf s5).toNat)
 case atStart => exact ⟨0, n, rfl, rfl, Nat.zero_le _, Nat.le_refl _, Or.inl rfl, Or.inl rfl, Below.refl _ _⟩
 case round =>
  obtain ⟨lo, hi, rfl, rfl, hlh, hin, HI, HJ, HB⟩ := hrel
  by_cases hlt : lo < hi
  ·have hc : Hid (∀ w' : World, Below w.heap.size w w' → Calls Tryz.prog 62 #[.int .i64 (((lo : Int) + (hi : Int)) / 2), .pointer (some ⟨bf, 0, none⟩)] w' fun e w'' => e = .returned (.bool (p ((lo + hi) / 2))) ∧ Below w'.heap.size w' w'') := fun w' hb => by
    rw [show ((lo : Int) + (hi : Int)) / 2 = (((lo + hi) / 2 : Nat) : Int) by omega]
    exact HP.out _ w' (by omega) hb
   cases hp : p ((lo + hi) / 2) <;> rw [hp] at hc
   ·have HPp := qa0 hp
    clear hp
    go_wp2_with (go_at_call 62; refine (hc.out _ HB.out).mono ?_; rintro e w' ⟨rfl, hb⟩; have HB' := qa0 (HB.out.trans (hb.mono HB.out.size)); clear hb)
    exact ⟨⟨(lo + hi) / 2 + 1, hi, by rw [show ((lo : Int) + (hi : Int)) / 2 + 1 = (((lo + hi) / 2 + 1 : Nat) : Int) by omega], rfl, by omega, hin, Or.inr HPp.out, HJ, HB'⟩, by show (hi : Int).toNat - (((lo : Int) + (hi : Int)) / 2 + 1).toNat < (hi : Int).toNat - (lo : Int).toNat; omega⟩
   ·have HPp := qa0 hp
    clear hp
    go_wp2_with (go_at_call 62; refine (hc.out _ HB.out).mono ?_; rintro e w' ⟨rfl, hb⟩; have HB' := qa0 (HB.out.trans (hb.mono HB.out.size)); clear hb)
    exact ⟨⟨lo, (lo + hi) / 2, rfl, by rw [show ((lo : Int) + (hi : Int)) / 2 = (((lo + hi) / 2 : Nat) : Int) by omega], by omega, by omega, HI, Or.inr HPp.out, HB'⟩, by show (((lo : Int) + (hi : Int)) / 2).toNat - (lo : Int).toNat < (hi : Int).toNat - (lo : Int).toNat; omega⟩
  ·obtain rfl : hi = lo := by omega
   go_wp2
   go_ret
   exact ⟨hi, rfl, hin, HI.out, HJ.out, HB.out⟩
theorem tfirst1 (w : World) (bf : Nat) (a : Option Addr) (l : List It) (cap k : Nat) (hk : k < l.length) (hl : l.length ≤ 1000000000) (hcap : l.length ≤ cap) (HI : Hid (Its w a l.length (gi l))) (HV : Hid (Vn w bf 22 #[.slice a l.length cap])) (hw : Wt9 w) :
  Calls Tryz.prog 62 #[.int .i64 (k : Int), .pointer (some ⟨bf, 0, none⟩)] w fun e w' => e = .returned (.bool (!mayD (gi l) (k + 1))) ∧ Below w.heap.size w w' := by
 have c0 := HV.out.cell 0 _ rfl
 have HM := qa0 (fun c => qjc w a (k + 1) c (gi l) (fun i hi => HI.out i (by omega)) (by omega) hw)
 obtain ⟨q, Hq⟩ : ∃ q, Hid (k + 1 = q) := ⟨_, rfl⟩
 have e1 : (k : Int) + 1 = (q : Int) := by have := Hq.out; omega
 have r1 : (0 : Int) ≤ (q : Int) := by omega
 have r2 : (q : Int) ≤ (cap : Int) := by have := Hq.out; omega
 rw [Hq.out] at HM ⊢
 go_enter Tryz.func62, Tryz.ntmps62
 go_wp2_with (go_at_call 30; refine (HM.out _).mono ?_; rintro e w' ⟨rfl, hb⟩; have HB := qa0 hb; clear hb)
 go_ret
 exact ⟨rfl, HB.out⟩
open Go.RowKit
theorem tfirst (w : World) (a : Option Addr) (l : List It) (cap : Nat) (hl : l.length ≤ 1000000000) (hcap : l.length ≤ cap) (HI : Hid (Its w a l.length (gi l))) (hw : Wt9 w) (hm : mayD (gi l) l.length = false) :
  Calls Tryz.prog 31 #[.slice a l.length cap] w fun e w' => ∃ i : Nat, e = .returned (.int .i64 (i : Int)) ∧ i < l.length ∧ (i = 0 ∨ mayD (gi l) i = true) ∧ mayD (gi l) (i + 1) = false ∧ Below w.heap.size w w' := by
 have h1 : 1 ≤ l.length := by
  rcases Nat.eq_zero_or_pos l.length with h | h
  ·rw [h] at hm; exact absurd hm (by rw [show mayD (gi l) 0 = true from rfl]; decide)
  ·exact h
 obtain ⟨n, Hn⟩ : ∃ n, Hid (l.length - 1 = n) := ⟨_, rfl⟩
 have hn := Hn.out
 have e1 : (l.length : Int) - 1 = (n : Int) := by omega
 have HS := qa0 (tsearch (w.alloc (.cells #[.slice a l.length cap] 22)) w.heap.size n (fun k => !mayD (gi l) (k + 1)) (by omega) (fun k w' hk hb => tfirst1 w' w.heap.size a l cap k (by omega) hl hcap ((HI.out.later (jlow _ _)).later hb) ((Vn.new w 22 #[.slice a l.length cap]).later hb) ((hw.later (jlow _ _)).later hb)))
 have c0 := (Vn.new w 22 #[.slice a l.length cap]).cell 0 _ rfl
 have HMl := qa0 hm
 clear hm hw HI
 have hmf : ∀ (fn : Fn) (first cap : Array Value) (w : World), (Instr.makeFunc fn first cap).run Tryz.prog w = .ok (.func fn first cap) w := fun _ _ _ _ => rfl
 go_enter Tryz.func31, Tryz.ntmps31
 go_wp2_with (go_at_call 61; refine HS.out.mono ?_; rintro e w2 ⟨i, rfl, hi, hi1, hi2, hb⟩; have H1 := qa0 hi1; have H2 := qa0 hi2; have HB := qa0 hb; clear hi1 hi2 hb)
 go_ret
 refine ⟨i, rfl, by omega, ?_, ?_, jtwo (jlow _ _) HB.out⟩
 ·rcases H1.out with h | h
  ·exact Or.inl h
  ·rcases Nat.eq_zero_or_pos i with h0 | h0
   ·exact Or.inl h0
   ·refine Or.inr ?_
    rw [show i - 1 + 1 = i by omega] at h
    simpa using h
 ·rcases H2.out with h | h
  ·rw [show i + 1 = l.length by omega]
   exact HMl.out
  ·simpa using h
theorem pP_not (w : World) (s : ByteArray) (y : List It) (hm : mayD (gi y) y.length = false) (he : Ev9 w)
  (HR : Hid (∀ w' : World, Ev9 w' → Calls Tryz.prog 28 #[.string s, .func (.func 29) #[] #[]] w' fun e w'' => (∃ v, e = .returned (.tuple #[v, .agg #[.int .i64 0, .int .i64 0, .int .i64 0]]) ∧ Fr w'.heap.size w'' (fun u => ItV u v y)) ∧ Below w'.heap.size w' w'')) :
  Calls Tryz.prog 9 #[.string s] w fun e w' => (∃ i : Nat, e = .returned (.tuple #[.slice none 0 0, .agg #[.int .i64 4, .int .i64 (gi y i).ln, .int .i64 (gi y i).cl]]) ∧ i < y.length ∧ (i = 0 ∨ mayD (gi y) i = true) ∧ mayD (gi y) (i + 1) = false) ∧ Below w.heap.size w w' := by
 have HMy := qa0 hm
 have HEv6 : ∀ w' : World, Below w.heap.size w w' → Wt9 w' := fun w' hb => (he.later hb).1
 clear hm
 obtain ⟨w2, hw2⟩ : ∃ w2, w2 = w.alloc (.cells #[.int .i64 0, .int .i64 0, .int .i64 0] 25) := ⟨_, rfl⟩
 have HB2 : Hid (Below w.heap.size w w2) := by rw [hw2]; exact jlow _ _
 have HF2 : Hid (Vn w2 w.heap.size 25 #[.int .i64 0, .int .i64 0, .int .i64 0]) := by rw [hw2]; exact Vn.new _ _ _
 have hz2 : w2.heap.size = w.heap.size + 1 := by rw [hw2]; exact Array.size_push _
 have HW2 : Hid (w2 = w.alloc (.cells #[.int .i64 0, .int .i64 0, .int .i64 0] 25)) := hw2
 have HEv := qa0 (he.later HB2.out)
 clear hw2 he
 have M1 : True := trivial
 have M3 : True := trivial
 go_enter Tryz.func9, Tryz.ntmps9
 go_wp2_with (first
  | (go_at_call 28; rw [← HW2.out]; refine (HR.out _ HEv.out).mono ?_; rintro e w3 ⟨⟨v, rfl, hfr⟩, hb3⟩; obtain ⟨xa, xc, rfl, hfew, hcap, _⟩ := hfr.now; have HFr := qa0 hfr; clear hfr; have z3 := hb3.size; have HB3 := qa0 (HB2.out.trans (hb3.mono (by omega))); have HF3 := qa0 (HF2.out.later hb3); have HY4 := qa0 (Vn.new w3 25 #[.int .i64 0, .int .i64 0, .int .i64 0]); have HB34 := qa0 (jlow w3 (.cells #[.int .i64 0, .int .i64 0, .int .i64 0] 25)); clear hb3)
  | (refine qa1 rfl 25 _ _ rfl w3.heap.size _ #[.int .i64 0, .int .i64 0, .int .i64 0] rfl rfl HY4.out qa5 rfl (qab rfl rfl rfl) ?_; intro w6 HY6 hg6; have HB36 : Hid (Below w3.heap.size w3 w6) := HB34.out.trans (jbelow hg6.out HB34.out.size (fun g e => by cases e; exact Nat.le_refl _)); have zy := HY6.out.lt; have HF6 := qa0 (HF3.out.later HB36.out); have HB6 := qa0 (HB3.out.trans (HB36.out.mono (by omega))); have y0 := HY6.out.cell 0 _ rfl; have y1 := HY6.out.cell 1 _ rfl; have y2 := HY6.out.cell 2 _ rfl; clear hg6)
  | (go_at_call 30; refine (qjc w6 xa y.length xc (gi y) ((HFr.out.step (Ag.of HB36.out)).its) (by omega) (HEv6 w6 HB6.out)).mono ?_; rintro e w7 ⟨rfl, hb7⟩; rw [HMy.out]; have z7 := hb7.size; have HF7 := qa0 (HF6.out.later hb7); have HB7 := qa0 (HB6.out.trans (hb7.mono (by omega))); have HIt7 : Hid (Its w7 xa y.length (gi y)) := (HFr.out.step ((Ag.of HB36.out).trans (Ag.of hb7))).its; clear hb7)
  | (go_at_call 31; (refine (tfirst w7 xa y xc hfew hcap HIt7 (HEv6 w7 HB7.out) HMy.out).mono ?_; rintro e w9 ⟨i, rfl, hi, hi1, hi2, hb9⟩; obtain ⟨b, o, k, pl, nl, vk, vl, vc, sk, na, ca, np, cp, nr, cr, lc, nm, vm, sm, vn, vln, vcl, sln, scl, ln, cl, va, aa, pa, ra, la, T, S, G, rfl, hF, _, _, _, _, _, _, _, hcl⟩ := HIt7.out.at_ hi; have HRg := qa0 (hcl _ hb9); have HFi := qa0 hF; have Hi1 := qa0 hi1; have Hi2 := qa0 hi2; have p0 : (0 : Int) ≤ (i : Int) := Int.natCast_nonneg i; have p1 : (i : Int) < (y.length : Int) := (by omega); have z9 := hb9.size; have HF9 := qa0 (HF7.out.later hb9); have HB9 := qa0 (HB7.out.trans (hb9.mono (by omega))); clear hcl hF hi1 hi2 hb9))
  | (clear M1; refine wpList_load_mid rfl 58 _ rfl b _ rfl [.int .u8 (k : Int), .string nm, .int .u8 (vk : Int), .int .i64 vn, .string vm, .slice va vl vc, .int .i64 vln, .int .i64 vcl, .int .u8 (sk : Int), .string sm, .slice aa na ca, .slice pa np cp, .slice ra nr cr, .int .i64 sln, .int .i64 scl, .int .u8 (pl : Int), .slice la nl lc, .int .i64 ln, .int .i64 cl] _ HRg.out Tryz.underlying58 rfl sizeI ?_)
  | (clear M3; refine qa1 rfl 58 _ _ rfl w9.heap.size _ #[.int .u8 (k : Int), .string nm, .int .u8 (vk : Int), .int .i64 vn, .string vm, .slice va vl vc, .int .i64 vln, .int .i64 vcl, .int .u8 (sk : Int), .string sm, .slice aa na ca, .slice pa np cp, .slice ra nr cr, .int .i64 sln, .int .i64 scl, .int .u8 (pl : Int), .slice la nl lc, .int .i64 ln, .int .i64 cl] rfl rfl (Vn.new w9 _ _) sizeI rfl (qbn rfl rfl rfl rfl rfl rfl rfl rfl rfl rfl rfl rfl rfl rfl rfl rfl rfl rfl rfl) ?_; intro w10 HV10 hg10; have hb10 : Below w9.heap.size w9 w10 := (jlow _ _).trans (jbelow hg10.out (jlow _ _).size (fun g e => by cases e; exact Nat.le_refl _)); have HF10 := qa0 (HF9.out.later hb10); have HB10 := qa0 (HB9.out.trans (hb10.mono (by omega))); have z10 := HV10.out.lt; clear hg10 hb10))
 refine wp_region_held (S := fun w' => Vn w' w9.heap.size 58 #[.int .u8 (k : Int), .string nm, .int .u8 (vk : Int), .int .i64 vn, .string vm, .slice va vl vc, .int .i64 vln, .int .i64 vcl, .int .u8 (sk : Int), .string sm, .slice aa na ca, .slice pa np cp, .slice ra nr cr, .int .i64 sln, .int .i64 scl, .int .u8 (pl : Int), .slice la nl lc, .int .i64 ln, .int .i64 cl]) (by kernel_rfl) ?_
 change wpAnyH _ _ _ _ _ _ _ _ (World.drew _)
 obtain ⟨wd, HWd⟩ : ∃ wd, Hid (w10.drew = wd) := ⟨_, rfl⟩
 have HBd : Hid (Below w.heap.size w wd) := by show Below _ _ _; rw [← HWd.out]; exact HB10.out.drew
 have HFd : Hid (Vn wd w.heap.size 25 #[.int .i64 0, .int .i64 0, .int .i64 0]) := by show Vn _ _ _ _; rw [← HWd.out]; exact HF10.out
 have HId : Hid (Vn wd w9.heap.size 58 #[.int .u8 (k : Int), .string nm, .int .u8 (vk : Int), .int .i64 vn, .string vm, .slice va vl vc, .int .i64 vln, .int .i64 vcl, .int .u8 (sk : Int), .string sm, .slice aa na ca, .slice pa np cp, .slice ra nr cr, .int .i64 sln, .int .i64 scl, .int .u8 (pl : Int), .slice la nl lc, .int .i64 ln, .int .i64 cl]) := by show Vn _ _ _ _; rw [← HWd.out]; exact HV10.out
 have zd : w.heap.size + 1 ≤ wd.heap.size := by rw [← HWd.out]; show _ ≤ w10.heap.size; omega
 rw [HWd.out]
 clear HWd HF10 HB10 HV10
 refine wtkq 0 ?v0 rfl (by kernel_rfl) (fun _ _ _ h => h) (by rfl) ?y0 HId.out ?z0
 case y0 => (intro w hSw; (try dsimp only at hSw); have r0 := hSw.cell 17 _ rfl; have r1 := hSw.cell 18 _ rfl; clear hSw; go_simp; try with_reducible rfl)
 try simp only [mz1, mz3, Act.put, mz4, mz5, mz6]
 refine wtkq 1 ?v1 rfl (by kernel_rfl) (fun _ _ _ h => h) (by rfl) ?y1 HId.out ?z1
 case y1 => (intro w hSw; (try dsimp only at hSw); have r0 := hSw.cell 17 _ rfl; have r1 := hSw.cell 18 _ rfl; clear hSw; go_simp; try with_reducible rfl)
 try simp only [mz1, mz2, mz3, Act.put, mz4, mz5, mz6]
 refine wtkq 2 ?v2 rfl (by kernel_rfl) (fun _ _ _ h => h) (by rfl) ?y2 HId.out ?z2
 case y2 => (intro w hSw; (try dsimp only at hSw); have r0 := hSw.cell 17 _ rfl; have r1 := hSw.cell 18 _ rfl; clear hSw; go_simp; try with_reducible rfl)
 try simp only [mz1, mz2, mz3, Act.put, mz4, mz5, mz6]
 refine wtkq 3 ?v3 rfl (by kernel_rfl) (fun _ _ _ h => h) (by rfl) ?y3 HId.out ?z3
 case y3 => (intro w hSw; (try dsimp only at hSw); have r0 := hSw.cell 17 _ rfl; have r1 := hSw.cell 18 _ rfl; clear hSw; go_simp; try with_reducible rfl)
 try simp only [mz1, mz2, mz3, Act.put, mz4, mz5, mz6]
 refine wtkq 4 ?v4 rfl (by kernel_rfl) (fun _ _ _ h => h) (by rfl) ?y4 HId.out ?z4
 case y4 => (intro w hSw; (try dsimp only at hSw); have r0 := hSw.cell 17 _ rfl; have r1 := hSw.cell 18 _ rfl; clear hSw; go_simp; try with_reducible rfl)
 try simp only [mz1, mz2, mz3, Act.put, mz4, mz5, mz6]
 refine wtkq 5 ?v5 rfl (by kernel_rfl) (fun _ _ _ h => h) (by rfl) ?y5 HId.out ?z5
 case y5 => (intro w hSw; (try dsimp only at hSw); have r0 := hSw.cell 17 _ rfl; have r1 := hSw.cell 18 _ rfl; clear hSw; go_simp; try with_reducible rfl)
 try simp only [mz1, mz2, mz3, Act.put, mz4, mz5, mz6]
 refine wpAnyH_ready (rs := [6]) (by kernel_rfl) (by simp) ?_
 refine AllReadyH.cons rfl (fun K hK => ?_) AllReadyH.nil
 refine qa9 25 _ _ rfl w.heap.size _ #[.int .i64 4, .int .i64 ln, .int .i64 cl] rfl rfl HFd.out qa5 rfl (qab rfl rfl rfl) ?_; intro w8 HF8 hg8; have HI8 := qa0 (HId.out.keptG hg8.out (by simp; omega))
 refine hK.out _ _ HI8.out (fun _ => ?_)
 clear hK K
 try simp only [mz1, mz2, mz3, Act.put]
 refine wpAnyH_done (by kernel_rfl) ?_ _
 try simp only [mz1, mz2, mz3, Act.put, mz4, mz5, mz6]
 go_wp2
 have g0 := HF8.out.cell 0 _ rfl
 have g1 := HF8.out.cell 1 _ rfl
 have g2 := HF8.out.cell 2 _ rfl
 have HB8 : Below w.heap.size w w8 := HBd.out.trans (jbelow hg8.out (by omega) (fun g e => by cases e; omega))
 refine bodyPost_ret (v := .tuple #[.slice none 0 0, .agg #[.int .i64 4, .int .i64 ln, .int .i64 cl]]) (by simp [results, Tryz.results9, go_sem, g0, g1, g2]) rfl ?_
 exact ⟨⟨i, by rw [HFi.out], hi, Hi1.out, Hi2.out⟩, HB8⟩
def PrA (s : ByteArray) (L : List Tk) (E a : Nat) (q : Except (List TV) (List It)) (w : World) (e : Ending) (w' : World) : Prop :=
 Below w.heap.size w w' ∧ if E = 0 then (match q with
  | .error r => e = rfail (.slice none 0 0) (gof s L (L.length - r.length))
  | .ok l => if mayD (gi l) l.length = true then ∃ v, e = .returned (.tuple #[v, .agg #[.int .i64 0, .int .i64 0, .int .i64 0]]) ∧ Fr w.heap.size w' (fun u => ItV u v l)
   else ∃ i : Nat, e = .returned (.tuple #[.slice none 0 0, .agg #[.int .i64 4, .int .i64 (gi l i).ln, .int .i64 (gi l i).cl]]) ∧ i < l.length ∧ (i = 0 ∨ mayD (gi l) i = true) ∧ mayD (gi l) (i + 1) = false)
 else e = .returned (.tuple #[.slice none 0 0, .agg #[.int .i64 (E : Int), .int .i64 (lnn s a : Nat), .int .i64 (cln s a : Nat)]])
theorem qk2 (w : World) (s : ByteArray) (L : List Tk) (E a : Nat) (h : CutA s L E a) (he : Ev9 w) : Calls Tryz.prog 9 #[.string s] w (PrA s L E a (pits ((tks s L).length + 1) (tks s L)) w) := by
 by_cases hE : E = 0
 ·subst hE
  have hr : ∀ w' : World, Ev9 w' → _ := fun w' he' => readD w' s L 0 a h he'
  cases hq : pits ((tks s L).length + 1) (tks s L) with
  | error r =>
   refine (qk1 w s 110 _ _ (by omega) he (fun w' he' => (hr w' he').mono (fun e w'' h => by rw [hq] at h; exact ⟨h.2, h.1⟩))).mono ?_
   rintro e w' ⟨rfl, hb⟩
   exact ⟨hb, rfl⟩
  | ok y =>
   cases hm : mayD (gi y) y.length with
   | true =>
    refine (pP_ok w s y hm he (fun w' he' => (hr w' he').mono (fun e w'' h => by rw [hq] at h; exact ⟨h.2, h.1⟩))).mono ?_
    rintro e w' ⟨hv, hb⟩
    refine ⟨hb, ?_⟩
    show if mayD (gi y) y.length = true then _ else _
    rw [if_pos hm]
    exact hv
   | false =>
    refine (pP_not w s y hm he (fun w' he' => (hr w' he').mono (fun e w'' h => by rw [hq] at h; exact ⟨h.2, h.1⟩))).mono ?_
    rintro e w' ⟨hv, hb⟩
    refine ⟨hb, ?_⟩
    show if mayD (gi y) y.length = true then _ else _
    rw [if_neg (by rw [hm]; decide)]
    exact hv
 ·have hr : ∀ w' : World, Ev9 w' → _ := fun w' he' => readD w' s L E a h he'
  refine (qk1 w s (E : Int) _ _ (by omega) he (fun w' he' => (hr w' he').mono (fun e w'' h => by have h2 := h.2; rw [if_neg hE] at h2; exact ⟨h2, h.1⟩))).mono ?_
  rintro e w' ⟨rfl, hb⟩
  refine ⟨hb, ?_⟩
  rw [if_neg hE]
end Go.Proofs.YtnjcpmkfghcogaaGreatDoor
