/-
  Contracts of the program's parse: Expr.
-/
import Derived.Test.YtnjcpmkfghcogaaGreatDoorQbbks00
import Derived.Test.YtnjcpmkfghcogaaGreatDoorQbbks42
set_option maxRecDepth 100000
set_option maxHeartbeats 16000000
namespace Go.Proofs.YtnjcpmkfghcogaaGreatDoor
open Go.RowKit
theorem limall (w : World) : Calls Tryz.prog 41 #[] w fun e w' => e = .returned (.agg #[.int .i64 4, .int .i64 1, .int .i64 1]) ∧ Below w.heap.size w w' := by
 have HV := qa0 (Vn.new w 25 #[.int .i64 0, .int .i64 0, .int .i64 0])
 go_enter Tryz.func41, Tryz.ntmps41
 go_wp2_with (refine qa1 rfl 25 _ _ rfl w.heap.size _ #[.int .i64 4, .int .i64 1, .int .i64 1] rfl rfl HV.out qa5 rfl (qab rfl rfl rfl) ?_; intro w8 HF8 hg8)
 have g0 := HF8.out.cell 0 _ rfl
 have g1 := HF8.out.cell 1 _ rfl
 have g2 := HF8.out.cell 2 _ rfl
 refine bodyPost_ret (v := .agg #[.int .i64 4, .int .i64 1, .int .i64 1]) (by simp [results, Tryz.results41, go_sem, g0, g1, g2]) rfl ?_
 exact ⟨rfl, (jlow _ _).trans (jbelow hg8.out (jlow _ _).size (fun g e => by cases e; exact Nat.le_refl _))⟩
def PtA {α : Type} (P : World → Value → α → Prop) (may : α → Bool) (z : Value) (s : ByteArray) (L : List Tk) (E a : Nat) (q : Rd α) (w : World) (e : Ending) (w' : World) : Prop :=
 Below w.heap.size w w' ∧ if E = 0 then (match q with
  | .error r => e = rfail z (gof s L (L.length - r.length))
  | .ok (y, []) => if may y = true then ∃ v, e = .returned (.tuple #[v, .agg #[.int .i64 0, .int .i64 0, .int .i64 0]]) ∧ Fr w.heap.size w' (fun u => P u v y) else e = .returned (.tuple #[z, .agg #[.int .i64 4, .int .i64 1, .int .i64 1]])
  | .ok (_, t :: r) => e = rfail z (gof s L (L.length - (t :: r).length)))
 else e = .returned (.tuple #[z, .agg #[.int .i64 (E : Int), .int .i64 (lnn s a : Nat), .int .i64 (cln s a : Nat)]])
theorem qh1 (w : World) (s : ByteArray) (f0 f1 f2 : Int) (hf : f0 ≠ 0) (he : Ev9 w)
  (HR : Hid (∀ w' : World, Ev9 w' → Calls Tryz.prog 38 #[.string s, .func (.func 39) #[] #[]] w' fun e w'' => e = .returned (.tuple #[.agg #[.int .u8 0, .int .i64 0, .string ⟨#[]⟩, .slice none 0 0, .int .i64 0, .int .i64 0], .agg #[.int .i64 f0, .int .i64 f1, .int .i64 f2]]) ∧ Below w'.heap.size w' w'')) :
  Calls Tryz.prog 15 #[.string s] w fun e w' => e = .returned (.tuple #[.agg #[.int .u8 0, .int .i64 0, .string ⟨#[]⟩, .slice none 0 0, .int .i64 0, .int .i64 0], .agg #[.int .i64 f0, .int .i64 f1, .int .i64 f2]]) ∧ Below w.heap.size w w' := by
 obtain ⟨w2, hw2⟩ : ∃ w2, w2 = (w.alloc (.cells #[.int .u8 0, .int .i64 0, .string ⟨#[]⟩, .slice none 0 0, .int .i64 0, .int .i64 0] 37)).alloc (.cells #[.int .i64 0, .int .i64 0, .int .i64 0] 25) := ⟨_, rfl⟩
 have hz1 : (w.alloc (.cells #[.int .u8 0, .int .i64 0, .string ⟨#[]⟩, .slice none 0 0, .int .i64 0, .int .i64 0] 37)).heap.size = w.heap.size + 1 := Array.size_push _
 have HB2 : Hid (Below w.heap.size w w2) := by rw [hw2]; exact jtwo (jlow _ _) (jlow _ _)
 have HT2 : Hid (Vn w2 w.heap.size 37 #[.int .u8 0, .int .i64 0, .string ⟨#[]⟩, .slice none 0 0, .int .i64 0, .int .i64 0]) := by rw [hw2]; exact (Vn.new w 37 #[.int .u8 0, .int .i64 0, .string ⟨#[]⟩, .slice none 0 0, .int .i64 0, .int .i64 0]).later (jlow _ _)
 have HF2 : Hid (Vn w2 (w.heap.size + 1) 25 #[.int .i64 0, .int .i64 0, .int .i64 0]) := by rw [hw2, ← hz1]; exact Vn.new _ _ _
 have hz2 : w2.heap.size = w.heap.size + 2 := by rw [hw2]; show (Array.push _ _).size = _; rw [Array.size_push, hz1]
 have HW2 : Hid (w2 = (w.alloc (.cells #[.int .u8 0, .int .i64 0, .string ⟨#[]⟩, .slice none 0 0, .int .i64 0, .int .i64 0] 37)).alloc (.cells #[.int .i64 0, .int .i64 0, .int .i64 0] 25)) := hw2
 have HEv := qa0 (he.later HB2.out)
 clear hw2 hz1 he
 go_enter Tryz.func15, Tryz.ntmps15
 go_wp2_with (first
  | (go_at_call 38; rw [← HW2.out]; refine (HR.out _ HEv.out).mono ?_; rintro e w3 ⟨rfl, hb3⟩; have z3 := hb3.size; have HB3 := qa0 (HB2.out.trans (hb3.mono (by omega))); have HT3 := qa0 (HT2.out.later hb3); have HF3 := qa0 (HF2.out.later hb3); have hz3 : (w3.alloc (.cells #[.int .u8 0, .int .i64 0, .string ⟨#[]⟩, .slice none 0 0, .int .i64 0, .int .i64 0] 37)).heap.size = w3.heap.size + 1 := Array.size_push _; have hb34 : Below w3.heap.size w3 ((w3.alloc (.cells #[.int .u8 0, .int .i64 0, .string ⟨#[]⟩, .slice none 0 0, .int .i64 0, .int .i64 0] 37)).alloc (.cells #[.int .i64 0, .int .i64 0, .int .i64 0] 25)) := jtwo (jlow _ _) (jlow _ _); have HX4 : Hid (Vn ((w3.alloc (.cells #[.int .u8 0, .int .i64 0, .string ⟨#[]⟩, .slice none 0 0, .int .i64 0, .int .i64 0] 37)).alloc (.cells #[.int .i64 0, .int .i64 0, .int .i64 0] 25)) w3.heap.size 37 #[.int .u8 0, .int .i64 0, .string ⟨#[]⟩, .slice none 0 0, .int .i64 0, .int .i64 0]) := (Vn.new w3 37 #[.int .u8 0, .int .i64 0, .string ⟨#[]⟩, .slice none 0 0, .int .i64 0, .int .i64 0]).later (jlow _ _); have HY4 : Hid (Vn ((w3.alloc (.cells #[.int .u8 0, .int .i64 0, .string ⟨#[]⟩, .slice none 0 0, .int .i64 0, .int .i64 0] 37)).alloc (.cells #[.int .i64 0, .int .i64 0, .int .i64 0] 25)) (w3.heap.size + 1) 25 #[.int .i64 0, .int .i64 0, .int .i64 0]) := (by have h := Vn.new (w3.alloc (.cells #[.int .u8 0, .int .i64 0, .string ⟨#[]⟩, .slice none 0 0, .int .i64 0, .int .i64 0] 37)) 25 #[.int .i64 0, .int .i64 0, .int .i64 0]; rw [hz3] at h; exact h); have HB34 := qa0 hb34; clear hb3 hz3 hb34)
  | (refine qa1 rfl 37 _ _ rfl w3.heap.size _ #[.int .u8 0, .int .i64 0, .string ⟨#[]⟩, .slice none 0 0, .int .i64 0, .int .i64 0] rfl rfl HX4.out qej rfl (all6 rfl rfl rfl rfl rfl rfl) ?_; intro w5 HX5 hg5; have HY5 := qa0 (HY4.out.keptG hg5.out (by simp)); have HB35 : Hid (Below w3.heap.size w3 w5) := HB34.out.trans (jbelow hg5.out HB34.out.size (fun g e => by cases e; exact Nat.le_refl _)); clear hg5)
  | (refine qa1 rfl 25 _ _ rfl (w3.heap.size + 1) _ #[.int .i64 f0, .int .i64 f1, .int .i64 f2] rfl rfl HY5.out qa5 rfl (qab rfl rfl rfl) ?_; intro w6 HY6 hg6; have HX6 := qa0 (HX5.out.keptG hg6.out (by simp)); have HB36 : Hid (Below w3.heap.size w3 w6) := HB35.out.trans (jbelow hg6.out HB35.out.size (fun g e => by cases e; omega)); have zx := HX6.out.lt; have zy := HY6.out.lt; have HT6 := qa0 (HT3.out.later HB36.out); have HF6 := qa0 (HF3.out.later HB36.out); have HB6 := qa0 (HB3.out.trans (HB36.out.mono (by omega))); have y0 := HY6.out.cell 0 _ rfl; have y1 := HY6.out.cell 1 _ rfl; have y2 := HY6.out.cell 2 _ rfl; have x0 := HX6.out.cell 0 _ rfl; have x1 := HX6.out.cell 1 _ rfl; have x2 := HX6.out.cell 2 _ rfl; have x3 := HX6.out.cell 3 _ rfl; have x4 := HX6.out.cell 4 _ rfl; have x5 := HX6.out.cell 5 _ rfl; clear hg6))
 refine wp_region_held (S := fun w' => Vn w' (w3.heap.size + 1) 25 #[.int .i64 f0, .int .i64 f1, .int .i64 f2]) (by kernel_rfl) ?_
 change wpAnyH _ _ _ _ _ _ _ _ (World.drew _)
 obtain ⟨wd, HWd⟩ : ∃ wd, Hid (w6.drew = wd) := ⟨_, rfl⟩
 have HBd : Hid (Below w.heap.size w wd) := by show Below _ _ _; rw [← HWd.out]; exact HB6.out.drew
 have HTd : Hid (Vn wd w.heap.size 37 #[.int .u8 0, .int .i64 0, .string ⟨#[]⟩, .slice none 0 0, .int .i64 0, .int .i64 0]) := by show Vn _ _ _ _; rw [← HWd.out]; exact HT6.out
 have HFd : Hid (Vn wd (w.heap.size + 1) 25 #[.int .i64 0, .int .i64 0, .int .i64 0]) := by show Vn _ _ _ _; rw [← HWd.out]; exact HF6.out
 have HYd : Hid (Vn wd (w3.heap.size + 1) 25 #[.int .i64 f0, .int .i64 f1, .int .i64 f2]) := by show Vn _ _ _ _; rw [← HWd.out]; exact HY6.out
 have zd : w.heap.size + 2 ≤ wd.heap.size := by rw [← HWd.out]; show _ ≤ w6.heap.size; omega
 rw [HWd.out]
 clear HWd HT6 HF6 HB6 HX6 HY6 y0 y1 y2 x0 x1 x2 x3 x4 x5
 refine wtkq 0 ?v0 rfl (by kernel_rfl) (fun _ _ _ h => h) (by rfl) ?y0 HYd.out ?z0
 case y0 => (intro w hSw; (try dsimp only at hSw); have r0 := hSw.cell 0 _ rfl; have r1 := hSw.cell 1 _ rfl; have r2 := hSw.cell 2 _ rfl; clear hSw; go_simp; try with_reducible rfl)
 try simp only [mz1, mz3, Act.put, mz4, mz5, mz6]
 refine wtkq 1 ?v1 rfl (by kernel_rfl) (fun _ _ _ h => h) (by rfl) ?y1 HYd.out ?z1
 case y1 => (intro w hSw; (try dsimp only at hSw); have r0 := hSw.cell 0 _ rfl; have r1 := hSw.cell 1 _ rfl; have r2 := hSw.cell 2 _ rfl; clear hSw; go_simp; try with_reducible rfl)
 try simp only [mz1, mz2, mz3, Act.put, mz4, mz5, mz6]
 refine wpAnyH_ready (rs := [2]) (by kernel_rfl) (by simp) ?_
 refine AllReadyH.cons rfl (fun K hK => ?_) AllReadyH.nil
 refine qa9 37 _ _ rfl w.heap.size _ #[.int .u8 0, .int .i64 0, .string ⟨#[]⟩, .slice none 0 0, .int .i64 0, .int .i64 0] rfl rfl HTd.out qej rfl (all6 rfl rfl rfl rfl rfl rfl) ?_; intro we HTe hge; have HFe := qa0 (HFd.out.keptG hge.out (by simp)); have HYe := qa0 (HYd.out.keptG hge.out (by simp; omega)); have ze := hge.out.size; have HGe := hge; clear hge
 refine hK.out _ _ HYe.out (fun _ => ?_)
 clear hK K
 try simp only [mz1, mz2, mz3, Act.put]
 refine wpAnyH_ready (rs := [3]) (by kernel_rfl) (by simp) ?_
 refine AllReadyH.cons rfl (fun K hK => ?_) AllReadyH.nil
 refine qa9 25 _ _ rfl (w.heap.size + 1) _ #[.int .i64 f0, .int .i64 f1, .int .i64 f2] rfl rfl HFe.out qa5 rfl (qab rfl rfl rfl) ?_; intro w8 HF8 hg8; have HT8 := qa0 (HTe.out.keptG hg8.out (by simp)); have HY8 := qa0 (HYe.out.keptG hg8.out (by simp; omega))
 refine hK.out _ _ HY8.out (fun _ => ?_)
 clear hK K
 try simp only [mz1, mz2, mz3, Act.put]
 refine wpAnyH_done (by kernel_rfl) ?_ _
 try simp only [mz1, mz2, mz3, Act.put, mz4, mz5, mz6]
 go_wp2
 have g0 := HF8.out.cell 0 _ rfl
 have g1 := HF8.out.cell 1 _ rfl
 have g2 := HF8.out.cell 2 _ rfl
 have t0 := HT8.out.cell 0 _ rfl
 have t1 := HT8.out.cell 1 _ rfl
 have t2 := HT8.out.cell 2 _ rfl
 have t3 := HT8.out.cell 3 _ rfl
 have t4 := HT8.out.cell 4 _ rfl
 have t5 := HT8.out.cell 5 _ rfl
 have HB8 : Below w.heap.size w w8 := (HBd.out.trans (jbelow HGe.out (by omega) (fun g e => by cases e; omega))).trans (jbelow hg8.out (by omega) (fun g e => by cases e; omega))
 refine bodyPost_ret (v := .tuple #[.agg #[.int .u8 0, .int .i64 0, .string ⟨#[]⟩, .slice none 0 0, .int .i64 0, .int .i64 0], .agg #[.int .i64 f0, .int .i64 f1, .int .i64 f2]]) (by simp [results, Tryz.results15, go_sem, g0, g1, g2, t0, t1, t2, t3, t4, t5]) rfl ?_
 exact ⟨rfl, HB8⟩
theorem pE_ok (w : World) (s : ByteArray) (y : Xt) (hm : mayX y = true) (he : Ev9 w)
  (HR : Hid (∀ w' : World, Ev9 w' → Calls Tryz.prog 38 #[.string s, .func (.func 39) #[] #[]] w' fun e w'' => (∃ v, e = .returned (.tuple #[v, .agg #[.int .i64 0, .int .i64 0, .int .i64 0]]) ∧ Fr w'.heap.size w'' (fun u => XV u v y)) ∧ Below w'.heap.size w' w'')) :
  Calls Tryz.prog 15 #[.string s] w fun e w' => (∃ v, e = .returned (.tuple #[v, .agg #[.int .i64 0, .int .i64 0, .int .i64 0]]) ∧ Fr w.heap.size w' (fun u => XV u v y)) ∧ Below w.heap.size w w' := by
 have HMy := qa0 hm
 have HEv6 : ∀ w' : World, Below w.heap.size w w' → Wt9 w' := fun w' hb => (he.later hb).1
 clear hm
 obtain ⟨w2, hw2⟩ : ∃ w2, w2 = (w.alloc (.cells #[.int .u8 0, .int .i64 0, .string ⟨#[]⟩, .slice none 0 0, .int .i64 0, .int .i64 0] 37)).alloc (.cells #[.int .i64 0, .int .i64 0, .int .i64 0] 25) := ⟨_, rfl⟩
 have hz1 : (w.alloc (.cells #[.int .u8 0, .int .i64 0, .string ⟨#[]⟩, .slice none 0 0, .int .i64 0, .int .i64 0] 37)).heap.size = w.heap.size + 1 := Array.size_push _
 have HB2 : Hid (Below w.heap.size w w2) := by rw [hw2]; exact jtwo (jlow _ _) (jlow _ _)
 have HT2 : Hid (Vn w2 w.heap.size 37 #[.int .u8 0, .int .i64 0, .string ⟨#[]⟩, .slice none 0 0, .int .i64 0, .int .i64 0]) := by rw [hw2]; exact (Vn.new w 37 #[.int .u8 0, .int .i64 0, .string ⟨#[]⟩, .slice none 0 0, .int .i64 0, .int .i64 0]).later (jlow _ _)
 have HF2 : Hid (Vn w2 (w.heap.size + 1) 25 #[.int .i64 0, .int .i64 0, .int .i64 0]) := by rw [hw2, ← hz1]; exact Vn.new _ _ _
 have hz2 : w2.heap.size = w.heap.size + 2 := by rw [hw2]; show (Array.push _ _).size = _; rw [Array.size_push, hz1]
 have HW2 : Hid (w2 = (w.alloc (.cells #[.int .u8 0, .int .i64 0, .string ⟨#[]⟩, .slice none 0 0, .int .i64 0, .int .i64 0] 37)).alloc (.cells #[.int .i64 0, .int .i64 0, .int .i64 0] 25)) := hw2
 have HEv := qa0 (he.later HB2.out)
 clear hw2 hz1 he
 go_enter Tryz.func15, Tryz.ntmps15
 go_wp2_with (first
  | (go_at_call 38; rw [← HW2.out]; refine (HR.out _ HEv.out).mono ?_; rintro e w3 ⟨⟨v, rfl, hfr⟩, hb3⟩; obtain ⟨xa, xc, rfl, _⟩ := hfr.now.form; have HFr := qa0 hfr; clear hfr; have z3 := hb3.size; have HB3 := qa0 (HB2.out.trans (hb3.mono (by omega))); have HT3 := qa0 (HT2.out.later hb3); have HF3 := qa0 (HF2.out.later hb3); have hz3 : (w3.alloc (.cells #[.int .u8 0, .int .i64 0, .string ⟨#[]⟩, .slice none 0 0, .int .i64 0, .int .i64 0] 37)).heap.size = w3.heap.size + 1 := Array.size_push _; have hb34 : Below w3.heap.size w3 ((w3.alloc (.cells #[.int .u8 0, .int .i64 0, .string ⟨#[]⟩, .slice none 0 0, .int .i64 0, .int .i64 0] 37)).alloc (.cells #[.int .i64 0, .int .i64 0, .int .i64 0] 25)) := jtwo (jlow _ _) (jlow _ _); have HX4 : Hid (Vn ((w3.alloc (.cells #[.int .u8 0, .int .i64 0, .string ⟨#[]⟩, .slice none 0 0, .int .i64 0, .int .i64 0] 37)).alloc (.cells #[.int .i64 0, .int .i64 0, .int .i64 0] 25)) w3.heap.size 37 #[.int .u8 0, .int .i64 0, .string ⟨#[]⟩, .slice none 0 0, .int .i64 0, .int .i64 0]) := (Vn.new w3 37 #[.int .u8 0, .int .i64 0, .string ⟨#[]⟩, .slice none 0 0, .int .i64 0, .int .i64 0]).later (jlow _ _); have HY4 : Hid (Vn ((w3.alloc (.cells #[.int .u8 0, .int .i64 0, .string ⟨#[]⟩, .slice none 0 0, .int .i64 0, .int .i64 0] 37)).alloc (.cells #[.int .i64 0, .int .i64 0, .int .i64 0] 25)) (w3.heap.size + 1) 25 #[.int .i64 0, .int .i64 0, .int .i64 0]) := (by have h := Vn.new (w3.alloc (.cells #[.int .u8 0, .int .i64 0, .string ⟨#[]⟩, .slice none 0 0, .int .i64 0, .int .i64 0] 37)) 25 #[.int .i64 0, .int .i64 0, .int .i64 0]; rw [hz3] at h; exact h); have HB34 := qa0 hb34; clear hb3 hz3 hb34)
  | (refine qa1 rfl 37 _ _ rfl w3.heap.size _ #[.int .u8 ((y []).k : Int), .int .i64 (y []).n, .string (y []).nm, .slice xa (y []).len xc, .int .i64 (y []).ln, .int .i64 (y []).cl] rfl rfl HX4.out qej rfl (all6 rfl rfl rfl rfl rfl rfl) ?_; intro w5 HX5 hg5; have HY5 := qa0 (HY4.out.keptG hg5.out (by simp)); have HB35 : Hid (Below w3.heap.size w3 w5) := HB34.out.trans (jbelow hg5.out HB34.out.size (fun g e => by cases e; exact Nat.le_refl _)); clear hg5)
  | (refine qa1 rfl 25 _ _ rfl (w3.heap.size + 1) _ #[.int .i64 0, .int .i64 0, .int .i64 0] rfl rfl HY5.out qa5 rfl (qab rfl rfl rfl) ?_; intro w6 HY6 hg6; have HX6 := qa0 (HX5.out.keptG hg6.out (by simp)); have HB36 : Hid (Below w3.heap.size w3 w6) := HB35.out.trans (jbelow hg6.out HB35.out.size (fun g e => by cases e; omega)); have zx := HX6.out.lt; have zy := HY6.out.lt; have HT6 := qa0 (HT3.out.later HB36.out); have HF6 := qa0 (HF3.out.later HB36.out); have HB6 := qa0 (HB3.out.trans (HB36.out.mono (by omega))); have y0 := HY6.out.cell 0 _ rfl; have y1 := HY6.out.cell 1 _ rfl; have y2 := HY6.out.cell 2 _ rfl; have x0 := HX6.out.cell 0 _ rfl; have x1 := HX6.out.cell 1 _ rfl; have x2 := HX6.out.cell 2 _ rfl; have x3 := HX6.out.cell 3 _ rfl; have x4 := HX6.out.cell 4 _ rfl; have x5 := HX6.out.cell 5 _ rfl; clear hg6)
  | (go_at_call 40; refine (tmayx w6 y _ (HFr.out.step (Ag.of HB36.out)).now (HEv6 w6 HB6.out)).mono ?_; rintro e w7 ⟨rfl, hb7⟩; rw [HMy.out]; have z7 := hb7.size; have HT7 := qa0 (HT6.out.later hb7); have HF7 := qa0 (HF6.out.later hb7); have HX7 := qa0 (HX6.out.later hb7); have HB7 := qa0 (HB6.out.trans (hb7.mono (by omega))); have HB67 := qa0 hb7; have u0 := HX7.out.cell 0 _ rfl; have u1 := HX7.out.cell 1 _ rfl; have u2 := HX7.out.cell 2 _ rfl; have u3 := HX7.out.cell 3 _ rfl; have u4 := HX7.out.cell 4 _ rfl; have u5 := HX7.out.cell 5 _ rfl; clear hb7)
  | (refine qa1 rfl 37 _ _ rfl w.heap.size _ #[.int .u8 ((y []).k : Int), .int .i64 (y []).n, .string (y []).nm, .slice xa (y []).len xc, .int .i64 (y []).ln, .int .i64 (y []).cl] rfl rfl HT7.out qej rfl (all6 rfl rfl rfl rfl rfl rfl) ?_; intro we HTe hge; have HFe := qa0 (HF7.out.keptG hge.out (by simp)); have ze := hge.out.size; have HGe := hge; clear hge)
  | (refine qa1 rfl 25 _ _ rfl (w.heap.size + 1) _ #[.int .i64 0, .int .i64 0, .int .i64 0] rfl rfl HFe.out qa5 rfl (qab rfl rfl rfl) ?_; intro w8 HF8 hg8; have HT8 := qa0 (HTe.out.keptG hg8.out (by simp))))
 have g0 := HF8.out.cell 0 _ rfl
 have g1 := HF8.out.cell 1 _ rfl
 have g2 := HF8.out.cell 2 _ rfl
 have t0 := HT8.out.cell 0 _ rfl
 have t1 := HT8.out.cell 1 _ rfl
 have t2 := HT8.out.cell 2 _ rfl
 have t3 := HT8.out.cell 3 _ rfl
 have t4 := HT8.out.cell 4 _ rfl
 have t5 := HT8.out.cell 5 _ rfl
 have HB8 : Below w.heap.size w w8 := (HB7.out.trans (jbelow HGe.out (by omega) (fun g e => by cases e; omega))).trans (jbelow hg8.out (by omega) (fun g e => by cases e; omega))
 have hag : Ag w2.heap.size w3 w8 := (((Ag.of HB36.out).trans (Ag.of HB67.out)).trans (qez HGe.out (by omega))).trans (qez hg8.out (by omega))
 have hfin := (HFr.out.step hag).weak (s := w.heap.size) (by omega)
 refine bodyPost_ret (v := .tuple #[.agg #[.int .u8 ((y []).k : Int), .int .i64 (y []).n, .string (y []).nm, .slice xa (y []).len xc, .int .i64 (y []).ln, .int .i64 (y []).cl], .agg #[.int .i64 0, .int .i64 0, .int .i64 0]]) (by simp [results, Tryz.results15, go_sem, g0, g1, g2, t0, t1, t2, t3, t4, t5]) rfl ?_
 exact ⟨⟨_, rfl, hfin⟩, HB8⟩
theorem pE_not (w : World) (s : ByteArray) (y : Xt) (hm : mayX y = false) (he : Ev9 w)
  (HR : Hid (∀ w' : World, Ev9 w' → Calls Tryz.prog 38 #[.string s, .func (.func 39) #[] #[]] w' fun e w'' => (∃ v, e = .returned (.tuple #[v, .agg #[.int .i64 0, .int .i64 0, .int .i64 0]]) ∧ Fr w'.heap.size w'' (fun u => XV u v y)) ∧ Below w'.heap.size w' w'')) :
  Calls Tryz.prog 15 #[.string s] w fun e w' => e = .returned (.tuple #[.agg #[.int .u8 0, .int .i64 0, .string ⟨#[]⟩, .slice none 0 0, .int .i64 0, .int .i64 0], .agg #[.int .i64 4, .int .i64 1, .int .i64 1]]) ∧ Below w.heap.size w w' := by
 have HMy := qa0 hm
 have HEv6 : ∀ w' : World, Below w.heap.size w w' → Wt9 w' := fun w' hb => (he.later hb).1
 clear hm
 obtain ⟨w2, hw2⟩ : ∃ w2, w2 = (w.alloc (.cells #[.int .u8 0, .int .i64 0, .string ⟨#[]⟩, .slice none 0 0, .int .i64 0, .int .i64 0] 37)).alloc (.cells #[.int .i64 0, .int .i64 0, .int .i64 0] 25) := ⟨_, rfl⟩
 have hz1 : (w.alloc (.cells #[.int .u8 0, .int .i64 0, .string ⟨#[]⟩, .slice none 0 0, .int .i64 0, .int .i64 0] 37)).heap.size = w.heap.size + 1 := Array.size_push _
 have HB2 : Hid (Below w.heap.size w w2) := by rw [hw2]; exact jtwo (jlow _ _) (jlow _ _)
 have HT2 : Hid (Vn w2 w.heap.size 37 #[.int .u8 0, .int .i64 0, .string ⟨#[]⟩, .slice none 0 0, .int .i64 0, .int .i64 0]) := by rw [hw2]; exact (Vn.new w 37 #[.int .u8 0, .int .i64 0, .string ⟨#[]⟩, .slice none 0 0, .int .i64 0, .int .i64 0]).later (jlow _ _)
 have HF2 : Hid (Vn w2 (w.heap.size + 1) 25 #[.int .i64 0, .int .i64 0, .int .i64 0]) := by rw [hw2, ← hz1]; exact Vn.new _ _ _
 have hz2 : w2.heap.size = w.heap.size + 2 := by rw [hw2]; show (Array.push _ _).size = _; rw [Array.size_push, hz1]
 have HW2 : Hid (w2 = (w.alloc (.cells #[.int .u8 0, .int .i64 0, .string ⟨#[]⟩, .slice none 0 0, .int .i64 0, .int .i64 0] 37)).alloc (.cells #[.int .i64 0, .int .i64 0, .int .i64 0] 25)) := hw2
 have HEv := qa0 (he.later HB2.out)
 clear hw2 hz1 he
 go_enter Tryz.func15, Tryz.ntmps15
 go_wp2_with (first
  | (go_at_call 38; rw [← HW2.out]; refine (HR.out _ HEv.out).mono ?_; rintro e w3 ⟨⟨v, rfl, hfr⟩, hb3⟩; obtain ⟨xa, xc, rfl, _⟩ := hfr.now.form; have HFr := qa0 hfr; clear hfr; have z3 := hb3.size; have HB3 := qa0 (HB2.out.trans (hb3.mono (by omega))); have HT3 := qa0 (HT2.out.later hb3); have HF3 := qa0 (HF2.out.later hb3); have hz3 : (w3.alloc (.cells #[.int .u8 0, .int .i64 0, .string ⟨#[]⟩, .slice none 0 0, .int .i64 0, .int .i64 0] 37)).heap.size = w3.heap.size + 1 := Array.size_push _; have hb34 : Below w3.heap.size w3 ((w3.alloc (.cells #[.int .u8 0, .int .i64 0, .string ⟨#[]⟩, .slice none 0 0, .int .i64 0, .int .i64 0] 37)).alloc (.cells #[.int .i64 0, .int .i64 0, .int .i64 0] 25)) := jtwo (jlow _ _) (jlow _ _); have HX4 : Hid (Vn ((w3.alloc (.cells #[.int .u8 0, .int .i64 0, .string ⟨#[]⟩, .slice none 0 0, .int .i64 0, .int .i64 0] 37)).alloc (.cells #[.int .i64 0, .int .i64 0, .int .i64 0] 25)) w3.heap.size 37 #[.int .u8 0, .int .i64 0, .string ⟨#[]⟩, .slice none 0 0, .int .i64 0, .int .i64 0]) := (Vn.new w3 37 #[.int .u8 0, .int .i64 0, .string ⟨#[]⟩, .slice none 0 0, .int .i64 0, .int .i64 0]).later (jlow _ _); have HY4 : Hid (Vn ((w3.alloc (.cells #[.int .u8 0, .int .i64 0, .string ⟨#[]⟩, .slice none 0 0, .int .i64 0, .int .i64 0] 37)).alloc (.cells #[.int .i64 0, .int .i64 0, .int .i64 0] 25)) (w3.heap.size + 1) 25 #[.int .i64 0, .int .i64 0, .int .i64 0]) := (by have h := Vn.new (w3.alloc (.cells #[.int .u8 0, .int .i64 0, .string ⟨#[]⟩, .slice none 0 0, .int .i64 0, .int .i64 0] 37)) 25 #[.int .i64 0, .int .i64 0, .int .i64 0]; rw [hz3] at h; exact h); have HB34 := qa0 hb34; clear hb3 hz3 hb34)
  | (refine qa1 rfl 37 _ _ rfl w3.heap.size _ #[.int .u8 ((y []).k : Int), .int .i64 (y []).n, .string (y []).nm, .slice xa (y []).len xc, .int .i64 (y []).ln, .int .i64 (y []).cl] rfl rfl HX4.out qej rfl (all6 rfl rfl rfl rfl rfl rfl) ?_; intro w5 HX5 hg5; have HY5 := qa0 (HY4.out.keptG hg5.out (by simp)); have HB35 : Hid (Below w3.heap.size w3 w5) := HB34.out.trans (jbelow hg5.out HB34.out.size (fun g e => by cases e; exact Nat.le_refl _)); clear hg5)
  | (refine qa1 rfl 25 _ _ rfl (w3.heap.size + 1) _ #[.int .i64 0, .int .i64 0, .int .i64 0] rfl rfl HY5.out qa5 rfl (qab rfl rfl rfl) ?_; intro w6 HY6 hg6; have HX6 := qa0 (HX5.out.keptG hg6.out (by simp)); have HB36 : Hid (Below w3.heap.size w3 w6) := HB35.out.trans (jbelow hg6.out HB35.out.size (fun g e => by cases e; omega)); have zx := HX6.out.lt; have zy := HY6.out.lt; have HT6 := qa0 (HT3.out.later HB36.out); have HF6 := qa0 (HF3.out.later HB36.out); have HB6 := qa0 (HB3.out.trans (HB36.out.mono (by omega))); have y0 := HY6.out.cell 0 _ rfl; have y1 := HY6.out.cell 1 _ rfl; have y2 := HY6.out.cell 2 _ rfl; have x0 := HX6.out.cell 0 _ rfl; have x1 := HX6.out.cell 1 _ rfl; have x2 := HX6.out.cell 2 _ rfl; have x3 := HX6.out.cell 3 _ rfl; have x4 := HX6.out.cell 4 _ rfl; have x5 := HX6.out.cell 5 _ rfl; clear hg6)
  | (go_at_call 40; refine (tmayx w6 y _ (HFr.out.step (Ag.of HB36.out)).now (HEv6 w6 HB6.out)).mono ?_; rintro e w7 ⟨rfl, hb7⟩; rw [HMy.out]; have z7 := hb7.size; have HT7 := qa0 (HT6.out.later hb7); have HF7 := qa0 (HF6.out.later hb7); have HX7 := qa0 (HX6.out.later hb7); have HB7 := qa0 (HB6.out.trans (hb7.mono (by omega))); have HB67 := qa0 hb7; have u0 := HX7.out.cell 0 _ rfl; have u1 := HX7.out.cell 1 _ rfl; have u2 := HX7.out.cell 2 _ rfl; have u3 := HX7.out.cell 3 _ rfl; have u4 := HX7.out.cell 4 _ rfl; have u5 := HX7.out.cell 5 _ rfl; clear hb7)
  | (go_at_call 41; refine (limall w7).mono ?_; rintro e w9 ⟨rfl, hb9⟩; have HT9 := qa0 (HT7.out.later hb9); have HF9 := qa0 (HF7.out.later hb9); have HB9 := qa0 (HB7.out.trans (hb9.mono (by omega))); have z9 := hb9.size; clear HT7 HF7 hb9; have HT7 := HT9; have HF7 := HF9)
  | (refine qa1 rfl 37 _ _ rfl w.heap.size _ #[.int .u8 0, .int .i64 0, .string ⟨#[]⟩, .slice none 0 0, .int .i64 0, .int .i64 0] rfl rfl HT7.out qej rfl (all6 rfl rfl rfl rfl rfl rfl) ?_; intro we HTe hge; have HFe := qa0 (HF7.out.keptG hge.out (by simp)); have ze := hge.out.size; have HGe := hge; clear hge)
  | (refine qa1 rfl 25 _ _ rfl (w.heap.size + 1) _ #[.int .i64 4, .int .i64 1, .int .i64 1] rfl rfl HFe.out qa5 rfl (qab rfl rfl rfl) ?_; intro w8 HF8 hg8; have HT8 := qa0 (HTe.out.keptG hg8.out (by simp))))
 have g0 := HF8.out.cell 0 _ rfl
 have g1 := HF8.out.cell 1 _ rfl
 have g2 := HF8.out.cell 2 _ rfl
 have t0 := HT8.out.cell 0 _ rfl
 have t1 := HT8.out.cell 1 _ rfl
 have t2 := HT8.out.cell 2 _ rfl
 have t3 := HT8.out.cell 3 _ rfl
 have t4 := HT8.out.cell 4 _ rfl
 have t5 := HT8.out.cell 5 _ rfl
 have HB8 : Below w.heap.size w w8 := (HB9.out.trans (jbelow HGe.out (by omega) (fun g e => by cases e; omega))).trans (jbelow hg8.out (by omega) (fun g e => by cases e; omega))
 refine bodyPost_ret (v := .tuple #[.agg #[.int .u8 0, .int .i64 0, .string ⟨#[]⟩, .slice none 0 0, .int .i64 0, .int .i64 0], .agg #[.int .i64 4, .int .i64 1, .int .i64 1]]) (by simp [results, Tryz.results15, go_sem, g0, g1, g2, t0, t1, t2, t3, t4, t5]) rfl ?_
 exact ⟨rfl, HB8⟩
theorem pE_any (w : World) (s : ByteArray) (L : List Tk) (E a : Nat) (h : CutA s L E a) (he : Ev9 w) : Calls Tryz.prog 15 #[.string s] w (PtA XV mayX (.agg #[.int .u8 0, .int .i64 0, .string ⟨#[]⟩, .slice none 0 0, .int .i64 0, .int .i64 0]) s L E a (pX (tks s L)) w) := by
 by_cases hE : E = 0
 ·subst hE
  have hr : ∀ w' : World, Ev9 w' → _ := fun w' he' => readE w' s L 0 a h he'
  cases hq : pX (tks s L) with
  | error r =>
   refine (qh1 w s 110 _ _ (by omega) he (fun w' he' => (hr w' he').mono (fun e w'' h => by rw [hq] at h; exact ⟨h.2, h.1⟩))).mono ?_
   rintro e w' ⟨rfl, hb⟩
   exact ⟨hb, rfl⟩
  | ok p =>
   obtain ⟨y, r⟩ := p
   cases r with
   | nil =>
    cases hm : mayX y with
    | true =>
     refine (pE_ok w s y hm he (fun w' he' => (hr w' he').mono (fun e w'' h => by rw [hq] at h; exact ⟨h.2, h.1⟩))).mono ?_
     rintro e w' ⟨hv, hb⟩
     refine ⟨hb, ?_⟩
     show if mayX y = true then _ else _
     rw [if_pos hm]
     exact hv
    | false =>
     refine (pE_not w s y hm he (fun w' he' => (hr w' he').mono (fun e w'' h => by rw [hq] at h; exact ⟨h.2, h.1⟩))).mono ?_
     rintro e w' ⟨rfl, hb⟩
     refine ⟨hb, ?_⟩
     show if mayX y = true then _ else _
     rw [if_neg (by rw [hm]; decide)]
   | cons t r =>
    refine (qh1 w s 110 _ _ (by omega) he (fun w' he' => (hr w' he').mono (fun e w'' h => by rw [hq] at h; exact ⟨h.2, h.1⟩))).mono ?_
    rintro e w' ⟨rfl, hb⟩
    exact ⟨hb, rfl⟩
 ·have hr : ∀ w' : World, Ev9 w' → _ := fun w' he' => readE w' s L E a h he'
  refine (qh1 w s (E : Int) _ _ (by omega) he (fun w' he' => (hr w' he').mono (fun e w'' h => by have h2 := h.2; rw [if_neg hE] at h2; exact ⟨h2, h.1⟩))).mono ?_
  rintro e w' ⟨rfl, hb⟩
  refine ⟨hb, ?_⟩
  rw [if_neg hE]
end Go.Proofs.YtnjcpmkfghcogaaGreatDoor
