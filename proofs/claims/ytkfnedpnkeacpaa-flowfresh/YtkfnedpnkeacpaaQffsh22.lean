/-
  Stage 21: the anchor.
-/
import Derived.Test.YtkfnedpnkeacpaaQffsh00
import Derived.Test.YtkfnedpnkeacpaaQffsh20
import Derived.Test.YtkfnedpnkeacpaaQffsh21
set_option maxRecDepth 100000
set_option maxHeartbeats 16000000
namespace Go.Proofs.Ytkfnedpnkeacpaa
open Go.RowKit
/-- The anchor's flow. -/
def qc9 : Fl := { ni := 1, inp := fun _ => 1, nn := 1, nt := fun _ => 1, of := fun _ _ => 0, fc := fun _ _ => 3, no := 1, out := fun _ => 1 }
theorem FlR.congr {w : World} {a b c : Option Addr} {F G : Fl} (h : FlR w a b c F) (e : EqF F G) : FlR w a b c G := by
 obtain ⟨⟨e1, e2⟩, ⟨e3, e4⟩, ⟨e5, e6⟩⟩ := e
 refine ⟨by rw [← e1]; exact h.hi, by rw [← e3]; exact h.hn, by rw [← e5]; exact h.ho, fun i hi => ?_, fun i hi => ?_, fun i hi => ?_⟩
 ·obtain ⟨x, o, ee, hc⟩ := h.inp i (by omega)
  exact ⟨x, o, ee, by rw [hc, e2 i (by omega)]⟩
 ·obtain ⟨h1, x, o, t, d, ee, hc, ht⟩ := h.nodes i (by omega)
  obtain ⟨k1, k2⟩ := e4 i (by omega)
  refine ⟨by rw [← k1]; exact h1, x, o, t, d, ee, by rw [← k1]; exact hc, fun j hj => ?_⟩
  obtain ⟨g1, b, o2, e7, c0, c1⟩ := ht j (by rw [k1]; exact hj)
  obtain ⟨k3, k4⟩ := k2 j (by rw [k1]; exact hj)
  exact ⟨by rw [← k4]; exact g1, b, o2, e7, by rw [c0, k3], by rw [c1, k4]⟩
 ·obtain ⟨x, o, ee, hc⟩ := h.outs i (by omega)
  exact ⟨x, o, ee, by rw [hc, e6 i (by omega)]⟩
theorem EqF.refl (F : Fl) : EqF F F := ⟨⟨rfl, fun _ _ => rfl⟩, ⟨rfl, fun _ _ => ⟨rfl, fun _ _ => ⟨rfl, rfl⟩⟩⟩, ⟨rfl, fun _ _ => rfl⟩⟩
theorem lit_may : MayP qc9 := by
 refine ⟨by decide, by decide, fun i hi => ?_, fun i hi j hj => ?_, fun i hi => ?_⟩
 ·have : i < 1 := hi
  exact ⟨show (0 : Int) ≤ 1 by decide, show (1 : Int) < 64 by decide, fun h => by omega⟩
 ·have h1 : i < 1 := hi
  have h2 : j < 1 := hj
  obtain rfl : i = 0 := by omega
  exact ⟨show (3 : Nat) ≠ 0 by decide, show (0 : Int) ≤ 0 by decide, show (0 : Int) < ((1 : Nat) : Int) + ((0 : Nat) : Int) by decide, fun h => by omega⟩
 ·exact ⟨show (0 : Int) ≤ 1 by decide, show (1 : Int) < ((1 : Nat) : Int) + ((1 : Nat) : Int) by decide⟩
theorem lit_of {m : Nat} {f : Nat → Nat} (h : En (UsP 1 2 (fun i => if i = 1 then 3 else 0)) 2 m f) : m = 1 ∧ EqF (ofF 1 2 (fun i => if i = 1 then 3 else 0) 1 f) qc9 := by
 have n0 : ¬ UsP 1 2 (fun i => if i = 1 then 3 else 0) 0 := by
  rintro ⟨i, hi, hx⟩
  obtain rfl : i = 0 := by omega
  exact hx rfl
 have y1 : UsP 1 2 (fun i => if i = 1 then 3 else 0) 1 := ⟨0, by omega, by decide⟩
 have E := ((En.nil (UsP 1 2 (fun i => if i = 1 then 3 else 0)) (fun _ => 0)).no n0).yes y1
 obtain ⟨e1, e2⟩ := h.one E
 subst e1
 have hf : f 0 = 1 := e2 0 (by omega)
 have ht : tof (fun j => if 0 * 2 + j = 1 then 3 else 0) f 1 = [((0 : Int), 3)] := by
  show [] ++ (if (if 0 * 2 + f 0 = 1 then 3 else 0) = 0 then [] else [(((0 : Nat) : Int), if 0 * 2 + f 0 = 1 then 3 else 0)]) = _
  rw [hf]
  rfl
 refine ⟨rfl, ⟨rfl, fun i hi => ?_⟩, ⟨rfl, fun i hi => ?_⟩, ⟨rfl, fun i hi => ?_⟩⟩
 ·have : i < 1 := hi
  obtain rfl : i = 0 := by omega
  show ((f 0 : Nat) : Int) = 1
  rw [hf]; rfl
 ·have : i < 1 := hi
  obtain rfl : i = 0 := by omega
  refine ⟨?_, fun j hj => ?_⟩
  ·show (tof (fun j => if 0 * 2 + j = 1 then 3 else 0) f 1).length = 1
   rw [ht]; rfl
  ·have hj : j < (tof (fun j => if 0 * 2 + j = 1 then 3 else 0) f 1).length := hj
   rw [ht] at hj
   have : j < 1 := hj
   obtain rfl : j = 0 := by omega
   constructor
   ·show ((tof (fun j => if 0 * 2 + j = 1 then 3 else 0) f 1).getD 0 (0, 0)).1 = 0
    rw [ht]; rfl
   ·show ((tof (fun j => if 0 * 2 + j = 1 then 3 else 0) f 1).getD 0 (0, 0)).2 = 3
    rw [ht]; rfl
 ·have : i < 1 := hi
  obtain rfl : i = 0 := by omega
  show ((1 : Nat) : Int) + ((0 : Nat) : Int) = 1
  rfl
theorem fof_lit (w : World) : Calls Try.prog 9 #[.agg #[.int .i64 1, .int .i64 2, .slice (some ⟨w.heap.size, 0, none⟩) 2 2]] (w.alloc (.cells #[.int .u8 0, .int .u8 3] 5)) fun e w' => ∃ x p y q z s, e = .returned (.tuple #[flv x 1 p y 1 q z 1 s, .int .i64 0]) ∧ FlR w' x y z qc9 ∧ Below w.heap.size w w' := by
 have hr : RowAt (w.alloc (.cells #[.int .u8 0, .int .u8 3] 5)) w.heap.size 5 2 (fun i => if i = 1 then 3 else 0) := by
  have h := Vf.new w 5 #[.int .u8 0, .int .u8 3]
  unfold RowAt
  rw [show row 2 (fun i => if i = 1 then 3 else 0) = #[.int .u8 0, .int .u8 3] from Array.toList_inj.mp (by simp [row, List.range_succ])]
  exact h
 have hm : Mt (w.alloc (.cells #[.int .u8 0, .int .u8 3] 5)) (some ⟨w.heap.size, 0, none⟩) 2 2 (fun i => if i = 1 then 3 else 0) := hr.mt (fun i _ => by show (if i = 1 then 3 else 0) < 256; split <;> omega)
 have h := fof_ok (w.alloc (.cells #[.int .u8 0, .int .u8 3] 5)) 1 2 2 2 (some ⟨w.heap.size, 0, none⟩) _ hm ⟨by omega, by omega, rfl⟩
 refine h.mono fun e w' hx => ?_
 obtain ⟨x, p, y, q, z, s, m, f, rfl, hf, he, hb⟩ := hx
 obtain ⟨rfl, ee⟩ := lit_of he
 exact ⟨x, p, y, q, z, s, rfl, hf.congr ee, jtwo (jlow _ _) hb⟩
theorem lit_new (w : World) : FlR ((((w.alloc (.cells #[.int .i64 1] 3)).alloc (.cells #[.int .i64 0, .int .u8 3] 61)).alloc (.cells #[.slice (some ⟨w.heap.size + 1, 0, none⟩) 1 1] 59)).alloc (.cells #[.int .i64 1] 3))
  (some ⟨w.heap.size, 0, none⟩) (some ⟨w.heap.size + 1 + 1, 0, none⟩) (some ⟨w.heap.size + 1 + 1 + 1, 0, none⟩) qc9 := by
 have s1 : (w.alloc (.cells #[.int .i64 1] 3)).heap.size = w.heap.size + 1 := by simp
 have s2 : ((w.alloc (.cells #[.int .i64 1] 3)).alloc (.cells #[.int .i64 0, .int .u8 3] 61)).heap.size = w.heap.size + 1 + 1 := by simp
 have s3 : (((w.alloc (.cells #[.int .i64 1] 3)).alloc (.cells #[.int .i64 0, .int .u8 3] 61)).alloc (.cells #[.slice (some ⟨w.heap.size + 1, 0, none⟩) 1 1] 59)).heap.size = w.heap.size + 1 + 1 + 1 := by simp
 have v1 := (((Vf.new w 3 #[.int .i64 1]).later (jlow _ (.cells #[.int .i64 0, .int .u8 3] 61))).later (jlow _ (.cells #[.slice (some ⟨w.heap.size + 1, 0, none⟩) 1 1] 59))).later (jlow _ (.cells #[.int .i64 1] 3))
 have v2 := ((Vf.new1 w (.cells #[.int .i64 1] 3) 61 #[.int .i64 0, .int .u8 3]).later (jlow _ (.cells #[.slice (some ⟨w.heap.size + 1, 0, none⟩) 1 1] 59))).later (jlow _ (.cells #[.int .i64 1] 3))
 have v3 := (Vf.new ((w.alloc (.cells #[.int .i64 1] 3)).alloc (.cells #[.int .i64 0, .int .u8 3] 61)) 59 #[.slice (some ⟨w.heap.size + 1, 0, none⟩) 1 1]).later (jlow _ (.cells #[.int .i64 1] 3))
 have v4 := Vf.new (((w.alloc (.cells #[.int .i64 1] 3)).alloc (.cells #[.int .i64 0, .int .u8 3] 61)).alloc (.cells #[.slice (some ⟨w.heap.size + 1, 0, none⟩) 1 1] 59)) 3 #[.int .i64 1]
 rw [s2] at v3
 rw [s3] at v4
 refine ⟨by decide, by decide, by decide, fun i hi => ?_, fun i hi => ?_, fun i hi => ?_⟩
 ·have : i < 1 := hi
  obtain rfl : i = 0 := by omega
  exact ⟨_, 0, rfl, v1.cell 0 (.int .i64 1) rfl⟩
 ·have : i < 1 := hi
  obtain rfl : i = 0 := by omega
  refine ⟨by decide, _, 0, _, 1, rfl, v3.cell 0 _ rfl, fun j hj => ?_⟩
  have : j < 1 := hj
  obtain rfl : j = 0 := by omega
  exact ⟨by decide, _, 0, rfl, v2.cell 0 (.int .i64 0) rfl, v2.cell 1 (.int .u8 3) rfl⟩
 ·have : i < 1 := hi
  obtain rfl : i = 0 := by omega
  exact ⟨_, 0, rfl, v4.cell 0 (.int .i64 1) rfl⟩
theorem anch21 (w : World) : Calls Try.prog 18 #[] w fun e w' => e = .returned (.bool true) ∧ Below w.heap.size w w' := by
 have HOf := qa0 (fof_lit w)
 have HS := qa0 (fun (w2 : World) (a b c a' b' c' : Option Addr) (p q r p' q' r' : Nat) (h : FlR w2 a b c qc9) (h' : FlR w2 a' b' c' qc9) => qam (qcd w2 a b c a' b' c' p q r p' q' r' qc9 qc9 h h') (EqF.refl qc9))
 have HMy := qa0 (fun (w2 : World) (a b c : Option Addr) (p q r : Nat) (h : FlR w2 a b c qc9) => qam (qbd w2 a b c p q r qc9 h) lit_may)
 go_enter Try.func18, Try.ntmps18
 go_wp2_with (first
  | (go_at_call 9; refine HOf.out.mono ?_; rintro e w2 ⟨x, p, y, q, z, s, rfl, hf2, hb2⟩; have HF2 := qa0 hf2; have HB2 := qa0 hb2; have hl := lit_new (w2.alloc (.cells #[.slice x 1 p, .slice y 1 q, .slice z 1 s] 28)); rw [show (w2.alloc (.cells #[.slice x 1 p, .slice y 1 q, .slice z 1 s] 28)).heap.size = w2.heap.size + 1 by simp] at hl; have HLn := qa0 hl; have HV2 := qa0 (Vf.new w2 28 #[.slice x 1 p, .slice y 1 q, .slice z 1 s]); clear hf2 hb2 hl)
  | (go_at_call 13; have hch := jtwo (jtwo (jtwo (jlow (w2.alloc (.cells #[.slice x 1 p, .slice y 1 q, .slice z 1 s] 28)) (.cells #[.int .i64 1] 3)) (jlow _ (.cells #[.int .i64 0, .int .u8 3] 61))) (jlow _ (.cells #[.slice (some ⟨w2.heap.size + 1 + 1, 0, none⟩) 1 1] 59))) (jlow _ (.cells #[.int .i64 1] 3)); refine (HS.out _ x y z _ _ _ p q s 1 1 1 (HF2.out.later (jtwo (jlow _ _) hch)) HLn.out).mono ?_; rintro e w4 ⟨rfl, hb4⟩; have HB4 := qa0 (jtwo HB2.out (jtwo (jtwo (jlow _ _) hch) hb4)); have HF4 := qa0 ((HF2.out.later (jtwo (jlow _ _) hch)).later hb4); have hv4 := (HV2.out.later hch).later hb4; have c0 := hv4.cell 0 (.slice x 1 p) rfl; have c1 := hv4.cell 1 (.slice y 1 q) rfl; have c2 := hv4.cell 2 (.slice z 1 s) rfl; clear hch hb4 hv4)
  | (go_at_call 34; refine (HMy.out _ x y z p q s HF4.out).mono ?_; rintro e w5 ⟨rfl, hb5⟩; have HB5 := qa0 (jtwo HB4.out hb5); clear hb5))
 go_ret
 exact ⟨rfl, HB5.out⟩
end Go.Proofs.Ytkfnedpnkeacpaa
