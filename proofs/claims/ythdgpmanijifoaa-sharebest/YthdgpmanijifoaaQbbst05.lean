/-
  Contracts of Pow, Exp, Log, Inv, Div.
-/
import Derived.Test.YthdgpmanijifoaaQbbst00
import Derived.Test.YthdgpmanijifoaaQbbst04
set_option maxRecDepth 100000
set_option maxHeartbeats 16000000
namespace Go.Proofs.Ythdgpmanijifoaa
open Go.RowKit
theorem qah (w : World) (old cs : Array Value) (t : TypeId) : (w.alloc (.cells old t)).setRow w.heap.size cs = w.alloc (.cells cs t) := by
 cases w with
 | mk heap tape drawn os output =>
  show World.mk ((heap.push _).modify heap.size _) _ _ _ _ = World.mk (heap.push _) _ _ _ _
  congr 1
  apply Array.ext
  ·simp
  ·intro i h1 h2
   simp only [Array.getElem_modify, Array.getElem_push]
   split
   ·rename_i hk; subst hk; simp
   ·rename_i hk
    simp at h2
    simp [show i < heap.size by omega]
theorem qar (w : World) (o : Obj) : (w.alloc o).heap[w.heap.size]? = some o := Go.heap_alloc_new w o
theorem keep_row {w1 w2 : World} {o : Obj} (p : Obj) (hb : Below (w1.alloc o).heap.size (w1.alloc o) w2) : (w2.alloc p).heap[w1.heap.size]? = some o := by
 have h1 := hb.size
 simp at h1
 rw [Below.heap_alloc _ _ _ (by omega), hb.block _ (by simp), qar]
theorem chain {w w1 w2 w3 : World} {o p : Obj} (h1 : Below w.heap.size w w1) (h2 : Below (w1.alloc o).heap.size (w1.alloc o) w2) (h3 : Below (w2.alloc p).heap.size (w2.alloc p) w3) : Below w.heap.size w w3 := by
 have s1 := h1.size
 have s2 := h2.size
 simp at s2
 exact (((h1.alloc s1 _).trans (h2.mono (by simp; omega))).alloc (by omega) _).trans (h3.mono (by simp; omega))
theorem qcm (w : World) : Calls Try.prog 56 #[] w fun e w' => ∃ cs, Hid (cs = row 255 g) ∧ e = .returned (.agg cs) ∧ Below w.heap.size w w' :=
 (qcc w).mono fun _ _ h => ⟨_, rfl, h.1, h.2⟩
theorem exps_ex (w : World) (cs : Array Value) (HC : Hid (cs = row 255 g)) : Calls Try.prog 57 #[.agg cs] w fun e w' => ∃ ls, Hid (ls = row 256 lg) ∧ e = .returned (.agg ls) ∧ Below w.heap.size w w' :=
 (exps_raw w cs _ HC rfl).mono fun _ _ h => ⟨_, rfl, h.1, h.2⟩
theorem facts (t : TypeId) (n : Nat) (f : Nat → Nat) (cs zs : Array Value) (hs : (Try.prog.info? t).map (·.size) = some n) (HC : Hid (cs = row n f)) (HZ : Hid (zs = row n fun _ => 0)) :
  (Try.prog.info? t).map (·.size) = some cs.size ∧ zs.size = cs.size ∧ cs.all (·.oneCell') = true := by
 rw [HC.out, HZ.out]; exact ⟨by rw [qa4]; exact hs, by rw [qa4, qa4], row_one _ _⟩
theorem pow_main (a : Nat) (n : Int) (w : World) (ha : a < 256) (h0 : a ≠ 0) (hn : I64 n) (hn0 : n ≠ 0) :
  Calls Try.prog 50 #[.int .u8 (a : Int), .int .i64 n] w fun e w' => e = .returned (.tuple #[.int .u8 ((g (lg a * (inb n).toNat % 255) : Nat) : Int), .int .i64 0]) ∧ Below w.heap.size w w' := by
 have t0 : ((a : Int) == 0) = false := by simp; omega
 have t1 : (n == 0) = false := by simpa using hn0
 obtain ⟨zs, HZ⟩ : ∃ zs, Hid (zs = row 255 fun _ => 0) := ⟨_, rfl⟩
 obtain ⟨zt, HZt⟩ : ∃ zs, Hid (zs = row 256 fun _ => 0) := ⟨_, rfl⟩
 have z54 : ∀ w, Sem.run Try.prog (zeroValue 94) w = .ok (.agg zs) w := by rw [HZ.out]; exact zero54
 have z56 : ∀ w, Sem.run Try.prog (zeroValue 96) w = .ok (.agg zt) w := by rw [HZt.out]; exact zero56
 have HN : Hid (I64 n) := hn
 clear hn hn0
 go_enter Try.func50, Try.ntmps50
 go_wp2_with (first
  | (go_at_call 56; refine (qcm _).mono ?_; rintro e w1 ⟨cs, HC, rfl, hb1⟩; have hk54 : Hid _ := facts 94 255 g cs zs qb4 HC HZ)
  | (refine wpList_store_row rfl 94 _ _ rfl w1.heap.size cs rfl rfl 94 zs (qar w1 _) hk54.out.1 hk54.out.2.1 hk54.out.2.2 ?_; rw [qah])
  | (refine wpList_load_row rfl 94 _ rfl w1.heap.size rfl 94 cs (0, 0) _ (qar w1 _) Try.underlying94 rfl hk54.out.1 ?_)
  | (go_at_call 57; refine (exps_ex _ cs HC).mono ?_; rintro e w2 ⟨ls, HL, rfl, hb2⟩; have hk56 : Hid _ := facts 96 256 lg ls zt size56 HL HZt)
  | (refine wpList_store_row rfl 96 _ _ rfl w2.heap.size ls rfl rfl 96 zt (qar w2 _) hk56.out.1 hk56.out.2.1 hk56.out.2.2 ?_; rw [qah]; have hA2 : Hid _ := keep_row (.cells ls 96) hb2)
  | (refine wpList_load_row rfl 94 _ rfl w1.heap.size rfl 94 cs (0, 0) _ hA2.out Try.underlying94 rfl hk54.out.1 ?_)
  | (refine wpList_load_row rfl 96 _ rfl w2.heap.size rfl 96 ls (0, 0) _ (qar w2 _) Try.underlying96 rfl hk56.out.1 ?_)
  | (go_at_call 58; refine (qcd _ cs ls HC HL a n ha h0 HN.out).mono ?_; rintro e w3 ⟨rfl, hb3⟩))
 go_ret2
 exact ⟨rfl, chain (by assumption) (by assumption) (by assumption)⟩
end Go.Proofs.Ythdgpmanijifoaa
