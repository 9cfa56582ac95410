/-
  The keys of a map of names, sorted.
-/
import Derived.Test.YtemhodenkgngmaaDoorQuues00
import Derived.Shelf.SlIter.Nil
import Derived.Shelf.SortM.Plain
import Derived.Shelf.SortM.SortNone
import Derived.Test.YtemhodenkgngmaaDoorQuues32
set_option maxRecDepth 100000
set_option maxHeartbeats 16000000
namespace Go.Proofs.YtemhodenkgngmaaDoor
open Go.RowKit Go.Maps Go.Sort Go.Shelf
def qcd : Go.Shelf.Ren := ⟨fun | 7 => 28 | 10 => 41 | n => n, fun | 23 => 73 | 26 => 9 | 3 => 79 | 28 => 82 | 0 => 0 | 27 => 81 | 33 => 99 | 4 => 4 | n => n, fun | n => n⟩
theorem keysIt : Go.Proofs.SlLaysZ.n7 Tryd.prog qcd := {
 mixed := by kernel_rfl
 f7 := ⟨Tryd.f28.name, by decide, Tryd.func28.trans (congrArg some (by kernel_rfl))⟩
 f10 := ⟨Tryd.f41.name, by decide, Tryd.func41.trans (congrArg some (by kernel_rfl))⟩
 t0 := Tryd.underlying0
 a0 := Tryd.isAgg0
 z0 := Tryd.sizeOf0
 v0 := Tryd.zeroValue0
 t4 := Tryd.underlying4
 a4 := Tryd.isAgg4
 z4 := Tryd.sizeOf4
 v4 := Tryd.zeroValue4
 t23 := Tryd.underlying73
 a23 := Tryd.isAgg73
 z23 := Tryd.sizeOf73
 v23 := Tryd.zeroValue73
 t26 := Tryd.underlying9
 a26 := Tryd.isAgg9
 z26 := Tryd.sizeOf9
 v26 := Tryd.zeroValue9
 t27 := Tryd.underlying81
 a27 := Tryd.isAgg81
 z27 := Tryd.sizeOf81
 v27 := Tryd.zeroValue81
 t28 := Tryd.underlying82
 a28 := Tryd.isAgg82
 z28 := Tryd.sizeOf82
 v28 := Tryd.zeroValue82
 t33 := Tryd.underlying99
 a33 := Tryd.isAgg99
 z33 := Tryd.sizeOf99
 v33 := Tryd.zeroValue99 }
def qbl : Go.Shelf.Ren := ⟨fun | 6 => 27 | 8 => 39 | 9 => 40 | 11 => 59 | 13 => 61 | 12 => 60 | 23 => 84 | 24 => 85 | 14 => 75 | 15 => 76 | 16 => 77 | 17 => 78 | 18 => 79 | 19 => 80 | 20 => 81 | 21 => 82 | 22 => 83 | 25 => 94 | 26 => 95 | 27 => 96 | 28 => 97 | 29 => 98 | 30 => 99 | 31 => 109 | n => n, fun | 26 => 9 | 28 => 82 | 24 => 44 | 0 => 0 | 3 => 3 | 37 => 121 | 48 => 138 | 50 => 140 | 4 => 4 | 40 => 131 | 39 => 130 | 45 => 124 | 5 => 5 | 9 => 9 | 51 => 156 | 55 => 160 | 57 => 162 | 58 => 92 | 33 => 99 | n => n, fun | n => n⟩
theorem sortedIt : Go.Proofs.SlLaysZ.n6 Tryd.prog qbl := {
 mixed := by kernel_rfl
 f6 := ⟨Tryd.f27.name, by decide, Tryd.func27.trans (congrArg some (by kernel_rfl))⟩
 f8 := ⟨Tryd.f39.name, by decide, Tryd.func39.trans (congrArg some (by kernel_rfl))⟩
 f11 := ⟨Tryd.f59.name, by decide, Tryd.func59.trans (congrArg some (by kernel_rfl))⟩
 t0 := Tryd.underlying0
 a0 := Tryd.isAgg0
 z0 := Tryd.sizeOf0
 v0 := Tryd.zeroValue0
 t24 := Tryd.underlying44
 a24 := Tryd.isAgg44
 z24 := Tryd.sizeOf44
 v24 := Tryd.zeroValue44
 t26 := Tryd.underlying9
 a26 := Tryd.isAgg9
 z26 := Tryd.sizeOf9
 v26 := Tryd.zeroValue9
 t28 := Tryd.underlying82
 a28 := Tryd.isAgg82
 z28 := Tryd.sizeOf82
 v28 := Tryd.zeroValue82
 i26 := by kernel_rfl }
def qep : Go.Shelf.Ren := ⟨fun | 6 => 40 | 8 => 61 | 9 => 60 | 19 => 84 | 20 => 85 | 21 => 75 | 22 => 76 | 23 => 77 | 24 => 78 | 25 => 79 | 26 => 80 | 27 => 81 | 28 => 82 | 29 => 83 | 36 => 94 | 31 => 95 | 32 => 96 | 37 => 97 | 38 => 98 | 39 => 99 | 41 => 109 | n => n, fun | 27 => 44 | 29 => 9 | 3 => 3 | 32 => 121 | 26 => 44 | 0 => 0 | 44 => 138 | 46 => 140 | 4 => 4 | 36 => 131 | 35 => 130 | 41 => 124 | 5 => 5 | 9 => 9 | 53 => 156 | 57 => 160 | 63 => 162 | 64 => 92 | n => n, fun | n => n⟩
theorem sortIt : Go.Proofs.SlLaysM.n6 Tryd.prog qep := {
 mixed := by kernel_rfl
 f6 := ⟨Tryd.f40.name, by decide, Tryd.func40.trans (congrArg some (by kernel_rfl))⟩
 f8 := Tryd.func61.trans (congrArg some (by kernel_rfl))
 f9 := ⟨Tryd.f60.name, by decide, Tryd.func60.trans (congrArg some (by kernel_rfl))⟩
 f19 := Tryd.func84.trans (congrArg some (by kernel_rfl))
 f20 := Tryd.func85.trans (congrArg some (by kernel_rfl))
 f21 := ⟨Tryd.f75.name, by decide, Tryd.func75.trans (congrArg some (by kernel_rfl))⟩
 f22 := ⟨Tryd.f76.name, by decide, Tryd.func76.trans (congrArg some (by kernel_rfl))⟩
 f23 := ⟨Tryd.f77.name, by decide, Tryd.func77.trans (congrArg some (by kernel_rfl))⟩
 f24 := ⟨Tryd.f78.name, by decide, Tryd.func78.trans (congrArg some (by kernel_rfl))⟩
 f25 := ⟨Tryd.f79.name, by decide, Tryd.func79.trans (congrArg some (by kernel_rfl))⟩
 f26 := ⟨Tryd.f80.name, by decide, Tryd.func80.trans (congrArg some (by kernel_rfl))⟩
 f27 := ⟨Tryd.f81.name, by decide, Tryd.func81.trans (congrArg some (by kernel_rfl))⟩
 f28 := ⟨Tryd.f82.name, by decide, Tryd.func82.trans (congrArg some (by kernel_rfl))⟩
 f29 := ⟨Tryd.f83.name, by decide, Tryd.func83.trans (congrArg some (by kernel_rfl))⟩
 f31 := Tryd.func95.trans (congrArg some (by kernel_rfl))
 f32 := Tryd.func96.trans (congrArg some (by kernel_rfl))
 f36 := ⟨Tryd.f94.name, by decide, Tryd.func94.trans (congrArg some (by kernel_rfl))⟩
 f37 := ⟨Tryd.f97.name, by decide, Tryd.func97.trans (congrArg some (by kernel_rfl))⟩
 f38 := ⟨Tryd.f98.name, by decide, Tryd.func98.trans (congrArg some (by kernel_rfl))⟩
 f39 := ⟨Tryd.f99.name, by decide, Tryd.func99.trans (congrArg some (by kernel_rfl))⟩
 f41 := ⟨Tryd.f109.name, by decide, Tryd.func109.trans (congrArg some (by kernel_rfl))⟩
 t0 := Tryd.underlying0
 a0 := Tryd.isAgg0
 z0 := Tryd.sizeOf0
 v0 := Tryd.zeroValue0
 t3 := Tryd.underlying3
 a3 := Tryd.isAgg3
 z3 := Tryd.sizeOf3
 v3 := Tryd.zeroValue3
 t4 := Tryd.underlying4
 a4 := Tryd.isAgg4
 z4 := Tryd.sizeOf4
 v4 := Tryd.zeroValue4
 t5 := Tryd.underlying5
 a5 := Tryd.isAgg5
 z5 := Tryd.sizeOf5
 v5 := Tryd.zeroValue5
 t9 := Tryd.underlying9
 a9 := Tryd.isAgg9
 z9 := Tryd.sizeOf9
 v9 := Tryd.zeroValue9
 t26 := Tryd.underlying44
 a26 := Tryd.isAgg44
 z26 := Tryd.sizeOf44
 v26 := Tryd.zeroValue44
 t27 := Tryd.underlying44
 a27 := Tryd.isAgg44
 z27 := Tryd.sizeOf44
 v27 := Tryd.zeroValue44
 t29 := Tryd.underlying9
 a29 := Tryd.isAgg9
 z29 := Tryd.sizeOf9
 v29 := Tryd.zeroValue9
 t32 := Tryd.underlying121
 a32 := Tryd.isAgg121
 z32 := Tryd.sizeOf121
 v32 := Tryd.zeroValue121
 t35 := Tryd.underlying130
 a35 := Tryd.isAgg130
 z35 := Tryd.sizeOf130
 v35 := Tryd.zeroValue130
 t36 := Tryd.underlying131
 a36 := Tryd.isAgg131
 z36 := Tryd.sizeOf131
 v36 := Tryd.zeroValue131
 t41 := Tryd.underlying124
 a41 := Tryd.isAgg124
 z41 := Tryd.sizeOf124
 v41 := Tryd.zeroValue124
 t44 := Tryd.underlying138
 a44 := Tryd.isAgg138
 z44 := Tryd.sizeOf138
 v44 := Tryd.zeroValue138
 t46 := Tryd.underlying140
 a46 := Tryd.isAgg140
 z46 := Tryd.sizeOf140
 v46 := Tryd.zeroValue140
 t53 := Tryd.underlying156
 a53 := Tryd.isAgg156
 z53 := Tryd.sizeOf156
 v53 := Tryd.zeroValue156
 t57 := Tryd.underlying160
 a57 := Tryd.isAgg160
 z57 := Tryd.sizeOf160
 v57 := Tryd.zeroValue160
 t63 := Tryd.underlying162
 a63 := Tryd.isAgg162
 z63 := Tryd.sizeOf162
 v63 := Tryd.zeroValue162
 t64 := Tryd.underlying92
 a64 := Tryd.isAgg92
 z64 := Tryd.sizeOf92
 v64 := Tryd.zeroValue92 }
theorem sortsIt (m : Nat) : AnyZ.SortsIn Tryd.prog qbl Fence.wide m :=
  ⟨fun blk off cap ss W hH hblk hsz => callsIn_wide.2 (AnyM.slices_Sort_string sortIt blk off cap ss W hH hblk hsz),
   fun p cap W => callsIn_wide.2 (AnyM.slices_Sort_string_none sortIt p cap W)⟩

theorem pkeysIt (mb : Option Nat) (W : World) : CallsIn Fence.wide 5 Tryd.prog 28 #[.map mb] W fun e w' => e = .returned (.func (.func 41) #[] #[.pointer (some ⟨W.heap.size, 0, none⟩)]) ∧ w' = W.alloc (.cells #[.map mb] 73) :=
 AnyZ.keys_in keysIt Fence.wide 5 trivial rfl mb W

theorem psortedIt {H : Type} (b nn : Nat) (D0 : DataW H) (R : Value → Option (DataW H × List MemPlace)) (w : World) (hown : w.ownsMap Tryd.prog 9 R b nn D0) (hmax : Maps.size D0 ≤ maxLen) (hbytes : Maps.size D0 * 16 ≤ 140737488355328) :
  CallsIn Fence.wide 5 Tryd.prog 27 #[.func (.func 41) #[] #[.pointer (some ⟨w.heap.size, 0, none⟩)]] (w.alloc (.cells #[.map (some b)] 73)) fun e w' => ∃ (v : Value) (ss : List (List UInt8)), e = .returned v ∧ ss.Perm (strKeys D0) ∧
   w'.ownsRow (w.alloc (.cells #[.map (some b)] 73)).heap.size 9 1 v ss.length ((ss.mergeSort (fun x y => decide (x ≤ y))).map encStr) ∧ (v = .slice none 0 0 ↔ ss = []) ∧ Below (w.alloc (.cells #[.map (some b)] 73)).heap.size (w.alloc (.cells #[.map (some b)] 73)) w' := by
 have hbl := hown.lt
 have hseq : SeqGives Fence.wide 2 Tryd.prog 41 #[.pointer (some ⟨w.heap.size, 0, none⟩)] encStr (fun ss => ss.Perm (strKeys D0)) (Maps.size D0) (w.alloc (.cells #[.map (some b)] 73)) :=
  AnyZ.keys_gives (ρ := qcd) { keysIt with } Fence.wide _ trivial rfl (by omega) w.heap.size b nn D0 _ (by simp) (by simp) (by
   obtain ⟨es, clock, hb, Ft, hs, hD⟩ := hown
   exact ⟨es, clock, (Below.heap_alloc _ _ b hbl).trans hb, Ft, hs, hD⟩)
 exact AnyZ.sorted_in sortedIt Fence.wide 5 trivial trivial trivial trivial rfl (by omega) (sortsIt _) (enters_of Tryd.func40 (by kernel_rfl) rfl) 41 #[.pointer (some ⟨w.heap.size, 0, none⟩)] trivial (enters_of Tryd.func41 (by kernel_rfl) rfl) _ _ hmax hbytes _ hseq
end Go.Proofs.YtemhodenkgngmaaDoor
