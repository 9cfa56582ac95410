/-
  The keys of a map of names, sorted.
-/
import Derived.Test.YtgmndjbicandfaaDoorQnnes00
import Derived.Shelf.SlIter.Nil
import Derived.Shelf.SortM.Plain
import Derived.Shelf.SortM.SortNone
import Derived.Test.YtgmndjbicandfaaDoorQnnes32
set_option maxRecDepth 100000
set_option maxHeartbeats 16000000
namespace Go.Proofs.YtgmndjbicandfaaDoor
open Go.RowKit Go.Maps Go.Sort Go.Shelf
def qbl : Go.Shelf.Ren := ⟨fun | 7 => 28 | 10 => 46 | n => n, fun | 23 => 61 | 26 => 9 | 3 => 67 | 28 => 65 | 0 => 0 | 27 => 64 | 33 => 69 | 4 => 4 | n => n, fun | n => n⟩
theorem keysIt : Go.Proofs.SlLaysZ.n7 Tryd.prog qbl := {
 mixed := by kernel_rfl
 f7 := ⟨Tryd.f28.name, by decide, Tryd.func28.trans (congrArg some (by kernel_rfl))⟩
 f10 := ⟨Tryd.f46.name, by decide, Tryd.func46.trans (congrArg some (by kernel_rfl))⟩
 t0 := Tryd.underlying0
 a0 := Tryd.isAgg0
 z0 := Tryd.sizeOf0
 v0 := Tryd.zeroValue0
 t4 := Tryd.underlying4
 a4 := Tryd.isAgg4
 z4 := Tryd.sizeOf4
 v4 := Tryd.zeroValue4
 t23 := Tryd.underlying61
 a23 := Tryd.isAgg61
 z23 := Tryd.sizeOf61
 v23 := Tryd.zeroValue61
 t26 := Tryd.underlying9
 a26 := Tryd.isAgg9
 z26 := Tryd.sizeOf9
 v26 := Tryd.zeroValue9
 t27 := Tryd.underlying64
 a27 := Tryd.isAgg64
 z27 := Tryd.sizeOf64
 v27 := Tryd.zeroValue64
 t28 := Tryd.underlying65
 a28 := Tryd.isAgg65
 z28 := Tryd.sizeOf65
 v28 := Tryd.zeroValue65
 t33 := Tryd.underlying69
 a33 := Tryd.isAgg69
 z33 := Tryd.sizeOf69
 v33 := Tryd.zeroValue69 }
def qb5 : Go.Shelf.Ren := ⟨fun | 6 => 27 | 8 => 44 | 9 => 45 | 11 => 60 | 13 => 62 | 12 => 61 | 23 => 75 | 24 => 76 | 14 => 66 | 15 => 67 | 16 => 68 | 17 => 69 | 18 => 70 | 19 => 71 | 20 => 72 | 21 => 73 | 22 => 74 | 25 => 80 | 26 => 81 | 27 => 82 | 28 => 83 | 29 => 84 | 30 => 85 | 31 => 88 | n => n, fun | 26 => 9 | 28 => 65 | 24 => 34 | 0 => 0 | 3 => 3 | 37 => 91 | 48 => 107 | 50 => 109 | 4 => 4 | 40 => 100 | 39 => 99 | 45 => 79 | 5 => 5 | 9 => 9 | 51 => 110 | 55 => 114 | 57 => 119 | 58 => 82 | 33 => 69 | n => n, fun | n => n⟩
theorem sortedIt : Go.Proofs.SlLaysZ.n6 Tryd.prog qb5 := {
 mixed := by kernel_rfl
 f6 := ⟨Tryd.f27.name, by decide, Tryd.func27.trans (congrArg some (by kernel_rfl))⟩
 f8 := ⟨Tryd.f44.name, by decide, Tryd.func44.trans (congrArg some (by kernel_rfl))⟩
 f11 := ⟨Tryd.f60.name, by decide, Tryd.func60.trans (congrArg some (by kernel_rfl))⟩
 t0 := Tryd.underlying0
 a0 := Tryd.isAgg0
 z0 := Tryd.sizeOf0
 v0 := Tryd.zeroValue0
 t24 := Tryd.underlying34
 a24 := Tryd.isAgg34
 z24 := Tryd.sizeOf34
 v24 := Tryd.zeroValue34
 t26 := Tryd.underlying9
 a26 := Tryd.isAgg9
 z26 := Tryd.sizeOf9
 v26 := Tryd.zeroValue9
 t28 := Tryd.underlying65
 a28 := Tryd.isAgg65
 z28 := Tryd.sizeOf65
 v28 := Tryd.zeroValue65
 i26 := by kernel_rfl }
def qde : Go.Shelf.Ren := ⟨fun | 6 => 45 | 8 => 62 | 9 => 61 | 19 => 75 | 20 => 76 | 21 => 66 | 22 => 67 | 23 => 68 | 24 => 69 | 25 => 70 | 26 => 71 | 27 => 72 | 28 => 73 | 29 => 74 | 36 => 80 | 31 => 81 | 32 => 82 | 37 => 83 | 38 => 84 | 39 => 85 | 41 => 88 | n => n, fun | 27 => 34 | 29 => 9 | 3 => 3 | 32 => 91 | 26 => 34 | 0 => 0 | 44 => 107 | 46 => 109 | 4 => 4 | 36 => 100 | 35 => 99 | 41 => 79 | 5 => 5 | 9 => 9 | 53 => 110 | 57 => 114 | 63 => 119 | 64 => 82 | n => n, fun | n => n⟩
theorem sortIt : Go.Proofs.SlLaysM.n6 Tryd.prog qde := {
 mixed := by kernel_rfl
 f6 := ⟨Tryd.f45.name, by decide, Tryd.func45.trans (congrArg some (by kernel_rfl))⟩
 f8 := Tryd.func62.trans (congrArg some (by kernel_rfl))
 f9 := ⟨Tryd.f61.name, by decide, Tryd.func61.trans (congrArg some (by kernel_rfl))⟩
 f19 := Tryd.func75.trans (congrArg some (by kernel_rfl))
 f20 := Tryd.func76.trans (congrArg some (by kernel_rfl))
 f21 := ⟨Tryd.f66.name, by decide, Tryd.func66.trans (congrArg some (by kernel_rfl))⟩
 f22 := ⟨Tryd.f67.name, by decide, Tryd.func67.trans (congrArg some (by kernel_rfl))⟩
 f23 := ⟨Tryd.f68.name, by decide, Tryd.func68.trans (congrArg some (by kernel_rfl))⟩
 f24 := ⟨Tryd.f69.name, by decide, Tryd.func69.trans (congrArg some (by kernel_rfl))⟩
 f25 := ⟨Tryd.f70.name, by decide, Tryd.func70.trans (congrArg some (by kernel_rfl))⟩
 f26 := ⟨Tryd.f71.name, by decide, Tryd.func71.trans (congrArg some (by kernel_rfl))⟩
 f27 := ⟨Tryd.f72.name, by decide, Tryd.func72.trans (congrArg some (by kernel_rfl))⟩
 f28 := ⟨Tryd.f73.name, by decide, Tryd.func73.trans (congrArg some (by kernel_rfl))⟩
 f29 := ⟨Tryd.f74.name, by decide, Tryd.func74.trans (congrArg some (by kernel_rfl))⟩
 f31 := Tryd.func81.trans (congrArg some (by kernel_rfl))
 f32 := Tryd.func82.trans (congrArg some (by kernel_rfl))
 f36 := ⟨Tryd.f80.name, by decide, Tryd.func80.trans (congrArg some (by kernel_rfl))⟩
 f37 := ⟨Tryd.f83.name, by decide, Tryd.func83.trans (congrArg some (by kernel_rfl))⟩
 f38 := ⟨Tryd.f84.name, by decide, Tryd.func84.trans (congrArg some (by kernel_rfl))⟩
 f39 := ⟨Tryd.f85.name, by decide, Tryd.func85.trans (congrArg some (by kernel_rfl))⟩
 f41 := ⟨Tryd.f88.name, by decide, Tryd.func88.trans (congrArg some (by kernel_rfl))⟩
 t0 := Tryd.underlying0
 a0 := Tryd.isAgg0
 z0 := Tryd.sizeOf0
 v0 := Tryd.zeroValue0
 t3 := Tryd.underlying3
 a3 := Tryd.isAgg3
 z3 := Tryd.sizeOf3
 v3 := Tryd.zeroValue3
 t4 := Tryd.underlying4
 a4 := Tryd.isAgg4
 z4 := Tryd.sizeOf4
 v4 := Tryd.zeroValue4
 t5 := Tryd.underlying5
 a5 := Tryd.isAgg5
 z5 := Tryd.sizeOf5
 v5 := Tryd.zeroValue5
 t9 := Tryd.underlying9
 a9 := Tryd.isAgg9
 z9 := Tryd.sizeOf9
 v9 := Tryd.zeroValue9
 t26 := Tryd.underlying34
 a26 := Tryd.isAgg34
 z26 := Tryd.sizeOf34
 v26 := Tryd.zeroValue34
 t27 := Tryd.underlying34
 a27 := Tryd.isAgg34
 z27 := Tryd.sizeOf34
 v27 := Tryd.zeroValue34
 t29 := Tryd.underlying9
 a29 := Tryd.isAgg9
 z29 := Tryd.sizeOf9
 v29 := Tryd.zeroValue9
 t32 := Tryd.underlying91
 a32 := Tryd.isAgg91
 z32 := Tryd.sizeOf91
 v32 := Tryd.zeroValue91
 t35 := Tryd.underlying99
 a35 := Tryd.isAgg99
 z35 := Tryd.sizeOf99
 v35 := Tryd.zeroValue99
 t36 := Tryd.underlying100
 a36 := Tryd.isAgg100
 z36 := Tryd.sizeOf100
 v36 := Tryd.zeroValue100
 t41 := Tryd.underlying79
 a41 := Tryd.isAgg79
 z41 := Tryd.sizeOf79
 v41 := Tryd.zeroValue79
 t44 := Tryd.underlying107
 a44 := Tryd.isAgg107
 z44 := Tryd.sizeOf107
 v44 := Tryd.zeroValue107
 t46 := Tryd.underlying109
 a46 := Tryd.isAgg109
 z46 := Tryd.sizeOf109
 v46 := Tryd.zeroValue109
 t53 := Tryd.underlying110
 a53 := Tryd.isAgg110
 z53 := Tryd.sizeOf110
 v53 := Tryd.zeroValue110
 t57 := Tryd.underlying114
 a57 := Tryd.isAgg114
 z57 := Tryd.sizeOf114
 v57 := Tryd.zeroValue114
 t63 := Tryd.underlying119
 a63 := Tryd.isAgg119
 z63 := Tryd.sizeOf119
 v63 := Tryd.zeroValue119
 t64 := Tryd.underlying82
 a64 := Tryd.isAgg82
 z64 := Tryd.sizeOf82
 v64 := Tryd.zeroValue82 }
theorem sortsIt (m : Nat) : AnyZ.SortsIn Tryd.prog qb5 Fence.wide m :=
  ⟨fun blk off cap ss W hH hblk hsz => callsIn_wide.2 (AnyM.slices_Sort_string sortIt blk off cap ss W hH hblk hsz),
   fun p cap W => callsIn_wide.2 (AnyM.slices_Sort_string_none sortIt p cap W)⟩

theorem pkeysIt (mb : Option Nat) (W : World) : CallsIn Fence.wide 5 Tryd.prog 28 #[.map mb] W fun e w' => e = .returned (.func (.func 46) #[] #[.pointer (some ⟨W.heap.size, 0, none⟩)]) ∧ w' = W.alloc (.cells #[.map mb] 61) :=
 AnyZ.keys_in keysIt Fence.wide 5 trivial rfl mb W

theorem psortedIt {H : Type} (b nn : Nat) (D0 : DataW H) (R : Value → Option (DataW H × List MemPlace)) (w : World) (hown : w.ownsMap Tryd.prog 9 R b nn D0) (hmax : Maps.size D0 ≤ maxLen) (hbytes : Maps.size D0 * 16 ≤ 140737488355328) :
  CallsIn Fence.wide 5 Tryd.prog 27 #[.func (.func 46) #[] #[.pointer (some ⟨w.heap.size, 0, none⟩)]] (w.alloc (.cells #[.map (some b)] 61)) fun e w' => ∃ (v : Value) (ss : List (List UInt8)), e = .returned v ∧ ss.Perm (strKeys D0) ∧
   w'.ownsRow (w.alloc (.cells #[.map (some b)] 61)).heap.size 9 1 v ss.length ((ss.mergeSort (fun x y => decide (x ≤ y))).map encStr) ∧ (v = .slice none 0 0 ↔ ss = []) ∧ Below (w.alloc (.cells #[.map (some b)] 61)).heap.size (w.alloc (.cells #[.map (some b)] 61)) w' := by
 have hbl := hown.lt
 have hseq : SeqGives Fence.wide 2 Tryd.prog 46 #[.pointer (some ⟨w.heap.size, 0, none⟩)] encStr (fun ss => ss.Perm (strKeys D0)) (Maps.size D0) (w.alloc (.cells #[.map (some b)] 61)) :=
  AnyZ.keys_gives (ρ := qbl) { keysIt with } Fence.wide _ trivial rfl (by omega) w.heap.size b nn D0 _ (by simp) (by simp) (by
   obtain ⟨es, clock, hb, Ft, hs, hD⟩ := hown
   exact ⟨es, clock, (Below.heap_alloc _ _ b hbl).trans hb, Ft, hs, hD⟩)
 exact AnyZ.sorted_in sortedIt Fence.wide 5 trivial trivial trivial trivial rfl (by omega) (sortsIt _) (enters_of Tryd.func45 (by kernel_rfl) rfl) 46 #[.pointer (some ⟨w.heap.size, 0, none⟩)] trivial (enters_of Tryd.func46 (by kernel_rfl) rfl) _ _ hmax hbytes _ hseq
end Go.Proofs.YtgmndjbicandfaaDoor
