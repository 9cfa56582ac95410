/-
  The library's contracts at this program: strconv, strings.
-/
import Derived.Shelf.Strings.Count
import Derived.Shelf.Strings.LastIndex
import Derived.Test.YtipjejkjoiifdaaJb
namespace Go.Proofs.Ytipjejkjoiifdaa
open Go.RowKit Go.Shelf
def renCount : Go.Shelf.Ren := ⟨fun | 138 => 6 | 195 => 8 | 218 => 9 | 143 => 10 | 219 => 12 | 217 => 13 | 225 => 14 | 224 => 15 | 267 => 16 | 266 => 17 | 314 => 18 | n => n, fun | 9 => 9 | 3 => 3 | 4 => 4 | 5 => 5 | 0 => 0 | 46 => 29 | 146 => 31 | 51 => 30 | n => n, fun | 1 => 0 | n => n⟩
theorem layCount : Go.Proofs.Lays.n138 Try.prog renCount := {
  mixed := by kernel_rfl
  f138 := Try.func6.trans (congrArg some (by kernel_rfl))
  f143 := Try.func10.trans (congrArg some (by kernel_rfl))
  f195 := Try.func8.trans (congrArg some (by kernel_rfl))
  f217 := Try.func13.trans (congrArg some (by kernel_rfl))
  f218 := Try.func9.trans (congrArg some (by kernel_rfl))
  f219 := Try.func12.trans (congrArg some (by kernel_rfl))
  f224 := Try.func15.trans (congrArg some (by kernel_rfl))
  f225 := Try.func14.trans (congrArg some (by kernel_rfl))
  f266 := Try.func17.trans (congrArg some (by kernel_rfl))
  f267 := Try.func16.trans (congrArg some (by kernel_rfl))
  f314 := Try.func18.trans (congrArg some (by kernel_rfl))
  t0 := Try.underlying0
  a0 := Try.isAgg0
  z0 := Try.sizeOf0
  v0 := Try.zeroValue0
  t3 := Try.underlying3
  a3 := Try.isAgg3
  z3 := Try.sizeOf3
  v3 := Try.zeroValue3
  t4 := Try.underlying4
  a4 := Try.isAgg4
  z4 := Try.sizeOf4
  v4 := Try.zeroValue4
  t5 := Try.underlying5
  a5 := Try.isAgg5
  z5 := Try.sizeOf5
  v5 := Try.zeroValue5
  t9 := Try.underlying9
  a9 := Try.isAgg9
  z9 := Try.sizeOf9
  v9 := Try.zeroValue9
  t46 := Try.underlying29
  a46 := Try.isAgg29
  z46 := Try.sizeOf29
  v46 := Try.zeroValue29
  t51 := Try.underlying30
  a51 := Try.isAgg30
  z51 := Try.sizeOf30
  v51 := Try.zeroValue30
  t146 := Try.underlying31
  a146 := Try.isAgg31
  z146 := Try.sizeOf31
  v146 := Try.zeroValue31
  g1 := by kernel_rfl }
theorem count_raw (w : World) (s : ByteArray) (c : UInt8) : Calls Try.prog 6 #[.string s, .string ⟨#[c]⟩] w fun e w' => e = .returned (.int .i64 (Lib.countByte s.data.toList c)) ∧ w' = w := Any.strings_Count_one layCount s c w
def renLidx : Go.Shelf.Ren := ⟨fun | 149 => 7 | 222 => 11 | n => n, fun | 9 => 9 | 5 => 5 | 3 => 3 | 4 => 4 | n => n, fun | n => n⟩
theorem layLidx : Go.Proofs.Lays.n149 Try.prog renLidx := {
  mixed := by kernel_rfl
  f149 := Try.func7.trans (congrArg some (by kernel_rfl))
  f222 := Try.func11.trans (congrArg some (by kernel_rfl))
  t3 := Try.underlying3
  a3 := Try.isAgg3
  z3 := Try.sizeOf3
  v3 := Try.zeroValue3
  t4 := Try.underlying4
  a4 := Try.isAgg4
  z4 := Try.sizeOf4
  v4 := Try.zeroValue4
  t5 := Try.underlying5
  a5 := Try.isAgg5
  z5 := Try.sizeOf5
  v5 := Try.zeroValue5
  t9 := Try.underlying9
  a9 := Try.isAgg9
  z9 := Try.sizeOf9
  v9 := Try.zeroValue9 }
theorem lidx_raw (w : World) (s : ByteArray) (c : Int) (hs : s.size ≤ 140737488351232) : Calls Try.prog 7 #[.string s, .int .u8 c] w fun e w' => e = .returned (.int .i64 (Lib.lastIndexByte s c)) ∧ w' = w := Any.strings_LastIndexByte layLidx s c (by omega) w
end Go.Proofs.Ytipjejkjoiifdaa
