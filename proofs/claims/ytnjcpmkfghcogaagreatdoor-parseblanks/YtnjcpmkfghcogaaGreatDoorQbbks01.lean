/-
  The library's contracts at this program: strconv, strings.
  Contracts of the token's reference: May, Form.
  Contracts of the token's reference: Join.
  What the library's Atoi, Count, LastIndexByte, IndexByte tell, in the words of stage 9. No Go in sight.
  The variables that the program's token reads: the words, the library's ErrRange.
  Contracts of the program's token: bytes, words.
  Contracts of the program's token: names, May, spelt.
  Contract of the program's Join.
-/
import Derived.Shelf.LaysM
import Derived.Shelf.Strconv.Itoa3
import Derived.Shelf.Small.Strs
import Derived.Shelf.Strconv.ErrVarAll
import Derived.Shelf.Strings.Count
import Derived.Shelf.Strings.LastIndex
import Derived.Test.YtnjcpmkfghcogaaGreatDoorQbbks00
import Derived.Lib.AppendIntMem
import Derived.Lib.ItoaLen
import Derived.Lib.AtoiAll
import Derived.Lib.Bytealg
import Derived.Lib.LastIndexByte
import Derived.Lib.LaidTab
import Derived.Stop.LaidErr
import Derived.Lib.AppendStr
import Derived.Laws.IdiomStrings
set_option maxRecDepth 100000
set_option maxHeartbeats 16000000
namespace Go.Proofs.YtnjcpmkfghcogaaGreatDoor
open Go.RowKit Go.Shelf Go.Sort
def renItoa : Go.Shelf.Ren := ⟨fun | 171 => 51 | 243 => 99 | 246 => 146 | 283 => 165 | 284 => 166 | 285 => 167 | 286 => 168 | 129 => 176 | 317 => 175 | 318 => 177 | 319 => 178 | 320 => 179 | 337 => 190 | 338 => 191 | n => n, fun | 3 => 3 | 9 => 9 | 2 => 2 | 4 => 4 | 171 => 178 | 0 => 0 | 53 => 179 | 37 => 127 | 5 => 5 | 173 => 182 | 212 => 189 | 51 => 190 | 20 => 20 | 213 => 191 | 46 => 148 | 232 => 206 | 233 => 207 | n => n, fun | 17 => 5 | 18 => 9 | 19 => 10 | n => n⟩
theorem layItoa : Go.Proofs.LaysM.n171 Tryz.prog renItoa := {
 mixed := by kernel_rfl
 f129 := Tryz.func176.trans (congrArg some (by kernel_rfl))
 f171 := Tryz.func51.trans (congrArg some (by kernel_rfl))
 f243 := Tryz.func99.trans (congrArg some (by kernel_rfl))
 f246 := Tryz.func146.trans (congrArg some (by kernel_rfl))
 f283 := Tryz.func165.trans (congrArg some (by kernel_rfl))
 f284 := Tryz.func166.trans (congrArg some (by kernel_rfl))
 f285 := Tryz.func167.trans (congrArg some (by kernel_rfl))
 f286 := Tryz.func168.trans (congrArg some (by kernel_rfl))
 f317 := Tryz.func175.trans (congrArg some (by kernel_rfl))
 f318 := Tryz.func177.trans (congrArg some (by kernel_rfl))
 f319 := Tryz.func178.trans (congrArg some (by kernel_rfl))
 f320 := Tryz.func179.trans (congrArg some (by kernel_rfl))
 f337 := Tryz.func190.trans (congrArg some (by kernel_rfl))
 f338 := Tryz.func191.trans (congrArg some (by kernel_rfl))
 t0 := Tryz.underlying0
 a0 := Tryz.isAgg0
 z0 := Tryz.sizeOf0
 v0 := Tryz.zeroValue0
 t2 := Tryz.underlying2
 a2 := Tryz.isAgg2
 z2 := Tryz.sizeOf2
 v2 := Tryz.zeroValue2
 t3 := Tryz.underlying3
 a3 := Tryz.isAgg3
 z3 := Tryz.sizeOf3
 v3 := Tryz.zeroValue3
 t4 := Tryz.underlying4
 a4 := Tryz.isAgg4
 z4 := Tryz.sizeOf4
 v4 := Tryz.zeroValue4
 t5 := Tryz.underlying5
 a5 := Tryz.isAgg5
 z5 := Tryz.sizeOf5
 v5 := Tryz.zeroValue5
 t9 := Tryz.underlying9
 a9 := Tryz.isAgg9
 z9 := Tryz.sizeOf9
 v9 := Tryz.zeroValue9
 t20 := Tryz.underlying20
 a20 := Tryz.isAgg20
 z20 := Tryz.sizeOf20
 v20 := Tryz.zeroValue20
 t37 := Tryz.underlying127
 a37 := Tryz.isAgg127
 z37 := Tryz.sizeOf127
 v37 := Tryz.zeroValue127
 t46 := Tryz.underlying148
 a46 := Tryz.isAgg148
 z46 := Tryz.sizeOf148
 v46 := Tryz.zeroValue148
 t51 := Tryz.underlying190
 a51 := Tryz.isAgg190
 z51 := Tryz.sizeOf190
 v51 := Tryz.zeroValue190
 t53 := Tryz.underlying179
 a53 := Tryz.isAgg179
 z53 := Tryz.sizeOf179
 v53 := Tryz.zeroValue179
 t171 := Tryz.underlying178
 a171 := Tryz.isAgg178
 z171 := Tryz.sizeOf178
 v171 := Tryz.zeroValue178
 t173 := Tryz.underlying182
 a173 := Tryz.isAgg182
 z173 := Tryz.sizeOf182
 v173 := Tryz.zeroValue182
 t212 := Tryz.underlying189
 a212 := Tryz.isAgg189
 z212 := Tryz.sizeOf189
 v212 := Tryz.zeroValue189
 t213 := Tryz.underlying191
 a213 := Tryz.isAgg191
 z213 := Tryz.sizeOf191
 t232 := Tryz.underlying206
 a232 := Tryz.isAgg206
 z232 := Tryz.sizeOf206
 v232 := Tryz.zeroValue206
 t233 := Tryz.underlying207
 a233 := Tryz.isAgg207
 z233 := Tryz.sizeOf207
 v233 := Tryz.zeroValue207
 g17 := by kernel_rfl
 g18 := by kernel_rfl
 g19 := by kernel_rfl
 i0 := by kernel_rfl
 i2 := by kernel_rfl
 i3 := by kernel_rfl
 i4 := by kernel_rfl
 i5 := by kernel_rfl
 i9 := by kernel_rfl
 i20 := by kernel_rfl
 i37 := by kernel_rfl
 i46 := by kernel_rfl
 i51 := by kernel_rfl
 i53 := by kernel_rfl
 i171 := by kernel_rfl
 i173 := by kernel_rfl
 i212 := by kernel_rfl
 i232 := by kernel_rfl
 i233 := by kernel_rfl
 m17 := by kernel_rfl
 m18 := by kernel_rfl
 m19 := by kernel_rfl }
def Tab9 (w : World) : Prop := Lib.TabIs Tryz.prog w "internal/strconv.uint64pow10" .u64 Lib.pow10Tab
theorem itoa_raw (w : World) (n : Int) (h0 : -9223372036854775808 ≤ n) (h1 : n ≤ 9223372036854775807) (ht : Tab9 w) : Calls Tryz.prog 51 #[.int .i64 n] w fun e w' => e = .returned (.string ⟨(Lib.itoa n).toArray⟩) ∧ ∃ k os, w' = grow (w.drewN k) os := Any.strconv_Itoa layItoa n h0 h1 w ht
def renSidx : Go.Shelf.Ren := ⟨fun | 137 => 148 | 217 => 169 | 266 => 180 | n => n, fun | 9 => 9 | 5 => 5 | 3 => 3 | n => n, fun | n => n⟩
theorem laySidx : Go.Proofs.Lays.n137 Tryz.prog renSidx := {
 mixed := by kernel_rfl
 f137 := Tryz.func148.trans (congrArg some (by kernel_rfl))
 f217 := Tryz.func169.trans (congrArg some (by kernel_rfl))
 f266 := Tryz.func180.trans (congrArg some (by kernel_rfl))
 t3 := Tryz.underlying3
 a3 := Tryz.isAgg3
 z3 := Tryz.sizeOf3
 v3 := Tryz.zeroValue3
 t5 := Tryz.underlying5
 a5 := Tryz.isAgg5
 z5 := Tryz.sizeOf5
 v5 := Tryz.zeroValue5
 t9 := Tryz.underlying9
 a9 := Tryz.isAgg9
 z9 := Tryz.sizeOf9
 v9 := Tryz.zeroValue9 }
theorem sidx_raw (w : World) (s : ByteArray) (c : Int) : Calls Tryz.prog 148 #[.string s, .int .u8 c] w fun e w' => e = .returned (.int .i64 (Lib.indexByte s.data.toList c.toNat.toUInt8)) ∧ w' = w := Any.strings_IndexByte laySidx s c w
def renAtoi : Go.Shelf.Ren := ⟨fun | 172 => 150 | 244 => 170 | 245 => 171 | 247 => 181 | 279 => 182 | 280 => 183 | 281 => 184 | 282 => 185 | 287 => 192 | 316 => 193 | 171 => 51 | 205 => 194 | 321 => 196 | 322 => 197 | 243 => 99 | 246 => 146 | 283 => 165 | 284 => 166 | 285 => 167 | 286 => 168 | 129 => 176 | 317 => 175 | 318 => 177 | 319 => 178 | 320 => 179 | 337 => 190 | 338 => 191 | n => n, fun | 9 => 9 | 3 => 3 | 75 => 164 | 76 => 165 | 4 => 4 | 5 => 5 | 167 => 193 | 37 => 127 | 0 => 0 | 85 => 194 | 2 => 2 | 168 => 196 | 53 => 179 | 175 => 200 | 46 => 148 | 210 => 204 | 127 => 209 | 145 => 212 | 143 => 210 | 21 => 21 | 171 => 178 | 173 => 182 | 212 => 189 | 51 => 190 | 20 => 20 | 213 => 191 | 232 => 206 | 233 => 207 | 80 => 111 | n => n, fun | 15 => 7 | 16 => 8 | 17 => 5 | 18 => 9 | 19 => 10 | n => n⟩
theorem layAtoi : Go.Proofs.LaysC.n172 Tryz.prog renAtoi := {
 mixed := by kernel_rfl
 f129 := Tryz.func176.trans (congrArg some (by kernel_rfl))
 f171 := Tryz.func51.trans (congrArg some (by kernel_rfl))
 f172 := Tryz.func150.trans (congrArg some (by kernel_rfl))
 f205 := Tryz.func194.trans (congrArg some (by kernel_rfl))
 f243 := Tryz.func99.trans (congrArg some (by kernel_rfl))
 f244 := Tryz.func170.trans (congrArg some (by kernel_rfl))
 f245 := Tryz.func171.trans (congrArg some (by kernel_rfl))
 f246 := Tryz.func146.trans (congrArg some (by kernel_rfl))
 f247 := Tryz.func181.trans (congrArg some (by kernel_rfl))
 f279 := Tryz.func182.trans (congrArg some (by kernel_rfl))
 f280 := Tryz.func183.trans (congrArg some (by kernel_rfl))
 f281 := Tryz.func184.trans (congrArg some (by kernel_rfl))
 f282 := Tryz.func185.trans (congrArg some (by kernel_rfl))
 f283 := Tryz.func165.trans (congrArg some (by kernel_rfl))
 f284 := Tryz.func166.trans (congrArg some (by kernel_rfl))
 f285 := Tryz.func167.trans (congrArg some (by kernel_rfl))
 f286 := Tryz.func168.trans (congrArg some (by kernel_rfl))
 f287 := Tryz.func192.trans (congrArg some (by kernel_rfl))
 f316 := Tryz.func193.trans (congrArg some (by kernel_rfl))
 f317 := Tryz.func175.trans (congrArg some (by kernel_rfl))
 f318 := Tryz.func177.trans (congrArg some (by kernel_rfl))
 f319 := Tryz.func178.trans (congrArg some (by kernel_rfl))
 f320 := Tryz.func179.trans (congrArg some (by kernel_rfl))
 f321 := Tryz.func196.trans (congrArg some (by kernel_rfl))
 f322 := Tryz.func197.trans (congrArg some (by kernel_rfl))
 f337 := Tryz.func190.trans (congrArg some (by kernel_rfl))
 f338 := Tryz.func191.trans (congrArg some (by kernel_rfl))
 t0 := Tryz.underlying0
 a0 := Tryz.isAgg0
 z0 := Tryz.sizeOf0
 v0 := Tryz.zeroValue0
 t2 := Tryz.underlying2
 a2 := Tryz.isAgg2
 z2 := Tryz.sizeOf2
 v2 := Tryz.zeroValue2
 t3 := Tryz.underlying3
 a3 := Tryz.isAgg3
 z3 := Tryz.sizeOf3
 v3 := Tryz.zeroValue3
 t4 := Tryz.underlying4
 a4 := Tryz.isAgg4
 z4 := Tryz.sizeOf4
 v4 := Tryz.zeroValue4
 t5 := Tryz.underlying5
 a5 := Tryz.isAgg5
 z5 := Tryz.sizeOf5
 v5 := Tryz.zeroValue5
 t9 := Tryz.underlying9
 a9 := Tryz.isAgg9
 z9 := Tryz.sizeOf9
 v9 := Tryz.zeroValue9
 t20 := Tryz.underlying20
 a20 := Tryz.isAgg20
 z20 := Tryz.sizeOf20
 v20 := Tryz.zeroValue20
 t21 := Tryz.underlying21
 a21 := Tryz.isAgg21
 z21 := Tryz.sizeOf21
 v21 := Tryz.zeroValue21
 t37 := Tryz.underlying127
 a37 := Tryz.isAgg127
 z37 := Tryz.sizeOf127
 v37 := Tryz.zeroValue127
 t46 := Tryz.underlying148
 a46 := Tryz.isAgg148
 z46 := Tryz.sizeOf148
 v46 := Tryz.zeroValue148
 t51 := Tryz.underlying190
 a51 := Tryz.isAgg190
 z51 := Tryz.sizeOf190
 v51 := Tryz.zeroValue190
 t53 := Tryz.underlying179
 a53 := Tryz.isAgg179
 z53 := Tryz.sizeOf179
 v53 := Tryz.zeroValue179
 t75 := Tryz.underlying164
 a75 := Tryz.isAgg164
 z75 := Tryz.sizeOf164
 v75 := Tryz.zeroValue164
 t76 := Tryz.underlying165
 a76 := Tryz.isAgg165
 z76 := Tryz.sizeOf165
 v76 := Tryz.zeroValue165
 t85 := Tryz.underlying194
 a85 := Tryz.isAgg194
 z85 := Tryz.sizeOf194
 v85 := Tryz.zeroValue194
 t127 := Tryz.underlying209
 a127 := Tryz.isAgg209
 z127 := Tryz.sizeOf209
 v127 := Tryz.zeroValue209
 t143 := Tryz.underlying210
 a143 := Tryz.isAgg210
 z143 := Tryz.sizeOf210
 v143 := Tryz.zeroValue210
 t145 := Tryz.underlying212
 a145 := Tryz.isAgg212
 z145 := Tryz.sizeOf212
 v145 := Tryz.zeroValue212
 t167 := Tryz.underlying193
 a167 := Tryz.isAgg193
 z167 := Tryz.sizeOf193
 v167 := Tryz.zeroValue193
 t168 := Tryz.underlying196
 a168 := Tryz.isAgg196
 z168 := Tryz.sizeOf196
 v168 := Tryz.zeroValue196
 t171 := Tryz.underlying178
 a171 := Tryz.isAgg178
 z171 := Tryz.sizeOf178
 v171 := Tryz.zeroValue178
 t173 := Tryz.underlying182
 a173 := Tryz.isAgg182
 z173 := Tryz.sizeOf182
 v173 := Tryz.zeroValue182
 t175 := Tryz.underlying200
 a175 := Tryz.isAgg200
 z175 := Tryz.sizeOf200
 v175 := Tryz.zeroValue200
 t210 := Tryz.underlying204
 a210 := Tryz.isAgg204
 z210 := Tryz.sizeOf204
 v210 := Tryz.zeroValue204
 t212 := Tryz.underlying189
 a212 := Tryz.isAgg189
 z212 := Tryz.sizeOf189
 v212 := Tryz.zeroValue189
 t213 := Tryz.underlying191
 a213 := Tryz.isAgg191
 z213 := Tryz.sizeOf191
 t232 := Tryz.underlying206
 a232 := Tryz.isAgg206
 z232 := Tryz.sizeOf206
 v232 := Tryz.zeroValue206
 t233 := Tryz.underlying207
 a233 := Tryz.isAgg207
 z233 := Tryz.sizeOf207
 v233 := Tryz.zeroValue207
 g15 := by kernel_rfl
 g16 := by kernel_rfl
 g17 := by kernel_rfl
 g18 := by kernel_rfl
 g19 := by kernel_rfl
 t80 := Tryz.underlying111
 a80 := Tryz.isAgg111
 z80 := Tryz.sizeOf111
 v80 := Tryz.zeroValue111
 i0 := by kernel_rfl
 i2 := by kernel_rfl
 i3 := by kernel_rfl
 i4 := by kernel_rfl
 i5 := by kernel_rfl
 i9 := by kernel_rfl
 i20 := by kernel_rfl
 i21 := by kernel_rfl
 i37 := by kernel_rfl
 i46 := by kernel_rfl
 i51 := by kernel_rfl
 i53 := by kernel_rfl
 i75 := by kernel_rfl
 i76 := by kernel_rfl
 i80 := by kernel_rfl
 i85 := by kernel_rfl
 i127 := by kernel_rfl
 i143 := by kernel_rfl
 i145 := by kernel_rfl
 i167 := by kernel_rfl
 i168 := by kernel_rfl
 i171 := by kernel_rfl
 i173 := by kernel_rfl
 i175 := by kernel_rfl
 i210 := by kernel_rfl
 i212 := by kernel_rfl
 i232 := by kernel_rfl
 i233 := by kernel_rfl
 m15 := by kernel_rfl
 m16 := by kernel_rfl
 m17 := by kernel_rfl
 m18 := by kernel_rfl
 m19 := by kernel_rfl
 c0 := by kernel_rfl
 c2 := by kernel_rfl
 c3 := by kernel_rfl
 c4 := by kernel_rfl
 c5 := by kernel_rfl
 c9 := by kernel_rfl
 c20 := by kernel_rfl
 c21 := by kernel_rfl
 c37 := by kernel_rfl
 c46 := by kernel_rfl
 c51 := by kernel_rfl
 c53 := by kernel_rfl
 c75 := by kernel_rfl
 c76 := by kernel_rfl
 c80 := by kernel_rfl
 c85 := by kernel_rfl
 c127 := by kernel_rfl
 c143 := by kernel_rfl
 c145 := by kernel_rfl
 c167 := by kernel_rfl
 c168 := by kernel_rfl
 c171 := by kernel_rfl
 c173 := by kernel_rfl
 c175 := by kernel_rfl
 c210 := by kernel_rfl
 c212 := by kernel_rfl
 c213 := by kernel_rfl
 c232 := by kernel_rfl
 c233 := by kernel_rfl }
theorem qga (w : World) (s : ByteArray) (hs : s.size ≤ 140737488351232) (v : Int) (h : Lib.atoiAll s.data.toList = .ok v) : ∃ T, Calls Tryz.prog 150 #[.string s] w fun e w' => e = .returned (.tuple #[.int .i64 v, .nilIface]) ∧ (w' = w ∨ ∃ t, w' = Lib.bytesWorld w T t) := ⟨_, Any.strconv_Atoi_ok layAtoi s (by omega) v h w⟩
theorem qen (w : World) (s : ByteArray) (hs : s.size ≤ 140737488351232) (h : Lib.atoiAll s.data.toList = .range) (tp : TypeId) (p : Value) (hv : w.var? Tryz.prog "strconv.ErrRange" = some #[.iface tp p]) : ∃ T, Calls Tryz.prog 150 #[.string s] w fun e w' => ∃ N : Nat, e = .returned (.tuple #[.int .i64 (Lib.atoiSat s.data.toList), .iface T (.pointer (some ⟨N, 0, none⟩))]) ∧ Below w.heap.size w w' := ⟨_, (Any.strconv_Atoi_range_var layAtoi s (by omega) h tp p w hv).mono (fun e w' h => by obtain ⟨N, h1, _, _, h2⟩ := h; exact ⟨N, h1, h2⟩)⟩
def renCount : Go.Shelf.Ren := ⟨fun | 138 => 172 | 195 => 186 | 218 => 187 | 143 => 188 | 219 => 195 | 217 => 169 | 225 => 198 | 224 => 199 | 267 => 200 | 266 => 180 | 314 => 201 | n => n, fun | 9 => 9 | 3 => 3 | 4 => 4 | 5 => 5 | 0 => 0 | 46 => 148 | 146 => 213 | 51 => 190 | n => n, fun | 1 => 6 | n => n⟩
theorem layCount : Go.Proofs.Lays.n138 Tryz.prog renCount := {
 mixed := by kernel_rfl
 f138 := Tryz.func172.trans (congrArg some (by kernel_rfl))
 f143 := Tryz.func188.trans (congrArg some (by kernel_rfl))
 f195 := Tryz.func186.trans (congrArg some (by kernel_rfl))
 f217 := Tryz.func169.trans (congrArg some (by kernel_rfl))
 f218 := Tryz.func187.trans (congrArg some (by kernel_rfl))
 f219 := Tryz.func195.trans (congrArg some (by kernel_rfl))
 f224 := Tryz.func199.trans (congrArg some (by kernel_rfl))
 f225 := Tryz.func198.trans (congrArg some (by kernel_rfl))
 f266 := Tryz.func180.trans (congrArg some (by kernel_rfl))
 f267 := Tryz.func200.trans (congrArg some (by kernel_rfl))
 f314 := Tryz.func201.trans (congrArg some (by kernel_rfl))
 t0 := Tryz.underlying0
 a0 := Tryz.isAgg0
 z0 := Tryz.sizeOf0
 v0 := Tryz.zeroValue0
 t3 := Tryz.underlying3
 a3 := Tryz.isAgg3
 z3 := Tryz.sizeOf3
 v3 := Tryz.zeroValue3
 t4 := Tryz.underlying4
 a4 := Tryz.isAgg4
 z4 := Tryz.sizeOf4
 v4 := Tryz.zeroValue4
 t5 := Tryz.underlying5
 a5 := Tryz.isAgg5
 z5 := Tryz.sizeOf5
 v5 := Tryz.zeroValue5
 t9 := Tryz.underlying9
 a9 := Tryz.isAgg9
 z9 := Tryz.sizeOf9
 v9 := Tryz.zeroValue9
 t46 := Tryz.underlying148
 a46 := Tryz.isAgg148
 z46 := Tryz.sizeOf148
 v46 := Tryz.zeroValue148
 t51 := Tryz.underlying190
 a51 := Tryz.isAgg190
 z51 := Tryz.sizeOf190
 v51 := Tryz.zeroValue190
 t146 := Tryz.underlying213
 a146 := Tryz.isAgg213
 z146 := Tryz.sizeOf213
 v146 := Tryz.zeroValue213
 g1 := by kernel_rfl }
theorem qio (w : World) (s : ByteArray) (c : UInt8) : Calls Tryz.prog 172 #[.string s, .string ⟨#[c]⟩] w fun e w' => e = .returned (.int .i64 (Lib.countByte s.data.toList c)) ∧ w' = w := Any.strings_Count_one layCount s c w
def renLidx : Go.Shelf.Ren := ⟨fun | 149 => 173 | 222 => 189 | n => n, fun | 9 => 9 | 5 => 5 | 3 => 3 | 4 => 4 | n => n, fun | n => n⟩
theorem layLidx : Go.Proofs.Lays.n149 Tryz.prog renLidx := {
 mixed := by kernel_rfl
 f149 := Tryz.func173.trans (congrArg some (by kernel_rfl))
 f222 := Tryz.func189.trans (congrArg some (by kernel_rfl))
 t3 := Tryz.underlying3
 a3 := Tryz.isAgg3
 z3 := Tryz.sizeOf3
 v3 := Tryz.zeroValue3
 t4 := Tryz.underlying4
 a4 := Tryz.isAgg4
 z4 := Tryz.sizeOf4
 v4 := Tryz.zeroValue4
 t5 := Tryz.underlying5
 a5 := Tryz.isAgg5
 z5 := Tryz.sizeOf5
 v5 := Tryz.zeroValue5
 t9 := Tryz.underlying9
 a9 := Tryz.isAgg9
 z9 := Tryz.sizeOf9
 v9 := Tryz.zeroValue9 }
theorem lidx_raw (w : World) (s : ByteArray) (c : Int) (hs : s.size ≤ 140737488351232) : Calls Tryz.prog 173 #[.string s, .int .u8 c] w fun e w' => e = .returned (.int .i64 (Lib.lastIndexByte s c)) ∧ w' = w := Any.strings_LastIndexByte layLidx s c (by omega) w
open Go.RowKit
theorem Tab9.later {w w' : World} (h : Tab9 w) (hb : Below w.heap.size w w') : Tab9 w' := by
 unfold Tab9 Lib.TabIs World.var? at *
 cases hg : Tryz.prog.globalNamed "internal/strconv.uint64pow10" with
 | none => rw [hg] at h; cases h
 | some g =>
  rw [hg] at h
  have hlt : g < w.heap.size := by
   rcases Nat.lt_or_ge g w.heap.size with x | x
   ·exact x
   ·simp only [Option.bind_some] at h
    rw [Array.getElem?_eq_none x] at h
    cases h
  simp only [Option.bind_some] at *
  rw [hb.block g hlt]
  exact h
def mayB (v : TV) : Bool :=
 if v.k = 1 then decide (v.n = 0) && isN v.tx
 else if v.k = 2 then decide (v.n = 0) && isW v.tx
 else if v.k = 3 then decide (v.tx.size = 0) && (decide (0 ≤ v.n) && decide (v.n ≤ 2147483647))
 else if v.k = 4 then decide (v.n = 0) && (decide (v.tx.size = 1) && isS (tb v.tx 0))
 else false
def frm (v : TV) : ByteArray := if v.k = 3 then ⟨(Lib.itoa v.n).toArray⟩ else v.tx
structure TvOk (v : TV) : Prop where
 k8 : v.k < 256
 tx47 : v.tx.size ≤ 140737488351232
 n1 : -9223372036854775808 ≤ v.n
 n2 : v.n ≤ 9223372036854775807
theorem qer {x : ByteArray} : (x.toList == []) = decide (x.size = 0) := by
 rw [ByteArray.toList_eq]
 obtain ⟨⟨l⟩⟩ := x
 cases l with
 | nil => rfl
 | cons a l => rfl
open Go.RowKit
def jz (K : Nat → TV) : Nat → Nat
 | 0 => 0
 | k + 1 => jz K k + ((frm (K k)).size + 1)
def jn (K : Nat → TV) : Nat → ByteArray
 | 0 => ⟨#[]⟩
 | k + 1 => (if k = 0 then ⟨#[]⟩ else jn K k ++ ⟨#[32]⟩) ++ frm (K k)
theorem qc7 (K : Nat → TV) (k : Nat) : jz K (k + 1) = jz K k + ((frm (K k)).size + 1) := rfl
theorem jn_succ (K : Nat → TV) (k : Nat) : jn K (k + 1) = (if k = 0 then ⟨#[]⟩ else jn K k ++ ⟨#[32]⟩) ++ frm (K k) := rfl
theorem qf3 (K : Nat → TV) (k : Nat) : ∀ d, jz K k ≤ jz K (k + d) := by
 intro d
 induction d with
 | zero => exact Nat.le_refl _
 | succ d ih => rw [← Nat.add_assoc, qc7]; omega
open Go.RowKit
def dvv : Nat → List UInt8 → Nat
 | a, [] => a
 | a, c :: r => dvv (a * 10 + (c.toNat - 48)) r
theorem dvv_ge : ∀ (l : List UInt8) (a : Nat), a ≤ dvv a l
 | [], _ => Nat.le_refl _
 | c :: r, a => by
  have := dvv_ge r (a * 10 + (c.toNat - 48))
  show a ≤ dvv (a * 10 + (c.toNat - 48)) r
  omega
theorem qh3 : ∀ (l : List UInt8) (a : Nat) (c : UInt8), dvv a (l ++ [c]) = 10 * dvv a l + (c.toNat - 48)
 | [], a, c => by show a * 10 + _ = _; rw [Nat.mul_comm]; rfl
 | b :: r, a, c => qh3 r _ c
theorem qdw : ∀ (l : List UInt8) (a : Nat), (∀ c ∈ l, 48 ≤ c.toNat ∧ c.toNat ≤ 57) → (dvv a l < 18446744073709551616 → Lib.parseUint10 a l = .ok (dvv a l)) ∧ (18446744073709551616 ≤ dvv a l → a < 18446744073709551616 → Lib.parseUint10 a l = .range)
 | [], a, _ => ⟨fun _ => rfl, fun h1 h2 => absurd h1 (Nat.not_le.2 h2)⟩
 | c :: r, a, h => by
  have hc := h c (by simp)
  have ih := qdw r (a * 10 + (c.toNat - 48)) (fun x hx => h x (by simp [hx]))
  have hge := dvv_ge r (a * 10 + (c.toNat - 48))
  have e : dvv a (c :: r) = dvv (a * 10 + (c.toNat - 48)) r := rfl
  rw [e]
  constructor
  ·intro h1
   show (if _ then _ else _) = _
   rw [if_pos hc, if_neg (by omega), if_neg (by omega)]
   exact ih.1 h1
  ·intro h1 _
   show (if _ then _ else _) = _
   rw [if_pos hc]
   split
   ·rfl
   ·split
    ·rfl
    ·exact ih.2 h1 (by omega)
theorem qgb {l : List UInt8} (h0 : l ≠ []) (h : ∀ c ∈ l, 48 ≤ c.toNat ∧ c.toNat ≤ 57) : (dvv 0 l < 9223372036854775808 → Lib.atoiAll l = .ok (dvv 0 l : Nat)) ∧ (9223372036854775808 ≤ dvv 0 l → Lib.atoiAll l = .range) := by
 cases l with
 | nil => exact absurd rfl h0
 | cons c r =>
  have hc := h c (by simp)
  have hp := qdw (c :: r) 0 h
  have hm : Lib.parseMag (c :: r) = Lib.parseUint10 0 (c :: r) := if_neg (by simp)
  have h43 : ¬ (c.toNat = 43 ∨ c.toNat = 45) := by omega
  have h45 : ¬ c.toNat = 45 := by omega
  constructor
  ·intro hv
   simp only [Lib.atoiAll, if_neg h43, hm, hp.1 (by omega)]
   rw [if_neg (fun x => by have := x.2; omega), if_neg (fun x => h45 x.1), if_neg h45]
  ·intro hv
   by_cases h64 : dvv 0 (c :: r) < 18446744073709551616
   ·simp only [Lib.atoiAll, if_neg h43, hm, hp.1 h64]
    rw [if_pos ⟨h45, hv⟩]
   ·simp only [Lib.atoiAll, if_neg h43, hm, hp.2 (by omega) (by omega)]
theorem qgc {x : ByteArray} {i : Nat} (h : i < x.size) : ∃ c, x.data.toList[i]? = some c ∧ c.toNat = tb x i := by
 refine ⟨x[i], ?_, qca h⟩
 have h' : i < x.data.size := h
 rw [Array.getElem?_toList, Array.getElem?_eq_getElem h']
 rfl
theorem dvv_take {x : ByteArray} : ∀ k, k ≤ x.size → dvv 0 (x.data.toList.take k) = nvl x 0 k := by
 intro k
 induction k with
 | zero => intro _; rfl
 | succ k ih =>
  intro hk
  obtain ⟨c, h1, h2⟩ := qgc (x := x) (i := k) (by omega)
  rw [List.take_add_one, h1]
  show dvv 0 (_ ++ [c]) = 10 * nvl x 0 k + (tb x (0 + k) - 48)
  rw [qh3, ih (by omega), h2, Nat.zero_add]
theorem dvv_all (x : ByteArray) : dvv 0 x.data.toList = nvl x 0 x.size := by
 rw [← dvv_take x.size (Nat.le_refl _), List.take_of_length_le (by rw [Array.length_toList]; exact Nat.le_refl _)]
theorem qfm {x : ByteArray} (h0 : 1 ≤ x.size) (h : ∀ j, j < x.size → isD (tb x j) = true) : (nvl x 0 x.size < 9223372036854775808 → Lib.atoiAll x.data.toList = .ok (nvl x 0 x.size : Nat)) ∧ (9223372036854775808 ≤ nvl x 0 x.size → Lib.atoiAll x.data.toList = .range ∧ Lib.atoiSat x.data.toList = 9223372036854775807) := by
 have hn : x.data.toList ≠ [] := fun e => by
  have : x.data.toList.length = 0 := by rw [e]; rfl
  rw [Array.length_toList] at this
  have h1 : x.size = x.data.size := rfl
  omega
 have ha : ∀ c ∈ x.data.toList, 48 ≤ c.toNat ∧ c.toNat ≤ 57 := fun c hc => by
  obtain ⟨i, hi, e⟩ := List.getElem_of_mem hc
  rw [Array.length_toList] at hi
  obtain ⟨d, h1, h2⟩ := qgc (x := x) (i := i) hi
  rw [List.getElem?_eq_getElem (by rw [Array.length_toList]; exact hi)] at h1
  obtain rfl : c = d := by rw [← e]; exact Option.some.inj h1
  rw [h2]
  exact qb5.1 (h i hi)
 have := qgb hn ha
 rw [dvv_all] at this
 refine ⟨this.1, fun hv => ⟨this.2 hv, ?_⟩⟩
 unfold Lib.atoiSat
 rw [if_neg]
 intro e
 cases hl : x.data.toList with
 | nil => exact hn hl
 | cons c r =>
  rw [hl] at e
  have := ha c (by rw [hl]; simp)
  have e' : c.toNat = 45 := by simpa using e
  omega
theorem qip (s : ByteArray) : ∀ k, k ≤ s.size → lnn s k = 1 + (s.data.toList.take k).count 10 := by
 intro k
 induction k with
 | zero => intro _; rfl
 | succ k ih =>
  intro hk
  obtain ⟨c, h1, h2⟩ := qgc (x := s) (i := k) (by omega)
  rw [qct, ih (by omega), List.take_add_one, h1]
  show _ = 1 + (_ ++ [c]).count 10
  rw [List.count_append]
  by_cases hc : tb s k = 10
  ·have : c = 10 := UInt8.toNat_inj.1 (by rw [h2, hc]; rfl)
   subst this
   rw [if_pos hc]
   simp
   omega
  ·have : c ≠ 10 := fun e => hc (by rw [← h2, e]; rfl)
   rw [if_neg hc]
   simp [this]
theorem qiq (s : ByteArray) (k : Nat) (hk : k ≤ s.size) : 1 + Lib.countByte (s.extract 0 k).data.toList 10 = lnn s k := by
 rw [qip s k hk]
 unfold Lib.countByte
 rw [show (s.extract 0 k).data.toList = s.data.toList.take k by simp [ByteArray.data_extract]]
theorem qir {x : ByteArray} {i : Nat} (h : i < x.size) : (x.data[i]!).toNat = tb x i := by
 have h' : i < x.data.size := h
 rw [getElem!_pos x.data i h']
 exact qca h
theorem cln_idx {s : ByteArray} {k : Nat} (hk : k ≤ s.size) : ∀ j, j ≤ k → (j : Int) - Lib.lastIdx (s.extract 0 k) 10 j = (cln s j : Nat) := by
 intro j
 induction j with
 | zero => intro _; rfl
 | succ j ih =>
  intro hj
  have hb : (((s.extract 0 k).data[j]!).toNat : Int) = (tb s j : Nat) := by
   rw [qir (by rw [size_extract hk]; omega), qaz (by omega) hk, Nat.zero_add]
  have ih := ih (by omega)
  rw [qcu]
  unfold Lib.lastIdx
  rw [hb]
  by_cases hc : tb s j = 10
  ·rw [if_pos hc, if_pos (by omega)]
   omega
  ·rw [if_neg hc, if_neg (by omega)]
   omega
theorem qis (s : ByteArray) (k : Nat) (hk : k ≤ s.size) : (k : Int) - Lib.lastIndexByte (s.extract 0 k) 10 = (cln s k : Nat) := by
 unfold Lib.lastIndexByte
 rw [size_extract hk, Nat.sub_zero]
 exact cln_idx hk k (Nat.le_refl _)
theorem sign_idx : ∀ c, c < 256 → decide (0 ≤ Lib.indexByte [61, 59, 44, 40, 41, 91, 93, 43, 45, 42, 47, 37] c.toUInt8) = isS c := by decide +kernel
open Go.RowKit
theorem qeo {H : Type} {enc : TypeId × Value → H} {P : Program} {w : World} {base : Nat} {sp : Nat → Bool} {held : Bool} {fuel : Nat} {t e : TypeId} {n : Nat} {cs : List Value} {zs : List (List UInt8)} {p : List MemPlace}
  (ht : P.underlying t = some (.array n e)) (he : P.underlying e = some .string) (hce : P.cellsOf e = 1) (hct : P.cellsOf t = n)
  (h : DataW.trod enc P w base sp held fuel t cs = some (.agg (zs.map fun z => .lit (.string z)), p)) : cs = zs.map fun z => Value.string ⟨z.toArray⟩ := by
 cases fuel with
 | zero => simp [DataW.trod] at h
 | succ fuel =>
  simp only [DataW.trod, ht, hce, hct, Nat.mul_one] at h
  split at h
  ·rename_i hl
   obtain ⟨xs, hm, hx⟩ := Option.map_eq_some_iff.1 h
   have hxs : xs.map (·.1) = zs.map fun z => (DataW.lit (.string z) : DataW H) := by
    have := congrArg Prod.fst hx
    simpa using this
   have hxl : xs.length = n := by simpa using Lib.mapM_length hm
   have hzl : zs.length = n := by
    have := congrArg List.length hxs
    simp at this
    omega
   apply List.ext_getElem?
   intro i
   by_cases hi : i < n
   ·obtain ⟨b, hb, hf⟩ := Lib.mapM_at hm i i (by simp [hi])
    obtain ⟨z, hc, hd, _⟩ := DataW.trod_string he hf
    have h1 : cs[i]? = some (.string z) := by
     have := congrArg (·[0]?) hc
     simpa [List.getElem?_take, List.getElem?_drop] using this
    have h2 : (xs.map (·.1))[i]? = some (DataW.lit (.string z.data.toList) : DataW H) := by simp [hb, hd]
    rw [hxs] at h2
    simp only [List.getElem?_map, Option.map_eq_some_iff, DataW.lit.injEq, Lit.string.injEq] at h2
    obtain ⟨z', hz', rfl⟩ := h2
    simp [h1, hz']
   ·rw [List.getElem?_eq_none (by omega), List.getElem?_eq_none (by simp; omega)]
  ·cases h
def Wt9 (w : World) : Prop := w.var? Tryz.prog "recoup/token.words" = some (wds.map Value.string).toArray
theorem qfn {P : Program} {w w' : World} {nm : String} {cs : Array Value} (h : w.var? P nm = some cs) (hb : Below w.heap.size w w') : w'.var? P nm = some cs := by
 unfold World.var? at *
 cases hg : P.globalNamed nm with
 | none => rw [hg] at h; cases h
 | some g =>
  rw [hg] at h
  simp only [Option.bind_some] at h ⊢
  have hlt : g < w.heap.size := by
   rcases Nat.lt_or_ge g w.heap.size with x | x
   ·exact x
   ·rw [Array.getElem?_eq_none x] at h; cases h
  rw [hb.block g hlt]
  exact h
theorem Wt9.later {w w' : World} (h : Wt9 w) (hb : Below w.heap.size w w') : Wt9 w' := qfn h hb
def Er9 (w : World) : Prop := ∃ (tp : TypeId) (p : Value), w.var? Tryz.prog "strconv.ErrRange" = some #[.iface tp p]
theorem Er9.later {w w' : World} (h : Er9 w) (hb : Below w.heap.size w w') : Er9 w' := by
 obtain ⟨tp, p, h⟩ := h
 exact ⟨tp, p, qfn h hb⟩
open Go.RowKit
theorem qcv (w : World) (c : Nat) (hc : c < 256) : Calls Tryz.prog 103 #[.int .u8 (c : Int)] w fun e w' => e = .returned (.bool (isD c)) ∧ w = w' := by
 by_cases h1 : 48 ≤ c
 ·by_cases h2 : c ≤ 57
  ·rw [isD_t ⟨h1, h2⟩]
   have q : decide ((c : Int) ≤ 57) = true := decide_eq_true (by omega)
   go_enter Tryz.func103, Tryz.ntmps103
   go_wp2
   go_ret
   exact ⟨rfl, rfl⟩
  ·rw [isD_f (fun h => h2 h.2)]
   have q : decide ((c : Int) ≤ 57) = false := decide_eq_false (by omega)
   go_enter Tryz.func103, Tryz.ntmps103
   go_wp2
   go_ret
   exact ⟨rfl, rfl⟩
 ·rw [isD_f (fun h => h1 h.1)]
  go_enter Tryz.func103, Tryz.ntmps103
  go_wp2
  go_ret
  exact ⟨rfl, rfl⟩
def inN (c : Nat) (f : Bool) : Bool := if isD c then !f else isL c
theorem qcg (w : World) (c : Nat) (f : Bool) (hc : c < 256) : Calls Tryz.prog 147 #[.int .u8 (c : Int), .bool f] w fun e w' => e = .returned (.bool (inN c f)) ∧ w = w' := by
 have HD : Hid (∀ w' : World, Calls Tryz.prog 103 #[.int .u8 (c : Int)] w' fun e w'' => e = .returned (.bool (isD c)) ∧ w' = w'') := fun w' => qcv w' c hc
 cases hd : isD c with
 | true =>
  rw [hd] at HD
  cases f with
  | true =>
   rw [show inN c true = false by unfold inN; rw [hd]; rfl]
   go_enter Tryz.func147, Tryz.ntmps147
   go_wp2_with (go_at_call 103; refine (HD.out _).mono ?_; rintro e w' ⟨rfl, rfl⟩)
   go_ret
   exact ⟨rfl, rfl⟩
  | false =>
   rw [show inN c false = true by unfold inN; rw [hd]; rfl]
   go_enter Tryz.func147, Tryz.ntmps147
   go_wp2_with (go_at_call 103; refine (HD.out _).mono ?_; rintro e w' ⟨rfl, rfl⟩)
   go_ret
   exact ⟨rfl, rfl⟩
 | false =>
  rw [hd] at HD
  rw [show inN c f = isL c by unfold inN; rw [hd]; rfl]
  clear hd
  by_cases h1 : 97 ≤ c
  ·by_cases h2 : c ≤ 122
   ·rw [isL_t ⟨h1, h2⟩]
    have q : decide ((c : Int) ≤ 122) = true := decide_eq_true (by omega)
    go_enter Tryz.func147, Tryz.ntmps147
    go_wp2_with (go_at_call 103; refine (HD.out _).mono ?_; rintro e w' ⟨rfl, rfl⟩)
    go_ret
    exact ⟨rfl, rfl⟩
   ·rw [qig (fun h => h2 h.2)]
    have q : decide ((c : Int) ≤ 122) = false := decide_eq_false (by omega)
    go_enter Tryz.func147, Tryz.ntmps147
    go_wp2_with (go_at_call 103; refine (HD.out _).mono ?_; rintro e w' ⟨rfl, rfl⟩)
    go_ret
    exact ⟨rfl, rfl⟩
  ·rw [qig (fun h => h1 h.1)]
   go_enter Tryz.func147, Tryz.ntmps147
   go_wp2_with (go_at_call 103; refine (HD.out _).mono ?_; rintro e w' ⟨rfl, rfl⟩)
   go_ret
   exact ⟨rfl, rfl⟩
theorem qde (c : Nat) : inN c true = isL c := by
 unfold inN
 cases hd : isD c with
 | false => rfl
 | true =>
  have := qb5.1 hd
  rw [qig (by omega)]
  rfl
theorem qe0 (c : Nat) : inN c false = (isD c || true && isL c) := by
 unfold inN
 cases hd : isD c <;> cases hl : isL c <;> rfl
theorem qd5 (w : World) (c : Nat) (hc : c < 256) : Calls Tryz.prog 102 #[.int .u8 (c : Int)] w fun e w' => e = .returned (.bool (isL c)) ∧ w = w' := by
 have HD : Hid (∀ w' : World, Calls Tryz.prog 147 #[.int .u8 (c : Int), .bool true] w' fun e w'' => e = .returned (.bool (isL c)) ∧ w' = w'') := fun w' => by rw [← qde]; exact qcg w' c true hc
 obtain ⟨b, Hb⟩ : ∃ b, Hid (isL c = b) := ⟨_, rfl⟩
 rw [Hb.out] at HD
 rw [Hb.out]
 go_enter Tryz.func102, Tryz.ntmps102
 go_wp2_with (go_at_call 147; refine (HD.out _).mono ?_; rintro e w' ⟨rfl, rfl⟩)
 go_ret
 exact ⟨rfl, rfl⟩
theorem qht (w : World) (c : Nat) (hc : c < 256) : Calls Tryz.prog 101 #[.int .u8 (c : Int)] w fun e w' => e = .returned (.bool (isB c)) ∧ w = w' := by
 by_cases h1 : c = 32
 ·subst h1
  go_enter Tryz.func101, Tryz.ntmps101
  go_wp2
  go_ret
  exact ⟨rfl, rfl⟩
 ·have q1 : ((c : Int) == 32) = false := by simp; omega
  by_cases h2 : c = 9
  ·subst h2
   go_enter Tryz.func101, Tryz.ntmps101
   go_wp2
   go_ret
   exact ⟨rfl, rfl⟩
  ·have q2 : ((c : Int) == 9) = false := by simp; omega
   by_cases h3 : c = 10
   ·subst h3
    go_enter Tryz.func101, Tryz.ntmps101
    go_wp2
    go_ret
    exact ⟨rfl, rfl⟩
   ·have q3 : ((c : Int) == 10) = false := by simp; omega
    rw [show isB c = false by unfold isB; exact decide_eq_false (by omega)]
    go_enter Tryz.func101, Tryz.ntmps101
    go_wp2
    go_ret
    exact ⟨rfl, rfl⟩
theorem qfo (w : World) (c : Nat) (hc : c < 256) : Calls Tryz.prog 104 #[.int .u8 (c : Int)] w fun e w' => e = .returned (.bool (isS c)) ∧ w = w' := by
 obtain ⟨i, HI⟩ : ∃ i : Int, Hid (Lib.indexByte [61, 59, 44, 40, 41, 91, 93, 43, 45, 42, 47, 37] c.toUInt8 = i) := ⟨_, rfl⟩
 have HD : Hid (∀ w' : World, Calls Tryz.prog 148 #[.string ⟨#[61, 59, 44, 40, 41, 91, 93, 43, 45, 42, 47, 37]⟩, .int .u8 (c : Int)] w' fun e w'' => e = .returned (.int .i64 i) ∧ w' = w'') := fun w' => (sidx_raw w' _ _).mono (fun e w'' h => ⟨by rw [h.1, ← HI.out]; rfl, h.2.symm⟩)
 have HS : Hid (decide (0 ≤ i) = isS c) := by show _ = _; rw [← HI.out]; exact sign_idx c hc
 rw [← HS.out]
 clear HS HI
 go_enter Tryz.func104, Tryz.ntmps104
 go_wp2_with (go_at_call 148; refine (HD.out _).mono ?_; rintro e w' ⟨rfl, rfl⟩)
 go_ret
 exact ⟨rfl, rfl⟩
theorem gWords : Tryz.prog.globalNamed "recoup/token.words" = some 4 := by kernel_rfl
theorem Wt9.cell {w : World} (h : Wt9 w) (i : Nat) (hi : i < 17) : w.cell? ⟨4, i, none⟩ = some (.string (wds.getD i default)) := by
 rw [World.var?_cell gWords h i]
 have : i < wds.length := hi
 simp [this]
theorem qe8 (w : World) (x : ByteArray) (HT : Hid (Wt9 w)) : Calls Tryz.prog 149 #[.string x] w fun e w' => e = .returned (.bool (isW x)) ∧ w = w' := by
 go_enter Tryz.func149, Tryz.ntmps149
 go_wp2
 go_loop [4] (fun vi => ∃ i : Nat, i ≤ 17 ∧ vi = .int .i64 (i : Int) ∧ Hid (∀ j, j < i → wds.getD j default ≠ x)) (fun vi => 17 - (intOf vi).toNat)
 case atStart => exact ⟨0, by omega, rfl, fun j hj => by omega⟩
 case round =>
  obtain ⟨i, hi, rfl, HN⟩ := hrel
  by_cases hlt : i < 17
  ·have hc := HT.out.cell i hlt
   obtain ⟨y, HY⟩ : ∃ y, Hid (wds.getD i default = y) := ⟨_, rfl⟩
   rw [HY.out] at hc
   have p0 : (0 : Int) ≤ (i : Int) := by omega
   have p1 : (i : Int) < 17 := by omega
   by_cases hy : y = x
   ·subst hy
    have HS9 : Hid (isW y = true) := isW_at hlt HY.out
    go_wp2
    go_ret
    exact ⟨by rw [HS9.out]; rfl, rfl⟩
   ·have hy2 := qhq hy
    go_wp2
    refine ⟨⟨i + 1, by omega, by go_num, fun j hj => ?_⟩, by simp [intOf]; omega⟩
    by_cases e : j = i
    ·rw [e, HY.out]; exact hy
    ·exact HN.out j (by omega)
  ·have HS9 : Hid (isW x = false) := qii (fun j hj => HN.out j (by omega))
   go_wp2
   go_ret
   exact ⟨by rw [HS9.out]; rfl, rfl⟩
open Go.RowKit
theorem isN_of {x : ByteArray} {n : Nat} (hn : x.size = n) (h0 : 1 ≤ n) (h16 : n ≤ 16) (hW : isW x = false) (h : ∀ j, j < n → inN (tb x j) (decide (j = 0)) = true) : isN x = true := by
 refine qbc.2 ⟨by omega, by omega, ?_, hW, fun j hj => ?_⟩
 ·have := h 0 (by omega)
  rw [show decide ((0 : Nat) = 0) = true from rfl, qde] at this
  exact this
 ·have := h j (by omega)
  by_cases e : j = 0
  ·subst e
   rw [show decide ((0 : Nat) = 0) = true from rfl, qde] at this
   rw [this]
   rfl
  ·rw [decide_eq_false e, qe0] at this
   rw [Bool.or_comm]
   simpa using this
theorem qhu {x : ByteArray} {n j : Nat} (hn : x.size = n) (hj : j < n) (h : inN (tb x j) (decide (j = 0)) = false) : isN x = false := by
 refine qcf (fun hp => ?_)
 by_cases e : j = 0
 ·subst e
  rw [show decide ((0 : Nat) = 0) = true from rfl, qde] at h
  rw [hp.first] at h
  cases h
 ·rw [decide_eq_false e, qe0] at h
  have := hp.all j (by omega)
  rw [Bool.or_comm] at this
  simp only [Bool.true_and] at h
  rw [this] at h
  cases h
theorem qit (w : World) (x : ByteArray) (n : Nat) (hn : x.size = n) (hs : n ≤ 140737488351232) (HT : Hid (Wt9 w)) : Calls Tryz.prog 174 #[.string x] w fun e w' => e = .returned (.bool (isN x)) ∧ w = w' := by
 have HWd : Hid (Calls Tryz.prog 149 #[.string x] w fun e w'' => e = .returned (.bool (isW x)) ∧ w = w'') := qe8 w x HT
 obtain ⟨v, HV⟩ : ∃ v, Hid (isW x = v) := ⟨_, rfl⟩
 obtain ⟨r, HR⟩ : ∃ r, Hid (isN x = r) := ⟨_, rfl⟩
 rw [HV.out] at HWd
 rw [HR.out]
 by_cases h0 : n = 0
 ·obtain rfl : r = false := by rw [← HR.out]; exact qcf (fun h => by have := h.pos; omega)
  subst h0
  clear HR
  go_enter Tryz.func174, Tryz.ntmps174
  go_wp2
  go_ret
  exact ⟨rfl, rfl⟩
 have q0 : ((n : Int) == 0) = false := by simp; omega
 by_cases h16 : 16 < n
 ·obtain rfl : r = false := by rw [← HR.out]; exact qcf (fun h => by have := h.most; omega)
  have q2 : decide (16 < n) = true := decide_eq_true h16
  have q3 : decide ((16 : Int) < (n : Int)) = true := decide_eq_true (by omega)
  clear HR
  go_enter Tryz.func174, Tryz.ntmps174
  go_wp2
  go_ret
  exact ⟨rfl, rfl⟩
 have q2 : decide (16 < n) = false := decide_eq_false h16
 have q3 : decide ((16 : Int) < (n : Int)) = false := decide_eq_false (by omega)
 cases v with
 | true =>
  obtain rfl : r = false := by rw [← HR.out]; exact qcf (fun h => by have := h.noWord; rw [HV.out] at this; cases this)
  clear HR
  go_enter Tryz.func174, Tryz.ntmps174
  go_wp2_with (go_at_call 149; refine HWd.out.mono ?_; rintro r w1 ⟨rfl, rfl⟩)
  go_ret
  exact ⟨rfl, rfl⟩
 | false =>
  have HRn : Hid ((∀ j, j < n → inN (tb x j) (decide (j = 0)) = true) → r = true) := fun h => by
   rw [← HR.out]
   exact isN_of hn (by omega) (by omega) HV.out h
  have HRf : Hid (∀ j, j < n → inN (tb x j) (decide (j = 0)) = false → r = false) := fun j hj h => by
   rw [← HR.out]
   exact qhu hn hj h
  clear HR
  go_enter Tryz.func174, Tryz.ntmps174
  go_wp2_with (go_at_call 149; refine HWd.out.mono ?_; rintro r w1 ⟨rfl, rfl⟩)
  go_loop [18] (fun vi => ∃ i : Nat, i ≤ n ∧ vi = .int .i64 (i : Int) ∧ Hid (∀ j, j < i → inN (tb x j) (decide (j = 0)) = true)) (fun vi => n - (intOf vi).toNat)
  case atStart => exact ⟨0, by omega, rfl, fun j hj => by omega⟩
  case round =>
   obtain ⟨i, hi, rfl, HA⟩ := hrel
   by_cases hlt : i < n
   ·have hix : i < x.size := by omega
    obtain ⟨c, HC⟩ : ∃ c, Hid (tb x i = c) := ⟨_, rfl⟩
    have hc : x[i].toNat = c := by rw [← HC.out]; exact qca hix
    have hc8 : c < 256 := by rw [← HC.out]; exact qem x i
    have p0 : (0 : Int) ≤ (i : Int) := by omega
    have p1 : (i : Int) < (n : Int) := by omega
    obtain ⟨f, HF⟩ : ∃ f, Hid (decide (i = 0) = f) := ⟨_, rfl⟩
    have qf : ((i : Int) == 0) = f := by rw [← HF.out]; by_cases e : i = 0 <;> simp [e]
    obtain ⟨g, HG⟩ : ∃ g, Hid (inN c f = g) := ⟨_, rfl⟩
    have HN : Hid (∀ w' : World, Calls Tryz.prog 147 #[.int .u8 (c : Int), .bool f] w' fun e w'' => e = .returned (.bool g) ∧ w' = w'') := fun w' => by rw [← HG.out]; exact qcg w' c f hc8
    cases g with
    | true =>
     have HA2 : Hid (∀ j, j < i + 1 → inN (tb x j) (decide (j = 0)) = true) := fun j hj => by
      by_cases e : j = i
      ·rw [e, HC.out, HF.out]; exact HG.out
      ·exact HA.out j (by omega)
     go_wp2_with (go_at_call 147; refine (HN.out _).mono ?_; rintro r w1 ⟨rfl, rfl⟩)
     exact ⟨⟨i + 1, by omega, by go_num, HA2⟩, by simp [intOf]; omega⟩
    | false =>
     have HR9 : Hid (r = false) := HRf.out i hlt (by rw [HC.out, HF.out]; exact HG.out)
     go_wp2_with (go_at_call 147; refine (HN.out _).mono ?_; rintro r w1 ⟨rfl, rfl⟩)
     go_ret
     exact ⟨by rw [HR9.out]; rfl, rfl⟩
   ·have HR9 : Hid (r = true) := HRn.out (fun j hj => HA.out j (by omega))
    go_wp2
    go_ret
    exact ⟨by rw [HR9.out]; rfl, rfl⟩
theorem tmay (w : World) (k : Nat) (x : ByteArray) (n ln cl : Int) (h : TvOk ⟨k, x, n, ln, cl⟩) (hw : Wt9 w) :
  Calls Tryz.prog 158 #[.agg #[.int .u8 (k : Int), .string x, .int .i64 n, .int .i64 ln, .int .i64 cl]] w fun e w' => e = .returned (.bool (mayB ⟨k, x, n, ln, cl⟩)) ∧ Below w.heap.size w w' := by
 obtain ⟨h8, hx, hn1, hn2⟩ := h
 have h8 : k < 256 := h8
 have hx : x.size ≤ 140737488351232 := hx
 have hn1 : -9223372036854775808 ≤ n := hn1
 have hn2 : n ≤ 9223372036854775807 := hn2
 have HW := qa0 hw
 have hv := Vn.new w 104 #[.int .u8 (k : Int), .string x, .int .i64 n, .int .i64 ln, .int .i64 cl]
 have k0 := hv.cell 0 _ rfl
 have k1 := hv.cell 1 _ rfl
 have k2 := hv.cell 2 _ rfl
 clear hv hw
 by_cases e1 : k = 1
 ·subst e1
  by_cases hn : n = 0
  ·have HR : Hid (mayB ⟨1, x, n, ln, cl⟩ = isN x) := by show mayB _ = _; unfold mayB; simp [hn]
   rw [HR.out]
   subst hn
   have HC : Hid (∀ w' : World, Below w.heap.size w w' → Calls Tryz.prog 174 #[.string x] w' fun e w'' => e = .returned (.bool (isN x)) ∧ w' = w'') := fun w' hb => qit w' x _ rfl hx (HW.out.later hb)
   obtain ⟨r, Hr⟩ : ∃ r, Hid (isN x = r) := ⟨_, rfl⟩
   rw [Hr.out] at HC
   rw [Hr.out]
   go_enter Tryz.func158, Tryz.ntmps158
   go_wp2_with (go_at_call 174; refine (HC.out _ (jlow _ _)).mono ?_; rintro r w1 ⟨rfl, rfl⟩)
   go_ret
   exact ⟨rfl, jlow _ _⟩
  ·have HR : Hid (mayB ⟨1, x, n, ln, cl⟩ = false) := by show mayB _ = _; unfold mayB; simp [hn]
   rw [HR.out]
   have q : (n == 0) = false := by simpa using hn
   go_enter Tryz.func158, Tryz.ntmps158
   go_wp2
   go_ret
   exact ⟨rfl, jlow _ _⟩
 have q1 : ((k : Int) == 1) = false := by simp; omega
 by_cases e2 : k = 2
 ·subst e2
  by_cases hn : n = 0
  ·have HR : Hid (mayB ⟨2, x, n, ln, cl⟩ = isW x) := by show mayB _ = _; unfold mayB; simp [hn]
   rw [HR.out]
   subst hn
   have HC : Hid (∀ w' : World, Below w.heap.size w w' → Calls Tryz.prog 149 #[.string x] w' fun e w'' => e = .returned (.bool (isW x)) ∧ w' = w'') := fun w' hb => qe8 w' x (HW.out.later hb)
   obtain ⟨r, Hr⟩ : ∃ r, Hid (isW x = r) := ⟨_, rfl⟩
   rw [Hr.out] at HC
   rw [Hr.out]
   go_enter Tryz.func158, Tryz.ntmps158
   go_wp2_with (go_at_call 149; refine (HC.out _ (jlow _ _)).mono ?_; rintro r w1 ⟨rfl, rfl⟩)
   go_ret
   exact ⟨rfl, jlow _ _⟩
  ·have HR : Hid (mayB ⟨2, x, n, ln, cl⟩ = false) := by show mayB _ = _; unfold mayB; simp [hn]
   rw [HR.out]
   have q : (n == 0) = false := by simpa using hn
   go_enter Tryz.func158, Tryz.ntmps158
   go_wp2
   go_ret
   exact ⟨rfl, jlow _ _⟩
 have q2 : ((k : Int) == 2) = false := by simp; omega
 by_cases e3 : k = 3
 ·subst e3
  have HR : Hid (mayB ⟨3, x, n, ln, cl⟩ = (decide (x.size = 0) && (decide (0 ≤ n) && decide (n ≤ 2147483647)))) := rfl
  rw [HR.out]
  have e0 := qer (x := x)
  by_cases hx0 : x.size = 0
  ·rw [decide_eq_true hx0] at e0 ⊢
   by_cases g1 : 0 ≤ n
   ·rw [decide_eq_true g1]
    have g2 : decide (0 ≤ n) = true := decide_eq_true g1
    obtain ⟨b, Hb⟩ : ∃ b, Hid (decide (n ≤ 2147483647) = b) := ⟨_, rfl⟩
    have hb := Hb.out
    rw [Hb.out]
    go_enter Tryz.func158, Tryz.ntmps158
    go_wp2
    go_ret
    exact ⟨rfl, jlow _ _⟩
   ·rw [decide_eq_false g1]
    have g2 : decide (0 ≤ n) = false := decide_eq_false g1
    go_enter Tryz.func158, Tryz.ntmps158
    go_wp2
    go_ret
    exact ⟨rfl, jlow _ _⟩
  ·rw [decide_eq_false hx0] at e0 ⊢
   go_enter Tryz.func158, Tryz.ntmps158
   go_wp2
   go_ret
   exact ⟨rfl, jlow _ _⟩
 have q3 : ((k : Int) == 3) = false := by simp; omega
 by_cases e4 : k = 4
 ·subst e4
  by_cases hn : n = 0
  ·subst hn
   by_cases hx1 : x.size = 1
   ·have h0x : 0 < x.size := by omega
    obtain ⟨c, HC⟩ : ∃ c, Hid (tb x 0 = c) := ⟨_, rfl⟩
    have hc : x[0].toNat = c := by rw [← HC.out]; exact qca h0x
    have hc8 : c < 256 := by rw [← HC.out]; exact qem x 0
    have HR : Hid (mayB ⟨4, x, 0, ln, cl⟩ = isS c) := by show mayB _ = _; unfold mayB; simp [hx1, HC.out]
    rw [HR.out]
    have HS : Hid (∀ w' : World, Calls Tryz.prog 104 #[.int .u8 (c : Int)] w' fun e w'' => e = .returned (.bool (isS c)) ∧ w' = w'') := fun w' => qfo w' c hc8
    obtain ⟨r, Hr⟩ : ∃ r, Hid (isS c = r) := ⟨_, rfl⟩
    rw [Hr.out] at HS
    rw [Hr.out]
    go_enter Tryz.func158, Tryz.ntmps158
    go_wp2_with (go_at_call 104; refine (HS.out _).mono ?_; rintro r w1 ⟨rfl, rfl⟩)
    go_ret
    exact ⟨rfl, jlow _ _⟩
   ·have HR : Hid (mayB ⟨4, x, 0, ln, cl⟩ = false) := by show mayB _ = _; unfold mayB; simp [hx1]
    rw [HR.out]
    have qx : ((x.size : Int) == 1) = false := by simp; omega
    go_enter Tryz.func158, Tryz.ntmps158
    go_wp2
    go_ret
    exact ⟨rfl, jlow _ _⟩
  ·have HR : Hid (mayB ⟨4, x, n, ln, cl⟩ = false) := by show mayB _ = _; unfold mayB; simp [hn]
   rw [HR.out]
   have q : (n == 0) = false := by simpa using hn
   go_enter Tryz.func158, Tryz.ntmps158
   go_wp2
   go_ret
   exact ⟨rfl, jlow _ _⟩
 have q4 : ((k : Int) == 4) = false := by simp; omega
 have HR : Hid (mayB ⟨k, x, n, ln, cl⟩ = false) := by show mayB _ = _; unfold mayB; simp [e1, e2, e3, e4]
 rw [HR.out]
 go_enter Tryz.func158, Tryz.ntmps158
 go_wp2
 go_ret
 exact ⟨rfl, jlow _ _⟩
open Go.RowKit
theorem Vn.keptx {w w1 w2 : World} {b : Nat} {T : TypeId} {xs : Array Value} {v : Value} (h : Vn w b T xs) (hg : w1.grownBy w2 v.ownBlock) (hb : Below w.heap.size w w1) (hv : ∀ {g}, v.ownBlock = some g → g < b) : Vn w2 b T xs := by
 have h1 := h.later hb
 unfold Vn at *
 rw [hg.block b (lt_of_block h1) (fun e => by have := hv e.symm; omega)]
 exact h1
end Go.Proofs.YtnjcpmkfghcogaaGreatDoor
