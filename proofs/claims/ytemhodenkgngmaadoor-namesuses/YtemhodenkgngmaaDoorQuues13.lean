/-
  Contracts of the program's tree: which items may be; May.
-/
import Derived.Test.YtemhodenkgngmaaDoorQuues00
import Derived.Test.YtemhodenkgngmaaDoorQuues10
import Derived.Test.YtemhodenkgngmaaDoorQuues11
import Derived.Test.YtemhodenkgngmaaDoorQuues12
set_option maxRecDepth 100000
set_option maxHeartbeats 16000000
namespace Go.Proofs.YtemhodenkgngmaaDoor
open Go.RowKit
theorem qfd : ∀ (op : BinOp) (x y : Operand) (xs ys : Array Value) (w : World), (eqGuard op 108 x y (.agg xs) (.agg ys)).run Tryd.prog w = .ok () w := fun op x y xs ys w => run_eqGuard_agg w op _ x y xs ys (by kernel_rfl)
theorem eql_if : ∀ (a0 a1 a2 a3 a4 b0 b1 b2 b3 b4 : Bool) (w : World), (binOp .eql 108 (.agg #[.bool a0, .bool a1, .bool a2, .bool a3, .bool a4]) (.agg #[.bool b0, .bool b1, .bool b2, .bool b3, .bool b4])).run Tryd.prog w = .ok (.bool ((a0 == b0) && ((a1 == b1) && ((a2 == b2) && ((a3 == b3) && (a4 == b4)))))) w := by
 intro a0 a1 a2 a3 a4 b0 b1 b2 b3 b4 w
 rw [run_eql_struct, run_equalIn_struct w 9999 _ _ _ (by kernel_rfl) (by kernel_rfl)]
 by_cases h0 : a0 = b0 <;> by_cases h1 : a1 = b1 <;> by_cases h2 : a2 = b2 <;> by_cases h3 : a3 = b3 <;> by_cases h4 : a4 = b4 <;> simp [Op.eqFields, go_sem, h0, h1, h2, h3, h4]
theorem qa6 {op : Oper} {a : Act} {w : World} {K : Act → World → Prop} {Q : Exit → Act → World → Prop} (T : TypeId) (p q : Operand) (ho : op.op = .store T p q)
  (b : Nat) (xs ys : Array Value) (hp : a.eval p = .pointer (some ⟨b, 0, none⟩)) (hq : a.eval q = .agg ys) (hv : Vn w b T xs) (hi : (Tryd.prog.info? T).map (·.size) = some ys.size) (hsz : xs.size = ys.size) (h1 : ys.all (·.oneCell') = true)
  (h : ∀ w', Hid (Vn w' b T ys) → Hid (w.grownBy w' (some b)) → K (a.put op.dst undef) w') : op.wp Tryd.prog a w K Q :=
 wp_store_row T p q ho b ys hp hq T xs hv hi hsz h1 (h _ (hv.row ys) (qb2 w b ys))
/-- A whole variable is read, behind a guard that wants it too. -/
theorem qaa {P : Program} {ops : Array Oper} {rest : List Oper} {o : Oper} {a : Act} {w : World} {Q : Exit → Act → World → Prop} (hw : Region.wanted o (yielded ops a.tmps) = true) (ty : TypeId) (x : Operand) (ho : o.op = .load ty x)
  (g : Nat) (hx : a.eval x = .pointer (some ⟨g, 0, none⟩)) (t : TypeId) (cs : Array Value) (fr : Nat × Nat) (d : TypeDesc) (hg : w.heap[g]? = some (.cells cs t fr))
  (hu : P.underlying ty = some d) (hd : (match d with | .struct _ | .array _ _ => true | _ => false) = true) (hi : (P.info? ty).map (·.size) = some cs.size)
  (h : wpList P ops Q rest (a.put o.dst (.agg cs)) w) : wpList P ops Q (o :: rest) a w := by
 show if _ then _ else _
 rw [if_pos hw]
 exact Or.inl (wp_load_row ty x ho g hx t cs fr d hg hu hd hi h)
theorem sizeI : (Tryd.prog.info? 61).map (·.size) = some 19 := by kernel_rfl
theorem qa7 (w : World) : Below w.heap.size w w.drew := (Below.refl _ _).drew
/-- Are an item's fields as they are asked for? -/
def fiB (u0 u1 u2 u3 u4 : Bool) (nm : ByteArray) (lx : Lx) (ls : Ls) (pl nl : Nat) : Bool := ((u0 == !decide (nm.size = 0)) && ((u1 == !zxB lx) && ((u2 == !zsB ls) && ((u3 == !decide (pl = 0)) && (u4 == decide (0 < nl)))))) && ((!u0 || isN nm) && decide (nl ≤ 64))
theorem tfitsi (w : World) (k pl nl vk vl vc sk na ca np cp nr cr lc : Nat) (nm vm sm : ByteArray) (vn vln vcl sln scl ln cl : Int) (va aa pa ra la : Option Addr) (T : Xt) (S : St) (u0 u1 u2 u3 u4 : Bool) (hT : XV w (.agg #[.int .u8 (vk : Int), .int .i64 vn, .string vm, .slice va vl vc, .int .i64 vln, .int .i64 vcl]) T) (hS : SV w (.agg #[.int .u8 (sk : Int), .string sm, .slice aa na ca, .slice pa np cp, .slice ra nr cr, .int .i64 sln, .int .i64 scl]) S) (hx : nm.size ≤ 140737488351232) (hnl : nl ≤ 140737488351232) (hw : Wt9 w) :
  Calls Tryd.prog 51 #[.agg #[.int .u8 (k : Int), .string nm, .int .u8 (vk : Int), .int .i64 vn, .string vm, .slice va vl vc, .int .i64 vln, .int .i64 vcl, .int .u8 (sk : Int), .string sm, .slice aa na ca, .slice pa np cp, .slice ra nr cr, .int .i64 sln, .int .i64 scl, .int .u8 (pl : Int), .slice la nl lc, .int .i64 ln, .int .i64 cl], .agg #[.bool u0, .bool u1, .bool u2, .bool u3, .bool u4]] w fun e w' => e = .returned (.bool (fiB u0 u1 u2 u3 u4 nm (T []) (S []) pl nl)) ∧ Below w.heap.size w w' := by
 have HT := qa0 hT
 have HS := qa0 hS
 have HW := qa0 hw
 clear hT hS hw
 have HZx : Hid (∀ w' : World, Below w.heap.size w w' → Calls Tryd.prog 66 #[.agg #[.int .u8 (vk : Int), .int .i64 vn, .string vm, .slice va vl vc, .int .i64 vln, .int .i64 vcl]] w' fun e w'' => e = .returned (.bool (zxB (T []))) ∧ Below w'.heap.size w' w'') := fun w' hb => tzerox w' T _ (HT.out.later hb)
 have HZs : Hid (∀ w' : World, Below w.heap.size w w' → Calls Tryd.prog 67 #[.agg #[.int .u8 (sk : Int), .string sm, .slice aa na ca, .slice pa np cp, .slice ra nr cr, .int .i64 sln, .int .i64 scl]] w' fun e w'' => e = .returned (.bool (zsB (S []))) ∧ Below w'.heap.size w' w'') := fun w' hb => tzeros w' S _ (HS.out.later hb)
 have HN : Hid (∀ w' : World, Below w.heap.size w w' → Calls Tryd.prog 68 #[.string nm] w' fun e w'' => e = .returned (.bool (isN nm)) ∧ Below w'.heap.size w' w'') := fun w' hb => qcw w' nm hx (HW.out.later hb)
 have HF : Hid (fiB u0 u1 u2 u3 u4 nm (T []) (S []) pl nl = (((u0 == !decide (nm.size = 0)) && ((u1 == !zxB (T [])) && ((u2 == !zsB (S [])) && ((u3 == !decide (pl = 0)) && (u4 == decide (0 < nl)))))) && ((!u0 || isN nm) && decide (nl ≤ 64)))) := rfl
 rw [HF.out]
 clear HF HT HS HW
 have e0 := qcb (x := nm)
 obtain ⟨b0, Hb0⟩ : ∃ b0, Hid (decide (nm.size = 0) = b0) := ⟨_, rfl⟩
 rw [Hb0.out] at e0 ⊢
 generalize zxB (T []) = b1 at *
 generalize zsB (S []) = b2 at *
 obtain ⟨b3, Hb3⟩ : ∃ b3, Hid (decide (pl = 0) = b3) := ⟨_, rfl⟩
 have q3 : ((pl : Int) == 0) = b3 := by rw [← Hb3.out]; by_cases h : pl = 0 <;> simp [h]
 have q3n : ((pl : Int) != 0) = (!b3) := by rw [← Hb3.out]; by_cases h : pl = 0 <;> simp [h]
 obtain ⟨b4, Hb4⟩ : ∃ b4, Hid (decide (0 < nl) = b4) := ⟨_, rfl⟩
 have q4 : decide ((0 : Int) < (nl : Int)) = b4 := by rw [← Hb4.out]; by_cases h : 0 < nl <;> simp [h] <;> omega
 have q4' : decide (0 < nl) = b4 := Hb4.out
 obtain ⟨b5, Hb5⟩ : ∃ b5, Hid (decide (nl ≤ 64) = b5) := ⟨_, rfl⟩
 have q5 : decide ((nl : Int) ≤ 64) = b5 := by rw [← Hb5.out]; by_cases h : nl ≤ 64 <;> simp [h] <;> omega
 have q5' : decide (nl ≤ 64) = b5 := Hb5.out
 rw [Hb3.out, Hb4.out, Hb5.out]
 generalize isN nm = nb at *
 obtain ⟨eq, Heq⟩ : ∃ eq, Hid (((u0 == !b0) && ((u1 == !b1) && ((u2 == !b2) && ((u3 == !b3) && (u4 == b4))))) = eq) := ⟨_, rfl⟩
 have hne : ∀ w : World, (binOp .eql 108 (.agg #[.bool u0, .bool u1, .bool u2, .bool u3, .bool u4]) (.agg #[.bool (!b0), .bool (!b1), .bool (!b2), .bool (!b3), .bool b4])).run Tryd.prog w = .ok (.bool eq) w := fun w => by rw [eql_if, Heq.out]
 rw [Heq.out]
 clear Heq Hb0 Hb3 Hb4 Hb5
 have hng := qfd
 have HI := qa0 ((Vn.new w 61 #[.int .u8 (k : Int), .string nm, .int .u8 (vk : Int), .int .i64 vn, .string vm, .slice va vl vc, .int .i64 vln, .int .i64 vcl, .int .u8 (sk : Int), .string sm, .slice aa na ca, .slice pa np cp, .slice ra nr cr, .int .i64 sln, .int .i64 scl, .int .u8 (pl : Int), .slice la nl lc, .int .i64 ln, .int .i64 cl]).later (jlow _ (.cells #[.bool u0, .bool u1, .bool u2, .bool u3, .bool u4] 108)))
 have HU := qa0 (Vn.new (w.alloc (.cells #[.int .u8 (k : Int), .string nm, .int .u8 (vk : Int), .int .i64 vn, .string vm, .slice va vl vc, .int .i64 vln, .int .i64 vcl, .int .u8 (sk : Int), .string sm, .slice aa na ca, .slice pa np cp, .slice ra nr cr, .int .i64 sln, .int .i64 scl, .int .u8 (pl : Int), .slice la nl lc, .int .i64 ln, .int .i64 cl] 61)) 108 #[.bool u0, .bool u1, .bool u2, .bool u3, .bool u4])
 have HB := qa0 (jtwo (jlow w (.cells #[.int .u8 (k : Int), .string nm, .int .u8 (vk : Int), .int .i64 vn, .string vm, .slice va vl vc, .int .i64 vln, .int .i64 vcl, .int .u8 (sk : Int), .string sm, .slice aa na ca, .slice pa np cp, .slice ra nr cr, .int .i64 sln, .int .i64 scl, .int .u8 (pl : Int), .slice la nl lc, .int .i64 ln, .int .i64 cl] 61)) (jlow _ (.cells #[.bool u0, .bool u1, .bool u2, .bool u3, .bool u4] 108)))
 rw [qab] at HU
 have c0 := HI.out.cell 0 _ rfl
 have c1 := HI.out.cell 1 _ rfl
 have c2 := HI.out.cell 2 _ rfl
 have c3 := HI.out.cell 3 _ rfl
 have c4 := HI.out.cell 4 _ rfl
 have c5 := HI.out.cell 5 _ rfl
 have c6 := HI.out.cell 6 _ rfl
 have c7 := HI.out.cell 7 _ rfl
 have c8 := HI.out.cell 8 _ rfl
 have c9 := HI.out.cell 9 _ rfl
 have c10 := HI.out.cell 10 _ rfl
 have c11 := HI.out.cell 11 _ rfl
 have c12 := HI.out.cell 12 _ rfl
 have c13 := HI.out.cell 13 _ rfl
 have c14 := HI.out.cell 14 _ rfl
 have c15 := HI.out.cell 15 _ rfl
 have c16 := HI.out.cell 16 _ rfl
 have c17 := HI.out.cell 17 _ rfl
 have c18 := HI.out.cell 18 _ rfl
 have f0 := HU.out.cell 0 _ rfl
 have f1 := HU.out.cell 1 _ rfl
 have f2 := HU.out.cell 2 _ rfl
 have f3 := HU.out.cell 3 _ rfl
 have f4 := HU.out.cell 4 _ rfl
 have HSa : Hid (∀ w' : World, Vn w' w.heap.size 61 #[.int .u8 (k : Int), .string nm, .int .u8 (vk : Int), .int .i64 vn, .string vm, .slice va vl vc, .int .i64 vln, .int .i64 vcl, .int .u8 (sk : Int), .string sm, .slice aa na ca, .slice pa np cp, .slice ra nr cr, .int .i64 sln, .int .i64 scl, .int .u8 (pl : Int), .slice la nl lc, .int .i64 ln, .int .i64 cl] → (fun w' => w'.cell? ⟨w.heap.size, 1, none⟩ = some (.string nm) ∧ w'.cell? ⟨w.heap.size, 2, none⟩ = some (.int .u8 (vk : Int)) ∧ w'.cell? ⟨w.heap.size, 3, none⟩ = some (.int .i64 vn) ∧ w'.cell? ⟨w.heap.size, 4, none⟩ = some (.string vm) ∧ w'.cell? ⟨w.heap.size, 5, none⟩ = some (.slice va vl vc) ∧ w'.cell? ⟨w.heap.size, 6, none⟩ = some (.int .i64 vln) ∧ w'.cell? ⟨w.heap.size, 7, none⟩ = some (.int .i64 vcl) ∧ w'.cell? ⟨w.heap.size, 8, none⟩ = some (.int .u8 (sk : Int)) ∧ w'.cell? ⟨w.heap.size, 9, none⟩ = some (.string sm) ∧ w'.cell? ⟨w.heap.size, 10, none⟩ = some (.slice aa na ca) ∧ w'.cell? ⟨w.heap.size, 11, none⟩ = some (.slice pa np cp) ∧ w'.cell? ⟨w.heap.size, 12, none⟩ = some (.slice ra nr cr) ∧ w'.cell? ⟨w.heap.size, 13, none⟩ = some (.int .i64 sln) ∧ w'.cell? ⟨w.heap.size, 14, none⟩ = some (.int .i64 scl) ∧ w'.cell? ⟨w.heap.size, 15, none⟩ = some (.int .u8 (pl : Int)) ∧ w'.cell? ⟨w.heap.size, 16, none⟩ = some (.slice la nl lc)) w') := fun w' h => ⟨h.cell 1 _ rfl, h.cell 2 _ rfl, h.cell 3 _ rfl, h.cell 4 _ rfl, h.cell 5 _ rfl, h.cell 6 _ rfl, h.cell 7 _ rfl, h.cell 8 _ rfl, h.cell 9 _ rfl, h.cell 10 _ rfl, h.cell 11 _ rfl, h.cell 12 _ rfl, h.cell 13 _ rfl, h.cell 14 _ rfl, h.cell 15 _ rfl, h.cell 16 _ rfl⟩
 go_enter Tryd.func51, Tryd.ntmps51
 go_wp2
 refine wp_region_held (S := fun w' => w'.cell? ⟨w.heap.size, 1, none⟩ = some (.string nm) ∧ w'.cell? ⟨w.heap.size, 2, none⟩ = some (.int .u8 (vk : Int)) ∧ w'.cell? ⟨w.heap.size, 3, none⟩ = some (.int .i64 vn) ∧ w'.cell? ⟨w.heap.size, 4, none⟩ = some (.string vm) ∧ w'.cell? ⟨w.heap.size, 5, none⟩ = some (.slice va vl vc) ∧ w'.cell? ⟨w.heap.size, 6, none⟩ = some (.int .i64 vln) ∧ w'.cell? ⟨w.heap.size, 7, none⟩ = some (.int .i64 vcl) ∧ w'.cell? ⟨w.heap.size, 8, none⟩ = some (.int .u8 (sk : Int)) ∧ w'.cell? ⟨w.heap.size, 9, none⟩ = some (.string sm) ∧ w'.cell? ⟨w.heap.size, 10, none⟩ = some (.slice aa na ca) ∧ w'.cell? ⟨w.heap.size, 11, none⟩ = some (.slice pa np cp) ∧ w'.cell? ⟨w.heap.size, 12, none⟩ = some (.slice ra nr cr) ∧ w'.cell? ⟨w.heap.size, 13, none⟩ = some (.int .i64 sln) ∧ w'.cell? ⟨w.heap.size, 14, none⟩ = some (.int .i64 scl) ∧ w'.cell? ⟨w.heap.size, 15, none⟩ = some (.int .u8 (pl : Int)) ∧ w'.cell? ⟨w.heap.size, 16, none⟩ = some (.slice la nl lc)) (by kernel_rfl) ?_
 change wpAnyH _ _ _ _ _ _ _ _ (World.drew _)
 obtain ⟨W0, HW0⟩ : ∃ W0, Hid (((w.alloc (.cells #[.int .u8 (k : Int), .string nm, .int .u8 (vk : Int), .int .i64 vn, .string vm, .slice va vl vc, .int .i64 vln, .int .i64 vcl, .int .u8 (sk : Int), .string sm, .slice aa na ca, .slice pa np cp, .slice ra nr cr, .int .i64 sln, .int .i64 scl, .int .u8 (pl : Int), .slice la nl lc, .int .i64 ln, .int .i64 cl] 61)).alloc (.cells #[.bool u0, .bool u1, .bool u2, .bool u3, .bool u4] 108)).drew = W0) := ⟨_, rfl⟩
 have HB0 : Hid (Below w.heap.size w W0) := by show Below _ _ _; rw [← HW0.out]; exact HB.out.drew
 have HI0 : Hid (Vn W0 w.heap.size 61 #[.int .u8 (k : Int), .string nm, .int .u8 (vk : Int), .int .i64 vn, .string vm, .slice va vl vc, .int .i64 vln, .int .i64 vcl, .int .u8 (sk : Int), .string sm, .slice aa na ca, .slice pa np cp, .slice ra nr cr, .int .i64 sln, .int .i64 scl, .int .u8 (pl : Int), .slice la nl lc, .int .i64 ln, .int .i64 cl]) := by show Vn _ _ _ _; rw [← HW0.out]; exact HI.out.later (qa7 _)
 have HU0 : Hid (Vn W0 (w.heap.size + 1) 108 #[.bool u0, .bool u1, .bool u2, .bool u3, .bool u4]) := by show Vn _ _ _ _; rw [← HW0.out]; exact HU.out.later (qa7 _)
 rw [HW0.out]
 clear HW0 HB HI HU c0 c1 c2 c3 c4 c5 c6 c7 c8 c9 c10 c11 c12 c13 c14 c15 c16 c17 c18 f0 f1 f2 f3 f4
 refine wtkq 0 ?v0_1 rfl (by kernel_rfl) (fun _ _ _ h => h) (by rfl) ?y0_1 (HSa.out _ HI0.out) ?z0_1
 case y0_1 => (intro w hSw; (try dsimp only at hSw); go_simp; try with_reducible rfl)
 try simp only [mz1, mz3, Act.put, mz4, mz5, mz6]
 refine wtkq 1 ?v1_2 rfl (by kernel_rfl) (fun _ _ _ h => h) (by rfl) ?y1_2 (HSa.out _ HI0.out) ?z1_2
 case y1_2 => (intro w hSw; (try dsimp only at hSw); go_simp; try with_reducible rfl)
 try simp only [mz1, mz2, mz3, Act.put, mz4, mz5, mz6]
 refine wtkq 2 ?v2_3 rfl (by kernel_rfl) (fun _ _ _ h => h) (by rfl) ?y2_3 (HSa.out _ HI0.out) ?z2_3
 case y2_3 => (intro w hSw; (try dsimp only at hSw); go_simp; try with_reducible rfl)
 try simp only [mz1, mz2, mz3, Act.put, mz4, mz5, mz6]
 refine wtkq 3 ?v3_4 rfl (by kernel_rfl) (fun _ _ _ h => h) (by rfl) ?y3_4 (HSa.out _ HI0.out) ?z3_4
 case y3_4 => (intro w hSw; (try dsimp only at hSw); go_simp; try with_reducible rfl)
 try simp only [mz1, mz2, mz3, Act.put, mz4, mz5, mz6]
 refine wtkq 4 ?v4_5 rfl (by kernel_rfl) (fun _ _ _ h => h) (by rfl) ?y4_5 (HSa.out _ HI0.out) ?z4_5
 case y4_5 => (intro w hSw; (try dsimp only at hSw); go_simp; try with_reducible rfl)
 try simp only [mz1, mz2, mz3, Act.put, mz4, mz5, mz6]
 refine wtkq 7 ?v7_6 rfl (by kernel_rfl) (fun _ _ _ h => h) (by rfl) ?y7_6 (HSa.out _ HI0.out) ?z7_6
 case y7_6 => (intro w hSw; (try dsimp only at hSw); go_simp; try with_reducible rfl)
 try simp only [mz1, mz2, mz3, Act.put, mz4, mz5, mz6]
 refine wtkq 8 ?v8_7 rfl (by kernel_rfl) (fun _ _ _ h => h) (by rfl) ?y8_7 (HSa.out _ HI0.out) ?z8_7
 case y8_7 => (intro w hSw; (try dsimp only at hSw); go_simp; try with_reducible rfl)
 try simp only [mz1, mz2, mz3, Act.put, mz4, mz5, mz6]
 refine wtkq 11 ?v11_8 rfl (by kernel_rfl) (fun _ _ _ h => h) (by rfl) ?y11_8 (HSa.out _ HI0.out) ?z11_8
 case y11_8 => (intro w hSw; (try dsimp only at hSw); go_simp; try with_reducible rfl)
 try simp only [mz1, mz2, mz3, Act.put, mz4, mz5, mz6]
 refine wtkq 12 ?v12_9 rfl (by kernel_rfl) (fun _ _ _ h => h) (by rfl) ?y12_9 (HSa.out _ HI0.out) ?z12_9
 case y12_9 => (intro w hSw; (try dsimp only at hSw); go_simp; try with_reducible rfl)
 try simp only [mz1, mz2, mz3, Act.put, mz4, mz5, mz6]
 refine wtkq 13 ?v13_10 rfl (by kernel_rfl) (fun _ _ _ h => h) (by rfl) ?y13_10 (HSa.out _ HI0.out) ?z13_10
 case y13_10 => (intro w hSw; (try dsimp only at hSw); go_simp; try with_reducible rfl)
 try simp only [mz1, mz2, mz3, Act.put, mz4, mz5, mz6]
 refine wtkq 14 ?v14_11 rfl (by kernel_rfl) (fun _ _ _ h => h) (by rfl) ?y14_11 (HSa.out _ HI0.out) ?z14_11
 case y14_11 => (intro w hSw; (try dsimp only at hSw); go_simp; try with_reducible rfl)
 try simp only [mz1, mz2, mz3, Act.put, mz4, mz5, mz6]
 refine wtkq 15 ?v15_12 rfl (by kernel_rfl) (fun _ _ _ h => h) (by rfl) ?y15_12 (HSa.out _ HI0.out) ?z15_12
 case y15_12 => (intro w hSw; (try dsimp only at hSw); go_simp; try with_reducible rfl)
 try simp only [mz1, mz2, mz3, Act.put, mz4, mz5, mz6]
 refine wtkq 16 ?v16_13 rfl (by kernel_rfl) (fun _ _ _ h => h) (by rfl) ?y16_13 (HSa.out _ HI0.out) ?z16_13
 case y16_13 => (intro w hSw; (try dsimp only at hSw); go_simp; try with_reducible rfl)
 try simp only [mz1, mz2, mz3, Act.put, mz4, mz5, mz6]
 refine wtkq 17 ?v17_14 rfl (by kernel_rfl) (fun _ _ _ h => h) (by rfl) ?y17_14 (HSa.out _ HI0.out) ?z17_14
 case y17_14 => (intro w hSw; (try dsimp only at hSw); go_simp; try with_reducible rfl)
 try simp only [mz1, mz2, mz3, Act.put, mz4, mz5, mz6]
 refine wpAnyH_ready (rs := [5, 19]) (by kernel_rfl) (by simp) ?_
 refine AllReadyH.cons rfl (fun KK hKK => ?px15) (AllReadyH.cons rfl (fun KK hKK => ?py15) AllReadyH.nil)
 case px15 =>
  go_simp
  refine (HZx.out _ HB0.out).mono ?_; rintro e W16 ⟨rfl, hb⟩
  have HB16 := qa0 (jtwo HB0.out hb)
  have HI16 := qa0 (HI0.out.later hb)
  have HU16 := qa0 (HU0.out.later hb)
  clear hb
  refine hKK.out _ _ (HSa.out _ HI16.out) (fun _ => ?_)
  clear hKK KK
  try simp only [mz1, mz2, mz3, Act.put, mz4, mz5, mz6]
  refine wtkq 6 ?v6_17 rfl (by kernel_rfl) (fun _ _ _ h => h) (by rfl) ?y6_17 (HSa.out _ HI16.out) ?z6_17
  case y6_17 => (intro w hSw; (try dsimp only at hSw); go_simp; try with_reducible rfl)
  try simp only [mz1, mz2, mz3, Act.put, mz4, mz5, mz6]
  refine wpAnyH_ready (rs := [9, 19]) (by kernel_rfl) (by simp) ?_
  refine AllReadyH.cons rfl (fun KK hKK => ?px18) (AllReadyH.cons rfl (fun KK hKK => ?py18) AllReadyH.nil)
  case px18 =>
   go_simp
   refine (HZs.out _ HB16.out).mono ?_; rintro e W19 ⟨rfl, hb⟩
   have HB19 := qa0 (jtwo HB16.out hb)
   have HI19 := qa0 (HI16.out.later hb)
   have HU19 := qa0 (HU16.out.later hb)
   clear hb
   refine hKK.out _ _ (HSa.out _ HI19.out) (fun _ => ?_)
   clear hKK KK
   try simp only [mz1, mz2, mz3, Act.put, mz4, mz5, mz6]
   refine wtkq 10 ?v10_20 rfl (by kernel_rfl) (fun _ _ _ h => h) (by rfl) ?y10_20 (HSa.out _ HI19.out) ?z10_20
   case y10_20 => (intro w hSw; (try dsimp only at hSw); go_simp; try with_reducible rfl)
   try simp only [mz1, mz2, mz3, Act.put, mz4, mz5, mz6]
   refine wtkq 18 ?v18_21 rfl (by kernel_rfl) (fun _ _ _ h => h) (by rfl) ?y18_21 (HSa.out _ HI19.out) ?z18_21
   case y18_21 => (intro w hSw; (try dsimp only at hSw); go_simp; try with_reducible rfl)
   try simp only [mz1, mz2, mz3, Act.put, mz4, mz5, mz6]
   refine wpAnyH_ready (rs := [19]) (by kernel_rfl) (by simp) ?_
   refine AllReadyH.cons rfl (fun KK hKK => ?_) AllReadyH.nil
   go_simp
   have hal := jlow W19 (.cells #[.bool false, .bool false, .bool false, .bool false, .bool false] 108)
   have HB23 := qa0 (jtwo HB19.out hal)
   have HI23 := qa0 (HI19.out.later hal)
   have HU23 := qa0 (HU19.out.later hal)
   have HH23 := qa0 (Vn.new W19 108 #[.bool false, .bool false, .bool false, .bool false, .bool false])
   have hsz := HB19.out.size
   have hiu := HU19.out.lt
   clear hal
   refine hKK.out _ _ (HSa.out _ HI23.out) (fun _ => ?_)
   clear hKK KK
   try simp only [mz1, mz2, mz3, Act.put, mz4, mz5, mz6]
   refine wpAnyH_ready (rs := [20]) (by kernel_rfl) (by simp) ?_
   refine AllReadyH.cons rfl (fun KK hKK => ?_) AllReadyH.nil
   refine qa6 108 _ _ rfl W19.heap.size _ #[.bool (!b0), .bool (!b1), .bool (!b2), .bool (!b3), .bool b4] rfl rfl HH23.out sizeIF rfl (all5 rfl rfl rfl rfl rfl) ?_; intro Wz HH9 hg9
   have HI9 := qa0 (HI23.out.kept hg9.out (by simp; omega))
   have HU9 := qa0 (HU23.out.kept hg9.out (by simp; omega))
   have HB9 : Hid (Below w.heap.size w Wz) := HB23.out.trans (jbelow hg9.out HB23.out.size (fun g e => by cases e; omega))
   refine hKK.out _ _ (HSa.out _ HI9.out) (fun _ => ?_)
   clear hKK KK hg9
   try simp only [mz1, mz2, mz3, Act.put]
   refine wpAnyH_done (by kernel_rfl) ?_ _
   have n0 := HU9.out.cell 0 _ rfl
   have n1 := HU9.out.cell 1 _ rfl
   have n2 := HU9.out.cell 2 _ rfl
   have n3 := HU9.out.cell 3 _ rfl
   have n4 := HU9.out.cell 4 _ rfl
   have h0 := HH9.out.cell 0 _ rfl
   have h1 := HH9.out.cell 1 _ rfl
   have h2 := HH9.out.cell 2 _ rfl
   have h3 := HH9.out.cell 3 _ rfl
   have h4 := HH9.out.cell 4 _ rfl
   have m1 := HI9.out.cell 1 _ rfl
   have m16 := HI9.out.cell 16 _ rfl
   cases eq with
   | false =>
    go_wp2
    go_ret
    exact ⟨rfl, HB9.out⟩
   | true =>
    cases u0 with
    | false =>
     go_wp2
     go_ret
     exact ⟨rfl, HB9.out⟩
    | true =>
     cases nb with
     | false =>
      go_wp2_with (go_at_call 68; refine (HN.out _ HB9.out).mono ?_; rintro e w4 ⟨rfl, hb4⟩; have HB4 := qa0 (jtwo HB9.out hb4); have HI4 := qa0 (HI9.out.later hb4); have z16 := HI4.out.cell 16 _ rfl; clear hb4)
      go_ret
      exact ⟨rfl, HB4.out⟩
     | true =>
      go_wp2_with (go_at_call 68; refine (HN.out _ HB9.out).mono ?_; rintro e w4 ⟨rfl, hb4⟩; have HB4 := qa0 (jtwo HB9.out hb4); have HI4 := qa0 (HI9.out.later hb4); have z16 := HI4.out.cell 16 _ rfl; clear hb4)
      go_ret
      exact ⟨rfl, HB4.out⟩
  case py18 =>
   go_simp
   have hal := jlow W16 (.cells #[.bool false, .bool false, .bool false, .bool false, .bool false] 108)
   have HB24 := qa0 (jtwo HB16.out hal)
   have HI24 := qa0 (HI16.out.later hal)
   have HU24 := qa0 (HU16.out.later hal)
   have HH24 := qa0 (Vn.new W16 108 #[.bool false, .bool false, .bool false, .bool false, .bool false])
   have hsz := HB16.out.size
   have hiu := HU16.out.lt
   clear hal
   refine hKK.out _ _ (HSa.out _ HI24.out) (fun _ => ?_)
   clear hKK KK
   try simp only [mz1, mz2, mz3, Act.put, mz4, mz5, mz6]
   refine wpAnyH_ready (rs := [9]) (by kernel_rfl) (by simp) ?_
   refine AllReadyH.cons rfl (fun KK hKK => ?_) AllReadyH.nil
   go_simp
   refine (HZs.out _ HB24.out).mono ?_; rintro e W26 ⟨rfl, hb⟩
   have HB26 := qa0 (jtwo HB24.out hb)
   have HI26 := qa0 (HI24.out.later hb)
   have HU26 := qa0 (HU24.out.later hb)
   have HH26 := qa0 (HH24.out.later hb)
   clear hb
   refine hKK.out _ _ (HSa.out _ HI26.out) (fun _ => ?_)
   clear hKK KK
   try simp only [mz1, mz2, mz3, Act.put, mz4, mz5, mz6]
   refine wtkq 10 ?v10_27 rfl (by kernel_rfl) (fun _ _ _ h => h) (by rfl) ?y10_27 (HSa.out _ HI26.out) ?z10_27
   case y10_27 => (intro w hSw; (try dsimp only at hSw); go_simp; try with_reducible rfl)
   try simp only [mz1, mz2, mz3, Act.put, mz4, mz5, mz6]
   refine wtkq 18 ?v18_28 rfl (by kernel_rfl) (fun _ _ _ h => h) (by rfl) ?y18_28 (HSa.out _ HI26.out) ?z18_28
   case y18_28 => (intro w hSw; (try dsimp only at hSw); go_simp; try with_reducible rfl)
   try simp only [mz1, mz2, mz3, Act.put, mz4, mz5, mz6]
   refine wpAnyH_ready (rs := [20]) (by kernel_rfl) (by simp) ?_
   refine AllReadyH.cons rfl (fun KK hKK => ?_) AllReadyH.nil
   refine qa6 108 _ _ rfl W16.heap.size _ #[.bool (!b0), .bool (!b1), .bool (!b2), .bool (!b3), .bool b4] rfl rfl HH26.out sizeIF rfl (all5 rfl rfl rfl rfl rfl) ?_; intro Wz HH9 hg9
   have HI9 := qa0 (HI26.out.kept hg9.out (by simp; omega))
   have HU9 := qa0 (HU26.out.kept hg9.out (by simp; omega))
   have HB9 : Hid (Below w.heap.size w Wz) := HB26.out.trans (jbelow hg9.out HB26.out.size (fun g e => by cases e; omega))
   refine hKK.out _ _ (HSa.out _ HI9.out) (fun _ => ?_)
   clear hKK KK hg9
   try simp only [mz1, mz2, mz3, Act.put]
   refine wpAnyH_done (by kernel_rfl) ?_ _
   have n0 := HU9.out.cell 0 _ rfl
   have n1 := HU9.out.cell 1 _ rfl
   have n2 := HU9.out.cell 2 _ rfl
   have n3 := HU9.out.cell 3 _ rfl
   have n4 := HU9.out.cell 4 _ rfl
   have h0 := HH9.out.cell 0 _ rfl
   have h1 := HH9.out.cell 1 _ rfl
   have h2 := HH9.out.cell 2 _ rfl
   have h3 := HH9.out.cell 3 _ rfl
   have h4 := HH9.out.cell 4 _ rfl
   have m1 := HI9.out.cell 1 _ rfl
   have m16 := HI9.out.cell 16 _ rfl
   cases eq with
   | false =>
    go_wp2
    go_ret
    exact ⟨rfl, HB9.out⟩
   | true =>
    cases u0 with
    | false =>
     go_wp2
     go_ret
     exact ⟨rfl, HB9.out⟩
    | true =>
     cases nb with
     | false =>
      go_wp2_with (go_at_call 68; refine (HN.out _ HB9.out).mono ?_; rintro e w4 ⟨rfl, hb4⟩; have HB4 := qa0 (jtwo HB9.out hb4); have HI4 := qa0 (HI9.out.later hb4); have z16 := HI4.out.cell 16 _ rfl; clear hb4)
      go_ret
      exact ⟨rfl, HB4.out⟩
     | true =>
      go_wp2_with (go_at_call 68; refine (HN.out _ HB9.out).mono ?_; rintro e w4 ⟨rfl, hb4⟩; have HB4 := qa0 (jtwo HB9.out hb4); have HI4 := qa0 (HI9.out.later hb4); have z16 := HI4.out.cell 16 _ rfl; clear hb4)
      go_ret
      exact ⟨rfl, HB4.out⟩
 case py15 =>
  go_simp
  have hal := jlow W0 (.cells #[.bool false, .bool false, .bool false, .bool false, .bool false] 108)
  have HB29 := qa0 (jtwo HB0.out hal)
  have HI29 := qa0 (HI0.out.later hal)
  have HU29 := qa0 (HU0.out.later hal)
  have HH29 := qa0 (Vn.new W0 108 #[.bool false, .bool false, .bool false, .bool false, .bool false])
  have hsz := HB0.out.size
  have hiu := HU0.out.lt
  clear hal
  refine hKK.out _ _ (HSa.out _ HI29.out) (fun _ => ?_)
  clear hKK KK
  try simp only [mz1, mz2, mz3, Act.put, mz4, mz5, mz6]
  refine wpAnyH_ready (rs := [5]) (by kernel_rfl) (by simp) ?_
  refine AllReadyH.cons rfl (fun KK hKK => ?_) AllReadyH.nil
  go_simp
  refine (HZx.out _ HB29.out).mono ?_; rintro e W31 ⟨rfl, hb⟩
  have HB31 := qa0 (jtwo HB29.out hb)
  have HI31 := qa0 (HI29.out.later hb)
  have HU31 := qa0 (HU29.out.later hb)
  have HH31 := qa0 (HH29.out.later hb)
  clear hb
  refine hKK.out _ _ (HSa.out _ HI31.out) (fun _ => ?_)
  clear hKK KK
  try simp only [mz1, mz2, mz3, Act.put, mz4, mz5, mz6]
  refine wtkq 6 ?v6_32 rfl (by kernel_rfl) (fun _ _ _ h => h) (by rfl) ?y6_32 (HSa.out _ HI31.out) ?z6_32
  case y6_32 => (intro w hSw; (try dsimp only at hSw); go_simp; try with_reducible rfl)
  try simp only [mz1, mz2, mz3, Act.put, mz4, mz5, mz6]
  refine wpAnyH_ready (rs := [9]) (by kernel_rfl) (by simp) ?_
  refine AllReadyH.cons rfl (fun KK hKK => ?_) AllReadyH.nil
  go_simp
  refine (HZs.out _ HB31.out).mono ?_; rintro e W34 ⟨rfl, hb⟩
  have HB34 := qa0 (jtwo HB31.out hb)
  have HI34 := qa0 (HI31.out.later hb)
  have HU34 := qa0 (HU31.out.later hb)
  have HH34 := qa0 (HH31.out.later hb)
  clear hb
  refine hKK.out _ _ (HSa.out _ HI34.out) (fun _ => ?_)
  clear hKK KK
  try simp only [mz1, mz2, mz3, Act.put, mz4, mz5, mz6]
  refine wtkq 10 ?v10_35 rfl (by kernel_rfl) (fun _ _ _ h => h) (by rfl) ?y10_35 (HSa.out _ HI34.out) ?z10_35
  case y10_35 => (intro w hSw; (try dsimp only at hSw); go_simp; try with_reducible rfl)
  try simp only [mz1, mz2, mz3, Act.put, mz4, mz5, mz6]
  refine wtkq 18 ?v18_36 rfl (by kernel_rfl) (fun _ _ _ h => h) (by rfl) ?y18_36 (HSa.out _ HI34.out) ?z18_36
  case y18_36 => (intro w hSw; (try dsimp only at hSw); go_simp; try with_reducible rfl)
  try simp only [mz1, mz2, mz3, Act.put, mz4, mz5, mz6]
  refine wpAnyH_ready (rs := [20]) (by kernel_rfl) (by simp) ?_
  refine AllReadyH.cons rfl (fun KK hKK => ?_) AllReadyH.nil
  refine qa6 108 _ _ rfl W0.heap.size _ #[.bool (!b0), .bool (!b1), .bool (!b2), .bool (!b3), .bool b4] rfl rfl HH34.out sizeIF rfl (all5 rfl rfl rfl rfl rfl) ?_; intro Wz HH9 hg9
  have HI9 := qa0 (HI34.out.kept hg9.out (by simp; omega))
  have HU9 := qa0 (HU34.out.kept hg9.out (by simp; omega))
  have HB9 : Hid (Below w.heap.size w Wz) := HB34.out.trans (jbelow hg9.out HB34.out.size (fun g e => by cases e; omega))
  refine hKK.out _ _ (HSa.out _ HI9.out) (fun _ => ?_)
  clear hKK KK hg9
  try simp only [mz1, mz2, mz3, Act.put]
  refine wpAnyH_done (by kernel_rfl) ?_ _
  have n0 := HU9.out.cell 0 _ rfl
  have n1 := HU9.out.cell 1 _ rfl
  have n2 := HU9.out.cell 2 _ rfl
  have n3 := HU9.out.cell 3 _ rfl
  have n4 := HU9.out.cell 4 _ rfl
  have h0 := HH9.out.cell 0 _ rfl
  have h1 := HH9.out.cell 1 _ rfl
  have h2 := HH9.out.cell 2 _ rfl
  have h3 := HH9.out.cell 3 _ rfl
  have h4 := HH9.out.cell 4 _ rfl
  have m1 := HI9.out.cell 1 _ rfl
  have m16 := HI9.out.cell 16 _ rfl
  cases eq with
  | false =>
   go_wp2
   go_ret
   exact ⟨rfl, HB9.out⟩
  | true =>
   cases u0 with
   | false =>
    go_wp2
    go_ret
    exact ⟨rfl, HB9.out⟩
   | true =>
    cases nb with
    | false =>
     go_wp2_with (go_at_call 68; refine (HN.out _ HB9.out).mono ?_; rintro e w4 ⟨rfl, hb4⟩; have HB4 := qa0 (jtwo HB9.out hb4); have HI4 := qa0 (HI9.out.later hb4); have z16 := HI4.out.cell 16 _ rfl; clear hb4)
     go_ret
     exact ⟨rfl, HB4.out⟩
    | true =>
     go_wp2_with (go_at_call 68; refine (HN.out _ HB9.out).mono ?_; rintro e w4 ⟨rfl, hb4⟩; have HB4 := qa0 (jtwo HB9.out hb4); have HI4 := qa0 (HI9.out.later hb4); have z16 := HI4.out.cell 16 _ rfl; clear hb4)
     go_ret
     exact ⟨rfl, HB4.out⟩
end Go.Proofs.YtemhodenkgngmaaDoor
