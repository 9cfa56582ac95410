/-
  Contracts of the tree's reference: Item, by kinds.
-/
import Derived.Test.YtemhodenkgngmaaDoorQuues00
import Derived.Test.YtemhodenkgngmaaDoorQuues19
set_option maxRecDepth 100000
set_option maxHeartbeats 16000000
namespace Go.Proofs.YtemhodenkgngmaaDoor
open Go.RowKit
theorem rit_c54 (w : World) (nl vk vl vc sk na ca np cp nr cr lc : Nat) (nm vm sm : ByteArray) (vn vln vcl sln scl ln cl : Int) (va aa pa ra la : Option Addr) (left r : Int) (b0 nb zx zs : Bool) (h1 : 1 ≤ left) (h2 : left ≤ 8192) (q : decide (left - 1 < 0) = false)
  (e0 : (nm.toList == []) = b0)
  (HN : Hid (∀ w' : World, Calls Tryd.prog 44 #[.string nm] w' fun e w'' => e = .returned (.bool nb) ∧ Below w'.heap.size w' w''))
  (HZx : Hid (∀ w' : World, Below w.heap.size w w' → Calls Tryd.prog 45 #[.agg #[.int .u8 (vk : Int), .int .i64 vn, .string vm, .slice va vl vc, .int .i64 vln, .int .i64 vcl]] w' fun e w'' => e = .returned (.bool zx) ∧ Below w'.heap.size w' w''))
  (HZs : Hid (∀ w' : World, Below w.heap.size w w' → Calls Tryd.prog 46 #[.agg #[.int .u8 (sk : Int), .string sm, .slice aa na ca, .slice pa np cp, .slice ra nr cr, .int .i64 sln, .int .i64 scl]] w' fun e w'' => e = .returned (.bool zs) ∧ Below w'.heap.size w' w''))
  (HLs : Hid ((nb = false ∧ b0 = true ∧ zx = true ∧ zs = true ∧ True ∧ (1 ≤ nl ∧ nl ≤ 64)) → ∀ w' : World, Below w.heap.size w w' → Calls Tryd.prog 49 #[.slice la nl lc, .int .i64 (left - 1)] w' fun e w'' => e = .returned (.int .i64 r) ∧ Below w'.heap.size w' w''))
  (HBad : Hid (¬ (nb = false ∧ b0 = true ∧ zx = true ∧ zs = true ∧ True ∧ (1 ≤ nl ∧ nl ≤ 64)) → r = -1)) :
  Calls Tryd.prog 30 #[.agg #[.int .u8 5, .string nm, .int .u8 (vk : Int), .int .i64 vn, .string vm, .slice va vl vc, .int .i64 vln, .int .i64 vcl, .int .u8 (sk : Int), .string sm, .slice aa na ca, .slice pa np cp, .slice ra nr cr, .int .i64 sln, .int .i64 scl, .int .u8 4, .slice la nl lc, .int .i64 ln, .int .i64 cl], .int .i64 left] w fun e w' => e = .returned (.int .i64 r) ∧ Below w.heap.size w w' := by
 have HI := qa0 (Vn.new w 61 #[.int .u8 5, .string nm, .int .u8 (vk : Int), .int .i64 vn, .string vm, .slice va vl vc, .int .i64 vln, .int .i64 vcl, .int .u8 (sk : Int), .string sm, .slice aa na ca, .slice pa np cp, .slice ra nr cr, .int .i64 sln, .int .i64 scl, .int .u8 4, .slice la nl lc, .int .i64 ln, .int .i64 cl])
 have c0 := HI.out.cell 0 _ rfl
 have c1 := HI.out.cell 1 _ rfl
 have c15 := HI.out.cell 15 _ rfl
 have HSa : Hid (∀ w' : World, Vn w' w.heap.size 61 #[.int .u8 5, .string nm, .int .u8 (vk : Int), .int .i64 vn, .string vm, .slice va vl vc, .int .i64 vln, .int .i64 vcl, .int .u8 (sk : Int), .string sm, .slice aa na ca, .slice pa np cp, .slice ra nr cr, .int .i64 sln, .int .i64 scl, .int .u8 4, .slice la nl lc, .int .i64 ln, .int .i64 cl] → (fun w' => w'.cell? ⟨w.heap.size, 0, none⟩ = some (.int .u8 5) ∧ w'.cell? ⟨w.heap.size, 2, none⟩ = some (.int .u8 (vk : Int)) ∧ w'.cell? ⟨w.heap.size, 3, none⟩ = some (.int .i64 vn) ∧ w'.cell? ⟨w.heap.size, 4, none⟩ = some (.string vm) ∧ w'.cell? ⟨w.heap.size, 5, none⟩ = some (.slice va vl vc) ∧ w'.cell? ⟨w.heap.size, 6, none⟩ = some (.int .i64 vln) ∧ w'.cell? ⟨w.heap.size, 7, none⟩ = some (.int .i64 vcl) ∧ w'.cell? ⟨w.heap.size, 8, none⟩ = some (.int .u8 (sk : Int)) ∧ w'.cell? ⟨w.heap.size, 9, none⟩ = some (.string sm) ∧ w'.cell? ⟨w.heap.size, 10, none⟩ = some (.slice aa na ca) ∧ w'.cell? ⟨w.heap.size, 11, none⟩ = some (.slice pa np cp) ∧ w'.cell? ⟨w.heap.size, 12, none⟩ = some (.slice ra nr cr) ∧ w'.cell? ⟨w.heap.size, 13, none⟩ = some (.int .i64 sln) ∧ w'.cell? ⟨w.heap.size, 14, none⟩ = some (.int .i64 scl) ∧ w'.cell? ⟨w.heap.size, 15, none⟩ = some (.int .u8 4)) w') := fun w' h => ⟨h.cell 0 _ rfl, h.cell 2 _ rfl, h.cell 3 _ rfl, h.cell 4 _ rfl, h.cell 5 _ rfl, h.cell 6 _ rfl, h.cell 7 _ rfl, h.cell 8 _ rfl, h.cell 9 _ rfl, h.cell 10 _ rfl, h.cell 11 _ rfl, h.cell 12 _ rfl, h.cell 13 _ rfl, h.cell 14 _ rfl, h.cell 15 _ rfl⟩
 cases nb with
 | true =>
  obtain rfl : r = -1 := HBad.out (by simp)
  clear HBad
  go_enter Tryd.func30, Tryd.ntmps30
  go_wp2_with (go_at_call 44; refine (HN.out _).mono ?_; rintro e w1 ⟨rfl, hb1⟩; have HB1 := qa0 (jtwo (jlow _ _) hb1); have HI1 := qa0 (HI.out.later hb1); clear hb1; have d0 := HI1.out.cell 0 _ rfl; have d1 := HI1.out.cell 1 _ rfl)
  go_ret
  exact ⟨rfl, HB1.out⟩
 | false =>
  cases b0 with
  | false =>
   obtain rfl : r = -1 := HBad.out (by simp)
   clear HBad
   go_enter Tryd.func30, Tryd.ntmps30
   go_wp2_with (go_at_call 44; refine (HN.out _).mono ?_; rintro e w1 ⟨rfl, hb1⟩; have HB1 := qa0 (jtwo (jlow _ _) hb1); have HI1 := qa0 (HI.out.later hb1); clear hb1; have d0 := HI1.out.cell 0 _ rfl; have d1 := HI1.out.cell 1 _ rfl)
   go_ret
   exact ⟨rfl, HB1.out⟩
  | true =>
   go_enter Tryd.func30, Tryd.ntmps30
   go_wp2_with (go_at_call 44; refine (HN.out _).mono ?_; rintro e w1 ⟨rfl, hb1⟩; have HB1 := qa0 (jtwo (jlow _ _) hb1); have HI1 := qa0 (HI.out.later hb1); clear hb1; have d0 := HI1.out.cell 0 _ rfl; have d1 := HI1.out.cell 1 _ rfl)
   clear c0 c1 c15 d0 d1
   refine wp_region_held (S := fun w' => w'.cell? ⟨w.heap.size, 0, none⟩ = some (.int .u8 5) ∧ w'.cell? ⟨w.heap.size, 2, none⟩ = some (.int .u8 (vk : Int)) ∧ w'.cell? ⟨w.heap.size, 3, none⟩ = some (.int .i64 vn) ∧ w'.cell? ⟨w.heap.size, 4, none⟩ = some (.string vm) ∧ w'.cell? ⟨w.heap.size, 5, none⟩ = some (.slice va vl vc) ∧ w'.cell? ⟨w.heap.size, 6, none⟩ = some (.int .i64 vln) ∧ w'.cell? ⟨w.heap.size, 7, none⟩ = some (.int .i64 vcl) ∧ w'.cell? ⟨w.heap.size, 8, none⟩ = some (.int .u8 (sk : Int)) ∧ w'.cell? ⟨w.heap.size, 9, none⟩ = some (.string sm) ∧ w'.cell? ⟨w.heap.size, 10, none⟩ = some (.slice aa na ca) ∧ w'.cell? ⟨w.heap.size, 11, none⟩ = some (.slice pa np cp) ∧ w'.cell? ⟨w.heap.size, 12, none⟩ = some (.slice ra nr cr) ∧ w'.cell? ⟨w.heap.size, 13, none⟩ = some (.int .i64 sln) ∧ w'.cell? ⟨w.heap.size, 14, none⟩ = some (.int .i64 scl) ∧ w'.cell? ⟨w.heap.size, 15, none⟩ = some (.int .u8 4)) (by kernel_rfl) ?_
   change wpAnyH _ _ _ _ _ _ _ _ (World.drew _)
   obtain ⟨W0, HW0⟩ : ∃ W0, Hid (w1.drew = W0) := ⟨_, rfl⟩
   have HB0 : Hid (Below w.heap.size w W0) := by show Below _ _ _; rw [← HW0.out]; exact HB1.out.drew
   have HI0 : Hid (Vn W0 w.heap.size 61 #[.int .u8 5, .string nm, .int .u8 (vk : Int), .int .i64 vn, .string vm, .slice va vl vc, .int .i64 vln, .int .i64 vcl, .int .u8 (sk : Int), .string sm, .slice aa na ca, .slice pa np cp, .slice ra nr cr, .int .i64 sln, .int .i64 scl, .int .u8 4, .slice la nl lc, .int .i64 ln, .int .i64 cl]) := by show Vn _ _ _ _; rw [← HW0.out]; exact HI1.out.later (qa7 _)
   rw [HW0.out]
   clear HW0 HB1 HI1 HI
   have T0 := qa0 (HSa.out _ HI0.out)
   refine wtake 0 ?v1 rfl (by kernel_rfl) (fun _ _ _ h => h) ⟨by rfl, ?y1⟩ T0.out ?z1; case y1 => (intro w hSw; go_simp; try with_reducible rfl)
   try simp only [nz1, nz3, Act.put, nz4, nz5, nz6]
   refine wtake 1 ?v2 rfl (by kernel_rfl) (fun _ _ _ h => h) ⟨by rfl, ?y2⟩ T0.out ?z2; case y2 => (intro w hSw; go_simp; try with_reducible rfl)
   try simp only [nz1, nz2, nz3, Act.put, nz4, nz5, nz6]
   refine wtake 2 ?v3 rfl (by kernel_rfl) (fun _ _ _ h => h) ⟨by rfl, ?y3⟩ T0.out ?z3; case y3 => (intro w hSw; go_simp; try with_reducible rfl)
   try simp only [nz1, nz2, nz3, Act.put, nz4, nz5, nz6]
   refine wpAnyH_ready (rs := [3]) (by kernel_rfl) (by simp) ?_
   refine AllReadyH.cons rfl (fun KK hKK => ?_) AllReadyH.nil
   go_simp
   refine (HZx.out _ HB0.out).mono ?_; rintro e WA ⟨rfl, hb⟩
   have HBA := qa0 (jtwo HB0.out hb)
   have HIA := qa0 (HI0.out.later hb)
   clear hb
   have TA := qa0 (HSa.out _ HIA.out)
   refine hKK.out _ _ TA.out (fun _ => ?_)
   clear hKK KK
   try simp only [nz1, nz2, nz3, Act.put, nz4, nz5, nz6]
   cases zx with
   | false =>
    refine wtake 4 ?v4 rfl (by kernel_rfl) (fun _ _ _ h => h) ⟨by rfl, ?y4⟩ TA.out ?z4; case y4 => (intro w hSw; go_simp; try with_reducible rfl)
    try simp only [nz1, nz2, nz3, Act.put, nz4, nz5, nz6]
    refine wtake 5 ?v5 rfl (by kernel_rfl) (fun _ _ _ h => h) ⟨by rfl, ?y5⟩ TA.out ?z5; case y5 => (intro w hSw; go_simp; try with_reducible rfl)
    try simp only [nz1, nz2, nz3, Act.put, nz4, nz5, nz6]
    refine wskip 6 rfl (by kernel_rfl) (fun _ _ _ h => h) (by rfl) TA.out ?_; try simp only [nz1, nz2, nz3, Act.put, nz4, nz5, nz6]
    refine wskip 7 rfl (by kernel_rfl) (fun _ _ _ h => h) (by rfl) TA.out ?_; try simp only [nz1, nz2, nz3, Act.put, nz4, nz5, nz6]
    refine wskip 8 rfl (by kernel_rfl) (fun _ _ _ h => h) (by rfl) TA.out ?_; try simp only [nz1, nz2, nz3, Act.put, nz4, nz5, nz6]
    refine wskip 9 rfl (by kernel_rfl) (fun _ _ _ h => h) (by rfl) TA.out ?_; try simp only [nz1, nz2, nz3, Act.put, nz4, nz5, nz6]
    refine wskip 10 rfl (by kernel_rfl) (fun _ _ _ h => h) (by rfl) TA.out ?_; try simp only [nz1, nz2, nz3, Act.put, nz4, nz5, nz6]
    refine wskip 11 rfl (by kernel_rfl) (fun _ _ _ h => h) (by rfl) TA.out ?_; try simp only [nz1, nz2, nz3, Act.put, nz4, nz5, nz6]
    refine wskip 12 rfl (by kernel_rfl) (fun _ _ _ h => h) (by rfl) TA.out ?_; try simp only [nz1, nz2, nz3, Act.put, nz4, nz5, nz6]
    refine wtake 13 ?v6 rfl (by kernel_rfl) (fun _ _ _ h => h) ⟨by rfl, ?y6⟩ TA.out ?z6; case y6 => (intro w hSw; go_simp; try with_reducible rfl)
    try simp only [nz1, nz2, nz3, Act.put, nz4, nz5, nz6]
    refine wtake 14 ?v7 rfl (by kernel_rfl) (fun _ _ _ h => h) ⟨by rfl, ?y7⟩ TA.out ?z7; case y7 => (intro w hSw; go_simp; try with_reducible rfl)
    try simp only [nz1, nz2, nz3, Act.put, nz4, nz5, nz6]
    refine wskip 15 rfl (by kernel_rfl) (fun _ _ _ h => h) (by rfl) TA.out ?_; try simp only [nz1, nz2, nz3, Act.put, nz4, nz5, nz6]
    refine wskip 16 rfl (by kernel_rfl) (fun _ _ _ h => h) (by rfl) TA.out ?_; try simp only [nz1, nz2, nz3, Act.put, nz4, nz5, nz6]
    refine wskip 17 rfl (by kernel_rfl) (fun _ _ _ h => h) (by rfl) TA.out ?_; try simp only [nz1, nz2, nz3, Act.put, nz4, nz5, nz6]
    refine wskip 18 rfl (by kernel_rfl) (fun _ _ _ h => h) (by rfl) TA.out ?_; try simp only [nz1, nz2, nz3, Act.put, nz4, nz5, nz6]
    refine wskip 19 rfl (by kernel_rfl) (fun _ _ _ h => h) (by rfl) TA.out ?_; try simp only [nz1, nz2, nz3, Act.put, nz4, nz5, nz6]
    refine wskip 20 rfl (by kernel_rfl) (fun _ _ _ h => h) (by rfl) TA.out ?_; try simp only [nz1, nz2, nz3, Act.put, nz4, nz5, nz6]
    refine wskip 21 rfl (by kernel_rfl) (fun _ _ _ h => h) (by rfl) TA.out ?_; try simp only [nz1, nz2, nz3, Act.put, nz4, nz5, nz6]
    refine wskip 22 rfl (by kernel_rfl) (fun _ _ _ h => h) (by rfl) TA.out ?_; try simp only [nz1, nz2, nz3, Act.put, nz4, nz5, nz6]
    refine wskip 23 rfl (by kernel_rfl) (fun _ _ _ h => h) (by rfl) TA.out ?_; try simp only [nz1, nz2, nz3, Act.put, nz4, nz5, nz6]
    refine wskip 24 rfl (by kernel_rfl) (fun _ _ _ h => h) (by rfl) TA.out ?_; try simp only [nz1, nz2, nz3, Act.put, nz4, nz5, nz6]
    refine wskip 25 rfl (by kernel_rfl) (fun _ _ _ h => h) (by rfl) TA.out ?_; try simp only [nz1, nz2, nz3, Act.put, nz4, nz5, nz6]
    refine wskip 26 rfl (by kernel_rfl) (fun _ _ _ h => h) (by rfl) TA.out ?_; try simp only [nz1, nz2, nz3, Act.put, nz4, nz5, nz6]
    refine wtake 27 ?v8 rfl (by kernel_rfl) (fun _ _ _ h => h) ⟨by rfl, ?y8⟩ TA.out ?z8; case y8 => (intro w hSw; go_simp; try with_reducible rfl)
    try simp only [nz1, nz2, nz3, Act.put, nz4, nz5, nz6]
    refine wtake 28 ?v9 rfl (by kernel_rfl) (fun _ _ _ h => h) ⟨by rfl, ?y9⟩ TA.out ?z9; case y9 => (intro w hSw; go_simp; try with_reducible rfl)
    try simp only [nz1, nz2, nz3, Act.put, nz4, nz5, nz6]
    refine wskip 29 rfl (by kernel_rfl) (fun _ _ _ h => h) (by rfl) TA.out ?_; try simp only [nz1, nz2, nz3, Act.put, nz4, nz5, nz6]
    refine wskip 30 rfl (by kernel_rfl) (fun _ _ _ h => h) (by rfl) TA.out ?_; try simp only [nz1, nz2, nz3, Act.put, nz4, nz5, nz6]
    refine wskip 31 rfl (by kernel_rfl) (fun _ _ _ h => h) (by rfl) TA.out ?_; try simp only [nz1, nz2, nz3, Act.put, nz4, nz5, nz6]
    refine wskip 32 rfl (by kernel_rfl) (fun _ _ _ h => h) (by rfl) TA.out ?_; try simp only [nz1, nz2, nz3, Act.put, nz4, nz5, nz6]
    refine wskip 33 rfl (by kernel_rfl) (fun _ _ _ h => h) (by rfl) TA.out ?_; try simp only [nz1, nz2, nz3, Act.put, nz4, nz5, nz6]
    refine wskip 34 rfl (by kernel_rfl) (fun _ _ _ h => h) (by rfl) TA.out ?_; try simp only [nz1, nz2, nz3, Act.put, nz4, nz5, nz6]
    refine wskip 35 rfl (by kernel_rfl) (fun _ _ _ h => h) (by rfl) TA.out ?_; try simp only [nz1, nz2, nz3, Act.put, nz4, nz5, nz6]
    refine wskip 36 rfl (by kernel_rfl) (fun _ _ _ h => h) (by rfl) TA.out ?_; try simp only [nz1, nz2, nz3, Act.put, nz4, nz5, nz6]
    refine wtake 37 ?v10 rfl (by kernel_rfl) (fun _ _ _ h => h) ⟨by rfl, ?y10⟩ TA.out ?z10; case y10 => (intro w hSw; go_simp; try with_reducible rfl)
    try simp only [nz1, nz2, nz3, Act.put, nz4, nz5, nz6]
    refine wpAnyH_done (by kernel_rfl) ?_ _
    obtain rfl : r = -1 := HBad.out (by simp)
    clear HBad
    have m0 := HIA.out.cell 0 _ rfl
    have m15 := HIA.out.cell 15 _ rfl
    have m16 := HIA.out.cell 16 _ rfl
    go_wp2
    go_ret
    exact ⟨rfl, HBA.out⟩
   | true =>
    refine wtake 4 ?v11 rfl (by kernel_rfl) (fun _ _ _ h => h) ⟨by rfl, ?y11⟩ TA.out ?z11; case y11 => (intro w hSw; go_simp; try with_reducible rfl)
    try simp only [nz1, nz2, nz3, Act.put, nz4, nz5, nz6]
    refine wtake 5 ?v12 rfl (by kernel_rfl) (fun _ _ _ h => h) ⟨by rfl, ?y12⟩ TA.out ?z12; case y12 => (intro w hSw; go_simp; try with_reducible rfl)
    try simp only [nz1, nz2, nz3, Act.put, nz4, nz5, nz6]
    refine wtake 6 ?v13 rfl (by kernel_rfl) (fun _ _ _ h => h) ⟨by rfl, ?y13⟩ TA.out ?z13; case y13 => (intro w hSw; go_simp; try with_reducible rfl)
    try simp only [nz1, nz2, nz3, Act.put, nz4, nz5, nz6]
    refine wtake 7 ?v14 rfl (by kernel_rfl) (fun _ _ _ h => h) ⟨by rfl, ?y14⟩ TA.out ?z14; case y14 => (intro w hSw; go_simp; try with_reducible rfl)
    try simp only [nz1, nz2, nz3, Act.put, nz4, nz5, nz6]
    refine wtake 8 ?v15 rfl (by kernel_rfl) (fun _ _ _ h => h) ⟨by rfl, ?y15⟩ TA.out ?z15; case y15 => (intro w hSw; go_simp; try with_reducible rfl)
    try simp only [nz1, nz2, nz3, Act.put, nz4, nz5, nz6]
    refine wtake 9 ?v16 rfl (by kernel_rfl) (fun _ _ _ h => h) ⟨by rfl, ?y16⟩ TA.out ?z16; case y16 => (intro w hSw; go_simp; try with_reducible rfl)
    try simp only [nz1, nz2, nz3, Act.put, nz4, nz5, nz6]
    refine wtake 10 ?v17 rfl (by kernel_rfl) (fun _ _ _ h => h) ⟨by rfl, ?y17⟩ TA.out ?z17; case y17 => (intro w hSw; go_simp; try with_reducible rfl)
    try simp only [nz1, nz2, nz3, Act.put, nz4, nz5, nz6]
    refine wpAnyH_ready (rs := [11]) (by kernel_rfl) (by simp) ?_
    refine AllReadyH.cons rfl (fun KK hKK => ?_) AllReadyH.nil
    go_simp
    refine (HZs.out _ HBA.out).mono ?_; rintro e WC ⟨rfl, hb⟩
    have HBC := qa0 (jtwo HBA.out hb)
    have HIC := qa0 (HIA.out.later hb)
    clear hb
    have TC := qa0 (HSa.out _ HIC.out)
    refine hKK.out _ _ TC.out (fun _ => ?_)
    clear hKK KK
    try simp only [nz1, nz2, nz3, Act.put, nz4, nz5, nz6]
    cases zs with
    | false =>
     refine wtake 12 ?v18 rfl (by kernel_rfl) (fun _ _ _ h => h) ⟨by rfl, ?y18⟩ TC.out ?z18; case y18 => (intro w hSw; go_simp; try with_reducible rfl)
     try simp only [nz1, nz2, nz3, Act.put, nz4, nz5, nz6]
     refine wtake 13 ?v19 rfl (by kernel_rfl) (fun _ _ _ h => h) ⟨by rfl, ?y19⟩ TC.out ?z19; case y19 => (intro w hSw; go_simp; try with_reducible rfl)
     try simp only [nz1, nz2, nz3, Act.put, nz4, nz5, nz6]
     refine wtake 14 ?v20 rfl (by kernel_rfl) (fun _ _ _ h => h) ⟨by rfl, ?y20⟩ TC.out ?z20; case y20 => (intro w hSw; go_simp; try with_reducible rfl)
     try simp only [nz1, nz2, nz3, Act.put, nz4, nz5, nz6]
     refine wskip 15 rfl (by kernel_rfl) (fun _ _ _ h => h) (by rfl) TC.out ?_; try simp only [nz1, nz2, nz3, Act.put, nz4, nz5, nz6]
     refine wskip 16 rfl (by kernel_rfl) (fun _ _ _ h => h) (by rfl) TC.out ?_; try simp only [nz1, nz2, nz3, Act.put, nz4, nz5, nz6]
     refine wskip 17 rfl (by kernel_rfl) (fun _ _ _ h => h) (by rfl) TC.out ?_; try simp only [nz1, nz2, nz3, Act.put, nz4, nz5, nz6]
     refine wskip 18 rfl (by kernel_rfl) (fun _ _ _ h => h) (by rfl) TC.out ?_; try simp only [nz1, nz2, nz3, Act.put, nz4, nz5, nz6]
     refine wskip 19 rfl (by kernel_rfl) (fun _ _ _ h => h) (by rfl) TC.out ?_; try simp only [nz1, nz2, nz3, Act.put, nz4, nz5, nz6]
     refine wskip 20 rfl (by kernel_rfl) (fun _ _ _ h => h) (by rfl) TC.out ?_; try simp only [nz1, nz2, nz3, Act.put, nz4, nz5, nz6]
     refine wskip 21 rfl (by kernel_rfl) (fun _ _ _ h => h) (by rfl) TC.out ?_; try simp only [nz1, nz2, nz3, Act.put, nz4, nz5, nz6]
     refine wskip 22 rfl (by kernel_rfl) (fun _ _ _ h => h) (by rfl) TC.out ?_; try simp only [nz1, nz2, nz3, Act.put, nz4, nz5, nz6]
     refine wskip 23 rfl (by kernel_rfl) (fun _ _ _ h => h) (by rfl) TC.out ?_; try simp only [nz1, nz2, nz3, Act.put, nz4, nz5, nz6]
     refine wskip 24 rfl (by kernel_rfl) (fun _ _ _ h => h) (by rfl) TC.out ?_; try simp only [nz1, nz2, nz3, Act.put, nz4, nz5, nz6]
     refine wskip 25 rfl (by kernel_rfl) (fun _ _ _ h => h) (by rfl) TC.out ?_; try simp only [nz1, nz2, nz3, Act.put, nz4, nz5, nz6]
     refine wskip 26 rfl (by kernel_rfl) (fun _ _ _ h => h) (by rfl) TC.out ?_; try simp only [nz1, nz2, nz3, Act.put, nz4, nz5, nz6]
     refine wtake 27 ?v21 rfl (by kernel_rfl) (fun _ _ _ h => h) ⟨by rfl, ?y21⟩ TC.out ?z21; case y21 => (intro w hSw; go_simp; try with_reducible rfl)
     try simp only [nz1, nz2, nz3, Act.put, nz4, nz5, nz6]
     refine wtake 28 ?v22 rfl (by kernel_rfl) (fun _ _ _ h => h) ⟨by rfl, ?y22⟩ TC.out ?z22; case y22 => (intro w hSw; go_simp; try with_reducible rfl)
     try simp only [nz1, nz2, nz3, Act.put, nz4, nz5, nz6]
     refine wskip 29 rfl (by kernel_rfl) (fun _ _ _ h => h) (by rfl) TC.out ?_; try simp only [nz1, nz2, nz3, Act.put, nz4, nz5, nz6]
     refine wskip 30 rfl (by kernel_rfl) (fun _ _ _ h => h) (by rfl) TC.out ?_; try simp only [nz1, nz2, nz3, Act.put, nz4, nz5, nz6]
     refine wskip 31 rfl (by kernel_rfl) (fun _ _ _ h => h) (by rfl) TC.out ?_; try simp only [nz1, nz2, nz3, Act.put, nz4, nz5, nz6]
     refine wskip 32 rfl (by kernel_rfl) (fun _ _ _ h => h) (by rfl) TC.out ?_; try simp only [nz1, nz2, nz3, Act.put, nz4, nz5, nz6]
     refine wskip 33 rfl (by kernel_rfl) (fun _ _ _ h => h) (by rfl) TC.out ?_; try simp only [nz1, nz2, nz3, Act.put, nz4, nz5, nz6]
     refine wskip 34 rfl (by kernel_rfl) (fun _ _ _ h => h) (by rfl) TC.out ?_; try simp only [nz1, nz2, nz3, Act.put, nz4, nz5, nz6]
     refine wskip 35 rfl (by kernel_rfl) (fun _ _ _ h => h) (by rfl) TC.out ?_; try simp only [nz1, nz2, nz3, Act.put, nz4, nz5, nz6]
     refine wskip 36 rfl (by kernel_rfl) (fun _ _ _ h => h) (by rfl) TC.out ?_; try simp only [nz1, nz2, nz3, Act.put, nz4, nz5, nz6]
     refine wtake 37 ?v23 rfl (by kernel_rfl) (fun _ _ _ h => h) ⟨by rfl, ?y23⟩ TC.out ?z23; case y23 => (intro w hSw; go_simp; try with_reducible rfl)
     try simp only [nz1, nz2, nz3, Act.put, nz4, nz5, nz6]
     refine wpAnyH_done (by kernel_rfl) ?_ _
     obtain rfl : r = -1 := HBad.out (by simp)
     clear HBad
     have m0 := HIC.out.cell 0 _ rfl
     have m15 := HIC.out.cell 15 _ rfl
     have m16 := HIC.out.cell 16 _ rfl
     go_wp2
     go_ret
     exact ⟨rfl, HBC.out⟩
    | true =>
     refine wtake 12 ?v24 rfl (by kernel_rfl) (fun _ _ _ h => h) ⟨by rfl, ?y24⟩ TC.out ?z24; case y24 => (intro w hSw; go_simp; try with_reducible rfl)
     try simp only [nz1, nz2, nz3, Act.put, nz4, nz5, nz6]
     refine wtake 13 ?v25 rfl (by kernel_rfl) (fun _ _ _ h => h) ⟨by rfl, ?y25⟩ TC.out ?z25; case y25 => (intro w hSw; go_simp; try with_reducible rfl)
     try simp only [nz1, nz2, nz3, Act.put, nz4, nz5, nz6]
     refine wtake 14 ?v26 rfl (by kernel_rfl) (fun _ _ _ h => h) ⟨by rfl, ?y26⟩ TC.out ?z26; case y26 => (intro w hSw; go_simp; try with_reducible rfl)
     try simp only [nz1, nz2, nz3, Act.put, nz4, nz5, nz6]
     refine wtake 15 ?v27 rfl (by kernel_rfl) (fun _ _ _ h => h) ⟨by rfl, ?y27⟩ TC.out ?z27; case y27 => (intro w hSw; go_simp; try with_reducible rfl)
     try simp only [nz1, nz2, nz3, Act.put, nz4, nz5, nz6]
     refine wtake 16 ?v28 rfl (by kernel_rfl) (fun _ _ _ h => h) ⟨by rfl, ?y28⟩ TC.out ?z28; case y28 => (intro w hSw; go_simp; try with_reducible rfl)
     try simp only [nz1, nz2, nz3, Act.put, nz4, nz5, nz6]
     refine wtake 17 ?v29 rfl (by kernel_rfl) (fun _ _ _ h => h) ⟨by rfl, ?y29⟩ TC.out ?z29; case y29 => (intro w hSw; go_simp; try with_reducible rfl)
     try simp only [nz1, nz2, nz3, Act.put, nz4, nz5, nz6]
     refine wtake 18 ?v30 rfl (by kernel_rfl) (fun _ _ _ h => h) ⟨by rfl, ?y30⟩ TC.out ?z30; case y30 => (intro w hSw; go_simp; try with_reducible rfl)
     try simp only [nz1, nz2, nz3, Act.put, nz4, nz5, nz6]
     refine wtake 19 ?v31 rfl (by kernel_rfl) (fun _ _ _ h => h) ⟨by rfl, ?y31⟩ TC.out ?z31; case y31 => (intro w hSw; go_simp; try with_reducible rfl)
     try simp only [nz1, nz2, nz3, Act.put, nz4, nz5, nz6]
     refine wtake 20 ?v32 rfl (by kernel_rfl) (fun _ _ _ h => h) ⟨by rfl, ?y32⟩ TC.out ?z32; case y32 => (intro w hSw; go_simp; try with_reducible rfl)
     try simp only [nz1, nz2, nz3, Act.put, nz4, nz5, nz6]
     refine wtake 21 ?v33 rfl (by kernel_rfl) (fun _ _ _ h => h) ⟨by rfl, ?y33⟩ TC.out ?z33; case y33 => (intro w hSw; go_simp; try with_reducible rfl)
     try simp only [nz1, nz2, nz3, Act.put, nz4, nz5, nz6]
     refine wtake 22 ?v34 rfl (by kernel_rfl) (fun _ _ _ h => h) ⟨by rfl, ?y34⟩ TC.out ?z34; case y34 => (intro w hSw; go_simp; try with_reducible rfl)
     try simp only [nz1, nz2, nz3, Act.put, nz4, nz5, nz6]
     refine wtake 23 ?v35 rfl (by kernel_rfl) (fun _ _ _ h => h) ⟨by rfl, ?y35⟩ TC.out ?z35; case y35 => (intro w hSw; go_simp; try with_reducible rfl)
     try simp only [nz1, nz2, nz3, Act.put, nz4, nz5, nz6]
     refine wtake 24 ?v36 rfl (by kernel_rfl) (fun _ _ _ h => h) ⟨by rfl, ?y36⟩ TC.out ?z36; case y36 => (intro w hSw; go_simp; try with_reducible rfl)
     try simp only [nz1, nz2, nz3, Act.put, nz4, nz5, nz6]
     refine wtake 25 ?v37 rfl (by kernel_rfl) (fun _ _ _ h => h) ⟨by rfl, ?y37⟩ TC.out ?z37; case y37 => (intro w hSw; go_simp; try with_reducible rfl)
     try simp only [nz1, nz2, nz3, Act.put, nz4, nz5, nz6]
     refine wtake 26 ?v38 rfl (by kernel_rfl) (fun _ _ _ h => h) ⟨by rfl, ?y38⟩ TC.out ?z38; case y38 => (intro w hSw; go_simp; try with_reducible rfl)
     try simp only [nz1, nz2, nz3, Act.put, nz4, nz5, nz6]
     refine wtake 27 ?v39 rfl (by kernel_rfl) (fun _ _ _ h => h) ⟨by rfl, ?y39⟩ TC.out ?z39; case y39 => (intro w hSw; go_simp; try with_reducible rfl)
     try simp only [nz1, nz2, nz3, Act.put, nz4, nz5, nz6]
     refine wtake 28 ?v40 rfl (by kernel_rfl) (fun _ _ _ h => h) ⟨by rfl, ?y40⟩ TC.out ?z40; case y40 => (intro w hSw; go_simp; try with_reducible rfl)
     try simp only [nz1, nz2, nz3, Act.put, nz4, nz5, nz6]
     refine wtake 29 ?v41 rfl (by kernel_rfl) (fun _ _ _ h => h) ⟨by rfl, ?y41⟩ TC.out ?z41; case y41 => (intro w hSw; go_simp; try with_reducible rfl)
     try simp only [nz1, nz2, nz3, Act.put, nz4, nz5, nz6]
     refine wtake 30 ?v42 rfl (by kernel_rfl) (fun _ _ _ h => h) ⟨by rfl, ?y42⟩ TC.out ?z42; case y42 => (intro w hSw; go_simp; try with_reducible rfl)
     try simp only [nz1, nz2, nz3, Act.put, nz4, nz5, nz6]
     refine wtake 31 ?v43 rfl (by kernel_rfl) (fun _ _ _ h => h) ⟨by rfl, ?y43⟩ TC.out ?z43; case y43 => (intro w hSw; go_simp; try with_reducible rfl)
     try simp only [nz1, nz2, nz3, Act.put, nz4, nz5, nz6]
     refine wtake 32 ?v44 rfl (by kernel_rfl) (fun _ _ _ h => h) ⟨by rfl, ?y44⟩ TC.out ?z44; case y44 => (intro w hSw; go_simp; try with_reducible rfl)
     try simp only [nz1, nz2, nz3, Act.put, nz4, nz5, nz6]
     refine wskip 33 rfl (by kernel_rfl) (fun _ _ _ h => h) (by rfl) TC.out ?_; try simp only [nz1, nz2, nz3, Act.put, nz4, nz5, nz6]
     refine wskip 34 rfl (by kernel_rfl) (fun _ _ _ h => h) (by rfl) TC.out ?_; try simp only [nz1, nz2, nz3, Act.put, nz4, nz5, nz6]
     refine wskip 35 rfl (by kernel_rfl) (fun _ _ _ h => h) (by rfl) TC.out ?_; try simp only [nz1, nz2, nz3, Act.put, nz4, nz5, nz6]
     refine wtake 36 ?v45 rfl (by kernel_rfl) (fun _ _ _ h => h) ⟨by rfl, ?y45⟩ TC.out ?z45; case y45 => (intro w hSw; go_simp; try with_reducible rfl)
     try simp only [nz1, nz2, nz3, Act.put, nz4, nz5, nz6]
     refine wtake 37 ?v46 rfl (by kernel_rfl) (fun _ _ _ h => h) ⟨by rfl, ?y46⟩ TC.out ?z46; case y46 => (intro w hSw; go_simp; try with_reducible rfl)
     try simp only [nz1, nz2, nz3, Act.put, nz4, nz5, nz6]
     refine wpAnyH_done (by kernel_rfl) ?_ _
     have m0 := HIC.out.cell 0 _ rfl
     have m15 := HIC.out.cell 15 _ rfl
     have m16 := HIC.out.cell 16 _ rfl
     by_cases hn0 : nl = 0
     ·have g0 : decide ((0 : Int) < (nl : Int)) = false := decide_eq_false (by omega)
      have g0n : decide (0 < nl) = false := decide_eq_false (by omega)
      obtain rfl : r = -1 := HBad.out (by rintro ⟨-, -, -, -, -, h⟩; omega)
      clear HBad
      go_wp2
      go_ret
      exact ⟨rfl, HBC.out⟩
     by_cases hn6 : 64 < nl
     ·have g0 : decide ((0 : Int) < (nl : Int)) = true := decide_eq_true (by omega)
      have g0n : decide (0 < nl) = true := decide_eq_true (by omega)
      have g6 : decide ((64 : Int) < (nl : Int)) = true := decide_eq_true (by omega)
      have g6n : decide (64 < nl) = true := decide_eq_true (by omega)
      obtain rfl : r = -1 := HBad.out (by rintro ⟨-, -, -, -, -, h⟩; omega)
      clear HBad
      go_wp2
      go_ret
      exact ⟨rfl, HBC.out⟩
     have g0 : decide ((0 : Int) < (nl : Int)) = true := decide_eq_true (by omega)
     have g0n : decide (0 < nl) = true := decide_eq_true (by omega)
     have g6 : decide ((64 : Int) < (nl : Int)) = false := decide_eq_false (by omega)
     have g6n : decide (64 < nl) = false := decide_eq_false (by omega)
     have HLt := qa0 (HLs.out (by refine ⟨?_, ?_, ?_, ?_, ?_, ?_⟩ <;> first | trivial | rfl | omega))
     clear HBad HLs
     have ql : decide (0 ≤ left - 1) = true := decide_eq_true (by omega)
     go_wp2_with (go_at_call 49; refine (HLt.out _ HBC.out).mono ?_; rintro e w5 ⟨rfl, hb5⟩; have HB5 := qa0 (jtwo HBC.out hb5); clear hb5)
     go_ret
     exact ⟨rfl, HB5.out⟩
theorem rit_c5x (w : World) (pl : Nat) (nl vk vl vc sk na ca np cp nr cr lc : Nat) (nm vm sm : ByteArray) (vn vln vcl sln scl ln cl : Int) (va aa pa ra la : Option Addr) (left r : Int) (b0 nb zx zs : Bool) (h1 : 1 ≤ left) (h2 : left ≤ 8192) (q : decide (left - 1 < 0) = false) (q3 : ((pl : Int) == 3) = false) (q4 : ((pl : Int) == 4) = false) (_ : pl ≠ 3) (_ : pl ≠ 4)
  (e0 : (nm.toList == []) = b0)
  (HN : Hid (∀ w' : World, Calls Tryd.prog 44 #[.string nm] w' fun e w'' => e = .returned (.bool nb) ∧ Below w'.heap.size w' w''))
  (HZx : Hid (∀ w' : World, Below w.heap.size w w' → Calls Tryd.prog 45 #[.agg #[.int .u8 (vk : Int), .int .i64 vn, .string vm, .slice va vl vc, .int .i64 vln, .int .i64 vcl]] w' fun e w'' => e = .returned (.bool zx) ∧ Below w'.heap.size w' w''))
  (HZs : Hid (∀ w' : World, Below w.heap.size w w' → Calls Tryd.prog 46 #[.agg #[.int .u8 (sk : Int), .string sm, .slice aa na ca, .slice pa np cp, .slice ra nr cr, .int .i64 sln, .int .i64 scl]] w' fun e w'' => e = .returned (.bool zs) ∧ Below w'.heap.size w' w''))
  (HLs : Hid ((nb = false ∧ b0 = true ∧ zx = true ∧ zs = true ∧ (1 ≤ pl ∧ pl ≤ 4) ∧ nl = 0) → ∀ w' : World, Below w.heap.size w w' → Calls Tryd.prog 49 #[.slice la nl lc, .int .i64 (left - 1)] w' fun e w'' => e = .returned (.int .i64 r) ∧ Below w'.heap.size w' w''))
  (HBad : Hid (¬ (nb = false ∧ b0 = true ∧ zx = true ∧ zs = true ∧ (1 ≤ pl ∧ pl ≤ 4) ∧ nl = 0) → r = -1)) :
  Calls Tryd.prog 30 #[.agg #[.int .u8 5, .string nm, .int .u8 (vk : Int), .int .i64 vn, .string vm, .slice va vl vc, .int .i64 vln, .int .i64 vcl, .int .u8 (sk : Int), .string sm, .slice aa na ca, .slice pa np cp, .slice ra nr cr, .int .i64 sln, .int .i64 scl, .int .u8 (pl : Int), .slice la nl lc, .int .i64 ln, .int .i64 cl], .int .i64 left] w fun e w' => e = .returned (.int .i64 r) ∧ Below w.heap.size w w' := by
 have HI := qa0 (Vn.new w 61 #[.int .u8 5, .string nm, .int .u8 (vk : Int), .int .i64 vn, .string vm, .slice va vl vc, .int .i64 vln, .int .i64 vcl, .int .u8 (sk : Int), .string sm, .slice aa na ca, .slice pa np cp, .slice ra nr cr, .int .i64 sln, .int .i64 scl, .int .u8 (pl : Int), .slice la nl lc, .int .i64 ln, .int .i64 cl])
 have c0 := HI.out.cell 0 _ rfl
 have c1 := HI.out.cell 1 _ rfl
 have c15 := HI.out.cell 15 _ rfl
 have HSa : Hid (∀ w' : World, Vn w' w.heap.size 61 #[.int .u8 5, .string nm, .int .u8 (vk : Int), .int .i64 vn, .string vm, .slice va vl vc, .int .i64 vln, .int .i64 vcl, .int .u8 (sk : Int), .string sm, .slice aa na ca, .slice pa np cp, .slice ra nr cr, .int .i64 sln, .int .i64 scl, .int .u8 (pl : Int), .slice la nl lc, .int .i64 ln, .int .i64 cl] → (fun w' => w'.cell? ⟨w.heap.size, 0, none⟩ = some (.int .u8 5) ∧ w'.cell? ⟨w.heap.size, 2, none⟩ = some (.int .u8 (vk : Int)) ∧ w'.cell? ⟨w.heap.size, 3, none⟩ = some (.int .i64 vn) ∧ w'.cell? ⟨w.heap.size, 4, none⟩ = some (.string vm) ∧ w'.cell? ⟨w.heap.size, 5, none⟩ = some (.slice va vl vc) ∧ w'.cell? ⟨w.heap.size, 6, none⟩ = some (.int .i64 vln) ∧ w'.cell? ⟨w.heap.size, 7, none⟩ = some (.int .i64 vcl) ∧ w'.cell? ⟨w.heap.size, 8, none⟩ = some (.int .u8 (sk : Int)) ∧ w'.cell? ⟨w.heap.size, 9, none⟩ = some (.string sm) ∧ w'.cell? ⟨w.heap.size, 10, none⟩ = some (.slice aa na ca) ∧ w'.cell? ⟨w.heap.size, 11, none⟩ = some (.slice pa np cp) ∧ w'.cell? ⟨w.heap.size, 12, none⟩ = some (.slice ra nr cr) ∧ w'.cell? ⟨w.heap.size, 13, none⟩ = some (.int .i64 sln) ∧ w'.cell? ⟨w.heap.size, 14, none⟩ = some (.int .i64 scl) ∧ w'.cell? ⟨w.heap.size, 15, none⟩ = some (.int .u8 (pl : Int))) w') := fun w' h => ⟨h.cell 0 _ rfl, h.cell 2 _ rfl, h.cell 3 _ rfl, h.cell 4 _ rfl, h.cell 5 _ rfl, h.cell 6 _ rfl, h.cell 7 _ rfl, h.cell 8 _ rfl, h.cell 9 _ rfl, h.cell 10 _ rfl, h.cell 11 _ rfl, h.cell 12 _ rfl, h.cell 13 _ rfl, h.cell 14 _ rfl, h.cell 15 _ rfl⟩
 cases nb with
 | true =>
  obtain rfl : r = -1 := HBad.out (by simp)
  clear HBad
  go_enter Tryd.func30, Tryd.ntmps30
  go_wp2_with (go_at_call 44; refine (HN.out _).mono ?_; rintro e w1 ⟨rfl, hb1⟩; have HB1 := qa0 (jtwo (jlow _ _) hb1); have HI1 := qa0 (HI.out.later hb1); clear hb1; have d0 := HI1.out.cell 0 _ rfl; have d1 := HI1.out.cell 1 _ rfl)
  go_ret
  exact ⟨rfl, HB1.out⟩
 | false =>
  cases b0 with
  | false =>
   obtain rfl : r = -1 := HBad.out (by simp)
   clear HBad
   go_enter Tryd.func30, Tryd.ntmps30
   go_wp2_with (go_at_call 44; refine (HN.out _).mono ?_; rintro e w1 ⟨rfl, hb1⟩; have HB1 := qa0 (jtwo (jlow _ _) hb1); have HI1 := qa0 (HI.out.later hb1); clear hb1; have d0 := HI1.out.cell 0 _ rfl; have d1 := HI1.out.cell 1 _ rfl)
   go_ret
   exact ⟨rfl, HB1.out⟩
  | true =>
   go_enter Tryd.func30, Tryd.ntmps30
   go_wp2_with (go_at_call 44; refine (HN.out _).mono ?_; rintro e w1 ⟨rfl, hb1⟩; have HB1 := qa0 (jtwo (jlow _ _) hb1); have HI1 := qa0 (HI.out.later hb1); clear hb1; have d0 := HI1.out.cell 0 _ rfl; have d1 := HI1.out.cell 1 _ rfl)
   clear c0 c1 c15 d0 d1
   refine wp_region_held (S := fun w' => w'.cell? ⟨w.heap.size, 0, none⟩ = some (.int .u8 5) ∧ w'.cell? ⟨w.heap.size, 2, none⟩ = some (.int .u8 (vk : Int)) ∧ w'.cell? ⟨w.heap.size, 3, none⟩ = some (.int .i64 vn) ∧ w'.cell? ⟨w.heap.size, 4, none⟩ = some (.string vm) ∧ w'.cell? ⟨w.heap.size, 5, none⟩ = some (.slice va vl vc) ∧ w'.cell? ⟨w.heap.size, 6, none⟩ = some (.int .i64 vln) ∧ w'.cell? ⟨w.heap.size, 7, none⟩ = some (.int .i64 vcl) ∧ w'.cell? ⟨w.heap.size, 8, none⟩ = some (.int .u8 (sk : Int)) ∧ w'.cell? ⟨w.heap.size, 9, none⟩ = some (.string sm) ∧ w'.cell? ⟨w.heap.size, 10, none⟩ = some (.slice aa na ca) ∧ w'.cell? ⟨w.heap.size, 11, none⟩ = some (.slice pa np cp) ∧ w'.cell? ⟨w.heap.size, 12, none⟩ = some (.slice ra nr cr) ∧ w'.cell? ⟨w.heap.size, 13, none⟩ = some (.int .i64 sln) ∧ w'.cell? ⟨w.heap.size, 14, none⟩ = some (.int .i64 scl) ∧ w'.cell? ⟨w.heap.size, 15, none⟩ = some (.int .u8 (pl : Int))) (by kernel_rfl) ?_
   change wpAnyH _ _ _ _ _ _ _ _ (World.drew _)
   obtain ⟨W0, HW0⟩ : ∃ W0, Hid (w1.drew = W0) := ⟨_, rfl⟩
   have HB0 : Hid (Below w.heap.size w W0) := by show Below _ _ _; rw [← HW0.out]; exact HB1.out.drew
   have HI0 : Hid (Vn W0 w.heap.size 61 #[.int .u8 5, .string nm, .int .u8 (vk : Int), .int .i64 vn, .string vm, .slice va vl vc, .int .i64 vln, .int .i64 vcl, .int .u8 (sk : Int), .string sm, .slice aa na ca, .slice pa np cp, .slice ra nr cr, .int .i64 sln, .int .i64 scl, .int .u8 (pl : Int), .slice la nl lc, .int .i64 ln, .int .i64 cl]) := by show Vn _ _ _ _; rw [← HW0.out]; exact HI1.out.later (qa7 _)
   rw [HW0.out]
   clear HW0 HB1 HI1 HI
   have T0 := qa0 (HSa.out _ HI0.out)
   refine wtake 0 ?v1 rfl (by kernel_rfl) (fun _ _ _ h => h) ⟨by rfl, ?y1⟩ T0.out ?z1; case y1 => (intro w hSw; go_simp; try with_reducible rfl)
   try simp only [nz1, nz3, Act.put, nz4, nz5, nz6]
   refine wtake 1 ?v2 rfl (by kernel_rfl) (fun _ _ _ h => h) ⟨by rfl, ?y2⟩ T0.out ?z2; case y2 => (intro w hSw; go_simp; try with_reducible rfl)
   try simp only [nz1, nz2, nz3, Act.put, nz4, nz5, nz6]
   refine wtake 2 ?v3 rfl (by kernel_rfl) (fun _ _ _ h => h) ⟨by rfl, ?y3⟩ T0.out ?z3; case y3 => (intro w hSw; go_simp; try with_reducible rfl)
   try simp only [nz1, nz2, nz3, Act.put, nz4, nz5, nz6]
   refine wpAnyH_ready (rs := [3]) (by kernel_rfl) (by simp) ?_
   refine AllReadyH.cons rfl (fun KK hKK => ?_) AllReadyH.nil
   go_simp
   refine (HZx.out _ HB0.out).mono ?_; rintro e WA ⟨rfl, hb⟩
   have HBA := qa0 (jtwo HB0.out hb)
   have HIA := qa0 (HI0.out.later hb)
   clear hb
   have TA := qa0 (HSa.out _ HIA.out)
   refine hKK.out _ _ TA.out (fun _ => ?_)
   clear hKK KK
   try simp only [nz1, nz2, nz3, Act.put, nz4, nz5, nz6]
   cases zx with
   | false =>
    refine wtake 4 ?v4 rfl (by kernel_rfl) (fun _ _ _ h => h) ⟨by rfl, ?y4⟩ TA.out ?z4; case y4 => (intro w hSw; go_simp; try with_reducible rfl)
    try simp only [nz1, nz2, nz3, Act.put, nz4, nz5, nz6]
    refine wtake 5 ?v5 rfl (by kernel_rfl) (fun _ _ _ h => h) ⟨by rfl, ?y5⟩ TA.out ?z5; case y5 => (intro w hSw; go_simp; try with_reducible rfl)
    try simp only [nz1, nz2, nz3, Act.put, nz4, nz5, nz6]
    refine wskip 6 rfl (by kernel_rfl) (fun _ _ _ h => h) (by rfl) TA.out ?_; try simp only [nz1, nz2, nz3, Act.put, nz4, nz5, nz6]
    refine wskip 7 rfl (by kernel_rfl) (fun _ _ _ h => h) (by rfl) TA.out ?_; try simp only [nz1, nz2, nz3, Act.put, nz4, nz5, nz6]
    refine wskip 8 rfl (by kernel_rfl) (fun _ _ _ h => h) (by rfl) TA.out ?_; try simp only [nz1, nz2, nz3, Act.put, nz4, nz5, nz6]
    refine wskip 9 rfl (by kernel_rfl) (fun _ _ _ h => h) (by rfl) TA.out ?_; try simp only [nz1, nz2, nz3, Act.put, nz4, nz5, nz6]
    refine wskip 10 rfl (by kernel_rfl) (fun _ _ _ h => h) (by rfl) TA.out ?_; try simp only [nz1, nz2, nz3, Act.put, nz4, nz5, nz6]
    refine wskip 11 rfl (by kernel_rfl) (fun _ _ _ h => h) (by rfl) TA.out ?_; try simp only [nz1, nz2, nz3, Act.put, nz4, nz5, nz6]
    refine wskip 12 rfl (by kernel_rfl) (fun _ _ _ h => h) (by rfl) TA.out ?_; try simp only [nz1, nz2, nz3, Act.put, nz4, nz5, nz6]
    refine wtake 13 ?v6 rfl (by kernel_rfl) (fun _ _ _ h => h) ⟨by rfl, ?y6⟩ TA.out ?z6; case y6 => (intro w hSw; go_simp; try with_reducible rfl)
    try simp only [nz1, nz2, nz3, Act.put, nz4, nz5, nz6]
    refine wtake 14 ?v7 rfl (by kernel_rfl) (fun _ _ _ h => h) ⟨by rfl, ?y7⟩ TA.out ?z7; case y7 => (intro w hSw; go_simp; try with_reducible rfl)
    try simp only [nz1, nz2, nz3, Act.put, nz4, nz5, nz6]
    refine wskip 15 rfl (by kernel_rfl) (fun _ _ _ h => h) (by rfl) TA.out ?_; try simp only [nz1, nz2, nz3, Act.put, nz4, nz5, nz6]
    refine wskip 16 rfl (by kernel_rfl) (fun _ _ _ h => h) (by rfl) TA.out ?_; try simp only [nz1, nz2, nz3, Act.put, nz4, nz5, nz6]
    refine wskip 17 rfl (by kernel_rfl) (fun _ _ _ h => h) (by rfl) TA.out ?_; try simp only [nz1, nz2, nz3, Act.put, nz4, nz5, nz6]
    refine wskip 18 rfl (by kernel_rfl) (fun _ _ _ h => h) (by rfl) TA.out ?_; try simp only [nz1, nz2, nz3, Act.put, nz4, nz5, nz6]
    refine wskip 19 rfl (by kernel_rfl) (fun _ _ _ h => h) (by rfl) TA.out ?_; try simp only [nz1, nz2, nz3, Act.put, nz4, nz5, nz6]
    refine wskip 20 rfl (by kernel_rfl) (fun _ _ _ h => h) (by rfl) TA.out ?_; try simp only [nz1, nz2, nz3, Act.put, nz4, nz5, nz6]
    refine wskip 21 rfl (by kernel_rfl) (fun _ _ _ h => h) (by rfl) TA.out ?_; try simp only [nz1, nz2, nz3, Act.put, nz4, nz5, nz6]
    refine wskip 22 rfl (by kernel_rfl) (fun _ _ _ h => h) (by rfl) TA.out ?_; try simp only [nz1, nz2, nz3, Act.put, nz4, nz5, nz6]
    refine wskip 23 rfl (by kernel_rfl) (fun _ _ _ h => h) (by rfl) TA.out ?_; try simp only [nz1, nz2, nz3, Act.put, nz4, nz5, nz6]
    refine wskip 24 rfl (by kernel_rfl) (fun _ _ _ h => h) (by rfl) TA.out ?_; try simp only [nz1, nz2, nz3, Act.put, nz4, nz5, nz6]
    refine wskip 25 rfl (by kernel_rfl) (fun _ _ _ h => h) (by rfl) TA.out ?_; try simp only [nz1, nz2, nz3, Act.put, nz4, nz5, nz6]
    refine wskip 26 rfl (by kernel_rfl) (fun _ _ _ h => h) (by rfl) TA.out ?_; try simp only [nz1, nz2, nz3, Act.put, nz4, nz5, nz6]
    refine wtake 27 ?v8 rfl (by kernel_rfl) (fun _ _ _ h => h) ⟨by rfl, ?y8⟩ TA.out ?z8; case y8 => (intro w hSw; go_simp; try with_reducible rfl)
    try simp only [nz1, nz2, nz3, Act.put, nz4, nz5, nz6]
    refine wtake 28 ?v9 rfl (by kernel_rfl) (fun _ _ _ h => h) ⟨by rfl, ?y9⟩ TA.out ?z9; case y9 => (intro w hSw; go_simp; try with_reducible rfl)
    try simp only [nz1, nz2, nz3, Act.put, nz4, nz5, nz6]
    refine wskip 29 rfl (by kernel_rfl) (fun _ _ _ h => h) (by rfl) TA.out ?_; try simp only [nz1, nz2, nz3, Act.put, nz4, nz5, nz6]
    refine wskip 30 rfl (by kernel_rfl) (fun _ _ _ h => h) (by rfl) TA.out ?_; try simp only [nz1, nz2, nz3, Act.put, nz4, nz5, nz6]
    refine wskip 31 rfl (by kernel_rfl) (fun _ _ _ h => h) (by rfl) TA.out ?_; try simp only [nz1, nz2, nz3, Act.put, nz4, nz5, nz6]
    refine wskip 32 rfl (by kernel_rfl) (fun _ _ _ h => h) (by rfl) TA.out ?_; try simp only [nz1, nz2, nz3, Act.put, nz4, nz5, nz6]
    refine wskip 33 rfl (by kernel_rfl) (fun _ _ _ h => h) (by rfl) TA.out ?_; try simp only [nz1, nz2, nz3, Act.put, nz4, nz5, nz6]
    refine wskip 34 rfl (by kernel_rfl) (fun _ _ _ h => h) (by rfl) TA.out ?_; try simp only [nz1, nz2, nz3, Act.put, nz4, nz5, nz6]
    refine wskip 35 rfl (by kernel_rfl) (fun _ _ _ h => h) (by rfl) TA.out ?_; try simp only [nz1, nz2, nz3, Act.put, nz4, nz5, nz6]
    refine wskip 36 rfl (by kernel_rfl) (fun _ _ _ h => h) (by rfl) TA.out ?_; try simp only [nz1, nz2, nz3, Act.put, nz4, nz5, nz6]
    refine wtake 37 ?v10 rfl (by kernel_rfl) (fun _ _ _ h => h) ⟨by rfl, ?y10⟩ TA.out ?z10; case y10 => (intro w hSw; go_simp; try with_reducible rfl)
    try simp only [nz1, nz2, nz3, Act.put, nz4, nz5, nz6]
    refine wpAnyH_done (by kernel_rfl) ?_ _
    obtain rfl : r = -1 := HBad.out (by simp)
    clear HBad
    have m0 := HIA.out.cell 0 _ rfl
    have m15 := HIA.out.cell 15 _ rfl
    have m16 := HIA.out.cell 16 _ rfl
    go_wp2
    go_ret
    exact ⟨rfl, HBA.out⟩
   | true =>
    refine wtake 4 ?v11 rfl (by kernel_rfl) (fun _ _ _ h => h) ⟨by rfl, ?y11⟩ TA.out ?z11; case y11 => (intro w hSw; go_simp; try with_reducible rfl)
    try simp only [nz1, nz2, nz3, Act.put, nz4, nz5, nz6]
    refine wtake 5 ?v12 rfl (by kernel_rfl) (fun _ _ _ h => h) ⟨by rfl, ?y12⟩ TA.out ?z12; case y12 => (intro w hSw; go_simp; try with_reducible rfl)
    try simp only [nz1, nz2, nz3, Act.put, nz4, nz5, nz6]
    refine wtake 6 ?v13 rfl (by kernel_rfl) (fun _ _ _ h => h) ⟨by rfl, ?y13⟩ TA.out ?z13; case y13 => (intro w hSw; go_simp; try with_reducible rfl)
    try simp only [nz1, nz2, nz3, Act.put, nz4, nz5, nz6]
    refine wtake 7 ?v14 rfl (by kernel_rfl) (fun _ _ _ h => h) ⟨by rfl, ?y14⟩ TA.out ?z14; case y14 => (intro w hSw; go_simp; try with_reducible rfl)
    try simp only [nz1, nz2, nz3, Act.put, nz4, nz5, nz6]
    refine wtake 8 ?v15 rfl (by kernel_rfl) (fun _ _ _ h => h) ⟨by rfl, ?y15⟩ TA.out ?z15; case y15 => (intro w hSw; go_simp; try with_reducible rfl)
    try simp only [nz1, nz2, nz3, Act.put, nz4, nz5, nz6]
    refine wtake 9 ?v16 rfl (by kernel_rfl) (fun _ _ _ h => h) ⟨by rfl, ?y16⟩ TA.out ?z16; case y16 => (intro w hSw; go_simp; try with_reducible rfl)
    try simp only [nz1, nz2, nz3, Act.put, nz4, nz5, nz6]
    refine wtake 10 ?v17 rfl (by kernel_rfl) (fun _ _ _ h => h) ⟨by rfl, ?y17⟩ TA.out ?z17; case y17 => (intro w hSw; go_simp; try with_reducible rfl)
    try simp only [nz1, nz2, nz3, Act.put, nz4, nz5, nz6]
    refine wpAnyH_ready (rs := [11]) (by kernel_rfl) (by simp) ?_
    refine AllReadyH.cons rfl (fun KK hKK => ?_) AllReadyH.nil
    go_simp
    refine (HZs.out _ HBA.out).mono ?_; rintro e WC ⟨rfl, hb⟩
    have HBC := qa0 (jtwo HBA.out hb)
    have HIC := qa0 (HIA.out.later hb)
    clear hb
    have TC := qa0 (HSa.out _ HIC.out)
    refine hKK.out _ _ TC.out (fun _ => ?_)
    clear hKK KK
    try simp only [nz1, nz2, nz3, Act.put, nz4, nz5, nz6]
    cases zs with
    | false =>
     refine wtake 12 ?v18 rfl (by kernel_rfl) (fun _ _ _ h => h) ⟨by rfl, ?y18⟩ TC.out ?z18; case y18 => (intro w hSw; go_simp; try with_reducible rfl)
     try simp only [nz1, nz2, nz3, Act.put, nz4, nz5, nz6]
     refine wtake 13 ?v19 rfl (by kernel_rfl) (fun _ _ _ h => h) ⟨by rfl, ?y19⟩ TC.out ?z19; case y19 => (intro w hSw; go_simp; try with_reducible rfl)
     try simp only [nz1, nz2, nz3, Act.put, nz4, nz5, nz6]
     refine wtake 14 ?v20 rfl (by kernel_rfl) (fun _ _ _ h => h) ⟨by rfl, ?y20⟩ TC.out ?z20; case y20 => (intro w hSw; go_simp; try with_reducible rfl)
     try simp only [nz1, nz2, nz3, Act.put, nz4, nz5, nz6]
     refine wskip 15 rfl (by kernel_rfl) (fun _ _ _ h => h) (by rfl) TC.out ?_; try simp only [nz1, nz2, nz3, Act.put, nz4, nz5, nz6]
     refine wskip 16 rfl (by kernel_rfl) (fun _ _ _ h => h) (by rfl) TC.out ?_; try simp only [nz1, nz2, nz3, Act.put, nz4, nz5, nz6]
     refine wskip 17 rfl (by kernel_rfl) (fun _ _ _ h => h) (by rfl) TC.out ?_; try simp only [nz1, nz2, nz3, Act.put, nz4, nz5, nz6]
     refine wskip 18 rfl (by kernel_rfl) (fun _ _ _ h => h) (by rfl) TC.out ?_; try simp only [nz1, nz2, nz3, Act.put, nz4, nz5, nz6]
     refine wskip 19 rfl (by kernel_rfl) (fun _ _ _ h => h) (by rfl) TC.out ?_; try simp only [nz1, nz2, nz3, Act.put, nz4, nz5, nz6]
     refine wskip 20 rfl (by kernel_rfl) (fun _ _ _ h => h) (by rfl) TC.out ?_; try simp only [nz1, nz2, nz3, Act.put, nz4, nz5, nz6]
     refine wskip 21 rfl (by kernel_rfl) (fun _ _ _ h => h) (by rfl) TC.out ?_; try simp only [nz1, nz2, nz3, Act.put, nz4, nz5, nz6]
     refine wskip 22 rfl (by kernel_rfl) (fun _ _ _ h => h) (by rfl) TC.out ?_; try simp only [nz1, nz2, nz3, Act.put, nz4, nz5, nz6]
     refine wskip 23 rfl (by kernel_rfl) (fun _ _ _ h => h) (by rfl) TC.out ?_; try simp only [nz1, nz2, nz3, Act.put, nz4, nz5, nz6]
     refine wskip 24 rfl (by kernel_rfl) (fun _ _ _ h => h) (by rfl) TC.out ?_; try simp only [nz1, nz2, nz3, Act.put, nz4, nz5, nz6]
     refine wskip 25 rfl (by kernel_rfl) (fun _ _ _ h => h) (by rfl) TC.out ?_; try simp only [nz1, nz2, nz3, Act.put, nz4, nz5, nz6]
     refine wskip 26 rfl (by kernel_rfl) (fun _ _ _ h => h) (by rfl) TC.out ?_; try simp only [nz1, nz2, nz3, Act.put, nz4, nz5, nz6]
     refine wtake 27 ?v21 rfl (by kernel_rfl) (fun _ _ _ h => h) ⟨by rfl, ?y21⟩ TC.out ?z21; case y21 => (intro w hSw; go_simp; try with_reducible rfl)
     try simp only [nz1, nz2, nz3, Act.put, nz4, nz5, nz6]
     refine wtake 28 ?v22 rfl (by kernel_rfl) (fun _ _ _ h => h) ⟨by rfl, ?y22⟩ TC.out ?z22; case y22 => (intro w hSw; go_simp; try with_reducible rfl)
     try simp only [nz1, nz2, nz3, Act.put, nz4, nz5, nz6]
     refine wskip 29 rfl (by kernel_rfl) (fun _ _ _ h => h) (by rfl) TC.out ?_; try simp only [nz1, nz2, nz3, Act.put, nz4, nz5, nz6]
     refine wskip 30 rfl (by kernel_rfl) (fun _ _ _ h => h) (by rfl) TC.out ?_; try simp only [nz1, nz2, nz3, Act.put, nz4, nz5, nz6]
     refine wskip 31 rfl (by kernel_rfl) (fun _ _ _ h => h) (by rfl) TC.out ?_; try simp only [nz1, nz2, nz3, Act.put, nz4, nz5, nz6]
     refine wskip 32 rfl (by kernel_rfl) (fun _ _ _ h => h) (by rfl) TC.out ?_; try simp only [nz1, nz2, nz3, Act.put, nz4, nz5, nz6]
     refine wskip 33 rfl (by kernel_rfl) (fun _ _ _ h => h) (by rfl) TC.out ?_; try simp only [nz1, nz2, nz3, Act.put, nz4, nz5, nz6]
     refine wskip 34 rfl (by kernel_rfl) (fun _ _ _ h => h) (by rfl) TC.out ?_; try simp only [nz1, nz2, nz3, Act.put, nz4, nz5, nz6]
     refine wskip 35 rfl (by kernel_rfl) (fun _ _ _ h => h) (by rfl) TC.out ?_; try simp only [nz1, nz2, nz3, Act.put, nz4, nz5, nz6]
     refine wskip 36 rfl (by kernel_rfl) (fun _ _ _ h => h) (by rfl) TC.out ?_; try simp only [nz1, nz2, nz3, Act.put, nz4, nz5, nz6]
     refine wtake 37 ?v23 rfl (by kernel_rfl) (fun _ _ _ h => h) ⟨by rfl, ?y23⟩ TC.out ?z23; case y23 => (intro w hSw; go_simp; try with_reducible rfl)
     try simp only [nz1, nz2, nz3, Act.put, nz4, nz5, nz6]
     refine wpAnyH_done (by kernel_rfl) ?_ _
     obtain rfl : r = -1 := HBad.out (by simp)
     clear HBad
     have m0 := HIC.out.cell 0 _ rfl
     have m15 := HIC.out.cell 15 _ rfl
     have m16 := HIC.out.cell 16 _ rfl
     go_wp2
     go_ret
     exact ⟨rfl, HBC.out⟩
    | true =>
     refine wtake 12 ?v24 rfl (by kernel_rfl) (fun _ _ _ h => h) ⟨by rfl, ?y24⟩ TC.out ?z24; case y24 => (intro w hSw; go_simp; try with_reducible rfl)
     try simp only [nz1, nz2, nz3, Act.put, nz4, nz5, nz6]
     refine wtake 13 ?v25 rfl (by kernel_rfl) (fun _ _ _ h => h) ⟨by rfl, ?y25⟩ TC.out ?z25; case y25 => (intro w hSw; go_simp; try with_reducible rfl)
     try simp only [nz1, nz2, nz3, Act.put, nz4, nz5, nz6]
     refine wtake 14 ?v26 rfl (by kernel_rfl) (fun _ _ _ h => h) ⟨by rfl, ?y26⟩ TC.out ?z26; case y26 => (intro w hSw; go_simp; try with_reducible rfl)
     try simp only [nz1, nz2, nz3, Act.put, nz4, nz5, nz6]
     refine wtake 15 ?v27 rfl (by kernel_rfl) (fun _ _ _ h => h) ⟨by rfl, ?y27⟩ TC.out ?z27; case y27 => (intro w hSw; go_simp; try with_reducible rfl)
     try simp only [nz1, nz2, nz3, Act.put, nz4, nz5, nz6]
     refine wtake 16 ?v28 rfl (by kernel_rfl) (fun _ _ _ h => h) ⟨by rfl, ?y28⟩ TC.out ?z28; case y28 => (intro w hSw; go_simp; try with_reducible rfl)
     try simp only [nz1, nz2, nz3, Act.put, nz4, nz5, nz6]
     refine wtake 17 ?v29 rfl (by kernel_rfl) (fun _ _ _ h => h) ⟨by rfl, ?y29⟩ TC.out ?z29; case y29 => (intro w hSw; go_simp; try with_reducible rfl)
     try simp only [nz1, nz2, nz3, Act.put, nz4, nz5, nz6]
     refine wtake 18 ?v30 rfl (by kernel_rfl) (fun _ _ _ h => h) ⟨by rfl, ?y30⟩ TC.out ?z30; case y30 => (intro w hSw; go_simp; try with_reducible rfl)
     try simp only [nz1, nz2, nz3, Act.put, nz4, nz5, nz6]
     refine wtake 19 ?v31 rfl (by kernel_rfl) (fun _ _ _ h => h) ⟨by rfl, ?y31⟩ TC.out ?z31; case y31 => (intro w hSw; go_simp; try with_reducible rfl)
     try simp only [nz1, nz2, nz3, Act.put, nz4, nz5, nz6]
     by_cases hp0 : pl = 0
     ·have p1 : decide ((1 : Int) ≤ (pl : Int)) = false := decide_eq_false (by omega)
      have p1n : decide (1 ≤ pl) = false := decide_eq_false (by omega)
      have p1z : decide (0 < pl) = false := decide_eq_false (by omega)
      refine wtake 20 ?v32 rfl (by kernel_rfl) (fun _ _ _ h => h) ⟨by rfl, ?y32⟩ TC.out ?z32; case y32 => (intro w hSw; go_simp; try with_reducible rfl)
      try simp only [nz1, nz2, nz3, Act.put, nz4, nz5, nz6]
      refine wtake 21 ?v33 rfl (by kernel_rfl) (fun _ _ _ h => h) ⟨by rfl, ?y33⟩ TC.out ?z33; case y33 => (intro w hSw; go_simp; try with_reducible rfl)
      try simp only [nz1, nz2, nz3, Act.put, nz4, nz5, nz6]
      refine wskip 22 rfl (by kernel_rfl) (fun _ _ _ h => h) (by rfl) TC.out ?_; try simp only [nz1, nz2, nz3, Act.put, nz4, nz5, nz6]
      refine wskip 23 rfl (by kernel_rfl) (fun _ _ _ h => h) (by rfl) TC.out ?_; try simp only [nz1, nz2, nz3, Act.put, nz4, nz5, nz6]
      refine wskip 24 rfl (by kernel_rfl) (fun _ _ _ h => h) (by rfl) TC.out ?_; try simp only [nz1, nz2, nz3, Act.put, nz4, nz5, nz6]
      refine wtake 25 ?v34 rfl (by kernel_rfl) (fun _ _ _ h => h) ⟨by rfl, ?y34⟩ TC.out ?z34; case y34 => (intro w hSw; go_simp; try with_reducible rfl)
      try simp only [nz1, nz2, nz3, Act.put, nz4, nz5, nz6]
      refine wtake 26 ?v35 rfl (by kernel_rfl) (fun _ _ _ h => h) ⟨by rfl, ?y35⟩ TC.out ?z35; case y35 => (intro w hSw; go_simp; try with_reducible rfl)
      try simp only [nz1, nz2, nz3, Act.put, nz4, nz5, nz6]
      refine wtake 27 ?v36 rfl (by kernel_rfl) (fun _ _ _ h => h) ⟨by rfl, ?y36⟩ TC.out ?z36; case y36 => (intro w hSw; go_simp; try with_reducible rfl)
      try simp only [nz1, nz2, nz3, Act.put, nz4, nz5, nz6]
      refine wtake 28 ?v37 rfl (by kernel_rfl) (fun _ _ _ h => h) ⟨by rfl, ?y37⟩ TC.out ?z37; case y37 => (intro w hSw; go_simp; try with_reducible rfl)
      try simp only [nz1, nz2, nz3, Act.put, nz4, nz5, nz6]
      refine wskip 29 rfl (by kernel_rfl) (fun _ _ _ h => h) (by rfl) TC.out ?_; try simp only [nz1, nz2, nz3, Act.put, nz4, nz5, nz6]
      refine wskip 30 rfl (by kernel_rfl) (fun _ _ _ h => h) (by rfl) TC.out ?_; try simp only [nz1, nz2, nz3, Act.put, nz4, nz5, nz6]
      refine wskip 31 rfl (by kernel_rfl) (fun _ _ _ h => h) (by rfl) TC.out ?_; try simp only [nz1, nz2, nz3, Act.put, nz4, nz5, nz6]
      refine wskip 32 rfl (by kernel_rfl) (fun _ _ _ h => h) (by rfl) TC.out ?_; try simp only [nz1, nz2, nz3, Act.put, nz4, nz5, nz6]
      refine wskip 33 rfl (by kernel_rfl) (fun _ _ _ h => h) (by rfl) TC.out ?_; try simp only [nz1, nz2, nz3, Act.put, nz4, nz5, nz6]
      refine wskip 34 rfl (by kernel_rfl) (fun _ _ _ h => h) (by rfl) TC.out ?_; try simp only [nz1, nz2, nz3, Act.put, nz4, nz5, nz6]
      refine wskip 35 rfl (by kernel_rfl) (fun _ _ _ h => h) (by rfl) TC.out ?_; try simp only [nz1, nz2, nz3, Act.put, nz4, nz5, nz6]
      refine wskip 36 rfl (by kernel_rfl) (fun _ _ _ h => h) (by rfl) TC.out ?_; try simp only [nz1, nz2, nz3, Act.put, nz4, nz5, nz6]
      refine wtake 37 ?v38 rfl (by kernel_rfl) (fun _ _ _ h => h) ⟨by rfl, ?y38⟩ TC.out ?z38; case y38 => (intro w hSw; go_simp; try with_reducible rfl)
      try simp only [nz1, nz2, nz3, Act.put, nz4, nz5, nz6]
      refine wpAnyH_done (by kernel_rfl) ?_ _
      obtain rfl : r = -1 := HBad.out (by rintro ⟨-, -, -, -, h, -⟩; omega)
      clear HBad
      have m0 := HIC.out.cell 0 _ rfl
      have m15 := HIC.out.cell 15 _ rfl
      have m16 := HIC.out.cell 16 _ rfl
      go_wp2
      go_ret
      exact ⟨rfl, HBC.out⟩
     by_cases hp5 : 4 < pl
     ·have p1 : decide ((1 : Int) ≤ (pl : Int)) = true := decide_eq_true (by omega)
      have p1n : decide (1 ≤ pl) = true := decide_eq_true (by omega)
      have p1z : decide (0 < pl) = true := decide_eq_true (by omega)
      have p4 : decide ((pl : Int) ≤ 4) = false := decide_eq_false (by omega)
      have p4n : decide (pl ≤ 4) = false := decide_eq_false (by omega)
      refine wtake 20 ?v39 rfl (by kernel_rfl) (fun _ _ _ h => h) ⟨by rfl, ?y39⟩ TC.out ?z39; case y39 => (intro w hSw; go_simp; try with_reducible rfl)
      try simp only [nz1, nz2, nz3, Act.put, nz4, nz5, nz6]
      refine wtake 21 ?v40 rfl (by kernel_rfl) (fun _ _ _ h => h) ⟨by rfl, ?y40⟩ TC.out ?z40; case y40 => (intro w hSw; go_simp; try with_reducible rfl)
      try simp only [nz1, nz2, nz3, Act.put, nz4, nz5, nz6]
      refine wtake 22 ?v41 rfl (by kernel_rfl) (fun _ _ _ h => h) ⟨by rfl, ?y41⟩ TC.out ?z41; case y41 => (intro w hSw; go_simp; try with_reducible rfl)
      try simp only [nz1, nz2, nz3, Act.put, nz4, nz5, nz6]
      refine wtake 23 ?v42 rfl (by kernel_rfl) (fun _ _ _ h => h) ⟨by rfl, ?y42⟩ TC.out ?z42; case y42 => (intro w hSw; go_simp; try with_reducible rfl)
      try simp only [nz1, nz2, nz3, Act.put, nz4, nz5, nz6]
      refine wtake 24 ?v43 rfl (by kernel_rfl) (fun _ _ _ h => h) ⟨by rfl, ?y43⟩ TC.out ?z43; case y43 => (intro w hSw; go_simp; try with_reducible rfl)
      try simp only [nz1, nz2, nz3, Act.put, nz4, nz5, nz6]
      refine wtake 25 ?v44 rfl (by kernel_rfl) (fun _ _ _ h => h) ⟨by rfl, ?y44⟩ TC.out ?z44; case y44 => (intro w hSw; go_simp; try with_reducible rfl)
      try simp only [nz1, nz2, nz3, Act.put, nz4, nz5, nz6]
      refine wtake 26 ?v45 rfl (by kernel_rfl) (fun _ _ _ h => h) ⟨by rfl, ?y45⟩ TC.out ?z45; case y45 => (intro w hSw; go_simp; try with_reducible rfl)
      try simp only [nz1, nz2, nz3, Act.put, nz4, nz5, nz6]
      refine wtake 27 ?v46 rfl (by kernel_rfl) (fun _ _ _ h => h) ⟨by rfl, ?y46⟩ TC.out ?z46; case y46 => (intro w hSw; go_simp; try with_reducible rfl)
      try simp only [nz1, nz2, nz3, Act.put, nz4, nz5, nz6]
      refine wtake 28 ?v47 rfl (by kernel_rfl) (fun _ _ _ h => h) ⟨by rfl, ?y47⟩ TC.out ?z47; case y47 => (intro w hSw; go_simp; try with_reducible rfl)
      try simp only [nz1, nz2, nz3, Act.put, nz4, nz5, nz6]
      refine wskip 29 rfl (by kernel_rfl) (fun _ _ _ h => h) (by rfl) TC.out ?_; try simp only [nz1, nz2, nz3, Act.put, nz4, nz5, nz6]
      refine wskip 30 rfl (by kernel_rfl) (fun _ _ _ h => h) (by rfl) TC.out ?_; try simp only [nz1, nz2, nz3, Act.put, nz4, nz5, nz6]
      refine wskip 31 rfl (by kernel_rfl) (fun _ _ _ h => h) (by rfl) TC.out ?_; try simp only [nz1, nz2, nz3, Act.put, nz4, nz5, nz6]
      refine wskip 32 rfl (by kernel_rfl) (fun _ _ _ h => h) (by rfl) TC.out ?_; try simp only [nz1, nz2, nz3, Act.put, nz4, nz5, nz6]
      refine wskip 33 rfl (by kernel_rfl) (fun _ _ _ h => h) (by rfl) TC.out ?_; try simp only [nz1, nz2, nz3, Act.put, nz4, nz5, nz6]
      refine wskip 34 rfl (by kernel_rfl) (fun _ _ _ h => h) (by rfl) TC.out ?_; try simp only [nz1, nz2, nz3, Act.put, nz4, nz5, nz6]
      refine wskip 35 rfl (by kernel_rfl) (fun _ _ _ h => h) (by rfl) TC.out ?_; try simp only [nz1, nz2, nz3, Act.put, nz4, nz5, nz6]
      refine wskip 36 rfl (by kernel_rfl) (fun _ _ _ h => h) (by rfl) TC.out ?_; try simp only [nz1, nz2, nz3, Act.put, nz4, nz5, nz6]
      refine wtake 37 ?v48 rfl (by kernel_rfl) (fun _ _ _ h => h) ⟨by rfl, ?y48⟩ TC.out ?z48; case y48 => (intro w hSw; go_simp; try with_reducible rfl)
      try simp only [nz1, nz2, nz3, Act.put, nz4, nz5, nz6]
      refine wpAnyH_done (by kernel_rfl) ?_ _
      obtain rfl : r = -1 := HBad.out (by rintro ⟨-, -, -, -, h, -⟩; omega)
      clear HBad
      have m0 := HIC.out.cell 0 _ rfl
      have m15 := HIC.out.cell 15 _ rfl
      have m16 := HIC.out.cell 16 _ rfl
      go_wp2
      go_ret
      exact ⟨rfl, HBC.out⟩
     have p1 : decide ((1 : Int) ≤ (pl : Int)) = true := decide_eq_true (by omega)
     have p1n : decide (1 ≤ pl) = true := decide_eq_true (by omega)
     have p1z : decide (0 < pl) = true := decide_eq_true (by omega)
     have p4 : decide ((pl : Int) ≤ 4) = true := decide_eq_true (by omega)
     have p4n : decide (pl ≤ 4) = true := decide_eq_true (by omega)
     refine wtake 20 ?v49 rfl (by kernel_rfl) (fun _ _ _ h => h) ⟨by rfl, ?y49⟩ TC.out ?z49; case y49 => (intro w hSw; go_simp; try with_reducible rfl)
     try simp only [nz1, nz2, nz3, Act.put, nz4, nz5, nz6]
     refine wtake 21 ?v50 rfl (by kernel_rfl) (fun _ _ _ h => h) ⟨by rfl, ?y50⟩ TC.out ?z50; case y50 => (intro w hSw; go_simp; try with_reducible rfl)
     try simp only [nz1, nz2, nz3, Act.put, nz4, nz5, nz6]
     refine wtake 22 ?v51 rfl (by kernel_rfl) (fun _ _ _ h => h) ⟨by rfl, ?y51⟩ TC.out ?z51; case y51 => (intro w hSw; go_simp; try with_reducible rfl)
     try simp only [nz1, nz2, nz3, Act.put, nz4, nz5, nz6]
     refine wtake 23 ?v52 rfl (by kernel_rfl) (fun _ _ _ h => h) ⟨by rfl, ?y52⟩ TC.out ?z52; case y52 => (intro w hSw; go_simp; try with_reducible rfl)
     try simp only [nz1, nz2, nz3, Act.put, nz4, nz5, nz6]
     refine wtake 24 ?v53 rfl (by kernel_rfl) (fun _ _ _ h => h) ⟨by rfl, ?y53⟩ TC.out ?z53; case y53 => (intro w hSw; go_simp; try with_reducible rfl)
     try simp only [nz1, nz2, nz3, Act.put, nz4, nz5, nz6]
     refine wtake 25 ?v54 rfl (by kernel_rfl) (fun _ _ _ h => h) ⟨by rfl, ?y54⟩ TC.out ?z54; case y54 => (intro w hSw; go_simp; try with_reducible rfl)
     try simp only [nz1, nz2, nz3, Act.put, nz4, nz5, nz6]
     refine wtake 26 ?v55 rfl (by kernel_rfl) (fun _ _ _ h => h) ⟨by rfl, ?y55⟩ TC.out ?z55; case y55 => (intro w hSw; go_simp; try with_reducible rfl)
     try simp only [nz1, nz2, nz3, Act.put, nz4, nz5, nz6]
     refine wtake 27 ?v56 rfl (by kernel_rfl) (fun _ _ _ h => h) ⟨by rfl, ?y56⟩ TC.out ?z56; case y56 => (intro w hSw; go_simp; try with_reducible rfl)
     try simp only [nz1, nz2, nz3, Act.put, nz4, nz5, nz6]
     refine wtake 28 ?v57 rfl (by kernel_rfl) (fun _ _ _ h => h) ⟨by rfl, ?y57⟩ TC.out ?z57; case y57 => (intro w hSw; go_simp; try with_reducible rfl)
     try simp only [nz1, nz2, nz3, Act.put, nz4, nz5, nz6]
     refine wtake 29 ?v58 rfl (by kernel_rfl) (fun _ _ _ h => h) ⟨by rfl, ?y58⟩ TC.out ?z58; case y58 => (intro w hSw; go_simp; try with_reducible rfl)
     try simp only [nz1, nz2, nz3, Act.put, nz4, nz5, nz6]
     refine wtake 30 ?v59 rfl (by kernel_rfl) (fun _ _ _ h => h) ⟨by rfl, ?y59⟩ TC.out ?z59; case y59 => (intro w hSw; go_simp; try with_reducible rfl)
     try simp only [nz1, nz2, nz3, Act.put, nz4, nz5, nz6]
     refine wtake 31 ?v60 rfl (by kernel_rfl) (fun _ _ _ h => h) ⟨by rfl, ?y60⟩ TC.out ?z60; case y60 => (intro w hSw; go_simp; try with_reducible rfl)
     try simp only [nz1, nz2, nz3, Act.put, nz4, nz5, nz6]
     refine wtake 32 ?v61 rfl (by kernel_rfl) (fun _ _ _ h => h) ⟨by rfl, ?y61⟩ TC.out ?z61; case y61 => (intro w hSw; go_simp; try with_reducible rfl)
     try simp only [nz1, nz2, nz3, Act.put, nz4, nz5, nz6]
     refine wskip 33 rfl (by kernel_rfl) (fun _ _ _ h => h) (by rfl) TC.out ?_; try simp only [nz1, nz2, nz3, Act.put, nz4, nz5, nz6]
     refine wskip 34 rfl (by kernel_rfl) (fun _ _ _ h => h) (by rfl) TC.out ?_; try simp only [nz1, nz2, nz3, Act.put, nz4, nz5, nz6]
     refine wskip 35 rfl (by kernel_rfl) (fun _ _ _ h => h) (by rfl) TC.out ?_; try simp only [nz1, nz2, nz3, Act.put, nz4, nz5, nz6]
     refine wtake 36 ?v62 rfl (by kernel_rfl) (fun _ _ _ h => h) ⟨by rfl, ?y62⟩ TC.out ?z62; case y62 => (intro w hSw; go_simp; try with_reducible rfl)
     try simp only [nz1, nz2, nz3, Act.put, nz4, nz5, nz6]
     refine wtake 37 ?v63 rfl (by kernel_rfl) (fun _ _ _ h => h) ⟨by rfl, ?y63⟩ TC.out ?z63; case y63 => (intro w hSw; go_simp; try with_reducible rfl)
     try simp only [nz1, nz2, nz3, Act.put, nz4, nz5, nz6]
     refine wpAnyH_done (by kernel_rfl) ?_ _
     have m0 := HIC.out.cell 0 _ rfl
     have m15 := HIC.out.cell 15 _ rfl
     have m16 := HIC.out.cell 16 _ rfl
     by_cases hn0 : nl = 0
     rotate_left
     ·have g0 : decide ((0 : Int) < (nl : Int)) = true := decide_eq_true (by omega)
      have g0n : decide (0 < nl) = true := decide_eq_true (by omega)
      obtain rfl : r = -1 := HBad.out (by rintro ⟨-, -, -, -, -, h⟩; omega)
      clear HBad
      go_wp2
      go_ret
      exact ⟨rfl, HBC.out⟩
     have g0 : decide ((0 : Int) < (nl : Int)) = false := decide_eq_false (by omega)
     have g0n : decide (0 < nl) = false := decide_eq_false (by omega)
     have g6 : decide ((64 : Int) < (nl : Int)) = false := decide_eq_false (by omega)
     have g6n : decide (64 < nl) = false := decide_eq_false (by omega)
     have HLt := qa0 (HLs.out (by refine ⟨?_, ?_, ?_, ?_, ?_, ?_⟩ <;> first | trivial | rfl | omega))
     clear HBad HLs hn0 hp0
     have ql : decide (0 ≤ left - 1) = true := decide_eq_true (by omega)
     go_wp2_with (go_at_call 49; refine (HLt.out _ HBC.out).mono ?_; rintro e w5 ⟨rfl, hb5⟩; have HB5 := qa0 (jtwo HBC.out hb5); clear hb5)
     go_ret
     exact ⟨rfl, HB5.out⟩
end Go.Proofs.YtemhodenkgngmaaDoor
