/-
  Contracts of the tree's reference: ItemText, Text.
-/
import Derived.Test.YtdimkfcanegahaaDoorFf
import Derived.Test.YtdimkfcanegahaaDoorFg
import Derived.Test.YtdimkfcanegahaaDoorDs
namespace Go.Proofs.YtdimkfcanegahaaDoor
open Go.RowKit
/-- The text of an item. -/
def itb (I : It) : ByteArray := ⟨(iby I).toArray⟩
theorem itb_by (I : It) : (itb I).data.toList = iby I := rfl
theorem ms_size {S : St} (h : MS 16 S) : (stb 16 S).size ≤ 65536000000000 := by
  have h1 := stb_size 16 S h (by
    rcases swant_cases h.parts.1 with ⟨k1, k2, _⟩ | ⟨_, _, k3, _⟩ | ⟨_, _, k3, _⟩ | ⟨_, k3, _⟩
    · have := k2.most; omega
    · rw [k3]; show 0 ≤ _; omega
    · rw [k3]; show 0 ≤ _; omega
    · rw [k3]; show 0 ≤ _; omega)
  have e : 1000000000 * 2 ^ 16 = 65536000000000 := by decide
  omega
theorem itb_10 {nl : Nat} {nm : ByteArray} {T : Xt} {S : St} {F : Nat → Xt} {ln cl : Int} : itb ⟨1, nm, T, S, 0, nl, F, ln, cl⟩ = ⟨#[99, 111, 110, 115, 116, 32]⟩ ++ nm ++ ⟨#[32, 61, 32]⟩ ++ xtext 16 T ++ ⟨#[32, 59, 10]⟩ := ba_ext (by
  rw [itb_by, iby_const rfl]
  rw [app_by, app_by, app_by, app_by]
  simp [xby])
theorem itb_20 {nl : Nat} {nm : ByteArray} {T : Xt} {S : St} {F : Nat → Xt} {ln cl : Int} : itb ⟨2, nm, T, S, 0, nl, F, ln, cl⟩ = ⟨#[99, 111, 100, 101, 32]⟩ ++ nm ++ ⟨#[32, 61, 32]⟩ ++ stb 16 S ++ ⟨#[32, 59, 10]⟩ := ba_ext (by
  rw [itb_by, iby_code rfl]
  rw [app_by, app_by, app_by, app_by, stb_by]
  simp)
theorem itb_30 {nl : Nat} {nm : ByteArray} {T : Xt} {S : St} {F : Nat → Xt} {ln cl : Int} : itb ⟨3, nm, T, S, 0, nl, F, ln, cl⟩ = ⟨#[117, 115, 101, 32]⟩ ++ nm ++ ⟨#[32, 59, 10]⟩ := ba_ext (by
  rw [itb_by, iby_use rfl]
  rw [app_by, app_by]
  simp)
theorem itb_40 {nl : Nat} {nm : ByteArray} {T : Xt} {S : St} {F : Nat → Xt} {ln cl : Int} : itb ⟨4, nm, T, S, 0, nl, F, ln, cl⟩ = ⟨#[100, 111, 109, 97, 105, 110, 115, 32]⟩ ++ xtext 16 T ++ ⟨#[32, 59, 10]⟩ := ba_ext (by
  rw [itb_by, iby_domains rfl]
  rw [app_by, app_by]
  simp [xby])
theorem itb_60 {nl : Nat} {nm : ByteArray} {T : Xt} {S : St} {F : Nat → Xt} {ln cl : Int} : itb ⟨6, nm, T, S, 0, nl, F, ln, cl⟩ = ⟨#[116, 111, 108, 101, 114, 97, 116, 101, 32]⟩ ++ xtext 16 T ++ ⟨#[32, 59, 10]⟩ := ba_ext (by
  rw [itb_by, iby_tolerate rfl]
  rw [app_by, app_by]
  simp [xby])
theorem itb_51 {nl : Nat} {nm : ByteArray} {T : Xt} {S : St} {F : Nat → Xt} {ln cl : Int} : itb ⟨5, nm, T, S, 1, nl, F, ln, cl⟩ = ⟨#[112, 108, 97, 99, 101, 32, 114, 111, 119, 32, 59, 10]⟩ := ba_ext (by
  rw [itb_by, iby_row rfl rfl]
  )
theorem itb_52 {nl : Nat} {nm : ByteArray} {T : Xt} {S : St} {F : Nat → Xt} {ln cl : Int} : itb ⟨5, nm, T, S, 2, nl, F, ln, cl⟩ = ⟨#[112, 108, 97, 99, 101, 32, 115, 112, 114, 101, 97, 100, 32, 59, 10]⟩ := ba_ext (by
  rw [itb_by, iby_spread rfl rfl]
  )
theorem itb_53 {nl : Nat} {nm : ByteArray} {T : Xt} {S : St} {F : Nat → Xt} {ln cl : Int} : itb ⟨5, nm, T, S, 3, nl, F, ln, cl⟩ = ⟨#[112, 108, 97, 99, 101, 32, 115, 112, 105, 114, 97, 108, 32]⟩ ++ xtext 16 T ++ ⟨#[32, 59, 10]⟩ := ba_ext (by
  rw [itb_by, iby_spiral rfl rfl]
  rw [app_by, app_by]
  simp [xby])
theorem itb_54 {nl : Nat} {nm : ByteArray} {T : Xt} {S : St} {F : Nat → Xt} {ln cl : Int} : itb ⟨5, nm, T, S, 4, nl, F, ln, cl⟩ = ⟨#[112, 108, 97, 99, 101, 32, 108, 105, 115, 116, 32, 91, 32]⟩ ++ lrow F nl ++ ⟨#[32, 93, 32, 59, 10]⟩ := ba_ext (by
  rw [itb_by, iby_list rfl rfl]
  rw [app_by, app_by, lrow_rtr]
  simp)
set_option maxRecDepth 20000 in
set_option maxHeartbeats 16000000 in
theorem ritext (w : World) (k pl nl vk vl vc sk na ca np cp nr cr lc : Nat) (nm vm sm : ByteArray) (vn vln vcl sln scl ln cl : Int) (va aa pa ra la : Option Addr) (T : Xt) (S : St) (F : Nat → Xt) (hT : XV w (.agg #[.int .u8 (vk : Int), .int .i64 vn, .string vm, .slice va vl vc, .int .i64 vln, .int .i64 vcl]) T) (hS : SV w (.agg #[.int .u8 (sk : Int), .string sm, .slice aa na ca, .slice pa np cp, .slice ra nr cr, .int .i64 sln, .int .i64 scl]) S) (hL : ∀ d, XL d w la nl F) (hM : MI ⟨k, nm, T, S, pl, nl, F, ln, cl⟩) (h64 : nl ≤ 64) (ht : Tab9 w) :
    Calls Tryd.prog 37 #[.agg #[.int .u8 (k : Int), .string nm, .int .u8 (vk : Int), .int .i64 vn, .string vm, .slice va vl vc, .int .i64 vln, .int .i64 vcl, .int .u8 (sk : Int), .string sm, .slice aa na ca, .slice pa np cp, .slice ra nr cr, .int .i64 sln, .int .i64 scl, .int .u8 (pl : Int), .slice la nl lc, .int .i64 ln, .int .i64 cl]] w fun e w' => e = .returned (.string (itb ⟨k, nm, T, S, pl, nl, F, ln, cl⟩)) ∧ Below w.heap.size w w' := by
  have HT := jhid9 hT
  have HS := jhid9 hS
  have HL := jhid9 hL
  have HTb := jhid9 ht
  clear hT hS hL ht
  have HCv : Hid (MX 16 T → ∀ w' : World, Below w.heap.size w w' → Calls Tryd.prog 38 #[.agg #[.int .u8 (vk : Int), .int .i64 vn, .string vm, .slice va vl vc, .int .i64 vln, .int .i64 vcl]] w' fun e w'' => e = .returned (.string (xtext 16 T)) ∧ Below w'.heap.size w' w'') := fun hm w' hb => rxtext_any 16 w' T _ (by omega) (HT.out.later hb) hm (tab_later HTb.out hb)
  have HCs : Hid (MS 16 S → ∀ w' : World, Below w.heap.size w w' → Calls Tryd.prog 40 #[.agg #[.int .u8 (sk : Int), .string sm, .slice aa na ca, .slice pa np cp, .slice ra nr cr, .int .i64 sln, .int .i64 scl]] w' fun e w'' => e = .returned (.string (stb 16 S)) ∧ Below w'.heap.size w' w'') := fun hm w' hb => rstext_any 16 w' S _ (by omega) (HS.out.later hb) hm (tab_later HTb.out hb)
  have HCl : Hid ((∀ i, i < nl → MX 16 (F i)) → ∀ w' : World, Below w.heap.size w w' → Calls Tryd.prog 68 #[.slice la nl lc] w' fun e w'' => e = .returned (.string (lrow F nl)) ∧ Below w'.heap.size w' w'') := fun hm w' hb => rrow_any w' la nl lc F (fun d => (HL.out d).later hb) h64 hm (tab_later HTb.out hb)
  clear HT HS HL HTb
  rcases hM with ⟨k1, p1, n1, v1, s1, l1⟩ | ⟨k1, p1, n1, v1, s1, l1⟩ | ⟨k1, p1, n1, v1, s1, l1⟩ | ⟨k1, p1, n1, v1, s1, l1⟩ | ⟨k1, p1, n1, v1, s1, l1⟩ | ⟨k1, p1, n1, v1, s1, l1⟩ | ⟨k1, p1, n1, v1, s1, l1⟩ | ⟨k1, p1, n1, v1, s1, l1⟩ | ⟨k1, p1, n1, v1, s1, l1⟩
  · replace k1 : k = 1 := k1
    replace p1 : pl = 0 := p1
    subst k1
    subst p1
    have n2 : nm.size ≤ 16 := NameP.most n1
    rw [itb_10]
    have HC := jhid9 (HCv.out v1)
    obtain ⟨x, Hx⟩ : ∃ x, Hid (xtext 16 T = x) := ⟨_, rfl⟩
    rw [Hx.out] at HC ⊢
    have hx : ∃ _ : Unit, x.size ≤ 65536000000000 := ⟨(), by rw [← Hx.out]; exact Nat.le_trans (MX.size v1) (by omega)⟩
    clear Hx
    clear HCv HCs HCl n1 v1 s1 l1
    show Calls _ _ #[.agg #[.int .u8 1, .string nm, .int .u8 (vk : Int), .int .i64 vn, .string vm, .slice va vl vc, .int .i64 vln, .int .i64 vcl, .int .u8 (sk : Int), .string sm, .slice aa na ca, .slice pa np cp, .slice ra nr cr, .int .i64 sln, .int .i64 scl, .int .u8 0, .slice la nl lc, .int .i64 ln, .int .i64 cl]] _ _
    have HV := jhid9 (Vn.new w 36 #[.int .u8 1, .string nm, .int .u8 (vk : Int), .int .i64 vn, .string vm, .slice va vl vc, .int .i64 vln, .int .i64 vcl, .int .u8 (sk : Int), .string sm, .slice aa na ca, .slice pa np cp, .slice ra nr cr, .int .i64 sln, .int .i64 scl, .int .u8 0, .slice la nl lc, .int .i64 ln, .int .i64 cl])
    have c0 := HV.out.cell 0 _ rfl
    have c1 := HV.out.cell 1 _ rfl
    have c2 := HV.out.cell 2 _ rfl
    have c3 := HV.out.cell 3 _ rfl
    have c4 := HV.out.cell 4 _ rfl
    have c5 := HV.out.cell 5 _ rfl
    have c6 := HV.out.cell 6 _ rfl
    have c7 := HV.out.cell 7 _ rfl
    have g0 : ¬ 9223372036854775807 < 6 + nm.size := by obtain ⟨_, y⟩ := hx; omega
    have g1 : ¬ 9223372036854775807 < 6 + nm.size + 3 := by obtain ⟨_, y⟩ := hx; omega
    have g2 : ¬ 9223372036854775807 < 6 + nm.size + 3 + x.size := by obtain ⟨_, y⟩ := hx; omega
    have g3 : ¬ 9223372036854775807 < 6 + nm.size + 3 + x.size + 3 := by obtain ⟨_, y⟩ := hx; omega
    clear hx
    go_enter Tryd.func37, Tryd.ntmps37
    go_wp2
    clear c0 c1 c2 c3 c4 c5 c6 c7
    have HSa : Hid (∀ w' : World, Vn w' w.heap.size 36 #[.int .u8 1, .string nm, .int .u8 (vk : Int), .int .i64 vn, .string vm, .slice va vl vc, .int .i64 vln, .int .i64 vcl, .int .u8 (sk : Int), .string sm, .slice aa na ca, .slice pa np cp, .slice ra nr cr, .int .i64 sln, .int .i64 scl, .int .u8 0, .slice la nl lc, .int .i64 ln, .int .i64 cl] → (fun w' => w'.cell? ⟨w.heap.size, 1, none⟩ = some (.string nm) ∧ w'.cell? ⟨w.heap.size, 2, none⟩ = some (.int .u8 (vk : Int)) ∧ w'.cell? ⟨w.heap.size, 3, none⟩ = some (.int .i64 vn) ∧ w'.cell? ⟨w.heap.size, 4, none⟩ = some (.string vm) ∧ w'.cell? ⟨w.heap.size, 5, none⟩ = some (.slice va vl vc) ∧ w'.cell? ⟨w.heap.size, 6, none⟩ = some (.int .i64 vln) ∧ w'.cell? ⟨w.heap.size, 7, none⟩ = some (.int .i64 vcl)) w') := fun w' h => ⟨h.cell 1 _ rfl, h.cell 2 _ rfl, h.cell 3 _ rfl, h.cell 4 _ rfl, h.cell 5 _ rfl, h.cell 6 _ rfl, h.cell 7 _ rfl⟩
    refine wp_region_held (S := fun w' => w'.cell? ⟨w.heap.size, 1, none⟩ = some (.string nm) ∧ w'.cell? ⟨w.heap.size, 2, none⟩ = some (.int .u8 (vk : Int)) ∧ w'.cell? ⟨w.heap.size, 3, none⟩ = some (.int .i64 vn) ∧ w'.cell? ⟨w.heap.size, 4, none⟩ = some (.string vm) ∧ w'.cell? ⟨w.heap.size, 5, none⟩ = some (.slice va vl vc) ∧ w'.cell? ⟨w.heap.size, 6, none⟩ = some (.int .i64 vln) ∧ w'.cell? ⟨w.heap.size, 7, none⟩ = some (.int .i64 vcl)) (by kernel_rfl) ?_
    change wpAnyH _ _ _ _ _ _ _ _ (World.drew _)
    obtain ⟨W0, HW0⟩ : ∃ W0, Hid ((w.alloc (.cells #[.int .u8 1, .string nm, .int .u8 (vk : Int), .int .i64 vn, .string vm, .slice va vl vc, .int .i64 vln, .int .i64 vcl, .int .u8 (sk : Int), .string sm, .slice aa na ca, .slice pa np cp, .slice ra nr cr, .int .i64 sln, .int .i64 scl, .int .u8 0, .slice la nl lc, .int .i64 ln, .int .i64 cl] 36)).drew = W0) := ⟨_, rfl⟩
    have HB0 : Hid (Below w.heap.size w W0) := by show Below _ _ _; rw [← HW0.out]; exact (jlow _ _).drew
    have HI0 : Hid (Vn W0 w.heap.size 36 #[.int .u8 1, .string nm, .int .u8 (vk : Int), .int .i64 vn, .string vm, .slice va vl vc, .int .i64 vln, .int .i64 vcl, .int .u8 (sk : Int), .string sm, .slice aa na ca, .slice pa np cp, .slice ra nr cr, .int .i64 sln, .int .i64 scl, .int .u8 0, .slice la nl lc, .int .i64 ln, .int .i64 cl]) := by show Vn _ _ _ _; rw [← HW0.out]; exact HV.out.later (drew_below10 _)
    rw [HW0.out]
    clear HW0 HV
    refine wpAnyH_take (i := 0) (v := ?vk1_0_1) rfl (by kernel_rfl) (by kernel_rfl) (by kernel_rfl) (fun _ _ _ h => h) (Or.inl ⟨by rfl, ?yk1_0_1⟩) (HSa.out _ HI0.out) ?zk1_0_1
    case yk1_0_1 => (intro w hSw; (try dsimp only at hSw); go_simp; try with_reducible rfl)
    try simp only [nz1, nz3, Act.put, nz4, nz5, nz6]
    refine wpAnyH_take (i := 1) (v := ?vk1_1_2) rfl (by kernel_rfl) (by kernel_rfl) (by kernel_rfl) (fun _ _ _ h => h) (Or.inl ⟨by rfl, ?yk1_1_2⟩) (HSa.out _ HI0.out) ?zk1_1_2
    case yk1_1_2 => (intro w hSw; (try dsimp only at hSw); go_simp; try with_reducible rfl)
    try simp only [nz1, nz2, nz3, Act.put, nz4, nz5, nz6]
    refine wpAnyH_take (i := 2) (v := ?vk1_2_3) rfl (by kernel_rfl) (by kernel_rfl) (by kernel_rfl) (fun _ _ _ h => h) (Or.inl ⟨by rfl, ?yk1_2_3⟩) (HSa.out _ HI0.out) ?zk1_2_3
    case yk1_2_3 => (intro w hSw; (try dsimp only at hSw); go_simp; try with_reducible rfl)
    try simp only [nz1, nz2, nz3, Act.put, nz4, nz5, nz6]
    refine wpAnyH_take (i := 3) (v := ?vk1_3_4) rfl (by kernel_rfl) (by kernel_rfl) (by kernel_rfl) (fun _ _ _ h => h) (Or.inl ⟨by rfl, ?yk1_3_4⟩) (HSa.out _ HI0.out) ?zk1_3_4
    case yk1_3_4 => (intro w hSw; (try dsimp only at hSw); go_simp; try with_reducible rfl)
    try simp only [nz1, nz2, nz3, Act.put, nz4, nz5, nz6]
    refine wpAnyH_take (i := 4) (v := ?vk1_4_5) rfl (by kernel_rfl) (by kernel_rfl) (by kernel_rfl) (fun _ _ _ h => h) (Or.inl ⟨by rfl, ?yk1_4_5⟩) (HSa.out _ HI0.out) ?zk1_4_5
    case yk1_4_5 => (intro w hSw; (try dsimp only at hSw); go_simp; try with_reducible rfl)
    try simp only [nz1, nz2, nz3, Act.put, nz4, nz5, nz6]
    refine wpAnyH_take (i := 5) (v := ?vk1_5_6) rfl (by kernel_rfl) (by kernel_rfl) (by kernel_rfl) (fun _ _ _ h => h) (Or.inl ⟨by rfl, ?yk1_5_6⟩) (HSa.out _ HI0.out) ?zk1_5_6
    case yk1_5_6 => (intro w hSw; (try dsimp only at hSw); go_simp; try with_reducible rfl)
    try simp only [nz1, nz2, nz3, Act.put, nz4, nz5, nz6]
    refine wpAnyH_ready (rs := [6]) (by kernel_rfl) (by simp) ?_
    refine AllReadyH.cons rfl (fun KK hKK => ?_) AllReadyH.nil
    go_simp
    refine (HC.out _ HB0.out).mono ?_; rintro e W1 ⟨rfl, hb⟩
    have HB1 := jhid9 (jtwo HB0.out hb)
    have HI1 := jhid9 (HI0.out.later hb)
    clear hb
    refine hKK.out _ _ (HSa.out _ HI1.out) (fun _ => ?_)
    clear hKK KK
    try simp only [nz1, nz2, nz3, Act.put, nz4, nz5, nz6]
    refine wpAnyH_take (i := 7) (v := ?vk1_7_7) rfl (by kernel_rfl) (by kernel_rfl) (by kernel_rfl) (fun _ _ _ h => h) (Or.inl ⟨by rfl, ?yk1_7_7⟩) (HSa.out _ HI1.out) ?zk1_7_7
    case yk1_7_7 => (intro w hSw; (try dsimp only at hSw); go_simp; try with_reducible rfl)
    try simp only [nz1, nz2, nz3, Act.put, nz4, nz5, nz6]
    refine wpAnyH_take (i := 8) (v := ?vk1_8_8) rfl (by kernel_rfl) (by kernel_rfl) (by kernel_rfl) (fun _ _ _ h => h) (Or.inl ⟨by rfl, ?yk1_8_8⟩) (HSa.out _ HI1.out) ?zk1_8_8
    case yk1_8_8 => (intro w hSw; (try dsimp only at hSw); go_simp; try with_reducible rfl)
    try simp only [nz1, nz2, nz3, Act.put, nz4, nz5, nz6]
    refine wpAnyH_take (i := 9) (v := ?vk1_9_9) rfl (by kernel_rfl) (by kernel_rfl) (by kernel_rfl) (fun _ _ _ h => h) (Or.inl ⟨by rfl, ?yk1_9_9⟩) (HSa.out _ HI1.out) ?zk1_9_9
    case yk1_9_9 => (intro w hSw; (try dsimp only at hSw); go_simp; try with_reducible rfl)
    try simp only [nz1, nz2, nz3, Act.put, nz4, nz5, nz6]
    refine wpAnyH_done (by kernel_rfl) ?_ _
    go_wp2
    go_ret
    exact ⟨rfl, HB1.out⟩
  · replace k1 : k = 2 := k1
    replace p1 : pl = 0 := p1
    subst k1
    subst p1
    have n2 : nm.size ≤ 16 := NameP.most n1
    rw [itb_20]
    have HC := jhid9 (HCs.out s1)
    obtain ⟨x, Hx⟩ : ∃ x, Hid (stb 16 S = x) := ⟨_, rfl⟩
    rw [Hx.out] at HC ⊢
    have hx : ∃ _ : Unit, x.size ≤ 65536000000000 := ⟨(), by rw [← Hx.out]; exact ms_size s1⟩
    clear Hx
    clear HCv HCs HCl n1 v1 s1 l1
    show Calls _ _ #[.agg #[.int .u8 2, .string nm, .int .u8 (vk : Int), .int .i64 vn, .string vm, .slice va vl vc, .int .i64 vln, .int .i64 vcl, .int .u8 (sk : Int), .string sm, .slice aa na ca, .slice pa np cp, .slice ra nr cr, .int .i64 sln, .int .i64 scl, .int .u8 0, .slice la nl lc, .int .i64 ln, .int .i64 cl]] _ _
    have HV := jhid9 (Vn.new w 36 #[.int .u8 2, .string nm, .int .u8 (vk : Int), .int .i64 vn, .string vm, .slice va vl vc, .int .i64 vln, .int .i64 vcl, .int .u8 (sk : Int), .string sm, .slice aa na ca, .slice pa np cp, .slice ra nr cr, .int .i64 sln, .int .i64 scl, .int .u8 0, .slice la nl lc, .int .i64 ln, .int .i64 cl])
    have c0 := HV.out.cell 0 _ rfl
    have c1 := HV.out.cell 1 _ rfl
    have c8 := HV.out.cell 8 _ rfl
    have c9 := HV.out.cell 9 _ rfl
    have c10 := HV.out.cell 10 _ rfl
    have c11 := HV.out.cell 11 _ rfl
    have c12 := HV.out.cell 12 _ rfl
    have c13 := HV.out.cell 13 _ rfl
    have c14 := HV.out.cell 14 _ rfl
    have g0 : ¬ 9223372036854775807 < 5 + nm.size := by obtain ⟨_, y⟩ := hx; omega
    have g1 : ¬ 9223372036854775807 < 5 + nm.size + 3 := by obtain ⟨_, y⟩ := hx; omega
    have g2 : ¬ 9223372036854775807 < 5 + nm.size + 3 + x.size := by obtain ⟨_, y⟩ := hx; omega
    have g3 : ¬ 9223372036854775807 < 5 + nm.size + 3 + x.size + 3 := by obtain ⟨_, y⟩ := hx; omega
    clear hx
    go_enter Tryd.func37, Tryd.ntmps37
    go_wp2
    clear c0 c1 c8 c9 c10 c11 c12 c13 c14
    have HSa : Hid (∀ w' : World, Vn w' w.heap.size 36 #[.int .u8 2, .string nm, .int .u8 (vk : Int), .int .i64 vn, .string vm, .slice va vl vc, .int .i64 vln, .int .i64 vcl, .int .u8 (sk : Int), .string sm, .slice aa na ca, .slice pa np cp, .slice ra nr cr, .int .i64 sln, .int .i64 scl, .int .u8 0, .slice la nl lc, .int .i64 ln, .int .i64 cl] → (fun w' => w'.cell? ⟨w.heap.size, 1, none⟩ = some (.string nm) ∧ w'.cell? ⟨w.heap.size, 8, none⟩ = some (.int .u8 (sk : Int)) ∧ w'.cell? ⟨w.heap.size, 9, none⟩ = some (.string sm) ∧ w'.cell? ⟨w.heap.size, 10, none⟩ = some (.slice aa na ca) ∧ w'.cell? ⟨w.heap.size, 11, none⟩ = some (.slice pa np cp) ∧ w'.cell? ⟨w.heap.size, 12, none⟩ = some (.slice ra nr cr) ∧ w'.cell? ⟨w.heap.size, 13, none⟩ = some (.int .i64 sln) ∧ w'.cell? ⟨w.heap.size, 14, none⟩ = some (.int .i64 scl)) w') := fun w' h => ⟨h.cell 1 _ rfl, h.cell 8 _ rfl, h.cell 9 _ rfl, h.cell 10 _ rfl, h.cell 11 _ rfl, h.cell 12 _ rfl, h.cell 13 _ rfl, h.cell 14 _ rfl⟩
    refine wp_region_held (S := fun w' => w'.cell? ⟨w.heap.size, 1, none⟩ = some (.string nm) ∧ w'.cell? ⟨w.heap.size, 8, none⟩ = some (.int .u8 (sk : Int)) ∧ w'.cell? ⟨w.heap.size, 9, none⟩ = some (.string sm) ∧ w'.cell? ⟨w.heap.size, 10, none⟩ = some (.slice aa na ca) ∧ w'.cell? ⟨w.heap.size, 11, none⟩ = some (.slice pa np cp) ∧ w'.cell? ⟨w.heap.size, 12, none⟩ = some (.slice ra nr cr) ∧ w'.cell? ⟨w.heap.size, 13, none⟩ = some (.int .i64 sln) ∧ w'.cell? ⟨w.heap.size, 14, none⟩ = some (.int .i64 scl)) (by kernel_rfl) ?_
    change wpAnyH _ _ _ _ _ _ _ _ (World.drew _)
    obtain ⟨W0, HW0⟩ : ∃ W0, Hid ((w.alloc (.cells #[.int .u8 2, .string nm, .int .u8 (vk : Int), .int .i64 vn, .string vm, .slice va vl vc, .int .i64 vln, .int .i64 vcl, .int .u8 (sk : Int), .string sm, .slice aa na ca, .slice pa np cp, .slice ra nr cr, .int .i64 sln, .int .i64 scl, .int .u8 0, .slice la nl lc, .int .i64 ln, .int .i64 cl] 36)).drew = W0) := ⟨_, rfl⟩
    have HB0 : Hid (Below w.heap.size w W0) := by show Below _ _ _; rw [← HW0.out]; exact (jlow _ _).drew
    have HI0 : Hid (Vn W0 w.heap.size 36 #[.int .u8 2, .string nm, .int .u8 (vk : Int), .int .i64 vn, .string vm, .slice va vl vc, .int .i64 vln, .int .i64 vcl, .int .u8 (sk : Int), .string sm, .slice aa na ca, .slice pa np cp, .slice ra nr cr, .int .i64 sln, .int .i64 scl, .int .u8 0, .slice la nl lc, .int .i64 ln, .int .i64 cl]) := by show Vn _ _ _ _; rw [← HW0.out]; exact HV.out.later (drew_below10 _)
    rw [HW0.out]
    clear HW0 HV
    refine wpAnyH_take (i := 0) (v := ?vk2_0_10) rfl (by kernel_rfl) (by kernel_rfl) (by kernel_rfl) (fun _ _ _ h => h) (Or.inl ⟨by rfl, ?yk2_0_10⟩) (HSa.out _ HI0.out) ?zk2_0_10
    case yk2_0_10 => (intro w hSw; (try dsimp only at hSw); go_simp; try with_reducible rfl)
    try simp only [nz1, nz3, Act.put, nz4, nz5, nz6]
    refine wpAnyH_take (i := 1) (v := ?vk2_1_11) rfl (by kernel_rfl) (by kernel_rfl) (by kernel_rfl) (fun _ _ _ h => h) (Or.inl ⟨by rfl, ?yk2_1_11⟩) (HSa.out _ HI0.out) ?zk2_1_11
    case yk2_1_11 => (intro w hSw; (try dsimp only at hSw); go_simp; try with_reducible rfl)
    try simp only [nz1, nz2, nz3, Act.put, nz4, nz5, nz6]
    refine wpAnyH_take (i := 2) (v := ?vk2_2_12) rfl (by kernel_rfl) (by kernel_rfl) (by kernel_rfl) (fun _ _ _ h => h) (Or.inl ⟨by rfl, ?yk2_2_12⟩) (HSa.out _ HI0.out) ?zk2_2_12
    case yk2_2_12 => (intro w hSw; (try dsimp only at hSw); go_simp; try with_reducible rfl)
    try simp only [nz1, nz2, nz3, Act.put, nz4, nz5, nz6]
    refine wpAnyH_take (i := 3) (v := ?vk2_3_13) rfl (by kernel_rfl) (by kernel_rfl) (by kernel_rfl) (fun _ _ _ h => h) (Or.inl ⟨by rfl, ?yk2_3_13⟩) (HSa.out _ HI0.out) ?zk2_3_13
    case yk2_3_13 => (intro w hSw; (try dsimp only at hSw); go_simp; try with_reducible rfl)
    try simp only [nz1, nz2, nz3, Act.put, nz4, nz5, nz6]
    refine wpAnyH_take (i := 4) (v := ?vk2_4_14) rfl (by kernel_rfl) (by kernel_rfl) (by kernel_rfl) (fun _ _ _ h => h) (Or.inl ⟨by rfl, ?yk2_4_14⟩) (HSa.out _ HI0.out) ?zk2_4_14
    case yk2_4_14 => (intro w hSw; (try dsimp only at hSw); go_simp; try with_reducible rfl)
    try simp only [nz1, nz2, nz3, Act.put, nz4, nz5, nz6]
    refine wpAnyH_take (i := 5) (v := ?vk2_5_15) rfl (by kernel_rfl) (by kernel_rfl) (by kernel_rfl) (fun _ _ _ h => h) (Or.inl ⟨by rfl, ?yk2_5_15⟩) (HSa.out _ HI0.out) ?zk2_5_15
    case yk2_5_15 => (intro w hSw; (try dsimp only at hSw); go_simp; try with_reducible rfl)
    try simp only [nz1, nz2, nz3, Act.put, nz4, nz5, nz6]
    refine wpAnyH_ready (rs := [6]) (by kernel_rfl) (by simp) ?_
    refine AllReadyH.cons rfl (fun KK hKK => ?_) AllReadyH.nil
    go_simp
    refine (HC.out _ HB0.out).mono ?_; rintro e W1 ⟨rfl, hb⟩
    have HB1 := jhid9 (jtwo HB0.out hb)
    have HI1 := jhid9 (HI0.out.later hb)
    clear hb
    refine hKK.out _ _ (HSa.out _ HI1.out) (fun _ => ?_)
    clear hKK KK
    try simp only [nz1, nz2, nz3, Act.put, nz4, nz5, nz6]
    refine wpAnyH_take (i := 7) (v := ?vk2_7_16) rfl (by kernel_rfl) (by kernel_rfl) (by kernel_rfl) (fun _ _ _ h => h) (Or.inl ⟨by rfl, ?yk2_7_16⟩) (HSa.out _ HI1.out) ?zk2_7_16
    case yk2_7_16 => (intro w hSw; (try dsimp only at hSw); go_simp; try with_reducible rfl)
    try simp only [nz1, nz2, nz3, Act.put, nz4, nz5, nz6]
    refine wpAnyH_take (i := 8) (v := ?vk2_8_17) rfl (by kernel_rfl) (by kernel_rfl) (by kernel_rfl) (fun _ _ _ h => h) (Or.inl ⟨by rfl, ?yk2_8_17⟩) (HSa.out _ HI1.out) ?zk2_8_17
    case yk2_8_17 => (intro w hSw; (try dsimp only at hSw); go_simp; try with_reducible rfl)
    try simp only [nz1, nz2, nz3, Act.put, nz4, nz5, nz6]
    refine wpAnyH_take (i := 9) (v := ?vk2_9_18) rfl (by kernel_rfl) (by kernel_rfl) (by kernel_rfl) (fun _ _ _ h => h) (Or.inl ⟨by rfl, ?yk2_9_18⟩) (HSa.out _ HI1.out) ?zk2_9_18
    case yk2_9_18 => (intro w hSw; (try dsimp only at hSw); go_simp; try with_reducible rfl)
    try simp only [nz1, nz2, nz3, Act.put, nz4, nz5, nz6]
    refine wpAnyH_done (by kernel_rfl) ?_ _
    go_wp2
    go_ret
    exact ⟨rfl, HB1.out⟩
  · replace k1 : k = 3 := k1
    replace p1 : pl = 0 := p1
    subst k1
    subst p1
    have n2 : nm.size ≤ 16 := NameP.most n1
    rw [itb_30]
    clear HCv HCs HCl n1 v1 s1 l1
    show Calls _ _ #[.agg #[.int .u8 3, .string nm, .int .u8 (vk : Int), .int .i64 vn, .string vm, .slice va vl vc, .int .i64 vln, .int .i64 vcl, .int .u8 (sk : Int), .string sm, .slice aa na ca, .slice pa np cp, .slice ra nr cr, .int .i64 sln, .int .i64 scl, .int .u8 0, .slice la nl lc, .int .i64 ln, .int .i64 cl]] _ _
    have HV := jhid9 (Vn.new w 36 #[.int .u8 3, .string nm, .int .u8 (vk : Int), .int .i64 vn, .string vm, .slice va vl vc, .int .i64 vln, .int .i64 vcl, .int .u8 (sk : Int), .string sm, .slice aa na ca, .slice pa np cp, .slice ra nr cr, .int .i64 sln, .int .i64 scl, .int .u8 0, .slice la nl lc, .int .i64 ln, .int .i64 cl])
    have c0 := HV.out.cell 0 _ rfl
    have c1 := HV.out.cell 1 _ rfl
    have g0 : ¬ 9223372036854775807 < 4 + nm.size := by omega
    have g1 : ¬ 9223372036854775807 < 4 + nm.size + 3 := by omega
    go_enter Tryd.func37, Tryd.ntmps37
    go_wp2
    go_ret
    exact ⟨rfl, jlow _ _⟩
  · replace k1 : k = 4 := k1
    replace p1 : pl = 0 := p1
    subst k1
    subst p1
    rw [itb_40]
    have HC := jhid9 (HCv.out v1)
    obtain ⟨x, Hx⟩ : ∃ x, Hid (xtext 16 T = x) := ⟨_, rfl⟩
    rw [Hx.out] at HC ⊢
    have hx : ∃ _ : Unit, x.size ≤ 65536000000000 := ⟨(), by rw [← Hx.out]; exact Nat.le_trans (MX.size v1) (by omega)⟩
    clear Hx
    clear HCv HCs HCl n1 v1 s1 l1
    show Calls _ _ #[.agg #[.int .u8 4, .string nm, .int .u8 (vk : Int), .int .i64 vn, .string vm, .slice va vl vc, .int .i64 vln, .int .i64 vcl, .int .u8 (sk : Int), .string sm, .slice aa na ca, .slice pa np cp, .slice ra nr cr, .int .i64 sln, .int .i64 scl, .int .u8 0, .slice la nl lc, .int .i64 ln, .int .i64 cl]] _ _
    have HV := jhid9 (Vn.new w 36 #[.int .u8 4, .string nm, .int .u8 (vk : Int), .int .i64 vn, .string vm, .slice va vl vc, .int .i64 vln, .int .i64 vcl, .int .u8 (sk : Int), .string sm, .slice aa na ca, .slice pa np cp, .slice ra nr cr, .int .i64 sln, .int .i64 scl, .int .u8 0, .slice la nl lc, .int .i64 ln, .int .i64 cl])
    have c0 := HV.out.cell 0 _ rfl
    have c1 := HV.out.cell 1 _ rfl
    have c2 := HV.out.cell 2 _ rfl
    have c3 := HV.out.cell 3 _ rfl
    have c4 := HV.out.cell 4 _ rfl
    have c5 := HV.out.cell 5 _ rfl
    have c6 := HV.out.cell 6 _ rfl
    have c7 := HV.out.cell 7 _ rfl
    have g0 : ¬ 9223372036854775807 < 8 + x.size := by obtain ⟨_, y⟩ := hx; omega
    have g1 : ¬ 9223372036854775807 < 8 + x.size + 3 := by obtain ⟨_, y⟩ := hx; omega
    clear hx
    go_enter Tryd.func37, Tryd.ntmps37
    go_wp2_with (go_at_call 38; refine (HC.out _ (jlow _ _)).mono ?_; rintro e w2 ⟨rfl, hb2⟩; have HB2 := jhid9 (jtwo (jlow _ _) hb2); clear hb2)
    go_ret
    exact ⟨rfl, HB2.out⟩
  · replace k1 : k = 6 := k1
    replace p1 : pl = 0 := p1
    subst k1
    subst p1
    rw [itb_60]
    have HC := jhid9 (HCv.out v1)
    obtain ⟨x, Hx⟩ : ∃ x, Hid (xtext 16 T = x) := ⟨_, rfl⟩
    rw [Hx.out] at HC ⊢
    have hx : ∃ _ : Unit, x.size ≤ 65536000000000 := ⟨(), by rw [← Hx.out]; exact Nat.le_trans (MX.size v1) (by omega)⟩
    clear Hx
    clear HCv HCs HCl n1 v1 s1 l1
    show Calls _ _ #[.agg #[.int .u8 6, .string nm, .int .u8 (vk : Int), .int .i64 vn, .string vm, .slice va vl vc, .int .i64 vln, .int .i64 vcl, .int .u8 (sk : Int), .string sm, .slice aa na ca, .slice pa np cp, .slice ra nr cr, .int .i64 sln, .int .i64 scl, .int .u8 0, .slice la nl lc, .int .i64 ln, .int .i64 cl]] _ _
    have HV := jhid9 (Vn.new w 36 #[.int .u8 6, .string nm, .int .u8 (vk : Int), .int .i64 vn, .string vm, .slice va vl vc, .int .i64 vln, .int .i64 vcl, .int .u8 (sk : Int), .string sm, .slice aa na ca, .slice pa np cp, .slice ra nr cr, .int .i64 sln, .int .i64 scl, .int .u8 0, .slice la nl lc, .int .i64 ln, .int .i64 cl])
    have c0 := HV.out.cell 0 _ rfl
    have c1 := HV.out.cell 1 _ rfl
    have c2 := HV.out.cell 2 _ rfl
    have c3 := HV.out.cell 3 _ rfl
    have c4 := HV.out.cell 4 _ rfl
    have c5 := HV.out.cell 5 _ rfl
    have c6 := HV.out.cell 6 _ rfl
    have c7 := HV.out.cell 7 _ rfl
    have g0 : ¬ 9223372036854775807 < 9 + x.size := by obtain ⟨_, y⟩ := hx; omega
    have g1 : ¬ 9223372036854775807 < 9 + x.size + 3 := by obtain ⟨_, y⟩ := hx; omega
    clear hx
    go_enter Tryd.func37, Tryd.ntmps37
    go_wp2_with (go_at_call 38; refine (HC.out _ (jlow _ _)).mono ?_; rintro e w2 ⟨rfl, hb2⟩; have HB2 := jhid9 (jtwo (jlow _ _) hb2); clear hb2)
    go_ret
    exact ⟨rfl, HB2.out⟩
  · replace k1 : k = 5 := k1
    replace p1 : pl = 1 := p1
    subst k1
    subst p1
    rw [itb_51]
    clear HCv HCs HCl n1 v1 s1 l1
    show Calls _ _ #[.agg #[.int .u8 5, .string nm, .int .u8 (vk : Int), .int .i64 vn, .string vm, .slice va vl vc, .int .i64 vln, .int .i64 vcl, .int .u8 (sk : Int), .string sm, .slice aa na ca, .slice pa np cp, .slice ra nr cr, .int .i64 sln, .int .i64 scl, .int .u8 1, .slice la nl lc, .int .i64 ln, .int .i64 cl]] _ _
    have HV := jhid9 (Vn.new w 36 #[.int .u8 5, .string nm, .int .u8 (vk : Int), .int .i64 vn, .string vm, .slice va vl vc, .int .i64 vln, .int .i64 vcl, .int .u8 (sk : Int), .string sm, .slice aa na ca, .slice pa np cp, .slice ra nr cr, .int .i64 sln, .int .i64 scl, .int .u8 1, .slice la nl lc, .int .i64 ln, .int .i64 cl])
    have c0 := HV.out.cell 0 _ rfl
    have c1 := HV.out.cell 1 _ rfl
    have c15 := HV.out.cell 15 _ rfl
    go_enter Tryd.func37, Tryd.ntmps37
    go_wp2
    go_ret
    exact ⟨rfl, jlow _ _⟩
  · replace k1 : k = 5 := k1
    replace p1 : pl = 2 := p1
    subst k1
    subst p1
    rw [itb_52]
    clear HCv HCs HCl n1 v1 s1 l1
    show Calls _ _ #[.agg #[.int .u8 5, .string nm, .int .u8 (vk : Int), .int .i64 vn, .string vm, .slice va vl vc, .int .i64 vln, .int .i64 vcl, .int .u8 (sk : Int), .string sm, .slice aa na ca, .slice pa np cp, .slice ra nr cr, .int .i64 sln, .int .i64 scl, .int .u8 2, .slice la nl lc, .int .i64 ln, .int .i64 cl]] _ _
    have HV := jhid9 (Vn.new w 36 #[.int .u8 5, .string nm, .int .u8 (vk : Int), .int .i64 vn, .string vm, .slice va vl vc, .int .i64 vln, .int .i64 vcl, .int .u8 (sk : Int), .string sm, .slice aa na ca, .slice pa np cp, .slice ra nr cr, .int .i64 sln, .int .i64 scl, .int .u8 2, .slice la nl lc, .int .i64 ln, .int .i64 cl])
    have c0 := HV.out.cell 0 _ rfl
    have c1 := HV.out.cell 1 _ rfl
    have c15 := HV.out.cell 15 _ rfl
    go_enter Tryd.func37, Tryd.ntmps37
    go_wp2
    go_ret
    exact ⟨rfl, jlow _ _⟩
  · replace k1 : k = 5 := k1
    replace p1 : pl = 3 := p1
    subst k1
    subst p1
    rw [itb_53]
    have HC := jhid9 (HCv.out v1)
    obtain ⟨x, Hx⟩ : ∃ x, Hid (xtext 16 T = x) := ⟨_, rfl⟩
    rw [Hx.out] at HC ⊢
    have hx : ∃ _ : Unit, x.size ≤ 65536000000000 := ⟨(), by rw [← Hx.out]; exact Nat.le_trans (MX.size v1) (by omega)⟩
    clear Hx
    clear HCv HCs HCl n1 v1 s1 l1
    show Calls _ _ #[.agg #[.int .u8 5, .string nm, .int .u8 (vk : Int), .int .i64 vn, .string vm, .slice va vl vc, .int .i64 vln, .int .i64 vcl, .int .u8 (sk : Int), .string sm, .slice aa na ca, .slice pa np cp, .slice ra nr cr, .int .i64 sln, .int .i64 scl, .int .u8 3, .slice la nl lc, .int .i64 ln, .int .i64 cl]] _ _
    have HV := jhid9 (Vn.new w 36 #[.int .u8 5, .string nm, .int .u8 (vk : Int), .int .i64 vn, .string vm, .slice va vl vc, .int .i64 vln, .int .i64 vcl, .int .u8 (sk : Int), .string sm, .slice aa na ca, .slice pa np cp, .slice ra nr cr, .int .i64 sln, .int .i64 scl, .int .u8 3, .slice la nl lc, .int .i64 ln, .int .i64 cl])
    have c0 := HV.out.cell 0 _ rfl
    have c1 := HV.out.cell 1 _ rfl
    have c2 := HV.out.cell 2 _ rfl
    have c3 := HV.out.cell 3 _ rfl
    have c4 := HV.out.cell 4 _ rfl
    have c5 := HV.out.cell 5 _ rfl
    have c6 := HV.out.cell 6 _ rfl
    have c7 := HV.out.cell 7 _ rfl
    have c15 := HV.out.cell 15 _ rfl
    have g0 : ¬ 9223372036854775807 < 13 + x.size := by obtain ⟨_, y⟩ := hx; omega
    have g1 : ¬ 9223372036854775807 < 13 + x.size + 3 := by obtain ⟨_, y⟩ := hx; omega
    clear hx
    go_enter Tryd.func37, Tryd.ntmps37
    go_wp2_with (go_at_call 38; refine (HC.out _ (jlow _ _)).mono ?_; rintro e w2 ⟨rfl, hb2⟩; have HB2 := jhid9 (jtwo (jlow _ _) hb2); clear hb2)
    go_ret
    exact ⟨rfl, HB2.out⟩
  · replace k1 : k = 5 := k1
    replace p1 : pl = 4 := p1
    subst k1
    subst p1
    rw [itb_54]
    have HC := jhid9 (HCl.out l1.2)
    obtain ⟨x, Hx⟩ : ∃ x, Hid (lrow F nl = x) := ⟨_, rfl⟩
    rw [Hx.out] at HC ⊢
    have hx : ∃ _ : Unit, x.size ≤ 65536000000000 := ⟨(), by rw [← Hx.out]; exact Nat.le_trans (lrow_size F nl l1.2) (by omega)⟩
    clear Hx
    clear HCv HCs HCl n1 v1 s1 l1
    show Calls _ _ #[.agg #[.int .u8 5, .string nm, .int .u8 (vk : Int), .int .i64 vn, .string vm, .slice va vl vc, .int .i64 vln, .int .i64 vcl, .int .u8 (sk : Int), .string sm, .slice aa na ca, .slice pa np cp, .slice ra nr cr, .int .i64 sln, .int .i64 scl, .int .u8 4, .slice la nl lc, .int .i64 ln, .int .i64 cl]] _ _
    have HV := jhid9 (Vn.new w 36 #[.int .u8 5, .string nm, .int .u8 (vk : Int), .int .i64 vn, .string vm, .slice va vl vc, .int .i64 vln, .int .i64 vcl, .int .u8 (sk : Int), .string sm, .slice aa na ca, .slice pa np cp, .slice ra nr cr, .int .i64 sln, .int .i64 scl, .int .u8 4, .slice la nl lc, .int .i64 ln, .int .i64 cl])
    have c0 := HV.out.cell 0 _ rfl
    have c1 := HV.out.cell 1 _ rfl
    have c16 := HV.out.cell 16 _ rfl
    have c15 := HV.out.cell 15 _ rfl
    have g0 : ¬ 9223372036854775807 < 13 + x.size := by obtain ⟨_, y⟩ := hx; omega
    have g1 : ¬ 9223372036854775807 < 13 + x.size + 5 := by obtain ⟨_, y⟩ := hx; omega
    clear hx
    go_enter Tryd.func37, Tryd.ntmps37
    go_wp2_with (go_at_call 68; refine (HC.out _ (jlow _ _)).mono ?_; rintro e w2 ⟨rfl, hb2⟩; have HB2 := jhid9 (jtwo (jlow _ _) hb2); clear hb2)
    go_ret
    exact ⟨rfl, HB2.out⟩
/-- The text of n items. -/
def dtb (F : Nat → It) (n : Nat) : ByteArray := ⟨(dby F n 0).toArray⟩
theorem dtb_succ (F : Nat → It) (n : Nat) : dtb F (n + 1) = dtb F n ++ itb (F n) := ba_ext (by
  rw [app_by, itb_by]
  show dby F (n + 1) 0 = dby F n 0 ++ _
  rw [dby_snoc, Nat.zero_add])
theorem itb_size {I : It} (h : MI I) (h64 : I.nl ≤ 64) : (itb I).size ≤ 70000000000000 := by
  obtain ⟨k, nm, T, S, pl, nl, F, ln, cl⟩ := I
  rcases h with ⟨k1, p1, n1, v1, s1, l1⟩ | ⟨k1, p1, n1, v1, s1, l1⟩ | ⟨k1, p1, n1, v1, s1, l1⟩ | ⟨k1, p1, n1, v1, s1, l1⟩ | ⟨k1, p1, n1, v1, s1, l1⟩ | ⟨k1, p1, n1, v1, s1, l1⟩ | ⟨k1, p1, n1, v1, s1, l1⟩ | ⟨k1, p1, n1, v1, s1, l1⟩ | ⟨k1, p1, n1, v1, s1, l1⟩
  · replace k1 : k = 1 := k1
    replace p1 : pl = 0 := p1
    subst k1
    subst p1
    rw [itb_10, ByteArray.size_append, ByteArray.size_append, ByteArray.size_append, ByteArray.size_append]
    have n2 : nm.size ≤ 16 := NameP.most n1
    have x2 : (xtext 16 T).size ≤ 172032 := MX.size v1
    show 6 + nm.size + 3 + (xtext 16 T).size + 3 ≤ _
    omega
  · replace k1 : k = 2 := k1
    replace p1 : pl = 0 := p1
    subst k1
    subst p1
    rw [itb_20, ByteArray.size_append, ByteArray.size_append, ByteArray.size_append, ByteArray.size_append]
    have n2 : nm.size ≤ 16 := NameP.most n1
    have x2 : (stb 16 S).size ≤ 65536000000000 := ms_size s1
    show 5 + nm.size + 3 + (stb 16 S).size + 3 ≤ _
    omega
  · replace k1 : k = 3 := k1
    replace p1 : pl = 0 := p1
    subst k1
    subst p1
    rw [itb_30, ByteArray.size_append, ByteArray.size_append]
    have n2 : nm.size ≤ 16 := NameP.most n1
    show 4 + nm.size + 3 ≤ _
    omega
  · replace k1 : k = 4 := k1
    replace p1 : pl = 0 := p1
    subst k1
    subst p1
    rw [itb_40, ByteArray.size_append, ByteArray.size_append]
    have x2 : (xtext 16 T).size ≤ 172032 := MX.size v1
    show 8 + (xtext 16 T).size + 3 ≤ _
    omega
  · replace k1 : k = 6 := k1
    replace p1 : pl = 0 := p1
    subst k1
    subst p1
    rw [itb_60, ByteArray.size_append, ByteArray.size_append]
    have x2 : (xtext 16 T).size ≤ 172032 := MX.size v1
    show 9 + (xtext 16 T).size + 3 ≤ _
    omega
  · replace k1 : k = 5 := k1
    replace p1 : pl = 1 := p1
    subst k1
    subst p1
    rw [itb_51]
    show 12 ≤ _
    omega
  · replace k1 : k = 5 := k1
    replace p1 : pl = 2 := p1
    subst k1
    subst p1
    rw [itb_52]
    show 15 ≤ _
    omega
  · replace k1 : k = 5 := k1
    replace p1 : pl = 3 := p1
    subst k1
    subst p1
    rw [itb_53, ByteArray.size_append, ByteArray.size_append]
    have x2 : (xtext 16 T).size ≤ 172032 := MX.size v1
    show 13 + (xtext 16 T).size + 3 ≤ _
    omega
  · replace k1 : k = 5 := k1
    replace p1 : pl = 4 := p1
    subst k1
    subst p1
    rw [itb_54, ByteArray.size_append, ByteArray.size_append]
    have x2 := lrow_size F nl l1.2
    replace h64 : nl ≤ 64 := h64
    show 13 + (lrow F nl).size + 5 ≤ _
    omega
theorem dtb_size (F : Nat → It) : ∀ n, (∀ i, i < n → MI (F i) ∧ (F i).nl ≤ 64) → (dtb F n).size ≤ 70000000000000 * n := by
  intro n
  induction n with
  | zero => intro _; exact Nat.le_refl _
  | succ n ih =>
    intro h
    have h1 := ih (fun i hi => h i (by omega))
    have h2 := itb_size (h n (by omega)).1 (h n (by omega)).2
    rw [dtb_succ, ByteArray.size_append]
    omega
theorem iwant_nl {I : It} (h : iwant I = true) : I.nl ≤ 64 := by
  unfold iwant at h
  split at h
  · simp at h; omega
  · split at h
    · simp at h; omega
    · split at h
      · simp at h; omega
      · split at h
        · simp at h; omega
        · split at h
          · split at h
            · simp at h; omega
            · split at h
              · simp at h; omega
              · split at h
                · simp at h; omega
                · simp at h
          · simp at h
set_option maxRecDepth 20000 in
set_option maxHeartbeats 8000000 in
theorem rtext10 (w : World) (a : Option Addr) (n c : Nat) (F : Nat → It) (hI : Its w a n F) (hn : n ≤ 549755813888) (ht : Tab9 w) :
    Calls Tryd.prog 19 #[.slice a n c] w fun e w' => e = .returned (.tuple #[.string (dS F n), .int .i64 (dE F n : Nat)]) ∧ Below w.heap.size w w' := by
  have HI := jhid9 hI
  have HTb := jhid9 ht
  have HMy : Hid (∀ w' : World, Below w.heap.size w w' → Calls Tryd.prog 17 #[.slice a n c] w' fun e w'' => e = .returned (.bool (mayD F n)) ∧ Below w'.heap.size w' w'') := fun w' hb => rmay10 w' a n c F (HI.out.later hb) hn
  clear hI ht
  obtain ⟨Rs, HSx⟩ : ∃ R, Hid (dS F n = R) := ⟨_, rfl⟩
  obtain ⟨E, HEx⟩ : ∃ E, Hid (dE F n = E) := ⟨_, rfl⟩
  rw [HSx.out, HEx.out]
  cases hm : mayD F n with
  | false =>
    obtain rfl : E = 2 := by rw [← HEx.out]; unfold dE; rw [hm]; rfl
    obtain rfl : Rs = ⟨#[]⟩ := by rw [← HSx.out]; unfold dS; rw [hm]; rfl
    rw [hm] at HMy
    clear HI HTb HSx HEx hm
    go_enter Tryd.func19, Tryd.ntmps19
    go_wp2_with (go_at_call 17; refine (HMy.out _ (Below.refl _ _)).mono ?_; rintro e w2 ⟨rfl, hb2⟩; have HB2 := jhid9 hb2; clear hb2)
    go_ret2
    exact ⟨rfl, HB2.out⟩
  | true =>
    have HSE : Hid ((if (dtb F n).size ≤ 65536 then dtb F n else ⟨#[]⟩) = Rs ∧ (if (dtb F n).size ≤ 65536 then 0 else 4 : Nat) = E) := by
      have e : (dtb F n).size = (dby F n 0).length := by show (dby F n 0).toArray.size = _; simp
      refine ⟨?_, ?_⟩
      · rw [← HSx.out, e]; unfold dS; rw [hm]; rfl
      · rw [← HEx.out, e]; unfold dE; rw [hm]; rfl
    have HMi : Hid (∀ i, i < n → MI (F i) ∧ (F i).nl ≤ 64) := fun i hi => ⟨(mayD_mi hm).2 i hi, iwant_nl (mayD_nl hm i hi)⟩
    have h64 := (mayD_mi hm).1
    rw [hm] at HMy
    clear HSx HEx hm
    go_enter Tryd.func19, Tryd.ntmps19
    go_wp2_with (go_at_call 17; refine (HMy.out _ (Below.refl _ _)).mono ?_; rintro e w2 ⟨rfl, hb2⟩; have HB2 := jhid9 hb2; clear hb2)
    go_loopw [4, 5] (fun vs vi wr => ∃ (i : Nat) (x : ByteArray), i ≤ n ∧ vi = .int .i64 (i : Int) ∧ vs = .string x ∧ Hid (dtb F i = x) ∧ Below w.heap.size w wr) (fun _ vi _ => n - (intOf vi).toNat)
    case atStart => exact ⟨0, ⟨#[]⟩, by omega, rfl, rfl, rfl, HB2.out⟩
    case round =>
      obtain ⟨i, x, hi, rfl, rfl, Hx, hb⟩ := hrel
      have HB := jhid9 hb
      have hxs : ∃ _ : Unit, x.size ≤ 4480000000000000 := ⟨(), by rw [← Hx.out]; have := dtb_size F i (fun j hj => HMi.out j (by omega)); omega⟩
      by_cases hlt : i < n
      · have p0 : (0 : Int) ≤ (i : Int) := by omega
        have p1 : (i : Int) < (n : Int) := by omega
        obtain ⟨b, o, k, pl, nl, vk, vl, vc, sk, na, ca, np, cp, nr, cr, lc, nm, vm, sm, vn, vln, vcl, sln, scl, ln, cl, va, aa, pa, ra, la, T, S, G, rfl, hF, hT, hS, hG, k8, p8, hnm, hnl, hcl⟩ := HI.out.at_ hlt
        obtain ⟨z, Hz⟩ : ∃ z, Hid (itb (F i) = z) := ⟨_, rfl⟩
        have hmi := HMi.out i hlt
        have hz : ∃ _ : Unit, z.size ≤ 70000000000000 := ⟨(), by rw [← Hz.out]; exact itb_size hmi.1 hmi.2⟩
        rw [hF] at hmi
        have HC : Hid (∀ w' : World, Below w.heap.size w w' → Calls Tryd.prog 37 #[.agg #[.int .u8 (k : Int), .string nm, .int .u8 (vk : Int), .int .i64 vn, .string vm, .slice va vl vc, .int .i64 vln, .int .i64 vcl, .int .u8 (sk : Int), .string sm, .slice aa na ca, .slice pa np cp, .slice ra nr cr, .int .i64 sln, .int .i64 scl, .int .u8 (pl : Int), .slice la nl lc, .int .i64 ln, .int .i64 cl]] w' fun e w'' => e = .returned (.string z) ∧ Below w'.heap.size w' w'') := fun w' hb => by
          rw [← Hz.out, hF]
          exact ritext w' k pl nl vk vl vc sk na ca np cp nr cr lc nm vm sm vn vln vcl sln scl ln cl va aa pa ra la T S G (hT.later hb) (hS.later hb) (fun d => (hG d).later hb) hmi.1 hmi.2 (tab_later HTb.out hb)
        have HRg := jhid9 (hcl _ hb)
        have HK : Hid (dtb F (i + 1) = x ++ z) := by show _ = _; rw [dtb_succ, Hx.out, Hz.out]
        have g1 : ¬ 9223372036854775807 < x.size + z.size := by obtain ⟨_, y0⟩ := hxs; obtain ⟨_, y1⟩ := hz; omega
        clear hcl hT hS hG hF hb hmi Hz hxs hz
        have M1 : True := trivial
        go_wp2_with (first
          | (clear M1; refine wpList_load_mid rfl 36 _ rfl b _ rfl [.int .u8 (k : Int), .string nm, .int .u8 (vk : Int), .int .i64 vn, .string vm, .slice va vl vc, .int .i64 vln, .int .i64 vcl, .int .u8 (sk : Int), .string sm, .slice aa na ca, .slice pa np cp, .slice ra nr cr, .int .i64 sln, .int .i64 scl, .int .u8 (pl : Int), .slice la nl lc, .int .i64 ln, .int .i64 cl] _ HRg.out Tryd.underlying36 rfl sizeI ?_)
          | (go_at_call 37; refine (HC.out _ HB.out).mono ?_; rintro e w3 ⟨rfl, hb3⟩; have HB3 := jhid9 (jtwo HB.out hb3); clear hb3))
        exact ⟨⟨i + 1, _, by omega, by go_num, rfl, HK, HB3.out⟩, by simp [intOf]; omega⟩
      · obtain rfl : i = n := by omega
        clear hb
        rw [Hx.out] at HSE
        by_cases hs : x.size ≤ 65536
        · have g1 : decide ((65536 : Int) < (x.size : Int)) = false := decide_eq_false (by omega)
          have g2 : decide (65536 < x.size) = false := decide_eq_false (by omega)
          obtain ⟨rfl, rfl⟩ : Rs = x ∧ E = 0 := by obtain ⟨h1, h2⟩ := HSE.out; rw [if_pos hs] at h1 h2; exact ⟨h1.symm, h2.symm⟩
          clear HSE
          go_wp2
          go_ret2
          exact ⟨rfl, HB.out⟩
        · have g1 : decide ((65536 : Int) < (x.size : Int)) = true := decide_eq_true (by omega)
          have g2 : decide (65536 < x.size) = true := decide_eq_true (by omega)
          obtain ⟨rfl, rfl⟩ : Rs = ⟨#[]⟩ ∧ E = 4 := by obtain ⟨h1, h2⟩ := HSE.out; rw [if_neg hs] at h1 h2; exact ⟨h1.symm, h2.symm⟩
          clear HSE
          go_wp2
          go_ret2
          exact ⟨rfl, HB.out⟩
end Go.Proofs.YtdimkfcanegahaaDoor
