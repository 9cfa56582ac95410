/-
  Stage 11: place.
-/
import Derived.Test.YtnjcpmkfghcogaaGreatDoorQbbks00
import Derived.Test.YtnjcpmkfghcogaaGreatDoorQbbks33
set_option maxRecDepth 100000
set_option maxHeartbeats 16000000
namespace Go.Proofs.YtnjcpmkfghcogaaGreatDoor
open Go.RowKit
theorem spl_low {B b : Nat} {w v : World} (h : Below B w v) (hb : b < B) : v.heap[b]? = w.heap[b]? := h.block b hb
theorem Gk.trans6 {K : Rk} {w u v : World} (h : Gk K w u) (hk : ∀ b, b < w.heap.size → v.heap[b]? = u.heap[b]?) {B : Nat} (hb : Below B u v) : Gk K w v := ⟨hb.os.trans h.os, hb.tape.trans h.tape, hb.output.trans h.output, Nat.le_trans h.size hb.size, fun b h1 h2 h3 => (hk b h1).trans (h.block b h1 h2 h3)⟩
theorem qfw : (Tryz.prog.info? 56).map (·.size) = some 1 := by kernel_rfl
theorem rplace (K : Rk) (hK : RkOk K) (w : World) (j : Nat) (hR : Rr K w j) : Calls Tryz.prog 120 #[.pointer (some ⟨K.r, 0, none⟩)] w (RY IVv K w (pplc tv0 (lst K j))) := by
 have hlow := hR.low
 have HR := qa0 hR
 have HKo := qa0 hK
 have hjn := hR.le
 have hr := hlow.1
 have hbt := hlow.2
 clear hlow hR hK
 have HB0 := qa0 (jlow w (.cells #[.int .u8 0, .string ⟨#[]⟩, .int .u8 0, .int .i64 0, .string ⟨#[]⟩, .slice none 0 0, .int .i64 0, .int .i64 0, .int .u8 0, .string ⟨#[]⟩, .slice none 0 0, .slice none 0 0, .slice none 0 0, .int .i64 0, .int .i64 0, .int .u8 0, .slice none 0 0, .int .i64 0, .int .i64 0] 58))
 have HS0 := qa0 (Vn.new w 58 #[.int .u8 0, .string ⟨#[]⟩, .int .u8 0, .int .i64 0, .string ⟨#[]⟩, .slice none 0 0, .int .i64 0, .int .i64 0, .int .u8 0, .string ⟨#[]⟩, .slice none 0 0, .slice none 0 0, .slice none 0 0, .int .i64 0, .int .i64 0, .int .u8 0, .slice none 0 0, .int .i64 0, .int .i64 0])
 have HR0 := qa0 (HR.out.later HB0.out)
 have hz0 : (w.alloc (.cells #[.int .u8 0, .string ⟨#[]⟩, .int .u8 0, .int .i64 0, .string ⟨#[]⟩, .slice none 0 0, .int .i64 0, .int .i64 0, .int .u8 0, .string ⟨#[]⟩, .slice none 0 0, .slice none 0 0, .slice none 0 0, .int .i64 0, .int .i64 0, .int .u8 0, .slice none 0 0, .int .i64 0, .int .i64 0] 58)).heap.size = w.heap.size + 1 := Array.size_push _
 have HGz : Hid (Gk K w (w.alloc (.cells #[.int .u8 0, .string ⟨#[]⟩, .int .u8 0, .int .i64 0, .string ⟨#[]⟩, .slice none 0 0, .int .i64 0, .int .i64 0, .int .u8 0, .string ⟨#[]⟩, .slice none 0 0, .slice none 0 0, .slice none 0 0, .int .i64 0, .int .i64 0, .int .u8 0, .slice none 0 0, .int .i64 0, .int .i64 0] 58))) := Gk.of HB0.out
 have MT : True := trivial
 have MI : True := trivial
 have ML : True := trivial
 have MS : True := trivial
 have MP : True := trivial
 have MV : True := trivial
 obtain ⟨⟨tk, tx, tn, tl, tc⟩, ht⟩ : ∃ t, K.g j = t := ⟨_, rfl⟩
 have HTa0 : Hid (∀ w', Rr K w' j → Calls Tryz.prog 84 #[.pointer (some ⟨K.r, 0, none⟩)] w' fun e w'' => e = .returned (.agg #[.int .u8 (tk : Int), .string tx, .int .i64 tn, .int .i64 tl, .int .i64 tc]) ∧ Rr K w'' (min (j + 1) K.n) ∧ Gk K w' w'') := fun w' hr => by
  have h := rtake K w' j hr
  unfold tvq at h
  rw [ht] at h
  exact h
 by_cases p1 : tx = ⟨#[114, 111, 119]⟩
 ·subst p1
  have hk1 : kplace ⟨tk, ⟨#[114, 111, 119]⟩, tn, tl, tc⟩ = 1 := rfl
  have hj := qao K HKo.out hjn (c := ⟨#[114, 111, 119]⟩) (fun e => by cases e) (by rw [ht])
  have HTa : Hid (∀ w', Rr K w' j → Calls Tryz.prog 84 #[.pointer (some ⟨K.r, 0, none⟩)] w' fun e w'' => e = .returned (.agg #[.int .u8 (tk : Int), .string ⟨#[114, 111, 119]⟩, .int .i64 tn, .int .i64 tl, .int .i64 tc]) ∧ Rr K w'' (j + 1) ∧ Gk K w' w'') := fun w' hr => (HTa0.out w' hr).mono (fun e w'' h => by rw [show min (j + 1) K.n = j + 1 by omega] at h; exact h)
  rw [qaa K hj, qb6, ht]
  rw [hk1, if_pos (by omega)]
  clear HTa0 ht
  go_enter Tryz.func120, Tryz.ntmps120
  go_wp2_with (first
   | (go_at_call 84; refine (HTa.out _ HR0.out).mono ?_; rintro e w1 ⟨rfl, hr1, hg1⟩; have HR1 := qa0 hr1; have HG1 := qa0 (HGz.out.trans hg1); have HS1 := qa0 (HS0.out.keptBy (hg1.block _ HS0.out.lt (by omega) (by omega))); have z1 := hg1.size; clear hr1 hg1)
   | (clear MT; refine qa1 rfl 104 _ _ rfl w1.heap.size _ #[.int .u8 (tk : Int), .string ⟨#[114, 111, 119]⟩, .int .i64 tn, .int .i64 tl, .int .i64 tc] rfl rfl (Vn.new w1 _ _) sizeTok rfl (all5 rfl rfl rfl rfl rfl) ?_; intro w2 HT2 hg2; have hb2 : Below w1.heap.size w1 w2 := (jlow _ _).trans (jbelow hg2.out (jlow _ _).size (fun g e => by cases e; exact Nat.le_refl _)); have HR2 := qa0 (HR1.out.later hb2); have HG2 := qa0 (HG1.out.trans (Gk.of hb2)); have HS2 := qa0 (HS1.out.later hb2); have z2 := HT2.out.lt; clear hg2 hb2)
   | (clear MI; refine qa1 rfl 58 _ _ rfl w2.heap.size _ #[.int .u8 5, .string ⟨#[]⟩, .int .u8 0, .int .i64 0, .string ⟨#[]⟩, .slice none 0 0, .int .i64 0, .int .i64 0, .int .u8 0, .string ⟨#[]⟩, .slice none 0 0, .slice none 0 0, .slice none 0 0, .int .i64 0, .int .i64 0, .int .u8 0, .slice none 0 0, .int .i64 0, .int .i64 0] rfl rfl (Vn.new w2 _ _) sizeI rfl (qbn rfl rfl rfl rfl rfl rfl rfl rfl rfl rfl rfl rfl rfl rfl rfl rfl rfl rfl rfl) ?_; intro w3 HI3 hg3; have hb3 : Below w2.heap.size w2 w3 := (jlow _ _).trans (jbelow hg3.out (jlow _ _).size (fun g e => by cases e; exact Nat.le_refl _)); have HR3 := qa0 (HR2.out.later hb3); have HG3 := qa0 (HG2.out.trans (Gk.of hb3)); have HS3 := qa0 (HS2.out.later hb3); have HT3 := qa0 (HT2.out.later hb3); have e0 := HT3.out.cell 0 _ rfl; have e1 := HT3.out.cell 1 _ rfl; have e2 := HT3.out.cell 2 _ rfl; have e3 := HT3.out.cell 3 _ rfl; have e4 := HT3.out.cell 4 _ rfl; have z3 := HI3.out.lt; clear hg3 hb3)
   | (clear MP; refine wpList_store_one rfl 56 _ _ rfl w2.heap.size 15 58 _ (.int .u8 1) rfl rfl qfw rfl rfl HI3.out (by show 15 < 19; omega) ?_; intro w4 HIq4 hg4; have HI4 : Hid (Vn w4 w2.heap.size 58 #[.int .u8 5, .string ⟨#[]⟩, .int .u8 0, .int .i64 0, .string ⟨#[]⟩, .slice none 0 0, .int .i64 0, .int .i64 0, .int .u8 0, .string ⟨#[]⟩, .slice none 0 0, .slice none 0 0, .slice none 0 0, .int .i64 0, .int .i64 0, .int .u8 1, .slice none 0 0, .int .i64 0, .int .i64 0]) := HIq4; have HS4 := qa0 (HS3.out.keptG hg4.out (by simp; omega)); clear HIq4)
   | (clear ML; refine qa2 (by rfl) 58 _ rfl w2.heap.size rfl 58 #[.int .u8 5, .string ⟨#[]⟩, .int .u8 0, .int .i64 0, .string ⟨#[]⟩, .slice none 0 0, .int .i64 0, .int .i64 0, .int .u8 0, .string ⟨#[]⟩, .slice none 0 0, .slice none 0 0, .slice none 0 0, .int .i64 0, .int .i64 0, .int .u8 1, .slice none 0 0, .int .i64 0, .int .i64 0] (0, 0) _ HI4.out Tryz.underlying58 rfl sizeI ?_)
   | (clear MS; refine qa1 rfl 58 _ _ rfl w.heap.size _ #[.int .u8 5, .string ⟨#[]⟩, .int .u8 0, .int .i64 0, .string ⟨#[]⟩, .slice none 0 0, .int .i64 0, .int .i64 0, .int .u8 0, .string ⟨#[]⟩, .slice none 0 0, .slice none 0 0, .slice none 0 0, .int .i64 0, .int .i64 0, .int .u8 1, .slice none 0 0, .int .i64 0, .int .i64 0] rfl rfl HS4.out sizeI rfl (qbn rfl rfl rfl rfl rfl rfl rfl rfl rfl rfl rfl rfl rfl rfl rfl rfl rfl rfl rfl) ?_; intro w8 HV8 hg8))
  refine bodyPost_ret (v := .agg #[.int .u8 5, .string ⟨#[]⟩, .int .u8 0, .int .i64 0, .string ⟨#[]⟩, .slice none 0 0, .int .i64 0, .int .i64 0, .int .u8 0, .string ⟨#[]⟩, .slice none 0 0, .slice none 0 0, .slice none 0 0, .int .i64 0, .int .i64 0, .int .u8 1, .slice none 0 0, .int .i64 0, .int .i64 0]) (results_cell_row Tryz.results120 _ _ w.heap.size 58 _ (0, 0) _ rfl HV8.out Tryz.underlying58 rfl sizeI) rfl ?_
  have z4 := hg4.out.size
  have zg := HG3.out.size
  refine qc0 ((HG3.out.up hg4.out (by omega)).up hg8.out (Nat.le_refl _)) (fun u hu => ⟨_, rfl, _, _, none, 0, rfl, qee u, qcq u, fun d i hi => absurd hi (Nat.not_lt_zero i), by show 5 < 256; omega, by show 0 ≤ _; omega, by show 1 < 256; omega, by show 0 ≤ _; omega⟩) (HR.out.step HR3.out (fun b hb => ?_))
  rw [hg8.out.block b (by omega) (by simp; omega), hg4.out.block b (by omega) (by simp; omega)]
 have q1 := qba p1
 by_cases p2 : tx = ⟨#[115, 112, 114, 101, 97, 100]⟩
 ·subst p2
  have hk2 : kplace ⟨tk, ⟨#[115, 112, 114, 101, 97, 100]⟩, tn, tl, tc⟩ = 2 := rfl
  have hj := qao K HKo.out hjn (c := ⟨#[115, 112, 114, 101, 97, 100]⟩) (fun e => by cases e) (by rw [ht])
  have HTa : Hid (∀ w', Rr K w' j → Calls Tryz.prog 84 #[.pointer (some ⟨K.r, 0, none⟩)] w' fun e w'' => e = .returned (.agg #[.int .u8 (tk : Int), .string ⟨#[115, 112, 114, 101, 97, 100]⟩, .int .i64 tn, .int .i64 tl, .int .i64 tc]) ∧ Rr K w'' (j + 1) ∧ Gk K w' w'') := fun w' hr => (HTa0.out w' hr).mono (fun e w'' h => by rw [show min (j + 1) K.n = j + 1 by omega] at h; exact h)
  rw [qaa K hj, qb6, ht]
  rw [hk2, if_pos (by omega)]
  clear HTa0 ht
  go_enter Tryz.func120, Tryz.ntmps120
  go_wp2_with (first
   | (go_at_call 84; refine (HTa.out _ HR0.out).mono ?_; rintro e w1 ⟨rfl, hr1, hg1⟩; have HR1 := qa0 hr1; have HG1 := qa0 (HGz.out.trans hg1); have HS1 := qa0 (HS0.out.keptBy (hg1.block _ HS0.out.lt (by omega) (by omega))); have z1 := hg1.size; clear hr1 hg1)
   | (clear MT; refine qa1 rfl 104 _ _ rfl w1.heap.size _ #[.int .u8 (tk : Int), .string ⟨#[115, 112, 114, 101, 97, 100]⟩, .int .i64 tn, .int .i64 tl, .int .i64 tc] rfl rfl (Vn.new w1 _ _) sizeTok rfl (all5 rfl rfl rfl rfl rfl) ?_; intro w2 HT2 hg2; have hb2 : Below w1.heap.size w1 w2 := (jlow _ _).trans (jbelow hg2.out (jlow _ _).size (fun g e => by cases e; exact Nat.le_refl _)); have HR2 := qa0 (HR1.out.later hb2); have HG2 := qa0 (HG1.out.trans (Gk.of hb2)); have HS2 := qa0 (HS1.out.later hb2); have z2 := HT2.out.lt; clear hg2 hb2)
   | (clear MI; refine qa1 rfl 58 _ _ rfl w2.heap.size _ #[.int .u8 5, .string ⟨#[]⟩, .int .u8 0, .int .i64 0, .string ⟨#[]⟩, .slice none 0 0, .int .i64 0, .int .i64 0, .int .u8 0, .string ⟨#[]⟩, .slice none 0 0, .slice none 0 0, .slice none 0 0, .int .i64 0, .int .i64 0, .int .u8 0, .slice none 0 0, .int .i64 0, .int .i64 0] rfl rfl (Vn.new w2 _ _) sizeI rfl (qbn rfl rfl rfl rfl rfl rfl rfl rfl rfl rfl rfl rfl rfl rfl rfl rfl rfl rfl rfl) ?_; intro w3 HI3 hg3; have hb3 : Below w2.heap.size w2 w3 := (jlow _ _).trans (jbelow hg3.out (jlow _ _).size (fun g e => by cases e; exact Nat.le_refl _)); have HR3 := qa0 (HR2.out.later hb3); have HG3 := qa0 (HG2.out.trans (Gk.of hb3)); have HS3 := qa0 (HS2.out.later hb3); have HT3 := qa0 (HT2.out.later hb3); have e0 := HT3.out.cell 0 _ rfl; have e1 := HT3.out.cell 1 _ rfl; have e2 := HT3.out.cell 2 _ rfl; have e3 := HT3.out.cell 3 _ rfl; have e4 := HT3.out.cell 4 _ rfl; have z3 := HI3.out.lt; clear hg3 hb3)
   | (clear MP; refine wpList_store_one rfl 56 _ _ rfl w2.heap.size 15 58 _ (.int .u8 2) rfl rfl qfw rfl rfl HI3.out (by show 15 < 19; omega) ?_; intro w4 HIq4 hg4; have HI4 : Hid (Vn w4 w2.heap.size 58 #[.int .u8 5, .string ⟨#[]⟩, .int .u8 0, .int .i64 0, .string ⟨#[]⟩, .slice none 0 0, .int .i64 0, .int .i64 0, .int .u8 0, .string ⟨#[]⟩, .slice none 0 0, .slice none 0 0, .slice none 0 0, .int .i64 0, .int .i64 0, .int .u8 2, .slice none 0 0, .int .i64 0, .int .i64 0]) := HIq4; have HS4 := qa0 (HS3.out.keptG hg4.out (by simp; omega)); clear HIq4)
   | (clear ML; refine qa2 (by rfl) 58 _ rfl w2.heap.size rfl 58 #[.int .u8 5, .string ⟨#[]⟩, .int .u8 0, .int .i64 0, .string ⟨#[]⟩, .slice none 0 0, .int .i64 0, .int .i64 0, .int .u8 0, .string ⟨#[]⟩, .slice none 0 0, .slice none 0 0, .slice none 0 0, .int .i64 0, .int .i64 0, .int .u8 2, .slice none 0 0, .int .i64 0, .int .i64 0] (0, 0) _ HI4.out Tryz.underlying58 rfl sizeI ?_)
   | (clear MS; refine qa1 rfl 58 _ _ rfl w.heap.size _ #[.int .u8 5, .string ⟨#[]⟩, .int .u8 0, .int .i64 0, .string ⟨#[]⟩, .slice none 0 0, .int .i64 0, .int .i64 0, .int .u8 0, .string ⟨#[]⟩, .slice none 0 0, .slice none 0 0, .slice none 0 0, .int .i64 0, .int .i64 0, .int .u8 2, .slice none 0 0, .int .i64 0, .int .i64 0] rfl rfl HS4.out sizeI rfl (qbn rfl rfl rfl rfl rfl rfl rfl rfl rfl rfl rfl rfl rfl rfl rfl rfl rfl rfl rfl) ?_; intro w8 HV8 hg8))
  refine bodyPost_ret (v := .agg #[.int .u8 5, .string ⟨#[]⟩, .int .u8 0, .int .i64 0, .string ⟨#[]⟩, .slice none 0 0, .int .i64 0, .int .i64 0, .int .u8 0, .string ⟨#[]⟩, .slice none 0 0, .slice none 0 0, .slice none 0 0, .int .i64 0, .int .i64 0, .int .u8 2, .slice none 0 0, .int .i64 0, .int .i64 0]) (results_cell_row Tryz.results120 _ _ w.heap.size 58 _ (0, 0) _ rfl HV8.out Tryz.underlying58 rfl sizeI) rfl ?_
  have z4 := hg4.out.size
  have zg := HG3.out.size
  refine qc0 ((HG3.out.up hg4.out (by omega)).up hg8.out (Nat.le_refl _)) (fun u hu => ⟨_, rfl, _, _, none, 0, rfl, qee u, qcq u, fun d i hi => absurd hi (Nat.not_lt_zero i), by show 5 < 256; omega, by show 0 ≤ _; omega, by show 2 < 256; omega, by show 0 ≤ _; omega⟩) (HR.out.step HR3.out (fun b hb => ?_))
  rw [hg8.out.block b (by omega) (by simp; omega), hg4.out.block b (by omega) (by simp; omega)]
 have q2 := qba p2
 by_cases p3 : tx = ⟨#[115, 112, 105, 114, 97, 108]⟩
 ·subst p3
  have hk3 : kplace ⟨tk, ⟨#[115, 112, 105, 114, 97, 108]⟩, tn, tl, tc⟩ = 3 := rfl
  have hj := qao K HKo.out hjn (c := ⟨#[115, 112, 105, 114, 97, 108]⟩) (fun e => by cases e) (by rw [ht])
  have HTa : Hid (∀ w', Rr K w' j → Calls Tryz.prog 84 #[.pointer (some ⟨K.r, 0, none⟩)] w' fun e w'' => e = .returned (.agg #[.int .u8 (tk : Int), .string ⟨#[115, 112, 105, 114, 97, 108]⟩, .int .i64 tn, .int .i64 tl, .int .i64 tc]) ∧ Rr K w'' (j + 1) ∧ Gk K w' w'') := fun w' hr => (HTa0.out w' hr).mono (fun e w'' h => by rw [show min (j + 1) K.n = j + 1 by omega] at h; exact h)
  rw [qaa K hj, qb6, ht]
  rw [hk3, if_neg (by omega), if_pos rfl]
  clear HTa0 ht
  cases hq : pX (lst K (j + 1)) with
  | error s =>
   have HP : Hid (∀ w', Rr K w' (j + 1) → Calls Tryz.prog 39 #[.pointer (some ⟨K.r, 0, none⟩)] w' fun e w'' => e = mis (K.g (K.n - s.length)) ∧ Gk K w' w'') := fun w' hr => (qbp K HKo.out w' (j + 1) hr).mono (fun e w'' h => by rw [hq] at h; exact qat h)
   rw [qa7]
   unfold mis at HP
   clear hq
   go_enter Tryz.func120, Tryz.ntmps120
   go_wp2_with (first
    | (go_at_call 84; refine (HTa.out _ HR0.out).mono ?_; rintro e w1 ⟨rfl, hr1, hg1⟩; have HR1 := qa0 hr1; have HG1 := qa0 (HGz.out.trans hg1); have HS1 := qa0 (HS0.out.keptBy (hg1.block _ HS0.out.lt (by omega) (by omega))); have z1 := hg1.size; clear hr1 hg1)
    | (clear MT; refine qa1 rfl 104 _ _ rfl w1.heap.size _ #[.int .u8 (tk : Int), .string ⟨#[115, 112, 105, 114, 97, 108]⟩, .int .i64 tn, .int .i64 tl, .int .i64 tc] rfl rfl (Vn.new w1 _ _) sizeTok rfl (all5 rfl rfl rfl rfl rfl) ?_; intro w2 HT2 hg2; have hb2 : Below w1.heap.size w1 w2 := (jlow _ _).trans (jbelow hg2.out (jlow _ _).size (fun g e => by cases e; exact Nat.le_refl _)); have HR2 := qa0 (HR1.out.later hb2); have HG2 := qa0 (HG1.out.trans (Gk.of hb2)); have HS2 := qa0 (HS1.out.later hb2); have z2 := HT2.out.lt; clear hg2 hb2)
    | (clear MI; refine qa1 rfl 58 _ _ rfl w2.heap.size _ #[.int .u8 5, .string ⟨#[]⟩, .int .u8 0, .int .i64 0, .string ⟨#[]⟩, .slice none 0 0, .int .i64 0, .int .i64 0, .int .u8 0, .string ⟨#[]⟩, .slice none 0 0, .slice none 0 0, .slice none 0 0, .int .i64 0, .int .i64 0, .int .u8 0, .slice none 0 0, .int .i64 0, .int .i64 0] rfl rfl (Vn.new w2 _ _) sizeI rfl (qbn rfl rfl rfl rfl rfl rfl rfl rfl rfl rfl rfl rfl rfl rfl rfl rfl rfl rfl rfl) ?_; intro w3 HI3 hg3; have hb3 : Below w2.heap.size w2 w3 := (jlow _ _).trans (jbelow hg3.out (jlow _ _).size (fun g e => by cases e; exact Nat.le_refl _)); have HR3 := qa0 (HR2.out.later hb3); have HG3 := qa0 (HG2.out.trans (Gk.of hb3)); have HS3 := qa0 (HS2.out.later hb3); have HT3 := qa0 (HT2.out.later hb3); have e0 := HT3.out.cell 0 _ rfl; have e1 := HT3.out.cell 1 _ rfl; have e2 := HT3.out.cell 2 _ rfl; have e3 := HT3.out.cell 3 _ rfl; have e4 := HT3.out.cell 4 _ rfl; have z3 := HI3.out.lt; clear hg3 hb3)
    | (go_at_call 39; refine (HP.out _ HR3.out).mono ?_; rintro e w4 ⟨rfl, hg4⟩; have HG4 := qa0 (HG3.out.trans hg4)))
   exact ⟨rfl, HG4.out, rfl⟩
  | ok p =>
   obtain ⟨y, s⟩ := p
   have HP : Hid (∀ w', Rr K w' (j + 1) → Calls Tryz.prog 39 #[.pointer (some ⟨K.r, 0, none⟩)] w' fun e w'' => (∃ v, e = .returned v ∧ Fr w'.heap.size w'' (fun u => XV u v y) ∧ Rr K w'' (K.n - s.length)) ∧ Gk K w' w'') := fun w' hr => (qbp K HKo.out w' (j + 1) hr).mono (fun e w'' h => by rw [hq] at h; exact qbe h)
   rw [qa4]
   clear hq
   go_enter Tryz.func120, Tryz.ntmps120
   go_wp2_with (first
    | (go_at_call 84; refine (HTa.out _ HR0.out).mono ?_; rintro e w1 ⟨rfl, hr1, hg1⟩; have HR1 := qa0 hr1; have HG1 := qa0 (HGz.out.trans hg1); have HS1 := qa0 (HS0.out.keptBy (hg1.block _ HS0.out.lt (by omega) (by omega))); have z1 := hg1.size; clear hr1 hg1)
    | (clear MT; refine qa1 rfl 104 _ _ rfl w1.heap.size _ #[.int .u8 (tk : Int), .string ⟨#[115, 112, 105, 114, 97, 108]⟩, .int .i64 tn, .int .i64 tl, .int .i64 tc] rfl rfl (Vn.new w1 _ _) sizeTok rfl (all5 rfl rfl rfl rfl rfl) ?_; intro w2 HT2 hg2; have hb2 : Below w1.heap.size w1 w2 := (jlow _ _).trans (jbelow hg2.out (jlow _ _).size (fun g e => by cases e; exact Nat.le_refl _)); have HR2 := qa0 (HR1.out.later hb2); have HG2 := qa0 (HG1.out.trans (Gk.of hb2)); have HS2 := qa0 (HS1.out.later hb2); have z2 := HT2.out.lt; clear hg2 hb2)
    | (clear MI; refine qa1 rfl 58 _ _ rfl w2.heap.size _ #[.int .u8 5, .string ⟨#[]⟩, .int .u8 0, .int .i64 0, .string ⟨#[]⟩, .slice none 0 0, .int .i64 0, .int .i64 0, .int .u8 0, .string ⟨#[]⟩, .slice none 0 0, .slice none 0 0, .slice none 0 0, .int .i64 0, .int .i64 0, .int .u8 0, .slice none 0 0, .int .i64 0, .int .i64 0] rfl rfl (Vn.new w2 _ _) sizeI rfl (qbn rfl rfl rfl rfl rfl rfl rfl rfl rfl rfl rfl rfl rfl rfl rfl rfl rfl rfl rfl) ?_; intro w3 HI3 hg3; have hb3 : Below w2.heap.size w2 w3 := (jlow _ _).trans (jbelow hg3.out (jlow _ _).size (fun g e => by cases e; exact Nat.le_refl _)); have HR3 := qa0 (HR2.out.later hb3); have HG3 := qa0 (HG2.out.trans (Gk.of hb3)); have HS3 := qa0 (HS2.out.later hb3); have HT3 := qa0 (HT2.out.later hb3); have e0 := HT3.out.cell 0 _ rfl; have e1 := HT3.out.cell 1 _ rfl; have e2 := HT3.out.cell 2 _ rfl; have e3 := HT3.out.cell 3 _ rfl; have e4 := HT3.out.cell 4 _ rfl; have z3 := HI3.out.lt; clear hg3 hb3)
    | (go_at_call 39; refine (HP.out _ HR3.out).mono ?_; rintro e w4 ⟨⟨v, rfl, hfr, hr4⟩, hg4⟩; obtain ⟨⟨ra, rcap, rfl, _⟩, _⟩ := hfr.now; have HF4 := qa0 hfr; have HR4 := qa0 hr4; have HG4 := qa0 (HG3.out.trans hg4); have HS4 := qa0 (HS3.out.keptBy (hg4.block _ HS3.out.lt (by omega) (by omega))); have HI4 := qa0 (HI3.out.keptBy (hg4.block _ HI3.out.lt (by omega) (by omega))); have z4 := hg4.size; clear hfr hr4 hg4)
    | (clear MP; refine wpList_store_one rfl 56 _ _ rfl w2.heap.size 15 58 _ (.int .u8 3) rfl rfl qfw rfl rfl HI4.out (by show 15 < 19; omega) ?_; intro w5 HIq5 hg5; have HI5 : Hid (Vn w5 w2.heap.size 58 #[.int .u8 5, .string ⟨#[]⟩, .int .u8 0, .int .i64 0, .string ⟨#[]⟩, .slice none 0 0, .int .i64 0, .int .i64 0, .int .u8 0, .string ⟨#[]⟩, .slice none 0 0, .slice none 0 0, .slice none 0 0, .int .i64 0, .int .i64 0, .int .u8 3, .slice none 0 0, .int .i64 0, .int .i64 0]) := HIq5; have HS5 := qa0 (HS4.out.keptG hg5.out (by simp; omega)); clear HIq5)
    | (clear MV; refine qdy rfl 37 _ _ rfl w2.heap.size 2 58 _ #[.int .u8 ((y []).k : Int), .int .i64 (y []).n, .string (y []).nm, .slice ra (y []).len rcap, .int .i64 (y []).ln, .int .i64 (y []).cl] rfl rfl sizeX (all6 rfl rfl rfl rfl rfl rfl) HI5.out (by show 2 + 6 ≤ 19; omega) ?_; intro w6 HIq6 ha6 hb6; have HI6 : Hid (Vn w6 w2.heap.size 58 #[.int .u8 5, .string ⟨#[]⟩, .int .u8 ((y []).k : Int), .int .i64 (y []).n, .string (y []).nm, .slice ra (y []).len rcap, .int .i64 (y []).ln, .int .i64 (y []).cl, .int .u8 0, .string ⟨#[]⟩, .slice none 0 0, .slice none 0 0, .slice none 0 0, .int .i64 0, .int .i64 0, .int .u8 3, .slice none 0 0, .int .i64 0, .int .i64 0]) := HIq6; have HS6 := qa0 (HS5.out.keptBy (spl_low (hb6.out _ (Nat.le_refl _)) (by omega))); clear HIq6)
    | (clear ML; refine qa2 (by rfl) 58 _ rfl w2.heap.size rfl 58 #[.int .u8 5, .string ⟨#[]⟩, .int .u8 ((y []).k : Int), .int .i64 (y []).n, .string (y []).nm, .slice ra (y []).len rcap, .int .i64 (y []).ln, .int .i64 (y []).cl, .int .u8 0, .string ⟨#[]⟩, .slice none 0 0, .slice none 0 0, .slice none 0 0, .int .i64 0, .int .i64 0, .int .u8 3, .slice none 0 0, .int .i64 0, .int .i64 0] (0, 0) _ HI6.out Tryz.underlying58 rfl sizeI ?_)
    | (clear MS; refine qa1 rfl 58 _ _ rfl w.heap.size _ #[.int .u8 5, .string ⟨#[]⟩, .int .u8 ((y []).k : Int), .int .i64 (y []).n, .string (y []).nm, .slice ra (y []).len rcap, .int .i64 (y []).ln, .int .i64 (y []).cl, .int .u8 0, .string ⟨#[]⟩, .slice none 0 0, .slice none 0 0, .slice none 0 0, .int .i64 0, .int .i64 0, .int .u8 3, .slice none 0 0, .int .i64 0, .int .i64 0] rfl rfl HS6.out sizeI rfl (qbn rfl rfl rfl rfl rfl rfl rfl rfl rfl rfl rfl rfl rfl rfl rfl rfl rfl rfl rfl) ?_; intro w8 HV8 hg8))
   refine bodyPost_ret (v := .agg #[.int .u8 5, .string ⟨#[]⟩, .int .u8 ((y []).k : Int), .int .i64 (y []).n, .string (y []).nm, .slice ra (y []).len rcap, .int .i64 (y []).ln, .int .i64 (y []).cl, .int .u8 0, .string ⟨#[]⟩, .slice none 0 0, .slice none 0 0, .slice none 0 0, .int .i64 0, .int .i64 0, .int .u8 3, .slice none 0 0, .int .i64 0, .int .i64 0]) (results_cell_row Tryz.results120 _ _ w.heap.size 58 _ (0, 0) _ rfl HV8.out Tryz.underlying58 rfl sizeI) rfl ?_
   have z5 := hg5.out.size
   have z6 := (hb6.out _ (Nat.le_refl _)).size
   have zg := HG4.out.size
   have hkeep : ∀ b, b < w5.heap.size → b ≠ w2.heap.size → w6.heap[b]? = w5.heap[b]? := fun b h1 h2 => by rcases Nat.lt_or_ge b w2.heap.size with q | q; exact (hb6.out _ (Nat.le_refl _)).block b q; exact (ha6.out (w2.heap.size + 1) (by omega)).same b (by omega) h1
   refine qbo (((HG4.out.up hg5.out (by omega)).trans6 (fun b h1 => hkeep b (by omega) (by omega)) (hb6.out _ (Nat.le_refl _))).up hg8.out (Nat.le_refl _)) (fun u hu => ⟨_, rfl, ?_⟩) (HR.out.step HR4.out (fun b hb => ?_))
   ·have hu2 : Ag w3.heap.size w4 u := ⟨by have := hu.size; have := hg8.out.size; omega, fun b h1 h2 => by rw [hu.same b (by omega) (by have := hg8.out.size; omega), hg8.out.block b (by omega) (by simp; omega), hkeep b (by omega) (by omega), hg5.out.block b h2 (by simp; omega)]⟩
    exact ⟨_, _, none, 0, rfl, (HF4.out u hu2).xc, qcq u, fun d i hi => absurd hi (Nat.not_lt_zero i), by show 5 < 256; omega, by show 0 ≤ _; omega, by show 3 < 256; omega, by show 0 ≤ _; omega⟩
   ·rw [hg8.out.block b (by omega) (by simp; omega), hkeep b (by omega) (by omega), hg5.out.block b (by omega) (by simp; omega)]
 have q3 := qba p3
 by_cases p4 : tx = ⟨#[108, 105, 115, 116]⟩
 ·subst p4
  have hk4 : kplace ⟨tk, ⟨#[108, 105, 115, 116]⟩, tn, tl, tc⟩ = 4 := rfl
  have MG4 : True := trivial
  have MG9 : True := trivial
  have hj := qao K HKo.out hjn (c := ⟨#[108, 105, 115, 116]⟩) (fun e => by cases e) (by rw [ht])
  have HTa : Hid (∀ w', Rr K w' j → Calls Tryz.prog 84 #[.pointer (some ⟨K.r, 0, none⟩)] w' fun e w'' => e = .returned (.agg #[.int .u8 (tk : Int), .string ⟨#[108, 105, 115, 116]⟩, .int .i64 tn, .int .i64 tl, .int .i64 tc]) ∧ Rr K w'' (j + 1) ∧ Gk K w' w'') := fun w' hr => (HTa0.out w' hr).mono (fun e w'' h => by rw [show min (j + 1) K.n = j + 1 by omega] at h; exact h)
  rw [qaa K hj, qb6, ht]
  rw [hk4, if_neg (by omega), if_neg (by omega), if_pos rfl]
  clear HTa0 ht
  by_cases ho : (K.g (j + 1)).tx = ⟨#[91]⟩
  case neg =>
   rw [qbh K ho, qa7]
   have HO : Hid (∀ w', Rr K w' (j + 1) → Calls Tryz.prog 121 #[.pointer (some ⟨K.r, 0, none⟩), .string ⟨#[91]⟩] w' fun e w'' => e = mis (K.g (j + 1)) ∧ Gk K w' w'') := fun w' hr => qbg hr ho
   unfold mis at HO
   clear ho
   go_enter Tryz.func120, Tryz.ntmps120
   go_wp2_with (first
    | (go_at_call 84; refine (HTa.out _ HR0.out).mono ?_; rintro e w1 ⟨rfl, hr1, hg1⟩; have HR1 := qa0 hr1; have HG1 := qa0 (HGz.out.trans hg1); have HS1 := qa0 (HS0.out.keptBy (hg1.block _ HS0.out.lt (by omega) (by omega))); have z1 := hg1.size; clear hr1 hg1)
    | (clear MT; refine qa1 rfl 104 _ _ rfl w1.heap.size _ #[.int .u8 (tk : Int), .string ⟨#[108, 105, 115, 116]⟩, .int .i64 tn, .int .i64 tl, .int .i64 tc] rfl rfl (Vn.new w1 _ _) sizeTok rfl (all5 rfl rfl rfl rfl rfl) ?_; intro w2 HT2 hg2; have hb2 : Below w1.heap.size w1 w2 := (jlow _ _).trans (jbelow hg2.out (jlow _ _).size (fun g e => by cases e; exact Nat.le_refl _)); have HR2 := qa0 (HR1.out.later hb2); have HG2 := qa0 (HG1.out.trans (Gk.of hb2)); have HS2 := qa0 (HS1.out.later hb2); have z2 := HT2.out.lt; clear hg2 hb2)
    | (clear MI; refine qa1 rfl 58 _ _ rfl w2.heap.size _ #[.int .u8 5, .string ⟨#[]⟩, .int .u8 0, .int .i64 0, .string ⟨#[]⟩, .slice none 0 0, .int .i64 0, .int .i64 0, .int .u8 0, .string ⟨#[]⟩, .slice none 0 0, .slice none 0 0, .slice none 0 0, .int .i64 0, .int .i64 0, .int .u8 0, .slice none 0 0, .int .i64 0, .int .i64 0] rfl rfl (Vn.new w2 _ _) sizeI rfl (qbn rfl rfl rfl rfl rfl rfl rfl rfl rfl rfl rfl rfl rfl rfl rfl rfl rfl rfl rfl) ?_; intro w3 HI3 hg3; have hb3 : Below w2.heap.size w2 w3 := (jlow _ _).trans (jbelow hg3.out (jlow _ _).size (fun g e => by cases e; exact Nat.le_refl _)); have HR3 := qa0 (HR2.out.later hb3); have HG3 := qa0 (HG2.out.trans (Gk.of hb3)); have HS3 := qa0 (HS2.out.later hb3); have HT3 := qa0 (HT2.out.later hb3); have e0 := HT3.out.cell 0 _ rfl; have e1 := HT3.out.cell 1 _ rfl; have e2 := HT3.out.cell 2 _ rfl; have e3 := HT3.out.cell 3 _ rfl; have e4 := HT3.out.cell 4 _ rfl; have z3 := HI3.out.lt; clear hg3 hb3)
    | (go_at_call 121; clear MG4; refine (HO.out _ HR3.out).mono ?_; rintro e w4 ⟨rfl, hg4⟩; have HG4 := qa0 (HG3.out.trans hg4)))
   exact ⟨rfl, qb4 (by omega) HG4.out⟩
  have hj1 := qao K HKo.out (show j + 1 ≤ K.n by omega) (fun e => by cases e) ho
  rw [qb1 K hj1 ho, qa4]
  have HO : Hid (∀ w', Rr K w' (j + 1) → Calls Tryz.prog 121 #[.pointer (some ⟨K.r, 0, none⟩), .string ⟨#[91]⟩] w' fun e w'' => e = .returned (.tuple #[]) ∧ Rr K w'' (j + 1 + 1) ∧ Gk K w' w'') := fun w' hr => (qb0 hr ho).mono (fun e w'' h => by rw [show min (j + 1 + 1) K.n = j + 1 + 1 by omega] at h; exact h)
  clear ho
  cases hq : prow ((lst K (j + 1 + 1)).length + 1) (lst K (j + 1 + 1)) with
  | error s =>
   have HP : Hid (∀ w', Rr K w' (j + 1 + 1) → Calls Tryz.prog 133 #[.pointer (some ⟨K.r, 0, none⟩)] w' fun e w'' => e = mis (K.g (K.n - s.length)) ∧ Gk K w' w'') := fun w' hr => (qew K HKo.out w' (j + 1 + 1) hr).mono (fun e w'' h => by rw [hq] at h; exact qat h)
   rw [qa7]
   unfold mis at HP
   clear hq
   go_enter Tryz.func120, Tryz.ntmps120
   go_wp2_with (first
    | (go_at_call 84; refine (HTa.out _ HR0.out).mono ?_; rintro e w1 ⟨rfl, hr1, hg1⟩; have HR1 := qa0 hr1; have HG1 := qa0 (HGz.out.trans hg1); have HS1 := qa0 (HS0.out.keptBy (hg1.block _ HS0.out.lt (by omega) (by omega))); have z1 := hg1.size; clear hr1 hg1)
    | (clear MT; refine qa1 rfl 104 _ _ rfl w1.heap.size _ #[.int .u8 (tk : Int), .string ⟨#[108, 105, 115, 116]⟩, .int .i64 tn, .int .i64 tl, .int .i64 tc] rfl rfl (Vn.new w1 _ _) sizeTok rfl (all5 rfl rfl rfl rfl rfl) ?_; intro w2 HT2 hg2; have hb2 : Below w1.heap.size w1 w2 := (jlow _ _).trans (jbelow hg2.out (jlow _ _).size (fun g e => by cases e; exact Nat.le_refl _)); have HR2 := qa0 (HR1.out.later hb2); have HG2 := qa0 (HG1.out.trans (Gk.of hb2)); have HS2 := qa0 (HS1.out.later hb2); have z2 := HT2.out.lt; clear hg2 hb2)
    | (clear MI; refine qa1 rfl 58 _ _ rfl w2.heap.size _ #[.int .u8 5, .string ⟨#[]⟩, .int .u8 0, .int .i64 0, .string ⟨#[]⟩, .slice none 0 0, .int .i64 0, .int .i64 0, .int .u8 0, .string ⟨#[]⟩, .slice none 0 0, .slice none 0 0, .slice none 0 0, .int .i64 0, .int .i64 0, .int .u8 0, .slice none 0 0, .int .i64 0, .int .i64 0] rfl rfl (Vn.new w2 _ _) sizeI rfl (qbn rfl rfl rfl rfl rfl rfl rfl rfl rfl rfl rfl rfl rfl rfl rfl rfl rfl rfl rfl) ?_; intro w3 HI3 hg3; have hb3 : Below w2.heap.size w2 w3 := (jlow _ _).trans (jbelow hg3.out (jlow _ _).size (fun g e => by cases e; exact Nat.le_refl _)); have HR3 := qa0 (HR2.out.later hb3); have HG3 := qa0 (HG2.out.trans (Gk.of hb3)); have HS3 := qa0 (HS2.out.later hb3); have HT3 := qa0 (HT2.out.later hb3); have e0 := HT3.out.cell 0 _ rfl; have e1 := HT3.out.cell 1 _ rfl; have e2 := HT3.out.cell 2 _ rfl; have e3 := HT3.out.cell 3 _ rfl; have e4 := HT3.out.cell 4 _ rfl; have z3 := HI3.out.lt; clear hg3 hb3)
    | (go_at_call 121; clear MG4; refine (HO.out _ HR3.out).mono ?_; rintro e w4 ⟨rfl, hr4, hg4⟩; have HR4 := qa0 hr4; have HG4 := qa0 (HG3.out.trans hg4); have HS4 := qa0 (HS3.out.keptBy (hg4.block _ HS3.out.lt (by omega) (by omega))); have HI4 := qa0 (HI3.out.keptBy (hg4.block _ HI3.out.lt (by omega) (by omega))); have z4 := hg4.size; clear hr4 hg4)
    | (go_at_call 133; refine (HP.out _ HR4.out).mono ?_; rintro e w5 ⟨rfl, hg5⟩; have HG5 := qa0 (HG4.out.trans hg5)))
   exact ⟨rfl, HG5.out, rfl⟩
  | ok p =>
   obtain ⟨l, s⟩ := p
   have HP : Hid (∀ w', Rr K w' (j + 1 + 1) → Calls Tryz.prog 133 #[.pointer (some ⟨K.r, 0, none⟩)] w' fun e w'' => (∃ v, e = .returned v ∧ Fr w'.heap.size w'' (fun u => XLv u v l) ∧ Rr K w'' (K.n - s.length)) ∧ Gk K w' w'') := fun w' hr => (qew K HKo.out w' (j + 1 + 1) hr).mono (fun e w'' h => by rw [hq] at h; exact qbe h)
   rw [qa4]
   have hsuf := qdl ((lst K (j + 1 + 1)).length + 1) (lst K (j + 1 + 1))
   rw [hq] at hsuf
   have hs := qaw K _ (j + 1 + 1) rfl hsuf
   obtain ⟨j5, Hj5⟩ : ∃ j5, Hid (K.n - s.length = j5) := ⟨_, rfl⟩
   rw [Hj5.out] at HP hs
   have hj5 : j5 ≤ K.n := by have := Hj5.out; omega
   rw [hs]
   clear hq hsuf hs Hj5
   by_cases hc : (K.g j5).tx = ⟨#[93]⟩
   ·have hj6 := qao K HKo.out hj5 (fun e => by cases e) hc
    rw [qb1 K hj6 hc, qa4]
    have HC : Hid (∀ w', Rr K w' j5 → Calls Tryz.prog 121 #[.pointer (some ⟨K.r, 0, none⟩), .string ⟨#[93]⟩] w' fun e w'' => e = .returned (.tuple #[]) ∧ Rr K w'' (j5 + 1) ∧ Gk K w' w'') := fun w' hr => (qb0 hr hc).mono (fun e w'' h => by rw [show min (j5 + 1) K.n = j5 + 1 by omega] at h; exact h)
    clear hc
    go_enter Tryz.func120, Tryz.ntmps120
    go_wp2_with (first
     | (go_at_call 84; refine (HTa.out _ HR0.out).mono ?_; rintro e w1 ⟨rfl, hr1, hg1⟩; have HR1 := qa0 hr1; have HG1 := qa0 (HGz.out.trans hg1); have HS1 := qa0 (HS0.out.keptBy (hg1.block _ HS0.out.lt (by omega) (by omega))); have z1 := hg1.size; clear hr1 hg1)
     | (clear MT; refine qa1 rfl 104 _ _ rfl w1.heap.size _ #[.int .u8 (tk : Int), .string ⟨#[108, 105, 115, 116]⟩, .int .i64 tn, .int .i64 tl, .int .i64 tc] rfl rfl (Vn.new w1 _ _) sizeTok rfl (all5 rfl rfl rfl rfl rfl) ?_; intro w2 HT2 hg2; have hb2 : Below w1.heap.size w1 w2 := (jlow _ _).trans (jbelow hg2.out (jlow _ _).size (fun g e => by cases e; exact Nat.le_refl _)); have HR2 := qa0 (HR1.out.later hb2); have HG2 := qa0 (HG1.out.trans (Gk.of hb2)); have HS2 := qa0 (HS1.out.later hb2); have z2 := HT2.out.lt; clear hg2 hb2)
     | (clear MI; refine qa1 rfl 58 _ _ rfl w2.heap.size _ #[.int .u8 5, .string ⟨#[]⟩, .int .u8 0, .int .i64 0, .string ⟨#[]⟩, .slice none 0 0, .int .i64 0, .int .i64 0, .int .u8 0, .string ⟨#[]⟩, .slice none 0 0, .slice none 0 0, .slice none 0 0, .int .i64 0, .int .i64 0, .int .u8 0, .slice none 0 0, .int .i64 0, .int .i64 0] rfl rfl (Vn.new w2 _ _) sizeI rfl (qbn rfl rfl rfl rfl rfl rfl rfl rfl rfl rfl rfl rfl rfl rfl rfl rfl rfl rfl rfl) ?_; intro w3 HI3 hg3; have hb3 : Below w2.heap.size w2 w3 := (jlow _ _).trans (jbelow hg3.out (jlow _ _).size (fun g e => by cases e; exact Nat.le_refl _)); have HR3 := qa0 (HR2.out.later hb3); have HG3 := qa0 (HG2.out.trans (Gk.of hb3)); have HS3 := qa0 (HS2.out.later hb3); have HT3 := qa0 (HT2.out.later hb3); have e0 := HT3.out.cell 0 _ rfl; have e1 := HT3.out.cell 1 _ rfl; have e2 := HT3.out.cell 2 _ rfl; have e3 := HT3.out.cell 3 _ rfl; have e4 := HT3.out.cell 4 _ rfl; have z3 := HI3.out.lt; clear hg3 hb3)
     | (go_at_call 121; clear MG4; refine (HO.out _ HR3.out).mono ?_; rintro e w4 ⟨rfl, hr4, hg4⟩; have HR4 := qa0 hr4; have HG4 := qa0 (HG3.out.trans hg4); have HS4 := qa0 (HS3.out.keptBy (hg4.block _ HS3.out.lt (by omega) (by omega))); have HI4 := qa0 (HI3.out.keptBy (hg4.block _ HI3.out.lt (by omega) (by omega))); have z4 := hg4.size; clear hr4 hg4)
     | (go_at_call 133; refine (HP.out _ HR4.out).mono ?_; rintro e w5 ⟨⟨v, rfl, hfr, hr5⟩, hg5⟩; obtain ⟨la, lc, rfl, hle, _⟩ := hfr.now; have HF5 := qa0 hfr; have HR5 := qa0 hr5; have HG5 := qa0 (HG4.out.trans hg5); have HS5 := qa0 (HS4.out.keptBy (hg5.block _ HS4.out.lt (by omega) (by omega))); have HI5 := qa0 (HI4.out.keptBy (hg5.block _ HI4.out.lt (by omega) (by omega))); have z5 := hg5.size; clear hfr hr5 hg5)
     | (clear MP; refine wpList_store_one rfl 56 _ _ rfl w2.heap.size 15 58 _ (.int .u8 4) rfl rfl qfw rfl rfl HI5.out (by show 15 < 19; omega) ?_; intro w6 HIq6 hg6; have HI6 : Hid (Vn w6 w2.heap.size 58 #[.int .u8 5, .string ⟨#[]⟩, .int .u8 0, .int .i64 0, .string ⟨#[]⟩, .slice none 0 0, .int .i64 0, .int .i64 0, .int .u8 0, .string ⟨#[]⟩, .slice none 0 0, .slice none 0 0, .slice none 0 0, .int .i64 0, .int .i64 0, .int .u8 4, .slice none 0 0, .int .i64 0, .int .i64 0]) := HIq6; have HS6 := qa0 (HS5.out.keptG hg6.out (by simp; omega)); clear HIq6)
     | (clear MV; refine wpList_store_one rfl 35 _ _ rfl w2.heap.size 16 58 _ (.slice la l.length lc) rfl rfl qi2 rfl rfl HI6.out (by show 16 < 19; omega) ?_; intro w7 HIq7 hg7; have HI7 : Hid (Vn w7 w2.heap.size 58 #[.int .u8 5, .string ⟨#[]⟩, .int .u8 0, .int .i64 0, .string ⟨#[]⟩, .slice none 0 0, .int .i64 0, .int .i64 0, .int .u8 0, .string ⟨#[]⟩, .slice none 0 0, .slice none 0 0, .slice none 0 0, .int .i64 0, .int .i64 0, .int .u8 4, .slice la l.length lc, .int .i64 0, .int .i64 0]) := HIq7; have HS7 := qa0 (HS6.out.keptG hg7.out (by simp; omega)); have HR7 := qa0 ((HR.out.step HR5.out (fun b hb => by rw [hg7.out.block b (by have := HG5.out.size; have := hg6.out.size; omega) (by simp; omega), hg6.out.block b (by have := HG5.out.size; omega) (by simp; omega)]))); have HG7 := qa0 ((HG5.out.up hg6.out (by have := HG3.out.size; have := HG2.out.size; omega)).up hg7.out (by have := HG2.out.size; omega)); have z7 := hg7.out.size; have z6 := hg6.out.size; clear HIq7)
     | (go_at_call 121; clear MG9; refine (HC.out _ HR7.out).mono ?_; rintro e w9 ⟨rfl, hr9, hg9⟩; have HR9 := qa0 hr9; have HG9 := qa0 (HG7.out.trans hg9); have HS9 := qa0 (HS7.out.keptBy (hg9.block _ HS7.out.lt (by omega) (by omega))); have HI9 := qa0 (HI7.out.keptBy (hg9.block _ HI7.out.lt (by omega) (by omega))); have z9 := hg9.size; have HK9 := qa0 (fun b h1 h2 h3 => hg9.block b h1 h2 h3); clear hr9 hg9)
     | (clear ML; refine qa2 (by rfl) 58 _ rfl w2.heap.size rfl 58 #[.int .u8 5, .string ⟨#[]⟩, .int .u8 0, .int .i64 0, .string ⟨#[]⟩, .slice none 0 0, .int .i64 0, .int .i64 0, .int .u8 0, .string ⟨#[]⟩, .slice none 0 0, .slice none 0 0, .slice none 0 0, .int .i64 0, .int .i64 0, .int .u8 4, .slice la l.length lc, .int .i64 0, .int .i64 0] (0, 0) _ HI9.out Tryz.underlying58 rfl sizeI ?_)
     | (clear MS; refine qa1 rfl 58 _ _ rfl w.heap.size _ #[.int .u8 5, .string ⟨#[]⟩, .int .u8 0, .int .i64 0, .string ⟨#[]⟩, .slice none 0 0, .int .i64 0, .int .i64 0, .int .u8 0, .string ⟨#[]⟩, .slice none 0 0, .slice none 0 0, .slice none 0 0, .int .i64 0, .int .i64 0, .int .u8 4, .slice la l.length lc, .int .i64 0, .int .i64 0] rfl rfl HS9.out sizeI rfl (qbn rfl rfl rfl rfl rfl rfl rfl rfl rfl rfl rfl rfl rfl rfl rfl rfl rfl rfl rfl) ?_; intro w8 HV8 hg8))
    refine bodyPost_ret (v := .agg #[.int .u8 5, .string ⟨#[]⟩, .int .u8 0, .int .i64 0, .string ⟨#[]⟩, .slice none 0 0, .int .i64 0, .int .i64 0, .int .u8 0, .string ⟨#[]⟩, .slice none 0 0, .slice none 0 0, .slice none 0 0, .int .i64 0, .int .i64 0, .int .u8 4, .slice la l.length lc, .int .i64 0, .int .i64 0]) (results_cell_row Tryz.results120 _ _ w.heap.size 58 _ (0, 0) _ rfl HV8.out Tryz.underlying58 rfl sizeI) rfl ?_
    have zg := HG7.out.size
    have zg9 := HG9.out.size
    refine qc0 (HG9.out.up hg8.out (Nat.le_refl _)) (fun u hu => ⟨_, rfl, ?_⟩) (HR.out.step HR9.out (fun b hb => hg8.out.block b (by omega) (by simp; omega)))
    have hu2 : Ag w4.heap.size w5 u := ⟨by have := hu.size; have := hg8.out.size; omega, fun b h1 h2 => by rw [hu.same b (by omega) (by have := hg8.out.size; omega), hg8.out.block b (by omega) (by simp; omega), HK9.out b (by omega) (by omega) (by omega), hg7.out.block b (by omega) (by simp; omega), hg6.out.block b h2 (by simp; omega)]⟩
    obtain ⟨la2, lc2, e2q, hle2, hX⟩ := HF5.out u hu2
    cases e2q
    exact ⟨_, _, la, lc, rfl, qee u, qcq u, hX, by show 5 < 256; omega, by show 0 ≤ _; omega, by show 4 < 256; omega, by show l.length ≤ _; omega⟩
   ·rw [qbh K hc, qa7]
    have HC : Hid (∀ w', Rr K w' j5 → Calls Tryz.prog 121 #[.pointer (some ⟨K.r, 0, none⟩), .string ⟨#[93]⟩] w' fun e w'' => e = mis (K.g j5) ∧ Gk K w' w'') := fun w' hr => qbg hr hc
    unfold mis at HC
    clear hc
    go_enter Tryz.func120, Tryz.ntmps120
    go_wp2_with (first
     | (go_at_call 84; refine (HTa.out _ HR0.out).mono ?_; rintro e w1 ⟨rfl, hr1, hg1⟩; have HR1 := qa0 hr1; have HG1 := qa0 (HGz.out.trans hg1); have HS1 := qa0 (HS0.out.keptBy (hg1.block _ HS0.out.lt (by omega) (by omega))); have z1 := hg1.size; clear hr1 hg1)
     | (clear MT; refine qa1 rfl 104 _ _ rfl w1.heap.size _ #[.int .u8 (tk : Int), .string ⟨#[108, 105, 115, 116]⟩, .int .i64 tn, .int .i64 tl, .int .i64 tc] rfl rfl (Vn.new w1 _ _) sizeTok rfl (all5 rfl rfl rfl rfl rfl) ?_; intro w2 HT2 hg2; have hb2 : Below w1.heap.size w1 w2 := (jlow _ _).trans (jbelow hg2.out (jlow _ _).size (fun g e => by cases e; exact Nat.le_refl _)); have HR2 := qa0 (HR1.out.later hb2); have HG2 := qa0 (HG1.out.trans (Gk.of hb2)); have HS2 := qa0 (HS1.out.later hb2); have z2 := HT2.out.lt; clear hg2 hb2)
     | (clear MI; refine qa1 rfl 58 _ _ rfl w2.heap.size _ #[.int .u8 5, .string ⟨#[]⟩, .int .u8 0, .int .i64 0, .string ⟨#[]⟩, .slice none 0 0, .int .i64 0, .int .i64 0, .int .u8 0, .string ⟨#[]⟩, .slice none 0 0, .slice none 0 0, .slice none 0 0, .int .i64 0, .int .i64 0, .int .u8 0, .slice none 0 0, .int .i64 0, .int .i64 0] rfl rfl (Vn.new w2 _ _) sizeI rfl (qbn rfl rfl rfl rfl rfl rfl rfl rfl rfl rfl rfl rfl rfl rfl rfl rfl rfl rfl rfl) ?_; intro w3 HI3 hg3; have hb3 : Below w2.heap.size w2 w3 := (jlow _ _).trans (jbelow hg3.out (jlow _ _).size (fun g e => by cases e; exact Nat.le_refl _)); have HR3 := qa0 (HR2.out.later hb3); have HG3 := qa0 (HG2.out.trans (Gk.of hb3)); have HS3 := qa0 (HS2.out.later hb3); have HT3 := qa0 (HT2.out.later hb3); have e0 := HT3.out.cell 0 _ rfl; have e1 := HT3.out.cell 1 _ rfl; have e2 := HT3.out.cell 2 _ rfl; have e3 := HT3.out.cell 3 _ rfl; have e4 := HT3.out.cell 4 _ rfl; have z3 := HI3.out.lt; clear hg3 hb3)
     | (go_at_call 121; clear MG4; refine (HO.out _ HR3.out).mono ?_; rintro e w4 ⟨rfl, hr4, hg4⟩; have HR4 := qa0 hr4; have HG4 := qa0 (HG3.out.trans hg4); have HS4 := qa0 (HS3.out.keptBy (hg4.block _ HS3.out.lt (by omega) (by omega))); have HI4 := qa0 (HI3.out.keptBy (hg4.block _ HI3.out.lt (by omega) (by omega))); have z4 := hg4.size; clear hr4 hg4)
     | (go_at_call 133; refine (HP.out _ HR4.out).mono ?_; rintro e w5 ⟨⟨v, rfl, hfr, hr5⟩, hg5⟩; obtain ⟨la, lc, rfl, hle, _⟩ := hfr.now; have HF5 := qa0 hfr; have HR5 := qa0 hr5; have HG5 := qa0 (HG4.out.trans hg5); have HS5 := qa0 (HS4.out.keptBy (hg5.block _ HS4.out.lt (by omega) (by omega))); have HI5 := qa0 (HI4.out.keptBy (hg5.block _ HI4.out.lt (by omega) (by omega))); have z5 := hg5.size; clear hfr hr5 hg5)
     | (clear MP; refine wpList_store_one rfl 56 _ _ rfl w2.heap.size 15 58 _ (.int .u8 4) rfl rfl qfw rfl rfl HI5.out (by show 15 < 19; omega) ?_; intro w6 HIq6 hg6; have HI6 : Hid (Vn w6 w2.heap.size 58 #[.int .u8 5, .string ⟨#[]⟩, .int .u8 0, .int .i64 0, .string ⟨#[]⟩, .slice none 0 0, .int .i64 0, .int .i64 0, .int .u8 0, .string ⟨#[]⟩, .slice none 0 0, .slice none 0 0, .slice none 0 0, .int .i64 0, .int .i64 0, .int .u8 4, .slice none 0 0, .int .i64 0, .int .i64 0]) := HIq6; have HS6 := qa0 (HS5.out.keptG hg6.out (by simp; omega)); clear HIq6)
     | (clear MV; refine wpList_store_one rfl 35 _ _ rfl w2.heap.size 16 58 _ (.slice la l.length lc) rfl rfl qi2 rfl rfl HI6.out (by show 16 < 19; omega) ?_; intro w7 HIq7 hg7; have HI7 : Hid (Vn w7 w2.heap.size 58 #[.int .u8 5, .string ⟨#[]⟩, .int .u8 0, .int .i64 0, .string ⟨#[]⟩, .slice none 0 0, .int .i64 0, .int .i64 0, .int .u8 0, .string ⟨#[]⟩, .slice none 0 0, .slice none 0 0, .slice none 0 0, .int .i64 0, .int .i64 0, .int .u8 4, .slice la l.length lc, .int .i64 0, .int .i64 0]) := HIq7; have HS7 := qa0 (HS6.out.keptG hg7.out (by simp; omega)); have HR7 := qa0 ((HR.out.step HR5.out (fun b hb => by rw [hg7.out.block b (by have := HG5.out.size; have := hg6.out.size; omega) (by simp; omega), hg6.out.block b (by have := HG5.out.size; omega) (by simp; omega)]))); have HG7 := qa0 ((HG5.out.up hg6.out (by have := HG3.out.size; have := HG2.out.size; omega)).up hg7.out (by have := HG2.out.size; omega)); have z7 := hg7.out.size; have z6 := hg6.out.size; clear HIq7)
     | (go_at_call 121; clear MG9; refine (HC.out _ HR7.out).mono ?_; rintro e w9 ⟨rfl, hg9⟩; have HG9 := qa0 (HG7.out.trans hg9)))
    exact ⟨rfl, qb4 hj5 HG9.out⟩
 have q4 := qba p4
 have hk0 : kplace ⟨tk, tx, tn, tl, tc⟩ = 0 := by
  unfold kplace
  rw [if_neg (show ¬ tx = pwd 1 from p1), if_neg (show ¬ tx = pwd 2 from p2), if_neg (show ¬ tx = pwd 3 from p3), if_neg (show ¬ tx = pwd 4 from p4)]
 have hQ : pplc tv0 (lst K j) = .error (lst K j) := by
  rcases Nat.lt_or_ge j K.n with g | g
  ·rw [qaa K g, qb6, ht, hk0]
   rfl
  ·rw [qbl K g]
   rfl
 rw [hQ]
 have hme : mis (K.g j) = .panicked [{ v := .iface 96 (.agg #[.int .u8 (tk : Int), .string tx, .int .i64 tn, .int .i64 tl, .int .i64 tc]), recovered := false }] := by rw [ht]; rfl
 have HTa := HTa0
 have HME := qa0 hme
 clear hQ hk0 p1 p2 p3 p4 HTa0 ht hme
 go_enter Tryz.func120, Tryz.ntmps120
 go_wp2_with (first
  | (go_at_call 84; refine (HTa.out _ HR0.out).mono ?_; rintro e w1 ⟨rfl, hr1, hg1⟩; have HR1 := qa0 hr1; have HG1 := qa0 (HGz.out.trans hg1); have HS1 := qa0 (HS0.out.keptBy (hg1.block _ HS0.out.lt (by omega) (by omega))); have z1 := hg1.size; clear hr1 hg1)
  | (clear MT; refine qa1 rfl 104 _ _ rfl w1.heap.size _ #[.int .u8 (tk : Int), .string tx, .int .i64 tn, .int .i64 tl, .int .i64 tc] rfl rfl (Vn.new w1 _ _) sizeTok rfl (all5 rfl rfl rfl rfl rfl) ?_; intro w2 HT2 hg2; have hb2 : Below w1.heap.size w1 w2 := (jlow _ _).trans (jbelow hg2.out (jlow _ _).size (fun g e => by cases e; exact Nat.le_refl _)); have HR2 := qa0 (HR1.out.later hb2); have HG2 := qa0 (HG1.out.trans (Gk.of hb2)); have HS2 := qa0 (HS1.out.later hb2); have z2 := HT2.out.lt; clear hg2 hb2)
  | (clear MI; refine qa1 rfl 58 _ _ rfl w2.heap.size _ #[.int .u8 5, .string ⟨#[]⟩, .int .u8 0, .int .i64 0, .string ⟨#[]⟩, .slice none 0 0, .int .i64 0, .int .i64 0, .int .u8 0, .string ⟨#[]⟩, .slice none 0 0, .slice none 0 0, .slice none 0 0, .int .i64 0, .int .i64 0, .int .u8 0, .slice none 0 0, .int .i64 0, .int .i64 0] rfl rfl (Vn.new w2 _ _) sizeI rfl (qbn rfl rfl rfl rfl rfl rfl rfl rfl rfl rfl rfl rfl rfl rfl rfl rfl rfl rfl rfl) ?_; intro w3 HI3 hg3; have hb3 : Below w2.heap.size w2 w3 := (jlow _ _).trans (jbelow hg3.out (jlow _ _).size (fun g e => by cases e; exact Nat.le_refl _)); have HR3 := qa0 (HR2.out.later hb3); have HG3 := qa0 (HG2.out.trans (Gk.of hb3)); have HS3 := qa0 (HS2.out.later hb3); have HT3 := qa0 (HT2.out.later hb3); have e0 := HT3.out.cell 0 _ rfl; have e1 := HT3.out.cell 1 _ rfl; have e2 := HT3.out.cell 2 _ rfl; have e3 := HT3.out.cell 3 _ rfl; have e4 := HT3.out.cell 4 _ rfl; have z3 := HI3.out.lt; clear hg3 hb3))
 have hy := qb4 (P := IVv) hjn HG3.out
 rw [HME.out] at hy
 exact ⟨rfl, hy⟩
end Go.Proofs.YtnjcpmkfghcogaaGreatDoor
