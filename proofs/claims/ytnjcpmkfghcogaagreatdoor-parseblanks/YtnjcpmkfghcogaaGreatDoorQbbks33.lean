/-
  Stage 11: shapes, whole; items as values.
  Stage 11: the items' methods, but place.
-/
import Derived.Test.YtnjcpmkfghcogaaGreatDoorQbbks00
import Derived.Test.YtnjcpmkfghcogaaGreatDoorQbbks32
import Derived.Test.YtnjcpmkfghcogaaGreatDoorQbbks14
set_option maxRecDepth 100000
set_option maxHeartbeats 16000000
namespace Go.Proofs.YtnjcpmkfghcogaaGreatDoor
open Go.RowKit
theorem pcl_suf {α : Type} {f : List TV → Rd α} (hf : ∀ L, Suf (f L) L) : ∀ m l L, Suf (pcl f m l L) L := by
 intro m
 induction m with
 | zero => intro l L; exact List.suffix_refl _
 | succ m ih =>
  intro l L
  show Suf (thn (if l.length = 0 then f L else thn (ask ⟨#[44]⟩ () L) (fun _ q => f q)) (fun y z => pcl f m (l ++ [y]) z)) L
  refine Suf.thn ?_ (fun y s _ => ih _ _)
  split
  ·exact hf L
  ·exact (Suf.ask _ _ _).thn (fun _ q _ => hf q)
theorem qgq {α : Type} {f : List TV → Rd α} (hf : ∀ L, Suf (f L) L) (c : Nat) (L : List TV) : Suf (pbr f c L) L := by
 unfold pbr
 refine (Suf.ask _ _ _).thn (fun _ q _ => ?_)
 rw [qfg]
 exact (pcl_suf hf _ _ _).thn (fun l s _ => Suf.ask _ _ _)
theorem qjm : ∀ n L, Suf (psh n L) L := by
 intro n
 induction n with
 | zero => intro L; exact List.suffix_refl _
 | succ n ih =>
  intro L
  cases L with
  | nil => exact List.suffix_refl _
  | cons t r =>
   rw [qcy]
   split
   ·exact (show Suf (.ok (ySn t, r)) r from List.suffix_refl _).cons t
   ·split
    ·exact ((qgq qd3 1 r).thn (f := fun l s => .ok (ySa (kshape t) t l, s)) (fun l s _ => List.suffix_refl _)).cons t
    ·split
     ·exact ((qgq qd3 2 r).thn (f := fun l s => .ok (ySa (kshape t) t l, s)) (fun l s _ => List.suffix_refl _)).cons t
     ·split
      ·exact ((qgq ih 1 r).thn (f := fun l s => .ok (ySp (kshape t) t l, s)) (fun l s _ => List.suffix_refl _)).cons t
      ·split
       ·exact ((Suf.ask ⟨#[91]⟩ () r).thn (fun _ q _ => (prws_suf _ q).thn (fun l s _ => (Suf.ask ⟨#[93]⟩ l s).thn (f := fun l z => .ok (ySr t l, z)) (fun l z _ => List.suffix_refl _)))).cons t
       ·exact List.suffix_refl _
theorem rshape_n (K : Rk) (hK : RkOk K) : ∀ n j w, K.n - j < n → Rr K w j → Calls Tryz.prog 44 #[.pointer (some ⟨K.r, 0, none⟩)] w (RY SV K w (psh n (lst K j))) := by
 intro n
 induction n with
 | zero => intro j w h; omega
 | succ n ih =>
  intro j w h hR
  exact rshape_s K hK n w j hR (psh_len n) (qjm n) (fun jr w' hj hr => ih jr w' (by have := hr.le; have := hR.le; omega) hr)
theorem qhk (K : Rk) (hK : RkOk K) (w : World) (j : Nat) (hR : Rr K w j) : Calls Tryz.prog 44 #[.pointer (some ⟨K.r, 0, none⟩)] w (RY SV K w (psh ((lst K j).length + 1) (lst K j))) := rshape_n K hK _ j w (by rw [qan]; omega) hR
def IVv (u : World) (v : Value) (I : It) : Prop := ∃ cs : Array Value, v = .agg cs ∧ IC u cs.toList I
theorem qee (u : World) : XC u [.int .u8 0, .int .i64 0, .string ⟨#[]⟩, .slice none 0 0, .int .i64 0, .int .i64 0] l0x := ⟨none, 0, rfl, ⟨by show 0 < 256; omega, by show _ ≤ (0 : Int); omega, by show (0 : Int) ≤ _; omega, by show 0 ≤ _; omega, by show 0 ≤ _; omega⟩, fun d i hi => absurd hi (Nat.not_lt_zero i)⟩
theorem qcq (u : World) : SC u [.int .u8 0, .string ⟨#[]⟩, .slice none 0 0, .slice none 0 0, .slice none 0 0, .int .i64 0, .int .i64 0] l0s := ⟨none, none, none, 0, 0, 0, rfl, ⟨by show 0 < 256; omega, by show 0 ≤ _; omega, by show 0 ≤ _; omega, by show 0 ≤ _; omega, by show 0 ≤ _; omega, fun i hi => absurd hi (Nat.not_lt_zero i)⟩, fun d i hi => absurd hi (Nat.not_lt_zero i), fun i hi => absurd hi (Nat.not_lt_zero i), fun d i hi => absurd hi (Nat.not_lt_zero i)⟩
def tv0 : TV := ⟨0, ⟨#[]⟩, 0, 0, 0⟩
theorem qgr {K : Rk} {w : World} {j : Nat} (hR : Rr K w j) (h : (K.g j).k = 1) : Calls Tryz.prog 153 #[.pointer (some ⟨K.r, 0, none⟩)] w fun e w' => e = .returned (.string (K.g j).tx) ∧ Rr K w' (min (j + 1) K.n) ∧ Gk K w w' := (rname K w j hR).mono (fun e w' g => by
 rw [if_pos h] at g
 exact ⟨g.1.1, g.1.2, g.2⟩)
theorem qjn {K : Rk} {w : World} {j : Nat} (hR : Rr K w j) (h : (K.g j).k ≠ 1) : Calls Tryz.prog 153 #[.pointer (some ⟨K.r, 0, none⟩)] w fun e w' => e = mis (K.g j) ∧ Gk K w w' := (rname K w j hR).mono (fun e w' g => by
 rw [if_neg h] at g
 exact g)
theorem qgs (K : Rk) {j : Nat} (hj : j < K.n) (h : (K.g j).k = 1) : pnm (lst K j) = .ok ((K.g j).tx, lst K (j + 1)) := by rw [qaa K hj, qdj, if_pos h]
theorem qjo (K : Rk) {j : Nat} (h : (K.g j).k ≠ 1) : pnm (lst K j) = .error (lst K j) := by
 rcases Nat.lt_or_ge j K.n with g | g
 ·rw [qaa K g, qdj, if_neg h]
 ·rw [qbl K g]
  rfl
theorem qgt (K : Rk) (hK : RkOk K) {j : Nat} (hj : j ≤ K.n) (h : (K.g j).k = 1) : j < K.n := by
 rcases Nat.lt_or_ge j K.n with g | g
 ·exact g
 ·obtain rfl : j = K.n := by omega
  rw [hK.ek] at h
  cases h
open Go.RowKit
def pb1 (L : List TV) : Rd It := thn (pnm L) (fun nm s => thn (ask ⟨#[61]⟩ nm s) (fun nm q => thn (pX q) (fun y z => .ok (yI 1 nm y l0s 0 [] tv0, z))))
def pb2 (L : List TV) : Rd It := thn (pnm L) (fun nm s => thn (ask ⟨#[61]⟩ nm s) (fun nm q => thn (psh (q.length + 1) q) (fun y z => .ok (yI 2 nm l0x y 0 [] tv0, z))))
def pb3 (L : List TV) : Rd It := thn (pnm L) (fun nm s => .ok (yI 3 nm l0x l0s 0 [] tv0, s))
def pb46 (k : Nat) (L : List TV) : Rd It := thn (pX L) (fun y z => .ok (yI k ⟨#[]⟩ y l0s 0 [] tv0, z))
theorem rconst (K : Rk) (hK : RkOk K) (w : World) (j : Nat) (hR : Rr K w j) : Calls Tryz.prog 115 #[.pointer (some ⟨K.r, 0, none⟩)] w (RY IVv K w (pb1 (lst K j))) := by
 unfold pb1
 have hlow := hR.low
 have HR := qa0 hR
 have HKo := qa0 hK
 have hjn := hR.le
 have hr := hlow.1
 have hbt := hlow.2
 clear hlow hR hK
 have HB0 := qa0 (jlow w (.cells #[.int .u8 0, .string ⟨#[]⟩, .int .u8 0, .int .i64 0, .string ⟨#[]⟩, .slice none 0 0, .int .i64 0, .int .i64 0, .int .u8 0, .string ⟨#[]⟩, .slice none 0 0, .slice none 0 0, .slice none 0 0, .int .i64 0, .int .i64 0, .int .u8 0, .slice none 0 0, .int .i64 0, .int .i64 0] 58))
 have HS0 := qa0 (Vn.new w 58 #[.int .u8 0, .string ⟨#[]⟩, .int .u8 0, .int .i64 0, .string ⟨#[]⟩, .slice none 0 0, .int .i64 0, .int .i64 0, .int .u8 0, .string ⟨#[]⟩, .slice none 0 0, .slice none 0 0, .slice none 0 0, .int .i64 0, .int .i64 0, .int .u8 0, .slice none 0 0, .int .i64 0, .int .i64 0])
 have HR0 := qa0 (HR.out.later HB0.out)
 have hz0 : (w.alloc (.cells #[.int .u8 0, .string ⟨#[]⟩, .int .u8 0, .int .i64 0, .string ⟨#[]⟩, .slice none 0 0, .int .i64 0, .int .i64 0, .int .u8 0, .string ⟨#[]⟩, .slice none 0 0, .slice none 0 0, .slice none 0 0, .int .i64 0, .int .i64 0, .int .u8 0, .slice none 0 0, .int .i64 0, .int .i64 0] 58)).heap.size = w.heap.size + 1 := Array.size_push _
 have HGz : Hid (Gk K w (w.alloc (.cells #[.int .u8 0, .string ⟨#[]⟩, .int .u8 0, .int .i64 0, .string ⟨#[]⟩, .slice none 0 0, .int .i64 0, .int .i64 0, .int .u8 0, .string ⟨#[]⟩, .slice none 0 0, .slice none 0 0, .slice none 0 0, .int .i64 0, .int .i64 0, .int .u8 0, .slice none 0 0, .int .i64 0, .int .i64 0] 58))) := Gk.of HB0.out
 by_cases h1 : (K.g j).k = 1
 case neg =>
  rw [qjo K h1, qa7]
  have HN : Hid (∀ w', Rr K w' j → Calls Tryz.prog 153 #[.pointer (some ⟨K.r, 0, none⟩)] w' fun e w'' => e = mis (K.g j) ∧ Gk K w' w'') := fun w' hr => qjn hr h1
  unfold mis at HN
  clear h1
  go_enter Tryz.func115, Tryz.ntmps115
  go_wp2_with (first
   | (go_at_call 153; refine (HN.out _ HR0.out).mono ?_; rintro e w1 ⟨rfl, hg1⟩; have HG1 := qa0 (HGz.out.trans hg1)))
  exact ⟨rfl, qb4 hjn HG1.out⟩
 have hj := qgt K HKo.out hjn h1
 have hok := HKo.out.ok j hjn
 have htx : (K.g j).tx.size ≤ 140737488351232 := hok.tx47
 clear hok
 rw [qgs K hj h1, qa4]
 have HN : Hid (∀ w', Rr K w' j → Calls Tryz.prog 153 #[.pointer (some ⟨K.r, 0, none⟩)] w' fun e w'' => e = .returned (.string (K.g j).tx) ∧ Rr K w'' (j + 1) ∧ Gk K w' w'') := fun w' hr => (qgr hr h1).mono (fun e w'' h => by rw [show min (j + 1) K.n = j + 1 by omega] at h; exact h)
 clear h1
 generalize (K.g j).tx = tx at *
 by_cases h2 : (K.g (j + 1)).tx = ⟨#[61]⟩
 case neg =>
  rw [qbh K h2, qa7]
  have HG : Hid (∀ w', Rr K w' (j + 1) → Calls Tryz.prog 121 #[.pointer (some ⟨K.r, 0, none⟩), .string ⟨#[61]⟩] w' fun e w'' => e = mis (K.g (j + 1)) ∧ Gk K w' w'') := fun w' hr => qbg hr h2
  unfold mis at HG
  clear h2
  go_enter Tryz.func115, Tryz.ntmps115
  go_wp2_with (first
   | (go_at_call 153; refine (HN.out _ HR0.out).mono ?_; rintro e w1 ⟨rfl, hr1, hg1⟩; have HR1 := qa0 hr1; have HG1 := qa0 (HGz.out.trans hg1); have HS1 := qa0 (HS0.out.keptBy (hg1.block _ HS0.out.lt (by omega) (by omega))); clear hr1 hg1)
   | (go_at_call 121; refine (HG.out _ HR1.out).mono ?_; rintro e w2 ⟨rfl, hg2⟩; have HG2 := qa0 (HG1.out.trans hg2)))
  exact ⟨rfl, qb4 (by omega) HG2.out⟩
 have hj1 := qao K HKo.out (show j + 1 ≤ K.n by omega) (fun e => by cases e) h2
 rw [qb1 K hj1 h2, qa4]
 have HG : Hid (∀ w', Rr K w' (j + 1) → Calls Tryz.prog 121 #[.pointer (some ⟨K.r, 0, none⟩), .string ⟨#[61]⟩] w' fun e w'' => e = .returned (.tuple #[]) ∧ Rr K w'' (j + 1 + 1) ∧ Gk K w' w'') := fun w' hr => (qb0 hr h2).mono (fun e w'' h => by rw [show min (j + 1 + 1) K.n = j + 1 + 1 by omega] at h; exact h)
 clear h2
 cases hq : pX (lst K (j + 1 + 1)) with
 | error s =>
  have HP : Hid (∀ w', Rr K w' (j + 1 + 1) → Calls Tryz.prog 39 #[.pointer (some ⟨K.r, 0, none⟩)] w' fun e w'' => e = mis (K.g (K.n - s.length)) ∧ Gk K w' w'') := fun w' hr => (qbp K HKo.out w' (j + 1 + 1) hr).mono (fun e w'' h => by rw [hq] at h; exact qat h)
  rw [qa7]
  unfold mis at HP
  clear hq
  go_enter Tryz.func115, Tryz.ntmps115
  go_wp2_with (first
   | (go_at_call 153; refine (HN.out _ HR0.out).mono ?_; rintro e w1 ⟨rfl, hr1, hg1⟩; have HR1 := qa0 hr1; have HG1 := qa0 (HGz.out.trans hg1); have HS1 := qa0 (HS0.out.keptBy (hg1.block _ HS0.out.lt (by omega) (by omega))); clear hr1 hg1)
   | (go_at_call 121; refine (HG.out _ HR1.out).mono ?_; rintro e w2 ⟨rfl, hr2, hg2⟩; have HR2 := qa0 hr2; have HG2 := qa0 (HG1.out.trans hg2); have HS2 := qa0 (HS1.out.keptBy (hg2.block _ HS1.out.lt (by omega) (by omega))); clear hr2 hg2)
   | (go_at_call 39; refine (HP.out _ HR2.out).mono ?_; rintro e w3 ⟨rfl, hg3⟩; have HG3 := qa0 (HG2.out.trans hg3)))
  exact ⟨rfl, HG3.out, rfl⟩
 | ok p =>
  obtain ⟨y, s⟩ := p
  have HP : Hid (∀ w', Rr K w' (j + 1 + 1) → Calls Tryz.prog 39 #[.pointer (some ⟨K.r, 0, none⟩)] w' fun e w'' => (∃ v, e = .returned v ∧ Fr w'.heap.size w'' (fun u => XV u v y) ∧ Rr K w'' (K.n - s.length)) ∧ Gk K w' w'') := fun w' hr => (qbp K HKo.out w' (j + 1 + 1) hr).mono (fun e w'' h => by rw [hq] at h; exact qbe h)
  rw [qa4]
  clear hq
  go_enter Tryz.func115, Tryz.ntmps115
  go_wp2_with (first
   | (go_at_call 153; refine (HN.out _ HR0.out).mono ?_; rintro e w1 ⟨rfl, hr1, hg1⟩; have HR1 := qa0 hr1; have HG1 := qa0 (HGz.out.trans hg1); have HS1 := qa0 (HS0.out.keptBy (hg1.block _ HS0.out.lt (by omega) (by omega))); clear hr1 hg1)
   | (go_at_call 121; refine (HG.out _ HR1.out).mono ?_; rintro e w2 ⟨rfl, hr2, hg2⟩; have HR2 := qa0 hr2; have HG2 := qa0 (HG1.out.trans hg2); have HS2 := qa0 (HS1.out.keptBy (hg2.block _ HS1.out.lt (by omega) (by omega))); clear hr2 hg2)
   | (go_at_call 39; refine (HP.out _ HR2.out).mono ?_; rintro e w3 ⟨⟨v, rfl, hfr, hr3⟩, hg3⟩; obtain ⟨⟨ra, rcap, rfl, _⟩, _⟩ := hfr.now; have HF3 := qa0 hfr; have HR3 := qa0 hr3; have HG3 := qa0 (HG2.out.trans hg3); have HS3 := qa0 (HS2.out.keptBy (hg3.block _ HS2.out.lt (by omega) (by omega))); have hzz := hg3.size; clear hfr hr3 hg3)
   | (refine qa1 rfl 58 _ _ rfl w.heap.size _ #[.int .u8 1, .string tx, .int .u8 ((y []).k : Int), .int .i64 (y []).n, .string (y []).nm, .slice ra (y []).len rcap, .int .i64 (y []).ln, .int .i64 (y []).cl, .int .u8 0, .string ⟨#[]⟩, .slice none 0 0, .slice none 0 0, .slice none 0 0, .int .i64 0, .int .i64 0, .int .u8 0, .slice none 0 0, .int .i64 0, .int .i64 0] rfl rfl HS3.out sizeI rfl (qbn rfl rfl rfl rfl rfl rfl rfl rfl rfl rfl rfl rfl rfl rfl rfl rfl rfl rfl rfl) ?_; intro w8 HV8 hg8))
  refine bodyPost_ret (v := .agg #[.int .u8 1, .string tx, .int .u8 ((y []).k : Int), .int .i64 (y []).n, .string (y []).nm, .slice ra (y []).len rcap, .int .i64 (y []).ln, .int .i64 (y []).cl, .int .u8 0, .string ⟨#[]⟩, .slice none 0 0, .slice none 0 0, .slice none 0 0, .int .i64 0, .int .i64 0, .int .u8 0, .slice none 0 0, .int .i64 0, .int .i64 0]) (results_cell_row Tryz.results115 _ _ w.heap.size 58 _ (0, 0) _ rfl HV8.out Tryz.underlying58 rfl sizeI) rfl ?_
  have z2 := HS2.out.lt
  have z3 := HG3.out.size
  refine qbo (HG3.out.up hg8.out (Nat.le_refl _)) (fun u hu => ⟨_, rfl, ?_⟩) (HR.out.step HR3.out (fun b hb => hg8.out.block b (by omega) (by simp; omega)))
  have hu2 : Ag w2.heap.size w3 u := ⟨by have := hu.size; have := hg8.out.size; omega, fun b h1 h2 => by rw [hu.same b (by omega) (by have := hg8.out.size; omega), hg8.out.block b h2 (by simp; omega)]⟩
  exact ⟨_, _, none, 0, rfl, (HF3.out u hu2).xc, qcq u, fun d i hi => absurd hi (Nat.not_lt_zero i), by show 1 < 256; omega, htx, by show 0 < 256; omega, by show 0 ≤ _; omega⟩
theorem rcode (K : Rk) (hK : RkOk K) (w : World) (j : Nat) (hR : Rr K w j) : Calls Tryz.prog 116 #[.pointer (some ⟨K.r, 0, none⟩)] w (RY IVv K w (pb2 (lst K j))) := by
 unfold pb2
 have hlow := hR.low
 have HR := qa0 hR
 have HKo := qa0 hK
 have hjn := hR.le
 have hr := hlow.1
 have hbt := hlow.2
 clear hlow hR hK
 have HB0 := qa0 (jlow w (.cells #[.int .u8 0, .string ⟨#[]⟩, .int .u8 0, .int .i64 0, .string ⟨#[]⟩, .slice none 0 0, .int .i64 0, .int .i64 0, .int .u8 0, .string ⟨#[]⟩, .slice none 0 0, .slice none 0 0, .slice none 0 0, .int .i64 0, .int .i64 0, .int .u8 0, .slice none 0 0, .int .i64 0, .int .i64 0] 58))
 have HS0 := qa0 (Vn.new w 58 #[.int .u8 0, .string ⟨#[]⟩, .int .u8 0, .int .i64 0, .string ⟨#[]⟩, .slice none 0 0, .int .i64 0, .int .i64 0, .int .u8 0, .string ⟨#[]⟩, .slice none 0 0, .slice none 0 0, .slice none 0 0, .int .i64 0, .int .i64 0, .int .u8 0, .slice none 0 0, .int .i64 0, .int .i64 0])
 have HR0 := qa0 (HR.out.later HB0.out)
 have hz0 : (w.alloc (.cells #[.int .u8 0, .string ⟨#[]⟩, .int .u8 0, .int .i64 0, .string ⟨#[]⟩, .slice none 0 0, .int .i64 0, .int .i64 0, .int .u8 0, .string ⟨#[]⟩, .slice none 0 0, .slice none 0 0, .slice none 0 0, .int .i64 0, .int .i64 0, .int .u8 0, .slice none 0 0, .int .i64 0, .int .i64 0] 58)).heap.size = w.heap.size + 1 := Array.size_push _
 have HGz : Hid (Gk K w (w.alloc (.cells #[.int .u8 0, .string ⟨#[]⟩, .int .u8 0, .int .i64 0, .string ⟨#[]⟩, .slice none 0 0, .int .i64 0, .int .i64 0, .int .u8 0, .string ⟨#[]⟩, .slice none 0 0, .slice none 0 0, .slice none 0 0, .int .i64 0, .int .i64 0, .int .u8 0, .slice none 0 0, .int .i64 0, .int .i64 0] 58))) := Gk.of HB0.out
 by_cases h1 : (K.g j).k = 1
 case neg =>
  rw [qjo K h1, qa7]
  have HN : Hid (∀ w', Rr K w' j → Calls Tryz.prog 153 #[.pointer (some ⟨K.r, 0, none⟩)] w' fun e w'' => e = mis (K.g j) ∧ Gk K w' w'') := fun w' hr => qjn hr h1
  unfold mis at HN
  clear h1
  go_enter Tryz.func116, Tryz.ntmps116
  go_wp2_with (first
   | (go_at_call 153; refine (HN.out _ HR0.out).mono ?_; rintro e w1 ⟨rfl, hg1⟩; have HG1 := qa0 (HGz.out.trans hg1)))
  exact ⟨rfl, qb4 hjn HG1.out⟩
 have hj := qgt K HKo.out hjn h1
 have hok := HKo.out.ok j hjn
 have htx : (K.g j).tx.size ≤ 140737488351232 := hok.tx47
 clear hok
 rw [qgs K hj h1, qa4]
 have HN : Hid (∀ w', Rr K w' j → Calls Tryz.prog 153 #[.pointer (some ⟨K.r, 0, none⟩)] w' fun e w'' => e = .returned (.string (K.g j).tx) ∧ Rr K w'' (j + 1) ∧ Gk K w' w'') := fun w' hr => (qgr hr h1).mono (fun e w'' h => by rw [show min (j + 1) K.n = j + 1 by omega] at h; exact h)
 clear h1
 generalize (K.g j).tx = tx at *
 by_cases h2 : (K.g (j + 1)).tx = ⟨#[61]⟩
 case neg =>
  rw [qbh K h2, qa7]
  have HG : Hid (∀ w', Rr K w' (j + 1) → Calls Tryz.prog 121 #[.pointer (some ⟨K.r, 0, none⟩), .string ⟨#[61]⟩] w' fun e w'' => e = mis (K.g (j + 1)) ∧ Gk K w' w'') := fun w' hr => qbg hr h2
  unfold mis at HG
  clear h2
  go_enter Tryz.func116, Tryz.ntmps116
  go_wp2_with (first
   | (go_at_call 153; refine (HN.out _ HR0.out).mono ?_; rintro e w1 ⟨rfl, hr1, hg1⟩; have HR1 := qa0 hr1; have HG1 := qa0 (HGz.out.trans hg1); have HS1 := qa0 (HS0.out.keptBy (hg1.block _ HS0.out.lt (by omega) (by omega))); clear hr1 hg1)
   | (go_at_call 121; refine (HG.out _ HR1.out).mono ?_; rintro e w2 ⟨rfl, hg2⟩; have HG2 := qa0 (HG1.out.trans hg2)))
  exact ⟨rfl, qb4 (by omega) HG2.out⟩
 have hj1 := qao K HKo.out (show j + 1 ≤ K.n by omega) (fun e => by cases e) h2
 rw [qb1 K hj1 h2, qa4]
 have HG : Hid (∀ w', Rr K w' (j + 1) → Calls Tryz.prog 121 #[.pointer (some ⟨K.r, 0, none⟩), .string ⟨#[61]⟩] w' fun e w'' => e = .returned (.tuple #[]) ∧ Rr K w'' (j + 1 + 1) ∧ Gk K w' w'') := fun w' hr => (qb0 hr h2).mono (fun e w'' h => by rw [show min (j + 1 + 1) K.n = j + 1 + 1 by omega] at h; exact h)
 clear h2
 cases hq : psh ((lst K (j + 1 + 1)).length + 1) (lst K (j + 1 + 1)) with
 | error s =>
  have HP : Hid (∀ w', Rr K w' (j + 1 + 1) → Calls Tryz.prog 44 #[.pointer (some ⟨K.r, 0, none⟩)] w' fun e w'' => e = mis (K.g (K.n - s.length)) ∧ Gk K w' w'') := fun w' hr => (qhk K HKo.out w' (j + 1 + 1) hr).mono (fun e w'' h => by rw [hq] at h; exact qat h)
  rw [qa7]
  unfold mis at HP
  clear hq
  go_enter Tryz.func116, Tryz.ntmps116
  go_wp2_with (first
   | (go_at_call 153; refine (HN.out _ HR0.out).mono ?_; rintro e w1 ⟨rfl, hr1, hg1⟩; have HR1 := qa0 hr1; have HG1 := qa0 (HGz.out.trans hg1); have HS1 := qa0 (HS0.out.keptBy (hg1.block _ HS0.out.lt (by omega) (by omega))); clear hr1 hg1)
   | (go_at_call 121; refine (HG.out _ HR1.out).mono ?_; rintro e w2 ⟨rfl, hr2, hg2⟩; have HR2 := qa0 hr2; have HG2 := qa0 (HG1.out.trans hg2); have HS2 := qa0 (HS1.out.keptBy (hg2.block _ HS1.out.lt (by omega) (by omega))); clear hr2 hg2)
   | (go_at_call 44; refine (HP.out _ HR2.out).mono ?_; rintro e w3 ⟨rfl, hg3⟩; have HG3 := qa0 (HG2.out.trans hg3)))
  exact ⟨rfl, HG3.out, rfl⟩
 | ok p =>
  obtain ⟨y, s⟩ := p
  have HP : Hid (∀ w', Rr K w' (j + 1 + 1) → Calls Tryz.prog 44 #[.pointer (some ⟨K.r, 0, none⟩)] w' fun e w'' => (∃ v, e = .returned v ∧ Fr w'.heap.size w'' (fun u => SV u v y) ∧ Rr K w'' (K.n - s.length)) ∧ Gk K w' w'') := fun w' hr => (qhk K HKo.out w' (j + 1 + 1) hr).mono (fun e w'' h => by rw [hq] at h; exact qbe h)
  rw [qa4]
  clear hq
  go_enter Tryz.func116, Tryz.ntmps116
  go_wp2_with (first
   | (go_at_call 153; refine (HN.out _ HR0.out).mono ?_; rintro e w1 ⟨rfl, hr1, hg1⟩; have HR1 := qa0 hr1; have HG1 := qa0 (HGz.out.trans hg1); have HS1 := qa0 (HS0.out.keptBy (hg1.block _ HS0.out.lt (by omega) (by omega))); clear hr1 hg1)
   | (go_at_call 121; refine (HG.out _ HR1.out).mono ?_; rintro e w2 ⟨rfl, hr2, hg2⟩; have HR2 := qa0 hr2; have HG2 := qa0 (HG1.out.trans hg2); have HS2 := qa0 (HS1.out.keptBy (hg2.block _ HS1.out.lt (by omega) (by omega))); clear hr2 hg2)
   | (go_at_call 44; refine (HP.out _ HR2.out).mono ?_; rintro e w3 ⟨⟨v, rfl, hfr, hr3⟩, hg3⟩; obtain ⟨⟨aa, pa, ra, ca, cp, cr, rfl, _, _, _⟩, _⟩ := hfr.now; have HF3 := qa0 hfr; have HR3 := qa0 hr3; have HG3 := qa0 (HG2.out.trans hg3); have HS3 := qa0 (HS2.out.keptBy (hg3.block _ HS2.out.lt (by omega) (by omega))); have hzz := hg3.size; clear hfr hr3 hg3)
   | (refine qa1 rfl 58 _ _ rfl w.heap.size _ #[.int .u8 2, .string tx, .int .u8 0, .int .i64 0, .string ⟨#[]⟩, .slice none 0 0, .int .i64 0, .int .i64 0, .int .u8 ((y []).k : Int), .string (y []).nm, .slice aa (y []).na ca, .slice pa (y []).np cp, .slice ra (y []).nr cr, .int .i64 (y []).ln, .int .i64 (y []).cl, .int .u8 0, .slice none 0 0, .int .i64 0, .int .i64 0] rfl rfl HS3.out sizeI rfl (qbn rfl rfl rfl rfl rfl rfl rfl rfl rfl rfl rfl rfl rfl rfl rfl rfl rfl rfl rfl) ?_; intro w8 HV8 hg8))
  refine bodyPost_ret (v := .agg #[.int .u8 2, .string tx, .int .u8 0, .int .i64 0, .string ⟨#[]⟩, .slice none 0 0, .int .i64 0, .int .i64 0, .int .u8 ((y []).k : Int), .string (y []).nm, .slice aa (y []).na ca, .slice pa (y []).np cp, .slice ra (y []).nr cr, .int .i64 (y []).ln, .int .i64 (y []).cl, .int .u8 0, .slice none 0 0, .int .i64 0, .int .i64 0]) (results_cell_row Tryz.results116 _ _ w.heap.size 58 _ (0, 0) _ rfl HV8.out Tryz.underlying58 rfl sizeI) rfl ?_
  have z2 := HS2.out.lt
  have z3 := HG3.out.size
  refine qbo (HG3.out.up hg8.out (Nat.le_refl _)) (fun u hu => ⟨_, rfl, ?_⟩) (HR.out.step HR3.out (fun b hb => hg8.out.block b (by omega) (by simp; omega)))
  have hu2 : Ag w2.heap.size w3 u := ⟨by have := hu.size; have := hg8.out.size; omega, fun b h1 h2 => by rw [hu.same b (by omega) (by have := hg8.out.size; omega), hg8.out.block b h2 (by simp; omega)]⟩
  exact ⟨_, _, none, 0, rfl, qee u, (HF3.out u hu2).sc, fun d i hi => absurd hi (Nat.not_lt_zero i), by show 2 < 256; omega, htx, by show 0 < 256; omega, by show 0 ≤ _; omega⟩
theorem ruse (K : Rk) (hK : RkOk K) (w : World) (j : Nat) (hR : Rr K w j) : Calls Tryz.prog 117 #[.pointer (some ⟨K.r, 0, none⟩)] w (RY IVv K w (pb3 (lst K j))) := by
 unfold pb3
 have hlow := hR.low
 have HR := qa0 hR
 have HKo := qa0 hK
 have hjn := hR.le
 have hr := hlow.1
 have hbt := hlow.2
 clear hlow hR hK
 have HB0 := qa0 (jlow w (.cells #[.int .u8 0, .string ⟨#[]⟩, .int .u8 0, .int .i64 0, .string ⟨#[]⟩, .slice none 0 0, .int .i64 0, .int .i64 0, .int .u8 0, .string ⟨#[]⟩, .slice none 0 0, .slice none 0 0, .slice none 0 0, .int .i64 0, .int .i64 0, .int .u8 0, .slice none 0 0, .int .i64 0, .int .i64 0] 58))
 have HS0 := qa0 (Vn.new w 58 #[.int .u8 0, .string ⟨#[]⟩, .int .u8 0, .int .i64 0, .string ⟨#[]⟩, .slice none 0 0, .int .i64 0, .int .i64 0, .int .u8 0, .string ⟨#[]⟩, .slice none 0 0, .slice none 0 0, .slice none 0 0, .int .i64 0, .int .i64 0, .int .u8 0, .slice none 0 0, .int .i64 0, .int .i64 0])
 have HR0 := qa0 (HR.out.later HB0.out)
 have hz0 : (w.alloc (.cells #[.int .u8 0, .string ⟨#[]⟩, .int .u8 0, .int .i64 0, .string ⟨#[]⟩, .slice none 0 0, .int .i64 0, .int .i64 0, .int .u8 0, .string ⟨#[]⟩, .slice none 0 0, .slice none 0 0, .slice none 0 0, .int .i64 0, .int .i64 0, .int .u8 0, .slice none 0 0, .int .i64 0, .int .i64 0] 58)).heap.size = w.heap.size + 1 := Array.size_push _
 have HGz : Hid (Gk K w (w.alloc (.cells #[.int .u8 0, .string ⟨#[]⟩, .int .u8 0, .int .i64 0, .string ⟨#[]⟩, .slice none 0 0, .int .i64 0, .int .i64 0, .int .u8 0, .string ⟨#[]⟩, .slice none 0 0, .slice none 0 0, .slice none 0 0, .int .i64 0, .int .i64 0, .int .u8 0, .slice none 0 0, .int .i64 0, .int .i64 0] 58))) := Gk.of HB0.out
 by_cases h1 : (K.g j).k = 1
 case neg =>
  rw [qjo K h1, qa7]
  have HN : Hid (∀ w', Rr K w' j → Calls Tryz.prog 153 #[.pointer (some ⟨K.r, 0, none⟩)] w' fun e w'' => e = mis (K.g j) ∧ Gk K w' w'') := fun w' hr => qjn hr h1
  unfold mis at HN
  clear h1
  go_enter Tryz.func117, Tryz.ntmps117
  go_wp2_with (first
   | (go_at_call 153; refine (HN.out _ HR0.out).mono ?_; rintro e w1 ⟨rfl, hg1⟩; have HG1 := qa0 (HGz.out.trans hg1)))
  exact ⟨rfl, qb4 hjn HG1.out⟩
 have hj := qgt K HKo.out hjn h1
 have hok := HKo.out.ok j hjn
 have htx : (K.g j).tx.size ≤ 140737488351232 := hok.tx47
 clear hok
 rw [qgs K hj h1, qa4]
 have HN : Hid (∀ w', Rr K w' j → Calls Tryz.prog 153 #[.pointer (some ⟨K.r, 0, none⟩)] w' fun e w'' => e = .returned (.string (K.g j).tx) ∧ Rr K w'' (j + 1) ∧ Gk K w' w'') := fun w' hr => (qgr hr h1).mono (fun e w'' h => by rw [show min (j + 1) K.n = j + 1 by omega] at h; exact h)
 clear h1
 generalize (K.g j).tx = tx at *
 go_enter Tryz.func117, Tryz.ntmps117
 go_wp2_with (first
  | (go_at_call 153; refine (HN.out _ HR0.out).mono ?_; rintro e w1 ⟨rfl, hr1, hg1⟩; have HR1 := qa0 hr1; have HG1 := qa0 (HGz.out.trans hg1); have HS1 := qa0 (HS0.out.keptBy (hg1.block _ HS0.out.lt (by omega) (by omega))); clear hr1 hg1)
  | (refine qa1 rfl 58 _ _ rfl w.heap.size _ #[.int .u8 3, .string tx, .int .u8 0, .int .i64 0, .string ⟨#[]⟩, .slice none 0 0, .int .i64 0, .int .i64 0, .int .u8 0, .string ⟨#[]⟩, .slice none 0 0, .slice none 0 0, .slice none 0 0, .int .i64 0, .int .i64 0, .int .u8 0, .slice none 0 0, .int .i64 0, .int .i64 0] rfl rfl HS1.out sizeI rfl (qbn rfl rfl rfl rfl rfl rfl rfl rfl rfl rfl rfl rfl rfl rfl rfl rfl rfl rfl rfl) ?_; intro w8 HV8 hg8))
 refine bodyPost_ret (v := .agg #[.int .u8 3, .string tx, .int .u8 0, .int .i64 0, .string ⟨#[]⟩, .slice none 0 0, .int .i64 0, .int .i64 0, .int .u8 0, .string ⟨#[]⟩, .slice none 0 0, .slice none 0 0, .slice none 0 0, .int .i64 0, .int .i64 0, .int .u8 0, .slice none 0 0, .int .i64 0, .int .i64 0]) (results_cell_row Tryz.results117 _ _ w.heap.size 58 _ (0, 0) _ rfl HV8.out Tryz.underlying58 rfl sizeI) rfl ?_
 have z1 := HG1.out.size
 exact qc0 (HG1.out.up hg8.out (Nat.le_refl _)) (fun u hu => ⟨_, rfl, _, _, none, 0, rfl, qee u, qcq u, fun d i hi => absurd hi (Nat.not_lt_zero i), by show 3 < 256; omega, htx, by show 0 < 256; omega, by show 0 ≤ _; omega⟩) (HR.out.step HR1.out (fun b hb => hg8.out.block b (by omega) (by simp; omega)))
theorem rdom (K : Rk) (hK : RkOk K) (w : World) (j : Nat) (hR : Rr K w j) : Calls Tryz.prog 118 #[.pointer (some ⟨K.r, 0, none⟩)] w (RY IVv K w (pb46 4 (lst K j))) := by
 unfold pb46
 have hlow := hR.low
 have HR := qa0 hR
 have HKo := qa0 hK
 have hjn := hR.le
 have hr := hlow.1
 have hbt := hlow.2
 clear hlow hR hK
 have HB0 := qa0 (jlow w (.cells #[.int .u8 0, .string ⟨#[]⟩, .int .u8 0, .int .i64 0, .string ⟨#[]⟩, .slice none 0 0, .int .i64 0, .int .i64 0, .int .u8 0, .string ⟨#[]⟩, .slice none 0 0, .slice none 0 0, .slice none 0 0, .int .i64 0, .int .i64 0, .int .u8 0, .slice none 0 0, .int .i64 0, .int .i64 0] 58))
 have HS0 := qa0 (Vn.new w 58 #[.int .u8 0, .string ⟨#[]⟩, .int .u8 0, .int .i64 0, .string ⟨#[]⟩, .slice none 0 0, .int .i64 0, .int .i64 0, .int .u8 0, .string ⟨#[]⟩, .slice none 0 0, .slice none 0 0, .slice none 0 0, .int .i64 0, .int .i64 0, .int .u8 0, .slice none 0 0, .int .i64 0, .int .i64 0])
 have HR0 := qa0 (HR.out.later HB0.out)
 have hz0 : (w.alloc (.cells #[.int .u8 0, .string ⟨#[]⟩, .int .u8 0, .int .i64 0, .string ⟨#[]⟩, .slice none 0 0, .int .i64 0, .int .i64 0, .int .u8 0, .string ⟨#[]⟩, .slice none 0 0, .slice none 0 0, .slice none 0 0, .int .i64 0, .int .i64 0, .int .u8 0, .slice none 0 0, .int .i64 0, .int .i64 0] 58)).heap.size = w.heap.size + 1 := Array.size_push _
 have HGz : Hid (Gk K w (w.alloc (.cells #[.int .u8 0, .string ⟨#[]⟩, .int .u8 0, .int .i64 0, .string ⟨#[]⟩, .slice none 0 0, .int .i64 0, .int .i64 0, .int .u8 0, .string ⟨#[]⟩, .slice none 0 0, .slice none 0 0, .slice none 0 0, .int .i64 0, .int .i64 0, .int .u8 0, .slice none 0 0, .int .i64 0, .int .i64 0] 58))) := Gk.of HB0.out
 cases hq : pX (lst K j) with
 | error s =>
  have HP : Hid (∀ w', Rr K w' j → Calls Tryz.prog 39 #[.pointer (some ⟨K.r, 0, none⟩)] w' fun e w'' => e = mis (K.g (K.n - s.length)) ∧ Gk K w' w'') := fun w' hr => (qbp K HKo.out w' j hr).mono (fun e w'' h => by rw [hq] at h; exact qat h)
  rw [qa7]
  unfold mis at HP
  clear hq
  go_enter Tryz.func118, Tryz.ntmps118
  go_wp2_with (first
   | (go_at_call 39; refine (HP.out _ HR0.out).mono ?_; rintro e w1 ⟨rfl, hg1⟩; have HG1 := qa0 (HGz.out.trans hg1)))
  exact ⟨rfl, HG1.out, rfl⟩
 | ok p =>
  obtain ⟨y, s⟩ := p
  have HP : Hid (∀ w', Rr K w' j → Calls Tryz.prog 39 #[.pointer (some ⟨K.r, 0, none⟩)] w' fun e w'' => (∃ v, e = .returned v ∧ Fr w'.heap.size w'' (fun u => XV u v y) ∧ Rr K w'' (K.n - s.length)) ∧ Gk K w' w'') := fun w' hr => (qbp K HKo.out w' j hr).mono (fun e w'' h => by rw [hq] at h; exact qbe h)
  rw [qa4]
  clear hq
  go_enter Tryz.func118, Tryz.ntmps118
  go_wp2_with (first
   | (go_at_call 39; refine (HP.out _ HR0.out).mono ?_; rintro e w1 ⟨⟨v, rfl, hfr, hr1⟩, hg1⟩; obtain ⟨⟨ra, rcap, rfl, _⟩, _⟩ := hfr.now; have HF1 := qa0 hfr; have HR1 := qa0 hr1; have HG1 := qa0 (HGz.out.trans hg1); have HS1 := qa0 (HS0.out.keptBy (hg1.block _ HS0.out.lt (by omega) (by omega))); have hzz := hg1.size; clear hfr hr1 hg1)
   | (refine qa1 rfl 58 _ _ rfl w.heap.size _ #[.int .u8 4, .string ⟨#[]⟩, .int .u8 ((y []).k : Int), .int .i64 (y []).n, .string (y []).nm, .slice ra (y []).len rcap, .int .i64 (y []).ln, .int .i64 (y []).cl, .int .u8 0, .string ⟨#[]⟩, .slice none 0 0, .slice none 0 0, .slice none 0 0, .int .i64 0, .int .i64 0, .int .u8 0, .slice none 0 0, .int .i64 0, .int .i64 0] rfl rfl HS1.out sizeI rfl (qbn rfl rfl rfl rfl rfl rfl rfl rfl rfl rfl rfl rfl rfl rfl rfl rfl rfl rfl rfl) ?_; intro w8 HV8 hg8))
  refine bodyPost_ret (v := .agg #[.int .u8 4, .string ⟨#[]⟩, .int .u8 ((y []).k : Int), .int .i64 (y []).n, .string (y []).nm, .slice ra (y []).len rcap, .int .i64 (y []).ln, .int .i64 (y []).cl, .int .u8 0, .string ⟨#[]⟩, .slice none 0 0, .slice none 0 0, .slice none 0 0, .int .i64 0, .int .i64 0, .int .u8 0, .slice none 0 0, .int .i64 0, .int .i64 0]) (results_cell_row Tryz.results118 _ _ w.heap.size 58 _ (0, 0) _ rfl HV8.out Tryz.underlying58 rfl sizeI) rfl ?_
  have z1 := HG1.out.size
  refine qbo (HG1.out.up hg8.out (Nat.le_refl _)) (fun u hu => ⟨_, rfl, ?_⟩) (HR.out.step HR1.out (fun b hb => hg8.out.block b (by omega) (by simp; omega)))
  have hu2 : Ag (w.alloc (.cells #[.int .u8 0, .string ⟨#[]⟩, .int .u8 0, .int .i64 0, .string ⟨#[]⟩, .slice none 0 0, .int .i64 0, .int .i64 0, .int .u8 0, .string ⟨#[]⟩, .slice none 0 0, .slice none 0 0, .slice none 0 0, .int .i64 0, .int .i64 0, .int .u8 0, .slice none 0 0, .int .i64 0, .int .i64 0] 58)).heap.size w1 u := ⟨by have := hu.size; have := hg8.out.size; omega, fun b h1 h2 => by rw [hu.same b (by omega) (by have := hg8.out.size; omega), hg8.out.block b h2 (by simp; omega)]⟩
  exact ⟨_, _, none, 0, rfl, (HF1.out u hu2).xc, qcq u, fun d i hi => absurd hi (Nat.not_lt_zero i), by show 4 < 256; omega, by show 0 ≤ _; omega, by show 0 < 256; omega, by show 0 ≤ _; omega⟩
theorem rtol (K : Rk) (hK : RkOk K) (w : World) (j : Nat) (hR : Rr K w j) : Calls Tryz.prog 119 #[.pointer (some ⟨K.r, 0, none⟩)] w (RY IVv K w (pb46 6 (lst K j))) := by
 unfold pb46
 have hlow := hR.low
 have HR := qa0 hR
 have HKo := qa0 hK
 have hjn := hR.le
 have hr := hlow.1
 have hbt := hlow.2
 clear hlow hR hK
 have HB0 := qa0 (jlow w (.cells #[.int .u8 0, .string ⟨#[]⟩, .int .u8 0, .int .i64 0, .string ⟨#[]⟩, .slice none 0 0, .int .i64 0, .int .i64 0, .int .u8 0, .string ⟨#[]⟩, .slice none 0 0, .slice none 0 0, .slice none 0 0, .int .i64 0, .int .i64 0, .int .u8 0, .slice none 0 0, .int .i64 0, .int .i64 0] 58))
 have HS0 := qa0 (Vn.new w 58 #[.int .u8 0, .string ⟨#[]⟩, .int .u8 0, .int .i64 0, .string ⟨#[]⟩, .slice none 0 0, .int .i64 0, .int .i64 0, .int .u8 0, .string ⟨#[]⟩, .slice none 0 0, .slice none 0 0, .slice none 0 0, .int .i64 0, .int .i64 0, .int .u8 0, .slice none 0 0, .int .i64 0, .int .i64 0])
 have HR0 := qa0 (HR.out.later HB0.out)
 have hz0 : (w.alloc (.cells #[.int .u8 0, .string ⟨#[]⟩, .int .u8 0, .int .i64 0, .string ⟨#[]⟩, .slice none 0 0, .int .i64 0, .int .i64 0, .int .u8 0, .string ⟨#[]⟩, .slice none 0 0, .slice none 0 0, .slice none 0 0, .int .i64 0, .int .i64 0, .int .u8 0, .slice none 0 0, .int .i64 0, .int .i64 0] 58)).heap.size = w.heap.size + 1 := Array.size_push _
 have HGz : Hid (Gk K w (w.alloc (.cells #[.int .u8 0, .string ⟨#[]⟩, .int .u8 0, .int .i64 0, .string ⟨#[]⟩, .slice none 0 0, .int .i64 0, .int .i64 0, .int .u8 0, .string ⟨#[]⟩, .slice none 0 0, .slice none 0 0, .slice none 0 0, .int .i64 0, .int .i64 0, .int .u8 0, .slice none 0 0, .int .i64 0, .int .i64 0] 58))) := Gk.of HB0.out
 cases hq : pX (lst K j) with
 | error s =>
  have HP : Hid (∀ w', Rr K w' j → Calls Tryz.prog 39 #[.pointer (some ⟨K.r, 0, none⟩)] w' fun e w'' => e = mis (K.g (K.n - s.length)) ∧ Gk K w' w'') := fun w' hr => (qbp K HKo.out w' j hr).mono (fun e w'' h => by rw [hq] at h; exact qat h)
  rw [qa7]
  unfold mis at HP
  clear hq
  go_enter Tryz.func119, Tryz.ntmps119
  go_wp2_with (first
   | (go_at_call 39; refine (HP.out _ HR0.out).mono ?_; rintro e w1 ⟨rfl, hg1⟩; have HG1 := qa0 (HGz.out.trans hg1)))
  exact ⟨rfl, HG1.out, rfl⟩
 | ok p =>
  obtain ⟨y, s⟩ := p
  have HP : Hid (∀ w', Rr K w' j → Calls Tryz.prog 39 #[.pointer (some ⟨K.r, 0, none⟩)] w' fun e w'' => (∃ v, e = .returned v ∧ Fr w'.heap.size w'' (fun u => XV u v y) ∧ Rr K w'' (K.n - s.length)) ∧ Gk K w' w'') := fun w' hr => (qbp K HKo.out w' j hr).mono (fun e w'' h => by rw [hq] at h; exact qbe h)
  rw [qa4]
  clear hq
  go_enter Tryz.func119, Tryz.ntmps119
  go_wp2_with (first
   | (go_at_call 39; refine (HP.out _ HR0.out).mono ?_; rintro e w1 ⟨⟨v, rfl, hfr, hr1⟩, hg1⟩; obtain ⟨⟨ra, rcap, rfl, _⟩, _⟩ := hfr.now; have HF1 := qa0 hfr; have HR1 := qa0 hr1; have HG1 := qa0 (HGz.out.trans hg1); have HS1 := qa0 (HS0.out.keptBy (hg1.block _ HS0.out.lt (by omega) (by omega))); have hzz := hg1.size; clear hfr hr1 hg1)
   | (refine qa1 rfl 58 _ _ rfl w.heap.size _ #[.int .u8 6, .string ⟨#[]⟩, .int .u8 ((y []).k : Int), .int .i64 (y []).n, .string (y []).nm, .slice ra (y []).len rcap, .int .i64 (y []).ln, .int .i64 (y []).cl, .int .u8 0, .string ⟨#[]⟩, .slice none 0 0, .slice none 0 0, .slice none 0 0, .int .i64 0, .int .i64 0, .int .u8 0, .slice none 0 0, .int .i64 0, .int .i64 0] rfl rfl HS1.out sizeI rfl (qbn rfl rfl rfl rfl rfl rfl rfl rfl rfl rfl rfl rfl rfl rfl rfl rfl rfl rfl rfl) ?_; intro w8 HV8 hg8))
  refine bodyPost_ret (v := .agg #[.int .u8 6, .string ⟨#[]⟩, .int .u8 ((y []).k : Int), .int .i64 (y []).n, .string (y []).nm, .slice ra (y []).len rcap, .int .i64 (y []).ln, .int .i64 (y []).cl, .int .u8 0, .string ⟨#[]⟩, .slice none 0 0, .slice none 0 0, .slice none 0 0, .int .i64 0, .int .i64 0, .int .u8 0, .slice none 0 0, .int .i64 0, .int .i64 0]) (results_cell_row Tryz.results119 _ _ w.heap.size 58 _ (0, 0) _ rfl HV8.out Tryz.underlying58 rfl sizeI) rfl ?_
  have z1 := HG1.out.size
  refine qbo (HG1.out.up hg8.out (Nat.le_refl _)) (fun u hu => ⟨_, rfl, ?_⟩) (HR.out.step HR1.out (fun b hb => hg8.out.block b (by omega) (by simp; omega)))
  have hu2 : Ag (w.alloc (.cells #[.int .u8 0, .string ⟨#[]⟩, .int .u8 0, .int .i64 0, .string ⟨#[]⟩, .slice none 0 0, .int .i64 0, .int .i64 0, .int .u8 0, .string ⟨#[]⟩, .slice none 0 0, .slice none 0 0, .slice none 0 0, .int .i64 0, .int .i64 0, .int .u8 0, .slice none 0 0, .int .i64 0, .int .i64 0] 58)).heap.size w1 u := ⟨by have := hu.size; have := hg8.out.size; omega, fun b h1 h2 => by rw [hu.same b (by omega) (by have := hg8.out.size; omega), hg8.out.block b h2 (by simp; omega)]⟩
  exact ⟨_, _, none, 0, rfl, (HF1.out u hu2).xc, qcq u, fun d i hi => absurd hi (Nat.not_lt_zero i), by show 6 < 256; omega, by show 0 ≤ _; omega, by show 0 < 256; omega, by show 0 ≤ _; omega⟩
end Go.Proofs.YtnjcpmkfghcogaaGreatDoor
