/-
  Stage 11: item.
-/
import Derived.Test.YtnjcpmkfghcogaaGreatDoorQbbks00
import Derived.Test.YtnjcpmkfghcogaaGreatDoorQbbks35
set_option maxRecDepth 100000
set_option maxHeartbeats 16000000
namespace Go.Proofs.YtnjcpmkfghcogaaGreatDoor
open Go.RowKit Go.Maps
def pbx (k : Nat) (L : List TV) : Rd It := if k = 1 then pb1 L else if k = 2 then pb2 L else if k = 3 then pb3 L else if k = 5 then pplc tv0 L else pb46 k L
def stp (t : TV) (I : It) : It := { I with ln := t.ln, cl := t.cl }
theorem pplc_x (t : TV) (L : List TV) : pplc t L = thn (pplc tv0 L) (fun I s => .ok (stp t I, s)) := by
 cases L with
 | nil => rfl
 | cons u q =>
  rw [qb6, qb6]
  split
  ·rfl
  ·split
   ·rw [qap]
    rfl
   ·split
    ·rw [qap]
     refine qam rfl (fun _ s _ => ?_)
     rw [qap]
     refine qam rfl (fun l z _ => ?_)
     rw [qap]
     rfl
    ·rfl
theorem qfh (t : TV) (r : List TV) (h : kitem t ≠ 0) (h6 : kitem t ≤ 6) : pbody t r = thn (pbx (kitem t) r) (fun I s => .ok (stp t I, s)) := by
 unfold pbody pbx
 by_cases k1 : kitem t = 1
 ·rw [if_pos k1, if_pos k1]
  unfold pb1
  rw [qap]
  refine qam rfl (fun _ s _ => ?_)
  rw [qap]
  refine qam rfl (fun _ s _ => ?_)
  rw [qap]
  rfl
 rw [if_neg k1, if_neg k1]
 by_cases k2 : kitem t = 2
 ·rw [if_pos k2, if_pos k2]
  unfold pb2
  rw [qap]
  refine qam rfl (fun _ s _ => ?_)
  rw [qap]
  refine qam rfl (fun _ s _ => ?_)
  rw [qap]
  rfl
 rw [if_neg k2, if_neg k2]
 by_cases k3 : kitem t = 3
 ·rw [if_pos k3, if_pos k3]
  unfold pb3
  rw [qap]
  rfl
 rw [if_neg k3, if_neg k3]
 by_cases k5 : kitem t = 5
 ·rw [if_pos k5, if_pos k5]
  exact pplc_x t r
 rw [if_neg k5, if_neg k5, if_pos (by omega)]
 unfold pb46
 rw [qap]
 rfl
theorem qdm (t : TV) : kitem t ≤ 6 := by
 unfold kitem
 repeat' split
 all_goals omega
theorem qhl {t : TV} {k : Nat} (h : kitem t = k) (hk : k ≠ 0) : t.tx = iwd k := by
 unfold kitem at h
 split at h
 ·subst h; assumption
 ·split at h
  ·subst h; assumption
  ·split at h
   ·subst h; assumption
   ·split at h
    ·subst h; assumption
    ·split at h
     ·subst h; assumption
     ·split at h
      ·subst h; assumption
      ·exact absurd h.symm hk
theorem kitem_no {t : TV} (h : kitem t = 0) : ∀ k, 1 ≤ k → k ≤ 6 → t.tx ≠ iwd k := fun k h1 h6 e => by
 have := qi1 h1 h6 e
 omega
theorem qad {u : World} {cs : Array Value} {I : It} (h : IC u cs.toList I) : cs.size = 19 ∧ cs.all (·.oneCell') = true ∧ ∀ a b, IC u ((cs.setIfInBounds 17 (.int .i64 a)).setIfInBounds 18 (.int .i64 b)).toList { I with ln := a, cl := b } := by
 obtain ⟨vc, sc, la, lc, e, ⟨xa, xc, e1, hx⟩, ⟨aa, pa, ra, ca, cp, cr, e2, hs⟩, r⟩ := h
 obtain ⟨l⟩ := cs
 have e : l = _ := e
 subst e1 e2
 subst e
 refine ⟨rfl, ?_, fun a b => ⟨_, _, la, lc, rfl, ⟨xa, xc, rfl, hx⟩, ⟨aa, pa, ra, ca, cp, cr, rfl, hs⟩, r⟩⟩
 exact qbn rfl rfl rfl rfl rfl rfl rfl rfl rfl rfl rfl rfl rfl rfl rfl rfl rfl rfl rfl
theorem qag (w : World) : (zeroValue 140).run Tryz.prog w = .ok .nilFunc w := by kernel_rfl
theorem qah : Tryz.prog.underlying 99 = some (.map 9 140) := by kernel_rfl
theorem rrest (K : Rk) (hK : RkOk K) (k : Nat) (h1 : 1 ≤ k) (h6 : k ≤ 6) (w : World) (j : Nat) (hR : Rr K w j) : Calls Tryz.prog (fno k) #[.pointer (some ⟨K.r, 0, none⟩)] w (RY IVv K w (pbx k (lst K j))) := by
 obtain rfl | rfl | rfl | rfl | rfl | rfl : k = 1 ∨ k = 2 ∨ k = 3 ∨ k = 4 ∨ k = 5 ∨ k = 6 := by omega
 ·exact rconst K hK w j hR
 ·exact rcode K hK w j hR
 ·exact ruse K hK w j hR
 ·exact rdom K hK w j hR
 ·exact rplace K hK w j hR
 ·exact rtol K hK w j hR
theorem pplc_suf (L : List TV) : Suf (pplc tv0 L) L := by
 cases L with
 | nil => exact List.suffix_refl _
 | cons u q =>
  rw [qb6]
  split
  ·exact (show Suf (.ok (yI 5 ⟨#[]⟩ l0x l0s (kplace u) [] tv0, q)) q from List.suffix_refl _).cons u
  ·split
   ·exact ((qd3 q).thn (f := fun y z => .ok (yI 5 ⟨#[]⟩ y l0s 3 [] tv0, z)) (fun y z _ => List.suffix_refl _)).cons u
   ·split
    ·exact ((Suf.ask ⟨#[91]⟩ () q).thn (fun _ s _ => (qdl _ s).thn (fun l z _ => (Suf.ask ⟨#[93]⟩ l z).thn (f := fun l a => .ok (yI 5 ⟨#[]⟩ l0x l0s 4 l tv0, a)) (fun l a _ => List.suffix_refl _)))).cons u
    ·exact List.suffix_refl _
theorem qgv (L : List TV) : Suf (pnm L) L := by
 cases L with
 | nil => exact List.suffix_refl _
 | cons u q =>
  rw [qdj]
  split
  ·exact (show Suf (.ok (u.tx, q)) q from List.suffix_refl _).cons u
  ·exact List.suffix_refl _
theorem qcr (k : Nat) (L : List TV) : Suf (pbx k L) L := by
 unfold pbx
 split
 ·exact (qgv L).thn (fun nm s _ => (Suf.ask ⟨#[61]⟩ nm s).thn (fun nm q _ => (qd3 q).thn (f := fun y z => .ok (yI 1 nm y l0s 0 [] tv0, z)) (fun y z _ => List.suffix_refl _)))
 ·split
  ·exact (qgv L).thn (fun nm s _ => (Suf.ask ⟨#[61]⟩ nm s).thn (fun nm q _ => (qjm _ q).thn (f := fun y z => .ok (yI 2 nm l0x y 0 [] tv0, z)) (fun y z _ => List.suffix_refl _)))
  ·split
   ·exact (qgv L).thn (f := fun nm s => .ok (yI 3 nm l0x l0s 0 [] tv0, s)) (fun nm s _ => List.suffix_refl _)
   ·split
    ·exact pplc_suf L
    ·exact (qd3 L).thn (f := fun y z => .ok (yI k ⟨#[]⟩ y l0s 0 [] tv0, z)) (fun y z _ => List.suffix_refl _)
theorem qdu {u : World} {v : Value} {I : It} (h : IVv u v I) : ∃ cs : Array Value, v = .agg cs ∧ cs.size = 19 ∧ cs.all (·.oneCell') = true := by
 obtain ⟨cs, e, h⟩ := h
 exact ⟨cs, e, (qad h).1, (qad h).2.1⟩
theorem ritem (K : Rk) (hK : RkOk K) (w : World) (j bm : Nat) (hR : Rr K w j) (hM : ItM w bm) : Calls Tryz.prog 59 #[.pointer (some ⟨K.r, 0, none⟩), .map (some bm)] w (RY IVv K w (pit (lst K j))) := by
 have HM := qa0 hM
 clear hM
 have hlow := hR.low
 have HR := qa0 hR
 have HKo := qa0 hK
 have hjn := hR.le
 have hr := hlow.1
 have hbt := hlow.2
 clear hlow hR hK
 have HB0 := qa0 (jlow w (.cells #[.int .u8 0, .string ⟨#[]⟩, .int .u8 0, .int .i64 0, .string ⟨#[]⟩, .slice none 0 0, .int .i64 0, .int .i64 0, .int .u8 0, .string ⟨#[]⟩, .slice none 0 0, .slice none 0 0, .slice none 0 0, .int .i64 0, .int .i64 0, .int .u8 0, .slice none 0 0, .int .i64 0, .int .i64 0] 58))
 have HS0 := qa0 (Vn.new w 58 #[.int .u8 0, .string ⟨#[]⟩, .int .u8 0, .int .i64 0, .string ⟨#[]⟩, .slice none 0 0, .int .i64 0, .int .i64 0, .int .u8 0, .string ⟨#[]⟩, .slice none 0 0, .slice none 0 0, .slice none 0 0, .int .i64 0, .int .i64 0, .int .u8 0, .slice none 0 0, .int .i64 0, .int .i64 0])
 have HR0 := qa0 (HR.out.later HB0.out)
 have hz0 : (w.alloc (.cells #[.int .u8 0, .string ⟨#[]⟩, .int .u8 0, .int .i64 0, .string ⟨#[]⟩, .slice none 0 0, .int .i64 0, .int .i64 0, .int .u8 0, .string ⟨#[]⟩, .slice none 0 0, .slice none 0 0, .slice none 0 0, .int .i64 0, .int .i64 0, .int .u8 0, .slice none 0 0, .int .i64 0, .int .i64 0] 58)).heap.size = w.heap.size + 1 := Array.size_push _
 have HGz : Hid (Gk K w (w.alloc (.cells #[.int .u8 0, .string ⟨#[]⟩, .int .u8 0, .int .i64 0, .string ⟨#[]⟩, .slice none 0 0, .int .i64 0, .int .i64 0, .int .u8 0, .string ⟨#[]⟩, .slice none 0 0, .slice none 0 0, .slice none 0 0, .int .i64 0, .int .i64 0, .int .u8 0, .slice none 0 0, .int .i64 0, .int .i64 0] 58))) := Gk.of HB0.out
 have HM0 := qa0 (HM.out.later HB0.out)
 have MT : True := trivial
 have MI : True := trivial
 obtain ⟨⟨tk, tx, tn, tl, tc⟩, ht⟩ : ∃ t, K.g j = t := ⟨_, rfl⟩
 have htx : tx.size ≤ 140737488351232 := by have h := (HKo.out.ok j hjn).tx47; rw [ht] at h; exact h
 have HTa0 : Hid (∀ w', Rr K w' j → Calls Tryz.prog 84 #[.pointer (some ⟨K.r, 0, none⟩)] w' fun e w'' => e = .returned (.agg #[.int .u8 (tk : Int), .string tx, .int .i64 tn, .int .i64 tl, .int .i64 tc]) ∧ Rr K w'' (min (j + 1) K.n) ∧ Gk K w' w'') := fun w' hr => by
  have h := rtake K w' j hr
  unfold tvq at h
  rw [ht] at h
  exact h
 obtain ⟨kk, hkk⟩ : ∃ kk, kitem ⟨tk, tx, tn, tl, tc⟩ = kk := ⟨_, rfl⟩
 have hk6 : kk ≤ 6 := by rw [← hkk]; exact qdm _
 by_cases hk0 : kk = 0
 ·subst hk0
  have HKy : Hid (keyOf Tryz.prog 9 (.string tx) = some (.string tx.data.toList)) := WideMaps.keyOf_string_mk Tryz.underlying9 (by unfold maxLen; omega)
  have hh : Maps.has itD (.string tx.data.toList) = false := itD_no (fun k h1 h6 => kitem_no hkk k h1 h6)
  have hQ : pit (lst K j) = .error (lst K j) := by
   rcases Nat.lt_or_ge j K.n with g | g
   ·rw [qaa K g, qbz, ht]
    unfold pbody
    rw [hkk]
    rfl
   ·rw [qbl K g]
    rfl
  rw [hQ]
  have HTa := HTa0
  have hme : mis (K.g j) = .panicked [{ v := .iface 96 (.agg #[.int .u8 (tk : Int), .string tx, .int .i64 tn, .int .i64 tl, .int .i64 tc]), recovered := false }] := by rw [ht]; rfl
  have HME := qa0 hme
  clear hQ ht hme hkk HTa0
  go_enter Tryz.func59, Tryz.ntmps59
  go_wp2_with (first
   | (go_at_call 84; refine (HTa.out _ HR0.out).mono ?_; rintro e w1 ⟨rfl, hr1, hg1⟩; have HR1 := qa0 hr1; have HG1 := qa0 (HGz.out.trans hg1); have HM1 := qa0 (HM0.out.gk hg1 HR0.out); have HS1 := qa0 (HS0.out.keptBy (hg1.block _ HS0.out.lt (by omega) (by omega))); have z1 := hg1.size; clear hr1 hg1)
   | (clear MT; refine qa1 rfl 104 _ _ rfl w1.heap.size _ #[.int .u8 (tk : Int), .string tx, .int .i64 tn, .int .i64 tl, .int .i64 tc] rfl rfl (Vn.new w1 _ _) sizeTok rfl (all5 rfl rfl rfl rfl rfl) ?_; intro w2 HT2 hg2; have hb2 : Below w1.heap.size w1 w2 := (jlow _ _).trans (jbelow hg2.out (jlow _ _).size (fun g e => by cases e; exact Nat.le_refl _)); have HR2 := qa0 (HR1.out.later hb2); have HG2 := qa0 (HG1.out.trans (Gk.of hb2)); have HM2 := qa0 (HM1.out.later hb2); have HS2 := qa0 (HS1.out.later hb2); have e0 := HT2.out.cell 0 _ rfl; have e1 := HT2.out.cell 1 _ rfl; have e2 := HT2.out.cell 2 _ rfl; have e3 := HT2.out.cell 3 _ rfl; have e4 := HT2.out.cell 4 _ rfl; have z2 := HT2.out.lt; clear hg2 hb2)
   | (at_lookup; refine wpList_lookup_own_ok _ rfl _ _ 99 rfl 9 140 qax qah fnEl (qag _) (.lit (.int .i64 (-1))) [] rfl bm 6 itD rfl HM2.out _ _ rfl HKy.out ?_; intro v ps hv; clear hv))
  have hy := qb4 (P := IVv) hjn HG2.out
  rw [HME.out] at hy
  exact ⟨rfl, hy⟩
 have hj : j < K.n := by
  rcases Nat.lt_or_ge j K.n with g | g
  ·exact g
  ·obtain rfl : j = K.n := by omega
   have he := HKo.out.et
   rw [ht] at he
   have hw := qhl hkk hk0
   rw [show (⟨tk, tx, tn, tl, tc⟩ : TV).tx = ⟨#[]⟩ from he] at hw
   obtain rfl | rfl | rfl | rfl | rfl | rfl : kk = 1 ∨ kk = 2 ∨ kk = 3 ∨ kk = 4 ∨ kk = 5 ∨ kk = 6 := by omega
   all_goals exact absurd hw (by decide)
 have HTa : Hid (∀ w', Rr K w' j → Calls Tryz.prog 84 #[.pointer (some ⟨K.r, 0, none⟩)] w' fun e w'' => e = .returned (.agg #[.int .u8 (tk : Int), .string tx, .int .i64 tn, .int .i64 tl, .int .i64 tc]) ∧ Rr K w'' (j + 1) ∧ Gk K w' w'') := fun w' hr => (HTa0.out w' hr).mono (fun e w'' h => by rw [show min (j + 1) K.n = j + 1 by omega] at h; exact h)
 rw [qaa K hj, qbz, ht, qfh _ _ (by rw [hkk]; exact hk0) (qdm _), hkk, qap]
 have HKy : Hid (keyOf Tryz.prog 9 (.string tx) = some (kyl kk)) := by
  have e := qhl hkk hk0
  rw [show tx = iwd kk from e]
  exact qgu kk (by omega) hk6
 have hh := (itD_at kk (by omega) hk6).1
 have HAt := qa0 (itD_at kk (by omega) hk6).2
 have HPa := qa0 (fun w' hr => rrest K HKo.out kk (by omega) hk6 w' (j + 1) hr)
 clear HTa0 hkk ht
 obtain rfl | rfl | rfl | rfl | rfl | rfl : kk = 1 ∨ kk = 2 ∨ kk = 3 ∨ kk = 4 ∨ kk = 5 ∨ kk = 6 := by omega
 ·have HPk : Hid (∀ w', Rr K w' (j + 1) → Calls Tryz.prog 115 #[.pointer (some ⟨K.r, 0, none⟩)] w' (RY IVv K w' (pbx 1 (lst K (j + 1))))) := fun w' hr => HPa.out w' hr
  have HAtk : Hid (itD.atKey (kyl 1) (.lit (.int .i64 (-1))) = .lit (.int .i64 ((115 : Nat) : Int))) := HAt
  clear HPa HAt
  cases hq : pbx 1 (lst K (j + 1)) with
  | error s =>
   have HP : Hid (∀ w', Rr K w' (j + 1) → Calls Tryz.prog 115 #[.pointer (some ⟨K.r, 0, none⟩)] w' fun e w'' => e = mis (K.g (K.n - s.length)) ∧ Gk K w' w'') := fun w' hr => (HPk.out w' hr).mono (fun e w'' h => by rw [hq] at h; exact qat h)
   rw [qa7]
   unfold mis at HP
   clear hq HPk
   go_enter Tryz.func59, Tryz.ntmps59
   go_wp2_with (first
    | (go_at_call 84; refine (HTa.out _ HR0.out).mono ?_; rintro e w1 ⟨rfl, hr1, hg1⟩; have HR1 := qa0 hr1; have HG1 := qa0 (HGz.out.trans hg1); have HM1 := qa0 (HM0.out.gk hg1 HR0.out); have HS1 := qa0 (HS0.out.keptBy (hg1.block _ HS0.out.lt (by omega) (by omega))); have z1 := hg1.size; clear hr1 hg1)
    | (clear MT; refine qa1 rfl 104 _ _ rfl w1.heap.size _ #[.int .u8 (tk : Int), .string tx, .int .i64 tn, .int .i64 tl, .int .i64 tc] rfl rfl (Vn.new w1 _ _) sizeTok rfl (all5 rfl rfl rfl rfl rfl) ?_; intro w2 HT2 hg2; have hb2 : Below w1.heap.size w1 w2 := (jlow _ _).trans (jbelow hg2.out (jlow _ _).size (fun g e => by cases e; exact Nat.le_refl _)); have HR2 := qa0 (HR1.out.later hb2); have HG2 := qa0 (HG1.out.trans (Gk.of hb2)); have HM2 := qa0 (HM1.out.later hb2); have HS2 := qa0 (HS1.out.later hb2); have e0 := HT2.out.cell 0 _ rfl; have e1 := HT2.out.cell 1 _ rfl; have e2 := HT2.out.cell 2 _ rfl; have e3 := HT2.out.cell 3 _ rfl; have e4 := HT2.out.cell 4 _ rfl; have z2 := HT2.out.lt; clear hg2 hb2)
    | (at_lookup; refine wpList_lookup_own_ok _ rfl _ _ 99 rfl 9 140 qax qah fnEl (qag _) (.lit (.int .i64 (-1))) [] rfl bm 6 itD rfl HM2.out _ _ rfl HKy.out ?_; intro v ps hv; rw [HAtk.out] at hv; have hvv := qaq hv; clear hv; subst hvv)
    | (go_at_call 115; refine (HP.out _ HR2.out).mono ?_; rintro e w3 ⟨rfl, hg3⟩; have HG3 := qa0 (HG2.out.trans hg3)))
   exact ⟨rfl, HG3.out, rfl⟩
  | ok p =>
   obtain ⟨I, s⟩ := p
   have HP : Hid (∀ w', Rr K w' (j + 1) → Calls Tryz.prog 115 #[.pointer (some ⟨K.r, 0, none⟩)] w' fun e w'' => (∃ v, e = .returned v ∧ Fr w'.heap.size w'' (fun u => IVv u v I) ∧ Rr K w'' (K.n - s.length)) ∧ Gk K w' w'') := fun w' hr => (HPk.out w' hr).mono (fun e w'' h => by rw [hq] at h; exact qbe h)
   rw [qa4, qa4]
   have hsuf := qcr 1 (lst K (j + 1))
   rw [hq] at hsuf
   have hs := qaw K _ (j + 1) rfl hsuf
   obtain ⟨j3, Hj3⟩ : ∃ j3, Hid (K.n - s.length = j3) := ⟨_, rfl⟩
   rw [Hj3.out] at HP hs
   have hj3 : j3 ≤ K.n := by have := Hj3.out; omega
   rw [hs]
   clear hq hsuf hs Hj3 HPk
   by_cases hc : (K.g j3).tx = ⟨#[59]⟩
   ·have hj4 := qao K HKo.out hj3 (fun e => by cases e) hc
    rw [qb1 K hj4 hc]
    have HC : Hid (∀ w', Rr K w' j3 → Calls Tryz.prog 121 #[.pointer (some ⟨K.r, 0, none⟩), .string ⟨#[59]⟩] w' fun e w'' => e = .returned (.tuple #[]) ∧ Rr K w'' (j3 + 1) ∧ Gk K w' w'') := fun w' hr => (qb0 hr hc).mono (fun e w'' h => by rw [show min (j3 + 1) K.n = j3 + 1 by omega] at h; exact h)
    clear hc
    ·have M0 : True := trivial
     clear M0
     go_enter Tryz.func59, Tryz.ntmps59
     go_wp2_with (first
      | (go_at_call 84; refine (HTa.out _ HR0.out).mono ?_; rintro e w1 ⟨rfl, hr1, hg1⟩; have HR1 := qa0 hr1; have HG1 := qa0 (HGz.out.trans hg1); have HM1 := qa0 (HM0.out.gk hg1 HR0.out); have HS1 := qa0 (HS0.out.keptBy (hg1.block _ HS0.out.lt (by omega) (by omega))); have z1 := hg1.size; clear hr1 hg1)
      | (clear MT; refine qa1 rfl 104 _ _ rfl w1.heap.size _ #[.int .u8 (tk : Int), .string tx, .int .i64 tn, .int .i64 tl, .int .i64 tc] rfl rfl (Vn.new w1 _ _) sizeTok rfl (all5 rfl rfl rfl rfl rfl) ?_; intro w2 HT2 hg2; have hb2 : Below w1.heap.size w1 w2 := (jlow _ _).trans (jbelow hg2.out (jlow _ _).size (fun g e => by cases e; exact Nat.le_refl _)); have HR2 := qa0 (HR1.out.later hb2); have HG2 := qa0 (HG1.out.trans (Gk.of hb2)); have HM2 := qa0 (HM1.out.later hb2); have HS2 := qa0 (HS1.out.later hb2); have e0 := HT2.out.cell 0 _ rfl; have e1 := HT2.out.cell 1 _ rfl; have e2 := HT2.out.cell 2 _ rfl; have e3 := HT2.out.cell 3 _ rfl; have e4 := HT2.out.cell 4 _ rfl; have z2 := HT2.out.lt; clear hg2 hb2)
      | (at_lookup; refine wpList_lookup_own_ok _ rfl _ _ 99 rfl 9 140 qax qah fnEl (qag _) (.lit (.int .i64 (-1))) [] rfl bm 6 itD rfl HM2.out _ _ rfl HKy.out ?_; intro v ps hv; rw [HAtk.out] at hv; have hvv := qaq hv; clear hv; subst hvv)
      | (go_at_call 115; refine (HP.out _ HR2.out).mono ?_; rintro e w3 ⟨⟨v, rfl, hfr, hr3⟩, hg3⟩; obtain ⟨cs, rfl, hsz, hall⟩ := qdu hfr.now; have HF3 := qa0 hfr; have HR3 := qa0 hr3; have HG3 := qa0 (HG2.out.trans hg3); have HS3 := qa0 (HS2.out.keptBy (hg3.block _ HS2.out.lt (by omega) (by omega))); have HT3 := qa0 (HT2.out.keptBy (hg3.block _ HT2.out.lt (by omega) (by omega))); have HSz := qa0 hsz; have HAl := qa0 hall; have z3 := hg3.size; clear hfr hr3 hg3 hsz hall)
      | (clear MI; refine qa1 rfl 58 _ _ rfl w3.heap.size _ cs rfl rfl (Vn.new w3 _ _) (by rw [HSz.out]; exact sizeI) (by rw [HSz.out]; rfl) HAl.out ?_; intro w4 HI4 hg4; have hb4 : Below w3.heap.size w3 w4 := (jlow _ _).trans (jbelow hg4.out (jlow _ _).size (fun g e => by cases e; exact Nat.le_refl _)); have HR4 := qa0 (HR3.out.later hb4); have HG4 := qa0 (HG3.out.trans (Gk.of hb4)); have HS4 := qa0 (HS3.out.later hb4); have HT4 := qa0 (HT3.out.later hb4); have HL4 := qa0 hb4; have z4 := HI4.out.lt; clear hg4 hb4)
      | (go_at_call 121; refine (HC.out _ HR4.out).mono ?_; rintro e w5 ⟨rfl, hr5, hg5⟩; have HR5 := qa0 hr5; have HG5 := qa0 (HG4.out.trans hg5); have HS5 := qa0 (HS4.out.keptBy (hg5.block _ HS4.out.lt (by omega) (by omega))); have HT5 := qa0 (HT4.out.keptBy (hg5.block _ HT4.out.lt (by omega) (by omega))); have HI5 := qa0 (HI4.out.keptBy (hg5.block _ HI4.out.lt (by omega) (by omega))); have HQ5 := qa0 hg5; have z5 := hg5.size; clear hr5 hg5))
     refine wp_region_held (S := fun w' => w'.cell? ⟨w1.heap.size, 3, none⟩ = some (.int .i64 tl) ∧ w'.cell? ⟨w1.heap.size, 4, none⟩ = some (.int .i64 tc)) (by kernel_rfl) ?_
     change wpAnyH _ _ _ _ _ _ _ _ (World.drew _)
     obtain ⟨wd, HWd⟩ : ∃ wd, Hid (w5.drew = wd) := ⟨_, rfl⟩
     have HTd : Hid (Vn wd w1.heap.size 104 #[.int .u8 (tk : Int), .string tx, .int .i64 tn, .int .i64 tl, .int .i64 tc]) := by show Vn _ _ _ _; rw [← HWd.out]; exact HT5.out
     have HId : Hid (Vn wd w3.heap.size 58 cs) := by show Vn _ _ _ _; rw [← HWd.out]; exact HI5.out
     have HSd : Hid (Vn wd w.heap.size 58 #[.int .u8 0, .string ⟨#[]⟩, .int .u8 0, .int .i64 0, .string ⟨#[]⟩, .slice none 0 0, .int .i64 0, .int .i64 0, .int .u8 0, .string ⟨#[]⟩, .slice none 0 0, .slice none 0 0, .slice none 0 0, .int .i64 0, .int .i64 0, .int .u8 0, .slice none 0 0, .int .i64 0, .int .i64 0]) := by show Vn _ _ _ _; rw [← HWd.out]; exact HS5.out
     have HDd : Hid (Below w5.heap.size w5 wd) := by show Below _ _ _; rw [← HWd.out]; exact (Below.refl _ _).drew
     have zd := HDd.out.size
     rw [HWd.out]
     clear HWd
     refine wtkq 0 ?vs0_1 rfl (by kernel_rfl) (fun _ _ _ h => h) (by rfl) ?ys0_1 ⟨HTd.out.cell 3 _ rfl, HTd.out.cell 4 _ rfl⟩ ?zs0_1
     case ys0_1 => (intro w hSw; (try dsimp only at hSw); (try obtain ⟨s0, s1⟩ := hSw); go_simp; try with_reducible rfl)
     try simp only [nz1, nz3, Act.put, nz4, nz5, nz6]
     refine wtkq 1 ?vs1_2 rfl (by kernel_rfl) (fun _ _ _ h => h) (by rfl) ?ys1_2 ⟨HTd.out.cell 3 _ rfl, HTd.out.cell 4 _ rfl⟩ ?zs1_2
     case ys1_2 => (intro w hSw; (try dsimp only at hSw); (try obtain ⟨s0, s1⟩ := hSw); go_simp; try with_reducible rfl)
     try simp only [nz1, nz2, nz3, Act.put, nz4, nz5, nz6]
     refine wtkq 2 ?vs2_3 rfl (by kernel_rfl) (fun _ _ _ h => h) (by rfl) ?ys2_3 ⟨HTd.out.cell 3 _ rfl, HTd.out.cell 4 _ rfl⟩ ?zs2_3
     case ys2_3 => (intro w hSw; (try dsimp only at hSw); (try obtain ⟨s0, s1⟩ := hSw); go_simp; try with_reducible rfl)
     try simp only [nz1, nz2, nz3, Act.put, nz4, nz5, nz6]
     refine wtkq 3 ?vs3_4 rfl (by kernel_rfl) (fun _ _ _ h => h) (by rfl) ?ys3_4 ⟨HTd.out.cell 3 _ rfl, HTd.out.cell 4 _ rfl⟩ ?zs3_4
     case ys3_4 => (intro w hSw; (try dsimp only at hSw); (try obtain ⟨s0, s1⟩ := hSw); go_simp; try with_reducible rfl)
     try simp only [nz1, nz2, nz3, Act.put, nz4, nz5, nz6]
     refine wtkq 4 ?vs4_5 rfl (by kernel_rfl) (fun _ _ _ h => h) (by rfl) ?ys4_5 ⟨HTd.out.cell 3 _ rfl, HTd.out.cell 4 _ rfl⟩ ?zs4_5
     case ys4_5 => (intro w hSw; (try dsimp only at hSw); (try obtain ⟨s0, s1⟩ := hSw); go_simp; try with_reducible rfl)
     try simp only [nz1, nz2, nz3, Act.put, nz4, nz5, nz6]
     refine wpAnyH_ready (rs := [5]) (by kernel_rfl) (by simp) ?_
     refine AllReadyH.cons rfl (fun KK hKK => ?_) AllReadyH.nil
     refine qa8 3 _ _ rfl w3.heap.size 17 58 cs (.int .i64 tl) rfl rfl qbk rfl rfl HId.out (by rw [HSz.out]; omega) ?_
     intro w6 HI6 hg6
     have HT6 := qa0 (HTd.out.keptG hg6.out (by simp; omega))
     have HS6 := qa0 (HSd.out.keptG hg6.out (by simp; omega))
     refine hKK.out _ _ ⟨HT6.out.cell 3 _ rfl, HT6.out.cell 4 _ rfl⟩ (fun _ => ?_)
     clear hKK KK
     try simp only [nz1, nz2, nz3, Act.put]
     refine wtkq 6 ?vs6_6 rfl (by kernel_rfl) (fun _ _ _ h => h) (by rfl) ?ys6_6 ⟨HT6.out.cell 3 _ rfl, HT6.out.cell 4 _ rfl⟩ ?zs6_6
     case ys6_6 => (intro w hSw; (try dsimp only at hSw); (try obtain ⟨s0, s1⟩ := hSw); go_simp; try with_reducible rfl)
     try simp only [nz1, nz2, nz3, Act.put, nz4, nz5, nz6]
     refine wpAnyH_ready (rs := [7]) (by kernel_rfl) (by simp) ?_
     refine AllReadyH.cons rfl (fun KK hKK => ?_) AllReadyH.nil
     refine qa8 3 _ _ rfl w3.heap.size 18 58 _ (.int .i64 tc) rfl rfl qbk rfl rfl HI6.out (by rw [Array.size_setIfInBounds, HSz.out]; omega) ?_
     intro w7 HI7 hg7
     have HT7 := qa0 (HT6.out.keptG hg7.out (by simp; omega))
     have HS7 := qa0 (HS6.out.keptG hg7.out (by simp; omega))
     refine hKK.out _ _ ⟨HT7.out.cell 3 _ rfl, HT7.out.cell 4 _ rfl⟩ (fun _ => ?_)
     clear hKK KK
     try simp only [nz1, nz2, nz3, Act.put]
     refine wpAnyH_done (by kernel_rfl) ?_ _
     obtain ⟨ds, HDs⟩ : ∃ ds, Hid (((cs.setIfInBounds 17 (.int .i64 tl)).setIfInBounds 18 (.int .i64 tc)) = ds) := ⟨_, rfl⟩
     have hI7 := HI7.out
     rw [HDs.out] at hI7
     have HI7b := qa0 hI7
     have HSz2 : Hid (ds.size = 19) := by show _ = _; rw [← HDs.out, Array.size_setIfInBounds, Array.size_setIfInBounds]; exact HSz.out
     have HAl2 : Hid (ds.all (·.oneCell') = true) := by
      have hq := (qad ((HF3.out.now).choose_spec.2)).2.2 tl tc
      show _ = _
      obtain ⟨cs', e', hIC⟩ := HF3.out.now
      cases e'
      rw [← HDs.out]
      exact (qad ((qad hIC).2.2 tl tc)).2.1
     clear hI7 HI7
     have ML : True := trivial
     go_wp2_with (first
      | (clear ML; refine qa2 (by rfl) 58 _ rfl w3.heap.size rfl 58 ds (0, 0) _ HI7b.out Tryz.underlying58 rfl (by rw [HSz2.out]; exact sizeI) ?_)
      | (refine qa1 rfl 58 _ _ rfl w.heap.size _ ds rfl rfl HS7.out (by rw [HSz2.out]; exact sizeI) (by rw [HSz2.out]; rfl) HAl2.out ?_; intro w8 HV8 hg8))
     refine bodyPost_ret (v := .agg ds) (results_cell_row Tryz.results59 _ _ w.heap.size 58 _ (0, 0) _ rfl HV8.out Tryz.underlying58 rfl (by rw [HSz2.out]; exact sizeI)) rfl ?_
     have z6 := hg6.out.size
     have z7 := hg7.out.size
     have z8 := hg8.out.size
     have hkeep : ∀ b, b < w5.heap.size → b ≠ w3.heap.size → b ≠ w.heap.size → w8.heap[b]? = w5.heap[b]? := fun b h1 h2 h3 => by rw [hg8.out.block b (by omega) (by simp; omega), hg7.out.block b (by omega) (by simp; omega), hg6.out.block b (by omega) (by simp; omega), HDd.out.block b h1]
     have zg := HG5.out.size
     refine qc0 ((((HG5.out.trans (Gk.of HDd.out)).up hg6.out (by omega)).up hg7.out (by omega)).up hg8.out (Nat.le_refl _)) (fun u hu => ⟨ds, rfl, ?_⟩) (HR.out.step HR5.out (fun b hb => hkeep b (by omega) (by omega) (by omega)))
     obtain ⟨cs', e', hIC⟩ := HF3.out u ⟨by have := hu.size; omega, fun b h1 h2 => by rw [hu.same b (by omega) (by omega), hkeep b (by omega) (by omega) (by omega), HQ5.out.block b (by omega) (by omega) (by omega), HL4.out.block b h2]⟩
     cases e'
     rw [← HDs.out]
     exact (qad hIC).2.2 tl tc
   ·rw [qbh K hc]
    have HC : Hid (∀ w', Rr K w' j3 → Calls Tryz.prog 121 #[.pointer (some ⟨K.r, 0, none⟩), .string ⟨#[59]⟩] w' fun e w'' => e = mis (K.g j3) ∧ Gk K w' w'') := fun w' hr => qbg hr hc
    unfold mis at HC
    clear hc
    go_enter Tryz.func59, Tryz.ntmps59
    go_wp2_with (first
     | (go_at_call 84; refine (HTa.out _ HR0.out).mono ?_; rintro e w1 ⟨rfl, hr1, hg1⟩; have HR1 := qa0 hr1; have HG1 := qa0 (HGz.out.trans hg1); have HM1 := qa0 (HM0.out.gk hg1 HR0.out); have HS1 := qa0 (HS0.out.keptBy (hg1.block _ HS0.out.lt (by omega) (by omega))); have z1 := hg1.size; clear hr1 hg1)
     | (clear MT; refine qa1 rfl 104 _ _ rfl w1.heap.size _ #[.int .u8 (tk : Int), .string tx, .int .i64 tn, .int .i64 tl, .int .i64 tc] rfl rfl (Vn.new w1 _ _) sizeTok rfl (all5 rfl rfl rfl rfl rfl) ?_; intro w2 HT2 hg2; have hb2 : Below w1.heap.size w1 w2 := (jlow _ _).trans (jbelow hg2.out (jlow _ _).size (fun g e => by cases e; exact Nat.le_refl _)); have HR2 := qa0 (HR1.out.later hb2); have HG2 := qa0 (HG1.out.trans (Gk.of hb2)); have HM2 := qa0 (HM1.out.later hb2); have HS2 := qa0 (HS1.out.later hb2); have e0 := HT2.out.cell 0 _ rfl; have e1 := HT2.out.cell 1 _ rfl; have e2 := HT2.out.cell 2 _ rfl; have e3 := HT2.out.cell 3 _ rfl; have e4 := HT2.out.cell 4 _ rfl; have z2 := HT2.out.lt; clear hg2 hb2)
     | (at_lookup; refine wpList_lookup_own_ok _ rfl _ _ 99 rfl 9 140 qax qah fnEl (qag _) (.lit (.int .i64 (-1))) [] rfl bm 6 itD rfl HM2.out _ _ rfl HKy.out ?_; intro v ps hv; rw [HAtk.out] at hv; have hvv := qaq hv; clear hv; subst hvv)
     | (go_at_call 115; refine (HP.out _ HR2.out).mono ?_; rintro e w3 ⟨⟨v, rfl, hfr, hr3⟩, hg3⟩; obtain ⟨cs, rfl, hsz, hall⟩ := qdu hfr.now; have HF3 := qa0 hfr; have HR3 := qa0 hr3; have HG3 := qa0 (HG2.out.trans hg3); have HS3 := qa0 (HS2.out.keptBy (hg3.block _ HS2.out.lt (by omega) (by omega))); have HT3 := qa0 (HT2.out.keptBy (hg3.block _ HT2.out.lt (by omega) (by omega))); have HSz := qa0 hsz; have HAl := qa0 hall; have z3 := hg3.size; clear hfr hr3 hg3 hsz hall)
     | (clear MI; refine qa1 rfl 58 _ _ rfl w3.heap.size _ cs rfl rfl (Vn.new w3 _ _) (by rw [HSz.out]; exact sizeI) (by rw [HSz.out]; rfl) HAl.out ?_; intro w4 HI4 hg4; have hb4 : Below w3.heap.size w3 w4 := (jlow _ _).trans (jbelow hg4.out (jlow _ _).size (fun g e => by cases e; exact Nat.le_refl _)); have HR4 := qa0 (HR3.out.later hb4); have HG4 := qa0 (HG3.out.trans (Gk.of hb4)); have HS4 := qa0 (HS3.out.later hb4); have HT4 := qa0 (HT3.out.later hb4); have HL4 := qa0 hb4; have z4 := HI4.out.lt; clear hg4 hb4)
     | (go_at_call 121; refine (HC.out _ HR4.out).mono ?_; rintro e w5 ⟨rfl, hg5⟩; have HG5 := qa0 (HG4.out.trans hg5)))
    exact ⟨rfl, qb4 hj3 HG5.out⟩
 ·have HPk : Hid (∀ w', Rr K w' (j + 1) → Calls Tryz.prog 116 #[.pointer (some ⟨K.r, 0, none⟩)] w' (RY IVv K w' (pbx 2 (lst K (j + 1))))) := fun w' hr => HPa.out w' hr
  have HAtk : Hid (itD.atKey (kyl 2) (.lit (.int .i64 (-1))) = .lit (.int .i64 ((116 : Nat) : Int))) := HAt
  clear HPa HAt
  cases hq : pbx 2 (lst K (j + 1)) with
  | error s =>
   have HP : Hid (∀ w', Rr K w' (j + 1) → Calls Tryz.prog 116 #[.pointer (some ⟨K.r, 0, none⟩)] w' fun e w'' => e = mis (K.g (K.n - s.length)) ∧ Gk K w' w'') := fun w' hr => (HPk.out w' hr).mono (fun e w'' h => by rw [hq] at h; exact qat h)
   rw [qa7]
   unfold mis at HP
   clear hq HPk
   go_enter Tryz.func59, Tryz.ntmps59
   go_wp2_with (first
    | (go_at_call 84; refine (HTa.out _ HR0.out).mono ?_; rintro e w1 ⟨rfl, hr1, hg1⟩; have HR1 := qa0 hr1; have HG1 := qa0 (HGz.out.trans hg1); have HM1 := qa0 (HM0.out.gk hg1 HR0.out); have HS1 := qa0 (HS0.out.keptBy (hg1.block _ HS0.out.lt (by omega) (by omega))); have z1 := hg1.size; clear hr1 hg1)
    | (clear MT; refine qa1 rfl 104 _ _ rfl w1.heap.size _ #[.int .u8 (tk : Int), .string tx, .int .i64 tn, .int .i64 tl, .int .i64 tc] rfl rfl (Vn.new w1 _ _) sizeTok rfl (all5 rfl rfl rfl rfl rfl) ?_; intro w2 HT2 hg2; have hb2 : Below w1.heap.size w1 w2 := (jlow _ _).trans (jbelow hg2.out (jlow _ _).size (fun g e => by cases e; exact Nat.le_refl _)); have HR2 := qa0 (HR1.out.later hb2); have HG2 := qa0 (HG1.out.trans (Gk.of hb2)); have HM2 := qa0 (HM1.out.later hb2); have HS2 := qa0 (HS1.out.later hb2); have e0 := HT2.out.cell 0 _ rfl; have e1 := HT2.out.cell 1 _ rfl; have e2 := HT2.out.cell 2 _ rfl; have e3 := HT2.out.cell 3 _ rfl; have e4 := HT2.out.cell 4 _ rfl; have z2 := HT2.out.lt; clear hg2 hb2)
    | (at_lookup; refine wpList_lookup_own_ok _ rfl _ _ 99 rfl 9 140 qax qah fnEl (qag _) (.lit (.int .i64 (-1))) [] rfl bm 6 itD rfl HM2.out _ _ rfl HKy.out ?_; intro v ps hv; rw [HAtk.out] at hv; have hvv := qaq hv; clear hv; subst hvv)
    | (go_at_call 116; refine (HP.out _ HR2.out).mono ?_; rintro e w3 ⟨rfl, hg3⟩; have HG3 := qa0 (HG2.out.trans hg3)))
   exact ⟨rfl, HG3.out, rfl⟩
  | ok p =>
   obtain ⟨I, s⟩ := p
   have HP : Hid (∀ w', Rr K w' (j + 1) → Calls Tryz.prog 116 #[.pointer (some ⟨K.r, 0, none⟩)] w' fun e w'' => (∃ v, e = .returned v ∧ Fr w'.heap.size w'' (fun u => IVv u v I) ∧ Rr K w'' (K.n - s.length)) ∧ Gk K w' w'') := fun w' hr => (HPk.out w' hr).mono (fun e w'' h => by rw [hq] at h; exact qbe h)
   rw [qa4, qa4]
   have hsuf := qcr 2 (lst K (j + 1))
   rw [hq] at hsuf
   have hs := qaw K _ (j + 1) rfl hsuf
   obtain ⟨j3, Hj3⟩ : ∃ j3, Hid (K.n - s.length = j3) := ⟨_, rfl⟩
   rw [Hj3.out] at HP hs
   have hj3 : j3 ≤ K.n := by have := Hj3.out; omega
   rw [hs]
   clear hq hsuf hs Hj3 HPk
   by_cases hc : (K.g j3).tx = ⟨#[59]⟩
   ·have hj4 := qao K HKo.out hj3 (fun e => by cases e) hc
    rw [qb1 K hj4 hc]
    have HC : Hid (∀ w', Rr K w' j3 → Calls Tryz.prog 121 #[.pointer (some ⟨K.r, 0, none⟩), .string ⟨#[59]⟩] w' fun e w'' => e = .returned (.tuple #[]) ∧ Rr K w'' (j3 + 1) ∧ Gk K w' w'') := fun w' hr => (qb0 hr hc).mono (fun e w'' h => by rw [show min (j3 + 1) K.n = j3 + 1 by omega] at h; exact h)
    clear hc
    ·have M0 : True := trivial
     clear M0
     go_enter Tryz.func59, Tryz.ntmps59
     go_wp2_with (first
      | (go_at_call 84; refine (HTa.out _ HR0.out).mono ?_; rintro e w1 ⟨rfl, hr1, hg1⟩; have HR1 := qa0 hr1; have HG1 := qa0 (HGz.out.trans hg1); have HM1 := qa0 (HM0.out.gk hg1 HR0.out); have HS1 := qa0 (HS0.out.keptBy (hg1.block _ HS0.out.lt (by omega) (by omega))); have z1 := hg1.size; clear hr1 hg1)
      | (clear MT; refine qa1 rfl 104 _ _ rfl w1.heap.size _ #[.int .u8 (tk : Int), .string tx, .int .i64 tn, .int .i64 tl, .int .i64 tc] rfl rfl (Vn.new w1 _ _) sizeTok rfl (all5 rfl rfl rfl rfl rfl) ?_; intro w2 HT2 hg2; have hb2 : Below w1.heap.size w1 w2 := (jlow _ _).trans (jbelow hg2.out (jlow _ _).size (fun g e => by cases e; exact Nat.le_refl _)); have HR2 := qa0 (HR1.out.later hb2); have HG2 := qa0 (HG1.out.trans (Gk.of hb2)); have HM2 := qa0 (HM1.out.later hb2); have HS2 := qa0 (HS1.out.later hb2); have e0 := HT2.out.cell 0 _ rfl; have e1 := HT2.out.cell 1 _ rfl; have e2 := HT2.out.cell 2 _ rfl; have e3 := HT2.out.cell 3 _ rfl; have e4 := HT2.out.cell 4 _ rfl; have z2 := HT2.out.lt; clear hg2 hb2)
      | (at_lookup; refine wpList_lookup_own_ok _ rfl _ _ 99 rfl 9 140 qax qah fnEl (qag _) (.lit (.int .i64 (-1))) [] rfl bm 6 itD rfl HM2.out _ _ rfl HKy.out ?_; intro v ps hv; rw [HAtk.out] at hv; have hvv := qaq hv; clear hv; subst hvv)
      | (go_at_call 116; refine (HP.out _ HR2.out).mono ?_; rintro e w3 ⟨⟨v, rfl, hfr, hr3⟩, hg3⟩; obtain ⟨cs, rfl, hsz, hall⟩ := qdu hfr.now; have HF3 := qa0 hfr; have HR3 := qa0 hr3; have HG3 := qa0 (HG2.out.trans hg3); have HS3 := qa0 (HS2.out.keptBy (hg3.block _ HS2.out.lt (by omega) (by omega))); have HT3 := qa0 (HT2.out.keptBy (hg3.block _ HT2.out.lt (by omega) (by omega))); have HSz := qa0 hsz; have HAl := qa0 hall; have z3 := hg3.size; clear hfr hr3 hg3 hsz hall)
      | (clear MI; refine qa1 rfl 58 _ _ rfl w3.heap.size _ cs rfl rfl (Vn.new w3 _ _) (by rw [HSz.out]; exact sizeI) (by rw [HSz.out]; rfl) HAl.out ?_; intro w4 HI4 hg4; have hb4 : Below w3.heap.size w3 w4 := (jlow _ _).trans (jbelow hg4.out (jlow _ _).size (fun g e => by cases e; exact Nat.le_refl _)); have HR4 := qa0 (HR3.out.later hb4); have HG4 := qa0 (HG3.out.trans (Gk.of hb4)); have HS4 := qa0 (HS3.out.later hb4); have HT4 := qa0 (HT3.out.later hb4); have HL4 := qa0 hb4; have z4 := HI4.out.lt; clear hg4 hb4)
      | (go_at_call 121; refine (HC.out _ HR4.out).mono ?_; rintro e w5 ⟨rfl, hr5, hg5⟩; have HR5 := qa0 hr5; have HG5 := qa0 (HG4.out.trans hg5); have HS5 := qa0 (HS4.out.keptBy (hg5.block _ HS4.out.lt (by omega) (by omega))); have HT5 := qa0 (HT4.out.keptBy (hg5.block _ HT4.out.lt (by omega) (by omega))); have HI5 := qa0 (HI4.out.keptBy (hg5.block _ HI4.out.lt (by omega) (by omega))); have HQ5 := qa0 hg5; have z5 := hg5.size; clear hr5 hg5))
     refine wp_region_held (S := fun w' => w'.cell? ⟨w1.heap.size, 3, none⟩ = some (.int .i64 tl) ∧ w'.cell? ⟨w1.heap.size, 4, none⟩ = some (.int .i64 tc)) (by kernel_rfl) ?_
     change wpAnyH _ _ _ _ _ _ _ _ (World.drew _)
     obtain ⟨wd, HWd⟩ : ∃ wd, Hid (w5.drew = wd) := ⟨_, rfl⟩
     have HTd : Hid (Vn wd w1.heap.size 104 #[.int .u8 (tk : Int), .string tx, .int .i64 tn, .int .i64 tl, .int .i64 tc]) := by show Vn _ _ _ _; rw [← HWd.out]; exact HT5.out
     have HId : Hid (Vn wd w3.heap.size 58 cs) := by show Vn _ _ _ _; rw [← HWd.out]; exact HI5.out
     have HSd : Hid (Vn wd w.heap.size 58 #[.int .u8 0, .string ⟨#[]⟩, .int .u8 0, .int .i64 0, .string ⟨#[]⟩, .slice none 0 0, .int .i64 0, .int .i64 0, .int .u8 0, .string ⟨#[]⟩, .slice none 0 0, .slice none 0 0, .slice none 0 0, .int .i64 0, .int .i64 0, .int .u8 0, .slice none 0 0, .int .i64 0, .int .i64 0]) := by show Vn _ _ _ _; rw [← HWd.out]; exact HS5.out
     have HDd : Hid (Below w5.heap.size w5 wd) := by show Below _ _ _; rw [← HWd.out]; exact (Below.refl _ _).drew
     have zd := HDd.out.size
     rw [HWd.out]
     clear HWd
     refine wtkq 0 ?vs0_7 rfl (by kernel_rfl) (fun _ _ _ h => h) (by rfl) ?ys0_7 ⟨HTd.out.cell 3 _ rfl, HTd.out.cell 4 _ rfl⟩ ?zs0_7
     case ys0_7 => (intro w hSw; (try dsimp only at hSw); (try obtain ⟨s0, s1⟩ := hSw); go_simp; try with_reducible rfl)
     try simp only [nz1, nz3, Act.put, nz4, nz5, nz6]
     refine wtkq 1 ?vs1_8 rfl (by kernel_rfl) (fun _ _ _ h => h) (by rfl) ?ys1_8 ⟨HTd.out.cell 3 _ rfl, HTd.out.cell 4 _ rfl⟩ ?zs1_8
     case ys1_8 => (intro w hSw; (try dsimp only at hSw); (try obtain ⟨s0, s1⟩ := hSw); go_simp; try with_reducible rfl)
     try simp only [nz1, nz2, nz3, Act.put, nz4, nz5, nz6]
     refine wtkq 2 ?vs2_9 rfl (by kernel_rfl) (fun _ _ _ h => h) (by rfl) ?ys2_9 ⟨HTd.out.cell 3 _ rfl, HTd.out.cell 4 _ rfl⟩ ?zs2_9
     case ys2_9 => (intro w hSw; (try dsimp only at hSw); (try obtain ⟨s0, s1⟩ := hSw); go_simp; try with_reducible rfl)
     try simp only [nz1, nz2, nz3, Act.put, nz4, nz5, nz6]
     refine wtkq 3 ?vs3_10 rfl (by kernel_rfl) (fun _ _ _ h => h) (by rfl) ?ys3_10 ⟨HTd.out.cell 3 _ rfl, HTd.out.cell 4 _ rfl⟩ ?zs3_10
     case ys3_10 => (intro w hSw; (try dsimp only at hSw); (try obtain ⟨s0, s1⟩ := hSw); go_simp; try with_reducible rfl)
     try simp only [nz1, nz2, nz3, Act.put, nz4, nz5, nz6]
     refine wtkq 4 ?vs4_11 rfl (by kernel_rfl) (fun _ _ _ h => h) (by rfl) ?ys4_11 ⟨HTd.out.cell 3 _ rfl, HTd.out.cell 4 _ rfl⟩ ?zs4_11
     case ys4_11 => (intro w hSw; (try dsimp only at hSw); (try obtain ⟨s0, s1⟩ := hSw); go_simp; try with_reducible rfl)
     try simp only [nz1, nz2, nz3, Act.put, nz4, nz5, nz6]
     refine wpAnyH_ready (rs := [5]) (by kernel_rfl) (by simp) ?_
     refine AllReadyH.cons rfl (fun KK hKK => ?_) AllReadyH.nil
     refine qa8 3 _ _ rfl w3.heap.size 17 58 cs (.int .i64 tl) rfl rfl qbk rfl rfl HId.out (by rw [HSz.out]; omega) ?_
     intro w6 HI6 hg6
     have HT6 := qa0 (HTd.out.keptG hg6.out (by simp; omega))
     have HS6 := qa0 (HSd.out.keptG hg6.out (by simp; omega))
     refine hKK.out _ _ ⟨HT6.out.cell 3 _ rfl, HT6.out.cell 4 _ rfl⟩ (fun _ => ?_)
     clear hKK KK
     try simp only [nz1, nz2, nz3, Act.put]
     refine wtkq 6 ?vs6_12 rfl (by kernel_rfl) (fun _ _ _ h => h) (by rfl) ?ys6_12 ⟨HT6.out.cell 3 _ rfl, HT6.out.cell 4 _ rfl⟩ ?zs6_12
     case ys6_12 => (intro w hSw; (try dsimp only at hSw); (try obtain ⟨s0, s1⟩ := hSw); go_simp; try with_reducible rfl)
     try simp only [nz1, nz2, nz3, Act.put, nz4, nz5, nz6]
     refine wpAnyH_ready (rs := [7]) (by kernel_rfl) (by simp) ?_
     refine AllReadyH.cons rfl (fun KK hKK => ?_) AllReadyH.nil
     refine qa8 3 _ _ rfl w3.heap.size 18 58 _ (.int .i64 tc) rfl rfl qbk rfl rfl HI6.out (by rw [Array.size_setIfInBounds, HSz.out]; omega) ?_
     intro w7 HI7 hg7
     have HT7 := qa0 (HT6.out.keptG hg7.out (by simp; omega))
     have HS7 := qa0 (HS6.out.keptG hg7.out (by simp; omega))
     refine hKK.out _ _ ⟨HT7.out.cell 3 _ rfl, HT7.out.cell 4 _ rfl⟩ (fun _ => ?_)
     clear hKK KK
     try simp only [nz1, nz2, nz3, Act.put]
     refine wpAnyH_done (by kernel_rfl) ?_ _
     obtain ⟨ds, HDs⟩ : ∃ ds, Hid (((cs.setIfInBounds 17 (.int .i64 tl)).setIfInBounds 18 (.int .i64 tc)) = ds) := ⟨_, rfl⟩
     have hI7 := HI7.out
     rw [HDs.out] at hI7
     have HI7b := qa0 hI7
     have HSz2 : Hid (ds.size = 19) := by show _ = _; rw [← HDs.out, Array.size_setIfInBounds, Array.size_setIfInBounds]; exact HSz.out
     have HAl2 : Hid (ds.all (·.oneCell') = true) := by
      have hq := (qad ((HF3.out.now).choose_spec.2)).2.2 tl tc
      show _ = _
      obtain ⟨cs', e', hIC⟩ := HF3.out.now
      cases e'
      rw [← HDs.out]
      exact (qad ((qad hIC).2.2 tl tc)).2.1
     clear hI7 HI7
     have ML : True := trivial
     go_wp2_with (first
      | (clear ML; refine qa2 (by rfl) 58 _ rfl w3.heap.size rfl 58 ds (0, 0) _ HI7b.out Tryz.underlying58 rfl (by rw [HSz2.out]; exact sizeI) ?_)
      | (refine qa1 rfl 58 _ _ rfl w.heap.size _ ds rfl rfl HS7.out (by rw [HSz2.out]; exact sizeI) (by rw [HSz2.out]; rfl) HAl2.out ?_; intro w8 HV8 hg8))
     refine bodyPost_ret (v := .agg ds) (results_cell_row Tryz.results59 _ _ w.heap.size 58 _ (0, 0) _ rfl HV8.out Tryz.underlying58 rfl (by rw [HSz2.out]; exact sizeI)) rfl ?_
     have z6 := hg6.out.size
     have z7 := hg7.out.size
     have z8 := hg8.out.size
     have hkeep : ∀ b, b < w5.heap.size → b ≠ w3.heap.size → b ≠ w.heap.size → w8.heap[b]? = w5.heap[b]? := fun b h1 h2 h3 => by rw [hg8.out.block b (by omega) (by simp; omega), hg7.out.block b (by omega) (by simp; omega), hg6.out.block b (by omega) (by simp; omega), HDd.out.block b h1]
     have zg := HG5.out.size
     refine qc0 ((((HG5.out.trans (Gk.of HDd.out)).up hg6.out (by omega)).up hg7.out (by omega)).up hg8.out (Nat.le_refl _)) (fun u hu => ⟨ds, rfl, ?_⟩) (HR.out.step HR5.out (fun b hb => hkeep b (by omega) (by omega) (by omega)))
     obtain ⟨cs', e', hIC⟩ := HF3.out u ⟨by have := hu.size; omega, fun b h1 h2 => by rw [hu.same b (by omega) (by omega), hkeep b (by omega) (by omega) (by omega), HQ5.out.block b (by omega) (by omega) (by omega), HL4.out.block b h2]⟩
     cases e'
     rw [← HDs.out]
     exact (qad hIC).2.2 tl tc
   ·rw [qbh K hc]
    have HC : Hid (∀ w', Rr K w' j3 → Calls Tryz.prog 121 #[.pointer (some ⟨K.r, 0, none⟩), .string ⟨#[59]⟩] w' fun e w'' => e = mis (K.g j3) ∧ Gk K w' w'') := fun w' hr => qbg hr hc
    unfold mis at HC
    clear hc
    go_enter Tryz.func59, Tryz.ntmps59
    go_wp2_with (first
     | (go_at_call 84; refine (HTa.out _ HR0.out).mono ?_; rintro e w1 ⟨rfl, hr1, hg1⟩; have HR1 := qa0 hr1; have HG1 := qa0 (HGz.out.trans hg1); have HM1 := qa0 (HM0.out.gk hg1 HR0.out); have HS1 := qa0 (HS0.out.keptBy (hg1.block _ HS0.out.lt (by omega) (by omega))); have z1 := hg1.size; clear hr1 hg1)
     | (clear MT; refine qa1 rfl 104 _ _ rfl w1.heap.size _ #[.int .u8 (tk : Int), .string tx, .int .i64 tn, .int .i64 tl, .int .i64 tc] rfl rfl (Vn.new w1 _ _) sizeTok rfl (all5 rfl rfl rfl rfl rfl) ?_; intro w2 HT2 hg2; have hb2 : Below w1.heap.size w1 w2 := (jlow _ _).trans (jbelow hg2.out (jlow _ _).size (fun g e => by cases e; exact Nat.le_refl _)); have HR2 := qa0 (HR1.out.later hb2); have HG2 := qa0 (HG1.out.trans (Gk.of hb2)); have HM2 := qa0 (HM1.out.later hb2); have HS2 := qa0 (HS1.out.later hb2); have e0 := HT2.out.cell 0 _ rfl; have e1 := HT2.out.cell 1 _ rfl; have e2 := HT2.out.cell 2 _ rfl; have e3 := HT2.out.cell 3 _ rfl; have e4 := HT2.out.cell 4 _ rfl; have z2 := HT2.out.lt; clear hg2 hb2)
     | (at_lookup; refine wpList_lookup_own_ok _ rfl _ _ 99 rfl 9 140 qax qah fnEl (qag _) (.lit (.int .i64 (-1))) [] rfl bm 6 itD rfl HM2.out _ _ rfl HKy.out ?_; intro v ps hv; rw [HAtk.out] at hv; have hvv := qaq hv; clear hv; subst hvv)
     | (go_at_call 116; refine (HP.out _ HR2.out).mono ?_; rintro e w3 ⟨⟨v, rfl, hfr, hr3⟩, hg3⟩; obtain ⟨cs, rfl, hsz, hall⟩ := qdu hfr.now; have HF3 := qa0 hfr; have HR3 := qa0 hr3; have HG3 := qa0 (HG2.out.trans hg3); have HS3 := qa0 (HS2.out.keptBy (hg3.block _ HS2.out.lt (by omega) (by omega))); have HT3 := qa0 (HT2.out.keptBy (hg3.block _ HT2.out.lt (by omega) (by omega))); have HSz := qa0 hsz; have HAl := qa0 hall; have z3 := hg3.size; clear hfr hr3 hg3 hsz hall)
     | (clear MI; refine qa1 rfl 58 _ _ rfl w3.heap.size _ cs rfl rfl (Vn.new w3 _ _) (by rw [HSz.out]; exact sizeI) (by rw [HSz.out]; rfl) HAl.out ?_; intro w4 HI4 hg4; have hb4 : Below w3.heap.size w3 w4 := (jlow _ _).trans (jbelow hg4.out (jlow _ _).size (fun g e => by cases e; exact Nat.le_refl _)); have HR4 := qa0 (HR3.out.later hb4); have HG4 := qa0 (HG3.out.trans (Gk.of hb4)); have HS4 := qa0 (HS3.out.later hb4); have HT4 := qa0 (HT3.out.later hb4); have HL4 := qa0 hb4; have z4 := HI4.out.lt; clear hg4 hb4)
     | (go_at_call 121; refine (HC.out _ HR4.out).mono ?_; rintro e w5 ⟨rfl, hg5⟩; have HG5 := qa0 (HG4.out.trans hg5)))
    exact ⟨rfl, qb4 hj3 HG5.out⟩
 ·have HPk : Hid (∀ w', Rr K w' (j + 1) → Calls Tryz.prog 117 #[.pointer (some ⟨K.r, 0, none⟩)] w' (RY IVv K w' (pbx 3 (lst K (j + 1))))) := fun w' hr => HPa.out w' hr
  have HAtk : Hid (itD.atKey (kyl 3) (.lit (.int .i64 (-1))) = .lit (.int .i64 ((117 : Nat) : Int))) := HAt
  clear HPa HAt
  cases hq : pbx 3 (lst K (j + 1)) with
  | error s =>
   have HP : Hid (∀ w', Rr K w' (j + 1) → Calls Tryz.prog 117 #[.pointer (some ⟨K.r, 0, none⟩)] w' fun e w'' => e = mis (K.g (K.n - s.length)) ∧ Gk K w' w'') := fun w' hr => (HPk.out w' hr).mono (fun e w'' h => by rw [hq] at h; exact qat h)
   rw [qa7]
   unfold mis at HP
   clear hq HPk
   go_enter Tryz.func59, Tryz.ntmps59
   go_wp2_with (first
    | (go_at_call 84; refine (HTa.out _ HR0.out).mono ?_; rintro e w1 ⟨rfl, hr1, hg1⟩; have HR1 := qa0 hr1; have HG1 := qa0 (HGz.out.trans hg1); have HM1 := qa0 (HM0.out.gk hg1 HR0.out); have HS1 := qa0 (HS0.out.keptBy (hg1.block _ HS0.out.lt (by omega) (by omega))); have z1 := hg1.size; clear hr1 hg1)
    | (clear MT; refine qa1 rfl 104 _ _ rfl w1.heap.size _ #[.int .u8 (tk : Int), .string tx, .int .i64 tn, .int .i64 tl, .int .i64 tc] rfl rfl (Vn.new w1 _ _) sizeTok rfl (all5 rfl rfl rfl rfl rfl) ?_; intro w2 HT2 hg2; have hb2 : Below w1.heap.size w1 w2 := (jlow _ _).trans (jbelow hg2.out (jlow _ _).size (fun g e => by cases e; exact Nat.le_refl _)); have HR2 := qa0 (HR1.out.later hb2); have HG2 := qa0 (HG1.out.trans (Gk.of hb2)); have HM2 := qa0 (HM1.out.later hb2); have HS2 := qa0 (HS1.out.later hb2); have e0 := HT2.out.cell 0 _ rfl; have e1 := HT2.out.cell 1 _ rfl; have e2 := HT2.out.cell 2 _ rfl; have e3 := HT2.out.cell 3 _ rfl; have e4 := HT2.out.cell 4 _ rfl; have z2 := HT2.out.lt; clear hg2 hb2)
    | (at_lookup; refine wpList_lookup_own_ok _ rfl _ _ 99 rfl 9 140 qax qah fnEl (qag _) (.lit (.int .i64 (-1))) [] rfl bm 6 itD rfl HM2.out _ _ rfl HKy.out ?_; intro v ps hv; rw [HAtk.out] at hv; have hvv := qaq hv; clear hv; subst hvv)
    | (go_at_call 117; refine (HP.out _ HR2.out).mono ?_; rintro e w3 ⟨rfl, hg3⟩; have HG3 := qa0 (HG2.out.trans hg3)))
   exact ⟨rfl, HG3.out, rfl⟩
  | ok p =>
   obtain ⟨I, s⟩ := p
   have HP : Hid (∀ w', Rr K w' (j + 1) → Calls Tryz.prog 117 #[.pointer (some ⟨K.r, 0, none⟩)] w' fun e w'' => (∃ v, e = .returned v ∧ Fr w'.heap.size w'' (fun u => IVv u v I) ∧ Rr K w'' (K.n - s.length)) ∧ Gk K w' w'') := fun w' hr => (HPk.out w' hr).mono (fun e w'' h => by rw [hq] at h; exact qbe h)
   rw [qa4, qa4]
   have hsuf := qcr 3 (lst K (j + 1))
   rw [hq] at hsuf
   have hs := qaw K _ (j + 1) rfl hsuf
   obtain ⟨j3, Hj3⟩ : ∃ j3, Hid (K.n - s.length = j3) := ⟨_, rfl⟩
   rw [Hj3.out] at HP hs
   have hj3 : j3 ≤ K.n := by have := Hj3.out; omega
   rw [hs]
   clear hq hsuf hs Hj3 HPk
   by_cases hc : (K.g j3).tx = ⟨#[59]⟩
   ·have hj4 := qao K HKo.out hj3 (fun e => by cases e) hc
    rw [qb1 K hj4 hc]
    have HC : Hid (∀ w', Rr K w' j3 → Calls Tryz.prog 121 #[.pointer (some ⟨K.r, 0, none⟩), .string ⟨#[59]⟩] w' fun e w'' => e = .returned (.tuple #[]) ∧ Rr K w'' (j3 + 1) ∧ Gk K w' w'') := fun w' hr => (qb0 hr hc).mono (fun e w'' h => by rw [show min (j3 + 1) K.n = j3 + 1 by omega] at h; exact h)
    clear hc
    ·have M0 : True := trivial
     clear M0
     go_enter Tryz.func59, Tryz.ntmps59
     go_wp2_with (first
      | (go_at_call 84; refine (HTa.out _ HR0.out).mono ?_; rintro e w1 ⟨rfl, hr1, hg1⟩; have HR1 := qa0 hr1; have HG1 := qa0 (HGz.out.trans hg1); have HM1 := qa0 (HM0.out.gk hg1 HR0.out); have HS1 := qa0 (HS0.out.keptBy (hg1.block _ HS0.out.lt (by omega) (by omega))); have z1 := hg1.size; clear hr1 hg1)
      | (clear MT; refine qa1 rfl 104 _ _ rfl w1.heap.size _ #[.int .u8 (tk : Int), .string tx, .int .i64 tn, .int .i64 tl, .int .i64 tc] rfl rfl (Vn.new w1 _ _) sizeTok rfl (all5 rfl rfl rfl rfl rfl) ?_; intro w2 HT2 hg2; have hb2 : Below w1.heap.size w1 w2 := (jlow _ _).trans (jbelow hg2.out (jlow _ _).size (fun g e => by cases e; exact Nat.le_refl _)); have HR2 := qa0 (HR1.out.later hb2); have HG2 := qa0 (HG1.out.trans (Gk.of hb2)); have HM2 := qa0 (HM1.out.later hb2); have HS2 := qa0 (HS1.out.later hb2); have e0 := HT2.out.cell 0 _ rfl; have e1 := HT2.out.cell 1 _ rfl; have e2 := HT2.out.cell 2 _ rfl; have e3 := HT2.out.cell 3 _ rfl; have e4 := HT2.out.cell 4 _ rfl; have z2 := HT2.out.lt; clear hg2 hb2)
      | (at_lookup; refine wpList_lookup_own_ok _ rfl _ _ 99 rfl 9 140 qax qah fnEl (qag _) (.lit (.int .i64 (-1))) [] rfl bm 6 itD rfl HM2.out _ _ rfl HKy.out ?_; intro v ps hv; rw [HAtk.out] at hv; have hvv := qaq hv; clear hv; subst hvv)
      | (go_at_call 117; refine (HP.out _ HR2.out).mono ?_; rintro e w3 ⟨⟨v, rfl, hfr, hr3⟩, hg3⟩; obtain ⟨cs, rfl, hsz, hall⟩ := qdu hfr.now; have HF3 := qa0 hfr; have HR3 := qa0 hr3; have HG3 := qa0 (HG2.out.trans hg3); have HS3 := qa0 (HS2.out.keptBy (hg3.block _ HS2.out.lt (by omega) (by omega))); have HT3 := qa0 (HT2.out.keptBy (hg3.block _ HT2.out.lt (by omega) (by omega))); have HSz := qa0 hsz; have HAl := qa0 hall; have z3 := hg3.size; clear hfr hr3 hg3 hsz hall)
      | (clear MI; refine qa1 rfl 58 _ _ rfl w3.heap.size _ cs rfl rfl (Vn.new w3 _ _) (by rw [HSz.out]; exact sizeI) (by rw [HSz.out]; rfl) HAl.out ?_; intro w4 HI4 hg4; have hb4 : Below w3.heap.size w3 w4 := (jlow _ _).trans (jbelow hg4.out (jlow _ _).size (fun g e => by cases e; exact Nat.le_refl _)); have HR4 := qa0 (HR3.out.later hb4); have HG4 := qa0 (HG3.out.trans (Gk.of hb4)); have HS4 := qa0 (HS3.out.later hb4); have HT4 := qa0 (HT3.out.later hb4); have HL4 := qa0 hb4; have z4 := HI4.out.lt; clear hg4 hb4)
      | (go_at_call 121; refine (HC.out _ HR4.out).mono ?_; rintro e w5 ⟨rfl, hr5, hg5⟩; have HR5 := qa0 hr5; have HG5 := qa0 (HG4.out.trans hg5); have HS5 := qa0 (HS4.out.keptBy (hg5.block _ HS4.out.lt (by omega) (by omega))); have HT5 := qa0 (HT4.out.keptBy (hg5.block _ HT4.out.lt (by omega) (by omega))); have HI5 := qa0 (HI4.out.keptBy (hg5.block _ HI4.out.lt (by omega) (by omega))); have HQ5 := qa0 hg5; have z5 := hg5.size; clear hr5 hg5))
     refine wp_region_held (S := fun w' => w'.cell? ⟨w1.heap.size, 3, none⟩ = some (.int .i64 tl) ∧ w'.cell? ⟨w1.heap.size, 4, none⟩ = some (.int .i64 tc)) (by kernel_rfl) ?_
     change wpAnyH _ _ _ _ _ _ _ _ (World.drew _)
     obtain ⟨wd, HWd⟩ : ∃ wd, Hid (w5.drew = wd) := ⟨_, rfl⟩
     have HTd : Hid (Vn wd w1.heap.size 104 #[.int .u8 (tk : Int), .string tx, .int .i64 tn, .int .i64 tl, .int .i64 tc]) := by show Vn _ _ _ _; rw [← HWd.out]; exact HT5.out
     have HId : Hid (Vn wd w3.heap.size 58 cs) := by show Vn _ _ _ _; rw [← HWd.out]; exact HI5.out
     have HSd : Hid (Vn wd w.heap.size 58 #[.int .u8 0, .string ⟨#[]⟩, .int .u8 0, .int .i64 0, .string ⟨#[]⟩, .slice none 0 0, .int .i64 0, .int .i64 0, .int .u8 0, .string ⟨#[]⟩, .slice none 0 0, .slice none 0 0, .slice none 0 0, .int .i64 0, .int .i64 0, .int .u8 0, .slice none 0 0, .int .i64 0, .int .i64 0]) := by show Vn _ _ _ _; rw [← HWd.out]; exact HS5.out
     have HDd : Hid (Below w5.heap.size w5 wd) := by show Below _ _ _; rw [← HWd.out]; exact (Below.refl _ _).drew
     have zd := HDd.out.size
     rw [HWd.out]
     clear HWd
     refine wtkq 0 ?vs0_13 rfl (by kernel_rfl) (fun _ _ _ h => h) (by rfl) ?ys0_13 ⟨HTd.out.cell 3 _ rfl, HTd.out.cell 4 _ rfl⟩ ?zs0_13
     case ys0_13 => (intro w hSw; (try dsimp only at hSw); (try obtain ⟨s0, s1⟩ := hSw); go_simp; try with_reducible rfl)
     try simp only [nz1, nz3, Act.put, nz4, nz5, nz6]
     refine wtkq 1 ?vs1_14 rfl (by kernel_rfl) (fun _ _ _ h => h) (by rfl) ?ys1_14 ⟨HTd.out.cell 3 _ rfl, HTd.out.cell 4 _ rfl⟩ ?zs1_14
     case ys1_14 => (intro w hSw; (try dsimp only at hSw); (try obtain ⟨s0, s1⟩ := hSw); go_simp; try with_reducible rfl)
     try simp only [nz1, nz2, nz3, Act.put, nz4, nz5, nz6]
     refine wtkq 2 ?vs2_15 rfl (by kernel_rfl) (fun _ _ _ h => h) (by rfl) ?ys2_15 ⟨HTd.out.cell 3 _ rfl, HTd.out.cell 4 _ rfl⟩ ?zs2_15
     case ys2_15 => (intro w hSw; (try dsimp only at hSw); (try obtain ⟨s0, s1⟩ := hSw); go_simp; try with_reducible rfl)
     try simp only [nz1, nz2, nz3, Act.put, nz4, nz5, nz6]
     refine wtkq 3 ?vs3_16 rfl (by kernel_rfl) (fun _ _ _ h => h) (by rfl) ?ys3_16 ⟨HTd.out.cell 3 _ rfl, HTd.out.cell 4 _ rfl⟩ ?zs3_16
     case ys3_16 => (intro w hSw; (try dsimp only at hSw); (try obtain ⟨s0, s1⟩ := hSw); go_simp; try with_reducible rfl)
     try simp only [nz1, nz2, nz3, Act.put, nz4, nz5, nz6]
     refine wtkq 4 ?vs4_17 rfl (by kernel_rfl) (fun _ _ _ h => h) (by rfl) ?ys4_17 ⟨HTd.out.cell 3 _ rfl, HTd.out.cell 4 _ rfl⟩ ?zs4_17
     case ys4_17 => (intro w hSw; (try dsimp only at hSw); (try obtain ⟨s0, s1⟩ := hSw); go_simp; try with_reducible rfl)
     try simp only [nz1, nz2, nz3, Act.put, nz4, nz5, nz6]
     refine wpAnyH_ready (rs := [5]) (by kernel_rfl) (by simp) ?_
     refine AllReadyH.cons rfl (fun KK hKK => ?_) AllReadyH.nil
     refine qa8 3 _ _ rfl w3.heap.size 17 58 cs (.int .i64 tl) rfl rfl qbk rfl rfl HId.out (by rw [HSz.out]; omega) ?_
     intro w6 HI6 hg6
     have HT6 := qa0 (HTd.out.keptG hg6.out (by simp; omega))
     have HS6 := qa0 (HSd.out.keptG hg6.out (by simp; omega))
     refine hKK.out _ _ ⟨HT6.out.cell 3 _ rfl, HT6.out.cell 4 _ rfl⟩ (fun _ => ?_)
     clear hKK KK
     try simp only [nz1, nz2, nz3, Act.put]
     refine wtkq 6 ?vs6_18 rfl (by kernel_rfl) (fun _ _ _ h => h) (by rfl) ?ys6_18 ⟨HT6.out.cell 3 _ rfl, HT6.out.cell 4 _ rfl⟩ ?zs6_18
     case ys6_18 => (intro w hSw; (try dsimp only at hSw); (try obtain ⟨s0, s1⟩ := hSw); go_simp; try with_reducible rfl)
     try simp only [nz1, nz2, nz3, Act.put, nz4, nz5, nz6]
     refine wpAnyH_ready (rs := [7]) (by kernel_rfl) (by simp) ?_
     refine AllReadyH.cons rfl (fun KK hKK => ?_) AllReadyH.nil
     refine qa8 3 _ _ rfl w3.heap.size 18 58 _ (.int .i64 tc) rfl rfl qbk rfl rfl HI6.out (by rw [Array.size_setIfInBounds, HSz.out]; omega) ?_
     intro w7 HI7 hg7
     have HT7 := qa0 (HT6.out.keptG hg7.out (by simp; omega))
     have HS7 := qa0 (HS6.out.keptG hg7.out (by simp; omega))
     refine hKK.out _ _ ⟨HT7.out.cell 3 _ rfl, HT7.out.cell 4 _ rfl⟩ (fun _ => ?_)
     clear hKK KK
     try simp only [nz1, nz2, nz3, Act.put]
     refine wpAnyH_done (by kernel_rfl) ?_ _
     obtain ⟨ds, HDs⟩ : ∃ ds, Hid (((cs.setIfInBounds 17 (.int .i64 tl)).setIfInBounds 18 (.int .i64 tc)) = ds) := ⟨_, rfl⟩
     have hI7 := HI7.out
     rw [HDs.out] at hI7
     have HI7b := qa0 hI7
     have HSz2 : Hid (ds.size = 19) := by show _ = _; rw [← HDs.out, Array.size_setIfInBounds, Array.size_setIfInBounds]; exact HSz.out
     have HAl2 : Hid (ds.all (·.oneCell') = true) := by
      have hq := (qad ((HF3.out.now).choose_spec.2)).2.2 tl tc
      show _ = _
      obtain ⟨cs', e', hIC⟩ := HF3.out.now
      cases e'
      rw [← HDs.out]
      exact (qad ((qad hIC).2.2 tl tc)).2.1
     clear hI7 HI7
     have ML : True := trivial
     go_wp2_with (first
      | (clear ML; refine qa2 (by rfl) 58 _ rfl w3.heap.size rfl 58 ds (0, 0) _ HI7b.out Tryz.underlying58 rfl (by rw [HSz2.out]; exact sizeI) ?_)
      | (refine qa1 rfl 58 _ _ rfl w.heap.size _ ds rfl rfl HS7.out (by rw [HSz2.out]; exact sizeI) (by rw [HSz2.out]; rfl) HAl2.out ?_; intro w8 HV8 hg8))
     refine bodyPost_ret (v := .agg ds) (results_cell_row Tryz.results59 _ _ w.heap.size 58 _ (0, 0) _ rfl HV8.out Tryz.underlying58 rfl (by rw [HSz2.out]; exact sizeI)) rfl ?_
     have z6 := hg6.out.size
     have z7 := hg7.out.size
     have z8 := hg8.out.size
     have hkeep : ∀ b, b < w5.heap.size → b ≠ w3.heap.size → b ≠ w.heap.size → w8.heap[b]? = w5.heap[b]? := fun b h1 h2 h3 => by rw [hg8.out.block b (by omega) (by simp; omega), hg7.out.block b (by omega) (by simp; omega), hg6.out.block b (by omega) (by simp; omega), HDd.out.block b h1]
     have zg := HG5.out.size
     refine qc0 ((((HG5.out.trans (Gk.of HDd.out)).up hg6.out (by omega)).up hg7.out (by omega)).up hg8.out (Nat.le_refl _)) (fun u hu => ⟨ds, rfl, ?_⟩) (HR.out.step HR5.out (fun b hb => hkeep b (by omega) (by omega) (by omega)))
     obtain ⟨cs', e', hIC⟩ := HF3.out u ⟨by have := hu.size; omega, fun b h1 h2 => by rw [hu.same b (by omega) (by omega), hkeep b (by omega) (by omega) (by omega), HQ5.out.block b (by omega) (by omega) (by omega), HL4.out.block b h2]⟩
     cases e'
     rw [← HDs.out]
     exact (qad hIC).2.2 tl tc
   ·rw [qbh K hc]
    have HC : Hid (∀ w', Rr K w' j3 → Calls Tryz.prog 121 #[.pointer (some ⟨K.r, 0, none⟩), .string ⟨#[59]⟩] w' fun e w'' => e = mis (K.g j3) ∧ Gk K w' w'') := fun w' hr => qbg hr hc
    unfold mis at HC
    clear hc
    go_enter Tryz.func59, Tryz.ntmps59
    go_wp2_with (first
     | (go_at_call 84; refine (HTa.out _ HR0.out).mono ?_; rintro e w1 ⟨rfl, hr1, hg1⟩; have HR1 := qa0 hr1; have HG1 := qa0 (HGz.out.trans hg1); have HM1 := qa0 (HM0.out.gk hg1 HR0.out); have HS1 := qa0 (HS0.out.keptBy (hg1.block _ HS0.out.lt (by omega) (by omega))); have z1 := hg1.size; clear hr1 hg1)
     | (clear MT; refine qa1 rfl 104 _ _ rfl w1.heap.size _ #[.int .u8 (tk : Int), .string tx, .int .i64 tn, .int .i64 tl, .int .i64 tc] rfl rfl (Vn.new w1 _ _) sizeTok rfl (all5 rfl rfl rfl rfl rfl) ?_; intro w2 HT2 hg2; have hb2 : Below w1.heap.size w1 w2 := (jlow _ _).trans (jbelow hg2.out (jlow _ _).size (fun g e => by cases e; exact Nat.le_refl _)); have HR2 := qa0 (HR1.out.later hb2); have HG2 := qa0 (HG1.out.trans (Gk.of hb2)); have HM2 := qa0 (HM1.out.later hb2); have HS2 := qa0 (HS1.out.later hb2); have e0 := HT2.out.cell 0 _ rfl; have e1 := HT2.out.cell 1 _ rfl; have e2 := HT2.out.cell 2 _ rfl; have e3 := HT2.out.cell 3 _ rfl; have e4 := HT2.out.cell 4 _ rfl; have z2 := HT2.out.lt; clear hg2 hb2)
     | (at_lookup; refine wpList_lookup_own_ok _ rfl _ _ 99 rfl 9 140 qax qah fnEl (qag _) (.lit (.int .i64 (-1))) [] rfl bm 6 itD rfl HM2.out _ _ rfl HKy.out ?_; intro v ps hv; rw [HAtk.out] at hv; have hvv := qaq hv; clear hv; subst hvv)
     | (go_at_call 117; refine (HP.out _ HR2.out).mono ?_; rintro e w3 ⟨⟨v, rfl, hfr, hr3⟩, hg3⟩; obtain ⟨cs, rfl, hsz, hall⟩ := qdu hfr.now; have HF3 := qa0 hfr; have HR3 := qa0 hr3; have HG3 := qa0 (HG2.out.trans hg3); have HS3 := qa0 (HS2.out.keptBy (hg3.block _ HS2.out.lt (by omega) (by omega))); have HT3 := qa0 (HT2.out.keptBy (hg3.block _ HT2.out.lt (by omega) (by omega))); have HSz := qa0 hsz; have HAl := qa0 hall; have z3 := hg3.size; clear hfr hr3 hg3 hsz hall)
     | (clear MI; refine qa1 rfl 58 _ _ rfl w3.heap.size _ cs rfl rfl (Vn.new w3 _ _) (by rw [HSz.out]; exact sizeI) (by rw [HSz.out]; rfl) HAl.out ?_; intro w4 HI4 hg4; have hb4 : Below w3.heap.size w3 w4 := (jlow _ _).trans (jbelow hg4.out (jlow _ _).size (fun g e => by cases e; exact Nat.le_refl _)); have HR4 := qa0 (HR3.out.later hb4); have HG4 := qa0 (HG3.out.trans (Gk.of hb4)); have HS4 := qa0 (HS3.out.later hb4); have HT4 := qa0 (HT3.out.later hb4); have HL4 := qa0 hb4; have z4 := HI4.out.lt; clear hg4 hb4)
     | (go_at_call 121; refine (HC.out _ HR4.out).mono ?_; rintro e w5 ⟨rfl, hg5⟩; have HG5 := qa0 (HG4.out.trans hg5)))
    exact ⟨rfl, qb4 hj3 HG5.out⟩
 ·have HPk : Hid (∀ w', Rr K w' (j + 1) → Calls Tryz.prog 118 #[.pointer (some ⟨K.r, 0, none⟩)] w' (RY IVv K w' (pbx 4 (lst K (j + 1))))) := fun w' hr => HPa.out w' hr
  have HAtk : Hid (itD.atKey (kyl 4) (.lit (.int .i64 (-1))) = .lit (.int .i64 ((118 : Nat) : Int))) := HAt
  clear HPa HAt
  cases hq : pbx 4 (lst K (j + 1)) with
  | error s =>
   have HP : Hid (∀ w', Rr K w' (j + 1) → Calls Tryz.prog 118 #[.pointer (some ⟨K.r, 0, none⟩)] w' fun e w'' => e = mis (K.g (K.n - s.length)) ∧ Gk K w' w'') := fun w' hr => (HPk.out w' hr).mono (fun e w'' h => by rw [hq] at h; exact qat h)
   rw [qa7]
   unfold mis at HP
   clear hq HPk
   go_enter Tryz.func59, Tryz.ntmps59
   go_wp2_with (first
    | (go_at_call 84; refine (HTa.out _ HR0.out).mono ?_; rintro e w1 ⟨rfl, hr1, hg1⟩; have HR1 := qa0 hr1; have HG1 := qa0 (HGz.out.trans hg1); have HM1 := qa0 (HM0.out.gk hg1 HR0.out); have HS1 := qa0 (HS0.out.keptBy (hg1.block _ HS0.out.lt (by omega) (by omega))); have z1 := hg1.size; clear hr1 hg1)
    | (clear MT; refine qa1 rfl 104 _ _ rfl w1.heap.size _ #[.int .u8 (tk : Int), .string tx, .int .i64 tn, .int .i64 tl, .int .i64 tc] rfl rfl (Vn.new w1 _ _) sizeTok rfl (all5 rfl rfl rfl rfl rfl) ?_; intro w2 HT2 hg2; have hb2 : Below w1.heap.size w1 w2 := (jlow _ _).trans (jbelow hg2.out (jlow _ _).size (fun g e => by cases e; exact Nat.le_refl _)); have HR2 := qa0 (HR1.out.later hb2); have HG2 := qa0 (HG1.out.trans (Gk.of hb2)); have HM2 := qa0 (HM1.out.later hb2); have HS2 := qa0 (HS1.out.later hb2); have e0 := HT2.out.cell 0 _ rfl; have e1 := HT2.out.cell 1 _ rfl; have e2 := HT2.out.cell 2 _ rfl; have e3 := HT2.out.cell 3 _ rfl; have e4 := HT2.out.cell 4 _ rfl; have z2 := HT2.out.lt; clear hg2 hb2)
    | (at_lookup; refine wpList_lookup_own_ok _ rfl _ _ 99 rfl 9 140 qax qah fnEl (qag _) (.lit (.int .i64 (-1))) [] rfl bm 6 itD rfl HM2.out _ _ rfl HKy.out ?_; intro v ps hv; rw [HAtk.out] at hv; have hvv := qaq hv; clear hv; subst hvv)
    | (go_at_call 118; refine (HP.out _ HR2.out).mono ?_; rintro e w3 ⟨rfl, hg3⟩; have HG3 := qa0 (HG2.out.trans hg3)))
   exact ⟨rfl, HG3.out, rfl⟩
  | ok p =>
   obtain ⟨I, s⟩ := p
   have HP : Hid (∀ w', Rr K w' (j + 1) → Calls Tryz.prog 118 #[.pointer (some ⟨K.r, 0, none⟩)] w' fun e w'' => (∃ v, e = .returned v ∧ Fr w'.heap.size w'' (fun u => IVv u v I) ∧ Rr K w'' (K.n - s.length)) ∧ Gk K w' w'') := fun w' hr => (HPk.out w' hr).mono (fun e w'' h => by rw [hq] at h; exact qbe h)
   rw [qa4, qa4]
   have hsuf := qcr 4 (lst K (j + 1))
   rw [hq] at hsuf
   have hs := qaw K _ (j + 1) rfl hsuf
   obtain ⟨j3, Hj3⟩ : ∃ j3, Hid (K.n - s.length = j3) := ⟨_, rfl⟩
   rw [Hj3.out] at HP hs
   have hj3 : j3 ≤ K.n := by have := Hj3.out; omega
   rw [hs]
   clear hq hsuf hs Hj3 HPk
   by_cases hc : (K.g j3).tx = ⟨#[59]⟩
   ·have hj4 := qao K HKo.out hj3 (fun e => by cases e) hc
    rw [qb1 K hj4 hc]
    have HC : Hid (∀ w', Rr K w' j3 → Calls Tryz.prog 121 #[.pointer (some ⟨K.r, 0, none⟩), .string ⟨#[59]⟩] w' fun e w'' => e = .returned (.tuple #[]) ∧ Rr K w'' (j3 + 1) ∧ Gk K w' w'') := fun w' hr => (qb0 hr hc).mono (fun e w'' h => by rw [show min (j3 + 1) K.n = j3 + 1 by omega] at h; exact h)
    clear hc
    ·have M0 : True := trivial
     clear M0
     go_enter Tryz.func59, Tryz.ntmps59
     go_wp2_with (first
      | (go_at_call 84; refine (HTa.out _ HR0.out).mono ?_; rintro e w1 ⟨rfl, hr1, hg1⟩; have HR1 := qa0 hr1; have HG1 := qa0 (HGz.out.trans hg1); have HM1 := qa0 (HM0.out.gk hg1 HR0.out); have HS1 := qa0 (HS0.out.keptBy (hg1.block _ HS0.out.lt (by omega) (by omega))); have z1 := hg1.size; clear hr1 hg1)
      | (clear MT; refine qa1 rfl 104 _ _ rfl w1.heap.size _ #[.int .u8 (tk : Int), .string tx, .int .i64 tn, .int .i64 tl, .int .i64 tc] rfl rfl (Vn.new w1 _ _) sizeTok rfl (all5 rfl rfl rfl rfl rfl) ?_; intro w2 HT2 hg2; have hb2 : Below w1.heap.size w1 w2 := (jlow _ _).trans (jbelow hg2.out (jlow _ _).size (fun g e => by cases e; exact Nat.le_refl _)); have HR2 := qa0 (HR1.out.later hb2); have HG2 := qa0 (HG1.out.trans (Gk.of hb2)); have HM2 := qa0 (HM1.out.later hb2); have HS2 := qa0 (HS1.out.later hb2); have e0 := HT2.out.cell 0 _ rfl; have e1 := HT2.out.cell 1 _ rfl; have e2 := HT2.out.cell 2 _ rfl; have e3 := HT2.out.cell 3 _ rfl; have e4 := HT2.out.cell 4 _ rfl; have z2 := HT2.out.lt; clear hg2 hb2)
      | (at_lookup; refine wpList_lookup_own_ok _ rfl _ _ 99 rfl 9 140 qax qah fnEl (qag _) (.lit (.int .i64 (-1))) [] rfl bm 6 itD rfl HM2.out _ _ rfl HKy.out ?_; intro v ps hv; rw [HAtk.out] at hv; have hvv := qaq hv; clear hv; subst hvv)
      | (go_at_call 118; refine (HP.out _ HR2.out).mono ?_; rintro e w3 ⟨⟨v, rfl, hfr, hr3⟩, hg3⟩; obtain ⟨cs, rfl, hsz, hall⟩ := qdu hfr.now; have HF3 := qa0 hfr; have HR3 := qa0 hr3; have HG3 := qa0 (HG2.out.trans hg3); have HS3 := qa0 (HS2.out.keptBy (hg3.block _ HS2.out.lt (by omega) (by omega))); have HT3 := qa0 (HT2.out.keptBy (hg3.block _ HT2.out.lt (by omega) (by omega))); have HSz := qa0 hsz; have HAl := qa0 hall; have z3 := hg3.size; clear hfr hr3 hg3 hsz hall)
      | (clear MI; refine qa1 rfl 58 _ _ rfl w3.heap.size _ cs rfl rfl (Vn.new w3 _ _) (by rw [HSz.out]; exact sizeI) (by rw [HSz.out]; rfl) HAl.out ?_; intro w4 HI4 hg4; have hb4 : Below w3.heap.size w3 w4 := (jlow _ _).trans (jbelow hg4.out (jlow _ _).size (fun g e => by cases e; exact Nat.le_refl _)); have HR4 := qa0 (HR3.out.later hb4); have HG4 := qa0 (HG3.out.trans (Gk.of hb4)); have HS4 := qa0 (HS3.out.later hb4); have HT4 := qa0 (HT3.out.later hb4); have HL4 := qa0 hb4; have z4 := HI4.out.lt; clear hg4 hb4)
      | (go_at_call 121; refine (HC.out _ HR4.out).mono ?_; rintro e w5 ⟨rfl, hr5, hg5⟩; have HR5 := qa0 hr5; have HG5 := qa0 (HG4.out.trans hg5); have HS5 := qa0 (HS4.out.keptBy (hg5.block _ HS4.out.lt (by omega) (by omega))); have HT5 := qa0 (HT4.out.keptBy (hg5.block _ HT4.out.lt (by omega) (by omega))); have HI5 := qa0 (HI4.out.keptBy (hg5.block _ HI4.out.lt (by omega) (by omega))); have HQ5 := qa0 hg5; have z5 := hg5.size; clear hr5 hg5))
     refine wp_region_held (S := fun w' => w'.cell? ⟨w1.heap.size, 3, none⟩ = some (.int .i64 tl) ∧ w'.cell? ⟨w1.heap.size, 4, none⟩ = some (.int .i64 tc)) (by kernel_rfl) ?_
     change wpAnyH _ _ _ _ _ _ _ _ (World.drew _)
     obtain ⟨wd, HWd⟩ : ∃ wd, Hid (w5.drew = wd) := ⟨_, rfl⟩
     have HTd : Hid (Vn wd w1.heap.size 104 #[.int .u8 (tk : Int), .string tx, .int .i64 tn, .int .i64 tl, .int .i64 tc]) := by show Vn _ _ _ _; rw [← HWd.out]; exact HT5.out
     have HId : Hid (Vn wd w3.heap.size 58 cs) := by show Vn _ _ _ _; rw [← HWd.out]; exact HI5.out
     have HSd : Hid (Vn wd w.heap.size 58 #[.int .u8 0, .string ⟨#[]⟩, .int .u8 0, .int .i64 0, .string ⟨#[]⟩, .slice none 0 0, .int .i64 0, .int .i64 0, .int .u8 0, .string ⟨#[]⟩, .slice none 0 0, .slice none 0 0, .slice none 0 0, .int .i64 0, .int .i64 0, .int .u8 0, .slice none 0 0, .int .i64 0, .int .i64 0]) := by show Vn _ _ _ _; rw [← HWd.out]; exact HS5.out
     have HDd : Hid (Below w5.heap.size w5 wd) := by show Below _ _ _; rw [← HWd.out]; exact (Below.refl _ _).drew
     have zd := HDd.out.size
     rw [HWd.out]
     clear HWd
     refine wtkq 0 ?vs0_19 rfl (by kernel_rfl) (fun _ _ _ h => h) (by rfl) ?ys0_19 ⟨HTd.out.cell 3 _ rfl, HTd.out.cell 4 _ rfl⟩ ?zs0_19
     case ys0_19 => (intro w hSw; (try dsimp only at hSw); (try obtain ⟨s0, s1⟩ := hSw); go_simp; try with_reducible rfl)
     try simp only [nz1, nz3, Act.put, nz4, nz5, nz6]
     refine wtkq 1 ?vs1_20 rfl (by kernel_rfl) (fun _ _ _ h => h) (by rfl) ?ys1_20 ⟨HTd.out.cell 3 _ rfl, HTd.out.cell 4 _ rfl⟩ ?zs1_20
     case ys1_20 => (intro w hSw; (try dsimp only at hSw); (try obtain ⟨s0, s1⟩ := hSw); go_simp; try with_reducible rfl)
     try simp only [nz1, nz2, nz3, Act.put, nz4, nz5, nz6]
     refine wtkq 2 ?vs2_21 rfl (by kernel_rfl) (fun _ _ _ h => h) (by rfl) ?ys2_21 ⟨HTd.out.cell 3 _ rfl, HTd.out.cell 4 _ rfl⟩ ?zs2_21
     case ys2_21 => (intro w hSw; (try dsimp only at hSw); (try obtain ⟨s0, s1⟩ := hSw); go_simp; try with_reducible rfl)
     try simp only [nz1, nz2, nz3, Act.put, nz4, nz5, nz6]
     refine wtkq 3 ?vs3_22 rfl (by kernel_rfl) (fun _ _ _ h => h) (by rfl) ?ys3_22 ⟨HTd.out.cell 3 _ rfl, HTd.out.cell 4 _ rfl⟩ ?zs3_22
     case ys3_22 => (intro w hSw; (try dsimp only at hSw); (try obtain ⟨s0, s1⟩ := hSw); go_simp; try with_reducible rfl)
     try simp only [nz1, nz2, nz3, Act.put, nz4, nz5, nz6]
     refine wtkq 4 ?vs4_23 rfl (by kernel_rfl) (fun _ _ _ h => h) (by rfl) ?ys4_23 ⟨HTd.out.cell 3 _ rfl, HTd.out.cell 4 _ rfl⟩ ?zs4_23
     case ys4_23 => (intro w hSw; (try dsimp only at hSw); (try obtain ⟨s0, s1⟩ := hSw); go_simp; try with_reducible rfl)
     try simp only [nz1, nz2, nz3, Act.put, nz4, nz5, nz6]
     refine wpAnyH_ready (rs := [5]) (by kernel_rfl) (by simp) ?_
     refine AllReadyH.cons rfl (fun KK hKK => ?_) AllReadyH.nil
     refine qa8 3 _ _ rfl w3.heap.size 17 58 cs (.int .i64 tl) rfl rfl qbk rfl rfl HId.out (by rw [HSz.out]; omega) ?_
     intro w6 HI6 hg6
     have HT6 := qa0 (HTd.out.keptG hg6.out (by simp; omega))
     have HS6 := qa0 (HSd.out.keptG hg6.out (by simp; omega))
     refine hKK.out _ _ ⟨HT6.out.cell 3 _ rfl, HT6.out.cell 4 _ rfl⟩ (fun _ => ?_)
     clear hKK KK
     try simp only [nz1, nz2, nz3, Act.put]
     refine wtkq 6 ?vs6_24 rfl (by kernel_rfl) (fun _ _ _ h => h) (by rfl) ?ys6_24 ⟨HT6.out.cell 3 _ rfl, HT6.out.cell 4 _ rfl⟩ ?zs6_24
     case ys6_24 => (intro w hSw; (try dsimp only at hSw); (try obtain ⟨s0, s1⟩ := hSw); go_simp; try with_reducible rfl)
     try simp only [nz1, nz2, nz3, Act.put, nz4, nz5, nz6]
     refine wpAnyH_ready (rs := [7]) (by kernel_rfl) (by simp) ?_
     refine AllReadyH.cons rfl (fun KK hKK => ?_) AllReadyH.nil
     refine qa8 3 _ _ rfl w3.heap.size 18 58 _ (.int .i64 tc) rfl rfl qbk rfl rfl HI6.out (by rw [Array.size_setIfInBounds, HSz.out]; omega) ?_
     intro w7 HI7 hg7
     have HT7 := qa0 (HT6.out.keptG hg7.out (by simp; omega))
     have HS7 := qa0 (HS6.out.keptG hg7.out (by simp; omega))
     refine hKK.out _ _ ⟨HT7.out.cell 3 _ rfl, HT7.out.cell 4 _ rfl⟩ (fun _ => ?_)
     clear hKK KK
     try simp only [nz1, nz2, nz3, Act.put]
     refine wpAnyH_done (by kernel_rfl) ?_ _
     obtain ⟨ds, HDs⟩ : ∃ ds, Hid (((cs.setIfInBounds 17 (.int .i64 tl)).setIfInBounds 18 (.int .i64 tc)) = ds) := ⟨_, rfl⟩
     have hI7 := HI7.out
     rw [HDs.out] at hI7
     have HI7b := qa0 hI7
     have HSz2 : Hid (ds.size = 19) := by show _ = _; rw [← HDs.out, Array.size_setIfInBounds, Array.size_setIfInBounds]; exact HSz.out
     have HAl2 : Hid (ds.all (·.oneCell') = true) := by
      have hq := (qad ((HF3.out.now).choose_spec.2)).2.2 tl tc
      show _ = _
      obtain ⟨cs', e', hIC⟩ := HF3.out.now
      cases e'
      rw [← HDs.out]
      exact (qad ((qad hIC).2.2 tl tc)).2.1
     clear hI7 HI7
     have ML : True := trivial
     go_wp2_with (first
      | (clear ML; refine qa2 (by rfl) 58 _ rfl w3.heap.size rfl 58 ds (0, 0) _ HI7b.out Tryz.underlying58 rfl (by rw [HSz2.out]; exact sizeI) ?_)
      | (refine qa1 rfl 58 _ _ rfl w.heap.size _ ds rfl rfl HS7.out (by rw [HSz2.out]; exact sizeI) (by rw [HSz2.out]; rfl) HAl2.out ?_; intro w8 HV8 hg8))
     refine bodyPost_ret (v := .agg ds) (results_cell_row Tryz.results59 _ _ w.heap.size 58 _ (0, 0) _ rfl HV8.out Tryz.underlying58 rfl (by rw [HSz2.out]; exact sizeI)) rfl ?_
     have z6 := hg6.out.size
     have z7 := hg7.out.size
     have z8 := hg8.out.size
     have hkeep : ∀ b, b < w5.heap.size → b ≠ w3.heap.size → b ≠ w.heap.size → w8.heap[b]? = w5.heap[b]? := fun b h1 h2 h3 => by rw [hg8.out.block b (by omega) (by simp; omega), hg7.out.block b (by omega) (by simp; omega), hg6.out.block b (by omega) (by simp; omega), HDd.out.block b h1]
     have zg := HG5.out.size
     refine qc0 ((((HG5.out.trans (Gk.of HDd.out)).up hg6.out (by omega)).up hg7.out (by omega)).up hg8.out (Nat.le_refl _)) (fun u hu => ⟨ds, rfl, ?_⟩) (HR.out.step HR5.out (fun b hb => hkeep b (by omega) (by omega) (by omega)))
     obtain ⟨cs', e', hIC⟩ := HF3.out u ⟨by have := hu.size; omega, fun b h1 h2 => by rw [hu.same b (by omega) (by omega), hkeep b (by omega) (by omega) (by omega), HQ5.out.block b (by omega) (by omega) (by omega), HL4.out.block b h2]⟩
     cases e'
     rw [← HDs.out]
     exact (qad hIC).2.2 tl tc
   ·rw [qbh K hc]
    have HC : Hid (∀ w', Rr K w' j3 → Calls Tryz.prog 121 #[.pointer (some ⟨K.r, 0, none⟩), .string ⟨#[59]⟩] w' fun e w'' => e = mis (K.g j3) ∧ Gk K w' w'') := fun w' hr => qbg hr hc
    unfold mis at HC
    clear hc
    go_enter Tryz.func59, Tryz.ntmps59
    go_wp2_with (first
     | (go_at_call 84; refine (HTa.out _ HR0.out).mono ?_; rintro e w1 ⟨rfl, hr1, hg1⟩; have HR1 := qa0 hr1; have HG1 := qa0 (HGz.out.trans hg1); have HM1 := qa0 (HM0.out.gk hg1 HR0.out); have HS1 := qa0 (HS0.out.keptBy (hg1.block _ HS0.out.lt (by omega) (by omega))); have z1 := hg1.size; clear hr1 hg1)
     | (clear MT; refine qa1 rfl 104 _ _ rfl w1.heap.size _ #[.int .u8 (tk : Int), .string tx, .int .i64 tn, .int .i64 tl, .int .i64 tc] rfl rfl (Vn.new w1 _ _) sizeTok rfl (all5 rfl rfl rfl rfl rfl) ?_; intro w2 HT2 hg2; have hb2 : Below w1.heap.size w1 w2 := (jlow _ _).trans (jbelow hg2.out (jlow _ _).size (fun g e => by cases e; exact Nat.le_refl _)); have HR2 := qa0 (HR1.out.later hb2); have HG2 := qa0 (HG1.out.trans (Gk.of hb2)); have HM2 := qa0 (HM1.out.later hb2); have HS2 := qa0 (HS1.out.later hb2); have e0 := HT2.out.cell 0 _ rfl; have e1 := HT2.out.cell 1 _ rfl; have e2 := HT2.out.cell 2 _ rfl; have e3 := HT2.out.cell 3 _ rfl; have e4 := HT2.out.cell 4 _ rfl; have z2 := HT2.out.lt; clear hg2 hb2)
     | (at_lookup; refine wpList_lookup_own_ok _ rfl _ _ 99 rfl 9 140 qax qah fnEl (qag _) (.lit (.int .i64 (-1))) [] rfl bm 6 itD rfl HM2.out _ _ rfl HKy.out ?_; intro v ps hv; rw [HAtk.out] at hv; have hvv := qaq hv; clear hv; subst hvv)
     | (go_at_call 118; refine (HP.out _ HR2.out).mono ?_; rintro e w3 ⟨⟨v, rfl, hfr, hr3⟩, hg3⟩; obtain ⟨cs, rfl, hsz, hall⟩ := qdu hfr.now; have HF3 := qa0 hfr; have HR3 := qa0 hr3; have HG3 := qa0 (HG2.out.trans hg3); have HS3 := qa0 (HS2.out.keptBy (hg3.block _ HS2.out.lt (by omega) (by omega))); have HT3 := qa0 (HT2.out.keptBy (hg3.block _ HT2.out.lt (by omega) (by omega))); have HSz := qa0 hsz; have HAl := qa0 hall; have z3 := hg3.size; clear hfr hr3 hg3 hsz hall)
     | (clear MI; refine qa1 rfl 58 _ _ rfl w3.heap.size _ cs rfl rfl (Vn.new w3 _ _) (by rw [HSz.out]; exact sizeI) (by rw [HSz.out]; rfl) HAl.out ?_; intro w4 HI4 hg4; have hb4 : Below w3.heap.size w3 w4 := (jlow _ _).trans (jbelow hg4.out (jlow _ _).size (fun g e => by cases e; exact Nat.le_refl _)); have HR4 := qa0 (HR3.out.later hb4); have HG4 := qa0 (HG3.out.trans (Gk.of hb4)); have HS4 := qa0 (HS3.out.later hb4); have HT4 := qa0 (HT3.out.later hb4); have HL4 := qa0 hb4; have z4 := HI4.out.lt; clear hg4 hb4)
     | (go_at_call 121; refine (HC.out _ HR4.out).mono ?_; rintro e w5 ⟨rfl, hg5⟩; have HG5 := qa0 (HG4.out.trans hg5)))
    exact ⟨rfl, qb4 hj3 HG5.out⟩
 ·have HPk : Hid (∀ w', Rr K w' (j + 1) → Calls Tryz.prog 120 #[.pointer (some ⟨K.r, 0, none⟩)] w' (RY IVv K w' (pbx 5 (lst K (j + 1))))) := fun w' hr => HPa.out w' hr
  have HAtk : Hid (itD.atKey (kyl 5) (.lit (.int .i64 (-1))) = .lit (.int .i64 ((120 : Nat) : Int))) := HAt
  clear HPa HAt
  cases hq : pbx 5 (lst K (j + 1)) with
  | error s =>
   have HP : Hid (∀ w', Rr K w' (j + 1) → Calls Tryz.prog 120 #[.pointer (some ⟨K.r, 0, none⟩)] w' fun e w'' => e = mis (K.g (K.n - s.length)) ∧ Gk K w' w'') := fun w' hr => (HPk.out w' hr).mono (fun e w'' h => by rw [hq] at h; exact qat h)
   rw [qa7]
   unfold mis at HP
   clear hq HPk
   go_enter Tryz.func59, Tryz.ntmps59
   go_wp2_with (first
    | (go_at_call 84; refine (HTa.out _ HR0.out).mono ?_; rintro e w1 ⟨rfl, hr1, hg1⟩; have HR1 := qa0 hr1; have HG1 := qa0 (HGz.out.trans hg1); have HM1 := qa0 (HM0.out.gk hg1 HR0.out); have HS1 := qa0 (HS0.out.keptBy (hg1.block _ HS0.out.lt (by omega) (by omega))); have z1 := hg1.size; clear hr1 hg1)
    | (clear MT; refine qa1 rfl 104 _ _ rfl w1.heap.size _ #[.int .u8 (tk : Int), .string tx, .int .i64 tn, .int .i64 tl, .int .i64 tc] rfl rfl (Vn.new w1 _ _) sizeTok rfl (all5 rfl rfl rfl rfl rfl) ?_; intro w2 HT2 hg2; have hb2 : Below w1.heap.size w1 w2 := (jlow _ _).trans (jbelow hg2.out (jlow _ _).size (fun g e => by cases e; exact Nat.le_refl _)); have HR2 := qa0 (HR1.out.later hb2); have HG2 := qa0 (HG1.out.trans (Gk.of hb2)); have HM2 := qa0 (HM1.out.later hb2); have HS2 := qa0 (HS1.out.later hb2); have e0 := HT2.out.cell 0 _ rfl; have e1 := HT2.out.cell 1 _ rfl; have e2 := HT2.out.cell 2 _ rfl; have e3 := HT2.out.cell 3 _ rfl; have e4 := HT2.out.cell 4 _ rfl; have z2 := HT2.out.lt; clear hg2 hb2)
    | (at_lookup; refine wpList_lookup_own_ok _ rfl _ _ 99 rfl 9 140 qax qah fnEl (qag _) (.lit (.int .i64 (-1))) [] rfl bm 6 itD rfl HM2.out _ _ rfl HKy.out ?_; intro v ps hv; rw [HAtk.out] at hv; have hvv := qaq hv; clear hv; subst hvv)
    | (go_at_call 120; refine (HP.out _ HR2.out).mono ?_; rintro e w3 ⟨rfl, hg3⟩; have HG3 := qa0 (HG2.out.trans hg3)))
   exact ⟨rfl, HG3.out, rfl⟩
  | ok p =>
   obtain ⟨I, s⟩ := p
   have HP : Hid (∀ w', Rr K w' (j + 1) → Calls Tryz.prog 120 #[.pointer (some ⟨K.r, 0, none⟩)] w' fun e w'' => (∃ v, e = .returned v ∧ Fr w'.heap.size w'' (fun u => IVv u v I) ∧ Rr K w'' (K.n - s.length)) ∧ Gk K w' w'') := fun w' hr => (HPk.out w' hr).mono (fun e w'' h => by rw [hq] at h; exact qbe h)
   rw [qa4, qa4]
   have hsuf := qcr 5 (lst K (j + 1))
   rw [hq] at hsuf
   have hs := qaw K _ (j + 1) rfl hsuf
   obtain ⟨j3, Hj3⟩ : ∃ j3, Hid (K.n - s.length = j3) := ⟨_, rfl⟩
   rw [Hj3.out] at HP hs
   have hj3 : j3 ≤ K.n := by have := Hj3.out; omega
   rw [hs]
   clear hq hsuf hs Hj3 HPk
   by_cases hc : (K.g j3).tx = ⟨#[59]⟩
   ·have hj4 := qao K HKo.out hj3 (fun e => by cases e) hc
    rw [qb1 K hj4 hc]
    have HC : Hid (∀ w', Rr K w' j3 → Calls Tryz.prog 121 #[.pointer (some ⟨K.r, 0, none⟩), .string ⟨#[59]⟩] w' fun e w'' => e = .returned (.tuple #[]) ∧ Rr K w'' (j3 + 1) ∧ Gk K w' w'') := fun w' hr => (qb0 hr hc).mono (fun e w'' h => by rw [show min (j3 + 1) K.n = j3 + 1 by omega] at h; exact h)
    clear hc
    ·have M0 : True := trivial
     clear M0
     go_enter Tryz.func59, Tryz.ntmps59
     go_wp2_with (first
      | (go_at_call 84; refine (HTa.out _ HR0.out).mono ?_; rintro e w1 ⟨rfl, hr1, hg1⟩; have HR1 := qa0 hr1; have HG1 := qa0 (HGz.out.trans hg1); have HM1 := qa0 (HM0.out.gk hg1 HR0.out); have HS1 := qa0 (HS0.out.keptBy (hg1.block _ HS0.out.lt (by omega) (by omega))); have z1 := hg1.size; clear hr1 hg1)
      | (clear MT; refine qa1 rfl 104 _ _ rfl w1.heap.size _ #[.int .u8 (tk : Int), .string tx, .int .i64 tn, .int .i64 tl, .int .i64 tc] rfl rfl (Vn.new w1 _ _) sizeTok rfl (all5 rfl rfl rfl rfl rfl) ?_; intro w2 HT2 hg2; have hb2 : Below w1.heap.size w1 w2 := (jlow _ _).trans (jbelow hg2.out (jlow _ _).size (fun g e => by cases e; exact Nat.le_refl _)); have HR2 := qa0 (HR1.out.later hb2); have HG2 := qa0 (HG1.out.trans (Gk.of hb2)); have HM2 := qa0 (HM1.out.later hb2); have HS2 := qa0 (HS1.out.later hb2); have e0 := HT2.out.cell 0 _ rfl; have e1 := HT2.out.cell 1 _ rfl; have e2 := HT2.out.cell 2 _ rfl; have e3 := HT2.out.cell 3 _ rfl; have e4 := HT2.out.cell 4 _ rfl; have z2 := HT2.out.lt; clear hg2 hb2)
      | (at_lookup; refine wpList_lookup_own_ok _ rfl _ _ 99 rfl 9 140 qax qah fnEl (qag _) (.lit (.int .i64 (-1))) [] rfl bm 6 itD rfl HM2.out _ _ rfl HKy.out ?_; intro v ps hv; rw [HAtk.out] at hv; have hvv := qaq hv; clear hv; subst hvv)
      | (go_at_call 120; refine (HP.out _ HR2.out).mono ?_; rintro e w3 ⟨⟨v, rfl, hfr, hr3⟩, hg3⟩; obtain ⟨cs, rfl, hsz, hall⟩ := qdu hfr.now; have HF3 := qa0 hfr; have HR3 := qa0 hr3; have HG3 := qa0 (HG2.out.trans hg3); have HS3 := qa0 (HS2.out.keptBy (hg3.block _ HS2.out.lt (by omega) (by omega))); have HT3 := qa0 (HT2.out.keptBy (hg3.block _ HT2.out.lt (by omega) (by omega))); have HSz := qa0 hsz; have HAl := qa0 hall; have z3 := hg3.size; clear hfr hr3 hg3 hsz hall)
      | (clear MI; refine qa1 rfl 58 _ _ rfl w3.heap.size _ cs rfl rfl (Vn.new w3 _ _) (by rw [HSz.out]; exact sizeI) (by rw [HSz.out]; rfl) HAl.out ?_; intro w4 HI4 hg4; have hb4 : Below w3.heap.size w3 w4 := (jlow _ _).trans (jbelow hg4.out (jlow _ _).size (fun g e => by cases e; exact Nat.le_refl _)); have HR4 := qa0 (HR3.out.later hb4); have HG4 := qa0 (HG3.out.trans (Gk.of hb4)); have HS4 := qa0 (HS3.out.later hb4); have HT4 := qa0 (HT3.out.later hb4); have HL4 := qa0 hb4; have z4 := HI4.out.lt; clear hg4 hb4)
      | (go_at_call 121; refine (HC.out _ HR4.out).mono ?_; rintro e w5 ⟨rfl, hr5, hg5⟩; have HR5 := qa0 hr5; have HG5 := qa0 (HG4.out.trans hg5); have HS5 := qa0 (HS4.out.keptBy (hg5.block _ HS4.out.lt (by omega) (by omega))); have HT5 := qa0 (HT4.out.keptBy (hg5.block _ HT4.out.lt (by omega) (by omega))); have HI5 := qa0 (HI4.out.keptBy (hg5.block _ HI4.out.lt (by omega) (by omega))); have HQ5 := qa0 hg5; have z5 := hg5.size; clear hr5 hg5))
     refine wp_region_held (S := fun w' => w'.cell? ⟨w1.heap.size, 3, none⟩ = some (.int .i64 tl) ∧ w'.cell? ⟨w1.heap.size, 4, none⟩ = some (.int .i64 tc)) (by kernel_rfl) ?_
     change wpAnyH _ _ _ _ _ _ _ _ (World.drew _)
     obtain ⟨wd, HWd⟩ : ∃ wd, Hid (w5.drew = wd) := ⟨_, rfl⟩
     have HTd : Hid (Vn wd w1.heap.size 104 #[.int .u8 (tk : Int), .string tx, .int .i64 tn, .int .i64 tl, .int .i64 tc]) := by show Vn _ _ _ _; rw [← HWd.out]; exact HT5.out
     have HId : Hid (Vn wd w3.heap.size 58 cs) := by show Vn _ _ _ _; rw [← HWd.out]; exact HI5.out
     have HSd : Hid (Vn wd w.heap.size 58 #[.int .u8 0, .string ⟨#[]⟩, .int .u8 0, .int .i64 0, .string ⟨#[]⟩, .slice none 0 0, .int .i64 0, .int .i64 0, .int .u8 0, .string ⟨#[]⟩, .slice none 0 0, .slice none 0 0, .slice none 0 0, .int .i64 0, .int .i64 0, .int .u8 0, .slice none 0 0, .int .i64 0, .int .i64 0]) := by show Vn _ _ _ _; rw [← HWd.out]; exact HS5.out
     have HDd : Hid (Below w5.heap.size w5 wd) := by show Below _ _ _; rw [← HWd.out]; exact (Below.refl _ _).drew
     have zd := HDd.out.size
     rw [HWd.out]
     clear HWd
     refine wtkq 0 ?vs0_25 rfl (by kernel_rfl) (fun _ _ _ h => h) (by rfl) ?ys0_25 ⟨HTd.out.cell 3 _ rfl, HTd.out.cell 4 _ rfl⟩ ?zs0_25
     case ys0_25 => (intro w hSw; (try dsimp only at hSw); (try obtain ⟨s0, s1⟩ := hSw); go_simp; try with_reducible rfl)
     try simp only [nz1, nz3, Act.put, nz4, nz5, nz6]
     refine wtkq 1 ?vs1_26 rfl (by kernel_rfl) (fun _ _ _ h => h) (by rfl) ?ys1_26 ⟨HTd.out.cell 3 _ rfl, HTd.out.cell 4 _ rfl⟩ ?zs1_26
     case ys1_26 => (intro w hSw; (try dsimp only at hSw); (try obtain ⟨s0, s1⟩ := hSw); go_simp; try with_reducible rfl)
     try simp only [nz1, nz2, nz3, Act.put, nz4, nz5, nz6]
     refine wtkq 2 ?vs2_27 rfl (by kernel_rfl) (fun _ _ _ h => h) (by rfl) ?ys2_27 ⟨HTd.out.cell 3 _ rfl, HTd.out.cell 4 _ rfl⟩ ?zs2_27
     case ys2_27 => (intro w hSw; (try dsimp only at hSw); (try obtain ⟨s0, s1⟩ := hSw); go_simp; try with_reducible rfl)
     try simp only [nz1, nz2, nz3, Act.put, nz4, nz5, nz6]
     refine wtkq 3 ?vs3_28 rfl (by kernel_rfl) (fun _ _ _ h => h) (by rfl) ?ys3_28 ⟨HTd.out.cell 3 _ rfl, HTd.out.cell 4 _ rfl⟩ ?zs3_28
     case ys3_28 => (intro w hSw; (try dsimp only at hSw); (try obtain ⟨s0, s1⟩ := hSw); go_simp; try with_reducible rfl)
     try simp only [nz1, nz2, nz3, Act.put, nz4, nz5, nz6]
     refine wtkq 4 ?vs4_29 rfl (by kernel_rfl) (fun _ _ _ h => h) (by rfl) ?ys4_29 ⟨HTd.out.cell 3 _ rfl, HTd.out.cell 4 _ rfl⟩ ?zs4_29
     case ys4_29 => (intro w hSw; (try dsimp only at hSw); (try obtain ⟨s0, s1⟩ := hSw); go_simp; try with_reducible rfl)
     try simp only [nz1, nz2, nz3, Act.put, nz4, nz5, nz6]
     refine wpAnyH_ready (rs := [5]) (by kernel_rfl) (by simp) ?_
     refine AllReadyH.cons rfl (fun KK hKK => ?_) AllReadyH.nil
     refine qa8 3 _ _ rfl w3.heap.size 17 58 cs (.int .i64 tl) rfl rfl qbk rfl rfl HId.out (by rw [HSz.out]; omega) ?_
     intro w6 HI6 hg6
     have HT6 := qa0 (HTd.out.keptG hg6.out (by simp; omega))
     have HS6 := qa0 (HSd.out.keptG hg6.out (by simp; omega))
     refine hKK.out _ _ ⟨HT6.out.cell 3 _ rfl, HT6.out.cell 4 _ rfl⟩ (fun _ => ?_)
     clear hKK KK
     try simp only [nz1, nz2, nz3, Act.put]
     refine wtkq 6 ?vs6_30 rfl (by kernel_rfl) (fun _ _ _ h => h) (by rfl) ?ys6_30 ⟨HT6.out.cell 3 _ rfl, HT6.out.cell 4 _ rfl⟩ ?zs6_30
     case ys6_30 => (intro w hSw; (try dsimp only at hSw); (try obtain ⟨s0, s1⟩ := hSw); go_simp; try with_reducible rfl)
     try simp only [nz1, nz2, nz3, Act.put, nz4, nz5, nz6]
     refine wpAnyH_ready (rs := [7]) (by kernel_rfl) (by simp) ?_
     refine AllReadyH.cons rfl (fun KK hKK => ?_) AllReadyH.nil
     refine qa8 3 _ _ rfl w3.heap.size 18 58 _ (.int .i64 tc) rfl rfl qbk rfl rfl HI6.out (by rw [Array.size_setIfInBounds, HSz.out]; omega) ?_
     intro w7 HI7 hg7
     have HT7 := qa0 (HT6.out.keptG hg7.out (by simp; omega))
     have HS7 := qa0 (HS6.out.keptG hg7.out (by simp; omega))
     refine hKK.out _ _ ⟨HT7.out.cell 3 _ rfl, HT7.out.cell 4 _ rfl⟩ (fun _ => ?_)
     clear hKK KK
     try simp only [nz1, nz2, nz3, Act.put]
     refine wpAnyH_done (by kernel_rfl) ?_ _
     obtain ⟨ds, HDs⟩ : ∃ ds, Hid (((cs.setIfInBounds 17 (.int .i64 tl)).setIfInBounds 18 (.int .i64 tc)) = ds) := ⟨_, rfl⟩
     have hI7 := HI7.out
     rw [HDs.out] at hI7
     have HI7b := qa0 hI7
     have HSz2 : Hid (ds.size = 19) := by show _ = _; rw [← HDs.out, Array.size_setIfInBounds, Array.size_setIfInBounds]; exact HSz.out
     have HAl2 : Hid (ds.all (·.oneCell') = true) := by
      have hq := (qad ((HF3.out.now).choose_spec.2)).2.2 tl tc
      show _ = _
      obtain ⟨cs', e', hIC⟩ := HF3.out.now
      cases e'
      rw [← HDs.out]
      exact (qad ((qad hIC).2.2 tl tc)).2.1
     clear hI7 HI7
     have ML : True := trivial
     go_wp2_with (first
      | (clear ML; refine qa2 (by rfl) 58 _ rfl w3.heap.size rfl 58 ds (0, 0) _ HI7b.out Tryz.underlying58 rfl (by rw [HSz2.out]; exact sizeI) ?_)
      | (refine qa1 rfl 58 _ _ rfl w.heap.size _ ds rfl rfl HS7.out (by rw [HSz2.out]; exact sizeI) (by rw [HSz2.out]; rfl) HAl2.out ?_; intro w8 HV8 hg8))
     refine bodyPost_ret (v := .agg ds) (results_cell_row Tryz.results59 _ _ w.heap.size 58 _ (0, 0) _ rfl HV8.out Tryz.underlying58 rfl (by rw [HSz2.out]; exact sizeI)) rfl ?_
     have z6 := hg6.out.size
     have z7 := hg7.out.size
     have z8 := hg8.out.size
     have hkeep : ∀ b, b < w5.heap.size → b ≠ w3.heap.size → b ≠ w.heap.size → w8.heap[b]? = w5.heap[b]? := fun b h1 h2 h3 => by rw [hg8.out.block b (by omega) (by simp; omega), hg7.out.block b (by omega) (by simp; omega), hg6.out.block b (by omega) (by simp; omega), HDd.out.block b h1]
     have zg := HG5.out.size
     refine qc0 ((((HG5.out.trans (Gk.of HDd.out)).up hg6.out (by omega)).up hg7.out (by omega)).up hg8.out (Nat.le_refl _)) (fun u hu => ⟨ds, rfl, ?_⟩) (HR.out.step HR5.out (fun b hb => hkeep b (by omega) (by omega) (by omega)))
     obtain ⟨cs', e', hIC⟩ := HF3.out u ⟨by have := hu.size; omega, fun b h1 h2 => by rw [hu.same b (by omega) (by omega), hkeep b (by omega) (by omega) (by omega), HQ5.out.block b (by omega) (by omega) (by omega), HL4.out.block b h2]⟩
     cases e'
     rw [← HDs.out]
     exact (qad hIC).2.2 tl tc
   ·rw [qbh K hc]
    have HC : Hid (∀ w', Rr K w' j3 → Calls Tryz.prog 121 #[.pointer (some ⟨K.r, 0, none⟩), .string ⟨#[59]⟩] w' fun e w'' => e = mis (K.g j3) ∧ Gk K w' w'') := fun w' hr => qbg hr hc
    unfold mis at HC
    clear hc
    go_enter Tryz.func59, Tryz.ntmps59
    go_wp2_with (first
     | (go_at_call 84; refine (HTa.out _ HR0.out).mono ?_; rintro e w1 ⟨rfl, hr1, hg1⟩; have HR1 := qa0 hr1; have HG1 := qa0 (HGz.out.trans hg1); have HM1 := qa0 (HM0.out.gk hg1 HR0.out); have HS1 := qa0 (HS0.out.keptBy (hg1.block _ HS0.out.lt (by omega) (by omega))); have z1 := hg1.size; clear hr1 hg1)
     | (clear MT; refine qa1 rfl 104 _ _ rfl w1.heap.size _ #[.int .u8 (tk : Int), .string tx, .int .i64 tn, .int .i64 tl, .int .i64 tc] rfl rfl (Vn.new w1 _ _) sizeTok rfl (all5 rfl rfl rfl rfl rfl) ?_; intro w2 HT2 hg2; have hb2 : Below w1.heap.size w1 w2 := (jlow _ _).trans (jbelow hg2.out (jlow _ _).size (fun g e => by cases e; exact Nat.le_refl _)); have HR2 := qa0 (HR1.out.later hb2); have HG2 := qa0 (HG1.out.trans (Gk.of hb2)); have HM2 := qa0 (HM1.out.later hb2); have HS2 := qa0 (HS1.out.later hb2); have e0 := HT2.out.cell 0 _ rfl; have e1 := HT2.out.cell 1 _ rfl; have e2 := HT2.out.cell 2 _ rfl; have e3 := HT2.out.cell 3 _ rfl; have e4 := HT2.out.cell 4 _ rfl; have z2 := HT2.out.lt; clear hg2 hb2)
     | (at_lookup; refine wpList_lookup_own_ok _ rfl _ _ 99 rfl 9 140 qax qah fnEl (qag _) (.lit (.int .i64 (-1))) [] rfl bm 6 itD rfl HM2.out _ _ rfl HKy.out ?_; intro v ps hv; rw [HAtk.out] at hv; have hvv := qaq hv; clear hv; subst hvv)
     | (go_at_call 120; refine (HP.out _ HR2.out).mono ?_; rintro e w3 ⟨⟨v, rfl, hfr, hr3⟩, hg3⟩; obtain ⟨cs, rfl, hsz, hall⟩ := qdu hfr.now; have HF3 := qa0 hfr; have HR3 := qa0 hr3; have HG3 := qa0 (HG2.out.trans hg3); have HS3 := qa0 (HS2.out.keptBy (hg3.block _ HS2.out.lt (by omega) (by omega))); have HT3 := qa0 (HT2.out.keptBy (hg3.block _ HT2.out.lt (by omega) (by omega))); have HSz := qa0 hsz; have HAl := qa0 hall; have z3 := hg3.size; clear hfr hr3 hg3 hsz hall)
     | (clear MI; refine qa1 rfl 58 _ _ rfl w3.heap.size _ cs rfl rfl (Vn.new w3 _ _) (by rw [HSz.out]; exact sizeI) (by rw [HSz.out]; rfl) HAl.out ?_; intro w4 HI4 hg4; have hb4 : Below w3.heap.size w3 w4 := (jlow _ _).trans (jbelow hg4.out (jlow _ _).size (fun g e => by cases e; exact Nat.le_refl _)); have HR4 := qa0 (HR3.out.later hb4); have HG4 := qa0 (HG3.out.trans (Gk.of hb4)); have HS4 := qa0 (HS3.out.later hb4); have HT4 := qa0 (HT3.out.later hb4); have HL4 := qa0 hb4; have z4 := HI4.out.lt; clear hg4 hb4)
     | (go_at_call 121; refine (HC.out _ HR4.out).mono ?_; rintro e w5 ⟨rfl, hg5⟩; have HG5 := qa0 (HG4.out.trans hg5)))
    exact ⟨rfl, qb4 hj3 HG5.out⟩
 ·have HPk : Hid (∀ w', Rr K w' (j + 1) → Calls Tryz.prog 119 #[.pointer (some ⟨K.r, 0, none⟩)] w' (RY IVv K w' (pbx 6 (lst K (j + 1))))) := fun w' hr => HPa.out w' hr
  have HAtk : Hid (itD.atKey (kyl 6) (.lit (.int .i64 (-1))) = .lit (.int .i64 ((119 : Nat) : Int))) := HAt
  clear HPa HAt
  cases hq : pbx 6 (lst K (j + 1)) with
  | error s =>
   have HP : Hid (∀ w', Rr K w' (j + 1) → Calls Tryz.prog 119 #[.pointer (some ⟨K.r, 0, none⟩)] w' fun e w'' => e = mis (K.g (K.n - s.length)) ∧ Gk K w' w'') := fun w' hr => (HPk.out w' hr).mono (fun e w'' h => by rw [hq] at h; exact qat h)
   rw [qa7]
   unfold mis at HP
   clear hq HPk
   go_enter Tryz.func59, Tryz.ntmps59
   go_wp2_with (first
    | (go_at_call 84; refine (HTa.out _ HR0.out).mono ?_; rintro e w1 ⟨rfl, hr1, hg1⟩; have HR1 := qa0 hr1; have HG1 := qa0 (HGz.out.trans hg1); have HM1 := qa0 (HM0.out.gk hg1 HR0.out); have HS1 := qa0 (HS0.out.keptBy (hg1.block _ HS0.out.lt (by omega) (by omega))); have z1 := hg1.size; clear hr1 hg1)
    | (clear MT; refine qa1 rfl 104 _ _ rfl w1.heap.size _ #[.int .u8 (tk : Int), .string tx, .int .i64 tn, .int .i64 tl, .int .i64 tc] rfl rfl (Vn.new w1 _ _) sizeTok rfl (all5 rfl rfl rfl rfl rfl) ?_; intro w2 HT2 hg2; have hb2 : Below w1.heap.size w1 w2 := (jlow _ _).trans (jbelow hg2.out (jlow _ _).size (fun g e => by cases e; exact Nat.le_refl _)); have HR2 := qa0 (HR1.out.later hb2); have HG2 := qa0 (HG1.out.trans (Gk.of hb2)); have HM2 := qa0 (HM1.out.later hb2); have HS2 := qa0 (HS1.out.later hb2); have e0 := HT2.out.cell 0 _ rfl; have e1 := HT2.out.cell 1 _ rfl; have e2 := HT2.out.cell 2 _ rfl; have e3 := HT2.out.cell 3 _ rfl; have e4 := HT2.out.cell 4 _ rfl; have z2 := HT2.out.lt; clear hg2 hb2)
    | (at_lookup; refine wpList_lookup_own_ok _ rfl _ _ 99 rfl 9 140 qax qah fnEl (qag _) (.lit (.int .i64 (-1))) [] rfl bm 6 itD rfl HM2.out _ _ rfl HKy.out ?_; intro v ps hv; rw [HAtk.out] at hv; have hvv := qaq hv; clear hv; subst hvv)
    | (go_at_call 119; refine (HP.out _ HR2.out).mono ?_; rintro e w3 ⟨rfl, hg3⟩; have HG3 := qa0 (HG2.out.trans hg3)))
   exact ⟨rfl, HG3.out, rfl⟩
  | ok p =>
   obtain ⟨I, s⟩ := p
   have HP : Hid (∀ w', Rr K w' (j + 1) → Calls Tryz.prog 119 #[.pointer (some ⟨K.r, 0, none⟩)] w' fun e w'' => (∃ v, e = .returned v ∧ Fr w'.heap.size w'' (fun u => IVv u v I) ∧ Rr K w'' (K.n - s.length)) ∧ Gk K w' w'') := fun w' hr => (HPk.out w' hr).mono (fun e w'' h => by rw [hq] at h; exact qbe h)
   rw [qa4, qa4]
   have hsuf := qcr 6 (lst K (j + 1))
   rw [hq] at hsuf
   have hs := qaw K _ (j + 1) rfl hsuf
   obtain ⟨j3, Hj3⟩ : ∃ j3, Hid (K.n - s.length = j3) := ⟨_, rfl⟩
   rw [Hj3.out] at HP hs
   have hj3 : j3 ≤ K.n := by have := Hj3.out; omega
   rw [hs]
   clear hq hsuf hs Hj3 HPk
   by_cases hc : (K.g j3).tx = ⟨#[59]⟩
   ·have hj4 := qao K HKo.out hj3 (fun e => by cases e) hc
    rw [qb1 K hj4 hc]
    have HC : Hid (∀ w', Rr K w' j3 → Calls Tryz.prog 121 #[.pointer (some ⟨K.r, 0, none⟩), .string ⟨#[59]⟩] w' fun e w'' => e = .returned (.tuple #[]) ∧ Rr K w'' (j3 + 1) ∧ Gk K w' w'') := fun w' hr => (qb0 hr hc).mono (fun e w'' h => by rw [show min (j3 + 1) K.n = j3 + 1 by omega] at h; exact h)
    clear hc
    ·have M0 : True := trivial
     clear M0
     go_enter Tryz.func59, Tryz.ntmps59
     go_wp2_with (first
      | (go_at_call 84; refine (HTa.out _ HR0.out).mono ?_; rintro e w1 ⟨rfl, hr1, hg1⟩; have HR1 := qa0 hr1; have HG1 := qa0 (HGz.out.trans hg1); have HM1 := qa0 (HM0.out.gk hg1 HR0.out); have HS1 := qa0 (HS0.out.keptBy (hg1.block _ HS0.out.lt (by omega) (by omega))); have z1 := hg1.size; clear hr1 hg1)
      | (clear MT; refine qa1 rfl 104 _ _ rfl w1.heap.size _ #[.int .u8 (tk : Int), .string tx, .int .i64 tn, .int .i64 tl, .int .i64 tc] rfl rfl (Vn.new w1 _ _) sizeTok rfl (all5 rfl rfl rfl rfl rfl) ?_; intro w2 HT2 hg2; have hb2 : Below w1.heap.size w1 w2 := (jlow _ _).trans (jbelow hg2.out (jlow _ _).size (fun g e => by cases e; exact Nat.le_refl _)); have HR2 := qa0 (HR1.out.later hb2); have HG2 := qa0 (HG1.out.trans (Gk.of hb2)); have HM2 := qa0 (HM1.out.later hb2); have HS2 := qa0 (HS1.out.later hb2); have e0 := HT2.out.cell 0 _ rfl; have e1 := HT2.out.cell 1 _ rfl; have e2 := HT2.out.cell 2 _ rfl; have e3 := HT2.out.cell 3 _ rfl; have e4 := HT2.out.cell 4 _ rfl; have z2 := HT2.out.lt; clear hg2 hb2)
      | (at_lookup; refine wpList_lookup_own_ok _ rfl _ _ 99 rfl 9 140 qax qah fnEl (qag _) (.lit (.int .i64 (-1))) [] rfl bm 6 itD rfl HM2.out _ _ rfl HKy.out ?_; intro v ps hv; rw [HAtk.out] at hv; have hvv := qaq hv; clear hv; subst hvv)
      | (go_at_call 119; refine (HP.out _ HR2.out).mono ?_; rintro e w3 ⟨⟨v, rfl, hfr, hr3⟩, hg3⟩; obtain ⟨cs, rfl, hsz, hall⟩ := qdu hfr.now; have HF3 := qa0 hfr; have HR3 := qa0 hr3; have HG3 := qa0 (HG2.out.trans hg3); have HS3 := qa0 (HS2.out.keptBy (hg3.block _ HS2.out.lt (by omega) (by omega))); have HT3 := qa0 (HT2.out.keptBy (hg3.block _ HT2.out.lt (by omega) (by omega))); have HSz := qa0 hsz; have HAl := qa0 hall; have z3 := hg3.size; clear hfr hr3 hg3 hsz hall)
      | (clear MI; refine qa1 rfl 58 _ _ rfl w3.heap.size _ cs rfl rfl (Vn.new w3 _ _) (by rw [HSz.out]; exact sizeI) (by rw [HSz.out]; rfl) HAl.out ?_; intro w4 HI4 hg4; have hb4 : Below w3.heap.size w3 w4 := (jlow _ _).trans (jbelow hg4.out (jlow _ _).size (fun g e => by cases e; exact Nat.le_refl _)); have HR4 := qa0 (HR3.out.later hb4); have HG4 := qa0 (HG3.out.trans (Gk.of hb4)); have HS4 := qa0 (HS3.out.later hb4); have HT4 := qa0 (HT3.out.later hb4); have HL4 := qa0 hb4; have z4 := HI4.out.lt; clear hg4 hb4)
      | (go_at_call 121; refine (HC.out _ HR4.out).mono ?_; rintro e w5 ⟨rfl, hr5, hg5⟩; have HR5 := qa0 hr5; have HG5 := qa0 (HG4.out.trans hg5); have HS5 := qa0 (HS4.out.keptBy (hg5.block _ HS4.out.lt (by omega) (by omega))); have HT5 := qa0 (HT4.out.keptBy (hg5.block _ HT4.out.lt (by omega) (by omega))); have HI5 := qa0 (HI4.out.keptBy (hg5.block _ HI4.out.lt (by omega) (by omega))); have HQ5 := qa0 hg5; have z5 := hg5.size; clear hr5 hg5))
     refine wp_region_held (S := fun w' => w'.cell? ⟨w1.heap.size, 3, none⟩ = some (.int .i64 tl) ∧ w'.cell? ⟨w1.heap.size, 4, none⟩ = some (.int .i64 tc)) (by kernel_rfl) ?_
     change wpAnyH _ _ _ _ _ _ _ _ (World.drew _)
     obtain ⟨wd, HWd⟩ : ∃ wd, Hid (w5.drew = wd) := ⟨_, rfl⟩
     have HTd : Hid (Vn wd w1.heap.size 104 #[.int .u8 (tk : Int), .string tx, .int .i64 tn, .int .i64 tl, .int .i64 tc]) := by show Vn _ _ _ _; rw [← HWd.out]; exact HT5.out
     have HId : Hid (Vn wd w3.heap.size 58 cs) := by show Vn _ _ _ _; rw [← HWd.out]; exact HI5.out
     have HSd : Hid (Vn wd w.heap.size 58 #[.int .u8 0, .string ⟨#[]⟩, .int .u8 0, .int .i64 0, .string ⟨#[]⟩, .slice none 0 0, .int .i64 0, .int .i64 0, .int .u8 0, .string ⟨#[]⟩, .slice none 0 0, .slice none 0 0, .slice none 0 0, .int .i64 0, .int .i64 0, .int .u8 0, .slice none 0 0, .int .i64 0, .int .i64 0]) := by show Vn _ _ _ _; rw [← HWd.out]; exact HS5.out
     have HDd : Hid (Below w5.heap.size w5 wd) := by show Below _ _ _; rw [← HWd.out]; exact (Below.refl _ _).drew
     have zd := HDd.out.size
     rw [HWd.out]
     clear HWd
     refine wtkq 0 ?vs0_31 rfl (by kernel_rfl) (fun _ _ _ h => h) (by rfl) ?ys0_31 ⟨HTd.out.cell 3 _ rfl, HTd.out.cell 4 _ rfl⟩ ?zs0_31
     case ys0_31 => (intro w hSw; (try dsimp only at hSw); (try obtain ⟨s0, s1⟩ := hSw); go_simp; try with_reducible rfl)
     try simp only [nz1, nz3, Act.put, nz4, nz5, nz6]
     refine wtkq 1 ?vs1_32 rfl (by kernel_rfl) (fun _ _ _ h => h) (by rfl) ?ys1_32 ⟨HTd.out.cell 3 _ rfl, HTd.out.cell 4 _ rfl⟩ ?zs1_32
     case ys1_32 => (intro w hSw; (try dsimp only at hSw); (try obtain ⟨s0, s1⟩ := hSw); go_simp; try with_reducible rfl)
     try simp only [nz1, nz2, nz3, Act.put, nz4, nz5, nz6]
     refine wtkq 2 ?vs2_33 rfl (by kernel_rfl) (fun _ _ _ h => h) (by rfl) ?ys2_33 ⟨HTd.out.cell 3 _ rfl, HTd.out.cell 4 _ rfl⟩ ?zs2_33
     case ys2_33 => (intro w hSw; (try dsimp only at hSw); (try obtain ⟨s0, s1⟩ := hSw); go_simp; try with_reducible rfl)
     try simp only [nz1, nz2, nz3, Act.put, nz4, nz5, nz6]
     refine wtkq 3 ?vs3_34 rfl (by kernel_rfl) (fun _ _ _ h => h) (by rfl) ?ys3_34 ⟨HTd.out.cell 3 _ rfl, HTd.out.cell 4 _ rfl⟩ ?zs3_34
     case ys3_34 => (intro w hSw; (try dsimp only at hSw); (try obtain ⟨s0, s1⟩ := hSw); go_simp; try with_reducible rfl)
     try simp only [nz1, nz2, nz3, Act.put, nz4, nz5, nz6]
     refine wtkq 4 ?vs4_35 rfl (by kernel_rfl) (fun _ _ _ h => h) (by rfl) ?ys4_35 ⟨HTd.out.cell 3 _ rfl, HTd.out.cell 4 _ rfl⟩ ?zs4_35
     case ys4_35 => (intro w hSw; (try dsimp only at hSw); (try obtain ⟨s0, s1⟩ := hSw); go_simp; try with_reducible rfl)
     try simp only [nz1, nz2, nz3, Act.put, nz4, nz5, nz6]
     refine wpAnyH_ready (rs := [5]) (by kernel_rfl) (by simp) ?_
     refine AllReadyH.cons rfl (fun KK hKK => ?_) AllReadyH.nil
     refine qa8 3 _ _ rfl w3.heap.size 17 58 cs (.int .i64 tl) rfl rfl qbk rfl rfl HId.out (by rw [HSz.out]; omega) ?_
     intro w6 HI6 hg6
     have HT6 := qa0 (HTd.out.keptG hg6.out (by simp; omega))
     have HS6 := qa0 (HSd.out.keptG hg6.out (by simp; omega))
     refine hKK.out _ _ ⟨HT6.out.cell 3 _ rfl, HT6.out.cell 4 _ rfl⟩ (fun _ => ?_)
     clear hKK KK
     try simp only [nz1, nz2, nz3, Act.put]
     refine wtkq 6 ?vs6_36 rfl (by kernel_rfl) (fun _ _ _ h => h) (by rfl) ?ys6_36 ⟨HT6.out.cell 3 _ rfl, HT6.out.cell 4 _ rfl⟩ ?zs6_36
     case ys6_36 => (intro w hSw; (try dsimp only at hSw); (try obtain ⟨s0, s1⟩ := hSw); go_simp; try with_reducible rfl)
     try simp only [nz1, nz2, nz3, Act.put, nz4, nz5, nz6]
     refine wpAnyH_ready (rs := [7]) (by kernel_rfl) (by simp) ?_
     refine AllReadyH.cons rfl (fun KK hKK => ?_) AllReadyH.nil
     refine qa8 3 _ _ rfl w3.heap.size 18 58 _ (.int .i64 tc) rfl rfl qbk rfl rfl HI6.out (by rw [Array.size_setIfInBounds, HSz.out]; omega) ?_
     intro w7 HI7 hg7
     have HT7 := qa0 (HT6.out.keptG hg7.out (by simp; omega))
     have HS7 := qa0 (HS6.out.keptG hg7.out (by simp; omega))
     refine hKK.out _ _ ⟨HT7.out.cell 3 _ rfl, HT7.out.cell 4 _ rfl⟩ (fun _ => ?_)
     clear hKK KK
     try simp only [nz1, nz2, nz3, Act.put]
     refine wpAnyH_done (by kernel_rfl) ?_ _
     obtain ⟨ds, HDs⟩ : ∃ ds, Hid (((cs.setIfInBounds 17 (.int .i64 tl)).setIfInBounds 18 (.int .i64 tc)) = ds) := ⟨_, rfl⟩
     have hI7 := HI7.out
     rw [HDs.out] at hI7
     have HI7b := qa0 hI7
     have HSz2 : Hid (ds.size = 19) := by show _ = _; rw [← HDs.out, Array.size_setIfInBounds, Array.size_setIfInBounds]; exact HSz.out
     have HAl2 : Hid (ds.all (·.oneCell') = true) := by
      have hq := (qad ((HF3.out.now).choose_spec.2)).2.2 tl tc
      show _ = _
      obtain ⟨cs', e', hIC⟩ := HF3.out.now
      cases e'
      rw [← HDs.out]
      exact (qad ((qad hIC).2.2 tl tc)).2.1
     clear hI7 HI7
     have ML : True := trivial
     go_wp2_with (first
      | (clear ML; refine qa2 (by rfl) 58 _ rfl w3.heap.size rfl 58 ds (0, 0) _ HI7b.out Tryz.underlying58 rfl (by rw [HSz2.out]; exact sizeI) ?_)
      | (refine qa1 rfl 58 _ _ rfl w.heap.size _ ds rfl rfl HS7.out (by rw [HSz2.out]; exact sizeI) (by rw [HSz2.out]; rfl) HAl2.out ?_; intro w8 HV8 hg8))
     refine bodyPost_ret (v := .agg ds) (results_cell_row Tryz.results59 _ _ w.heap.size 58 _ (0, 0) _ rfl HV8.out Tryz.underlying58 rfl (by rw [HSz2.out]; exact sizeI)) rfl ?_
     have z6 := hg6.out.size
     have z7 := hg7.out.size
     have z8 := hg8.out.size
     have hkeep : ∀ b, b < w5.heap.size → b ≠ w3.heap.size → b ≠ w.heap.size → w8.heap[b]? = w5.heap[b]? := fun b h1 h2 h3 => by rw [hg8.out.block b (by omega) (by simp; omega), hg7.out.block b (by omega) (by simp; omega), hg6.out.block b (by omega) (by simp; omega), HDd.out.block b h1]
     have zg := HG5.out.size
     refine qc0 ((((HG5.out.trans (Gk.of HDd.out)).up hg6.out (by omega)).up hg7.out (by omega)).up hg8.out (Nat.le_refl _)) (fun u hu => ⟨ds, rfl, ?_⟩) (HR.out.step HR5.out (fun b hb => hkeep b (by omega) (by omega) (by omega)))
     obtain ⟨cs', e', hIC⟩ := HF3.out u ⟨by have := hu.size; omega, fun b h1 h2 => by rw [hu.same b (by omega) (by omega), hkeep b (by omega) (by omega) (by omega), HQ5.out.block b (by omega) (by omega) (by omega), HL4.out.block b h2]⟩
     cases e'
     rw [← HDs.out]
     exact (qad hIC).2.2 tl tc
   ·rw [qbh K hc]
    have HC : Hid (∀ w', Rr K w' j3 → Calls Tryz.prog 121 #[.pointer (some ⟨K.r, 0, none⟩), .string ⟨#[59]⟩] w' fun e w'' => e = mis (K.g j3) ∧ Gk K w' w'') := fun w' hr => qbg hr hc
    unfold mis at HC
    clear hc
    go_enter Tryz.func59, Tryz.ntmps59
    go_wp2_with (first
     | (go_at_call 84; refine (HTa.out _ HR0.out).mono ?_; rintro e w1 ⟨rfl, hr1, hg1⟩; have HR1 := qa0 hr1; have HG1 := qa0 (HGz.out.trans hg1); have HM1 := qa0 (HM0.out.gk hg1 HR0.out); have HS1 := qa0 (HS0.out.keptBy (hg1.block _ HS0.out.lt (by omega) (by omega))); have z1 := hg1.size; clear hr1 hg1)
     | (clear MT; refine qa1 rfl 104 _ _ rfl w1.heap.size _ #[.int .u8 (tk : Int), .string tx, .int .i64 tn, .int .i64 tl, .int .i64 tc] rfl rfl (Vn.new w1 _ _) sizeTok rfl (all5 rfl rfl rfl rfl rfl) ?_; intro w2 HT2 hg2; have hb2 : Below w1.heap.size w1 w2 := (jlow _ _).trans (jbelow hg2.out (jlow _ _).size (fun g e => by cases e; exact Nat.le_refl _)); have HR2 := qa0 (HR1.out.later hb2); have HG2 := qa0 (HG1.out.trans (Gk.of hb2)); have HM2 := qa0 (HM1.out.later hb2); have HS2 := qa0 (HS1.out.later hb2); have e0 := HT2.out.cell 0 _ rfl; have e1 := HT2.out.cell 1 _ rfl; have e2 := HT2.out.cell 2 _ rfl; have e3 := HT2.out.cell 3 _ rfl; have e4 := HT2.out.cell 4 _ rfl; have z2 := HT2.out.lt; clear hg2 hb2)
     | (at_lookup; refine wpList_lookup_own_ok _ rfl _ _ 99 rfl 9 140 qax qah fnEl (qag _) (.lit (.int .i64 (-1))) [] rfl bm 6 itD rfl HM2.out _ _ rfl HKy.out ?_; intro v ps hv; rw [HAtk.out] at hv; have hvv := qaq hv; clear hv; subst hvv)
     | (go_at_call 119; refine (HP.out _ HR2.out).mono ?_; rintro e w3 ⟨⟨v, rfl, hfr, hr3⟩, hg3⟩; obtain ⟨cs, rfl, hsz, hall⟩ := qdu hfr.now; have HF3 := qa0 hfr; have HR3 := qa0 hr3; have HG3 := qa0 (HG2.out.trans hg3); have HS3 := qa0 (HS2.out.keptBy (hg3.block _ HS2.out.lt (by omega) (by omega))); have HT3 := qa0 (HT2.out.keptBy (hg3.block _ HT2.out.lt (by omega) (by omega))); have HSz := qa0 hsz; have HAl := qa0 hall; have z3 := hg3.size; clear hfr hr3 hg3 hsz hall)
     | (clear MI; refine qa1 rfl 58 _ _ rfl w3.heap.size _ cs rfl rfl (Vn.new w3 _ _) (by rw [HSz.out]; exact sizeI) (by rw [HSz.out]; rfl) HAl.out ?_; intro w4 HI4 hg4; have hb4 : Below w3.heap.size w3 w4 := (jlow _ _).trans (jbelow hg4.out (jlow _ _).size (fun g e => by cases e; exact Nat.le_refl _)); have HR4 := qa0 (HR3.out.later hb4); have HG4 := qa0 (HG3.out.trans (Gk.of hb4)); have HS4 := qa0 (HS3.out.later hb4); have HT4 := qa0 (HT3.out.later hb4); have HL4 := qa0 hb4; have z4 := HI4.out.lt; clear hg4 hb4)
     | (go_at_call 121; refine (HC.out _ HR4.out).mono ?_; rintro e w5 ⟨rfl, hg5⟩; have HG5 := qa0 (HG4.out.trans hg5)))
    exact ⟨rfl, qb4 hj3 HG5.out⟩
end Go.Proofs.YtnjcpmkfghcogaaGreatDoor
