/-
  Stage 11: description.
  Contract of the program's Where.
  Contracts of the program's parse: a reader is made.
  Contract of the program's Cut, over the seats of parse.
  What TokenAgain needs: tokens that are cut may be, and stand one behind the other.
  Contracts of the program's parse: a text's tokens as the reader has them.
-/
import Derived.Test.YtnjcpmkfghcogaaGreatDoorQbbks00
import Derived.Test.YtnjcpmkfghcogaaGreatDoorQbbks36
import Derived.Test.YtnjcpmkfghcogaaGreatDoorQbbks21
import Derived.Great.BuildSlice
import Derived.Test.YtnjcpmkfghcogaaGreatDoorQbbks01
import Derived.Lib.MinMax
import Derived.Test.YtnjcpmkfghcogaaGreatDoorQbbks40
import Derived.Test.YtnjcpmkfghcogaaGreatDoorQbbks19
import Derived.Test.YtnjcpmkfghcogaaGreatDoorQbbks22
set_option maxRecDepth 100000
set_option maxHeartbeats 16000000
namespace Go.Proofs.YtnjcpmkfghcogaaGreatDoor
open Go.RowKit Go.Maps
def ItV (u : World) (v : Value) (l : List It) : Prop := ∃ a cap, v = .slice a l.length cap ∧ l.length ≤ 1000000000 ∧ l.length ≤ cap ∧ Its u a l.length (gi l)
theorem Gl.itv {s : Nat} {w : World} {v : Value} {l : List It} {cs : List Value} (h : Gl IC 58 19 s w v l cs) (hl : l.length ≤ 1000000000) : Fr s w (fun u => ItV u v l) := fun u hu => by
 have hcap : ∀ a cap, v = .slice a l.length cap → l.length ≤ cap := fun a cap e => by
  rcases h.1.2 with ⟨e1, h0⟩ | ⟨g, cap', cur, e1, _, _, hn, _⟩
  ·rw [e] at e1
   injection e1 with _ _ e2
   omega
  ·rw [e] at e1
   injection e1 with _ _ e2
   omega
 obtain ⟨a, cap, e, hr⟩ := h.done
 refine ⟨a, cap, e, hl, hcap a cap e, fun i hi => ?_⟩
 obtain ⟨b, o, cs', e', hQ, hc⟩ := hr u hu i _ (qfx hi)
 exact ⟨b, o, e', hQ.at_ hc⟩
theorem infI11 : (Tryz.prog.info? 58).map (fun i => (i.zero, i.size, i.bytes)) = some (some (.agg #[.int .u8 0, .string ⟨#[]⟩, .int .u8 0, .int .i64 0, .string ⟨#[]⟩, .slice none 0 0, .int .i64 0, .int .i64 0, .int .u8 0, .string ⟨#[]⟩, .slice none 0 0, .slice none 0 0, .slice none 0 0, .int .i64 0, .int .i64 0, .int .u8 0, .slice none 0 0, .int .i64 0, .int .i64 0]), 19, 256) := by kernel_rfl
theorem zeroI11 : ((Tryz.prog.info? 58).bind (·.zero)).isSome = true := by kernel_rfl
theorem fill_i1 (zs : Array Value) (hz : zs.size = 19) (cs : Array Value) (hc : cs.size = 19) : Instr.fill (fun i => some (i * 19, 19)) zs [(0, .agg cs)] = some cs := by
 have h := Great.fill_whole (s := 19) (by omega) [.agg cs] zs (fun v hv => by rw [List.mem_singleton.1 hv]; exact hc) (by rw [hz]; rfl)
 have e : (([Value.agg cs].flatMap fun v => v.cells.toList)).toArray = cs := by simp [Value.cells]
 rw [e] at h
 exact h
theorem wp_bi1 {o : Oper} {a : Act} {w : World} {K : Act → World → Prop} {Q : Exit → Act → World → Prop} (x : Operand) (ho : o.op = .buildSlice 22 1 #[(0, x)]) (cs : Array Value) (hx : a.eval x = .agg cs) (hc : cs.size = 19)
  (h : K (a.put o.dst (.slice (some ⟨w.heap.size, 0, none⟩) 1 1)) (w.alloc (.cells cs 58))) : o.wp Tryz.prog a w K Q := by
 cases hie : Tryz.prog.info? 58 with
 | none => have h := sizeI; rw [hie] at h; cases h
 | some ie =>
  have hsz : ie.size = 19 := by have h := sizeI; rw [hie] at h; simpa using h
  have hz := zeroI11
  rw [hie] at hz
  obtain ⟨z, hzz⟩ := Option.isSome_iff_exists.1 hz
  refine wp_buildSlice 22 58 1 _ ho _ ie z Tryz.underlying22 hie hzz (by rw [hsz]; omega) (by rw [hsz]; omega) ?_ h
  rw [hsz]
  have e : ((#[(0, x)] : Array (Nat × Operand)).map fun (i, x) => (i, a.eval x)).toList = [(0, .agg cs)] := by simp [hx]
  rw [e]
  exact fill_i1 _ (by simp) _ hc
theorem qi7 {ops : Array Oper} {rest : List Oper} {op : Oper} {a : Act} {w : World} {Q : Exit → Act → World → Prop} (hgd : op.guard = none) (x : Operand) (ho : op.op = .buildSlice 22 1 #[(0, x)]) (cs : Array Value) (hx : a.eval x = .agg cs) (hc : cs.size = 19)
  (h : wpList Tryz.prog ops Q rest (a.put op.dst (.slice (some ⟨w.heap.size, 0, none⟩) 1 1)) (w.alloc (.cells cs 58))) : wpList Tryz.prog ops Q (op :: rest) a w :=
 wpList_plain hgd fun _ hK => wp_bi1 x ho cs hx hc (hK _ _ h)
theorem qjq (L : List TV) : Suf (pit L) L := by
 cases L with
 | nil => exact List.suffix_refl _
 | cons t r =>
  rw [qbz]
  by_cases h : kitem t = 0
  ·have e : pbody t r = .error (t :: r) := by unfold pbody; rw [h]; rfl
   rw [e]
   exact List.suffix_refl _
  ·rw [qfh t r h (qdm t), qap]
   exact ((qcr _ r).thn (fun I s _ => Suf.ask _ _ _)).cons t
theorem pit_len {L : List TV} {I : It} {s : List TV} (h : pit L = .ok (I, s)) : s.length < L.length := by
 cases L with
 | nil => cases h
 | cons t r =>
  rw [qbz] at h
  obtain ⟨x, q, h1, h2⟩ := qa3 h
  obtain ⟨u, rfl, _, _⟩ := qc8 h2
  by_cases hk : kitem t = 0
  ·have e : pbody t r = .error (t :: r) := by unfold pbody; rw [hk]; rfl
   rw [e] at h1
   cases h1
  ·rw [qfh t r hk (qdm t)] at h1
   have hs : Suf (thn (pbx (kitem t) r) (fun I s => .ok (stp t I, s))) r := (qcr _ r).thn (f := fun I s => .ok (stp t I, s)) (fun I s _ => List.suffix_refl _)
   rw [h1] at hs
   have hs2 : u :: s <:+ r := hs
   have := hs2.length_le
   simp only [List.length_cons] at *
   omega
def pitr (n : Nat) (l : List It) (L : List TV) : Except (List TV) (List It) :=
 match pits n L with
 | .error e => .error e
 | .ok m => .ok (l ++ m)
theorem pitr_end (n : Nat) (l : List It) : pitr (n + 1) l [] = .ok l := by
 show Except.ok (l ++ []) = _
 rw [List.append_nil]
theorem pitr_err {n : Nat} {l : List It} {t : TV} {r s : List TV} (h : pit (t :: r) = .error s) : pitr (n + 1) l (t :: r) = .error s := by
 unfold pitr
 rw [qcc, h]
 rfl
theorem pitr_ok {n : Nat} {l : List It} {t : TV} {r s : List TV} {I : It} (h : pit (t :: r) = .ok (I, s)) : pitr (n + 1) l (t :: r) = pitr n (l ++ [I]) s := by
 unfold pitr
 rw [qcc, h]
 show (match (match pits n s with | .error e => Except.error e | .ok l => Except.ok (I :: l)) with | .error e => Except.error e | .ok m => .ok (l ++ m)) = _
 cases pits n s with
 | error e => rfl
 | ok m =>
  show Except.ok (l ++ (I :: m)) = Except.ok (l ++ [I] ++ m)
  rw [List.append_assoc]
  rfl
def qfz (v : Value) : Nat := match v with
 | .slice _ n _ => n
 | _ => 0
theorem Gl.qfz {s : Nat} {w : World} {v : Value} {l : List It} {cs : List Value} (h : Gl IC 58 19 s w v l cs) : Go.Proofs.YtnjcpmkfghcogaaGreatDoor.qfz v = l.length := by
 obtain ⟨a, cap, e, _⟩ := h.done
 rw [e]
 rfl
def RDs (K : Rk) (w : World) (q : Except (List TV) (List It)) (e : Ending) (w' : World) : Prop :=
 Gk K w w' ∧ match q with
 | .error s => e = mis (K.g (K.n - s.length))
 | .ok l => ∃ v, e = .returned v ∧ Fr w.heap.size w' (fun u => ItV u v l) ∧ Rr K w' K.n
theorem rdesc (K : Rk) (hK : RkOk K) (w : World) (j : Nat) (hR : Rr K w j) : Calls Tryz.prog 29 #[.pointer (some ⟨K.r, 0, none⟩)] w (RDs K w (pits ((lst K j).length + 1) (lst K j))) := by
 have hlow := hR.low
 have HR := qa0 hR
 have HKo := qa0 hK
 have hfew := hR.fn.few
 have hjn := hR.le
 have hr := hlow.1
 have hbt := hlow.2
 clear hlow hR hK
 obtain ⟨Q, HQ⟩ : ∃ Q, Hid (pits ((lst K j).length + 1) (lst K j) = Q) := ⟨_, rfl⟩
 rw [HQ.out]
 have HQ1 : Hid (Q = pitr ((lst K j).length + 1) [] (lst K j)) := by
  show _ = _
  rw [← HQ.out]
  unfold pitr
  cases pits ((lst K j).length + 1) (lst K j) <;> rfl
 obtain ⟨i0, hi0, hz0, hz1, hz2⟩ := info_parts infI11
 clear HQ
 go_enter Tryz.func29, Tryz.ntmps29
 go_wp2_with (go_at_call 57; refine (ritems _).mono ?_; rintro e w1 ⟨⟨bm, rfl, hm1⟩, hb1⟩; have HM1 := qa0 hm1; have HB1 := qa0 hb1; clear hm1 hb1)
 go_loopw [4] (fun vp wr => ∃ (fk : Nat) (l : List It) (cs : List Value) (jr : Nat), Hid (Q = pitr fk l (lst K jr)) ∧ K.n - jr < fk ∧ l.length ≤ jr ∧ Hid (Gl IC 58 19 w1.heap.size wr vp l cs) ∧ Hid (ItM wr bm) ∧ Hid (Rr K wr jr) ∧ Hid (Gk K w wr) ∧ w1.heap.size ≤ wr.heap.size ∧ Hid (Gk K w1 wr)) (fun vp _ => K.n - qfz vp)
 case atStart => exact ⟨_, [], [], j, HQ1, by rw [qan]; omega, Nat.zero_le _, Gl.nil _ _ _ _ _, HM1, HR.out.later HB1.out, Gk.of HB1.out, Nat.le_refl _, Gk.refl _ _⟩
 case round =>
  clear HQ1
  obtain ⟨fk, l, cs, jr, HQr, hfk, hll, HGl, HMr, HRr, HGr, hzr, HG1r⟩ := hrel
  have hml := HGl.out.qfz
  have hjr := HRr.out.le
  have zb1 := HB1.out.size
  rcases Nat.lt_or_ge jr K.n with hlt | hge
  ·have hk := HKo.out.some_ jr hlt
   have HE : Hid (∀ w', Rr K w' jr → Calls Tryz.prog 58 #[.pointer (some ⟨K.r, 0, none⟩)] w' fun e w'' => e = .returned (.bool false) ∧ w' = w'') := fun w' hr => (rended K w' jr hr).mono (fun e w'' h => by rw [decide_eq_false hk] at h; exact h)
   obtain ⟨f, rfl⟩ : ∃ f, fk = f + 1 := ⟨fk - 1, by omega⟩
   have hQ2 := HQr.out
   have hcons := qaa K hlt
   cases hq : pit (lst K jr) with
   | error s =>
    have HP : Hid (∀ w', Rr K w' jr → ItM w' bm → Calls Tryz.prog 59 #[.pointer (some ⟨K.r, 0, none⟩), .map (some bm)] w' fun e w'' => e = mis (K.g (K.n - s.length)) ∧ Gk K w' w'') := fun w' hr hm => (ritem K HKo.out w' jr bm hr hm).mono (fun e w'' h => by rw [hq] at h; exact qat h)
    rw [hcons] at hq hQ2
    rw [pitr_err hq] at hQ2
    subst hQ2
    unfold mis at HP
    clear HQr hq hcons hk
    go_wp2_with (first
     | (go_at_call 58; refine (HE.out _ HRr.out).mono ?_; rintro e w2 ⟨rfl, rfl⟩)
     | (go_at_call 59; refine (HP.out _ HRr.out HMr.out).mono ?_; rintro e w3 ⟨rfl, hg3⟩))
    exact ⟨rfl, HGr.out.trans hg3, rfl⟩
   | ok p =>
    obtain ⟨I, s⟩ := p
    have hlen := pit_len hq
    rw [qan] at hlen
    have hsuf := qjq (lst K jr)
    rw [hq] at hsuf
    have hs := qaw K _ jr rfl hsuf
    have HP : Hid (∀ w', Rr K w' jr → ItM w' bm → Calls Tryz.prog 59 #[.pointer (some ⟨K.r, 0, none⟩), .map (some bm)] w' fun e w'' => (∃ v, e = .returned v ∧ Fr w'.heap.size w'' (fun u => IVv u v I) ∧ Rr K w'' (K.n - s.length)) ∧ Gk K w' w'') := fun w' hr hm => (ritem K HKo.out w' jr bm hr hm).mono (fun e w'' h => by rw [hq] at h; exact qbe h)
    rw [hcons] at hq hQ2
    rw [pitr_ok hq] at hQ2
    obtain ⟨j2, Hj2⟩ : ∃ j2, Hid (K.n - s.length = j2) := ⟨_, rfl⟩
    have hj2 : jr < j2 ∧ j2 ≤ K.n := by have := Hj2.out; omega
    rw [hs, Hj2.out] at hQ2
    rw [Hj2.out] at HP
    have HQ3 := qa0 hQ2
    clear hQ2 hq hsuf hs hlen HQr Hj2 hcons hk
    go_wp2_with (first
     | (go_at_call 58; refine (HE.out _ HRr.out).mono ?_; rintro e w2 ⟨rfl, rfl⟩)
     | (go_at_call 59; refine (HP.out _ HRr.out HMr.out).mono ?_; rintro e w4 ⟨⟨v, rfl, hfr, hr4⟩, hg4⟩; obtain ⟨ds, rfl, hsz, hall⟩ := qdu hfr.now; have HF4 := qa0 hfr; have HR4 := qa0 hr4; have HG4 := qa0 hg4; have HM4 := qa0 (HMr.out.gk hg4 HRr.out); have HL4 := qa0 (HGl.out.step (hg4.ag (by omega) (by omega))); have HSz := qa0 hsz; have HAl := qa0 hall; have z4 := hg4.size; clear hfr hr4 hg4 hsz hall)
     | (refine qi7 rfl _ rfl ds rfl HSz.out ?_)
     | (at_builtin; refine wpList_append_own_at _ rfl _ _ 22 rfl w1.heap.size 58 i0 (.agg #[.int .u8 0, .string ⟨#[]⟩, .int .u8 0, .int .i64 0, .string ⟨#[]⟩, .slice none 0 0, .int .i64 0, .int .i64 0, .int .u8 0, .string ⟨#[]⟩, .slice none 0 0, .slice none 0 0, .slice none 0 0, .int .i64 0, .int .i64 0, .int .u8 0, .slice none 0 0, .int .i64 0, .int .i64 0]) 19 256 Tryz.underlying22 hi0 hz0 hz1 hz2 rfl (by decide) _ l.length cs rfl (HL4.out.step (Ag.of (jlow w4 _))).1 ⟨w4.heap.size, 0, none⟩ 1 1 ds.toList rfl (by rw [Array.length_toList, HSz.out]) (qbm _ _ _) (fun q hq => Array.all_eq_true_iff_forall_mem.1 HAl.out q (Array.mem_toList_iff.1 hq)) (by unfold maxLen; omega) (by omega) (by rw [qak]; omega) ?_; intro v5 w5 hO5 hg5 _ hl5))
    have hbase := HGl.out.1.lt
    have HA : Hid (Below w4.heap.size w4 (w4.alloc (.cells ds 58))) := jlow _ _
    have HL5 := qa0 ((HL4.out.step (Ag.of HA.out)).snoc (x := I) (ds := ds.toList) (by rw [Array.length_toList, HSz.out]) (t := wr.heap.size) (fun u hu => by
     obtain ⟨cs', e', hIC⟩ := HF4.out u ((Ag.of HA.out).trans hu)
     cases e'
     exact hIC) (by omega) (fun g hg => (hbase g hg).2) hO5 hg5 hl5)
    have HGa : Hid (Gk K w (w4.alloc (.cells ds 58))) := (HGr.out.trans HG4.out).trans (Gk.of HA.out)
    have HGa1 : Hid (Gk K w1 (w4.alloc (.cells ds 58))) := (HG1r.out.trans HG4.out).trans (Gk.of HA.out)
    have HG5 := qa0 (HGa.out.app hg5 (fun x hx => by have := (hbase x hx).1; omega))
    have HG15 := qa0 (HGa1.out.app hg5 (fun x hx => (hbase x hx).1))
    have HR5 := qa0 (HR.out.step (HR4.out.later HA.out) (fun b hb => hg5.block b (by have := HA.out.size; omega) (fun e => by have := (hbase b e.symm).1; omega)))
    have HM5 : Hid (ItM w5 bm) := World.ownsMap.kept (HM4.out.later HA.out) hg5 (fun e => by have h1 := (hbase bm e.symm).1; have h2 := HM1.out.lt; omega)
    have hml2 := HL5.out.qfz
    exact ⟨⟨f, _, _, j2, HQ3, by omega, by rw [List.length_append, List.length_singleton]; omega, HL5, HM5, HR5, HG5, by have := HG15.out.size; omega, HG15⟩, by rw [hml, hml2, List.length_append, List.length_singleton]; omega⟩
  ·obtain rfl : jr = K.n := by omega
   have HE : Hid (∀ w', Rr K w' K.n → Calls Tryz.prog 58 #[.pointer (some ⟨K.r, 0, none⟩)] w' fun e w'' => e = .returned (.bool true) ∧ w' = w'') := fun w' hr => (rended K w' K.n hr).mono (fun e w'' h => by rw [decide_eq_true HKo.out.ek] at h; exact h)
   obtain ⟨f, rfl⟩ : ∃ f, fk = f + 1 := ⟨fk - 1, by omega⟩
   have hQ2 := HQr.out
   rw [qbl K (Nat.le_refl _), pitr_end] at hQ2
   subst hQ2
   clear HQr
   go_wp2_with (go_at_call 58; refine (HE.out _ HRr.out).mono ?_; rintro e w2 ⟨rfl, rfl⟩)
   go_ret
   exact ⟨HGr.out, _, rfl, (HGl.out.itv (by omega)).weak zb1, HRr.out⟩
open Go.RowKit
theorem twhere (w : World) (s : ByteArray) (at_ : Int) (m : Nat) (hs : s.size ≤ 140737488351232) (_ : -9223372036854775808 ≤ at_) (_ : at_ ≤ 9223372036854775807) (HM : Hid (m = min at_.toNat s.size)) :
  Calls Tryz.prog 151 #[.string s, .int .i64 at_] w fun e w' => e = .returned (.tuple #[.int .i64 (lnn s m : Nat), .int .i64 (cln s m : Nat)]) ∧ Below w.heap.size w w' := by
 obtain ⟨q, Hq⟩ : ∃ q, Hid (at_.toNat = q) := ⟨_, rfl⟩
 have hm := HM.out
 rw [Hq.out] at hm
 have hq := Hq.out
 have hms : m ≤ s.size := by omega
 obtain ⟨X, HX⟩ : ∃ X, Hid (s.extract 0 m = X) := ⟨_, rfl⟩
 have hXs : X.size = m := by rw [← HX.out, size_extract hms, Nat.sub_zero]
 obtain ⟨a, HA⟩ : ∃ a, Hid (lnn s m = a) := ⟨_, rfl⟩
 obtain ⟨b, HB⟩ : ∃ b, Hid (cln s m = b) := ⟨_, rfl⟩
 have ha := qco s m
 have hb := qcb s m
 rw [HA.out] at ha
 rw [HB.out] at hb
 obtain ⟨ha1, ha2⟩ := ha
 obtain ⟨hb1, hb2⟩ := hb
 obtain ⟨k, Hk⟩ : ∃ k : Nat, Hid (Lib.countByte X.data.toList 10 = k) := ⟨_, rfl⟩
 obtain ⟨i, Hi⟩ : ∃ i : Int, Hid (Lib.lastIndexByte X 10 = i) := ⟨_, rfl⟩
 have e1 : 1 + (k : Int) = (a : Int) := by have := qiq s m hms; rw [HX.out, Hk.out, HA.out] at this; omega
 have e2 : (m : Int) - i = (b : Int) := by have := qis s m hms; rw [HX.out, Hi.out, HB.out] at this; exact this
 have HC : Hid (∀ w' : World, Calls Tryz.prog 172 #[.string X, .string ⟨#[10]⟩] w' fun e w'' => e = .returned (.int .i64 (k : Int)) ∧ w' = w'') := fun w' => (qio w' X 10).mono (fun e w'' h => ⟨by rw [h.1, Hk.out], h.2.symm⟩)
 have HL : Hid (∀ w' : World, Calls Tryz.prog 173 #[.string X, .int .u8 10] w' fun e w'' => e = .returned (.int .i64 i) ∧ w' = w'') := fun w' => (lidx_raw w' X 10 (by omega)).mono (fun e w'' h => ⟨by rw [h.1, Hi.out], h.2.symm⟩)
 rw [HA.out, HB.out]
 have hsl : s.extract 0 m = X := HX.out
 have r0 : (0 : Int) ≤ (m : Int) := by omega
 have r1 : (m : Int) ≤ (s.size : Int) := by omega
 have g1 : max at_ 0 = (q : Int) := by omega
 have g2 : min (q : Int) (s.size : Int) = (m : Int) := by omega
 clear hq Hq HM hm HX Hk Hi HA HB
 go_enter Tryz.func151, Tryz.ntmps151
 go_wp2_with (first
  | (go_at_call 172; refine (HC.out _).mono ?_; rintro e w' ⟨rfl, rfl⟩)
  | (go_at_call 173; refine (HL.out _).mono ?_; rintro e w' ⟨rfl, rfl⟩))
 go_ret2
 exact ⟨rfl, Below.refl _ _⟩
open Go.RowKit
theorem qfi : (Tryz.prog.info? 3).map (·.size) = some 1 := by kernel_rfl
theorem rone (w : World) (s : ByteArray) (a : Option Addr) (d n : Nat) (g : Nat → TV) (hs : s.size ≤ 65536) (hn : n ≤ 1000000000) (ht : ∀ i, i < n → TvAt w a i (g i)) (ha : ∀ b o, a = some ⟨b, o, none⟩ → b < w.heap.size) (hg : g n = ⟨0, ⟨#[]⟩, 0, (lnn s s.size : Nat), (cln s s.size : Nat)⟩) :
  Calls Tryz.prog 114 #[.string s, .slice a n d] w fun e w' => ∃ bt bl be, e = .returned (.func (.func 152) #[] #[.pointer (some ⟨bt, 0, none⟩), .pointer (some ⟨bl, 0, none⟩), .pointer (some ⟨be, 0, none⟩)]) ∧ w.heap.size ≤ bt ∧ Below w.heap.size w w' ∧ ∀ r, (∀ b o, a = some ⟨b, o, none⟩ → b ≠ r) → Rc ⟨r, bt, bl, be, a, d, n, g⟩ w' 0 := by
 have HW : Hid (∀ w' : World, Calls Tryz.prog 151 #[.string s, .int .i64 (s.size : Int)] w' fun e w'' => e = .returned (.tuple #[.int .i64 (lnn s s.size : Nat), .int .i64 (cln s s.size : Nat)]) ∧ Below w'.heap.size w' w'') := fun w' => twhere w' s _ s.size (by omega) (by omega) (by omega) (show _ = _ by omega)
 generalize lnn s s.size = ln at *
 generalize cln s s.size = cl at *
 obtain ⟨w2, hw2⟩ : ∃ w2, w2 = (w.alloc (.cells #[.slice a n d] 69)).alloc (.cells #[.int .u8 0, .string ⟨#[]⟩, .int .i64 0, .int .i64 0, .int .i64 0] 104) := ⟨_, rfl⟩
 have hz1 : (w.alloc (.cells #[.slice a n d] 69)).heap.size = w.heap.size + 1 := Array.size_push _
 have HB2 : Hid (Below w.heap.size w w2) := by rw [hw2]; exact jtwo (jlow _ _) (jlow _ _)
 have HL2 : Hid (Vn w2 w.heap.size 69 #[.slice a n d]) := by rw [hw2]; exact (Vn.new w 69 #[.slice a n d]).later (jlow _ _)
 have HE2 : Hid (Vn w2 (w.heap.size + 1) 104 #[.int .u8 0, .string ⟨#[]⟩, .int .i64 0, .int .i64 0, .int .i64 0]) := by rw [hw2, ← hz1]; exact Vn.new _ _ _
 have hz2 : w2.heap.size = w.heap.size + 2 := by rw [hw2]; show (Array.push _ _).size = _; rw [Array.size_push, hz1]
 have HT := qa0 ht
 have HA := qa0 ha
 have HGn := qa0 hg
 have HW2 : Hid (w2 = (w.alloc (.cells #[.slice a n d] 69)).alloc (.cells #[.int .u8 0, .string ⟨#[]⟩, .int .i64 0, .int .i64 0, .int .i64 0] 104)) := hw2
 clear ht ha hg hw2 hz1
 go_enter Tryz.func114, Tryz.ntmps114
 go_wp2_with (first
  | (go_at_call 151; rw [← HW2.out]; refine (HW.out _).mono ?_; rintro e w3 ⟨rfl, hb3⟩; have HB3 := qa0 hb3; have HE3 := qa0 (HE2.out.later hb3); have HL3 := qa0 (HL2.out.later hb3); have z3 := hb3.size; clear hb3)
  | (refine wpList_store_one rfl 3 _ _ rfl (w.heap.size + 1) 3 104 _ (.int .i64 (ln : Int)) rfl rfl qfi rfl rfl HE3.out (by simp) ?_; intro w4 hv4 hg4; have HE4 : Hid (Vn w4 (w.heap.size + 1) 104 #[.int .u8 0, .string ⟨#[]⟩, .int .i64 0, .int .i64 (ln : Int), .int .i64 0]) := hv4; have HG4 := hg4; have HL4 := qa0 (HL3.out.keptG hg4.out (by simp)); have z4 := hg4.out.size; clear hv4 hg4)
  | (refine wpList_store_one rfl 3 _ _ rfl (w.heap.size + 1) 4 104 _ (.int .i64 (cl : Int)) rfl rfl qfi rfl rfl HE4.out (by simp) ?_; intro w5 hv5 hg5; have HE5 : Hid (Vn w5 (w.heap.size + 1) 104 #[.int .u8 0, .string ⟨#[]⟩, .int .i64 0, .int .i64 (ln : Int), .int .i64 (cl : Int)]) := hv5; have HG5 := hg5; have HL5 := qa0 (HL4.out.keptG hg5.out (by simp)); have z5 := hg5.out.size; have HV6 := qa0 (Vn.new w5 3 #[.int .i64 0]); clear hv5 hg5)
  | (refine wpList_store_one rfl 3 _ _ rfl w5.heap.size 0 3 _ (.int .i64 0) rfl rfl qfi rfl rfl HV6.out (by simp) ?_; intro w7 hv7 hg7; have HV7 : Hid (Vn w7 w5.heap.size 3 #[.int .i64 0]) := hv7; have HG7 := hg7; clear hv7 hg7))
 go_ret
 have hb5 : Below w.heap.size w w5 := ((HB2.out.trans (HB3.out.mono (by omega))).trans (jbelow HG4.out (by omega) (fun g e => by cases e; omega))).trans (jbelow HG5.out (by omega) (fun g e => by cases e; omega))
 have hb57 : Below w5.heap.size w5 w7 := (jlow w5 (.cells #[.int .i64 0] 3)).trans (jbelow HG7.out (jlow w5 _).size (fun g e => by cases e; omega))
 have hb7 : Below w.heap.size w w7 := hb5.trans (hb57.mono (by omega))
 refine ⟨w5.heap.size, w.heap.size, w.heap.size + 1, rfl, by omega, hb7, fun r hr => ⟨Nat.zero_le _, hn, HV7.out, HL5.out.later hb57, ?_, fun i hi => (HT.out i hi).later hb7, fun b o e => ⟨hr b o e, by have := HA.out b o e; show b ≠ w5.heap.size; omega⟩⟩⟩
 show Vn w7 _ _ (tvq (g n))
 rw [HGn.out]
 exact HE5.out.later hb57
theorem Rc.turn {r r' bt bl be d n k : Nat} {a : Option Addr} {g : Nat → TV} {w : World} (h : Rc ⟨r, bt, bl, be, a, d, n, g⟩ w k) (hr : ∀ b o, a = some ⟨b, o, none⟩ → b ≠ r') : Rc ⟨r', bt, bl, be, a, d, n, g⟩ w k := ⟨h.le, h.few, h.told, h.lst, h.en, h.tok, fun b o e => ⟨hr b o e, (h.nb b o e).2⟩⟩
theorem rnew (w : World) (s : ByteArray) (a : Option Addr) (d n : Nat) (g : Nat → TV) (hs : s.size ≤ 65536) (hn : n ≤ 1000000000) (ht : ∀ i, i < n → TvAt w a i (g i)) (ha : ∀ b o, a = some ⟨b, o, none⟩ → b < w.heap.size) (hg : g n = ⟨0, ⟨#[]⟩, 0, (lnn s s.size : Nat), (cln s s.size : Nat)⟩) :
  Calls Tryz.prog 55 #[.string s, .slice a n d] w fun e w' => ∃ K : Rk, e = .returned (.pointer (some ⟨K.r, 0, none⟩)) ∧ K.n = n ∧ K.g = g ∧ Rr K w' 0 ∧ w.heap.size ≤ K.r ∧ w.heap.size ≤ K.bt ∧ Below w.heap.size w w' := by
 have HO := qa0 (rone w s a d n g hs hn ht ha hg)
 have HA := qa0 ha
 clear ht ha hg
 go_enter Tryz.func55, Tryz.ntmps55
 go_wp2_with (first
  | (go_at_call 114; refine HO.out.mono ?_; rintro e w1 ⟨bt, bl, be, rfl, hbt, hb1, hR⟩; have HB1 := qa0 hb1; have HR1 := qa0 (hR w1.heap.size (fun b o e => by have := HA.out b o e; have := hb1.size; omega)); have z1 := hb1.size; have HN := qa0 (rnext _ w1 0 HR1); dsimp only at HN; unfold tvq at HN; clear hb1 hR)
  | (go_at_call 152; refine HN.out.mono ?_; rintro e w2 ⟨rfl, hc2, hg2⟩; have HC2 := qa0 hc2; have HG2 := qa0 hg2; have z2 := hg2.size; clear hc2 hg2))
 go_ret
 have hb2 : Below w.heap.size w w2 := HB1.out.trans (jbelow HG2.out (by omega) (fun g e => by cases e; omega))
 have hcr := HC2.out.turn (r' := w2.heap.size) (fun b o e => by have := HA.out b o e; omega)
 exact ⟨⟨w2.heap.size, bt, bl, be, a, d, n, g⟩, rfl, rfl, rfl, ⟨Nat.zero_le _, hcr.later (jlow _ _), Vn.new _ _ _⟩, by show _ ≤ w2.heap.size; omega, hbt, hb2.trans ((jlow _ _).mono (by omega))⟩
open Go.RowKit
def Ev9 (w : World) : Prop := Wt9 w ∧ Er9 w
theorem Ev9.later {w w' : World} (h : Ev9 w) (hb : Below w.heap.size w w') : Ev9 w' := ⟨h.1.later hb, h.2.later hb⟩
theorem qi9 (w : World) (s : ByteArray) (hs : 65536 < s.size) : Calls Tryz.prog 53 #[.string s] w fun e w' => CutP w w' e s [] 4 0 := by
 have hlim : decide (65536 < s.size) = true := decide_eq_true hs
 have hlim2 : decide ((65536 : Int) < (s.size : Int)) = true := decide_eq_true (by omega)
 have HVf1 := qa0 (Vn.new w 25 #[.int .i64 0, .int .i64 0, .int .i64 0])
 go_enter Tryz.func53, Tryz.ntmps53
 go_wp2
 go_step3
 go_wp2_with (refine qa1 rfl 25 _ _ rfl w.heap.size _ #[.int .i64 4, .int .i64 1, .int .i64 1] rfl rfl HVf1.out sizeFau rfl (all3 rfl rfl rfl) ?_; intro w8 HV8 hg8)
 have d0 := HV8.out.cell 0 _ rfl
 have d1 := HV8.out.cell 1 _ rfl
 have d2 := HV8.out.cell 2 _ rfl
 rw [Exit.noGoto_ret]
 refine bodyPost_ret (v := .tuple #[.slice none 0 0, .agg #[.int .i64 4, .int .i64 1, .int .i64 1]]) (by simp [results, Tryz.results53, go_sem, d0, d1, d2]) rfl ?_
 exact ⟨_, rfl, fun h => absurd h (by decide), fun _ => rfl, (jlow _ _).trans (jbelow hg8.out (jlow _ _).size (fun g e => by cases e; exact Nat.le_refl _))⟩
theorem tcut (w : World) (s : ByteArray) (L : List Tk) (E a : Nat) (h : CutA s L E a) (he : Ev9 w) : Calls Tryz.prog 53 #[.string s] w fun e w' => CutP w w' e s L E a := by
 rcases h with ⟨h, rfl, rfl, rfl⟩ | ⟨h, hc⟩
 ·exact qi9 w s h
 ·exact tcut_any w s L E a h hc he.1 he.2
open Go.RowKit
theorem lc_lt {s : ByteArray} {p : Nat} : ∀ q, p < q → lnn s p < lnn s q ∨ (lnn s p = lnn s q ∧ cln s p < cln s q) := by
 intro q
 induction q with
 | zero => intro h; omega
 | succ q ih =>
  intro h
  rw [qct, qcu]
  by_cases e : p = q
  ·subst e
   by_cases h10 : tb s p = 10
   ·rw [if_pos h10, if_pos h10]; omega
   ·rw [if_neg h10, if_neg h10]; omega
  ·rcases ih (by omega) with h1 | ⟨h1, h2⟩
   ·by_cases h10 : tb s q = 10
    ·rw [if_pos h10]; omega
    ·rw [if_neg h10]; omega
   ·by_cases h10 : tb s q = 10
    ·rw [if_pos h10]; omega
    ·rw [if_neg h10, if_neg h10]; omega
def TkP (s : ByteArray) (p : Nat) (L : List Tk) : Prop := (∀ t ∈ L, p ≤ t.lo ∧ t.lo < s.size ∧ t.kind < 256 ∧ t.num ≤ 2147483647 ∧ mayB (tvo s t) = true) ∧ L.Pairwise (fun x y => x.lo < y.lo)
theorem TkP.nil (s : ByteArray) (p : Nat) : TkP s p [] := ⟨fun t ht => by simp at ht, List.Pairwise.nil⟩
theorem TkP.le {s : ByteArray} {p q : Nat} {L : List Tk} (h : TkP s q L) (hp : p ≤ q) : TkP s p L := ⟨fun t ht => ⟨by have := (h.1 t ht).1; omega, (h.1 t ht).2⟩, h.2⟩
theorem TkP.cons {s : ByteArray} {p e : Nat} {L : List Tk} {t : Tk} (h : TkP s e L) (hp : p < e) (ht : t.lo = p) (h1 : p < s.size) (h2 : t.kind < 256) (h3 : t.num ≤ 2147483647) (h4 : mayB (tvo s t) = true) : TkP s p (t :: L) := by
 refine ⟨fun u hu => ?_, List.Pairwise.cons (fun u hu => by have := (h.1 u hu).1; omega) h.2⟩
 rcases List.mem_cons.1 hu with rfl | hu
 ·exact ⟨by omega, by omega, h2, h3, h4⟩
 ·exact ⟨by have := (h.1 u hu).1; omega, (h.1 u hu).2⟩
theorem qhn {s : ByteArray} {p E a : Nat} {L : List Tk} (h : Cuts s p L E a) : TkP s p L :=
 Cuts.ind (s := s) (M := fun p L _ _ => TkP s p L) (fun p _ => TkP.nil s p) (fun p L E a _ _ ih => ih.le (by omega)) (fun p e L E a h1 _ ih => ih.le (by omega))
  (fun p e L E a h1 h2 h3 h4 ih => ih.cons (h3.more h1 (by rw [h2]; simp)) rfl h1 (by show 2 < 256; omega) (by show 0 ≤ _; omega) (by
   show (decide ((0 : Int) = 0) && isW (s.extract p e)) = true
   rw [h4]; rfl))
  (fun p e L E a h1 h2 h3 h4 h5 ih => ih.cons (h3.more h1 (by rw [h2]; simp)) rfl h1 (by show 1 < 256; omega) (by show 0 ≤ _; omega) (by
   show (decide ((0 : Int) = 0) && isN (s.extract p e)) = true
   rw [qbc.2 (name_of h3 h3.fits (h3.more h1 (by rw [h2]; simp)) h2 rfl h5 h4 rfl)]; rfl))
  (fun p e L E a h1 h2 h3 h4 ih => ih.cons (h3.more h1 (by rw [h2]; rfl)) rfl h1 (by show 3 < 256; omega) h4.2 (by
   show (decide ((ByteArray.mk #[]).size = 0) && (decide ((0 : Int) ≤ ((nvl s p (e - p) : Nat) : Int)) && decide (((nvl s p (e - p) : Nat) : Int) ≤ 2147483647))) = true
   have := h4.2
   rw [decide_eq_true (show (0 : Int) ≤ ((nvl s p (e - p) : Nat) : Int) by omega), decide_eq_true (show ((nvl s p (e - p) : Nat) : Int) ≤ 2147483647 by omega)]
   rfl))
  (fun p L E a h1 h2 ih => ih.cons (by omega) rfl h1 (by show 4 < 256; omega) (by show 0 ≤ _; omega) (by
   show (decide ((0 : Int) = 0) && (decide ((s.extract p (p + 1)).size = 1) && isS (tb (s.extract p (p + 1)) 0))) = true
   have h2' : isS (tb s (p + 0)) = true := h2
   rw [size_extract (by omega), qaz (by omega) (by omega), h2', show p + 1 - p = 1 by omega]
   rfl))
  (fun p a _ => TkP.nil s p) h
def kof (s : ByteArray) (L : List Tk) (i : Nat) : TV := tvo s (L.getD i ⟨0, 0, 0, 0⟩)
theorem qju {s : ByteArray} {L : List Tk} {E a : Nat} (hs : s.size ≤ 65536) (h : Cuts s 0 L E a) : (∀ i, i < L.length → TvOk (kof s L i) ∧ mayB (kof s L i) = true ∧ 1 ≤ (kof s L i).ln ∧ 1 ≤ (kof s L i).cl ∧ (kof s L i).ln ≤ 70000 ∧ (kof s L i).cl ≤ 70000) ∧
  ∀ i j, i < j → j < L.length → (kof s L i).ln < (kof s L j).ln ∨ ((kof s L i).ln = (kof s L j).ln ∧ (kof s L i).cl < (kof s L j).cl) := by
 obtain ⟨h1, h2⟩ := qhn h
 have hg : ∀ i (hi : i < L.length), L.getD i ⟨0, 0, 0, 0⟩ = L[i] := fun i hi => by rw [List.getD_eq_getElem?_getD, List.getElem?_eq_getElem hi]; rfl
 refine ⟨fun i hi => ?_, fun i j hij hj => ?_⟩
 ·unfold kof
  rw [hg i hi]
  obtain ⟨_, g2, g3, g4, g5⟩ := h1 _ (List.getElem_mem hi)
  have a1 := qco s (L[i]).lo
  have a2 := qcb s (L[i]).lo
  refine ⟨⟨g3, ?_, ?_, ?_⟩, g5, ?_, ?_, ?_, ?_⟩
  ·show (ttx s L[i]).size ≤ _
   unfold ttx
   split
   ·show 0 ≤ _; omega
   ·rw [ByteArray.size_extract]; omega
  ·show _ ≤ ((L[i].num : Nat) : Int); omega
  ·show ((L[i].num : Nat) : Int) ≤ _; omega
  ·show 1 ≤ ((lnn s L[i].lo : Nat) : Int); omega
  ·show 1 ≤ ((cln s L[i].lo : Nat) : Int); omega
  ·show ((lnn s L[i].lo : Nat) : Int) ≤ 70000; omega
  ·show ((cln s L[i].lo : Nat) : Int) ≤ 70000; omega
 ·have hlt : (L[i]'(by omega)).lo < (L[j]'hj).lo := List.pairwise_iff_getElem.1 h2 i j (by omega) hj hij
  unfold kof
  rw [hg i (by omega), hg j hj]
  have := lc_lt (s := s) _ hlt
  show ((lnn s (L[i]'(by omega)).lo : Nat) : Int) < ((lnn s L[j].lo : Nat) : Int) ∨ (((lnn s (L[i]'(by omega)).lo : Nat) : Int) = ((lnn s L[j].lo : Nat) : Int) ∧ ((cln s (L[i]'(by omega)).lo : Nat) : Int) < ((cln s L[j].lo : Nat) : Int))
  omega
open Go.RowKit
def gof (s : ByteArray) (L : List Tk) (i : Nat) : TV := if i < L.length then kof s L i else ⟨0, ⟨#[]⟩, 0, (lnn s s.size : Nat), (cln s s.size : Nat)⟩
theorem qcs (s : ByteArray) (L : List Tk) : gof s L L.length = ⟨0, ⟨#[]⟩, 0, (lnn s s.size : Nat), (cln s s.size : Nat)⟩ := if_neg (Nat.lt_irrefl _)
theorem gof_at (s : ByteArray) (L : List Tk) {i : Nat} (h : i < L.length) : gof s L i = tvo s L[i] := by
 unfold gof kof
 rw [if_pos h, List.getD_eq_getElem?_getD, List.getElem?_eq_getElem h]
 rfl
theorem qeh {K : Rk} {s : ByteArray} {L : List Tk} (hn : K.n = L.length) (hg : K.g = gof s L) : lst K 0 = tks s L := by
 unfold lst tks
 rw [hn, hg, Nat.sub_zero]
 apply List.ext_getElem
 ·simp
 ·intro i h1 h2
  have hi : i < L.length := by simpa using h2
  rw [List.getElem_map, List.getElem_map, List.getElem_range']
  have := gof_at s L hi
  simpa using this
theorem qei {s : ByteArray} {L : List Tk} {E a : Nat} (h : Cuts s 0 L E a) : L.length ≤ s.size := by
 obtain ⟨h1, h2⟩ := qhn h
 have hlo : ∀ i (hi : i < L.length), i ≤ (L[i]).lo := by
  intro i
  induction i with
  | zero => intro _; exact Nat.zero_le _
  | succ i ih =>
   intro hi
   have a1 := ih (by omega)
   have a2 := List.pairwise_iff_getElem.1 h2 i (i + 1) (by omega) hi (by omega)
   omega
 rcases Nat.eq_zero_or_pos L.length with h0 | h0
 ·omega
 ·have a1 := hlo (L.length - 1) (by omega)
  have a2 := (h1 _ (List.getElem_mem (show L.length - 1 < L.length by omega))).2.1
  omega
theorem qd0 {K : Rk} {s : ByteArray} {L : List Tk} {E a : Nat} (hs : s.size ≤ 65536) (h : Cuts s 0 L E a) (hn : K.n = L.length) (hg : K.g = gof s L) : RkOk K := by
 have hk := (qju hs h).1
 have he : K.g K.n = ⟨0, ⟨#[]⟩, 0, (lnn s s.size : Nat), (cln s s.size : Nat)⟩ := by rw [hn, hg]; exact qcs s L
 have hat : ∀ i, i < K.n → K.g i = kof s L i := fun i hi => by rw [hg]; exact if_pos (by omega)
 refine ⟨by rw [he], by rw [he], fun i hi => ?_, fun i hi => ?_⟩
 ·rcases Nat.lt_or_ge i K.n with h1 | h1
  ·rw [hat i h1]
   exact (hk i (by omega)).1
  ·rw [show i = K.n by omega, he]
   exact ⟨by show 0 < 256; omega, by show 0 ≤ _; omega, by show _ ≤ (0 : Int); omega, by show (0 : Int) ≤ _; omega⟩
 ·rw [hat i hi]
  have := (hk i (by omega)).2.1
  intro h0
  unfold mayB at this
  rw [h0] at this
  simp at this
theorem qdn (w : World) (s : ByteArray) (L : List Tk) (hs : s.size ≤ 65536) (a : Nat) (hc : Cuts s 0 L 0 a) (he : Ev9 w) : Calls Tryz.prog 53 #[.string s] w fun e w' => ∃ (x : Option Addr) (d : Nat), e = .returned (.tuple #[.slice x L.length d, .agg #[.int .i64 0, .int .i64 0, .int .i64 0]]) ∧ (∀ i, i < L.length → TvAt w' x i (gof s L i)) ∧ (∀ b o, x = some ⟨b, o, none⟩ → w.heap.size ≤ b ∧ b < w'.heap.size) ∧ Below w.heap.size w w' := by
 refine (tcut w s L 0 a (.inr ⟨hs, hc⟩) he).mono ?_
 rintro e w' ⟨v, he', h1, _, hb⟩
 have hT := h1 rfl
 obtain ⟨x, d, rfl, _⟩ := hT.form
 refine ⟨x, d, he', fun i hi => ?_, fun b o e => ?_, hb⟩
 ·rw [gof_at s L hi]
  exact hT.tv i hi
 ·subst e
  rcases hT.2 with ⟨e1, _⟩ | ⟨g, cap, cur, e1, hg, hb', _⟩
  ·cases e1
  ·cases e1
   exact ⟨hg, lt_of_block hb'⟩
theorem qjv (w : World) (s : ByteArray) (L : List Tk) (E a : Nat) (h : CutA s L E a) (hE : E ≠ 0) (he : Ev9 w) : Calls Tryz.prog 53 #[.string s] w fun e w' => e = .returned (.tuple #[.slice none 0 0, .agg #[.int .i64 (E : Int), .int .i64 (lnn s a : Nat), .int .i64 (cln s a : Nat)]]) ∧ Below w.heap.size w w' := by
 refine (tcut w s L E a h he).mono ?_
 rintro e w' ⟨v, he', _, h2, hb⟩
 rw [if_neg hE, h2 hE] at he'
 exact ⟨he', hb⟩
end Go.Proofs.YtnjcpmkfghcogaaGreatDoor
