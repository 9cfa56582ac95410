/-
  Stage 22: a map keyed by pairs; an entry counted up by one; the map tells how often each pair was counted.
-/
import Derived.Test.YthdgpmanijifoaaQbbst00
import Derived.Test.YthdgpmanijifoaaQbbst20
import Derived.Maps.OwnOps
import Derived.Maps.RangeWalk
import Derived.WideKeyEntry
import Derived.DeepKeys4
import Derived.DeepKeys2
set_option maxRecDepth 100000
set_option maxHeartbeats 16000000
namespace Go.Proofs.Ythdgpmanijifoaa
open Go.RowKit Go.Maps Go.ChangeMaps
/-- A pair as a value. -/
abbrev prv (x : Ky) (n : Int) : Value := .agg #[.int .i64 x.1, .int .i64 x.2.1, .int .u8 (x.2.2 : Nat), .int .i64 n]
theorem laid22 : laidOutB Try.prog = true := by kernel_rfl
theorem rowPr : (27 : TypeId) < Try.prog.types.size := of_decide_eq_true (by kernel_rfl)
theorem widePr : (match Try.prog.underlying 27 with | some (.array _ _) | some (.struct _) => true | _ => false) = true := by kernel_rfl
theorem lawPr : WideMaps.KeyLaw Try.prog 27 := deep_law_laid laid22 (m := 2) (by omega) rowPr (by kernel_rfl) widePr
theorem keyedPr : Keyed Try.prog 27 := Keyed.of_law lawPr
theorem undMap : Try.prog.underlying 54 = some (.map 27 3) := by kernel_rfl
theorem undInt : Try.prog.underlying 3 = some (.int .i64) := by kernel_rfl
theorem zeroInt (w : World) : (zeroValue 3).run Try.prog w = .ok (.int .i64 0) w := by kernel_rfl
theorem incr_own {P : Program} {t k e : TypeId} (K : WideMaps.KeyLaw P k) (ht : P.underlying t = some (.map k e)) (he : P.underlying e = some (.int .i64)) (hz : ∀ u : World, (zeroValue e).run P u = .ok (.int .i64 0) u)
  {w : World} {b n : Nat} {D : DataW Unit} (h : w.ownsMap P k (plainElem P e) b n D) (hn : n < maxLen) {key : Value} {kl : Lit} (hkey : keyOf P k key = some kl) :
  ∃ (c : Int) (v0 : Value) (st : Nat) (w1 : World), D.atKey kl (.lit (.int .i64 0)) = .lit (.int .i64 c) ∧ (Instr.lookup t (.map (some b)) key false).run P w = .ok (.int .i64 c) w ∧
   (Instr.mapEntry t (.map (some b)) key).run P w = .ok (.tuple #[v0, goInt st]) w1 ∧ (Instr.lookup t (.map (some b)) key false).run P w1 = .ok (.int .i64 c) w1 ∧
   ∀ c' : Int, (Lit.int .i64 c').wf = true → ∃ w2, (Instr.entryStore t (.map (some b)) (goInt st) (.int .i64 c')).run P w1 = .ok () w2 ∧ w2.ownsMap P k (plainElem P e) b (n + 1) (D.put kl (.lit (.int .i64 c'))) ∧ w.grownBy w2 (some b) := by
 have K' := Keyed.of_law K
 obtain ⟨c, hl, hat, hwc⟩ := h.lookup_int K' ht he (hz w) hkey
 have hD := h
 obtain ⟨es, clock, hb, F, hs, rfl⟩ := hD
 obtain ⟨v0, st, es1, clock1, hE, hv, hS⟩ := WideElems.entry_then_store K ht hz hb F hkey
 refine ⟨c, v0, st, _, hat, hl, hE, ?_, fun c' hc' => ?_⟩
 ·rcases K.find w hkey es.toList F.keys with ⟨h1, h2⟩ | ⟨j, e0, h1, h2, h3⟩
  ·have hE' : (Instr.mapEntry t (.map (some b)) key).run P w = .ok (.tuple #[.int .i64 0, goInt clock]) (setBlock w b (.map (es.push ⟨key, .int .i64 0, clock⟩) (clock + 1))) := by
    simp [Instr.mapEntry, run_underlying ht, MapKept.run_getObj_map hb, K.check w false hkey, h1, hz, MapKept.run_setObj_map _ hb, Result.andThen, setBlock]
   have hU : (Instr.mapUpdate t (.map (some b)) key (.int .i64 0)).run P w = .ok () (setBlock w b (.map (es.push ⟨key, .int .i64 0, clock⟩) (clock + 1))) := by
    simp [Instr.mapUpdate, run_underlying ht, MapKept.run_getObj_map hb, K.check w false hkey, h1, MapKept.run_setObj_map _ hb, Result.andThen, setBlock]
   have hL : (Instr.lookup t (.map (some b)) key false).run P w = .ok (.int .i64 0) w := by
    simp [Instr.lookup, run_underlying ht, MapKept.run_getObj_map hb, K.check w _ hkey, h1, hz, Result.andThen]
   rw [hl] at hL
   have hL := (Value.int.inj (Result.ok.inj hL).1).2
   subst hL
   obtain ⟨w', hu, hown, _⟩ := h.update K' ht hn hkey (plainElem_int (H := Unit) he (a := 0) (by decide))
   rw [hU] at hu
   have hu := (Result.ok.inj hu).2
   rw [hE] at hE'
   have hE' := (Result.ok.inj hE').2
   rw [hE', hu]
   obtain ⟨c1, hl1, hat1, _⟩ := hown.lookup_int K' ht he (hz w') hkey
   rw [hl1]
   have e1 := atKey_put_same (H := Unit) (D := DataW.map ((es.toList.map (WideElems.rg P k (plainElem P e))).foldr DataW.insert [])) ⟨_, rfl⟩ (K'.key hkey) (.lit (.int .i64 0)) (.lit (.int .i64 0))
   rw [hat1] at e1
   injection e1 with e1
   injection e1 with _ e1
   rw [e1]
  ·have hj : es[j]? = some e0 := by simpa using h2
   have hsame : es.modify j (fun e => { e with key := key }) = es := by
    apply Array.ext'
    rw [Array.toList_modify, modify_eq_set _ _ _ _ h2]
    have : ({ e0 with key := key } : MapEntry) = e0 := by rw [← h3]
    rw [this]
    exact WideElems.set_self _ _ _ h2
   have hE' : (Instr.mapEntry t (.map (some b)) key).run P w = .ok (.tuple #[e0.val, goInt e0.born]) (setBlock w b (.map es clock)) := by
    simp [Instr.mapEntry, run_underlying ht, MapKept.run_getObj_map hb, K.check w false hkey, h1, hj, h3, K.stays w hkey, hsame, MapKept.run_setObj_map _ hb, Result.andThen, setBlock]
   rw [hE] at hE'
   have hE' := (Result.ok.inj hE').2
   rw [hE']
   have hown : (setBlock w b (.map es clock)).ownsMap P k (plainElem P e) b n _ := ⟨es, clock, heap_setBlock_same hb _, F, hs, rfl⟩
   obtain ⟨c1, hl1, hat1, _⟩ := hown.lookup_int K' ht he (hz _) hkey
   rw [hl1]
   rw [hat] at hat1
   injection hat1 with e1
   injection e1 with _ e1
   rw [← e1]
 ·obtain ⟨es', clock', hst, hup⟩ := hS (setBlock w b (.map es1 clock1)) (.int .i64 c') (heap_setBlock_same hb _)
  obtain ⟨w', hu, hown, hg⟩ := h.update K' ht hn hkey (plainElem_int (H := Unit) he hc')
  rw [hup] at hu
  have hu := (Result.ok.inj hu).2
  have e2 : setBlock (setBlock w b (.map es1 clock1)) b (.map es' clock') = setBlock w b (.map es' clock') := by simp [setBlock]
  refine ⟨_, hst, ?_, ?_⟩
  ·rw [e2, hu]; exact hown
  ·rw [e2, hu]; exact hg
end Go.Proofs.Ythdgpmanijifoaa
