/-
  Contracts of the program's tree: putItem whole; Text.
-/
import Derived.Test.YtdimkfcanegahabDoorDr
import Derived.Test.YtdimkfcanegahabDoorDo
import Derived.Test.YtdimkfcanegahabDoorDg
namespace Go.Proofs.YtdimkfcanegahabDoor
open Go.RowKit
theorem tputpl (w0 w : World) (bc : Nat) (k pl nl vk vl vc sk na ca np cp nr cr lc : Nat) (nm vm sm : ByteArray) (vn vln vcl sln scl ln cl : Int) (va aa pa ra la : Option Addr) (T : Xt) (S : St) (G : Nat → Xt) (L : List TV) (hT : XV w0 (.agg #[.int .u8 (vk : Int), .int .i64 vn, .string vm, .slice va vl vc, .int .i64 vln, .int .i64 vcl]) T) (hL : ∀ d, XL d w0 la nl G) (hk : k = 5) (hM : MI ⟨k, nm, T, S, pl, nl, G, ln, cl⟩) (h64 : nl ≤ 64) (hs : Xs10 w0) (hpw : Pw10 w0) (hl : Lp w0 w bc L) (hn : ∃ _ : Unit, L.length ≤ 10) :
    Calls Tryd.prog 29 #[.func (.func 21) #[] #[.pointer (some ⟨bc, 0, none⟩)], .agg #[.int .u8 (k : Int), .string nm, .int .u8 (vk : Int), .int .i64 vn, .string vm, .slice va vl vc, .int .i64 vln, .int .i64 vcl, .int .u8 (sk : Int), .string sm, .slice aa na ca, .slice pa np cp, .slice ra nr cr, .int .i64 sln, .int .i64 scl, .int .u8 (pl : Int), .slice la nl lc, .int .i64 ln, .int .i64 cl]] w fun e w' => e = .returned (.tuple #[]) ∧ Lp w0 w' bc (L ++ ltk ⟨k, nm, T, S, pl, nl, G, ln, cl⟩) ∧ Gw bc w w' := by
  have HSg : 1 ≤ pl → pl ≤ 4 → Hid (∀ w' : World, Pw10 w' → w'.cell? ⟨3, pl, none⟩ = some (.string (pwd pl))) := fun h1 h4 w' h => h.cell pl h1 h4
  obtain ⟨_, hn⟩ := hn
  have e : ltk ⟨k, nm, T, S, pl, nl, G, ln, cl⟩ = if pl = 3 then tkW (pwd pl) :: xtk 16 T else if pl = 4 then tkW (pwd pl) :: tkS ⟨#[91]⟩ :: (rtk G nl ++ [tkS ⟨#[93]⟩]) else [tkW (pwd pl)] := rfl
  rw [e]
  have hw : (pl = 1 ∨ pl = 2) ∨ (pl = 3 ∧ MX 16 T) ∨ (pl = 4 ∧ ∀ i, i < nl → MX 16 (G i)) := by
    rcases hM with ⟨k1, p1, n1, v1, s1, l1⟩ | ⟨k1, p1, n1, v1, s1, l1⟩ | ⟨k1, p1, n1, v1, s1, l1⟩ | ⟨k1, p1, n1, v1, s1, l1⟩ | ⟨k1, p1, n1, v1, s1, l1⟩ | ⟨k1, p1, n1, v1, s1, l1⟩ | ⟨k1, p1, n1, v1, s1, l1⟩ | ⟨k1, p1, n1, v1, s1, l1⟩ | ⟨k1, p1, n1, v1, s1, l1, l2⟩
    · have k1 : k = 1 := k1; omega
    · have k1 : k = 2 := k1; omega
    · have k1 : k = 3 := k1; omega
    · have k1 : k = 4 := k1; omega
    · have k1 : k = 6 := k1; omega
    · exact .inl (.inl p1)
    · exact .inl (.inr p1)
    · exact .inr (.inl ⟨p1, v1⟩)
    · exact .inr (.inr ⟨p1, l2⟩)
  rcases hw with hp | ⟨hp, hv⟩ | ⟨hp, hv⟩
  · rw [if_neg (by omega), if_neg (by omega)]
    exact tpp_plain w0 w bc k pl nl vk vl vc sk na ca np cp nr cr lc nm vm sm vn vln vcl sln scl ln cl va aa pa ra la L [] (pwd pl) hl ⟨(), by omega, Nat.zero_le _⟩ hpw (HSg (by omega) (by omega)) (by omega) (by omega) (by simp; omega) (by simp; omega)
  · rw [if_pos hp]
    exact tpp_spiral w0 w bc k pl nl vk vl vc sk na ca np cp nr cr lc nm vm sm vn vln vcl sln scl ln cl va aa pa ra la L (xtk 16 T) (pwd pl) hl ⟨(), by omega, by have := hv.toks; omega⟩ hpw (HSg (by omega) (by omega)) (by omega) (by omega) (by simp; omega) (fun w' L' h1 h2 => tputx 16 w0 w' bc L' T _ (by omega) hT hv hs h1 h2)
  · rw [if_neg (by omega), if_pos hp]
    exact tpp_list w0 w bc k pl nl vk vl vc sk na ca np cp nr cr lc nm vm sm vn vln vcl sln scl ln cl va aa pa ra la L (rtk G nl) (pwd pl) hl ⟨(), by omega, by have := rtk_many (F := G) nl hv; omega⟩ hpw (HSg (by omega) (by omega)) (by omega) (by omega) (by simp; omega) (by simp; omega) (fun w' L' h1 h2 => tputxs w0 w' bc L' la nl lc G hL h64 hv hs h1 h2)
theorem ltk_len {I : It} (hk : I.k = 5) (hM : MI I) (h64 : I.nl ≤ 64) : (ltk I).length ≤ 2700000 := by
  unfold ltk
  split
  · rename_i h3
    have hv : MX 16 I.val := by
      rcases hM with ⟨k1, _⟩ | ⟨k1, _⟩ | ⟨k1, _⟩ | ⟨k1, _⟩ | ⟨k1, _⟩ | ⟨k1, p1, _⟩ | ⟨k1, p1, _⟩ | ⟨k1, p1, n1, v1, _⟩ | ⟨k1, p1, _⟩
      all_goals first | exact v1 | omega
    have := hv.toks
    rw [List.length_cons]
    omega
  · split
    · rename_i h3 h4
      have hv : ∀ i, i < I.nl → MX 16 (I.list i) := by
        rcases hM with ⟨k1, _⟩ | ⟨k1, _⟩ | ⟨k1, _⟩ | ⟨k1, _⟩ | ⟨k1, _⟩ | ⟨k1, p1, _⟩ | ⟨k1, p1, _⟩ | ⟨k1, p1, _⟩ | ⟨k1, p1, n1, v1, s1, l1, l2⟩
        all_goals first | exact l2 | omega
      have := rtk_many (F := I.list) I.nl hv
      simp only [List.length_cons, List.length_append, List.length_nil]
      omega
    · rw [List.length_cons, List.length_nil]; omega
theorem itk_len {I : It} (hM : MI I) (h64 : I.nl ≤ 64) : (itk I).length ≤ 2700010 := by
  have hp := fun hk => ltk_len hk hM h64
  unfold itk
  rw [List.length_cons, List.length_append, List.length_cons, List.length_nil]
  rcases hM with ⟨k1, p1, n1, v1, s1, l1⟩ | ⟨k1, p1, n1, v1, s1, l1⟩ | ⟨k1, p1, n1, v1, s1, l1⟩ | ⟨k1, p1, n1, v1, s1, l1⟩ | ⟨k1, p1, n1, v1, s1, l1⟩ | ⟨k1, _⟩ | ⟨k1, _⟩ | ⟨k1, _⟩ | ⟨k1, _⟩
  · rw [if_pos k1, List.length_cons, List.length_cons]; have := v1.toks; omega
  · rw [if_neg (by omega), if_pos k1, List.length_cons, List.length_cons]; have := s1.toks; omega
  · rw [if_neg (by omega), if_neg (by omega), if_pos k1, List.length_cons, List.length_nil]; omega
  · rw [if_neg (by omega), if_neg (by omega), if_neg (by omega), if_neg (by omega)]; have := v1.toks; omega
  · rw [if_neg (by omega), if_neg (by omega), if_neg (by omega), if_neg (by omega)]; have := v1.toks; omega
  all_goals
    rw [if_neg (by omega), if_neg (by omega), if_neg (by omega), if_pos k1]
    have := hp k1
    omega
theorem rm16 : ∃ _ : Unit, rm10 16 ≤ 720000000 := ⟨(), by unfold rm10; omega⟩
theorem tputi (w0 w : World) (bc : Nat) (k pl nl vk vl vc sk na ca np cp nr cr lc : Nat) (nm vm sm : ByteArray) (vn vln vcl sln scl ln cl : Int) (va aa pa ra la : Option Addr) (T : Xt) (S : St) (G : Nat → Xt) (hT : XV w0 (.agg #[.int .u8 (vk : Int), .int .i64 vn, .string vm, .slice va vl vc, .int .i64 vln, .int .i64 vcl]) T) (hS : SV w0 (.agg #[.int .u8 (sk : Int), .string sm, .slice aa na ca, .slice pa np cp, .slice ra nr cr, .int .i64 sln, .int .i64 scl]) S) (hL : ∀ d, XL d w0 la nl G) (hM : MI ⟨k, nm, T, S, pl, nl, G, ln, cl⟩) (h64 : nl ≤ 64) (hs : Xs10 w0) (hsw : Sw10 w0) (hiw : Iw10 w0) (hpw : Pw10 w0) (hl : Lp w0 w bc []) :
    Calls Tryd.prog 13 #[.func (.func 21) #[] #[.pointer (some ⟨bc, 0, none⟩)], .agg #[.int .u8 (k : Int), .string nm, .int .u8 (vk : Int), .int .i64 vn, .string vm, .slice va vl vc, .int .i64 vln, .int .i64 vcl, .int .u8 (sk : Int), .string sm, .slice aa na ca, .slice pa np cp, .slice ra nr cr, .int .i64 sln, .int .i64 scl, .int .u8 (pl : Int), .slice la nl lc, .int .i64 ln, .int .i64 cl]] w fun e w' => e = .returned (.tuple #[]) ∧ Lp w0 w' bc (itk ⟨k, nm, T, S, pl, nl, G, ln, cl⟩) ∧ Gw bc w w' := by
  have HSg : 1 ≤ k → k ≤ 6 → Hid (∀ w' : World, Iw10 w' → w'.cell? ⟨0, k, none⟩ = some (.string (iwd k))) := fun h1 h4 w' h => h.cell k h1 h4
  have e : itk ⟨k, nm, T, S, pl, nl, G, ln, cl⟩ = tkW (iwd k) :: ((if k = 1 then tkN nm :: tkS ⟨#[61]⟩ :: xtk 16 T else if k = 2 then tkN nm :: tkS ⟨#[61]⟩ :: stk 16 S else if k = 3 then [tkN nm] else if k = 5 then ltk ⟨k, nm, T, S, pl, nl, G, ln, cl⟩ else xtk 16 T) ++ [tkS ⟨#[59]⟩]) := rfl
  rw [e]
  have HEx : MX 16 T → Hid (∀ (w' : World) (L' : List TV), Lp w0 w' bc L' → Few L' 16 → Calls Tryd.prog 27 #[.func (.func 21) #[] #[.pointer (some ⟨bc, 0, none⟩)], .agg #[.int .u8 (vk : Int), .int .i64 vn, .string vm, .slice va vl vc, .int .i64 vln, .int .i64 vcl]] w' fun e w'' => e = .returned (.tuple #[]) ∧ Lp w0 w'' bc (L' ++ xtk 16 T) ∧ Gw bc w' w'') := fun hv w' L' h1 h2 => tputx 16 w0 w' bc L' T _ (by omega) hT hv hs h1 h2
  have hways : (k = 1 ∧ MX 16 T) ∨ (k = 2 ∧ MS 16 S) ∨ k = 3 ∨ (k = 4 ∧ MX 16 T) ∨ (k = 6 ∧ MX 16 T) ∨ k = 5 := by
    rcases hM with ⟨k1, p1, n1, v1, s1, l1⟩ | ⟨k1, p1, n1, v1, s1, l1⟩ | ⟨k1, p1, n1, v1, s1, l1⟩ | ⟨k1, p1, n1, v1, s1, l1⟩ | ⟨k1, p1, n1, v1, s1, l1⟩ | ⟨k1, _⟩ | ⟨k1, _⟩ | ⟨k1, _⟩ | ⟨k1, _⟩
    · exact .inl ⟨k1, v1⟩
    · exact .inr (.inl ⟨k1, s1⟩)
    · exact .inr (.inr (.inl k1))
    · exact .inr (.inr (.inr (.inl ⟨k1, v1⟩)))
    · exact .inr (.inr (.inr (.inr (.inl ⟨k1, v1⟩))))
    all_goals exact .inr (.inr (.inr (.inr (.inr k1))))
  rcases hways with ⟨k1, hv⟩ | ⟨k1, hv⟩ | k1 | ⟨k1, hv⟩ | ⟨k1, hv⟩ | k1
  · rw [if_pos k1]
    exact (tpi_const w0 w bc k pl nl vk vl vc sk na ca np cp nr cr lc nm vm sm vn vln vcl sln scl ln cl va aa pa ra la [] (xtk 16 T) (iwd k) hl ⟨(), Nat.zero_le _, by have := hv.toks; omega⟩ hiw (HSg (by omega) (by omega)) (by omega) (by omega) (by simp; omega) (HEx hv))
  · rw [if_neg (by omega), if_pos k1]
    exact (tpi_code w0 w bc k pl nl vk vl vc sk na ca np cp nr cr lc nm vm sm vn vln vcl sln scl ln cl va aa pa ra la [] (stk 16 S) (iwd k) hl ⟨(), Nat.zero_le _, by have := hv.toks; omega⟩ hiw (HSg (by omega) (by omega)) (by omega) (by omega) (by simp; omega) (by simp; omega) (by simp; omega) (by simp; omega) (fun w' L' h1 h2 => tputs 16 w0 w' bc L' S _ (by omega) hS hv hs hsw h1 h2) rm16)
  · rw [if_neg (by omega), if_neg (by omega), if_pos k1]
    exact (tpi_use w0 w bc k pl nl vk vl vc sk na ca np cp nr cr lc nm vm sm vn vln vcl sln scl ln cl va aa pa ra la [] [] (iwd k) hl ⟨(), Nat.zero_le _, Nat.zero_le _⟩ hiw (HSg (by omega) (by omega)) (by omega) (by omega) (by simp; omega) (by simp; omega) (by simp; omega) (by simp; omega) (by simp; omega))
  · rw [if_neg (by omega), if_neg (by omega), if_neg (by omega), if_neg (by omega)]
    exact (tpi_dom w0 w bc k pl nl vk vl vc sk na ca np cp nr cr lc nm vm sm vn vln vcl sln scl ln cl va aa pa ra la [] (xtk 16 T) (iwd k) hl ⟨(), Nat.zero_le _, by have := hv.toks; omega⟩ hiw (HSg (by omega) (by omega)) (by omega) (by omega) (by simp; omega) (by simp; omega) (HEx hv))
  · rw [if_neg (by omega), if_neg (by omega), if_neg (by omega), if_neg (by omega)]
    exact (tpi_tol w0 w bc k pl nl vk vl vc sk na ca np cp nr cr lc nm vm sm vn vln vcl sln scl ln cl va aa pa ra la [] (xtk 16 T) (iwd k) hl ⟨(), Nat.zero_le _, by have := hv.toks; omega⟩ hiw (HSg (by omega) (by omega)) (by omega) (by omega) (by simp; omega) (by simp; omega) (by simp; omega) (HEx hv))
  · rw [if_neg (by omega), if_neg (by omega), if_neg (by omega), if_pos k1]
    exact (tpi_place w0 w bc k pl nl vk vl vc sk na ca np cp nr cr lc nm vm sm vn vln vcl sln scl ln cl va aa pa ra la [] (ltk ⟨k, nm, T, S, pl, nl, G, ln, cl⟩) (iwd k) hl ⟨(), Nat.zero_le _, ltk_len k1 hM h64⟩ hiw (HSg (by omega) (by omega)) (by omega) (by omega) (by simp; omega) (by simp; omega) (by simp; omega) (by simp; omega) (by simp; omega) (by simp; omega) (fun w' L' h1 h2 => tputpl w0 w' bc k pl nl vk vl vc sk na ca np cp nr cr lc nm vm sm vn vln vcl sln scl ln cl va aa pa ra la T S G L' hT hL k1 hM h64 hs hpw h1 h2))
theorem Txt.gw {w w' : World} {B bc : Nat} {v : Value} {x : ByteArray} (h : Txt w B v x) (g : Gw bc w w') (hb : ∀ q, v.ownBlock = some q → q ≠ bc) : Txt w' B v x := by
  refine ⟨h.1, ?_⟩
  rcases h.2 with h' | ⟨q, cap, cur, e, h1, h2, h3⟩
  · exact .inl h'
  · refine .inr ⟨q, cap, cur, e, h1, ?_, h3⟩
    rw [g.same q (lt_of_block h2) (hb q (by rw [e]; rfl)) (fun ys p e2 => by rw [h2] at e2; cases e2)]
    exact h2
theorem dby_snoc (F : Nat → It) : ∀ n i, dby F (n + 1) i = dby F n i ++ iby (F (i + n)) := by
  intro n
  induction n with
  | zero => intro i; show iby (F i) ++ [] = [] ++ iby (F i); simp
  | succ n ih =>
    intro i
    show iby (F i) ++ dby F (n + 1) (i + 1) = (iby (F i) ++ dby F n (i + 1)) ++ _
    rw [ih (i + 1), List.append_assoc, show i + 1 + n = i + (n + 1) by omega]
theorem dby_mono (F : Nat → It) (k : Nat) : ∀ j, (dby F k 0).length ≤ (dby F (k + j) 0).length := by
  intro j
  induction j with
  | zero => exact Nat.le_refl _
  | succ j ih => rw [← Nat.add_assoc, dby_snoc, List.length_append]; omega
/-- The text and the error of a description. -/
def dE (F : Nat → It) (n : Nat) : Nat := if mayD F n = false then 2 else if (dby F n 0).length ≤ 65536 then 0 else 4
def dS (F : Nat → It) (n : Nat) : ByteArray := if mayD F n = false then ⟨#[]⟩ else if (dby F n 0).length ≤ 65536 then ⟨(dby F n 0).toArray⟩ else ⟨#[]⟩
end Go.Proofs.YtdimkfcanegahabDoor
