/-
  Texts of this proof, put together: LkD, LkE, LkF. No statement is proved here.
-/
import Derived.Test.YtiehefnbdijiaaaZL
import Derived.Test.YtiehefnbdijiaaaZD
import Derived.Test.YtiehefnbdijiaaaZI
import Derived.Test.YtiehefnbdijiaaaZC
import Derived.Test.YtiehefnbdijiaaaZG
namespace Go.Proofs.Ytiehefnbdijiaaa
open Go.RowKit
set_option linter.unusedSimpArgs false
set_option linter.unusedVariables false
def two2 (lv mv : Value) : Nat → Value := fun i => if i = 2 then lv else if i = 3 then mv else .slice none 0 0
def two2X (l r : List Value) : Nat → List Value := fun i => if i = 2 then l else if i = 3 then r else []
theorem two2_nil (w : World) (H : Nat) : Apt w H 4 (two2 (.slice none 0 0) (.slice none 0 0)) (two2X [] []) := by
 refine ⟨fun i hi => ?_, fun i j hi hj hij k hk => ?_⟩
 ·have e1 : two2 (.slice none 0 0) (.slice none 0 0) i = .slice none 0 0 := by unfold two2; split <;> (try rfl); split <;> rfl
  have e2 : two2X [] [] i = [] := by unfold two2X; split <;> (try rfl); split <;> rfl
  rw [e1, e2]
  exact ownC_nil _ _ _
 ·have e1 : two2 (.slice none 0 0) (.slice none 0 0) i = .slice none 0 0 := by unfold two2; split <;> (try rfl); split <;> rfl
  rw [e1] at hk
  cases (show (none : Option Nat) = some k from hk)
theorem two2_putL (lv mv v : Value) : putV (two2 lv mv) 2 v = two2 v mv := by
 funext i
 unfold putV two2
 by_cases h : i = 2
 ·rw [if_pos h, if_pos h]
 ·rw [if_neg h, if_neg h, if_neg h]
theorem two2_putM (lv mv v : Value) : putV (two2 lv mv) 3 v = two2 lv v := by
 funext i
 unfold putV two2
 by_cases h : i = 3
 ·subst h; rfl
 ·rw [if_neg h]
  by_cases h2 : i = 2
  ·rw [if_pos h2, if_pos h2]
  ·rw [if_neg h2, if_neg h2, if_neg h, if_neg h]
theorem two2X_putL (l r x : List Value) : putX (two2X l r) 2 x = two2X x r := by
 funext i
 unfold putX two2X
 by_cases h : i = 2
 ·rw [if_pos h, if_pos h]
 ·rw [if_neg h, if_neg h, if_neg h]
theorem two2X_putM (l r x : List Value) : putX (two2X l r) 3 x = two2X l x := by
 funext i
 unfold putX two2X
 by_cases h : i = 3
 ·subst h; rfl
 ·rw [if_neg h]
  by_cases h2 : i = 2
  ·rw [if_pos h2, if_pos h2]
  ·rw [if_neg h2, if_neg h2, if_neg h, if_neg h]
theorem two2_swap {w : World} {H : Nat} {lv mv : Value} {l r : List Value} (h : Apt w H 4 (two2 lv mv) (two2X l r)) : Apt w H 4 (two2 mv lv) (two2X r l) := by
 refine h.pick (fun i => if i = 2 then 3 else if i = 3 then 2 else i) (fun i hi => ?_) (fun i j hi hj e => ?_) (fun i hi => ?_) (fun i hi => ?_) (fun i hi => ?_)
 ·show (if i = 2 then 3 else if i = 3 then 2 else i) < 4
  split
  ·omega
  ·split <;> omega
 ·have e : (if i = 2 then 3 else if i = 3 then 2 else i) = (if j = 2 then 3 else if j = 3 then 2 else j) := e
  split at e <;> split at e <;> (try split at e) <;> (try split at e) <;> omega
 ·have : i = 0 ∨ i = 1 ∨ i = 2 ∨ i = 3 := by omega
  rcases this with rfl | rfl | rfl | rfl <;> rfl
 ·have : i = 0 ∨ i = 1 ∨ i = 2 ∨ i = 3 := by omega
  rcases this with rfl | rfl | rfl | rfl <;> rfl
 ·have : i = 0 ∨ i = 1 ∨ i = 2 ∨ i = 3 := by omega
  rcases this with rfl | rfl | rfl | rfl <;> rfl
theorem two2_l {w : World} {H : Nat} {lv mv : Value} {l r : List Value} (h : Apt w H 4 (two2 lv mv) (two2X l r)) : w.ownsRow H 3 1 lv l.length l := h.own 2 (by decide)
theorem two2_m {w : World} {H : Nat} {lv mv : Value} {l r : List Value} (h : Apt w H 4 (two2 lv mv) (two2X l r)) : w.ownsRow H 3 1 mv r.length r := h.own 3 (by decide)
theorem two2_growL {w w' : World} {H : Nat} {lv mv v : Value} {l r x : List Value} (h : Apt w H 4 (two2 lv mv) (two2X l r)) (ho : w'.ownsRow H 3 1 v x.length x) (hg : w.grownBy w' lv.ownBlock) (hw : ∀ k, v.ownBlock = some k → lv.ownBlock = some k ∨ w.heap.size ≤ k) : Apt w' H 4 (two2 v mv) (two2X x r) := by
 have := h.grow (s := 2) (by decide) ho hg hw
 rw [two2_putL, two2X_putL] at this
 exact this
theorem two2_growM {w w' : World} {H : Nat} {lv mv v : Value} {l r x : List Value} (h : Apt w H 4 (two2 lv mv) (two2X l r)) (ho : w'.ownsRow H 3 1 v x.length x) (hg : w.grownBy w' mv.ownBlock) (hw : ∀ k, v.ownBlock = some k → mv.ownBlock = some k ∨ w.heap.size ≤ k) : Apt w' H 4 (two2 lv v) (two2X l x) := by
 have := h.grow (s := 3) (by decide) ho hg hw
 rw [two2_putM, two2X_putM] at this
 exact this
theorem filt_yes {l : List Nat} {i s : Nat} {q : Nat → Bool} (h : l[i]? = some s) (hq : q s = true) : (l.take (i + 1)).filter q = (l.take i).filter q ++ [s] := by
 obtain ⟨hi, he⟩ := List.getElem?_eq_some_iff.1 h
 rw [List.take_succ_eq_append_getElem hi, he, List.filter_append]
 simp [hq]
theorem filt_no {l : List Nat} {i s : Nat} {q : Nat → Bool} (h : l[i]? = some s) (hq : q s = false) : (l.take (i + 1)).filter q = (l.take i).filter q := by
 obtain ⟨hi, he⟩ := List.getElem?_eq_some_iff.1 h
 rw [List.take_succ_eq_append_getElem hi, he, List.filter_append]
 simp [hq]
def aI (a : Nat → Nat) (L : List Nat) (m i : Nat) : Nat → Nat := fun s => if s ∈ L.take i then m else a s
theorem aI_next {a : Nat → Nat} {L : List Nat} {m i s : Nat} (h : L[i]? = some s) (q : Nat) : updN (aI a L m i) s m q = aI a L m (i + 1) q := by
 unfold updN aI
 by_cases hq : q = s
 ·rw [if_pos hq, if_pos ((mem_take_succ h).2 (.inr hq))]
 ·rw [if_neg hq]
  by_cases hm : q ∈ L.take i
  ·rw [if_pos hm, if_pos ((mem_take_succ h).2 (.inl hm))]
  ·rw [if_neg hm, if_neg fun hx => by rcases (mem_take_succ h).1 hx with e | e; exact hm e; exact hq e]
theorem aI_spl {n m k i : Nat} {a : Nat → Nat} {I : Nat → Bool} {b : Bool} (hi : (inP n a I k b).length ≤ i) {s : Nat} (hs : s < n) : aI a (inP n a I k b) m i s = spl a I k m b s := by
 unfold aI spl
 rw [List.take_of_length_le hi]
 by_cases h : a s = k ∧ I s = b
 ·rw [if_pos h, if_pos (inP_mem.2 ⟨hs, h⟩)]
 ·rw [if_neg h, if_neg fun hm => h (inP_mem.1 hm).2]
theorem spl_end {w w2 w3 : World} {H Hn p n m k g0 c0 : Nat} {U : Nat → Value} {X : Nat → List Value} {P P' : Nat → List Nat} {a : Nat → Nat} {I : Nat → Bool} {c : Nat → Nat} {lv mv v' : Value} {L M : List Nat}
  (h : PtU w H p n m U X P a I c) (hk : k < m) (h2 : Apt w Hn 4 (two2 lv mv) (two2X (nat64 L) (nat64 M))) (hHn : H ≤ Hn) (hlt : ∀ j, Pf p (4 + m) U j → j < Hn) (hHs : Hn ≤ w.heap.size)
  (hU0 : U 0 = .slice (some ⟨g0, 0, none⟩) m c0) (hb : Below (w.setCell ⟨g0, k, none⟩ mv).heap.size (w.setCell ⟨g0, k, none⟩ mv) w2)
  (ho : w3.ownsRow H 38 1 v' (m + 1) ((prV m U).set k mv ++ [lv])) (hg : w2.grownBy w3 (some g0)) (hw : ∀ j, v'.ownBlock = some j → some g0 = some j ∨ w2.heap.size ≤ j)
  (hP : ∀ j, j < m → j ≠ k → P j = P' j) (hPk : P' k = M) (hPm : P' m = L) :
  ∃ U'' X'', PtU (w3.setCell ⟨p, 0, none⟩ v') H p n (m + 1) U'' X'' P' a I c ∧ ∀ j, Pf p (4 + (m + 1)) U'' j → Pf p (4 + m) U j ∨ Hn ≤ j := by
 have z1 : ∀ i, i < 4 + m → ∀ j, (U i).ownBlock = some j → j < Hn := fun i hi j hj => hlt j (.inr ⟨i, hi, hj⟩)
 have hol := two2_l h2
 have hom := two2_m h2
 have hll := own6_lt hol
 have hlm := own6_lt hom
 have hdj : ∀ j, lv.ownBlock = some j → mv.ownBlock ≠ some j := fun j hj => h2.inj 2 3 (by decide) (by decide) (by decide) j hj
 have A1 : Apt w H (4 + m + 1) (putV U (4 + m) lv) (putX X (4 + m) (nat64 L)) := h.apt.add (by rw [show tyU (4 + m) = 3 by rw [Nat.add_comm]; rfl]; exact own_mono hol hHn) fun i hi j hj e => by
  have := z1 i hi j hj
  have := (hll j e).2
  omega
 have A2 : Apt w H (4 + m + 1 + 1) (putV (putV U (4 + m) lv) (4 + m + 1) mv) (putX (putX X (4 + m) (nat64 L)) (4 + m + 1) (nat64 M)) := A1.add (by rw [show tyU (4 + m + 1) = 3 by rw [show 4 + m + 1 = m + 5 by omega]; rfl]; exact own_mono hom hHn) fun i hi j hj e => by
  by_cases e2 : i = 4 + m
  ·subst e2
   rw [putV_at] at hj
   exact hdj j hj e
  ·rw [putV_ne e2] at hj
   have := z1 i (by omega) j hj
   have := (hlm j e).2
   omega
 obtain ⟨Z, hZ⟩ : ∃ Z, Z = putV (putV U (4 + m) lv) (4 + m + 1) mv := ⟨_, rfl⟩
 obtain ⟨W, hW⟩ : ∃ W, W = putX (putX X (4 + m) (nat64 L)) (4 + m + 1) (nat64 M) := ⟨_, rfl⟩
 rw [← hZ, ← hW] at A2
 have zo : ∀ i, i < 4 + m → Z i = U i ∧ W i = X i := fun i hi => by
  rw [hZ, hW, putV_ne (by omega), putV_ne (by omega), putX_ne (by omega), putX_ne (by omega)]
  exact ⟨rfl, rfl⟩
 have zl : Z (4 + m) = lv ∧ W (4 + m) = nat64 L := by
  rw [hZ, hW, putV_ne (by omega), putV_at, putX_ne (by omega), putX_at]
  exact ⟨rfl, rfl⟩
 have zm : Z (4 + m + 1) = mv ∧ W (4 + m + 1) = nat64 M := by
  rw [hZ, hW, putV_at, putX_at]
  exact ⟨rfl, rfl⟩
 have hZ0 : Z 0 = .slice (some ⟨g0, 0, none⟩) m c0 := by rw [(zo 0 (by omega)).1, hU0]
 have A3 := (A2.set (s := 0) (by omega) hZ0 (q := k) (by rw [(zo 0 (by omega)).2, h.l0]; exact hk) mv).below hb
 have hv3 : (Z 0).ownBlock = some g0 := by rw [hZ0]; rfl
 have A4 := A3.grow (s := 0) (by omega) (v := v') (l := (prV m U).set k mv ++ [lv]) (by rw [List.length_append, List.length_set, prV_len]; exact ho) (by rw [hv3]; exact hg) (by rw [hv3]; exact hw)
 have hpg : p ≠ g0 := fun e => h.ne 0 (by omega) (by rw [hU0, e]; rfl)
 have hplt : p < w.heap.size := h.blk.lt
 have hpH : p < Hn := hlt p (.inl rfl)
 have sz1 : w.heap.size = (w.setCell ⟨g0, k, none⟩ mv).heap.size := by simp
 have hvp : v'.ownBlock ≠ some p := fun e => by
  rcases hw p e with e2 | e2
  ·exact hpg (Option.some.inj e2).symm
  ·have := hb.size
   omega
 have np : ∀ i, i < 4 + m + 1 + 1 → (putV Z 0 v' i).ownBlock ≠ some p := fun i hi => by
  by_cases e : i = 0
  ·subst e
   rw [putV_at]
   exact hvp
  ·rw [putV_ne e]
   by_cases e1 : i < 4 + m
   ·rw [(zo i e1).1]
    exact h.ne i e1
   ·by_cases e2 : i = 4 + m
    ·subst e2
     rw [zl.1]
     exact fun e => by have := (hll p e).2; omega
    ·obtain rfl : i = 4 + m + 1 := by omega
     rw [zm.1]
     exact fun e => by have := (hlm p e).2; omega
 have A5 : Apt (w3.setCell ⟨p, 0, none⟩ v') H (4 + m + 1 + 1) (putV Z 0 v') (putX (putX W 0 ((W 0).set k mv)) 0 ((prV m U).set k mv ++ [lv])) :=
  A4.offs (D := fun j => j = p) (Off.set w3 0 v' rfl) fun i hi j hj e => np i hi (by rw [← e]; exact hj)
 obtain ⟨V, hV⟩ : ∃ V, V = putV Z 0 v' := ⟨_, rfl⟩
 obtain ⟨Y, hY⟩ : ∃ Y, Y = putX (putX W 0 ((W 0).set k mv)) 0 ((prV m U).set k mv ++ [lv]) := ⟨_, rfl⟩
 rw [← hV, ← hY] at A5
 rw [← hV] at np
 have vz : ∀ i, i ≠ 0 → V i = Z i ∧ Y i = W i := fun i hi => by
  rw [hV, hY, putV_ne hi, putX_ne hi, putX_ne hi]
  exact ⟨rfl, rfl⟩
 have v0 : V 0 = v' ∧ Y 0 = (prV m U).set k mv ++ [lv] := by
  rw [hV, hY, putV_at, putX_at]
  exact ⟨rfl, rfl⟩
 have hσ : ∀ i, i < 4 + (m + 1) → (if i = k + 4 then 4 + m + 1 else i) < 4 + m + 1 + 1 := fun i hi => by split <;> omega
 have e0 : ∀ i, i ≠ k + 4 → (if i = k + 4 then 4 + m + 1 else i) = i := fun i hi => if_neg hi
 have A6 : Apt (w3.setCell ⟨p, 0, none⟩ v') H (4 + (m + 1)) (fun i => V (if i = k + 4 then 4 + m + 1 else i)) (fun i => Y (if i = k + 4 then 4 + m + 1 else i)) := by
  refine A5.pick (fun i => if i = k + 4 then 4 + m + 1 else i) hσ (fun i j hi hj e => ?_) (fun i hi => ?_) (fun i hi => rfl) (fun i hi => rfl)
  ·have e : (if i = k + 4 then 4 + m + 1 else i) = (if j = k + 4 then 4 + m + 1 else j) := e
   split at e <;> split at e <;> omega
  ·show tyU (if i = k + 4 then 4 + m + 1 else i) = tyU i
   split
   ·next e => rw [e, show 4 + m + 1 = m + 5 by omega]; rfl
   ·rfl
 have B3 : Blk (w3.setCell ⟨p, 0, none⟩ v') p 67 [v', U 2, U 1, U 3] := by
  have b1 : Blk (w.setCell ⟨g0, k, none⟩ mv) p 67 [U 0, U 2, U 1, U 3] := h.blk.far (p := ⟨g0, k, none⟩) hpg _
  have b2 : Blk w2 p 67 [U 0, U 2, U 1, U 3] := (hb.block p b1.lt).trans b1
  have b3 : Blk w3 p 67 [U 0, U 2, U 1, U 3] := (hg.block p b2.lt fun e => hpg (by first | exact Option.some.inj e | exact (Option.some.inj e).symm)).trans b2
  have := b3.set 0 v'
  simpa using this
 refine ⟨_, _, ⟨?_, A6, fun i hi => ?_, h.hp, ?_, ?_, ?_, ?_, fun j hj => ?_⟩, fun j hj => ?_⟩
 ·show Blk _ p _ [V (if 0 = k + 4 then 4 + m + 1 else 0), V (if 2 = k + 4 then 4 + m + 1 else 2), V (if 1 = k + 4 then 4 + m + 1 else 1), V (if 3 = k + 4 then 4 + m + 1 else 3)]
  rw [e0 0 (by omega), e0 1 (by omega), e0 2 (by omega), e0 3 (by omega), v0.1, (vz 1 (by omega)).1, (vz 2 (by omega)).1, (vz 3 (by omega)).1, (zo 1 (by omega)).1, (zo 2 (by omega)).1, (zo 3 (by omega)).1]
  exact B3
 ·exact np _ (hσ i hi)
 ·show Y (if 0 = k + 4 then 4 + m + 1 else 0) = _
  rw [e0 0 (by omega), v0.2]
  apply List.ext_getElem?
  intro j
  by_cases hj : j < m
  ·rw [List.getElem?_append_left (by rw [List.length_set, prV_len]; exact hj), prV_get _ (by omega)]
   by_cases e : j = k
   ·subst e
    rw [List.getElem?_set_self (by rw [prV_len]; exact hj), if_pos rfl, (vz _ (by omega)).1, zm.1]
   ·rw [List.getElem?_set_ne (by omega), prV_get _ hj, e0 _ (by omega), (vz _ (by omega)).1, (zo _ (by omega)).1]
  ·by_cases e : j = m
   ·subst e
    rw [List.getElem?_append_right (by rw [List.length_set, prV_len]; omega), List.length_set, prV_len, Nat.sub_self, prV_get _ (by omega), e0 _ (by omega), (vz _ (by omega)).1, Nat.add_comm j 4, zl.1]
    rfl
   ·rw [List.getElem?_eq_none (by rw [List.length_append, List.length_set, prV_len]; simp; omega), List.getElem?_eq_none (by rw [prV_len]; omega)]
 ·show Y (if 1 = k + 4 then 4 + m + 1 else 1) = _
  rw [e0 1 (by omega), (vz 1 (by omega)).2, (zo 1 (by omega)).2]
  exact h.x1
 ·show Y (if 2 = k + 4 then 4 + m + 1 else 2) = _
  rw [e0 2 (by omega), (vz 2 (by omega)).2, (zo 2 (by omega)).2]
  exact h.x2
 ·show Y (if 3 = k + 4 then 4 + m + 1 else 3) = _
  rw [e0 3 (by omega), (vz 3 (by omega)).2, (zo 3 (by omega)).2]
  exact h.x3
 ·show Y (if j + 4 = k + 4 then 4 + m + 1 else j + 4) = _
  by_cases e : j = k
  ·subst e
   rw [if_pos rfl, (vz _ (by omega)).2, zm.2, hPk]
  ·rw [if_neg (by omega), (vz _ (by omega)).2]
   by_cases e2 : j = m
   ·subst e2
    rw [Nat.add_comm j 4, zl.2, hPm]
   ·rw [(zo _ (by omega)).2, h.xr j (by omega), hP j (by omega) e]
 ·rcases hj with rfl | ⟨i, hi, hj⟩
  ·exact .inl (.inl rfl)
  ·have hj : (V (if i = k + 4 then 4 + m + 1 else i)).ownBlock = some j := hj
   by_cases e : i = k + 4
   ·rw [if_pos e, (vz _ (by omega)).1, zm.1] at hj
    exact .inr (hlm j hj).2
   ·rw [if_neg e] at hj
    by_cases e0 : i = 0
    ·subst e0
     rw [v0.1] at hj
     rcases hw j hj with e2 | e2
     ·exact .inl (.inr ⟨0, by omega, by rw [hU0]; exact e2⟩)
     ·refine .inr ?_
      have := hb.size
      omega
    ·rw [(vz i e0).1] at hj
     by_cases e1 : i < 4 + m
     ·rw [(zo i e1).1] at hj
      exact .inl (.inr ⟨i, e1, hj⟩)
     ·obtain rfl : i = 4 + m := by omega
      rw [zl.1] at hj
      exact .inr (hll j hj).2
theorem len_lt {l : List Nat} {i n : Nat} {q : Nat → Bool} (hl : l.length ≤ n) : ((l.take i).filter q).length ≤ n :=
 Nat.le_trans (List.length_filter_le _ _) (by rw [List.length_take]; omega)
theorem nat64_snoc_own {w : World} {B j : Nat} {v : Value} {l : List Nat} {x : Nat} {y : List Nat} (h : w.ownsRow B 3 1 v (j + (nums .i64 [(x : Int)]).length) (nat64 l ++ nums .i64 [(x : Int)])) (hj : j = l.length) (hy : y = l ++ [x]) : w.ownsRow B 3 1 v (nat64 y).length (nat64 y) := by
 rw [hy, nat64_len, List.length_append, nat64_snoc, ← hj]
 exact h
theorem inP_take {n k : Nat} {a : Nat → Nat} {I : Nat → Bool} (b : Bool) : ((prt n a k).take (prt n a k).length).filter (fun s => I s == b) = inP n a I k b := by
 rw [List.take_length]
 rfl
set_option maxHeartbeats 8000000 in
set_option maxRecDepth 1000000 in
theorem lSplit_any {H p n m k : Nat} {D : Nat → Prop} {a : Nat → Nat} {I : Nat → Bool} {c : Nat → Nat} (w : World) (h : PtV w H p D n m a I c) (hpn : Pn n m a) (hn : n ≤ 2000) (hk : k < m)
  (hy : ∃ s, s < n ∧ a s = k ∧ I s = true) (hno : ∃ s, s < n ∧ a s = k ∧ I s = false) :
  Calls Try.prog 41 #[.pointer (some ⟨p, 0, none⟩), .int .i64 (k : Int)] w fun e w' => e = .returned (.tuple #[]) ∧ PPost w H p D n (m + 1) (spl a I k m (lsB n a I k)) I c w' := by
 have HSZ := qH h.size
 obtain ⟨⟨U, X, hu, hd⟩, hdB, hdl⟩ := h
 have HU := qH hu
 have HD := qH hd
 have HDB := qH hdB
 have HDL := qH hdl
 have HPN := qH hpn
 have HNF := qH hn
 have HKM := qH hk
 have HMN := qH hpn.le
 have HN0 := qH (show 0 < n by obtain ⟨s, h1, _⟩ := hy; omega)
 have HP0 := qH (show 0 < (prt n a k).length by obtain ⟨s, h1, h2, _⟩ := hy; exact List.length_pos_of_mem (prt_mem.2 ⟨h1, h2⟩))
 obtain ⟨g0, c0, hU0, hg0, hg0H, _⟩ := hu.val (i := 0) (by omega) hu.l0 (by omega)
 obtain ⟨g1, c1, hU1, hg1, hg1H, _⟩ := hu.val (i := 1) (by omega) hu.l1 HN0.out
 obtain ⟨g2, c2, hU2, hg2, hg2H, _⟩ := hu.val (i := 2) (by omega) hu.l2 HN0.out
 obtain ⟨gk, ck, hUk, hgk, hgkH, _⟩ := hu.val (i := k + 4) (by omega) (hu.lr hk) HP0.out
 have HU0 := qH hU0
 have HU1 := qH hU1
 have HU2 := qH hU2
 have HUK := qH hUk
 obtain ⟨l, hl⟩ : ∃ l, l = prt n a k := ⟨_, rfl⟩
 obtain ⟨len, hlen⟩ : ∃ x, x = l.length := ⟨_, rfl⟩
 rw [← hl, ← hlen] at hUk
 have HLE := qH hlen
 have HL := qH hl
 have HLN := qH (show len ≤ n by rw [hlen, hl]; exact prt_le n a k)
 have CD0 := qH (show w.cell? ⟨p, 0, none⟩ = some (.slice (some ⟨g0, 0, none⟩) m c0) by rw [hu.blk.cell 0, ← hU0]; rfl)
 have CD1 := qH (show w.cell? ⟨p, 1, none⟩ = some (.slice (some ⟨g2, 0, none⟩) n c2) by rw [hu.blk.cell 1, ← hU2]; rfl)
 have CD2 := qH (show w.cell? ⟨p, 2, none⟩ = some (.slice (some ⟨g1, 0, none⟩) n c1) by rw [hu.blk.cell 2, ← hU1]; rfl)
 have CDK := qH (show w.cell? ⟨g0, k, none⟩ = some (.slice (some ⟨gk, 0, none⟩) len ck) by rw [hu.top hU0 hk, hUk])
 have HPL := qH hu.blk.lt
 have CP := qH (show ∀ (i s : Nat), l[i]? = some s → w.cell? ⟨gk, i, none⟩ = some (.int .i64 (s : Int)) from fun i s h => (hu.cell (i := k + 4) (by omega) (by rw [hUk]) (by rw [hu.xr k hk, ← hl]; exact nat64_get h)).1)
 have CI := qH (show ∀ s, s < n → w.cell? ⟨g1, s, none⟩ = some (.bool (I s)) from fun s hs => hu.in_ hU1 hs)
 have HLT := qH (show ∀ (i s : Nat), l[i]? = some s → s < n from fun i s h => (prt_mem.1 (show s ∈ prt n a k by rw [← hl]; exact List.mem_of_getElem? h)).1)
 have HG0 := qH hg0
 have HG1 := qH hg1
 have HG2 := qH hg2
 have HGK := qH hgk
 have k1 : (k : Int) < (m : Int) := Int.ofNat_lt.2 hk
 obtain ⟨i1, hi1, hy0, hy1, hy2⟩ := infoP inf_int
 obtain ⟨il, hil, hl0, hl1, hl2⟩ := infoP inf_sl
 have cd0 := CD0.out
 have cdk := CDK.out
 clear hu hd hdB hdl hpn hn hk hU0 hU1 hU2 hUk hg0 hg1 hg2 hgk hg0H hg1H hg2H hgkH hl hlen
 go_enter Try.func41, Try.ntmps41
 go_wp2_with fail
 clear cd0 cdk
 go_loopw [4, 5, 18] (fun lv mv iv wl => ∃ i : Nat, i ≤ len ∧ iv = .int .i64 (i : Int) ∧ Apt wl w.heap.size 4 (two2 lv mv) (two2X (nat64 ((l.take i).filter fun s => I s == true)) (nat64 ((l.take i).filter fun s => I s == false))) ∧ Below w.heap.size w wl) (fun _ _ iv _ => len - (intOf iv).toNat)
 case atStart => exact ⟨0, Nat.zero_le _, rfl, two2_nil _ _, Below.refl _ _⟩
 obtain ⟨i, hi, rfl, ha, hb⟩ := hrel
 obtain ⟨Al, cl, rfl⟩ := ownC_slice (two2_l ha)
 obtain ⟨Am, cm, rfl⟩ := ownC_slice (two2_m ha)
 have AR := qH ha
 have BR := qH hb
 have HI := qH hi
 clear ha hb hi
 by_cases hin : i < len
 ·have x1 : (i : Int) < (len : Int) := Int.ofNat_lt.2 hin
  have HIN := qH hin
  have HMI := qH (sub_next hin)
  have HIB := qH (show i ≤ 2000 from Nat.le_trans HI.out (Nat.le_trans HLN.out HNF.out))
  have e3 := wrap_one i (Nat.le_trans HIB.out (by decide))
  have e4 := wrap_one' i (Nat.le_trans HIB.out (by decide))
  obtain ⟨s, hs⟩ : ∃ s, l[i]? = some s := ⟨_, List.getElem?_eq_getElem (by rw [← HLE.out]; exact hin)⟩
  have HS := qH hs
  have s1 : (s : Int) < (n : Int) := Int.ofNat_lt.2 (HLT.out i s hs)
  obtain ⟨b, hb⟩ : ∃ b, I s = b := ⟨_, rfl⟩
  have HB := qH hb
  have c21 : wr.cell? ⟨gk, i, none⟩ = some (.int .i64 (s : Int)) := (BR.out.cell (p := ⟨gk, i, none⟩) HGK.out).trans (CP.out i s hs)
  have c25 : wr.cell? ⟨p, 2, none⟩ = some (.slice (some ⟨g1, 0, none⟩) n c1) := (BR.out.cell (p := ⟨p, 2, none⟩) HPL.out).trans CD2.out
  have c28 : wr.cell? ⟨g1, s, none⟩ = some (.bool b) := (BR.out.cell (p := ⟨g1, s, none⟩) HG1.out).trans (by rw [CI.out s (HLT.out i s hs), hb])
  obtain ⟨jl, hjl⟩ : ∃ x, x = ((l.take i).filter fun s => I s == true).length := ⟨_, rfl⟩
  obtain ⟨jm, hjm⟩ : ∃ x, x = ((l.take i).filter fun s => I s == false).length := ⟨_, rfl⟩
  have HJL := qH hjl
  have HJM := qH hjm
  have HBL := qH (show jl + (nums .i64 [(s : Int)]).length ≤ 2097152 by
   have h1 : jl ≤ n := by rw [hjl]; exact len_lt (by rw [← HLE.out]; exact HLN.out)
   rw [nums_length, List.length_singleton]
   have := HNF.out
   omega)
  have HBM := qH (show jm + (nums .i64 [(s : Int)]).length ≤ 2097152 by
   have h1 : jm ≤ n := by rw [hjm]; exact len_lt (by rw [← HLE.out]; exact HLN.out)
   rw [nums_length, List.length_singleton]
   have := HNF.out
   omega)
  have e5 : (nat64 ((l.take i).filter fun s => I s == true)).length = jl := by rw [nat64_len, hjl]
  have e6 : (nat64 ((l.take i).filter fun s => I s == false)).length = jm := by rw [nat64_len, hjm]
  rw [e5, e6] at AR
  rw [e5, e6]
  clear hin hs hb hjl hjm e5 e6
  cases b with
  | true =>
   have EL := qH (filt_yes (l := l) (q := fun s => I s == true) HS.out (by rw [HB.out]; rfl))
   have EM := qH (filt_no (l := l) (q := fun s => I s == false) HS.out (by rw [HB.out]; rfl))
   go_wp2_with (first
    | ((with_reducible refine atDst 31 ?_); refine wpList_plain rfl fun K hK => wp_bldI 38 3 (.tmp 30) rfl i1 Try.underlying38 hi1 0 hy0 hy1 (s : Int) rfl ?_; intro wb hr hb; have RB := qH hr; have BB := qH hb; have AB := qH (AR.out.below hb); clear hr hb; refine hK _ _ ?_; clear hK K; (try simp only [Act.put, qA, qB, qC]))
    | ((with_reducible refine atDst 32 ?_); refine wpList_appW (base := w.heap.size) rfl (.tmp 29) (.tmp 31) 38 rfl 3 i1 (.int .i64 0) 8 Try.underlying38 hi1 hy0 hy1 hy2 rfl _ _ (nat64 ((l.take i).filter fun s => I s == true)) rfl (by have h9 := two2_l AB.out; rw [nat64_len, ← HJL.out] at h9; exact h9) _ (nums .i64 [(s : Int)]) rfl RB.out (nums_one _ _) HBL.out (by decide) (Nat.le_trans BR.out.size BB.out.size) ?_; intro v2 wc ho hgr hwr; have HO := qH ho; have HGR := qH hgr; have HWR := qH hwr; clear ho hgr hwr; (try simp only [Act.put, qA, qB, qC])))
   refine ⟨⟨i + 1, HIN.out, rfl, ?_, below_own (BR.out.trans (BB.out.mono BR.out.size)) (Nat.le_trans BR.out.size BB.out.size) HGR.out fun q hq => (own6_lt (two2_l AB.out) q hq).2⟩, by simpa [intOf] using HMI.out⟩
   rw [EM.out]
   exact two2_growL AB.out (nat64_snoc_own HO.out HJL.out EL.out) HGR.out HWR.out
  | false =>
   have EL := qH (filt_no (l := l) (q := fun s => I s == true) HS.out (by rw [HB.out]; rfl))
   have EM := qH (filt_yes (l := l) (q := fun s => I s == false) HS.out (by rw [HB.out]; rfl))
   go_wp2_with (first
    | ((with_reducible refine atDst 35 ?_); refine wpList_plain rfl fun K hK => wp_bldI 38 3 (.tmp 34) rfl i1 Try.underlying38 hi1 0 hy0 hy1 (s : Int) rfl ?_; intro wb hr hb; have RB := qH hr; have BB := qH hb; have AB := qH (AR.out.below hb); clear hr hb; refine hK _ _ ?_; clear hK K; (try simp only [Act.put, qA, qB, qC]))
    | ((with_reducible refine atDst 36 ?_); refine wpList_appW (base := w.heap.size) rfl (.tmp 33) (.tmp 35) 38 rfl 3 i1 (.int .i64 0) 8 Try.underlying38 hi1 hy0 hy1 hy2 rfl _ _ (nat64 ((l.take i).filter fun s => I s == false)) rfl (by have h9 := two2_m AB.out; rw [nat64_len, ← HJM.out] at h9; exact h9) _ (nums .i64 [(s : Int)]) rfl RB.out (nums_one _ _) HBM.out (by decide) (Nat.le_trans BR.out.size BB.out.size) ?_; intro v2 wc ho hgr hwr; have HO := qH ho; have HGR := qH hgr; have HWR := qH hwr; clear ho hgr hwr; (try simp only [Act.put, qA, qB, qC])))
   refine ⟨⟨i + 1, HIN.out, rfl, ?_, below_own (BR.out.trans (BB.out.mono BR.out.size)) (Nat.le_trans BR.out.size BB.out.size) HGR.out fun q hq => (own6_lt (two2_m AB.out) q hq).2⟩, by simpa [intOf] using HMI.out⟩
   rw [EL.out]
   exact two2_growM AB.out (nat64_snoc_own HO.out HJM.out EM.out) HGR.out HWR.out
 ·obtain rfl : i = len := Nat.le_antisymm HI.out (Nat.le_of_not_lt hin)
  have x1 : ¬ ((i : Int) < (i : Int)) := Int.lt_irrefl _
  obtain ⟨L, hL⟩ : ∃ L, L = inP n a I k true := ⟨_, rfl⟩
  obtain ⟨M, hM⟩ : ∃ M, M = inP n a I k false := ⟨_, rfl⟩
  have A0 := qH (show Apt wr w.heap.size 4 (two2 (.slice Al L.length cl) (.slice Am M.length cm)) (two2X (nat64 L) (nat64 M)) by
   have h1 := AR.out
   rw [HLE.out, HL.out, inP_take, inP_take, ← hL, ← hM, nat64_len, nat64_len] at h1
   exact h1)
  have e1 : ((l.take i).filter fun s => I s == true) = L := by rw [HLE.out, HL.out, inP_take, hL]
  have e2 : ((l.take i).filter fun s => I s == false) = M := by rw [HLE.out, HL.out, inP_take, hM]
  rw [nat64_len, nat64_len, e1, e2]
  obtain ⟨jl, hjl⟩ : ∃ x, x = L.length := ⟨_, rfl⟩
  obtain ⟨jm, hjm⟩ : ∃ x, x = M.length := ⟨_, rfl⟩
  rw [← hjl, ← hjm] at A0
  rw [← hjl, ← hjm]
  have HJL := qH hjl
  have HJM := qH hjm
  have HLL := qH hL
  have HMM := qH hM
  have HB0 := qH (show lsB n a I k = !decide (jm < jl) by rw [hjl, hjm, hL, hM]; rfl)
  clear hin e1 e2 AR hjl hjm hL hM CP
  by_cases hgt : jm < jl
  focus
   have x2 : (jm : Int) < (jl : Int) := Int.ofNat_lt.2 hgt
   have HBB := qH (show lsB n a I k = false by rw [HB0.out, decide_eq_true hgt]; rfl)
   clear hgt
   go_wp2_with fail
   have A1 := qH (two2_swap A0.out)
   obtain ⟨b, hb⟩ : ∃ b, b = false := ⟨_, rfl⟩
   have HLB := qH (show lsB n a I k = b by rw [HBB.out, hb])
   have HLS := qH (show M = inP n a I k b by rw [HMM.out, hb])
   have HMS := qH (show L = inP n a I k !b by rw [HLL.out, hb]; rfl)
   clear HLL HMM HB0 HBB A0 hb x2
   have H4 := qH HJM.out
   have H5 := qH HJL.out
   clear HJL HJM
   obtain ⟨A4, hren⟩ : ∃ v, v = Am := ⟨_, rfl⟩
   subst hren
   obtain ⟨c4, hren⟩ : ∃ v, v = cm := ⟨_, rfl⟩
   subst hren
   obtain ⟨j4, hren⟩ : ∃ v, v = jm := ⟨_, rfl⟩
   subst hren
   obtain ⟨LS, hren⟩ : ∃ v, v = M := ⟨_, rfl⟩
   subst hren
   obtain ⟨A5, hren⟩ : ∃ v, v = Al := ⟨_, rfl⟩
   subst hren
   obtain ⟨c5, hren⟩ : ∃ v, v = cl := ⟨_, rfl⟩
   subst hren
   obtain ⟨j5, hren⟩ : ∃ v, v = jl := ⟨_, rfl⟩
   subst hren
   obtain ⟨MS, hren⟩ : ∃ v, v = L := ⟨_, rfl⟩
   subst hren
  rotate_left
  focus
   have x2 : ¬ (jm : Int) < (jl : Int) := fun h => hgt (Int.ofNat_lt.1 h)
   have HBB := qH (show lsB n a I k = true by rw [HB0.out, decide_eq_false hgt]; rfl)
   clear hgt
   go_wp2_with fail
   have A1 := qH A0.out
   obtain ⟨b, hb⟩ : ∃ b, b = true := ⟨_, rfl⟩
   have HLB := qH (show lsB n a I k = b by rw [HBB.out, hb])
   have HLS := qH (show L = inP n a I k b by rw [HLL.out, hb])
   have HMS := qH (show M = inP n a I k !b by rw [HMM.out, hb]; rfl)
   clear HLL HMM HB0 HBB A0 hb x2
   have H4 := qH HJL.out
   have H5 := qH HJM.out
   clear HJL HJM
   obtain ⟨A4, hren⟩ : ∃ v, v = Al := ⟨_, rfl⟩
   subst hren
   obtain ⟨c4, hren⟩ : ∃ v, v = cl := ⟨_, rfl⟩
   subst hren
   obtain ⟨j4, hren⟩ : ∃ v, v = jl := ⟨_, rfl⟩
   subst hren
   obtain ⟨LS, hren⟩ : ∃ v, v = L := ⟨_, rfl⟩
   subst hren
   obtain ⟨A5, hren⟩ : ∃ v, v = Am := ⟨_, rfl⟩
   subst hren
   obtain ⟨c5, hren⟩ : ∃ v, v = cm := ⟨_, rfl⟩
   subst hren
   obtain ⟨j5, hren⟩ : ∃ v, v = jm := ⟨_, rfl⟩
   subst hren
   obtain ⟨MS, hren⟩ : ∃ v, v = M := ⟨_, rfl⟩
   subst hren
  rotate_left
  all_goals
   have HJ4N := qH (show j4 ≤ n by rw [H4.out, HLS.out]; exact inP_le _ _ _ _ _)
   have F0 := qH (show ∀ j, Pf p (4 + m) U j → j < w.heap.size from fun j hj => (HU.out.lt hj).1)
   have PW := qH (show PtU wr H p n m U X (prt n a) (aI a LS m 0) I c from (HU.out.below BR.out).congr (fun s _ => by unfold aI; rw [List.take_zero, if_neg (List.not_mem_nil)]) (fun _ _ => rfl) (fun _ _ => rfl))
   have OW := qH (show Off D w wr from Off.new D BR.out)
   clear HU BR
   go_loopw [47] (fun iv wl => ∃ (j : Nat) (Y : Nat → List Value), j ≤ j4 ∧ iv = .int .i64 (j : Int) ∧ PtU wl H p n m U Y (prt n a) (aI a LS m j) I c ∧ Apt wl w.heap.size 4 (two2 (.slice A4 j4 c4) (.slice A5 j5 c5)) (two2X (nat64 LS) (nat64 MS)) ∧ Off D w wl) (fun iv _ => j4 - (intOf iv).toNat)
   case atStart => exact ⟨0, X, Nat.zero_le _, rfl, PW.out, A1.out, OW.out⟩
   clear A1 PW OW
   obtain ⟨j, Y, hj, rfl, hp, ha, ho⟩ := hrel
   obtain ⟨wl, hwl⟩ : ∃ v : World, v = wr := ⟨_, rfl⟩
   subst hwl
   have PJ := qH hp
   have AJ := qH ha
   have OJ := qH ho
   have HJ := qH hj
   have HPJ := qH (show wl.heap[p]? = wl.heap[p]? from rfl)
   have C0 := qH (show wl.cell? ⟨p, 0, none⟩ = some (.slice (some ⟨g0, 0, none⟩) m c0) by rw [hp.blk.cell 0, ← HU0.out]; rfl)
   have C1 := qH (show wl.cell? ⟨p, 1, none⟩ = some (.slice (some ⟨g2, 0, none⟩) n c2) by rw [hp.blk.cell 1, ← HU2.out]; rfl)
   have PL := qH hp.blk.lt
   have NPG := qH (show ¬ p = g2 from fun e => hp.ne 2 (by omega) (by rw [HU2.out, e]; rfl))
   clear hj hp ha ho
   by_cases hjn : j < j4
   ·have x3 : (j : Int) < (j4 : Int) := Int.ofNat_lt.2 hjn
    have HJN := qH hjn
    have HMJ := qH (sub_next hjn)
    have HJB := qH (show j ≤ 2000 from Nat.le_trans HJ.out (Nat.le_trans HJ4N.out HNF.out))
    have f3 := wrap_one j (Nat.le_trans HJB.out (by decide))
    have f4 := wrap_one' j (Nat.le_trans HJB.out (by decide))
    obtain ⟨s, hs⟩ : ∃ s, LS[j]? = some s := ⟨_, List.getElem?_eq_getElem (by rw [← H4.out]; exact hjn)⟩
    have HS := qH hs
    have HSN := qH (show s < n from (inP_mem.1 (show s ∈ inP n a I k b by rw [← HLS.out]; exact List.mem_of_getElem? hs)).1)
    obtain ⟨b4, o4, rfl, hb4, hc4⟩ := (Row.of_own (two2_l AJ.out)).at_ (by rw [nat64_len, ← H4.out]; exact Nat.lt_of_le_of_lt (Nat.zero_le _) hjn)
    have c50 : wl.cell? ⟨b4, o4 + j, none⟩ = some (.int .i64 (s : Int)) := hc4 j _ (nat64_get hs)
    have CA := qH (PJ.out.cell (i := 2) (q := s) (by omega) HU2.out (by rw [PJ.out.x2]; exact ncs_get _ HSN.out))
    clear hjn hs hb4 hc4
    go_wp2_with fail
    refine sg_start (S := Off (fun q => q = g2) wl) (by kernel_rfl) (Off.start _ _) (fun wd hwd => ?_)
    have hX : Off (fun q => q = g2) wl wd := by rw [hwd]; exact Off.start _ _
    have BD := qH (show Below wl.heap.size wl wd by rw [hwd]; exact (Below.refl _ _).drew)
    have CA2 := qH (show wd.cell? ⟨g2, s, none⟩ = some (.int .i64 (aI a LS m j s : Int)) ∧ wd.frozen? ⟨g2, s, none⟩ = false by rw [hwd]; exact CA.out)
    clear hwd
    refine sg_take (i := 0) (oi := ⟨some 51, _, _, _, _, _⟩) (v := ?_) rfl (by kernel_rfl) (by kernel_rfl) (by kernel_rfl) (fun _ _ _ h => h) rfl hX ?_ ?_; rotate_left; (intro W hW; go_simp; try with_reducible rfl); simp only [Act.put, qA, qB, qC]
    refine sg_take (i := 1) (oi := ⟨some 52, _, _, _, _, _⟩) (v := ?_) rfl (by kernel_rfl) (by kernel_rfl) (by kernel_rfl) (fun _ _ _ h => h) rfl hX ?_ ?_; rotate_left; (intro W hW; go_simp; try with_reducible rfl); simp only [Act.put, qA, qB, qC]
    refine sg_take (i := 2) (oi := ⟨some 53, _, _, _, _, _⟩) (v := ?_) rfl (by kernel_rfl) (by kernel_rfl) (by kernel_rfl) (fun _ _ _ h => h) rfl hX ?_ ?_; rotate_left; (intro W hW; go_simp; try with_reducible rfl); simp only [Act.put, qA, qB, qC]
    refine sg_take (i := 3) (oi := ⟨some 54, _, _, _, _, _⟩) (v := .slice (some ⟨g2, 0, none⟩) n c2) rfl (by kernel_rfl) (by kernel_rfl) (by kernel_rfl) (fun _ _ _ h => h) rfl hX (fun W hW => lk_ldIs (.tmp 53) rfl rfl (hW.cell PL.out NPG.out C1.out)) ?_; simp only [Act.put, qA, qB, qC]
    refine sg_take (i := 4) (oi := ⟨some 55, _, _, _, _, _⟩) (v := ?_) rfl (by kernel_rfl) (by kernel_rfl) (by kernel_rfl) (fun _ _ _ h => h) rfl hX ?_ ?_; rotate_left; (intro W hW; go_simp; try with_reducible rfl); simp only [Act.put, qA, qB, qC]
    refine sg_take (i := 5) (oi := ⟨some 56, _, _, _, _, _⟩) (v := ?_) rfl (by kernel_rfl) (by kernel_rfl) (by kernel_rfl) (fun _ _ _ h => h) rfl hX ?_ ?_; rotate_left; (intro W hW; go_simp; try with_reducible rfl); simp only [Act.put, qA, qB, qC]
    refine sg_take (i := 6) (oi := ⟨some 57, _, _, _, _, _⟩) (v := ?_) rfl (by kernel_rfl) (by kernel_rfl) (by kernel_rfl) (fun _ _ _ h => h) rfl hX ?_ ?_; rotate_left; (intro W hW; go_simp; try with_reducible rfl); simp only [Act.put, qA, qB, qC]
    refine sg_take (i := 7) (oi := ⟨some 58, _, _, _, _, _⟩) (v := ?_) rfl (by kernel_rfl) (by kernel_rfl) (by kernel_rfl) (fun _ _ _ h => h) rfl hX ?_ ?_; rotate_left; (intro W hW; go_simp; try with_reducible rfl); simp only [Act.put, qA, qB, qC]
    refine sg_take (i := 8) (oi := ⟨some 59, _, _, _, _, _⟩) (v := .slice (some ⟨g0, 0, none⟩) m c0) rfl (by kernel_rfl) (by kernel_rfl) (by kernel_rfl) (fun _ _ _ h => h) rfl hX (fun W hW => lk_ldIss (.tmp 58) rfl rfl (hW.cell PL.out NPG.out C0.out)) ?_; simp only [Act.put, qA, qB, qC]
    refine sg_take (i := 9) (oi := ⟨some 60, _, _, _, _, _⟩) (v := ?_) rfl (by kernel_rfl) (by kernel_rfl) (by kernel_rfl) (fun _ _ _ h => h) rfl hX ?_ ?_; rotate_left; (intro W hW; go_simp; try with_reducible rfl); simp only [Act.put, qA, qB, qC]
    refine sg_take (i := 10) (oi := ⟨some 61, _, _, _, _, _⟩) (v := .pointer (some ⟨g2, s, none⟩)) rfl (by kernel_rfl) (by kernel_rfl) (by kernel_rfl) (fun _ _ _ h => h) rfl hX (fun W hW => lk_ixI0 (.tmp 54) (.tmp 55) rfl rfl rfl HSN.out W) ?_; simp only [Act.put, qA, qB, qC]
    refine sg_actB (i := 11) (o := ⟨none, _, _, _, _, _⟩) rfl (by kernel_rfl) rfl hX (fun K hK => ?_)
    refine wp_stI (.tmp 61) (.tmp 60) rfl g2 s rfl (m : Int) rfl _ CA2.out.1 CA2.out.2 ?_
    refine hK _ _ (hX.trans (Off.set _ _ _ rfl)) ?_
    clear hK K
    refine wpAnyH_done (by kernel_rfl) ?_ _
    have PZ := qH (((PJ.out.below BD.out).setA HU2.out HSN.out m).congr (fun q _ => aI_next HS.out q) (fun _ _ => rfl) (fun _ _ => rfl))
    have AZ := qH (AJ.out.below BD.out)
    have HG2W := qH (F0.out g2 (.inr ⟨2, by omega, by rw [HU2.out]; rfl⟩))
    have AZ2 := qH (show Apt (wd.setCell ⟨g2, s, none⟩ (.int .i64 (m : Int))) w.heap.size 4 (two2 (.slice (some ⟨b4, o4, none⟩) j4 c4) (.slice A5 j5 c5)) (two2X (nat64 LS) (nat64 MS)) from AZ.out.offs (D := fun q => q = g2) (Off.set wd s _ rfl) fun i hi q hq e => by
     have := (AZ.out.lt hi q hq).2
     have := HG2W.out
     omega)
    have OZ := qH (show Off D w (wd.setCell ⟨g2, s, none⟩ (.int .i64 (m : Int))) from (OJ.out.trans (Off.new D BD.out)).trans (Off.set wd s _ (HD.out g2 (.inr ⟨2, by omega, by rw [HU2.out]; rfl⟩))))
    clear hX
    go_wp2_with fail
    exact ⟨⟨j + 1, _, HJN.out, rfl, PZ.out, AZ2.out, OZ.out⟩, by simpa [intOf] using HMJ.out⟩
   ·obtain rfl : j = j4 := Nat.le_antisymm HJ.out (Nat.le_of_not_lt hjn)
    have x3 : ¬ ((j : Int) < (j : Int)) := Int.lt_irrefl _
    clear hjn
    obtain ⟨aj, haj⟩ : ∃ x, x = aI a LS m j := ⟨_, rfl⟩
    have HAJ := qH haj
    rw [← haj] at PJ
    have HAS := qH (show ∀ s, s < n → aj s = spl a I k m b s from fun s hs => by rw [haj, HLS.out]; exact aI_spl (by rw [← HLS.out, ← H4.out]; exact Nat.le_refl _) hs)
    have hck := PJ.out.cell (i := 0) (q := k) (by omega) HU0.out (by rw [PJ.out.x0]; exact prV_get U HKM.out)
    have cgk := hck.1
    have cfk := hck.2
    obtain ⟨mv, hmv⟩ : ∃ mv, mv = Value.slice A5 j5 c5 := ⟨_, rfl⟩
    have HMV := qH hmv
    have PG0 := qH (show p ≠ g0 from fun e => PJ.out.ne 0 (by omega) (by rw [HU0.out, e]; rfl))
    have BP1 := qH (show Blk (wl.setCell ⟨g0, k, none⟩ mv) p 67 [U 0, U 2, U 1, U 3] from PJ.out.blk.far (p := ⟨g0, k, none⟩) PG0.out _)
    have T1 := qH (show (wl.setCell ⟨g0, k, none⟩ mv).ownsRow H 38 1 (.slice (some ⟨g0, 0, none⟩) m c0) m ((prV m U).set k mv) from own_set (by
     have h1 := PJ.out.apt.own 0 (by omega)
     rw [PJ.out.x0, prV_len, HU0.out] at h1
     exact h1) (j := k) (by rw [prV_len]; exact HKM.out) mv)
    have SZ1 := qH (show H ≤ (wl.setCell ⟨g0, k, none⟩ mv).heap.size from Nat.le_trans HSZ.out (Nat.le_trans OJ.out.size (by simp)))
    have cq0 := C0.out
    have cq1 : (wl.setCell ⟨g0, k, none⟩ mv).cell? ⟨p, 0, none⟩ = some (.slice (some ⟨g0, 0, none⟩) m c0) := by rw [BP1.out.cell 0, ← HU0.out]; rfl
    have HM2 := qH (show m + [Value.slice A4 j c4].length ≤ 2097152 by rw [List.length_singleton]; have := HMN.out; have := HNF.out; omega)
    rw [hmv] at cq1 T1 SZ1 BP1
    clear haj hck hmv
    go_wp2_with (first
     | ((with_reducible refine atDst 76 ?_); refine wpList_plain rfl fun K hK => wp_bldVk 25 38 (.tmp 75) rfl il (.slice none 0 0) Try.underlying25 hil hl0 hl1 rfl (.slice A4 j c4) rfl rfl ?_; intro w2 hk2 hb2; have K2 := qH hk2; have B2 := qH hb2; have T2 := qH (own6_stay T1.out fun q hq => hb2.block q (own6_lt T1.out q hq).1); have BP2 := qH (show Blk w2 p 67 [U 0, U 2, U 1, U 3] from (hb2.block p BP1.out.lt).trans BP1.out); clear hk2 hb2; refine hK _ _ ?_; clear hK K; (try simp only [Act.put, qA, qB, qC]))
     | ((with_reducible refine atDst 77 ?_); refine wpList_appW (base := H) rfl (.tmp 74) (.tmp 76) 25 rfl 38 il (.slice none 0 0) 24 Try.underlying25 hil hl0 hl1 hl2 rfl _ _ _ rfl T2.out _ [Value.slice A4 j c4] rfl (rowB K2.out rfl (by decide)) (fun u hu => by obtain rfl := List.mem_singleton.1 hu; rfl) HM2.out (by decide) (Nat.le_trans SZ1.out B2.out.size) ?_; intro v3 w3 ho hgr hwr; have HO3 := qH ho; have HG3 := qH hgr; have HW3 := qH hwr; obtain ⟨A3, c3, rfl⟩ := ownC_slice ho; have BP3 := qH (show Blk w3 p 67 [U 0, U 2, U 1, U 3] from BP2.out.grown hgr fun e => PG0.out (by first | exact Option.some.inj e | exact (Option.some.inj e).symm)); have cp3 := BP3.out.cell 0; have fp3 := BP3.out.frozen 0; clear ho hgr hwr; (try simp only [Act.put, qA, qB, qC])))
    go_end0
    obtain ⟨U2, X2, hP2, hF2⟩ := spl_end (P' := prt n (spl a I k m b)) PJ.out HKM.out AJ.out HSZ.out F0.out OJ.out.size HU0.out B2.out HO3.out HG3.out HW3.out (fun q hq hne => (prt_else hq hne).symm) (by rw [prt_old HKM.out, HMS.out]) (by rw [prt_new HPN.out, HLS.out])
    have DG := qH (HD.out g0 (.inr ⟨0, by omega, by rw [HU0.out]; rfl⟩))
    rw [HLB.out]
    refine ⟨rfl, ptV_of (hP2.congr HAS.out (fun _ _ => rfl) (fun _ _ => rfl)) (fun q hq => ?_) HDB.out HDL.out ?_ HSZ.out⟩
    ·rcases hF2 q hq with e | e
     ·exact .inl (HD.out q e)
     ·exact .inr e
    ·exact (((OJ.out.trans (Off.set wl k _ DG.out)).then B2.out).trans (Off.grown HG3.out fun q hq => .inr (by have e : some g0 = some q := hq; rw [← Option.some.inj e]; exact DG.out))).trans (Off.set w3 0 _ (HD.out p (.inl rfl)))
def fI (l : List Nat) (i : Nat) : Nat → Bool := fun s => decide (s ∈ l.take i)
def gI (l : List Nat) (i : Nat) : Nat → Bool := fun s => decide (s ∈ l) && !decide (s ∈ l.take i)
def cT (a : Nat → Nat) (l T : List Nat) (j : Nat) : Nat → Nat := fun k => if k ∈ T.take j then 0 else cntK a l k
theorem fI_zero (l : List Nat) (s : Nat) : fI l 0 s = false := by simp [fI]
theorem fI_next {l : List Nat} {i s : Nat} (h : l[i]? = some s) (q : Nat) : updB (fI l i) s true q = fI l (i + 1) q := by
 unfold updB fI
 rw [Bool.eq_iff_iff]
 by_cases hq : q = s
 ·rw [if_pos hq]
  exact ⟨fun _ => decide_eq_true ((mem_take_succ h).2 (.inr hq)), fun _ => rfl⟩
 ·rw [if_neg hq, decide_eq_true_iff, decide_eq_true_iff, mem_take_succ h]
  exact ⟨fun x => .inl x, fun x => by rcases x with x | x; exact x; exact absurd x hq⟩
theorem fI_all {l : List Nat} {i : Nat} (h : l.length ≤ i) (s : Nat) : fI l i s = gI l 0 s := by
 unfold fI gI
 rw [List.take_of_length_le h]
 simp
theorem gI_iff {l : List Nat} (s : Nat) : gI l 0 s = true ↔ s ∈ l := by simp [gI]
theorem gI_next {l : List Nat} {i s : Nat} (h : l[i]? = some s) (q : Nat) : updB (gI l i) s false q = gI l (i + 1) q := by
 unfold updB gI
 by_cases hq : q = s
 ·rw [if_pos hq, decide_eq_true ((mem_take_succ h).2 (.inr hq))]
  simp
 ·rw [if_neg hq]
  congr 2
  rw [Bool.eq_iff_iff, decide_eq_true_iff, decide_eq_true_iff, mem_take_succ h]
  exact ⟨fun x => .inl x, fun x => by rcases x with x | x; exact x; exact absurd x hq⟩
theorem gI_end {l : List Nat} {i : Nat} (h : l.length ≤ i) (s : Nat) : gI l i s = false := by
 unfold gI
 rw [List.take_of_length_le h]
 simp
theorem cntK_none (a : Nat → Nat) (k : Nat) (l : List Nat) : cntK a (l.take 0) k = 0 := by simp [cntK]
theorem cntK_upd {a : Nat → Nat} {l : List Nat} {i s : Nat} (h : l[i]? = some s) {x : Nat} (hx : x = cntK a (l.take i) (a s) + 1) (q : Nat) : updN (cntK a (l.take i)) (a s) x q = cntK a (l.take (i + 1)) q := by
 rw [cntK_take h]
 unfold updN
 by_cases hq : q = a s
 ·rw [if_pos hq, if_pos hq, hx, hq]
 ·rw [if_neg hq, if_neg hq]
theorem cT_zero {a : Nat → Nat} {l T : List Nat} {i : Nat} (h : l.length ≤ i) (k : Nat) : cntK a (l.take i) k = cT a l T 0 k := by
 unfold cT
 rw [List.take_zero, if_neg List.not_mem_nil, List.take_of_length_le h]
theorem cT_at {a : Nat → Nat} {l T : List Nat} {j k : Nat} (hd : T.Nodup) (h : T[j]? = some k) : cT a l T j k = cntK a l k := if_neg (not_mem_take hd h)
theorem cT_next {a : Nat → Nat} {l T : List Nat} {j k : Nat} (h : T[j]? = some k) (q : Nat) : updN (cT a l T j) k 0 q = cT a l T (j + 1) q := by
 unfold updN cT
 by_cases hq : q = k
 ·rw [if_pos hq, if_pos ((mem_take_succ h).2 (.inr hq))]
 ·rw [if_neg hq]
  by_cases hm : q ∈ T.take j
  ·rw [if_pos hm, if_pos ((mem_take_succ h).2 (.inl hm))]
  ·rw [if_neg hm, if_neg fun x => by rcases (mem_take_succ h).1 x with x | x; exact hm x; exact hq x]
theorem cT_end {a : Nat → Nat} {l : List Nat} {j : Nat} (h : (tchL a l).length ≤ j) (k : Nat) : cT a l (tchL a l) j k = 0 := by
 unfold cT
 rw [List.take_of_length_le h]
 by_cases hm : k ∈ tchL a l
 ·rw [if_pos hm]
 ·rw [if_neg hm]
  exact cntK_zero.2 hm
theorem Row.off {w w' : World} {v : Value} {xs : List Value} {D : Nat → Prop} (h : Row w v xs) (ho : Off D w w') (hd : ∀ k, v.ownBlock = some k → ¬ D k) : Row w' v xs := by
 obtain ⟨A, cap, rfl, h1, h2, h0, h3⟩ := h
 refine ⟨A, cap, rfl, h1, h2, h0, fun hne => ?_⟩
 obtain ⟨b, off, rfl, hb, hc⟩ := h3 hne
 exact ⟨b, off, rfl, Nat.lt_of_lt_of_le hb ho.size, fun i u hu => ho.cell hb (hd b rfl) (hc i u hu)⟩
def CutE (w : World) (H p : Nat) (D : Nat → Prop) (n : Nat) (l : List Nat) (m : Nat) (a : Nat → Nat) (w' : World) : Prop :=
 ∃ m' a', CutP n l m a m' a' ∧ PPost w H p D n m' a' (fun _ => false) (fun _ => 0) w'
section
variable {w w1 w' : World} {H p n m : Nat} {D : Nat → Prop} {a : Nat → Nat} {I : Nat → Bool} {c : Nat → Nat}
theorem PPost.pre (ho : Off D w w1) (hD : ∀ k, D k → k < w.heap.size) (x : PPost w1 H p D n m a I c w') (hs : H ≤ w.heap.size) : PPost w H p D n m a I c w' := by
 refine ⟨x.pt.mono (fun k hk => ?_) (fun k hk => ?_) fun k hk => ?_, ho.trans x.off, hs⟩
 ·rcases hk with hk | hk
  ·exact .inl hk
  ·exact .inr ⟨Nat.le_trans ho.size hk.1, hk.2⟩
 ·rcases hk with hk | hk
  ·exact x.pt.dB k (.inl hk)
  ·exact Nat.le_trans hs hk.1
 ·rcases hk with hk | hk
  ·exact x.pt.dl k (.inl hk)
  ·exact hk.2
theorem PPost.refl (h : PtV w H p D n m a I c) : PPost w H p D n m a I c w :=
 ⟨h.mono (fun k hk => .inl hk) (fun k hk => by rcases hk with hk | hk; exact h.dB k hk; omega) (fun k hk => by rcases hk with hk | hk; exact h.dl k hk; omega), Off.refl _ _, h.size⟩
theorem PPost.congr {a' : Nat → Nat} {I' : Nat → Bool} {c' : Nat → Nat} (x : PPost w H p D n m a I c w1) (ha : ∀ s, s < n → a s = a' s) (hI : ∀ s, s < n → I s = I' s) (hc : ∀ s, s < n → c s = c' s) : PPost w H p D n m a' I' c' w1 := by
 obtain ⟨⟨⟨U, X, h1, h2⟩, h3, h4⟩, h5, h6⟩ := x
 exact ⟨⟨⟨U, X, (h1.congr ha hI hc).as fun k _ => prt_congr fun s hs => by rw [ha s hs], h2⟩, h3, h4⟩, h5, h6⟩
theorem PPost.set {I' : Nat → Bool} {c' : Nat → Nat} {U : Nat → Value} {Y : Nat → List Value} {g s : Nat} {v : Value} (x : PPost w H p D n m a I c w1) (h : PtU (w1.setCell ⟨g, s, none⟩ v) H p n m U Y (prt n a) a I' c') (hf : ∀ k, Pf p (4 + m) U k → up D w w1 k) (hg : up D w w1 g) : PPost w H p D n m a I' c' (w1.setCell ⟨g, s, none⟩ v) := by
 have sz : (w1.setCell ⟨g, s, none⟩ v).heap.size = w1.heap.size := by simp
 refine ⟨⟨⟨U, Y, h, fun k hk => ?_⟩, fun k hk => ?_, fun k hk => ?_⟩, off_trans x.off (Off.set w1 s v hg), x.sz⟩
 ·rcases hf k hk with e | e
  ·exact .inl e
  ·exact .inr ⟨e.1, by rw [sz]; exact e.2⟩
 ·rcases hk with e | e
  ·exact x.pt.dB k (.inl e)
  ·exact Nat.le_trans x.sz e.1
 ·rcases hk with e | e
  ·rw [sz]; exact x.pt.dl k (.inl e)
  ·exact e.2
end
end Go.Proofs.Ytiehefnbdijiaaa
