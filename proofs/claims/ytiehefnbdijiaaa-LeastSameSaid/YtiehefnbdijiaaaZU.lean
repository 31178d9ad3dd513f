/-
  Texts of this proof, put together: LkY, LkX, LkW. No statement is proved here.
-/
import Derived.Test.YtiehefnbdijiaaaZT
import Derived.Test.YtiehefnbdijiaaaZL
import Derived.Test.YtiehefnbdijiaaaZM
namespace Go.Proofs.Ytiehefnbdijiaaa
open Go.RowKit
set_option linter.unusedSimpArgs false
set_option linter.unusedVariables false
structure ApG (ty : Nat → TypeId) (w : World) (H m : Nat) (U : Nat → Value) (X : Nat → List Value) : Prop where
 own : ∀ i, i < m → w.ownsRow H (ty i) 1 (U i) (X i).length (X i)
 inj : ∀ i j, i < m → j < m → i ≠ j → ∀ k, (U i).ownBlock = some k → (U j).ownBlock ≠ some k
section
variable {ty : Nat → TypeId} {w w' : World} {H m : Nat} {U : Nat → Value} {X : Nat → List Value}
theorem ApG.stay (h : ApG ty w H m U X) (hs : ∀ k, H ≤ k → k < w.heap.size → w'.heap[k]? = w.heap[k]?) : ApG ty w' H m U X :=
 ⟨fun i hi => own6_stay (h.own i hi) fun j hj => hs j (own6_lt (h.own i hi) j hj).2 (own6_lt (h.own i hi) j hj).1, h.inj⟩
theorem ApG.below (h : ApG ty w H m U X) (hb : Below w.heap.size w w') : ApG ty w' H m U X := h.stay fun k _ hk => hb.block k hk
theorem ApG.lt (h : ApG ty w H m U X) {i : Nat} (hi : i < m) : ∀ k, (U i).ownBlock = some k → k < w.heap.size ∧ H ≤ k := own6_lt (h.own i hi)
theorem ApG.grow (h : ApG ty w H m U X) {s : Nat} (hs : s < m) {v : Value} {l : List Value} (ho : w'.ownsRow H (ty s) 1 v l.length l) (hg : w.grownBy w' (U s).ownBlock) (hw : ∀ k, v.ownBlock = some k → (U s).ownBlock = some k ∨ w.heap.size ≤ k) :
  ApG ty w' H m (putV U s v) (putX X s l) := by
 have hkeep : ∀ i, i < m → i ≠ s → ∀ k, (U i).ownBlock = some k → w'.heap[k]? = w.heap[k]? := fun i hi hne k hk =>
  hg.block k (h.lt hi k hk).1 fun e => h.inj i s hi hs hne k hk (by first | exact e | exact e.symm)
 refine ⟨fun i hi => ?_, fun i j hi hj hij k hk => ?_⟩
 ·by_cases hne : i = s
  ·subst hne
   rw [putV_at, putX_at]
   exact ho
  ·rw [putV_ne hne, putX_ne hne]
   exact own6_stay (h.own i hi) fun j hj => hkeep i hi hne j hj
 ·by_cases hi2 : i = s
  ·have hj2 : j ≠ s := fun e => hij (by rw [hi2, e])
   rw [hi2, putV_at] at hk
   rw [putV_ne hj2]
   rcases hw k hk with e | e
   ·exact h.inj s j hs hj (Ne.symm hj2) k e
   ·exact fun e2 => absurd (h.lt hj k e2).1 (Nat.not_lt.2 e)
  ·rw [putV_ne hi2] at hk
   by_cases hj2 : j = s
   ·rw [hj2, putV_at]
    intro e2
    rcases hw k e2 with e | e
    ·exact h.inj s i hs hi (Ne.symm hi2) k e hk
    ·exact absurd (h.lt hi k hk).1 (Nat.not_lt.2 e)
   ·rw [putV_ne hj2]
    exact h.inj i j hi hj hij k hk
theorem ApG.more (h : ApG ty w H m U X) : ApG ty w H (m + 1) (putV U m (.slice none 0 0)) (putX X m []) := by
 refine ⟨fun i hi => ?_, fun i j hi hj hij k hk => ?_⟩
 ·by_cases hne : i = m
  ·subst hne
   rw [putV_at, putX_at]
   exact ownC_nil _ _ _
  ·rw [putV_ne hne, putX_ne hne]
   exact h.own i (by omega)
 ·by_cases hi2 : i = m
  ·rw [hi2, putV_at] at hk
   cases (show (none : Option Nat) = some k from hk)
  ·rw [putV_ne hi2] at hk
   by_cases hj2 : j = m
   ·rw [hj2, putV_at]
    intro e
    cases (show (none : Option Nat) = some k from e)
   ·rw [putV_ne hj2]
    exact h.inj i j (by omega) (by omega) hij k hk
theorem ApG.fewer (h : ApG ty w H (m + 1) U X) : ApG ty w H m U X := ⟨fun i hi => h.own i (by omega), fun i j hi hj => h.inj i j (by omega) (by omega)⟩
theorem ApG.set (h : ApG ty w H m U X) {s : Nat} (hs : s < m) {g n cap : Nat} (hv : U s = .slice (some ⟨g, 0, none⟩) n cap) {q : Nat} (hq : q < (X s).length) (u : Value) : ApG ty (w.setCell ⟨g, q, none⟩ u) H m U (putX X s ((X s).set q u)) := by
 refine ⟨fun i hi => ?_, h.inj⟩
 by_cases hne : i = s
 ·subst hne
  rw [putX_at, List.length_set]
  have h1 := h.own i hi
  rw [hv] at h1 ⊢
  have h2 : n = (X i).length := by
   rcases h1.2 with ⟨e, _⟩ | ⟨g', cap', cur, e, _⟩
   ·cases e
   ·injection e
  rw [← h2] at h1 ⊢
  exact own_set h1 hq u
 ·rw [putX_ne hne]
  refine own6_stay (h.own i hi) fun j hj => Below.heap_setCell w ⟨g, q, none⟩ u j fun e => h.inj s i hs hi (Ne.symm hne) g (by rw [hv]; rfl) (by rw [hj]; exact congrArg some e)
end
theorem ApG.offs {ty : Nat → TypeId} {w w' : World} {H m : Nat} {U : Nat → Value} {X : Nat → List Value} {D : Nat → Prop} (h : ApG ty w H m U X) (ho : Off D w w') (hd : ∀ i, i < m → ∀ k, (U i).ownBlock = some k → ¬ D k) : ApG ty w' H m U X :=
 ⟨fun i hi => own6_stay (h.own i hi) fun j hj => ho.block j (h.lt hi j hj).1 (hd i hi j hj), h.inj⟩
theorem ApG.add {ty : Nat → TypeId} {w : World} {H M : Nat} {U : Nat → Value} {X : Nat → List Value} {v : Value} {l : List Value} (h : ApG ty w H M U X) (ho : w.ownsRow H (ty M) 1 v l.length l) (hd : ∀ i, i < M → ∀ k, (U i).ownBlock = some k → v.ownBlock ≠ some k) : ApG ty w H (M + 1) (putV U M v) (putX X M l) := by
 refine ⟨fun i hi => ?_, fun i j hi hj hij k hk => ?_⟩
 ·by_cases e : i = M
  ·subst e
   rw [putV_at, putX_at]
   exact ho
  ·rw [putV_ne e, putX_ne e]
   exact h.own i (by omega)
 ·by_cases e : i = M
  ·subst e
   rw [putV_at] at hk
   rw [putV_ne (by omega)]
   exact fun hk2 => hd j (by omega) k hk2 hk
  ·rw [putV_ne e] at hk
   by_cases e2 : j = M
   ·subst e2
    rw [putV_at]
    exact hd i (by omega) k hk
   ·rw [putV_ne e2]
    exact h.inj i j (by omega) (by omega) hij k hk
theorem apg_cell {ty : Nat → TypeId} {w : World} {H m : Nat} {U : Nat → Value} {X : Nat → List Value} (h : ApG ty w H m U X) {s g n c q : Nat} (hs : s < m) (hU : U s = .slice (some ⟨g, 0, none⟩) n c) {v : Value} (hx : (X s)[q]? = some v) : w.cell? ⟨g, q, none⟩ = some v ∧ w.frozen? ⟨g, q, none⟩ = false := by
 have h1 := h.own s hs
 rw [hU] at h1
 have h2 : n = (X s).length := by
  rcases h1.2 with ⟨e, _⟩ | ⟨g', cap', cur, e, _⟩
  ·cases e
  ·injection e
 rw [← h2] at h1
 exact own_cell h1 hx
def ixL (cols : List (List Int)) (l : List Int) : Int := if l ∈ cols then (ixOf cols l : Int) else -1
theorem ix_firstG {α : Type} [DecidableEq α] {l : List α} {x : α} {i : Nat} (h : l[i]? = some x) (hn : ∀ j, j < i → l[j]? ≠ some x) : ixOf l x = i := by
 have hm := List.mem_of_getElem? h
 have h1 := idx_get hm
 rcases Nat.lt_trichotomy (ixOf l x) i with k | k | k
 ·exact absurd h1 (hn _ k)
 ·exact k
 ·exfalso
  unfold ixOf at k
  have h3 := List.not_of_lt_findIdx (xs := l) (p := fun y => y == x) (i := i) k
  obtain ⟨hi, he⟩ := List.getElem?_eq_some_iff.1 h
  simp [he] at h3
theorem ixL_first {cols : List (List Int)} {l : List Int} {i : Nat} (h : cols[i]? = some l) (hn : ∀ j, j < i → cols[j]? ≠ some l) : ixL cols l = (i : Int) := by
 unfold ixL
 rw [if_pos (List.mem_of_getElem? h), ix_firstG h hn]
theorem ixL_none {cols : List (List Int)} {l : List Int} (hn : ∀ j, j < cols.length → cols[j]? ≠ some l) : ixL cols l = -1 := by
 unfold ixL
 rw [if_neg]
 intro hm
 obtain ⟨j, hj, e⟩ := List.getElem_of_mem hm
 exact hn j hj (by rw [List.getElem?_eq_getElem hj, e])
set_option maxHeartbeats 8000000 in
set_option maxRecDepth 1000000 in
theorem mrgF_any (xs ys : List Int) (u v : Value) (gl : Nat) (w : World) (hu : Row w u (nums .i64 xs)) (hv : Row w v (nums .i64 ys)) (hc : w.cell? ⟨gl, 0, none⟩ = some v) (hn : xs.length ≤ 1048576) :
  Calls Try.prog 26 #[u, .pointer (some ⟨gl, 0, none⟩)] w fun e w' => e = .returned (.bool (decide (xs = ys))) ∧ Below w.heap.size w w' := by
 have HU := qH hu
 have HV := qH hv
 have HN := qH hn
 obtain ⟨A, c, rfl, _⟩ := hu
 obtain ⟨B, d, rfl, _⟩ := hv
 obtain ⟨q, hq⟩ : ∃ q, q = decide (xs = ys) := ⟨_, rfl⟩
 have HQ := qH hq
 rw [← hq]
 clear hn hq
 go_enter Try.func26, Try.ntmps26
 go_wp2_with fail
 refine (eqInts_any xs ys _ _ w HU.out HV.out HN.out).mono ?_
 rintro e w1 ⟨rfl, hb⟩
 rw [← HQ.out]
 have HB := qH hb
 clear hb
 go_wp2_with fail
 go_ret
 exact ⟨rfl, HB.out⟩
abbrev mrgV (gl : Nat) : Value := .func (.func 26) #[] #[.pointer (some ⟨gl, 0, none⟩)]
set_option maxHeartbeats 8000000 in
set_option maxRecDepth 1000000 in
theorem ixL_any (cols : List (List Int)) (T : Nat → Value) (l : List Int) (kv v : Value) (gl : Nat) (w : World) (hk : Row w kv ((List.range cols.length).map T)) (hT : ∀ i r, cols[i]? = some r → Row w (T i) (nums .i64 r)) (hv : Row w v (nums .i64 l)) (hgl : gl < w.heap.size) (hc : w.cell? ⟨gl, 0, none⟩ = some v) (hn : cols.length ≤ 2000) (hr : ∀ r ∈ cols, r.length ≤ 1048576) :
  Calls Try.prog 25 #[kv, mrgV gl] w fun e w' => e = .returned (.int .i64 (ixL cols l)) ∧ Below w.heap.size w w' := by
 have HK := qH hk
 have HT := qH hT
 have HV := qH hv
 have HGL := qH hgl
 have HC := qH hc
 have HRL := qH hr
 obtain ⟨A, c, rfl, _⟩ := hk
 obtain ⟨n, hnn⟩ : ∃ n, n = cols.length := ⟨_, rfl⟩
 rw [List.length_map, List.length_range, ← hnn] at HK ⊢
 have HN := qH hnn
 have HNF := qH (show n ≤ 2000 by rw [hnn]; exact hn)
 obtain ⟨R, hR⟩ : ∃ R, R = ixL cols l := ⟨_, rfl⟩
 have HR := qH hR
 rw [← hR]
 clear hT hv hgl hc hn hr hnn hR
 go_enter Try.func25, Try.ntmps25
 go_wp2_with fail
 go_loopw [8] (fun iv wl => ∃ i : Nat, i ≤ n ∧ iv = .int .i64 (i : Int) ∧ (∀ j, j < i → cols[j]? ≠ some l) ∧ Below w.heap.size w wl) (fun iv _ => n - (intOf iv).toNat)
 case atStart => exact ⟨0, Nat.zero_le _, rfl, fun j hj => absurd hj (Nat.not_lt_zero j), Below.refl _ _⟩
 obtain ⟨i, hi, rfl, hne, hb⟩ := hrel
 have HI := qH hi
 have HNE := qH hne
 have HB := qH hb
 clear hi hne hb
 by_cases hin : i < n
 ·have x1 : (i : Int) < (n : Int) := Int.ofNat_lt.2 hin
  have HIN := qH hin
  have HMI := qH (sub_next hin)
  have e3 := wrap_one i (lt_bigN hin HNF.out)
  have e4 := wrap_one' i (lt_bigN hin HNF.out)
  obtain ⟨r, hr⟩ : ∃ r, cols[i]? = some r := ⟨_, List.getElem?_eq_getElem (by rw [← HN.out]; exact hin)⟩
  have HRR := qH hr
  have hrow := (HT.out i r hr).below HB.out
  have RW := qH hrow
  obtain ⟨Ar, cr, hTi, _⟩ := hrow
  rw [nums_length] at hTi
  rw [hTi] at RW
  obtain ⟨len, hlen⟩ : ∃ x, x = r.length := ⟨_, rfl⟩
  rw [← hlen] at hTi RW
  obtain ⟨b, o, rfl, _, hcc⟩ := (HK.out.below HB.out).at_ (by rw [List.length_map, List.length_range]; exact Nat.lt_of_le_of_lt (Nat.zero_le _) hin)
  have c15 : wr.cell? ⟨b, o + i, none⟩ = some (.slice Ar len cr) := hcc i _ (by simp [hin, hTi])
  clear hin hr hcc hTi hlen
  go_wp2_with fail
  refine (mrgF_any r l _ v gl wr RW.out (HV.out.below HB.out) ((HB.out.cell (p := ⟨gl, 0, none⟩) HGL.out).trans HC.out) (HRL.out r (List.mem_of_getElem? HRR.out))).mono ?_
  rintro e w2 ⟨rfl, hb⟩
  have B2 := qH (HB.out.trans (hb.mono HB.out.size))
  clear hb c15
  by_cases hrl : r = l
  ·have HE := qH (show R = (i : Int) by rw [HR.out]; exact ixL_first (by rw [← hrl]; exact HRR.out) HNE.out)
   rw [decide_eq_true hrl]
   clear hrl
   go_wp2_with fail
   go_ret
   rw [HE.out]
   exact ⟨rfl, B2.out⟩
  ·have HX := qH (show ∀ j, j < i + 1 → cols[j]? ≠ some l from fun j hj e => by
    rcases Nat.lt_succ_iff_lt_or_eq.1 hj with h | h
    ·exact HNE.out j h e
    ·rw [h, HRR.out] at e
     exact hrl (Option.some.inj e))
   rw [decide_eq_false hrl]
   clear hrl
   go_wp2_with fail
   exact ⟨⟨i + 1, HIN.out, rfl, HX.out, B2.out⟩, by simpa [intOf] using HMI.out⟩
 ·obtain rfl : i = n := Nat.le_antisymm HI.out (Nat.le_of_not_lt hin)
  have x1 : ¬ ((i : Int) < (i : Int)) := Int.lt_irrefl _
  have HE := qH (show R = -1 by rw [HR.out]; exact ixL_none (by rw [← HN.out]; exact HNE.out))
  clear hin
  go_wp2_with fail
  go_ret
  rw [HE.out]
  exact ⟨rfl, HB.out⟩
structure ShE (E : Dm) (m K : Nat) : Prop where
 hl : E.cl.length = 256
 len : E.next.length = m
 pos : 1 ≤ m
 few : m ≤ 2000
 ends : E.ends.length = m
 rows : ∀ r ∈ E.next, r.length = K
 nn : ∀ r ∈ E.next, ∀ x ∈ r, 0 ≤ x
 kpos : 1 ≤ K
 k256 : K ≤ 256
 cl : ∀ b, b < 256 → clB E b < K
theorem numD_sh {D : Dm} (h : MayD D) (hl : D.cl.length = 256) {i : Nat} (hn : (QP D i).length = i) : ShE (numD D i) i (usU D.cl 256).length := by
 have hrow : ∀ r ∈ (numD D i).next, ∃ q, r = rowI (QP D i) (fU D q) := fun r hr => by
  obtain ⟨q, _, he⟩ := List.mem_map.1 (show r ∈ ((QP D i).take i).map (fun x => rowI (QP D i) (fU D x)) from hr)
  exact ⟨q, he.symm⟩
 refine ⟨tabF_len _ _, numD_len hn, ?_, ?_, endsI_len (Nat.le_of_eq hn.symm), fun r hr => ?_, fun r hr x hx => ?_, ?_, usU_len _ _, fun b hb => ?_⟩
 ·have h1 : 0 < (QP D i).length := Lq_pos i
  omega
 ·have h1 := QP_le h hl i
  have h2 := h.few
  omega
 ·obtain ⟨q, rfl⟩ := hrow r hr
  rw [rowI_len, fU_len]
 ·obtain ⟨q, rfl⟩ := hrow r hr
  obtain ⟨y, _, rfl⟩ := List.mem_map.1 (show x ∈ (fU D q).map (fun y => (ixOf (QP D i) y : Int)) from hx)
  exact Int.natCast_nonneg _
 ·exact List.length_pos_of_mem (iU_in hl (b := 0) (by decide))
 ·have e : clB (numD D i) b = iU D b := clB_tabF hb (iU_256 hl hb)
  rw [e]
  exact iU_lt hl hb
theorem row_sh {E : Dm} {m K : Nat} (h : ShE E m K) {s : Nat} {r : List Int} (hr : E.next[s]? = some r) : nums .i64 r = ncs K fun c => stC E s c := by
 have hm := List.mem_of_getElem? hr
 have hl := h.rows r hm
 apply List.ext_getElem?
 intro c
 by_cases hc : c < K
 ·obtain ⟨x, hx⟩ : ∃ x, r[c]? = some x := ⟨_, List.getElem?_eq_getElem (by omega)⟩
  have h2 := h.nn r hm x (List.mem_of_getElem? hx)
  rw [ncs_get _ hc, nums, List.getElem?_map, hx, Option.map_some]
  unfold stC
  rw [hr, Option.getD_some, List.getD_eq_getElem?_getD, hx, Option.getD_some, Int.toNat_of_nonneg h2]
 ·rw [List.getElem?_eq_none (by rw [nums_length]; omega), List.getElem?_eq_none (by rw [ncs_len]; omega)]
theorem dr_sh {w : World} {cs : List Value} {E : Dm} {m K : Nat} (hv : DfaV w cs E) (h : ShE E m K) : ∃ bn on cn be oe ce, Dr w cs E m K bn on cn be oe ce ∧ Row w (.slice (some ⟨be, oe, none⟩) m ce) (bools E.ends) := by
 obtain ⟨An, Ae, cn, ce, vf, hl, hcs, hx, hr, he⟩ := hv.form
 have hp := h.pos
 rw [h.ends, h.len] at hcs
 rw [h.ends] at he
 rw [h.len] at hx
 have he2 := he
 obtain ⟨be, oe, rfl, hbe, hce⟩ := he.at_ (by rw [bools_length, h.ends]; omega)
 obtain ⟨bn, on, rfl, hbn, hcn⟩ := hx.at_ (by rw [List.length_map, List.length_range]; omega)
 refine ⟨bn, on, cn, be, oe, ce, ⟨hcs, hl, hbn, hbe, fun s hs => ?_, fun s hs => hce s _ (by
  rw [bools, List.getElem?_map, List.getElem?_eq_getElem (by rw [h.ends]; exact hs), List.getD_eq_getElem?_getD, List.getElem?_eq_getElem (by rw [h.ends]; exact hs)]; rfl)⟩, he2⟩
 obtain ⟨r, h1⟩ : ∃ r, E.next[s]? = some r := ⟨_, List.getElem?_eq_getElem (by rw [h.len]; exact hs)⟩
 have h2 := h.rows r (List.mem_of_getElem? h1)
 have h3 := hr s r h1
 obtain ⟨Ar, cr, hvr, _⟩ := id h3
 rw [nums_length, h2] at hvr
 rw [hvr] at h3
 obtain ⟨b, o, rfl, hb, _⟩ := h3.at_ (by rw [nums_length, h2]; have := h.kpos; omega)
 rw [row_sh h h1] at h3
 exact ⟨b, o, cr, hcn s _ (by simp [hs, hvr]), hb, h3⟩
def colI (E : Dm) (m c : Nat) : List Int := (List.range m).map fun s => (stC E s c : Int)
theorem colI_ncs (E : Dm) (m c : Nat) : nums .i64 (colI E m c) = ncs m fun s => stC E s c := by
 unfold colI
 rw [ncs_nums]
theorem colI_len (E : Dm) (m c : Nat) : (colI E m c).length = m := by simp [colI]
theorem colI_eq {E : Dm} {m c d : Nat} : colI E m c = colI E m d ↔ colR E m c d := by
 unfold colI colR
 constructor
 ·intro h s hs
  have h1 : ((List.range m).map fun s => (stC E s c : Int))[s]? = ((List.range m).map fun s => (stC E s d : Int))[s]? := by rw [h]
  rw [List.getElem?_map, List.getElem?_map, List.getElem?_range hs] at h1
  have h2 : (stC E s c : Int) = (stC E s d : Int) := Option.some.inj h1
  omega
 ·intro h
  exact List.map_congr_left fun s hs => by rw [h s (List.mem_range.1 hs)]
theorem ixL_cls {E : Dm} {m c : Nat} (hc : c < 256) : ixL ((firstJ (psC E m) c).map (colI E m)) (colI E m c) = if clsOf (psC E m) c < (firstJ (psC E m) c).length then (clsOf (psC E m) c : Int) else -1 := by
 have hf : ∀ f ∈ firstJ (psC E m) c, f < c := firstJ_lt _ _
 have al : ∀ f, f < 256 → (alikeS (psC E m) c f = true ↔ colI E m f = colI E m c) := fun f hf2 => by
  unfold psC
  rw [colR_alike hc hf2, colI_eq]
  exact ⟨fun h s hs => (h s hs).symm, fun h s hs => (h s hs).symm⟩
 by_cases h : clsOf (psC E m) c < (firstJ (psC E m) c).length
 ·rw [if_pos h]
  refine ixL_first ?_ fun j hj e => ?_
  ·rw [List.getElem?_map, List.getElem?_eq_getElem h, Option.map_some]
   have h1 : alikeS (psC E m) c ((firstJ (psC E m) c)[clsOf (psC E m) c]) = true := List.findIdx_getElem (p := fun f => alikeS (psC E m) c f) (w := h)
   rw [(al _ (by have := hf _ (List.getElem_mem h); omega)).1 h1]
  ·have hjl : j < (firstJ (psC E m) c).length := by omega
   rw [List.getElem?_map, List.getElem?_eq_getElem hjl, Option.map_some] at e
   have h2 := List.not_of_lt_findIdx (p := fun f => alikeS (psC E m) c f) (xs := firstJ (psC E m) c) hj
   have h3 := (al _ (by have := hf _ (List.getElem_mem hjl); omega)).2 (Option.some.inj e)
   rw [h2] at h3
   cases h3
 ·rw [if_neg h]
  refine ixL_none fun j hj e => ?_
  rw [List.length_map] at hj
  rw [List.getElem?_map, List.getElem?_eq_getElem hj, Option.map_some] at e
  have hge : (firstJ (psC E m) c).length ≤ clsOf (psC E m) c := Nat.le_of_not_lt h
  have h2 := List.not_of_lt_findIdx (p := fun f => alikeS (psC E m) c f) (xs := firstJ (psC E m) c) (i := j) (Nat.lt_of_lt_of_le hj hge)
  have h3 := (al _ (by have := hf _ (List.getElem_mem hj); omega)).2 (Option.some.inj e)
  rw [h2] at h3
  cases h3
noncomputable def clsB (E : Dm) (m c : Nat) : List Value := (List.range c).map fun x => .int .u8 (clsOf (psC E m) x : Int)
theorem clsB_len (E : Dm) (m c : Nat) : (clsB E m c).length = c := by simp [clsB]
theorem clsB_get {E : Dm} {m c x : Nat} (h : x < c) : (clsB E m c)[x]? = some (.int .u8 (clsOf (psC E m) x : Int)) := by simp [clsB, h]
theorem clsB_next (E : Dm) (m c : Nat) : clsB E m (c + 1) = clsB E m c ++ [.int .u8 (clsOf (psC E m) c : Int)] := by simp [clsB, List.range_succ]
def tyM : Nat → TypeId
 | 0 => 38
 | 1 => 38
 | 2 => 5
 | _ => 3
structure MgS (E : Dm) (m c : Nat) (kp kq : List Nat) (i : Nat) (U : Nat → Value) (X : Nat → List Value) : Prop where
 x0 : X 0 = (List.range m).map fun s => U (s + 3)
 x1 : X 1 = (List.range kq.length).map fun k => U (k + (m + 3))
 x2 : X 2 = clsB E m c
 xr : ∀ s, s < m → X (s + 3) = nums .i64 ((if s < i then kq else kp).map fun d => (stC E s d : Int))
 xc : ∀ k d, kq[k]? = some d → X (k + (m + 3)) = nums .i64 (colI E m d)
section
variable {E : Dm} {m c i : Nat} {kp kq : List Nat} {U : Nat → Value} {X : Nat → List Value}
theorem MgS.all (h : MgS E m c kp kq i U X) (hi : m ≤ i) : MgS E m c kq kq 0 U X :=
 ⟨h.x0, h.x1, h.x2, fun s hs => by rw [h.xr s hs, if_pos (by omega)]; split <;> rfl, h.xc⟩
theorem MgS.cls (h : MgS E m c kp kq i U X) {v : Value} (h3 : 3 ≤ m + 3) : MgS E m (c + 1) kp kq i (putV U 2 v) (putX X 2 (clsB E m (c + 1))) := by
 refine ⟨?_, ?_, putX_at _ _ _, fun s hs => by rw [putX_ne (by omega)]; exact h.xr s hs, fun k d hk => by rw [putX_ne (by omega)]; exact h.xc k d hk⟩
 ·rw [putX_ne (by decide), h.x0]
  exact List.map_congr_left fun s _ => by rw [putV_ne (by omega)]
 ·rw [putX_ne (by decide), h.x1]
  exact List.map_congr_left fun k _ => by rw [putV_ne (by omega)]
theorem MgS.keep (h : MgS E m c kp kp 0 U X) {v kv : Value} {d : Nat} : MgS E m c kp (kp ++ [d]) 0 (putV (putV U (m + 3 + kp.length) v) 1 kv) (putX (putX X (m + 3 + kp.length) (nums .i64 (colI E m d))) 1 ((List.range kp.length).map (fun k => U (k + (m + 3))) ++ [v])) := by
 refine ⟨?_, ?_, by rw [putX_ne (by decide), putX_ne (by omega)]; exact h.x2, fun s hs => ?_, fun k e hk => ?_⟩
 ·rw [putX_ne (by decide), putX_ne (by omega), h.x0]
  refine List.map_congr_left fun s hs => ?_
  have := List.mem_range.1 hs
  rw [putV_ne (by omega), putV_ne (by omega)]
 ·rw [putX_at, List.length_append, List.length_singleton, List.range_succ, List.map_append]
  have e1 : (List.range kp.length).map (fun k => putV (putV U (m + 3 + kp.length) v) 1 kv (k + (m + 3))) = (List.range kp.length).map fun k => U (k + (m + 3)) := List.map_congr_left fun k hk => by
   have := List.mem_range.1 hk
   rw [putV_ne (by omega), putV_ne (by omega)]
  have e2 : putV (putV U (m + 3 + kp.length) v) 1 kv (kp.length + (m + 3)) = v := by rw [putV_ne (by omega), show kp.length + (m + 3) = m + 3 + kp.length by omega, putV_at]
  rw [e1, List.map_cons, List.map_nil, e2]
 ·rw [putX_ne (by omega), putX_ne (by omega), h.xr s hs, if_neg (Nat.not_lt_zero s), if_neg (Nat.not_lt_zero s)]
 ·rw [putX_ne (by omega)]
  by_cases hk2 : k < kp.length
  ·rw [putX_ne (by omega)]
   rw [List.getElem?_append_left hk2] at hk
   exact h.xc k e hk
  ·have hk3 := (List.getElem?_eq_some_iff.1 hk).1
   rw [List.length_append, List.length_singleton] at hk3
   obtain rfl : k = kp.length := by omega
   rw [List.getElem?_append_right (Nat.le_refl _), Nat.sub_self] at hk
   have e3 : d = e := Option.some.inj hk
   rw [show kp.length + (m + 3) = m + 3 + kp.length by omega, putX_at, e3]
theorem MgS.put (h : MgS E m c kp (kp ++ [c]) i U X) (hi : i < m) {v : Value} : MgS E m c kp (kp ++ [c]) (i + 1) (putV U (i + 3) v) (putX (putX X (i + 3) (nums .i64 ((kp ++ [c]).map fun d => (stC E i d : Int)))) 0 ((X 0).set i v)) := by
 refine ⟨?_, ?_, by rw [putX_ne (by decide), putX_ne (by omega)]; exact h.x2, fun s hs => ?_, fun k d hk => by rw [putX_ne (by omega), putX_ne (by omega)]; exact h.xc k d hk⟩
 ·rw [putX_at, h.x0]
  apply List.ext_getElem?
  intro s
  by_cases hs : s < m
  ·by_cases e : i = s
   ·subst e
    rw [List.getElem?_set_self (by simp [hs])]
    simp [hs, putV_at]
   ·rw [List.getElem?_set_ne e]
    simp [hs]
    rw [putV_ne (by omega)]
  ·rw [List.getElem?_eq_none (by simp; omega), List.getElem?_eq_none (by simp; omega)]
 ·rw [putX_ne (by decide), putX_ne (by omega), h.x1]
  exact List.map_congr_left fun k _ => by rw [putV_ne (by omega)]
 ·rw [putX_ne (by omega)]
  by_cases e : s = i
  ·subst e
   rw [putX_at, if_pos (by omega)]
  ·rw [putX_ne (by omega), h.xr s hs]
   by_cases h2 : s < i
   ·rw [if_pos h2, if_pos (by omega)]
   ·rw [if_neg h2, if_neg (by omega)]
theorem MgS.dfa {w : World} {H M : Nat} {cl : List UInt8} {ev : Value} (h : MgS E m c kp kp 0 U X) (ha : ApG tyM w H M U X) (hM : m + 3 ≤ M) (hl : cl.length = 256) (he : Row w ev (bools E.ends)) :
  DfaV w (dcl cl (U 0) ev) ⟨cl, (List.range m).map fun s => kp.map fun d => (stC E s d : Int), E.ends⟩ := by
 have r0 : Row w (U 0) (X 0) := Row.of_own (ha.own 0 (by omega))
 refine ⟨hl, U 0, ev, fun s => U (s + 3), rfl, ?_, fun j r hr => ?_, he⟩
 ·show Row w (U 0) ((List.range ((List.range m).map _).length).map _)
  rw [List.length_map, List.length_range, ← h.x0]
  exact r0
 ·have hr : ((List.range m).map fun s => kp.map fun d => (stC E s d : Int))[j]? = some r := hr
  have hj := (List.getElem?_eq_some_iff.1 hr).1
  rw [List.length_map, List.length_range] at hj
  rw [List.getElem?_map, List.getElem?_range hj] at hr
  have e := Option.some.inj hr
  have r2 : Row w (U (j + 3)) (X (j + 3)) := Row.of_own (ha.own (j + 3) (by omega))
  rw [h.xr j hj, if_neg (Nat.not_lt_zero j)] at r2
  rw [← e]
  exact r2
end
def mg0 (m g : Nat) : Nat → Value := fun i => if i = 0 then .slice (some ⟨g, 0, none⟩) m m else .slice none 0 0
def mg0X (m : Nat) : Nat → List Value := fun i => if i = 0 then List.replicate m (.slice none 0 0) else []
theorem apg_mg0 {w : World} {H m g : Nat} (h : Blk w g 38 (List.replicate m (.slice none 0 0))) (hH : H ≤ g) (hm : m ≤ 2000) (M : Nat) : ApG tyM w H M (mg0 m g) (mg0X m) := by
 have o := h.own hH (by rw [List.length_replicate]; unfold maxLen; omega)
 rw [List.length_replicate] at o
 refine ⟨fun i hi => ?_, fun i j hi hj hij k hk => ?_⟩
 ·by_cases e : i = 0
  ·subst e
   show w.ownsRow H 38 1 (.slice (some ⟨g, 0, none⟩) m m) (List.replicate m (Value.slice none 0 0)).length (List.replicate m (.slice none 0 0))
   rw [List.length_replicate]
   exact o
  ·unfold mg0 mg0X
   rw [if_neg e, if_neg e]
   exact ownC_nil _ _ _
 ·by_cases e : i = 0
  ·have ej : j ≠ 0 := fun e2 => hij (by rw [e, e2])
   intro h2
   unfold mg0 at h2
   rw [if_neg ej] at h2
   cases (show (none : Option Nat) = some k from h2)
  ·unfold mg0 at hk
   rw [if_neg e] at hk
   cases (show (none : Option Nat) = some k from hk)
theorem MgS.zero (E : Dm) (m g : Nat) : MgS E m 0 [] [] 0 (mg0 m g) (mg0X m) := by
 refine ⟨?_, rfl, rfl, fun s hs => ?_, fun k d hk => by cases hk⟩
 ·show List.replicate m (Value.slice none 0 0) = _
  apply List.ext_getElem?
  intro s
  by_cases hs : s < m
  ·simp [hs, mg0]
  ·rw [List.getElem?_eq_none (by simp; omega), List.getElem?_eq_none (by simp; omega)]
 ·rw [if_neg (Nat.not_lt_zero s)]
  rfl
end Go.Proofs.Ytiehefnbdijiaaa
