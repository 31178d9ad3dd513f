/-
  Texts of this proof, put together: LkA, LpA, ClA, RegM, SoA, SoB, FmA. No statement is proved here.
-/
import Derived.Test.YtaakdebcagdfgaaZF
import Derived.Test.YtaakdebcagdfgaaZB
import Derived.Test.YtaakdebcagdfgaaZA
import Derived.Test.YtaakdebcagdfgaaChecked
import Derived.Lib.SliceRun
import Derived.StillTailTactics
import Derived.Test.YtaakdebcagdfgaaZD
import Derived.Test.YtaakdebcagdfgaaZC
import Derived.Test.YtaakdebcagdfgaaZE
namespace Go.Proofs.Ytaakdebcagdfgaa
open Go.RowKit
set_option linter.unusedSimpArgs false
set_option linter.unusedVariables false
structure Pn (n m : Nat) (a : Nat → Nat) : Prop where
 lt : ∀ s, s < n → a s < m
 onto : ∀ k, k < m → ∃ s, s < n ∧ a s = k
theorem Pn.le {n m : Nat} {a : Nat → Nat} (h : Pn n m a) : m ≤ n := by
 have h1 := nodup_sub (List.range m) ((List.range n).map a) List.nodup_range fun k hk => by
  obtain ⟨s, h1, h2⟩ := h.onto k (List.mem_range.1 hk)
  exact List.mem_map.2 ⟨s, List.mem_range.2 h1, h2⟩
 rwa [List.length_range, List.length_map, List.length_range] at h1
def spl (a : Nat → Nat) (I : Nat → Bool) (k m : Nat) (b : Bool) : Nat → Nat := fun s => if a s = k ∧ I s = b then m else a s
section
variable {n m k : Nat} {a : Nat → Nat} {I : Nat → Bool} {b : Bool}
theorem spl_yes {s : Nat} (h : a s = k) (hi : I s = b) : spl a I k m b s = m := if_pos ⟨h, hi⟩
theorem spl_no {s : Nat} (h : ¬ (a s = k ∧ I s = b)) : spl a I k m b s = a s := if_neg h
theorem spl_pn (h : Pn n m a) (hk : k < m) (hy : ∃ s, s < n ∧ a s = k ∧ I s = b) (hn : ∃ s, s < n ∧ a s = k ∧ I s = !b) : Pn n (m + 1) (spl a I k m b) := by
 refine ⟨fun s hs => ?_, fun j hj => ?_⟩
 ·have := h.lt s hs
  unfold spl
  split <;> omega
 ·by_cases e : j = m
  ·obtain ⟨s, h1, h2, h3⟩ := hy
   exact ⟨s, h1, by rw [spl_yes h2 h3, e]⟩
  ·by_cases e2 : j = k
   ·obtain ⟨s, h1, h2, h3⟩ := hn
    exact ⟨s, h1, by rw [spl_no (fun hc => by rw [hc.2] at h3; cases b <;> simp at h3), h2, e2]⟩
   ·obtain ⟨s, h1, h2⟩ := h.onto j (by omega)
    exact ⟨s, h1, by rw [spl_no (fun hc => e2 (by rw [← h2, hc.1])), h2]⟩
theorem spl_iff (h : Pn n m a) {s t : Nat} (hs : s < n) (ht : t < n) : spl a I k m b s = spl a I k m b t ↔ a s = a t ∧ (a s = k → I s = I t) := by
 have h1 := h.lt s hs
 have h2 := h.lt t ht
 unfold spl
 by_cases hc : a s = k ∧ I s = b
 ·rw [if_pos hc]
  by_cases hd : a t = k ∧ I t = b
  ·rw [if_pos hd]
   exact ⟨fun _ => ⟨by rw [hc.1, hd.1], fun _ => by rw [hc.2, hd.2]⟩, fun _ => rfl⟩
  ·rw [if_neg hd]
   exact ⟨fun e => by omega, fun e => absurd ⟨by rw [← e.1, hc.1], by rw [← e.2 hc.1, hc.2]⟩ hd⟩
 ·rw [if_neg hc]
  by_cases hd : a t = k ∧ I t = b
  ·rw [if_pos hd]
   exact ⟨fun e => by omega, fun e => absurd ⟨by rw [e.1, hd.1], by rw [e.2 (by rw [e.1, hd.1]), hd.2]⟩ hc⟩
  ·rw [if_neg hd]
   refine ⟨fun e => ⟨e, fun ek => ?_⟩, fun e => e.1⟩
   have x1 : I s ≠ b := fun x => hc ⟨ek, x⟩
   have x2 : I t ≠ b := fun x => hd ⟨by rw [← e, ek], x⟩
   cases hI : I s <;> cases hJ : I t <;> cases b <;> simp_all
end
/-! ### a cut: the parts that are touched, one by one -/
def tchL (a : Nat → Nat) (l : List Nat) : List Nat := extL [] (l.map a)
theorem tchL_mem {a : Nat → Nat} {l : List Nat} {k : Nat} : k ∈ tchL a l ↔ ∃ s ∈ l, a s = k := by
 unfold tchL
 rw [extL_mem, List.mem_map]
 simp
structure CutJ (n : Nat) (l : List Nat) (m : Nat) (a : Nat → Nat) (T : List Nat) (j m' : Nat) (a' : Nat → Nat) : Prop where
 pn : Pn n m' a'
 le : m ≤ m'
 keep : ∀ s, s < n → a' s < m → a' s = a s
 new : ∀ s, s < n → m ≤ a' s → a s ∈ T.take j
 iff : ∀ s t, s < n → t < n → (a' s = a' t ↔ a s = a t ∧ (a s ∈ T.take j → (s ∈ l ↔ t ∈ l)))
structure CutP (n : Nat) (l : List Nat) (m : Nat) (a : Nat → Nat) (m' : Nat) (a' : Nat → Nat) : Prop where
 pn : Pn n m' a'
 le : m ≤ m'
 keep : ∀ s, s < n → a' s < m → a' s = a s
 iff : ∀ s t, s < n → t < n → (a' s = a' t ↔ a s = a t ∧ (s ∈ l ↔ t ∈ l))
section
variable {n m m' j k : Nat} {l T : List Nat} {a a' : Nat → Nat}
theorem CutJ.zero (h : Pn n m a) : CutJ n l m a T 0 m a :=
 ⟨h, Nat.le_refl _, fun _ _ _ => rfl, fun s hs he => absurd (h.lt s hs) (Nat.not_lt.2 he), fun s t _ _ => by simp⟩
theorem mem_take_succ {T : List Nat} {j k x : Nat} (h : T[j]? = some k) : x ∈ T.take (j + 1) ↔ x ∈ T.take j ∨ x = k := by
 obtain ⟨hj, he⟩ := List.getElem?_eq_some_iff.1 h
 rw [List.take_succ_eq_append_getElem hj, he, List.mem_append, List.mem_singleton]
theorem not_mem_take {T : List Nat} {j k : Nat} (hd : T.Nodup) (h : T[j]? = some k) : k ∉ T.take j := fun hm => by
 obtain ⟨i, hi, he⟩ := List.getElem_of_mem hm
 rw [List.length_take] at hi
 rw [List.getElem_take] at he
 obtain ⟨hj, hk⟩ := List.getElem?_eq_some_iff.1 h
 have h1 := idx_is hd h
 have h2 := idx_is (i := i) hd (by rw [List.getElem?_eq_getElem (by omega), he])
 omega
theorem CutJ.same (h : CutJ n l m a T j m' a') (hk : k < m) (hn : k ∉ T.take j) {s : Nat} (hs : s < n) : a' s = k ↔ a s = k := by
 constructor
 ·intro e
  rw [← h.keep s hs (by omega), e]
 ·intro e
  have h1 : ¬ m ≤ a' s := fun hle => hn (by rw [← e]; exact h.new s hs hle)
  rw [h.keep s hs (by omega), e]
theorem CutJ.skip (h : CutJ n l m a T j m' a') (hj : T[j]? = some k) (hall : ∀ s, s < n → a s = k → s ∈ l) : CutJ n l m a T (j + 1) m' a' := by
 refine ⟨h.pn, h.le, h.keep, fun s hs he => (mem_take_succ hj).2 (.inl (h.new s hs he)), fun s t hs ht => ?_⟩
 rw [h.iff s t hs ht]
 constructor
 ·rintro ⟨h1, h2⟩
  refine ⟨h1, fun hm => ?_⟩
  rcases (mem_take_succ hj).1 hm with hm | hm
  ·exact h2 hm
  ·exact ⟨fun _ => hall t ht (by rw [← h1, hm]), fun _ => hall s hs hm⟩
 ·rintro ⟨h1, h2⟩
  exact ⟨h1, fun hm => h2 ((mem_take_succ hj).2 (.inl hm))⟩
theorem CutJ.next (h : CutJ n l m a T j m' a') (hd : T.Nodup) (hj : T[j]? = some k) (hk : k < m) {I : Nat → Bool} (hI : ∀ s, s < n → (I s = true ↔ s ∈ l)) (b : Bool) (hy : ∃ s, s < n ∧ a s = k ∧ I s = b) (hn : ∃ s, s < n ∧ a s = k ∧ I s = !b) :
  CutJ n l m a T (j + 1) (m' + 1) (spl a' I k m' b) := by
 have hnt := not_mem_take hd hj
 have hkm : k < m' := Nat.lt_of_lt_of_le hk h.le
 have hy2 : ∃ s, s < n ∧ a' s = k ∧ I s = b := by
  obtain ⟨s, h1, h2, h3⟩ := hy
  exact ⟨s, h1, (h.same hk hnt h1).2 h2, h3⟩
 have hn2 : ∃ s, s < n ∧ a' s = k ∧ I s = !b := by
  obtain ⟨s, h1, h2, h3⟩ := hn
  exact ⟨s, h1, (h.same hk hnt h1).2 h2, h3⟩
 have hle := h.le
 refine ⟨spl_pn h.pn hkm hy2 hn2, by omega, fun s hs he => ?_, fun s hs he => ?_, fun s t hs ht => ?_⟩
 ·by_cases hc : a' s = k ∧ I s = b
  ·rw [spl_yes hc.1 hc.2] at he
   omega
  ·rw [spl_no hc] at he ⊢
   exact h.keep s hs he
 ·by_cases hc : a' s = k ∧ I s = b
  ·exact (mem_take_succ hj).2 (.inr ((h.same hk hnt hs).1 hc.1))
  ·rw [spl_no hc] at he
   exact (mem_take_succ hj).2 (.inl (h.new s hs he))
 ·rw [spl_iff h.pn hs ht, h.iff s t hs ht]
  have e1 : (a' s = k → I s = I t) ↔ (a s = k → I s = I t) := by rw [h.same hk hnt hs]
  have e2 : I s = I t ↔ (s ∈ l ↔ t ∈ l) := by rw [Bool.eq_iff_iff, hI s hs, hI t ht]
  rw [e1, e2]
  constructor
  ·rintro ⟨⟨h1, h2⟩, h3⟩
   refine ⟨h1, fun hm => ?_⟩
   rcases (mem_take_succ hj).1 hm with hm | hm
   ·exact h2 hm
   ·exact h3 hm
  ·rintro ⟨h1, h2⟩
   exact ⟨⟨h1, fun hm => h2 ((mem_take_succ hj).2 (.inl hm))⟩, fun e => h2 ((mem_take_succ hj).2 (.inr e))⟩
theorem CutJ.done (h : CutJ n l m a (tchL a l) j m' a') (hj : (tchL a l).length ≤ j) : CutP n l m a m' a' := by
 refine ⟨h.pn, h.le, h.keep, fun s t hs ht => ?_⟩
 rw [h.iff s t hs ht, List.take_of_length_le hj]
 constructor
 ·rintro ⟨h1, h2⟩
  refine ⟨h1, ?_⟩
  by_cases hm : a s ∈ tchL a l
  ·exact h2 hm
  ·exact ⟨fun x => absurd (tchL_mem.2 ⟨s, x, rfl⟩) hm, fun x => absurd (tchL_mem.2 ⟨t, x, h1.symm⟩) hm⟩
 ·rintro ⟨h1, h2⟩
  exact ⟨h1, fun _ => h2⟩
end
/-! ### cut by cut, until no cut tells more apart -/
def turnY (t ci x i : Nat) : Prop := t < x ∨ (x = t ∧ ci ≤ i)
structure HopI (D : Dm) (cs : List Nat) (t ci m : Nat) (a : Nat → Nat) : Prop where
 pn : Pn D.next.length m a
 ends : ∀ s q, s < D.next.length → q < D.next.length → a s = a q → D.ends.getD s false = D.ends.getD q false
 co : ∀ s q, s < D.next.length → q < D.next.length → accD D s = accD D q → a s = a q
 inv : ∀ i c s q, cs[i]? = some c → s < D.next.length → q < D.next.length → a s = a q → a (stC D s c) ≠ a (stC D q c) → turnY t ci (a (stC D s c)) i ∨ turnY t ci (a (stC D q c)) i
structure ClsC (D : Dm) (cs : List Nat) : Prop where
 byte : ∀ c ∈ cs, ∃ b : UInt8, c = (D.cl.getD b.toNat 0).toNat
 all : ∀ b : UInt8, (D.cl.getD b.toNat 0).toNat ∈ cs
theorem ClsC.lt {D : Dm} {cs : List Nat} (h : ClsC D cs) (hl : D.cl.length = 256) {c : Nat} (hc : c ∈ cs) : c < clsA D.cl := by
 obtain ⟨b, rfl⟩ := h.byte c hc
 exact clsW_lt hl [b] _ (by simp [clsW])
theorem ClsC.acc {D : Dm} {cs : List Nat} (h : ClsC D cs) {c : Nat} (hc : c ∈ cs) {s q : Nat} (he : accD D s = accD D q) : accD D (stC D s c) = accD D (stC D q c) := by
 obtain ⟨b, rfl⟩ := h.byte c hc
 rw [← stD_stC, ← stD_stC]
 funext w
 exact congrFun he (b :: w)
section
variable {D : Dm} {cs : List Nat} {t ci m m' : Nat} {a a' : Nat → Nat} {l : List Nat}
theorem HopI.zero (hm : MayD D) (h : CutP D.next.length l 1 (fun _ => 0) m' a') (hl : ∀ s, s ∈ l ↔ s < D.next.length ∧ D.ends.getD s false = true) : HopI D cs 0 0 m' a' := by
 have key : ∀ s q, s < D.next.length → q < D.next.length → (a' s = a' q ↔ D.ends.getD s false = D.ends.getD q false) := fun s q hs hq => by
  rw [h.iff s q hs hq, Bool.eq_iff_iff, hl, hl]
  exact ⟨fun k => ⟨fun e => (k.2.1 ⟨hs, e⟩).2, fun e => (k.2.2 ⟨hq, e⟩).2⟩, fun k => ⟨rfl, fun e => ⟨hq, k.1 e.2⟩, fun e => ⟨hs, k.2 e.2⟩⟩⟩
 refine ⟨h.pn, fun s q hs hq => (key s q hs hq).1, fun s q hs hq he => (key s q hs hq).2 (congrFun he []), fun i c s q _ _ _ _ hne => ?_⟩
 unfold turnY
 omega
theorem HopI.step (h : HopI D cs t ci m a) (hm : MayD D) (hl : D.cl.length = 256) (hc : ClsC D cs) {c : Nat} (hci : cs[ci]? = some c) (ht : t < m) (k : CutP D.next.length l m a m' a') (hx : ∀ s, s < D.next.length → (s ∈ l ↔ a (stC D s c) = t)) : HopI D cs t (ci + 1) m' a' := by
 have hmc := List.mem_of_getElem? hci
 have up : ∀ s q, s < D.next.length → q < D.next.length → a' s = a' q → a s = a q := fun s q hs hq e => ((k.iff s q hs hq).1 e).1
 refine ⟨k.pn, fun s q hs hq e => h.ends s q hs hq (up s q hs hq e), fun s q hs hq e => ?_, fun i d s q hi hs hq e hne => ?_⟩
 ·rw [k.iff s q hs hq]
  refine ⟨h.co s q hs hq e, ?_⟩
  rw [hx s hs, hx q hq, h.co _ _ (stC_lt hm hs c (hc.lt hl hmc)) (stC_lt hm hq c (hc.lt hl hmc)) (hc.acc hmc e)]
 ·have hmd := List.mem_of_getElem? hi
  have hs2 := stC_lt hm hs d (hc.lt hl hmd)
  have hq2 := stC_lt hm hq d (hc.lt hl hmd)
  obtain ⟨e1, e2⟩ := (k.iff s q hs hq).1 e
  by_cases hxy : a (stC D s d) = a (stC D q d)
  ·-- split by this cut
   have : m ≤ a' (stC D s d) ∨ m ≤ a' (stC D q d) := Classical.byContradiction fun hno => by
    rw [not_or] at hno
    exact hne (by rw [k.keep _ hs2 (by omega), k.keep _ hq2 (by omega), hxy])
   unfold turnY
   omega
  ·have hold := h.inv i d s q hi hs hq e1 hxy
   have mv : ∀ u, u < D.next.length → turnY t ci (a u) i → (i = ci → a u ≠ t) → turnY t (ci + 1) (a' u) i := fun u hu hy hno => by
    by_cases hlt : a' u < m
    ·rw [k.keep u hu hlt]
     unfold turnY at hy ⊢
     rcases hy with hy | ⟨hy, hz⟩
     ·exact .inl hy
     ·by_cases hic : i = ci
      ·exact absurd hy (hno hic)
      ·exact .inr ⟨hy, by omega⟩
    ·unfold turnY
     omega
   have dc : i = ci → d = c := fun e3 => by
    rw [e3, hci] at hi
    exact (Option.some.inj hi).symm
   rcases hold with hold | hold
   ·refine .inl (mv _ hs2 hold fun e3 e4 => ?_)
    have e5 := dc e3
    subst e5
    rw [hx s hs, hx q hq] at e2
    exact hxy (by rw [e4, e2.1 e4])
   ·refine .inr (mv _ hq2 hold fun e3 e4 => ?_)
    have e5 := dc e3
    subst e5
    rw [hx s hs, hx q hq] at e2
    exact hxy (by rw [e4, e2.2 e4])
theorem HopI.next (h : HopI D cs t ci m a) (hci : cs.length ≤ ci) : HopI D cs (t + 1) 0 m a :=
 ⟨h.pn, h.ends, h.co, fun i c s q hi hs hq e hne => by
  have h1 := h.inv i c s q hi hs hq e hne
  have h2 := (List.getElem?_eq_some_iff.1 hi).1
  unfold turnY at h1 ⊢
  omega⟩
theorem HopI.done (h : HopI D cs t ci m a) (hm : MayD D) (hl : D.cl.length = 256) (hc : ClsC D cs) (ht : m ≤ t) {s q : Nat} (hs : s < D.next.length) (hq : q < D.next.length) : a s = a q ↔ accD D s = accD D q := by
 refine ⟨fun e => ?_, h.co s q hs hq⟩
 have st : ∀ s q, s < D.next.length → q < D.next.length → a s = a q → ∀ b : UInt8, a (stD D s b) = a (stD D q b) := fun s q hs hq e b => by
  rw [stD_stC, stD_stC]
  obtain ⟨i, hi, he⟩ := List.getElem_of_mem (hc.all b)
  refine Classical.byContradiction fun hne => ?_
  have h1 := h.inv i _ s q (by rw [List.getElem?_eq_getElem hi, he]) hs hq e hne
  have h2 := h.pn.lt _ (stC_lt hm hs _ (hc.lt hl (hc.all b)))
  have h3 := h.pn.lt _ (stC_lt hm hq _ (hc.lt hl (hc.all b)))
  unfold turnY at h1
  omega
 have key : ∀ (w : List UInt8) (s q : Nat), s < D.next.length → q < D.next.length → a s = a q → accD D s w = accD D q w := by
  intro w
  induction w with
  | nil => exact fun s q hs hq e => h.ends s q hs hq e
  | cons b w ih =>
   intro s q hs hq e
   exact ih _ _ (toD_ltA hm hl [b] s hs) (toD_ltA hm hl [b] q hq) (st s q hs hq e b)
 funext w
 exact key w s q hs hq e
end
def ncs (n : Nat) (f : Nat → Nat) : List Value := (List.range n).map fun q => .int .i64 (f q : Int)
theorem ncs_len (n : Nat) (f : Nat → Nat) : (ncs n f).length = n := by simp [ncs]
theorem ncs_get {n q : Nat} (f : Nat → Nat) (h : q < n) : (ncs n f)[q]? = some (.int .i64 (f q : Int)) := by simp [ncs, h]
structure SkP (R : Nat → Nat → Prop) (i a : Nat) : Prop where
 le : a ≤ i
 no : ∀ j, j < a → ¬ R j i
section
variable {R : Nat → Nat → Prop} {i a : Nat}
theorem SkP.zero (R : Nat → Nat → Prop) (i : Nat) : SkP R i 0 := ⟨Nat.zero_le _, fun j hj => absurd hj (Nat.not_lt_zero _)⟩
theorem SkP.next (h : SkP R i a) (hlt : a < i) (hn : ¬ R a i) : SkP R i (a + 1) :=
 ⟨hlt, fun j hj => by
  by_cases e : j = a
  ·rw [e]; exact hn
  ·exact h.no j (by omega)⟩
theorem SkP.hit (h : SkP R i a) (hr : ∀ i, R i i) (hR : R a i) : leR R i = a := leR_is hr hR h.le h.no
theorem SkP.end_ (h : SkP R i a) (hr : ∀ i, R i i) (hge : ¬ a < i) : leR R i = a := by
 have e : a = i := Nat.le_antisymm h.le (Nat.le_of_not_lt hge)
 exact h.hit hr (by rw [e]; exact hr i)
end
section
variable {P : Program} {w : World} {ops : Array Oper} {rest : List Oper} {o : Oper} {a : Act} {Q : Exit → Act → World → Prop}
theorem wpList_bld0 (hgd : o.guard = none) (t e : TypeId) (ho : o.op = .buildSlice t 0 #[]) (i : TypeInfo) (ht : P.underlying t = some (.slice e)) (hi : P.info? e = some i) (z : Value) (hz : i.zero = some z) (hs : i.size = 1)
  (h : ∀ w', w'.ownsRow w.heap.size e 1 (.slice (some ⟨w.heap.size, 0, none⟩) 0 0) 0 [] → Below w.heap.size w w' → wpList P ops Q rest (a.put o.dst (.slice (some ⟨w.heap.size, 0, none⟩) 0 0)) w') : wpList P ops Q (o :: rest) a w := by
 refine wpList_plain hgd fun K hK => ?_
 have hrun : (Instr.buildSlice t 0 #[]).run P w = .ok (.slice (some ⟨w.heap.size, 0, none⟩) 0 0) (w.alloc (.cells #[] e)) := by
  simp [Instr.buildSlice, run_underlying ht, sizeOf, typeInfo, hi, hs, Instr.fill, newRow, Array.range_zero']
 unfold Oper.wp
 simp only [execOp, ho, List.map_toArray, List.map_nil, hrun, Sem.run_bind, Result.andThen_ok, Sem.run_pure]
 exact hK _ _ (h _ ⟨by simp, .inr ⟨w.heap.size, 0, #[], rfl, Nat.le_refl _, heap_alloc_new w _, Nat.le_refl _, Nat.zero_le _, rfl, rfl⟩⟩ ((Below.refl _ _).alloc (Nat.le_refl _) _))
end
theorem ownC_nil (w : World) (B : Nat) (e : TypeId) : w.ownsRow B e 1 (.slice none 0 0) 0 [] := ⟨rfl, .inl ⟨rfl, rfl⟩⟩
section
variable {P : Program} {ops : Array Oper} {Q : Exit → Act → World → Prop} {md : Region.Mode} {T S : World → Prop} {n : Nat}
def wpAnyC (P : Program) (md : Region.Mode) (ops : Array Oper) (Q : Exit → Act → World → Prop) (T S : World → Prop) (n : Nat) : Nat → Array Bool → Act → World → Prop
 | 0, listed, a, w => Region.ready md ops listed = [] ∧ Q .normal a w
 | fuel + 1, listed, a, w =>
  (Region.ready md ops listed = [] → Q .normal a w) ∧
  ∀ i ∈ Region.ready md ops listed, wpOp P ops Q i (fun a' w' => T w' ∧ (i < n → S w → S w') ∧ wpAnyC P md ops Q T S n fuel (listed.setIfInBounds i true) a' w') a w
theorem wpAny_of_C : ∀ (fuel : Nat) (listed : Array Bool) (a : Act) (w : World), wpAnyC P md ops Q T S n fuel listed a w → wpAny P md ops Q fuel listed a w
 | 0, _, _, _, h => h
 | fuel + 1, _, _, _, h => ⟨h.1, fun i hi => wpOp_mono (fun a' w' h' => wpAny_of_C fuel _ a' w' h'.2.2) (h.2 i hi)⟩
def allWait (md : Region.Mode) (ops : Array Oper) (n i : Nat) : Bool := (List.range ops.size).all fun j => decide (j < n) || waitsFor md ops j i
theorem allWait_spec {i j : Nat} (h : allWait md ops n i = true) {listed : Array Bool} (hi : i ∈ Region.ready md ops listed) (hj : j ∈ Region.ready md ops listed) : j < n := by
 unfold allWait at h
 rw [List.all_eq_true] at h
 obtain ⟨_, o, ho, _⟩ := mem_ready.1 hj
 have h2 := h j (List.mem_range.2 (Array.getElem?_eq_some_iff.1 ho).1)
 rw [Bool.or_eq_true, decide_eq_true_iff] at h2
 rcases h2 with h2 | h2
 ·exact h2
 ·exact absurd hj (waits_not h2 hi)
theorem wpAnyC_first {U : World → Prop} {i : Nat} {oi : Oper} {v : Value} (hi : ops[i]? = some oi) (hsel : ∀ (j : Nat) (o : Oper) cs b, ops[j]? = some o → o.op ≠ .select cs b)
  (hQ : ∀ c a w, Q (.panic c) (a.put oi.dst v) w → Q (.panic c) a w)
  (hU : ∀ (listed : Array Bool) (j : Nat) (w w' : World), i ∈ Region.ready md ops listed → j ∈ Region.ready md ops listed → U w → T w' → (j < n → S w → S w') → U w') :
  ∀ (fuel : Nat) (listed : Array Bool) (a : Act) (w : World),
   (∀ j oj, ops[j]? = some oj → j ≠ i → listed.getD j true = false → (∀ e ∈ oj.after, Region.binds md e = true → e.on ≠ i) → oi.apart ops oj = true) →
   i ∈ Region.ready md ops listed → YieldsIf P ops U oi v a → U w → T w →
   wpAnyC P md ops Q T S n fuel (listed.setIfInBounds i true) (a.put oi.dst v) w → wpAnyC P md ops Q T S n (fuel + 1) listed a w := by
 intro fuel
 induction fuel with
 | zero =>
  intro listed a w _ hr hy hS hT H
  refine ⟨fun h => (by rw [h] at hr; cases hr), fun j hj => ?_⟩
  by_cases hji : j = i
  ·subst hji; exact hy.wpOp hi hS ⟨hT, fun _ h => h, H⟩
  ·have := ready_mono hj hji
   rw [H.1] at this
   cases this
 | succ fuel ih =>
  intro listed a w hfree hr hy hS hT H
  refine ⟨fun h => (by rw [h] at hr; cases hr), fun j hj => ?_⟩
  by_cases hji : j = i
  ·subst hji; exact hy.wpOp hi hS ⟨hT, fun _ h => h, H⟩
  ·have h1 := H.2 j (ready_mono hj hji)
   obtain ⟨hjun, oj, hoj, hall⟩ := mem_ready.1 hj
   have hnot : ∀ e ∈ oj.after, Region.binds md e = true → e.on ≠ i := fun e he hb heq => by
    have h1 := hall e he hb
    have h0 := (mem_ready.1 hr).1
    rw [heq] at h1
    rcases Nat.lt_or_ge i listed.size with h' | h'
    ·simp [h'] at h0 h1; rw [h0] at h1; cases h1
    ·simp [Array.getElem?_eq_none h'] at h1
   have h2 := wpOp_putIf hoj (hfree j oj hoj hji hjun hnot) (fun cs b => hsel i oi cs b hi) (fun cs b => hsel j oj cs b hoj) hQ hy h1
   have hfree' : ∀ k ok, ops[k]? = some ok → k ≠ i → (listed.setIfInBounds j true).getD k true = false →
     (∀ e ∈ ok.after, Region.binds md e = true → e.on ≠ i) → oi.apart ops ok = true := fun k ok hk hki hun hno => by
    refine hfree k ok hk hki ?_ hno
    by_cases hjk : j = k
    ·subst hjk; exact hjun
    ·rw [getD_set_ne true hjk] at hun; exact hun
   refine wpOp_mono (fun a' w' h3 => ⟨h3.2.1, h3.2.2.1, ih (listed.setIfInBounds j true) a' w' hfree' (ready_mono hr (Ne.symm hji)) h3.1 (hU listed j w w' hr hj hS h3.2.1 h3.2.2.1) h3.2.1 ?_⟩) h2
   rw [Array.setIfInBounds_comm _ _ hji]
   exact h3.2.2.2
theorem mc_take {i : Nat} {oi : Oper} {v : Value} {fuel : Nat} {listed : Array Bool} {a : Act} {w : World} (hi : ops[i]? = some oi)
  (hs : Region.noSelect ops = true) (hf : Region.free md ops listed i = true) (hr : (Region.ready md ops listed).contains i = true)
  (hQ : ∀ c a w, Q (.panic c) (a.put oi.dst v) w → Q (.panic c) a w) (hw : Region.wanted oi (yielded ops a.tmps) = true) (hT : T w)
  (hy : ∀ W, T W → (execOp a.eval oi).run P W = .ok (.value v) W)
  (h : wpAnyC P md ops Q T S n fuel (listed.setIfInBounds i true) (a.put oi.dst v) w) : wpAnyC P md ops Q T S n (fuel + 1) listed a w :=
 wpAnyC_first (U := T) hi (Region.noSelect_spec hs) hQ (fun _ _ _ _ _ _ _ h _ => h) fuel listed a w (Region.free_spec hi hf) (by simpa using hr) (.inl ⟨hw, hy⟩) hT hT h
theorem mc_skip {i : Nat} {oi : Oper} {fuel : Nat} {listed : Array Bool} {a : Act} {w : World} (hi : ops[i]? = some oi)
  (hs : Region.noSelect ops = true) (hf : Region.free md ops listed i = true) (hr : (Region.ready md ops listed).contains i = true)
  (hQ : ∀ c a w, Q (.panic c) (a.put oi.dst undef) w → Q (.panic c) a w) (hw : Region.wanted oi (yielded ops a.tmps) = false) (hT : T w)
  (h : wpAnyC P md ops Q T S n fuel (listed.setIfInBounds i true) (a.put oi.dst undef) w) : wpAnyC P md ops Q T S n (fuel + 1) listed a w :=
 wpAnyC_first (U := T) hi (Region.noSelect_spec hs) hQ (fun _ _ _ _ _ _ _ h _ => h) fuel listed a w (Region.free_spec hi hf) (by simpa using hr) (.inr ⟨hw, rfl⟩) hT hT h
theorem mc_takeS {i : Nat} {oi : Oper} {v : Value} {fuel : Nat} {listed : Array Bool} {a : Act} {w : World} (hi : ops[i]? = some oi)
  (hs : Region.noSelect ops = true) (hf : Region.free md ops listed i = true) (hr : (Region.ready md ops listed).contains i = true)
  (hQ : ∀ c a w, Q (.panic c) (a.put oi.dst v) w → Q (.panic c) a w) (hw : Region.wanted oi (yielded ops a.tmps) = true) (hT : T w) (hS : S w)
  (hy : ∀ W, T W → S W → (execOp a.eval oi).run P W = .ok (.value v) W)
  (h : wpAnyC P md ops Q T S n fuel (listed.setIfInBounds i true) (a.put oi.dst v) w) (hwt : allWait md ops n i = true := by kernel_rfl) : wpAnyC P md ops Q T S n (fuel + 1) listed a w :=
 wpAnyC_first (U := fun W => T W ∧ S W) hi (Region.noSelect_spec hs) hQ (fun listed j w w' h1 h2 h3 h4 h5 => ⟨h4, h5 (allWait_spec hwt h1 h2) h3.2⟩) fuel listed a w (Region.free_spec hi hf) (by simpa using hr) (.inl ⟨hw, fun W hW => hy W hW.1 hW.2⟩) ⟨hT, hS⟩ hT h
theorem mc_actB {i : Nat} {o : Oper} {fuel : Nat} {listed : Array Bool} {a : Act} {w : World} (hi : ops[i]? = some o) (hr : Region.ready md ops listed = [i])
  (hw : Region.wanted o (yielded ops a.tmps) = true)
  (h : ∀ K : Act → World → Prop, (∀ a' w', T w' → S w' → wpAnyC P md ops Q T S n fuel (listed.setIfInBounds i true) a' w' → K a' w') → o.wp P a w K Q) :
  wpAnyC P md ops Q T S n (fuel + 1) listed a w := by
 refine ⟨fun h0 => (by rw [hr] at h0; cases h0), fun j hj => ?_⟩
 rw [hr] at hj
 have hji : j = i := by simpa using hj
 subst hji
 unfold wpOp
 rw [hi]
 simp only [hw, if_true]
 exact .inl (h _ fun a' w' ht hs hk => ⟨ht, fun _ _ => hs, hk⟩)
theorem mc_last {i : Nat} {o : Oper} {fuel : Nat} {listed : Array Bool} {a : Act} {w : World} (hi : ops[i]? = some o) (hr : Region.ready md ops listed = [i])
  (hw : Region.wanted o (yielded ops a.tmps) = true)
  (h : ∀ K : Act → World → Prop, (∀ a' w', T w' → wpAnyC P md ops Q T S n fuel (listed.setIfInBounds i true) a' w' → K a' w') → o.wp P a w K Q) (hin : decide (n ≤ i) = true := by rfl) :
  wpAnyC P md ops Q T S n (fuel + 1) listed a w := by
 refine ⟨fun h0 => (by rw [hr] at h0; cases h0), fun j hj => ?_⟩
 rw [hr] at hj
 have hji : j = i := by simpa using hj
 subst hji
 unfold wpOp
 rw [hi]
 simp only [hw, if_true]
 exact .inl (h _ fun a' w' ht hk => ⟨ht, fun h0 => absurd h0 (Nat.not_lt.2 (of_decide_eq_true hin)), hk⟩)
theorem wpAnyC_done {listed : Array Bool} {a : Act} {w : World} (hr : Region.ready md ops listed = []) (h : Q .normal a w) :
  ∀ fuel, wpAnyC P md ops Q T S n fuel listed a w
 | 0 => ⟨hr, h⟩
 | _ + 1 => ⟨fun _ => h, by rw [hr]; simp⟩
theorem mc_start {id : Nat} {a : Act} {w : World} (T S : World → Prop) (n : Nat) (hm : P.follows .mixedOrders = true)
  (h : ∀ wd, wd = w.drew → wpAnyC P .any ops Q T S n ops.size (Array.replicate ops.size false) a wd) : (Code.region id ops true).wp P Q a w :=
 wp_region_any hm (wpAny_of_C _ _ _ _ (h _ rfl))
end
def Dat (w : World) (g : Nat) (zs : List Value) (l : List UInt8) : Prop := Blk w g 5 (bvs l ++ zs)
section
variable {w w' : World} {g : Nat} {zs : List Value} {l : List UInt8}
theorem Dat.lt (h : Dat w g zs l) : g < w.heap.size := Blk.lt h
theorem Dat.drew (h : Dat w g zs l) : Dat w.drew g zs l := Blk.drew h
theorem Dat.keep (h : Dat w g zs l) (hk : w'.heap[g]? = w.heap[g]?) : Dat w' g zs l := hk.trans h
theorem Dat.cell (h : Dat w g zs l) {i : Nat} {c : UInt8} (hc : l[i]? = some c) : w.cell? ⟨g, i, none⟩ = some (bv c) := by
 have hi := (List.getElem?_eq_some_iff.1 hc).1
 rw [Blk.cell h, List.getElem?_append_left (by rw [bvs_length]; exact hi)]
 exact bvs_get l i c hc
theorem Dat.frozen (h : Dat w g zs l) (i : Nat) : w.frozen? ⟨g, i, none⟩ = false := Blk.frozen h i
theorem bvs_set (l : List UInt8) (i : Nat) (c : UInt8) : (bvs l).set i (bv c) = bvs (l.set i c) := by simp [bvs, List.map_set]
theorem Dat.set (h : Dat w g zs l) {i : Nat} (hi : i < l.length) (c : UInt8) : Dat (w.setCell ⟨g, i, none⟩ (bv c)) g zs (l.set i c) := by
 have h1 := Blk.set h i (bv c)
 rw [List.set_append_left _ _ (by rw [bvs_length]; exact hi), bvs_set] at h1
 exact h1
theorem Dat.below {B : Nat} (h : Dat w g zs l) (hb : Below B w w') (hg : g < B) : Dat w' g zs l := Blk.below h hb hg
end
theorem grownS_trans {w w1 w2 : World} {g : Nat} (h : w.grownBy w1 (some g)) (h2 : w1.grownBy w2 (some g)) : w.grownBy w2 (some g) :=
 ⟨h2.os.trans h.os, h2.tape.trans h.tape, h2.output.trans h.output, Nat.le_trans h.size h2.size, fun k hk hne => (h2.block k (by have := h.size; omega) hne).trans (h.block k hk hne)⟩
theorem grownS_drew (w : World) (g : Nat) : w.grownBy w.drew (some g) := ⟨rfl, rfl, rfl, Nat.le_refl _, fun _ _ _ => rfl⟩
theorem grownS_below {w w1 w2 : World} {g : Nat} (h : w.grownBy w1 (some g)) (hb : Below w1.heap.size w1 w2) : w.grownBy w2 (some g) :=
 ⟨hb.os.trans h.os, hb.tape.trans h.tape, hb.output.trans h.output, Nat.le_trans h.size hb.size, fun k hk hn => (hb.block k (Nat.lt_of_lt_of_le hk h.size)).trans (h.block k hk hn)⟩
structure SoP (g : Nat) (zs : List Value) (l0 : List UInt8) (w0 w : World) : Prop where
 dat : ∃ l, l.Perm l0 ∧ Dat w g zs l
 grown : w0.grownBy w (some g)
section
variable {w w0 w' : World} {g : Nat} {zs : List Value} {l l0 : List UInt8}
theorem SoP.refl (h : Dat w g zs l) : SoP g zs l w w := ⟨⟨l, List.Perm.refl _, h⟩, ⟨rfl, rfl, rfl, Nat.le_refl _, fun _ _ _ => rfl⟩⟩
theorem SoP.trans (hp : l.Perm l0) (h1 : w0.grownBy w (some g)) (h : SoP g zs l w w') : SoP g zs l0 w0 w' := by
 obtain ⟨⟨l', hp', hd⟩, hg⟩ := h
 exact ⟨⟨l', hp'.trans hp, hd⟩, grownS_trans h1 hg⟩
theorem SoP.below (h : SoP g zs l0 w0 w) (hb : Below w.heap.size w w') : SoP g zs l0 w0 w' := by
 obtain ⟨⟨l, hp, hd⟩, hg⟩ := h
 exact ⟨⟨l, hp, hd.below hb hd.lt⟩, grownS_below hg hb⟩
end
/-! ### single cells -/
theorem w64S (k : Nat) (h : k ≤ 4611686018427387904) : wrap64 (k : Int) = (k : Int) := IntWalk.wrap64_in _ (by omega)
theorem k64S (k : Nat) (h : k ≤ 4611686018427387904) : IntKind.i64.wrap (k : Int) = (k : Int) := IntWalk.i64_in _ (by omega)
def IsW (w V : World) : Prop := V = w
section
variable {w0 w V : World} {g : Nat} {zs : List Value} {l : List UInt8}
theorem Dat.is (h : Dat w g zs l) (hV : IsW w.drew V) : Dat V g zs l := by
 have e : V = w.drew := hV
 rw [e]
 exact h.drew
theorem grownS_is (h : w0.grownBy w (some g)) (hV : IsW w.drew V) : w0.grownBy V (some g) := by
 have e : V = w.drew := hV
 rw [e]
 exact grownS_trans h (grownS_drew _ _)
theorem SoP.is (h : SoP g zs l w0 w) (hV : IsW w.drew V) : SoP g zs l w0 V := ⟨by
 obtain ⟨l', hp, hd⟩ := h.dat
 exact ⟨l', hp, hd.is hV⟩, grownS_is h.grown hV⟩
end
def putV (vf : Nat → Value) (s : Nat) (v : Value) : Nat → Value := fun i => if i = s then v else vf i
theorem putV_at (vf : Nat → Value) (s : Nat) (v : Value) : putV vf s v s = v := if_pos rfl
theorem putV_ne {vf : Nat → Value} {s i : Nat} {v : Value} (h : i ≠ s) : putV vf s v i = vf i := if_neg h
theorem map_putV (vf : Nat → Value) (s : Nat) (v : Value) (n : Nat) : ((List.range n).map vf).set s v = (List.range n).map (putV vf s v) := by
 apply List.ext_getElem?
 intro i
 by_cases hi : i < n
 ·by_cases he : s = i
  ·subst he
   rw [List.getElem?_set_self (by simp [hi])]
   simp [hi, putV_at]
  ·rw [List.getElem?_set_ne he]
   simp [hi, putV_ne (Ne.symm he)]
 ·rw [List.getElem?_eq_none (by simp; omega), List.getElem?_eq_none (by simp; omega)]
def putL (L : Nat → List Int) (s : Nat) (l : List Int) : Nat → List Int := fun i => if i = s then l else L i
theorem putL_at (L : Nat → List Int) (s : Nat) (l : List Int) : putL L s l s = l := if_pos rfl
theorem putL_ne {L : Nat → List Int} {s i : Nat} {l : List Int} (h : i ≠ s) : putL L s l i = L i := if_neg h
theorem own_mono {w : World} {B B' : Nat} {e : TypeId} {v : Value} {n k : Nat} {xs : List Value} (h : w.ownsRow B' e k v n xs) (hB : B ≤ B') : w.ownsRow B e k v n xs := by
 refine ⟨h.1, ?_⟩
 rcases h.2 with h0 | ⟨g, cap, cur, rfl, hb, h3⟩
 ·exact .inl h0
 ·exact .inr ⟨g, cap, cur, rfl, Nat.le_trans hB hb, h3⟩
theorem ownC_slice {w : World} {base : Nat} {e : TypeId} {v : Value} {n : Nat} {xs : List Value} (h : w.ownsRow base e 1 v n xs) : ∃ A c, v = .slice A n c := by
 rcases h.2 with ⟨rfl, h0⟩ | ⟨g, cap, cur, rfl, _⟩
 ·exact ⟨none, 0, by rw [h0]⟩
 ·exact ⟨_, _, rfl⟩
structure Fam (w : World) (Bt Br g cap n m : Nat) (vf : Nat → Value) (L : Nat → List Int) : Prop where
 top : w.ownsRow Bt 47 1 (.slice (some ⟨g, 0, none⟩) n cap) n ((List.range n).map vf)
 row : ∀ i, i < m → w.ownsRow Br 3 1 (vf i) (L i).length (nums .i64 (L i))
 ng : ∀ i, i < m → (vf i).ownBlock ≠ some g
 inj : ∀ i j, i < m → j < m → i ≠ j → ∀ k, (vf i).ownBlock = some k → (vf j).ownBlock ≠ some k
section
variable {w w' : World} {Bt Br g cap n m : Nat} {vf : Nat → Value} {L : Nat → List Int}
theorem Fam.stay (h : Fam w Bt Br g cap n m vf L) (hg : w'.heap[g]? = w.heap[g]?) (hr : ∀ i k, i < m → (vf i).ownBlock = some k → w'.heap[k]? = w.heap[k]?) : Fam w' Bt Br g cap n m vf L :=
 ⟨own6_stay h.top fun j hj => by
  have e : some g = some j := hj
  rw [← Option.some.inj e]
  exact hg, fun i hi => own6_stay (h.row i hi) fun j hj => hr i j hi hj, h.ng, h.inj⟩
theorem Fam.glt (h : Fam w Bt Br g cap n m vf L) : g < w.heap.size ∧ Bt ≤ g := own6_lt h.top g rfl
theorem Fam.below (h : Fam w Bt Br g cap n m vf L) (hb : Below w.heap.size w w') : Fam w' Bt Br g cap n m vf L :=
 h.stay (hb.block g h.glt.1) fun i k hi hk => hb.block k (own6_lt (h.row i hi) k hk).1
theorem Fam.cell (h : Fam w Bt Br g cap n m vf L) {i : Nat} (hi : i < n) : w.cell? ⟨g, i, none⟩ = some (vf i) := (own_cell h.top (j := i) (u := vf i) (by simp [hi])).1
theorem Fam.frozen (h : Fam w Bt Br g cap n m vf L) {i : Nat} (hi : i < n) : w.frozen? ⟨g, i, none⟩ = false := (own_cell h.top (j := i) (u := vf i) (by simp [hi])).2
theorem Fam.slice (h : Fam w Bt Br g cap n m vf L) {i : Nat} (hi : i < m) : ∃ A c, vf i = .slice A (L i).length c := by
 obtain ⟨A, c, hv, _⟩ := Row.of_own (h.row i hi)
 rw [nums_length] at hv
 exact ⟨A, c, hv⟩
theorem Fam.put (h : Fam w Bt Br g cap n m vf L) {s : Nat} (hs : s < n) {m' : Nat} (hm' : ∀ i, i < m' → i = s ∨ i < m) {v : Value} {l : List Int}
  (ho : w'.ownsRow Br 3 1 v l.length (nums .i64 l)) (hgr : ∀ k, k < w.heap.size → (∀ q, (q = k → q < w.heap.size → (s < m ∧ (vf s).ownBlock = some q) → False) ∧ True) → w'.heap[k]? = w.heap[k]?) (hsz : w.heap.size ≤ w'.heap.size)
  (hnew : ∀ k, v.ownBlock = some k → (s < m ∧ (vf s).ownBlock = some k) ∨ w.heap.size ≤ k) : Fam (w'.setCell ⟨g, s, none⟩ v) Bt Br g cap n m' (putV vf s v) (putL L s l) := by
 have hg := h.glt
 have hgs : ¬ (s < m ∧ (vf s).ownBlock = some g) := fun e => h.ng s e.1 e.2
 have hng : v.ownBlock ≠ some g := fun e => by
  rcases hnew g e with e1 | e1
  ·exact hgs e1
  ·omega
 have hkeep : ∀ i, i < m → i ≠ s → ∀ k, (vf i).ownBlock = some k → (w'.setCell ⟨g, s, none⟩ v).heap[k]? = w.heap[k]? := fun i hi hne k hk => by
  rw [Below.heap_setCell w' ⟨g, s, none⟩ v k (fun e => h.ng i hi (by rw [hk]; exact congrArg some e))]
  refine hgr k (own6_lt (h.row i hi) k hk).1 fun q => ⟨fun hq _ e => ?_, trivial⟩
  subst hq
  exact h.inj i s hi e.1 hne q hk e.2
 refine ⟨?_, fun i hi => ?_, fun i hi => ?_, fun i j hi hj hij k hk => ?_⟩
 ·have h1 : w'.ownsRow Bt 47 1 (.slice (some ⟨g, 0, none⟩) n cap) n ((List.range n).map vf) := own6_stay h.top fun j hj => by
   have e : some g = some j := hj
   have e2 := Option.some.inj e
   subst e2
   refine hgr g hg.1 fun q => ⟨fun hq _ e3 => ?_, trivial⟩
   subst hq
   exact hgs e3
  have h2 := own_set h1 (j := s) (by simp [hs]) v
  rw [map_putV] at h2
  exact h2
 ·by_cases hne : i = s
  ·subst hne
   rw [putV_at, putL_at]
   exact own6_stay ho fun j hj => Below.heap_setCell w' ⟨g, i, none⟩ v j (fun e => hng (by rw [hj]; exact congrArg some e))
  ·rw [putV_ne hne, putL_ne hne]
   have him : i < m := by rcases hm' i hi with e | e; exact absurd e hne; exact e
   exact own6_stay (h.row i him) fun j hj => hkeep i him hne j hj
 ·by_cases hne : i = s
  ·rw [hne, putV_at]; exact hng
  ·rw [putV_ne hne]
   have him : i < m := by rcases hm' i hi with e | e; exact absurd e hne; exact e
   exact h.ng i him
 ·by_cases hi2 : i = s
  ·have hj2 : j ≠ s := fun e => hij (by rw [hi2, e])
   have hjm : j < m := by rcases hm' j hj with e | e; exact absurd e hj2; exact e
   rw [hi2, putV_at] at hk
   rw [putV_ne hj2]
   rcases hnew k hk with e | e
   ·exact fun e2 => h.inj s j e.1 hjm (Ne.symm hj2) k e.2 e2
   ·exact fun e2 => by have := (own6_lt (h.row j hjm) k e2).1; omega
  ·have him : i < m := by rcases hm' i hi with e | e; exact absurd e hi2; exact e
   rw [putV_ne hi2] at hk
   by_cases hj2 : j = s
   ·rw [hj2, putV_at]
    intro e2
    rcases hnew k e2 with e | e
    ·exact h.inj s i e.1 him (Ne.symm hi2) k e.2 hk
    ·have := (own6_lt (h.row i him) k hk).1; omega
   ·have hjm : j < m := by rcases hm' j hj with e | e; exact absurd e hj2; exact e
    rw [putV_ne hj2]
    exact h.inj i j him hjm hij k hk
theorem Fam.push (h : Fam w Bt Br g cap n m vf L) {s : Nat} (hs : s < n) (hsm : s < m) {v : Value} {x : Int}
  (ho : w'.ownsRow Br 3 1 v (L s ++ [x]).length (nums .i64 (L s ++ [x]))) (hg : w.grownBy w' (vf s).ownBlock) (hw : ∀ k, v.ownBlock = some k → (vf s).ownBlock = some k ∨ w.heap.size ≤ k) :
  Fam (w'.setCell ⟨g, s, none⟩ v) Bt Br g cap n m (putV vf s v) (putL L s (L s ++ [x])) :=
 h.put hs (fun i hi => .inr hi) ho (fun k hk hn => hg.block k hk fun e => (hn k).1 rfl hk ⟨hsm, e.symm⟩) hg.size fun k hk => by
  rcases hw k hk with e | e
  ·exact .inl ⟨hsm, e⟩
  ·exact .inr e
theorem Fam.next (h : Fam w Bt Br g cap n m vf L) (hm : m < n) {v : Value} {l : List Int} (ho : w'.ownsRow w.heap.size 3 1 v l.length (nums .i64 l)) (hb : Below w.heap.size w w') (hB : Br ≤ w.heap.size) :
  Fam (w'.setCell ⟨g, m, none⟩ v) Bt Br g cap n (m + 1) (putV vf m v) (putL L m l) :=
 h.put hm (fun i hi => by omega) (own_mono ho hB) (fun k hk _ => hb.block k hk) hb.size fun k hk => .inr (own6_lt ho k hk).2
end
theorem Fam.made {w : World} {B Br g n : Nat} (h : Blk w g 47 (List.replicate n (.slice none 0 0))) (hB : B ≤ g) (hn : n ≤ 1048576) : Fam w B Br g n n n (fun _ => .slice none 0 0) (fun _ => []) := by
 refine ⟨?_, fun i _ => ownC_nil w Br _, fun i _ e => (by cases (show (none : Option Nat) = some g from e)), fun i j _ _ _ k hk => (by cases (show (none : Option Nat) = some k from hk))⟩
 have h1 := h.own hB (by rw [List.length_replicate]; unfold maxLen; omega)
 simp only [List.length_replicate] at h1
 rwa [show (List.range n).map (fun _ => Value.slice none 0 0) = List.replicate n (.slice none 0 0) by rw [List.map_const', List.length_range]]
def LnkV (w : World) (v : Value) (n : Nat) (L : Nat → List Int) : Prop :=
 ∃ vf : Nat → Value, Row w v ((List.range n).map vf) ∧ ∀ i, i < n → Row w (vf i) (nums .i64 (L i))
theorem LnkV.below {w w' : World} {v : Value} {n : Nat} {L : Nat → List Int} (h : LnkV w v n L) (hb : Below w.heap.size w w') : LnkV w' v n L := by
 obtain ⟨vf, h1, h2⟩ := h
 exact ⟨vf, h1.below hb, fun i hi => (h2 i hi).below hb⟩
theorem LnkV.congr {w : World} {v : Value} {n : Nat} {L L' : Nat → List Int} (h : LnkV w v n L) (he : ∀ i, i < n → L i = L' i) : LnkV w v n L' := by
 obtain ⟨vf, h1, h2⟩ := h
 exact ⟨vf, h1, fun i hi => by rw [← he i hi]; exact h2 i hi⟩
theorem ne_of_ltG {br g B : Nat} (h : br < B) (hB : B ≤ g) : some br ≠ some g := fun e => by
 have := Option.some.inj e
 omega
theorem below_own {w0 w w' : World} {B : Nat} {A : Option Nat} (h : Below B w0 w) (hB : B ≤ w.heap.size) (h2 : w.grownBy w' A) (hA : ∀ q, A = some q → B ≤ q) : Below B w0 w' :=
 h.trans ⟨h2.os, h2.tape, h2.output, h2.size, fun k hk => h2.block k (Nat.lt_of_lt_of_le hk hB) fun e => by
  have := hA k (by first | exact e | exact e.symm)
  omega⟩
end Go.Proofs.Ytaakdebcagdfgaa
