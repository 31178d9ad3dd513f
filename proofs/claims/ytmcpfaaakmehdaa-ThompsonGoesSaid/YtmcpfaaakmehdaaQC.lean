/-
  Texts of this proof, put together: RxEp, RxIp, RxW, RxA, RxMp, RxB, RxC, RxPp, PyA, PyB, PyC, LgA, ThA, RegG, RegT, ThB, OpenR, OpenN. No statement is proved here.
-/
import Derived.Test.YtmcpfaaakmehdaaQB
import Derived.Deep.MidRow
import Derived.Test.YtmcpfaaakmehdaaProg
import Derived.Test.YtmcpfaaakmehdaaQA
import Derived.Test.YtmcpfaaakmehdaaRows
import Derived.Deep.Strs
namespace Go.Proofs.Ytmcpfaaakmehdaa
open Go.RowKit
set_option linter.unusedSimpArgs false
set_option linter.unusedVariables false
def zeroS : Nat → Bool := fun _ => false
def rxc (k : Int) (s : Nat → Bool) (v : Value) : List Value := Value.int .i64 k :: (wds s ++ [v])
theorem rx_leaf (D : Nat → Prop) (w : World) (k : Int) (s : Nat → Bool) : RxD D w (rxc k s (.slice none 0 0)) (.node k s []) :=
 .node (l := []) (fun _ => []) (Nat.le_refl _) (Nat.zero_le _) (fun _ => rfl) (fun h => absurd rfl h) (fun i t h => by simp at h)
def noneT : T := .node 1 zeroS []
def bytesT (s : Nat → Bool) : T := if eqS s zeroS then noneT else .node 3 s []
theorem inf_rx' : ∃ i, Try.prog.info? 40 = some i ∧ i.zero = some (.agg (rxc 0 zeroS (.slice none 0 0)).toArray) ∧ i.size = 6 ∧ i.bytes = 64 := infoP inf_rx
theorem built0 (k : Int) : Try.prog.built 40 [(0, .int .i64 k)] = some (rxc k zeroS (.slice none 0 0)).toArray := by kernel_rfl
theorem built01 (k : Int) (s : Nat → Bool) : Try.prog.built 40 [(0, .int .i64 k), (1, .agg (wds s).toArray)] = some (rxc k s (.slice none 0 0)).toArray := by kernel_rfl
theorem builtS : Try.prog.built 37 [] = some (wds zeroS).toArray := by kernel_rfl
set_option maxHeartbeats 2000000 in
set_option maxRecDepth 100000 in
theorem refNone_any (w : World) : Calls Try.prog 52 #[] w fun e w' => ∃ ds, e = .returned (.agg ds.toArray) ∧ (∀ D, RxD D w' ds noneT) ∧ Below w.heap.size w w' := by
 obtain ⟨i0, hi0, hz0, hz1, hz2⟩ := inf_rx'
 obtain ⟨z, hz⟩ : ∃ z, z = rxc 0 zeroS (.slice none 0 0) := ⟨_, rfl⟩
 have HZL := qH (show z.length = 6 by rw [hz]; rfl)
 have HZ0 := qH (show i0.zero = some (.agg z.toArray) by rw [hz]; exact hz0)
 obtain ⟨c, hc⟩ : ∃ c, c = rxc 1 zeroS (.slice none 0 0) := ⟨_, rfl⟩
 have HCB := qH (show Try.prog.built 40 [(0, .int .i64 1)] = some c.toArray by rw [hc]; exact built0 1)
 have HC6 := qH (show c.length = 6 by rw [hc]; rfl)
 have HC1 := qH (show c.all (·.oneCell') = true by rw [hc]; rfl)
 have HC := qH hc
 clear hz hz0 hz1 hz2 hc
 go_enter Try.func52, Try.ntmps52
 go_wp2_with (first
  | ((with_reducible refine atDst 0 ?_); refine wpList_new rfl 40 rfl i0 _ z hi0 HZ0.out rfl (Below.refl w.heap.size w) (Nat.le_refl _) ?_; intro w1 hk1 hb1 hs1 _; have K1 := qH hk1; have B1 := qH hb1; clear hk1 hb1 hs1)
  | ((with_reducible refine atDst 1 ?_); refine wpList_bld rfl 40 _ rfl c HCB.out ?_)
  | ((with_reducible refine atStore 40 0 1 ?_); refine wpList_stBlk rfl 40 _ _ rfl w.heap.size c rfl rfl 40 _ K1.out (size_rx HC6.out) (by rw [HZL.out, HC6.out]) HC1.out B1.out (Nat.le_refl _) ?_; intro w2 hk2 hb2 hs2 _; have K2 := qH hk2; have B2 := qH hb2; clear hk2 hb2 hs2))
 refine bodyPost_ret (results_blk rfl _ _ w.heap.size 40 _ _ rfl K2.out Try.underlying40 rfl (size_rx HC6.out)) rfl ?_
 exact ⟨c, rfl, fun D => by rw [HC.out]; exact rx_leaf D _ _ _, B2.out⟩
set_option maxHeartbeats 2000000 in
set_option maxRecDepth 100000 in
theorem refBytes_any (s : Nat → Bool) (w : World) : Calls Try.prog 32 #[.agg (wds s).toArray] w fun e w' => ∃ ds, e = .returned (.agg ds.toArray) ∧ (∀ D, RxD D w' ds (bytesT s)) ∧ Below w.heap.size w w' := by
 obtain ⟨i0, hi0, hz0, hz1, hz2⟩ := inf_rx'
 obtain ⟨z, hz⟩ : ∃ z, z = rxc 0 zeroS (.slice none 0 0) := ⟨_, rfl⟩
 have HZL := qH (show z.length = 6 by rw [hz]; rfl)
 have HZ0 := qH (show i0.zero = some (.agg z.toArray) by rw [hz]; exact hz0)
 obtain ⟨c, hc⟩ : ∃ c, c = rxc 3 s (.slice none 0 0) := ⟨_, rfl⟩
 have HCB := qH (show Try.prog.built 40 [(0, .int .i64 3), (1, .agg (wds s).toArray)] = some c.toArray by rw [hc]; exact built01 3 s)
 have HC6 := qH (show c.length = 6 by rw [hc]; rfl)
 have HC1 := qH (show c.all (·.oneCell') = true by rw [hc]; rfl)
 have HC := qH hc
 have HBS := qH builtS
 obtain ⟨zs, hzs⟩ : ∃ zs, zs = zeroS := ⟨_, rfl⟩
 have HZS := qH hzs
 rw [← hzs] at HBS
 clear hz hz0 hz1 hz2 hc hzs
 cases hs : eqS s zs with
 | true =>
  have HEQ := qH hs
  have HF := qH (show bytesT s = noneT by unfold bytesT; rw [← HZS.out, hs]; rfl)
  clear hs
  go_enter Try.func32, Try.ntmps32
  go_wp2_with (first
   | ((with_reducible refine atDst 1 ?_); refine wpList_box rfl 37 _ rfl (wds s) rfl (Below.refl w.heap.size w) (Nat.le_refl _) ?_; intro w1 hk1 hb1 hs1 _; have K1 := qH hk1; have B1 := qH hb1; clear hk1 hb1 hs1)
   | ((with_reducible refine atDst 2 ?_); refine wpList_new rfl 40 rfl i0 _ z hi0 HZ0.out rfl B1.out B1.out.size ?_; intro w2 hk2 hb2 hs2 ho2; have L2 := qH hk2; have B2 := qH hb2; have K2 := qH (show Blk w2 w.heap.size 37 (wds s) from (ho2 _ K1.out.lt).trans K1.out); have G12 := qH K1.out.lt; clear hk2 hb2 hs2 ho2)
   | ((with_reducible refine atDst 3 ?_); refine wpList_ldArr rfl 37 _ rfl w.heap.size rfl 37 _ _ K2.out Try.underlying37 rfl (size_set s) ?_; (try simp only [Act.put, qA, qB, qC]))
   | ((with_reducible refine atDst 4 ?_); refine wpList_bld rfl 37 _ rfl (wds zs) HBS.out ?_; (try simp only [Act.put, qA, qB, qC]))
   | ((with_reducible refine atDst 5 ?_); refine wpList_eqSet_is rfl HEQ.out 37 35 (.tmp 3) (.tmp 4) 37 rfl guardSet Try.underlying37 Try.underlying35 sizeU64 rfl rfl ?_; (try simp only [Act.put, qA, qB, qC])))
  refine (refNone_any w2).mono ?_
  rintro e w3 ⟨ds, rfl, hds, hb3⟩
  have D6 := qH (hds (fun _ => False)).length
  have DA := qH hds
  have D1 := qH (show ds.all (·.oneCell') = true from List.all_eq_true.2 (hds (fun _ => False)).one)
  have L3 := qH (L2.out.below hb3 L2.out.lt)
  have B3 := qH (B2.out.trans (hb3.mono B2.out.size))
  clear hds hb3
  go_wp2_with ((with_reducible refine atStore 40 2 6 ?_); refine wpList_stBlk rfl 40 _ _ rfl w1.heap.size ds rfl rfl 40 _ L3.out (size_rx D6.out) (by rw [HZL.out, D6.out]) D1.out B3.out (Nat.le_of_lt G12.out) ?_; intro w4 hk4 hb4 hs4 ho4; have K4 := qH hk4; have B4 := qH hb4; have D4 := qH (fun D => ((DA.out (fun _ => False)).stay (w' := w4) fun k hk => absurd hk id).mono (D' := D) fun k hk => absurd hk id); clear hk4 hb4 hs4 ho4)
  refine bodyPost_ret (results_blk rfl _ _ w1.heap.size 40 _ _ rfl K4.out Try.underlying40 rfl (size_rx D6.out)) rfl ?_
  exact ⟨ds, rfl, by rw [HF.out]; exact D4.out, B4.out⟩
 | false =>
  have HEQ := qH hs
  have HF := qH (show bytesT s = .node 3 s [] by unfold bytesT; rw [← HZS.out, hs]; rfl)
  clear hs
  go_enter Try.func32, Try.ntmps32
  go_wp2_with (first
   | ((with_reducible refine atDst 1 ?_); refine wpList_box rfl 37 _ rfl (wds s) rfl (Below.refl w.heap.size w) (Nat.le_refl _) ?_; intro w1 hk1 hb1 hs1 _; have K1 := qH hk1; have B1 := qH hb1; clear hk1 hb1 hs1)
   | ((with_reducible refine atDst 2 ?_); refine wpList_new rfl 40 rfl i0 _ z hi0 HZ0.out rfl B1.out B1.out.size ?_; intro w2 hk2 hb2 hs2 ho2; have L2 := qH hk2; have B2 := qH hb2; have K2 := qH (show Blk w2 w.heap.size 37 (wds s) from (ho2 _ K1.out.lt).trans K1.out); have G12 := qH K1.out.lt; clear hk2 hb2 hs2 ho2)
   | ((with_reducible refine atDst 3 ?_); refine wpList_ldArr rfl 37 _ rfl w.heap.size rfl 37 _ _ K2.out Try.underlying37 rfl (size_set s) ?_; (try simp only [Act.put, qA, qB, qC]))
   | ((with_reducible refine atDst 4 ?_); refine wpList_bld rfl 37 _ rfl (wds zs) HBS.out ?_; (try simp only [Act.put, qA, qB, qC]))
   | ((with_reducible refine atDst 5 ?_); refine wpList_eqSet_is rfl HEQ.out 37 35 (.tmp 3) (.tmp 4) 37 rfl guardSet Try.underlying37 Try.underlying35 sizeU64 rfl rfl ?_; (try simp only [Act.put, qA, qB, qC]))
   | ((with_reducible refine atDst 7 ?_); refine wpList_ldArr rfl 37 _ rfl w.heap.size rfl 37 _ _ K2.out Try.underlying37 rfl (size_set s) ?_; (try simp only [Act.put, qA, qB, qC]))
   | ((with_reducible refine atDst 8 ?_); refine wpList_bld rfl 40 _ rfl c HCB.out ?_; (try simp only [Act.put, qA, qB, qC]))
   | ((with_reducible refine atStore 40 2 8 ?_); refine wpList_stBlk rfl 40 _ _ rfl w1.heap.size c rfl rfl 40 _ L2.out (size_rx HC6.out) (by rw [HZL.out, HC6.out]) HC1.out B2.out (Nat.le_of_lt G12.out) ?_; intro w4 hk4 hb4 hs4 ho4; have K4 := qH hk4; have B4 := qH hb4; clear hk4 hb4 hs4 ho4))
  refine bodyPost_ret (results_blk rfl _ _ w1.heap.size 40 _ _ rfl K4.out Try.underlying40 rfl (size_rx HC6.out)) rfl ?_
  exact ⟨c, rfl, fun D => by rw [HF.out, HC.out]; exact rx_leaf D _ _ _, B4.out⟩
theorem RxD.split {D : Nat → Prop} {w : World} {cs : List Value} {t : T} (h : RxD D w cs t) : ∃ A cap, cs = rxc t.kind t.set (.slice A t.args.length cap) ∧ RowD D w (.slice A t.args.length cap) t.args := by
 cases t with
 | node k s l =>
  obtain ⟨v, rfl, hr⟩ := RxD.row h
  have hr' := hr
  obtain ⟨A, cap, f, rfl, _⟩ := hr
  exact ⟨A, cap, rfl, hr'⟩
section
variable {w : World} {o : Oper} {a : Act} {K : Act → World → Prop} {Q : Exit → Act → World → Prop}
end
section
variable {P : Program} {w : World} {o : Oper} {a : Act} {K : Act → World → Prop} {Q : Exit → Act → World → Prop}
end
section
variable {w : World} {o : Oper} {a : Act} {K : Act → World → Prop} {Q : Exit → Act → World → Prop}
end
theorem RowD.take {D : Nat → Prop} {w : World} {A : Option Addr} {n cap : Nat} {l : List T} (h : RowD D w (.slice A n cap) l) (k : Nat) (hk : k ≤ l.length) : RowD D w (.slice A k cap) (l.take k) := by
 obtain ⟨A', cap', f, he, h1, h2, h0, h3, h4⟩ := h
 injection he with hA hn hc
 subst hA
 subst hc
 have hl : (l.take k).length = k := by rw [List.length_take]; omega
 refine ⟨A, cap, f, by rw [hl], by omega, h2, h0, fun hne => ?_, fun i t ht => ?_⟩
 ·obtain ⟨b, off, hA, hb, hr⟩ := h3 (fun e => hne (by rw [e]; simp))
  exact ⟨b, off, hA, hb, fun i hi => hr i (by omega)⟩
 ·have hi : i < k := by have := (List.getElem?_eq_some_iff.1 ht).1; omega
  rw [List.getElem?_take, if_pos hi] at ht
  exact h4 i t ht
theorem RowD.drop {D : Nat → Prop} {w : World} {A : Option Addr} {n cap : Nat} {l : List T} (h : RowD D w (.slice A n cap) l) (k : Nat) (hk : k < l.length) :
  ∃ b off, A = some ⟨b, off, none⟩ ∧ RowD D w (.slice (some ⟨b, off + k * 6, none⟩) (n - k) (cap - k)) (l.drop k) := by
 obtain ⟨A', cap', f, he, h1, h2, h0, h3, h4⟩ := h
 injection he with hA hn hc
 subst hA
 subst hc
 subst hn
 obtain ⟨b, off, rfl, hb, hr⟩ := h3 (fun e => by rw [e] at hk; simp at hk)
 refine ⟨b, off, rfl, some ⟨b, off + k * 6, none⟩, cap - k, fun i => f (k + i), by rw [List.length_drop], by rw [List.length_drop]; omega, by omega, (fun h => by cases h), fun _ => ⟨b, off + k * 6, rfl, hb, fun i hi => ?_⟩, fun i t ht => ?_⟩
 ·rw [List.length_drop] at hi
  have := hr (k + i) (by omega)
  rw [show off + k * 6 + i * 6 = off + (k + i) * 6 by omega]
  exact this
 ·rw [List.getElem?_drop] at ht
  exact h4 (k + i) t ht
/-! ### their line -/
def lex (d l : Int) : Int := if d = 0 then l else d
def kindD (k k' : Int) : Int := if k = k' then 0 else if k < k' then -1 else 1
def setD (k : Int) (s s' : Nat → Bool) : Int := if k = 3 then (if eqS s s' = false then (if lessS s s' then -1 else 1) else 0) else 0
theorem lex_zero (l : Int) : lex 0 l = l := rfl
theorem lex_ne {d : Int} (l : Int) (h : d ≠ 0) : lex d l = d := if_neg h
theorem cmpT_lex (k k' : Int) (s s' : Nat → Bool) (l l' : List T) : cmpT (.node k s l) (.node k' s' l') = lex (kindD k k') (lex (setD k s s') (cmpL l l')) := by
 simp only [cmpT]
 by_cases hk : k = k'
 ·have e1 : kindD k k' = 0 := if_pos hk
  rw [if_pos hk, e1, lex_zero]
  by_cases h3 : k = 3
  ·cases e : eqS s s' with
   | true =>
    have e2 : setD k s s' = 0 := by unfold setD; rw [if_pos h3, e]; rfl
    rw [if_neg (by rintro ⟨_, h⟩; cases h), e2, lex_zero]
   | false =>
    have e2 : setD k s s' = if lessS s s' then -1 else 1 := by unfold setD; rw [if_pos h3, e]; rfl
    rw [if_pos ⟨h3, rfl⟩, e2, lex_ne]
    cases lessS s s' <;> decide
  ·have e2 : setD k s s' = 0 := if_neg h3
   rw [if_neg (fun h => h3 h.1), e2, lex_zero]
 ·have e1 : kindD k k' = if k < k' then -1 else 1 := if_neg hk
  rw [if_neg hk, e1, lex_ne]
  by_cases h : k < k'
  ·rw [if_pos h]; decide
  ·rw [if_neg h]; decide
def ThereT (w : World) (g n : Nat) : Prop := ∀ j, j < n → w.there g (j * 6) 6
theorem ThereT.all {w : World} {g n : Nat} (h : ThereT w g n) (o m : Nat) (hm : o + m ≤ n * 6) : w.there g o m := fun j hj => by
 have hk : (o + j) / 6 < n := by omega
 have := h ((o + j) / 6) hk ((o + j) % 6) (Nat.mod_lt _ (by omega))
 rw [show (o + j) / 6 * 6 + (o + j) % 6 = o + j by omega] at this
 exact this
section
variable {w : World} {ops : Array Oper} {rest : List Oper} {o : Oper} {a : Act} {Q : Exit → Act → World → Prop}
end
theorem sub_next {m q : Nat} (h : q < m) : m - (q + 1) < m - q := by omega
def canS (s : Nat → Bool) : Prop := ∀ b, 256 ≤ b → s b = false
mutual
def canT : T → Prop
 | .node _ s l => canS s ∧ canL l
def canL : List T → Prop
 | [] => True
 | t :: r => canT t ∧ canL r
end
def fitsT (p k : Int) : Bool := if p = 2 then decide (k = 5) else decide (p ≠ 1) && decide (p ≠ k)
def countT (k : Int) (s : Nat → Bool) (n : Nat) : Bool :=
 if k = 3 then !eqS s zeroS && decide (n = 0) else if k = 1 ∨ k = 2 then decide (n = 0) else if k = 4 ∨ k = 5 then decide (2 ≤ n) else decide (k = 6) && decide (n = 1)
def folT (a b : T) : Bool := decide (cmpT b a < 0) && !(decide (a.kind = 3) && decide (b.kind = 3))
def ascF : List T → Bool
 | a :: b :: r => folT b a && ascF (b :: r)
 | _ => true
mutual
def plainT : T → Bool
 | .node k s l => (decide (k = 3) || eqS s zeroS) && countT k s l.length && plainL k l && (decide (k ≠ 5) || ascF l)
def plainL (k : Int) : List T → Bool
 | [] => true
 | a :: r => fitsT a.kind k && plainT a && plainL k r
end
theorem canL_iff : ∀ {l : List T}, canL l ↔ ∀ t ∈ l, canT t
 | [] => by simp [canL]
 | t :: r => by simp [canL, @canL_iff r]
theorem plainL_iff {k : Int} : ∀ {l : List T}, plainL k l = true ↔ ∀ t ∈ l, fitsT t.kind k = true ∧ plainT t = true
 | [] => by simp [plainL]
 | t :: r => by simp [plainL, @plainL_iff k r]
def good (t : T) : Prop := canT t ∧ plainT t = true
theorem good_node {k : Int} {s : Nat → Bool} {l : List T} : good (.node k s l) ↔ canS s ∧ (∀ t ∈ l, good t) ∧ (k = 3 ∨ eqS s zeroS = true) ∧ countT k s l.length = true ∧ (∀ t ∈ l, fitsT t.kind k = true) ∧ (k = 5 → ascF l = true) := by
 unfold good
 simp only [canT, plainT, canL_iff, Bool.and_eq_true, Bool.or_eq_true, decide_eq_true_eq, plainL_iff]
 constructor
 ·rintro ⟨⟨h1, h2⟩, ⟨⟨h3, h4⟩, h5⟩, h6⟩
  exact ⟨h1, fun t ht => ⟨h2 t ht, (h5 t ht).2⟩, h3, h4, fun t ht => (h5 t ht).1, fun h => by rcases h6 with h6 | h6; exact absurd h h6; exact h6⟩
 ·rintro ⟨h1, h2, h3, h4, h5, h6⟩
  refine ⟨⟨h1, fun t ht => (h2 t ht).1⟩, ⟨⟨h3, h4⟩, fun t ht => ⟨h5 t ht, (h2 t ht).2⟩⟩, ?_⟩
  by_cases h : k = 5
  ·exact .inr (h6 h)
  ·exact .inl h
theorem can_zero : canS zeroS := fun _ _ => rfl
/-! ### rising lists -/
theorem cmpL_at : ∀ (l m : List T) (j : Nat) (a b : T), (∀ (i : Nat) (x y : T), i < j → l[i]? = some x → m[i]? = some y → cmpT x y = 0) → l[j]? = some a → m[j]? = some b → cmpT a b ≠ 0 → cmpL l m = cmpT a b
 | [], _, j, a, b, _, ha, _, _ => by simp at ha
 | _ :: _, [], j, a, b, _, _, hb, _ => by simp at hb
 | x :: r, y :: s, 0, a, b, _, ha, hb, hne => by
  simp at ha hb
  subst ha
  subst hb
  simp only [cmpL]
  rw [if_neg hne]
 | x :: r, y :: s, j + 1, a, b, h, ha, hb, hne => by
  have h0 := h 0 x y (by omega) rfl rfl
  simp only [cmpL]
  rw [if_pos h0]
  exact cmpL_at r s j a b (fun i p q hi hp hq => h (i + 1) p q (by omega) (by simpa using hp) (by simpa using hq)) (by simpa using ha) (by simpa using hb) hne
theorem cmpL_end : ∀ (l m : List T), (∀ (i : Nat) (x y : T), l[i]? = some x → m[i]? = some y → cmpT x y = 0) → cmpL l m = if l.length < m.length then -1 else if m.length < l.length then 1 else 0
 | [], [], _ => rfl
 | [], _ :: _, _ => by simp [cmpL]
 | _ :: _, [], _ => by simp [cmpL]
 | x :: r, y :: s, h => by
  have h0 := h 0 x y rfl rfl
  have ih := cmpL_end r s fun i p q hp hq => h (i + 1) p q (by simpa using hp) (by simpa using hq)
  simp only [cmpL]
  rw [if_pos h0, ih]
  simp only [List.length_cons, Nat.add_lt_add_iff_right]
theorem good_set {s : Nat → Bool} (hc : canS s) (hs : eqS s zeroS = false) : good (.node 3 s []) :=
 good_node.2 ⟨hc, by simp, .inl rfl, by simp [countT, hs], by simp, by simp⟩
structure Pk (w : World) (g : Nat) (V : Value) (ps : List UInt8) (n : Nat) : Prop where
 blk : Blk w g 74 [V, .int .i64 (n : Int)]
 row : RowB g w V (bvs ps)
 le : n ≤ ps.length
 few : ps.length ≤ 1048576
theorem grown_belowG {w w' : World} {g : Nat} (h : w.grownBy w' (some g)) (hg : g < w.heap.size) : Below g w w' :=
 ⟨h.os, h.tape, h.output, h.size, fun k hk => h.block k (by omega) (fun e => by have := Option.some.inj e; omega)⟩
theorem Pk.grown {w w' : World} {g : Nat} {V : Value} {ps : List UInt8} {n n' : Nat} (h : Pk w g V ps n) (hg : w.grownBy w' (some g)) (hb : Blk w' g 74 [V, .int .i64 (n' : Int)]) (hn : n' ≤ ps.length) : Pk w' g V ps n' :=
 ⟨hb, h.row.below (grown_belowG hg h.blk.lt), hn, h.few⟩
theorem Pk.below {w w' : World} {g : Nat} {V : Value} {ps : List UInt8} {n : Nat} (h : Pk w g V ps n) (hb : Below w.heap.size w w') : Pk w' g V ps n :=
 ⟨h.blk.below hb h.blk.lt, h.row.below (hb.mono (Nat.le_of_lt h.blk.lt)), h.le, h.few⟩
theorem Pk.other {w w' : World} {g : Nat} {V : Value} {ps : List UInt8} {n : Nat} (h : Pk w g V ps n) (k : Nat) (hk : ∀ i, i ≠ k → w'.heap[i]? = w.heap[i]?) (hg : g < k) (hbl : Below k w w') : Pk w' g V ps n :=
 ⟨(hk g (by omega)).trans h.blk, h.row.below (hbl.mono (by omega)), h.le, h.few⟩
def listS (l : List Nat) : Nat → Bool := fun x => decide (x ∈ l)
theorem can_list {l : List Nat} (h : ∀ x ∈ l, x < 256) : canS (listS l) := fun x hx => by
 unfold listS
 exact decide_eq_false fun hm => by have := h x hm; omega
theorem refOfQ (v : Value) (l : List UInt8) (w : World) (hr : Row w v (bvs l)) (hl : l.length ≤ 1048576) (q : Nat → Bool) (hq : wds (fun b => decide (UInt8.ofNat b ∈ l)) = wds q) :
  Calls Try.prog 33 #[v] w fun e w' => e = .returned (.agg (wds q).toArray) ∧ Below w.heap.size w w' := by
 rw [← hq]
 exact refOf_any v l w hr hl
theorem ofNat_inj {b c : Nat} (hb : b < 256) (hc : c < 256) : UInt8.ofNat b = UInt8.ofNat c ↔ b = c := by
 constructor
 ·intro he
  have h1 := congrArg UInt8.toNat he
  rw [UInt8.toNat_ofNat', UInt8.toNat_ofNat', Nat.mod_eq_of_lt hc, Nat.mod_eq_of_lt hb] at h1
  exact h1
 ·intro h
  rw [h]
theorem wds_list1 {c : Nat} (hc : c < 256) (l : List UInt8) (hl : l = [UInt8.ofNat c]) (q : Nat → Bool) (hq : q = listS [c]) : wds (fun b => decide (UInt8.ofNat b ∈ l)) = wds q := by
 refine wds_congr fun b hb => ?_
 rw [hq]
 unfold listS
 rw [Bool.eq_iff_iff, decide_eq_true_iff, decide_eq_true_iff, hl, List.mem_singleton, List.mem_singleton]
 exact ofNat_inj hb hc
theorem refOf1 (c : Nat) (hc : c < 256) (v : Value) (w : World) (hr : Row w v (bvs [UInt8.ofNat c])) (q : Nat → Bool) (hq : q = listS [c]) :
  Calls Try.prog 33 #[v] w fun e w' => e = .returned (.agg (wds q).toArray) ∧ Below w.heap.size w w' := by
 obtain ⟨l, hl⟩ : ∃ l, l = [UInt8.ofNat c] := ⟨_, rfl⟩
 rw [← hl] at hr
 exact refOfQ v l w hr (by rw [hl, List.length_singleton]; omega) q (wds_list1 hc l hl q hq)
theorem good_none : good noneT := good_node.2 ⟨can_zero, by simp, .inr rfl, by simp [countT], by simp, by simp⟩
theorem good_bytes {s : Nat → Bool} (h : canS s) : good (bytesT s) := by
 unfold bytesT
 cases hs : eqS s zeroS with
 | true => exact good_none
 | false => exact good_set h hs
inductive StarL (P : List UInt8 → Prop) : List UInt8 → Prop
 | nil : StarL P []
 | app {u v : List UInt8} : P u → StarL P v → StarL P (u ++ v)
mutual
def Lg : T → List UInt8 → Prop
 | .node k s l, w => if k = 2 then w = [] else if k = 3 then ∃ b : UInt8, w = [b] ∧ s b.toNat = true else if k = 4 then LgC l w else if k = 5 then LgA l w else if k = 6 then StarL (LgO l) w else False
def LgC : List T → List UInt8 → Prop
 | [], w => w = []
 | t :: r, w => ∃ u v, w = u ++ v ∧ Lg t u ∧ LgC r v
def LgA : List T → List UInt8 → Prop
 | [], _ => False
 | t :: r, w => Lg t w ∨ LgA r w
def LgO : List T → List UInt8 → Prop
 | [], _ => False
 | t :: r, w => r.length = 0 ∧ Lg t w
end
theorem lg_set {s : Nat → Bool} {l : List T} {w : List UInt8} : Lg (.node 3 s l) w ↔ ∃ b : UInt8, w = [b] ∧ s b.toNat = true := by
 rw [Lg, if_neg (by omega), if_pos rfl]
theorem lg_cat {s : Nat → Bool} {l : List T} {w : List UInt8} : Lg (.node 4 s l) w ↔ LgC l w := by
 rw [Lg, if_neg (by omega), if_neg (by omega), if_pos rfl]
theorem lg_alt {s : Nat → Bool} {l : List T} {w : List UInt8} : Lg (.node 5 s l) w ↔ LgA l w := by
 rw [Lg, if_neg (by omega), if_neg (by omega), if_neg (by omega), if_pos rfl]
theorem lg_star {s : Nat → Bool} {l : List T} {w : List UInt8} : Lg (.node 6 s l) w ↔ StarL (LgO l) w := by
 rw [Lg, if_neg (by omega), if_neg (by omega), if_neg (by omega), if_neg (by omega), if_pos rfl]
theorem lg_k1 {t : T} (h : t.kind = 1) (w : List UInt8) : ¬ Lg t w := by
 cases t with
 | node k s l =>
  have hk : k = 1 := h
  subst hk
  rw [Lg]
  simp
theorem lg_k2 {t : T} (h : t.kind = 2) (w : List UInt8) : Lg t w ↔ w = [] := by
 cases t with
 | node k s l =>
  have hk : k = 2 := h
  subst hk
  rw [Lg, if_pos rfl]
theorem lg_k3 {t : T} (h : t.kind = 3) (w : List UInt8) : Lg t w ↔ ∃ b : UInt8, w = [b] ∧ t.set b.toNat = true := by
 cases t with
 | node k s l =>
  have hk : k = 3 := h
  subst hk
  exact lg_set
/-! ### sequences -/
theorem lgC_one (t : T) (w : List UInt8) : LgC [t] w ↔ Lg t w := by
 simp only [LgC]
 constructor
 ·rintro ⟨u, v, rfl, h, rfl⟩; rw [List.append_nil]; exact h
 ·intro h; exact ⟨w, [], by simp, h, rfl⟩
/-! ### alternatives -/
/-! ### stars -/
theorem lg_bytes (s : Nat → Bool) (w : List UInt8) : Lg (bytesT s) w ↔ ∃ b : UInt8, w = [b] ∧ s b.toNat = true := by
 unfold bytesT
 split
 ·rename_i h
  constructor
  ·intro hw; exact absurd hw (lg_k1 (t := noneT) rfl w)
  ·rintro ⟨b, rfl, hb⟩
   have := (eqS_iff _ _).1 h b.toNat b.toNat_lt
   rw [hb] at this
   cases this
 ·exact lg_set
structure St where
 set : Nat → Bool
 to : Int
 free : List Int
structure MayN (S : List St) (a z : Int) : Prop where
 few : S.length ≤ 2000
 a0 : 0 ≤ a
 a1 : a < (S.length : Int)
 z0 : 0 ≤ z
 z1 : z < (S.length : Int)
 to : ∀ s ∈ S, s.to < (S.length : Int)
 free8 : ∀ s ∈ S, s.free.length ≤ 8
 free : ∀ s ∈ S, ∀ f ∈ s.free, 0 ≤ f ∧ f < (S.length : Int)
inductive Rc (S : List St) (P : Nat → Prop) : Nat → Prop
 | base {i : Nat} : P i → i < S.length → Rc S P i
 | go {i j : Nat} {s : St} : Rc S P i → S[i]? = some s → (j : Int) ∈ s.free → j < S.length → Rc S P j
theorem Rc.lt {S : List St} {P : Nat → Prop} {i : Nat} (h : Rc S P i) : i < S.length := by
 cases h with
 | base _ h => exact h
 | go _ _ _ h => exact h
theorem Rc.mono {S : List St} {P Q : Nat → Prop} {i : Nat} (h : Rc S P i) (hPQ : ∀ i, P i → Q i) : Rc S Q i := by
 induction h with
 | base h1 h2 => exact .base (hPQ _ h1) h2
 | go _ h2 h3 h4 ih => exact .go ih h2 h3 h4
theorem Rc.twice {S : List St} {P : Nat → Prop} {i : Nat} (h : Rc S (Rc S P) i) : Rc S P i := by
 induction h with
 | base h1 h2 => exact h1
 | go _ h2 h3 h4 ih => exact .go ih h2 h3 h4
theorem Rc.iff_self {S : List St} {P : Nat → Prop} {i : Nat} : Rc S (Rc S P) i ↔ Rc S P i := ⟨Rc.twice, fun h => .base h h.lt⟩
theorem rc_congr {S : List St} {P Q : Nat → Prop} (h : ∀ i, i < S.length → (P i ↔ Q i)) (i : Nat) : Rc S P i ↔ Rc S Q i := by
 have key : ∀ {P Q : Nat → Prop}, (∀ i, i < S.length → (P i ↔ Q i)) → ∀ i, Rc S P i → Rc S Q i := fun h i hr => by
  induction hr with
  | base h1 h2 => exact .base ((h _ h2).1 h1) h2
  | go _ h2 h3 h4 ih => exact .go ih h2 h3 h4
 exact ⟨key h i, key (fun i hi => (h i hi).symm) i⟩
theorem rc_is {S : List St} {P : Nat → Prop} {t : Nat → Bool} (h1 : ∀ i, i < S.length → P i → t i = true)
  (h2 : ∀ i s, S[i]? = some s → t i = true → ∀ j : Nat, (j : Int) ∈ s.free → t j = true) (h3 : ∀ i, i < S.length → t i = true → Rc S P i) (i : Nat) (hi : i < S.length) : t i = true ↔ Rc S P i := by
 refine ⟨h3 i hi, fun h => ?_⟩
 clear h3 hi
 induction h with
 | base a b => exact h1 _ b a
 | go _ b c _ ih => exact h2 _ _ b ih _ c
noncomputable def rcB (S : List St) (P : Nat → Prop) (i : Nat) : Bool := @decide (Rc S P i) (Classical.propDecidable _)
theorem rcB_iff {S : List St} {P : Nat → Prop} {i : Nat} : rcB S P i = true ↔ Rc S P i := by
 unfold rcB
 exact @decide_eq_true_iff _ (Classical.propDecidable _)
/-! ### rising lists of states -/
def risJ (t : Nat → Bool) (n : Nat) : List Int := ((List.range n).filter t).map fun i : Nat => (i : Int)
theorem risJ_succ (t : Nat → Bool) (n : Nat) : risJ t (n + 1) = if t n then risJ t n ++ [(n : Int)] else risJ t n := by
 unfold risJ
 rw [List.range_succ, List.filter_append, List.map_append]
 cases h : t n <;> simp [h]
theorem risJ_congr {t u : Nat → Bool} {n : Nat} (h : ∀ i, i < n → t i = u i) : risJ t n = risJ u n := by
 unfold risJ
 rw [List.filter_congr fun i hi => h i (List.mem_range.1 hi)]
theorem risJ_mem {t : Nat → Bool} {n : Nat} {x : Int} : x ∈ risJ t n ↔ ∃ i : Nat, x = (i : Int) ∧ i < n ∧ t i = true := by
 unfold risJ
 rw [List.mem_map]
 constructor
 ·rintro ⟨i, hi, rfl⟩
  have := List.mem_filter.1 hi
  exact ⟨i, rfl, List.mem_range.1 this.1, this.2⟩
 ·rintro ⟨i, rfl, h1, h2⟩
  exact ⟨i, List.mem_filter.2 ⟨List.mem_range.2 h1, h2⟩, rfl⟩
theorem risJ_len (t : Nat → Bool) (n : Nat) : (risJ t n).length ≤ n := by
 unfold risJ
 rw [List.length_map]
 have := List.length_filter_le t (List.range n)
 rwa [List.length_range] at this
theorem risJ_rise (t : Nat → Bool) (n : Nat) : (risJ t n).Pairwise (· < ·) := by
 unfold risJ
 rw [List.pairwise_map]
 exact (List.pairwise_lt_range.filter t).imp fun h => by omega
def ofL (l : List Int) (i : Nat) : Prop := (i : Int) ∈ l
noncomputable def clsN (S : List St) (l : List Int) : List Int := risJ (rcB S (ofL l)) S.length
theorem clsN_mem {S : List St} {l : List Int} {i : Nat} : (i : Int) ∈ clsN S l ↔ Rc S (ofL l) i := by
 unfold clsN
 rw [risJ_mem]
 constructor
 ·rintro ⟨j, hj, _, h⟩
  have : i = j := by omega
  subst this
  exact rcB_iff.1 h
 ·intro h
  exact ⟨i, rfl, h.lt, rcB_iff.2 h⟩
theorem clsN_congr {S : List St} {l m : List Int} (h : ∀ i : Nat, i < S.length → ((i : Int) ∈ l ↔ (i : Int) ∈ m)) : clsN S l = clsN S m := by
 unfold clsN
 refine risJ_congr fun i _ => ?_
 rw [Bool.eq_iff_iff, rcB_iff, rcB_iff]
 exact rc_congr h i
theorem clsN_twice (S : List St) (l : List Int) : clsN S (clsN S l) = clsN S l := by
 unfold clsN
 refine risJ_congr fun i _ => ?_
 rw [Bool.eq_iff_iff, rcB_iff, rcB_iff]
 rw [← Rc.iff_self (P := ofL l)]
 exact rc_congr (fun i _ => clsN_mem) i
def goN (S : List St) (l : List Int) (b : Nat) : List Int := l.filterMap fun x => if 0 ≤ x then (S[x.toNat]?).bind fun s => if 0 ≤ s.to ∧ s.set b = true then some s.to else none else none
noncomputable def stpN (S : List St) (l : List Int) (b : Nat) : List Int := clsN S (goN S l b)
theorem goN_mem {S : List St} {l : List Int} {b : Nat} {x : Int} : x ∈ goN S l b ↔ ∃ (i : Nat) (s : St), (i : Int) ∈ l ∧ S[i]? = some s ∧ 0 ≤ s.to ∧ s.set b = true ∧ x = s.to := by
 unfold goN
 rw [List.mem_filterMap]
 constructor
 ·rintro ⟨y, hy, h⟩
  by_cases h0 : 0 ≤ y
  ·rw [if_pos h0] at h
   cases hs : S[y.toNat]? with
   | none => rw [hs] at h; cases h
   | some s =>
    rw [hs] at h
    have h : (if 0 ≤ s.to ∧ s.set b = true then some s.to else none) = some x := h
    by_cases hc : 0 ≤ s.to ∧ s.set b = true
    ·rw [if_pos hc] at h
     injection h with h
     exact ⟨y.toNat, s, by rwa [Int.toNat_of_nonneg h0], hs, hc.1, hc.2, h.symm⟩
    ·rw [if_neg hc] at h; cases h
  ·rw [if_neg h0] at h; cases h
 ·rintro ⟨i, s, h1, h2, h3, h4, rfl⟩
  refine ⟨(i : Int), h1, ?_⟩
  rw [if_pos (by omega), Int.toNat_natCast, h2]
  show (if 0 ≤ s.to ∧ s.set b = true then some s.to else none) = some s.to
  rw [if_pos ⟨h3, h4⟩]
noncomputable def behN (S : List St) : List Int → List UInt8 → List Int
 | l, [] => l
 | l, b :: w => behN S (stpN S l b.toNat) w
theorem behN_app (S : List St) : ∀ (u : List UInt8) (l : List Int) (v : List UInt8), behN S l (u ++ v) = behN S (behN S l u) v
 | [], l, v => rfl
 | b :: u, l, v => behN_app S u (stpN S l b.toNat) v
/-! ### ways -/
inductive Way (S : List St) : Nat → List UInt8 → Nat → Prop
 | here {i : Nat} : i < S.length → Way S i [] i
 | free {i j k : Nat} {s : St} {w : List UInt8} : S[i]? = some s → (j : Int) ∈ s.free → Way S j w k → Way S i w k
 | byte {i j k : Nat} {s : St} {b : UInt8} {w : List UInt8} : S[i]? = some s → s.set b.toNat = true → s.to = (j : Int) → Way S j w k → Way S i (b :: w) k
theorem Way.lt {S : List St} {i k : Nat} {w : List UInt8} (h : Way S i w k) : i < S.length := by
 cases h with
 | here h => exact h
 | free h _ _ => exact (List.getElem?_eq_some_iff.1 h).1
 | byte h _ _ _ => exact (List.getElem?_eq_some_iff.1 h).1
theorem Way.lt2 {S : List St} {i k : Nat} {w : List UInt8} (h : Way S i w k) : k < S.length := by
 induction h with
 | here h => exact h
 | free _ _ _ ih => exact ih
 | byte _ _ _ _ ih => exact ih
theorem Way.app {S : List St} {i j k : Nat} {u v : List UInt8} (h : Way S i u j) (h2 : Way S j v k) : Way S i (u ++ v) k := by
 induction h with
 | here _ => exact h2
 | free a b _ ih => exact .free a b (ih h2)
 | byte a b c _ ih => exact .byte a b c (ih h2)
theorem way_rc {S : List St} {P : Nat → Prop} {k : Nat} (h : Rc S P k) : ∃ i, P i ∧ Way S i [] k := by
 induction h with
 | base a b => exact ⟨_, a, .here b⟩
 | @go i j s a b c d ih =>
  obtain ⟨x, hx, hw⟩ := ih
  have h2 : Way S i [] j := .free b c (.here d)
  have := hw.app h2
  exact ⟨x, hx, this⟩
theorem rc_way {S : List St} {P : Nat → Prop} {i k : Nat} {w : List UInt8} (h : Way S i w k) (hw : w = []) (hi : Rc S P i) : Rc S P k := by
 induction h with
 | here _ => exact hi
 | free a b c ih => exact ih hw (.go hi a b c.lt)
 | byte _ _ _ _ _ => cases hw
theorem beh_way (S : List St) : ∀ (w : List UInt8) (l : List Int) (k : Nat), ((k : Int) ∈ behN S (clsN S l) w ↔ ∃ i : Nat, (i : Int) ∈ l ∧ Way S i w k)
 | [], l, k => by
  show (k : Int) ∈ clsN S l ↔ _
  rw [clsN_mem]
  constructor
  ·intro h; exact way_rc h
  ·rintro ⟨i, hi, hw⟩; exact rc_way hw rfl (.base hi hw.lt)
 | b :: w, l, k => by
  show (k : Int) ∈ behN S (clsN S (goN S (clsN S l) b.toNat)) w ↔ _
  rw [beh_way S w]
  constructor
  ·rintro ⟨j, hj, hw⟩
   obtain ⟨i, s, h1, h2, h3, h4, h5⟩ := goN_mem.1 hj
   obtain ⟨x, hx, hxw⟩ := way_rc (clsN_mem.1 h1)
   have h6 : Way S i (b :: w) k := .byte h2 h4 h5.symm hw
   exact ⟨x, hx, hxw.app h6⟩
  ·rintro ⟨i, hi, hw⟩
   have key : ∀ {i : Nat} {x : List UInt8} {k : Nat}, Way S i x k → ∀ (b : UInt8) (w : List UInt8), x = b :: w → Rc S (ofL l) i → ∃ (i' : Nat) (s : St) (j : Nat), Rc S (ofL l) i' ∧ S[i']? = some s ∧ s.set b.toNat = true ∧ s.to = (j : Int) ∧ Way S j w k := by
    intro i x k h
    induction h with
    | here _ => intro b w e; cases e
    | free a c d ih => intro b w e hr; exact ih b w e (.go hr a c d.lt)
    | byte a c d e _ => intro b w he hr; injection he with h1 h2; subst h1 h2; exact ⟨_, _, _, hr, a, c, d, e⟩
   obtain ⟨i', s, j, h1, h2, h3, h4, h5⟩ := key hw b w rfl (.base hi hw.lt)
   exact ⟨j, goN_mem.2 ⟨i', s, clsN_mem.2 h1, h2, by rw [h4]; omega, h3, h4.symm⟩, h5⟩
noncomputable def runN (S : List St) (a z : Int) (w : List UInt8) : Bool := @decide (z ∈ behN S (clsN S [a]) w) (Classical.propDecidable _)
theorem runN_iff {S : List St} {a z : Nat} {w : List UInt8} : runN S (a : Int) (z : Int) w = true ↔ Way S a w z := by
 have h1 : runN S (a : Int) (z : Int) w = true ↔ ((z : Int) ∈ behN S (clsN S [(a : Int)]) w) := by
  unfold runN
  exact @decide_eq_true_iff _ (Classical.propDecidable _)
 rw [h1, beh_way]
 constructor
 ·rintro ⟨i, hi, hw⟩
  have : i = a := by have := List.mem_singleton.1 hi; omega
  subst this
  exact hw
 ·intro h; exact ⟨a, by simp, h⟩
section
variable {P : Program} {ops : Array Oper} {Q : Exit → Act → World → Prop} {md : Region.Mode} {S : World → Prop}
theorem sg_take {i : Nat} {oi : Oper} {v : Value} {fuel : Nat} {listed : Array Bool} {a : Act} {w : World} (hi : ops[i]? = some oi)
  (hs : Region.noSelect ops = true) (hf : Region.free md ops listed i = true) (hr : (Region.ready md ops listed).contains i = true)
  (hQ : ∀ c a w, Q (.panic c) (a.put oi.dst v) w → Q (.panic c) a w) (hw : Region.wanted oi (yielded ops a.tmps) = true) (hS : S w)
  (hy : ∀ W, S W → (execOp a.eval oi).run P W = .ok (.value v) W)
  (h : wpAnyH P md ops Q S fuel (listed.setIfInBounds i true) (a.put oi.dst v) w) : wpAnyH P md ops Q S (fuel + 1) listed a w :=
 wpAnyH_take hi hs hf hr hQ (.inl ⟨hw, hy⟩) hS h
theorem sg_actB {i : Nat} {o : Oper} {fuel : Nat} {listed : Array Bool} {a : Act} {w : World} (hi : ops[i]? = some o) (hr : Region.ready md ops listed = [i])
  (hw : Region.wanted o (yielded ops a.tmps) = true) (hS : S w)
  (h : ∀ K : Act → World → Prop, (∀ a' w', S w' → wpAnyH P md ops Q S fuel (listed.setIfInBounds i true) a' w' → K a' w') → o.wp P a w K Q) :
  wpAnyH P md ops Q S (fuel + 1) listed a w := by
 refine wpAnyH_all hr (by simp) (fun j hj => ?_)
 have hji : j = i := by simpa using hj
 subst hji
 unfold wpOp
 rw [hi]
 simp only [hw, if_true]
 exact .inl (h _ fun a' w' hx hk => ⟨hx, hk⟩)
theorem sg_start {id : Nat} {a : Act} {w : World} (S : World → Prop) (hm : P.follows .mixedOrders = true) (hS : S w.drew)
  (h : ∀ wd, wd = w.drew → wpAnyH P .any ops Q S ops.size (Array.replicate ops.size false) a wd) : (Code.region id ops true).wp P Q a w :=
 wp_region_held_drew hm hS (fun _ => h _ rfl)
end
section
variable {P : Program} {ops : Array Oper} {Q : Exit → Act → World → Prop} {md : Region.Mode} {S : World → Prop}
theorem sg_two {i j : Nat} {oi oj : Oper} {fuel : Nat} {listed : Array Bool} {a : Act} {w : World} (hi : ops[i]? = some oi) (hj : ops[j]? = some oj) (hr : Region.ready md ops listed = [i, j])
  (hwi : Region.wanted oi (yielded ops a.tmps) = true) (hwj : Region.wanted oj (yielded ops a.tmps) = true) (hS : S w)
  (h1 : ∀ K : Act → World → Prop, (∀ a' w', S w' → wpAnyH P md ops Q S fuel (listed.setIfInBounds i true) a' w' → K a' w') → oi.wp P a w K Q)
  (h2 : ∀ K : Act → World → Prop, (∀ a' w', S w' → wpAnyH P md ops Q S fuel (listed.setIfInBounds j true) a' w' → K a' w') → oj.wp P a w K Q) :
  wpAnyH P md ops Q S (fuel + 1) listed a w := by
 refine wpAnyH_all hr (by simp) (fun k hk => ?_)
 have hk2 : k = i ∨ k = j := by simpa using hk
 unfold wpOp
 rcases hk2 with rfl | rfl
 ·rw [hi]
  simp only [hwi, if_true]
  exact .inl (h1 _ fun a' w' hx hk => ⟨hx, hk⟩)
 ·rw [hj]
  simp only [hwj, if_true]
  exact .inl (h2 _ fun a' w' hx hk => ⟨hx, hk⟩)
end
def stc (s : St) (v : Value) : List Value := wds s.set ++ [.int .i64 s.to, v]
theorem stc_len (s : St) (v : Value) : (stc s v).length = 6 := rfl
theorem stc_one (s : St) (A : Option Addr) (n c : Nat) : (stc s (.slice A n c)).all (·.oneCell') = true := rfl
def NfaV (w : World) (cs : List Value) (S : List St) (a z : Int) : Prop :=
 ∃ (A : Option Addr) (cap : Nat) (vf : Nat → Value), cs = [.slice A S.length cap, .int .i64 a, .int .i64 z] ∧ S.length ≤ cap ∧ cap ≤ maxLen ∧ (A = none → cap = 0) ∧
  (S ≠ [] → ∃ b off, A = some ⟨b, off, none⟩ ∧ b < w.heap.size ∧ ∀ i s, S[i]? = some s → w.rangeAt b (off + i * 6) (stc s (vf i))) ∧
  ∀ i s, S[i]? = some s → Row w (vf i) (ints s.free)
theorem NfaV.length {w : World} {cs : List Value} {S : List St} {a z : Int} (h : NfaV w cs S a z) : cs.length = 3 := by
 obtain ⟨_, _, _, rfl, _⟩ := h
 rfl
theorem NfaV.one {w : World} {cs : List Value} {S : List St} {a z : Int} (h : NfaV w cs S a z) : cs.all (·.oneCell') = true := by
 obtain ⟨_, _, _, rfl, _⟩ := h
 rfl
theorem NfaV.below {w w' : World} {cs : List Value} {S : List St} {a z : Int} (h : NfaV w cs S a z) (hb : Below w.heap.size w w') : NfaV w' cs S a z := by
 obtain ⟨A, cap, vf, h1, h2, h3, h0, h4, h5⟩ := h
 refine ⟨A, cap, vf, h1, h2, h3, h0, fun hne => ?_, fun i s hs => (h5 i s hs).below hb⟩
 obtain ⟨b, off, hA, hlt, hr⟩ := h4 hne
 exact ⟨b, off, hA, Nat.lt_of_lt_of_le hlt hb.size, fun i s hs => range_below (hr i s hs) hb hlt⟩
theorem NfaV.at_ {w : World} {A : Option Addr} {cap n : Nat} {a z : Int} {S : List St} (h : NfaV w [.slice A n cap, .int .i64 a, .int .i64 z] S a z) {i : Nat} {s : St} (hs : S[i]? = some s) :
  ∃ b off, A = some ⟨b, off, none⟩ ∧ b < w.heap.size ∧ w.rangeAt b (off + i * 6) (wds s.set) ∧ w.cell? ⟨b, off + i * 6 + 4, none⟩ = some (.int .i64 s.to) ∧
   ∃ Af cf, w.cell? ⟨b, off + i * 6 + 5, none⟩ = some (.slice Af s.free.length cf) ∧ Row w (.slice Af s.free.length cf) (ints s.free) := by
 obtain ⟨A', cap', vf, he, h2, h3, h0, h4, h5⟩ := h
 injection he with he _
 injection he with hA hn hc
 subst hA
 obtain ⟨b, off, rfl, hlt, hr⟩ := h4 (by rintro rfl; simp at hs)
 have h6 := hr i s hs
 have h7 := h5 i s hs
 refine ⟨b, off, rfl, hlt, fun j v hv => ?_, h6 4 _ rfl, ?_⟩
 ·have hj : j < 4 := by have := (List.getElem?_eq_some_iff.1 hv).1; rwa [wds_length] at this
  refine h6 j v ?_
  unfold stc
  rw [List.getElem?_append_left (by rw [wds_length]; exact hj)]
  exact hv
 ·obtain ⟨Af, cf, hvf, _⟩ := h7
  have hl : (ints s.free).length = s.free.length := nums_length _ _
  rw [hl] at hvf
  exact ⟨Af, cf, by rw [← hvf]; exact h6 5 _ rfl, by rw [← hvf]; exact h5 i s hs⟩
theorem NfaV.whole {w : World} {A : Option Addr} {cap n : Nat} {a z : Int} {S : List St} (h : NfaV w [.slice A n cap, .int .i64 a, .int .i64 z] S a z) {i : Nat} {s : St} (hs : S[i]? = some s) :
  ∃ b off Af cf, A = some ⟨b, off, none⟩ ∧ b < w.heap.size ∧ w.rangeAt b (off + i * 6) (stc s (.slice Af s.free.length cf)) ∧ Row w (.slice Af s.free.length cf) (ints s.free) := by
 obtain ⟨A', cap', vf, he, h2, h3, h0, h4, h5⟩ := h
 injection he with he _
 injection he with hA hn hc
 subst hA
 obtain ⟨b, off, rfl, hlt, hr⟩ := h4 (by rintro rfl; simp at hs)
 obtain ⟨Af, cf, hvf, _⟩ := h5 i s hs
 have hl : (ints s.free).length = s.free.length := nums_length _ _
 rw [hl] at hvf
 exact ⟨b, off, Af, cf, rfl, hlt, by rw [← hvf]; exact hr i s hs, by rw [← hvf]; exact h5 i s hs⟩
theorem NfaV.len {w : World} {cs : List Value} {S : List St} {a z : Int} (h : NfaV w cs S a z) : ∃ A cap, cs = [.slice A S.length cap, .int .i64 a, .int .i64 z] ∧ S.length ≤ cap ∧ cap ≤ maxLen ∧ (A = none → cap = 0) := by
 obtain ⟨A, cap, _, h1, h2, h3, h0, _⟩ := h
 exact ⟨A, cap, h1, h2, h3, h0⟩
def canonS (p : Nat → Bool) : Nat → Bool := fun b => decide (b < 256) && p b
theorem canon_wds (p : Nat → Bool) : wds (canonS p) = wds p := wds_congr fun b hb => by
 unfold canonS
 rw [decide_eq_true hb]
 rfl
theorem open_free {H : Type} {enc : TypeId × Value → H} {W : World} {m : Nat} {c : Value} {y : DataW H × List MemPlace}
  (h : DataW.trod enc Try.prog W 0 (fun _ => true) true m 25 [c] = some y) : ∃ l : List Int, Row W c (nums .i64 l) := by
 rcases Deep.open_slice Try.underlying25 h with ⟨he, _⟩ | ⟨a, len, cap, m2, n2, D, Pl, he, _⟩
 ·have hc : c = .slice none 0 0 := by simpa using he
  exact ⟨[], by rw [hc]; exact Row.nil W⟩
 ·have hc : c = .slice (some a) len cap := by simpa using he
  subst hc
  obtain ⟨l, _, hl⟩ := open_nums (P := Try.prog) (t := 25) (e := 3) (k := .i64) Try.underlying25 Try.underlying3 (by kernel_rfl) (enc := enc) (W := W) (d := y.1) (p := y.2) ⟨m, h⟩
  exact ⟨l, hl⟩
set_option maxRecDepth 100000 in
theorem open_nst {H : Type} {enc : TypeId × Value → H} {W : World} {fuel : Nat} {cs : List Value} {d : DataW H} {p : List MemPlace}
  (h : DataW.trod enc Try.prog W 0 (fun _ => true) true fuel 61 cs = some (d, p)) : ∃ (s : St) (v : Value), cs = stc s v ∧ Row W v (nums .i64 s.free) := by
 obtain ⟨y0, y1, y2, m, hx, hl, h0, h1, h2⟩ := Deep.trod_struct3 Try.underlying61 h
 have hl6 : cs.length = 6 := by rw [hl]; kernel_rfl
 match cs, hl6 with
 | [c0, c1, c2, c3, c4, c5], _ =>
  have h0' : DataW.trod enc Try.prog W 0 (fun _ => true) true m 37 [c0, c1, c2, c3] = some y0 := h0
  have h1' : DataW.trod enc Try.prog W 0 (fun _ => true) true m 3 [c4] = some y1 := h1
  have h2' : DataW.trod enc Try.prog W 0 (fun _ => true) true m 25 [c5] = some y2 := h2
  obtain ⟨k, hk, _, _⟩ := DataW.trod_int Try.underlying3 h1'
  obtain ⟨s, hs⟩ := set_of_trod Try.underlying37 Try.underlying35 (by kernel_rfl) (by kernel_rfl) h0'
  obtain ⟨l, hr⟩ := open_free h2'
  have hc4 : c4 = .int .i64 k := by simpa using hk
  refine ⟨⟨canonS s, k, l⟩, c5, ?_, hr⟩
  unfold stc
  rw [canon_wds, ← hs, hc4]
  rfl
set_option maxRecDepth 100000 in
theorem open_nfa {H : Type} {enc : TypeId × Value → H} {W : World} {v : Value} {d : DataW H} {p : List MemPlace} (h : DataW.Trod enc Try.prog W 0 (fun _ => true) true 24 v d p) :
  ∃ (S : List St) (a z : Int), NfaV W v.cells.toList S a z := by
 obtain ⟨fuel, h⟩ := h
 obtain ⟨cs, hcs⟩ : ∃ cs, cs = v.cells.toList := ⟨_, rfl⟩
 rw [← hcs] at h ⊢
 clear hcs
 obtain ⟨y0, y1, y2, m, hx, hl, h0, h1, h2⟩ := Deep.trod_struct3 Try.underlying24 h
 have hl3 : cs.length = 3 := by rw [hl]; kernel_rfl
 match cs, hl3 with
 | [c0, c1, c2], _ =>
  have h0' : DataW.trod enc Try.prog W 0 (fun _ => true) true m 22 [c0] = some y0 := h0
  have h1' : DataW.trod enc Try.prog W 0 (fun _ => true) true m 3 [c1] = some y1 := h1
  have h2' : DataW.trod enc Try.prog W 0 (fun _ => true) true m 3 [c2] = some y2 := h2
  obtain ⟨a, ha, _, _⟩ := DataW.trod_int Try.underlying3 h1'
  obtain ⟨z, hz, _, _⟩ := DataW.trod_int Try.underlying3 h2'
  have hc1 : c1 = .int .i64 a := by simpa using ha
  have hc2 : c2 = .int .i64 z := by simpa using hz
  rw [hc1, hc2]
  rcases Deep.open_slice Try.underlying22 h0' with ⟨he, _⟩ | ⟨ad, len, cap, m2, n2, D, Pl, he, _, hlc, hcm, hmm, hx2, hall⟩
  ·have hc0 : c0 = .slice none 0 0 := by simpa using he
   rw [hc0]
   exact ⟨[], a, z, none, 0, fun _ => .slice none 0 0, rfl, Nat.le_refl _, Nat.zero_le _, fun _ => rfl, fun h => absurd rfl h, fun i s h => by simp at h⟩
  ·have hc0 : c0 = .slice (some ad) len cap := by simpa using he
   rw [hc0]
   have hml : len ≤ m2 := by rw [hmm]; split <;> omega
   obtain ⟨b, off, spot⟩ := ad
   have hce : Try.prog.cellsOf 61 = 6 := by kernel_rfl
   rcases Nat.eq_zero_or_pos len with hz0 | hpos
   ·subst hz0
    exact ⟨[], a, z, _, cap, fun _ => .slice none 0 0, rfl, Nat.zero_le _, hcm, (fun h => by cases h), fun h => absurd rfl h, fun i s h => by simp at h⟩
   have hspot : spot = none := by
    obtain ⟨cs', g1, _⟩ := hall 0 (by omega)
    rw [hce] at g1
    obtain ⟨_, g2, g3⟩ := World.cells?_some g1
    have g4 := g3 0 (by omega)
    rw [List.getElem?_eq_getElem (by omega)] at g4
    simpa [Addr.add] using World.cell?_spot g4
   subst hspot
   have key : ∀ i, i < len → ∃ q : St × Value, W.rangeAt b (off + i * 6) (stc q.1 q.2) ∧ Row W q.2 (nums .i64 q.1.free) ∧ b < W.heap.size := by
    intro i hi
    obtain ⟨cs', g1, g2⟩ := hall i (by omega)
    obtain ⟨s, u, t1, t2⟩ := open_nst g2
    rw [hce, Addr.add_mid] at g1
    refine ⟨(s, u), ?_, t2, by have := World.cells?_block g1 (by omega); exact this⟩
    rw [← t1]
    exact (cells_range g1).2
   haveI : Inhabited (St × Value) := ⟨(⟨fun _ => false, 0, []⟩, .slice none 0 0)⟩
   obtain ⟨f, hf⟩ := Deep.choose_lt key
   have hll : ((List.range len).map fun i => (f i).1).length = len := by simp
   have hat : ∀ i s, ((List.range len).map fun i => (f i).1)[i]? = some s → i < len ∧ s = (f i).1 := fun i s hs => by
    have hi : i < len := by have := (List.getElem?_eq_some_iff.1 hs).1; simpa using this
    exact ⟨hi, by simpa [hi] using hs.symm⟩
   refine ⟨(List.range len).map fun i => (f i).1, a, z, some ⟨b, off, none⟩, cap, fun i => (f i).2, by rw [hll], by rw [hll]; exact hlc, hcm, (fun h => by cases h), fun _ => ⟨b, off, rfl, (hf 0 hpos).2.2, fun i s hs => ?_⟩, fun i s hs => ?_⟩
   ·obtain ⟨hi, rfl⟩ := hat i s hs
    exact (hf i hi).1
   ·obtain ⟨hi, rfl⟩ := hat i s hs
    exact (hf i hi).2.1
end Go.Proofs.Ytmcpfaaakmehdaa
