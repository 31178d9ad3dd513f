/-
  Texts of this proof, put together: (SetO) The line of sets of bytes: plain facts. No statement is proved here. (RxA) Facts of expressions as trees: their line, what is plain, what is made of plain ones. No statement is proved here. (RxN) What the document's answer to rx (Nodes, Depth) answers and leaves. No statement is proved here. (RxO) Rows of expressions of the call's own: how they lie, how they grow. No statement is proved here. (RxSb) Sets compared in guarded operations; structs in the midst of a block. No statement is proved here. (RxK) What the document's answer to rx (Copy) answers and leaves. No statement is proved here.
-/
import Derived.Test.YtopnpdobcagcgaaQB
import Derived.Test.YtopnpdobcagcgaaProg
namespace Go.Proofs.Ytopnpdobcagcgaa
open Go.RowKit
set_option linter.unusedSimpArgs false
set_option linter.unusedVariables false
theorem lessS_iff (p q : Nat → Bool) : lessS p q = true ↔ ∃ j, j < 256 ∧ (∀ b, b < j → p b = q b) ∧ p j = true ∧ q j = false := by
 constructor
 ·intro h
  unfold lessS at h
  cases hf : (List.range 256).find? fun b => p b != q b with
  | none => rw [hf] at h; cases h
  | some j =>
   rw [hf] at h
   obtain ⟨h1, h2, h3⟩ := List.find?_range_eq_some.1 hf
   have hp : p j = true := h
   refine ⟨j, List.mem_range.1 h2, fun b hb => by simpa using h3 b hb, hp, ?_⟩
   rw [hp] at h1
   simpa using h1
 ·rintro ⟨j, hj, h1, h2, h3⟩
  rw [lessS_at hj h1 (by rw [h2, h3]; decide)]
  exact h2
theorem lessS_trans {p q r : Nat → Bool} (h : lessS p q = true) (k : lessS q r = true) : lessS p r = true := by
 obtain ⟨i, hi, a1, a2, a3⟩ := (lessS_iff p q).1 h
 obtain ⟨j, hj, b1, b2, b3⟩ := (lessS_iff q r).1 k
 rcases Nat.lt_trichotomy i j with hl | rfl | hl
 ·exact (lessS_iff p r).2 ⟨i, hi, fun b hb => (a1 b hb).trans (b1 b (by omega)), a2, by rw [← b1 i hl]; exact a3⟩
 ·rw [a3] at b2; cases b2
 ·exact (lessS_iff p r).2 ⟨j, hj, fun b hb => (a1 b (by omega)).trans (b1 b hb), by rw [a1 j hl]; exact b2, b3⟩
theorem lessS_ne {p q : Nat → Bool} (h : lessS p q = true) : eqS p q = false := by
 obtain ⟨i, hi, a1, a2, a3⟩ := (lessS_iff p q).1 h
 rw [Bool.eq_false_iff]
 intro he
 have := (eqS_iff p q).1 he i hi
 rw [a2, a3] at this
 cases this
theorem lessS_not {p q : Nat → Bool} (h : lessS p q = false) : eqS p q = !lessS q p := by
 cases hk : lessS q p with
 | true =>
  obtain ⟨i, hi, a1, a2, a3⟩ := (lessS_iff q p).1 hk
  rw [Bool.not_true, Bool.eq_false_iff]
  intro he
  have := (eqS_iff p q).1 he i hi
  rw [a2, a3] at this
  cases this
 | false =>
  rw [Bool.not_false]
  refine (eqS_iff p q).2 ?_
  have : ∀ j, j ≤ 256 → ∀ b, b < j → p b = q b := by
   intro j
   induction j with
   | zero => intro _ b hb; omega
   | succ j ih =>
    intro hj b hb
    rcases Nat.lt_or_ge b j with h' | h'
    ·exact ih (by omega) b h'
    ·obtain rfl : b = j := by omega
     by_cases hne : p b = q b
     ·exact hne
     ·have e1 := lessS_at (p := p) (q := q) (by omega) (ih (by omega)) hne
      have e2 := lessS_at (p := q) (q := p) (by omega) (fun c hc => (ih (by omega) c hc).symm) (fun e => hne e.symm)
      rw [← e1, ← e2, h, hk]
  exact this 256 (Nat.le_refl _)
theorem lessS_irrefl (p : Nat → Bool) : lessS p p = false := lessS_none fun _ _ => rfl
theorem lessS_congr {p p' q q' : Nat → Bool} (h : ∀ b, b < 256 → p b = p' b) (k : ∀ b, b < 256 → q b = q' b) : lessS p q = lessS p' q' := by
 rw [Bool.eq_iff_iff, lessS_iff, lessS_iff]
 constructor
 ·rintro ⟨j, hj, h1, h2, h3⟩
  exact ⟨j, hj, fun b hb => by rw [← h b (by omega), ← k b (by omega)]; exact h1 b hb, by rw [← h j hj]; exact h2, by rw [← k j hj]; exact h3⟩
 ·rintro ⟨j, hj, h1, h2, h3⟩
  exact ⟨j, hj, fun b hb => by rw [h b (by omega), k b (by omega)]; exact h1 b hb, by rw [h j hj]; exact h2, by rw [k j hj]; exact h3⟩
end Go.Proofs.Ytopnpdobcagcgaa
namespace Go.Proofs.Ytopnpdobcagcgaa
open Go.RowKit
set_option linter.unusedSimpArgs false
set_option linter.unusedVariables false
/-! ### their line -/
theorem eqS_comm (p q : Nat → Bool) : eqS q p = eqS p q := by
 rw [Bool.eq_iff_iff, eqS_iff, eqS_iff]
 exact ⟨fun h b hb => (h b hb).symm, fun h b hb => (h b hb).symm⟩
mutual
theorem cmpT_self : ∀ t : T, cmpT t t = 0
 | .node k s l => by
  simp only [cmpT, eqS_self, cmpL_self l]
  simp
theorem cmpL_self : ∀ l : List T, cmpL l l = 0
 | [] => rfl
 | t :: r => by simp only [cmpL, cmpT_self t, cmpL_self r, if_true]
end
mutual
theorem cmpT_flip : ∀ t u : T, cmpT u t = - cmpT t u
 | .node k s l, .node k' s' l' => by
  by_cases hk : k = k'
  ·subst hk
   simp only [cmpT, if_true, eqS_comm s s']
   by_cases h3 : k = 3 ∧ eqS s s' = false
   ·rw [if_pos h3, if_pos h3]
    cases h : lessS s s' with
    | true =>
     have : lessS s' s = false := by
      cases h2 : lessS s' s with
      | false => rfl
      | true =>
       have := lessS_trans h h2
       rw [lessS_irrefl] at this
       cases this
     rw [this]; rfl
    | false =>
     have := lessS_not h
     rw [h3.2] at this
     cases h2 : lessS s' s with
     | true => rfl
     | false => rw [h2] at this; cases this
   ·rw [if_neg h3, if_neg h3]
    exact cmpL_flip l l'
  ·have hk' : ¬ k' = k := fun e => hk e.symm
   simp only [cmpT, if_neg hk, if_neg hk']
   by_cases h1 : k < k'
   ·rw [if_pos h1, if_neg (by omega)]; rfl
   ·rw [if_neg h1, if_pos (by omega)]
theorem cmpL_flip : ∀ l m : List T, cmpL m l = - cmpL l m
 | [], [] => rfl
 | [], _ :: _ => rfl
 | _ :: _, [] => rfl
 | a :: r, b :: s => by
  have h1 := cmpT_flip a b
  have h2 := cmpL_flip r s
  simp only [cmpL, h1, h2]
  by_cases h : cmpT a b = 0
  ·rw [if_pos h, if_pos (by omega)]
  ·rw [if_neg h, if_neg (by omega)]
end
mutual
theorem cmpT_three : ∀ t u : T, cmpT t u = -1 ∨ cmpT t u = 0 ∨ cmpT t u = 1
 | .node k s l, .node k' s' l' => by
  simp only [cmpT]
  by_cases hk : k = k'
  ·rw [if_pos hk]
   by_cases h3 : k = 3 ∧ eqS s s' = false
   ·rw [if_pos h3]
    cases lessS s s' <;> simp
   ·rw [if_neg h3]
    exact cmpL_three l l'
  ·rw [if_neg hk]
   by_cases h1 : k < k'
   ·rw [if_pos h1]; exact .inl rfl
   ·rw [if_neg h1]; exact .inr (.inr rfl)
theorem cmpL_three : ∀ l m : List T, cmpL l m = -1 ∨ cmpL l m = 0 ∨ cmpL l m = 1
 | [], [] => .inr (.inl rfl)
 | [], _ :: _ => .inl rfl
 | _ :: _, [] => .inr (.inr rfl)
 | a :: r, b :: s => by
  simp only [cmpL]
  by_cases h : cmpT a b = 0
  ·rw [if_pos h]; exact cmpL_three r s
  ·rw [if_neg h]; exact cmpT_three a b
end
def Chn (x y z : Int) : Prop := x ≤ 0 → y ≤ 0 → z ≤ 0 ∧ (z = 0 → x = 0 ∧ y = 0)
theorem chn_sets (s s' s'' : Nat → Bool) : Chn (if eqS s s' = false then (if lessS s s' then -1 else 1) else 0) (if eqS s' s'' = false then (if lessS s' s'' then -1 else 1) else 0) (if eqS s s'' = false then (if lessS s s'' then -1 else 1) else 0) := by
 intro hx hy
 cases e1 : eqS s s' with
 | true =>
  have h1 := (eqS_iff s s').1 e1
  have a1 : eqS s s'' = eqS s' s'' := by
   rw [Bool.eq_iff_iff, eqS_iff, eqS_iff]
   exact ⟨fun h b hb => (h1 b hb).symm.trans (h b hb), fun h b hb => (h1 b hb).trans (h b hb)⟩
  have a2 : lessS s s'' = lessS s' s'' := lessS_congr h1 fun _ _ => rfl
  rw [a1, a2]
  exact ⟨hy, fun h => ⟨rfl, h⟩⟩
 | false =>
  rw [e1, if_pos rfl] at hx
  have l1 : lessS s s' = true := by
   cases h : lessS s s' with
   | true => rfl
   | false => rw [h] at hx; simp at hx
  cases e2 : eqS s' s'' with
  | true =>
   have h2 := (eqS_iff s' s'').1 e2
   have a2 : lessS s s'' = true := by rw [← lessS_congr (fun _ _ => rfl) h2]; exact l1
   rw [lessS_ne a2, a2]
   exact ⟨by decide, fun h => by simp at h⟩
  | false =>
   rw [e2, if_pos rfl] at hy
   have l2 : lessS s' s'' = true := by
    cases h : lessS s' s'' with
    | true => rfl
    | false => rw [h] at hy; simp at hy
   have a2 := lessS_trans l1 l2
   rw [lessS_ne a2, a2]
   exact ⟨by decide, fun h => by simp at h⟩
def lex (d l : Int) : Int := if d = 0 then l else d
theorem chn_lex {d1 d2 d3 l1 l2 l3 : Int} (hd : Chn d1 d2 d3) (hl : Chn l1 l2 l3) : Chn (lex d1 l1) (lex d2 l2) (lex d3 l3) := by
 unfold lex
 intro hx hy
 have x0 : d1 ≤ 0 := by
  by_cases e : d1 = 0
  ·omega
  ·rw [if_neg e] at hx; exact hx
 have y0 : d2 ≤ 0 := by
  by_cases e : d2 = 0
  ·omega
  ·rw [if_neg e] at hy; exact hy
 have hz := hd x0 y0
 by_cases ez : d3 = 0
 ·obtain ⟨ex, ey⟩ := hz.2 ez
  rw [if_pos ex] at hx ⊢
  rw [if_pos ey] at hy ⊢
  rw [if_pos ez]
  exact hl hx hy
 ·rw [if_neg ez]
  exact ⟨hz.1, fun h0 => absurd h0 ez⟩
def kindD (k k' : Int) : Int := if k = k' then 0 else if k < k' then -1 else 1
def setD (k : Int) (s s' : Nat → Bool) : Int := if k = 3 then (if eqS s s' = false then (if lessS s s' then -1 else 1) else 0) else 0
theorem chn_kind (a b c : Int) : Chn (kindD a b) (kindD b c) (kindD a c) := by
 intro hx hy
 unfold kindD at *
 have h1 : a ≤ b := by
  by_cases h : a = b
  ·omega
  ·rw [if_neg h] at hx
   by_cases h' : a < b
   ·omega
   ·rw [if_neg h'] at hx; simp at hx
 have h2 : b ≤ c := by
  by_cases h : b = c
  ·omega
  ·rw [if_neg h] at hy
   by_cases h' : b < c
   ·omega
   ·rw [if_neg h'] at hy; simp at hy
 by_cases h : a = c
 ·rw [if_pos h, if_pos (by omega), if_pos (by omega)]
  exact ⟨by decide, fun _ => ⟨rfl, rfl⟩⟩
 ·rw [if_neg h, if_pos (by omega)]
  exact ⟨by decide, fun h0 => by simp at h0⟩
theorem chn_setD (k : Int) (s s' s'' : Nat → Bool) : Chn (setD k s s') (setD k s' s'') (setD k s s'') := by
 unfold setD
 by_cases h : k = 3
 ·rw [if_pos h, if_pos h, if_pos h]
  exact chn_sets s s' s''
 ·rw [if_neg h, if_neg h, if_neg h]
  exact fun _ _ => ⟨by decide, fun _ => ⟨rfl, rfl⟩⟩
theorem lex_zero (l : Int) : lex 0 l = l := rfl
theorem lex_ne {d : Int} (l : Int) (h : d ≠ 0) : lex d l = d := if_neg h
theorem cmpT_lex (k k' : Int) (s s' : Nat → Bool) (l l' : List T) : cmpT (.node k s l) (.node k' s' l') = lex (kindD k k') (lex (setD k s s') (cmpL l l')) := by
 simp only [cmpT]
 by_cases hk : k = k'
 ·have e1 : kindD k k' = 0 := if_pos hk
  rw [if_pos hk, e1, lex_zero]
  by_cases h3 : k = 3
  ·cases e : eqS s s' with
   | true =>
    have e2 : setD k s s' = 0 := by unfold setD; rw [if_pos h3, e]; rfl
    rw [if_neg (by rintro ⟨_, h⟩; cases h), e2, lex_zero]
   | false =>
    have e2 : setD k s s' = if lessS s s' then -1 else 1 := by unfold setD; rw [if_pos h3, e]; rfl
    rw [if_pos ⟨h3, rfl⟩, e2, lex_ne]
    cases lessS s s' <;> decide
  ·have e2 : setD k s s' = 0 := if_neg h3
   rw [if_neg (fun h => h3 h.1), e2, lex_zero]
 ·have e1 : kindD k k' = if k < k' then -1 else 1 := if_neg hk
  rw [if_neg hk, e1, lex_ne]
  by_cases h : k < k'
  ·rw [if_pos h]; decide
  ·rw [if_neg h]; decide
mutual
theorem cmpT_chain : ∀ t u v : T, Chn (cmpT t u) (cmpT u v) (cmpT t v)
 | .node k s l, .node k' s' l', .node k'' s'' l'' => by
  have hl := cmpL_chain l l' l''
  rw [cmpT_lex, cmpT_lex, cmpT_lex]
  intro hx hy
  have hk := chn_kind k k' k''
  by_cases h1 : k = k'
  ·subst h1
   exact chn_lex hk (chn_lex (chn_setD k s s' s'') hl) hx hy
  ·have hx0 : kindD k k' ≠ 0 := by
    unfold kindD
    rw [if_neg h1]
    split <;> decide
   have hx1 : kindD k k' ≤ 0 := by
    unfold lex at hx
    rw [if_neg hx0] at hx
    exact hx
   have hy1 : kindD k' k'' ≤ 0 := by
    unfold lex at hy
    by_cases e : kindD k' k'' = 0
    ·omega
    ·rw [if_neg e] at hy; exact hy
   have hz := hk hx1 hy1
   have ez : kindD k k'' ≠ 0 := fun h => hx0 (hz.2 h).1
   have e : lex (kindD k k'') (lex (setD k s s'') (cmpL l l'')) = kindD k k'' := by unfold lex; rw [if_neg ez]
   rw [e]
   exact ⟨hz.1, fun h => absurd h ez⟩
theorem cmpL_chain : ∀ l m n : List T, Chn (cmpL l m) (cmpL m n) (cmpL l n)
 | [], [], n => fun hx hy => ⟨hy, fun h => ⟨rfl, h⟩⟩
 | [], _ :: _, [] => fun _ hy => by simp [cmpL] at hy
 | [], _ :: _, _ :: _ => fun _ _ => ⟨by simp [cmpL], fun h => by simp [cmpL] at h⟩
 | _ :: _, [], _ => fun hx _ => by simp [cmpL] at hx
 | _ :: _, _ :: _, [] => fun _ hy => by simp [cmpL] at hy
 | a :: r, b :: s, c :: t => by
  have h := cmpT_chain a b c
  have hr := cmpL_chain r s t
  have := chn_lex h hr
  unfold lex at this
  simp only [cmpL]
  exact this
end
theorem cmpT_trans {t u v : T} (h : cmpT t u < 0) (k : cmpT u v ≤ 0) : cmpT t v < 0 := by
 have := cmpT_chain t u v (by omega) k
 rcases cmpT_three t v with h1 | h1 | h1
 ·omega
 ·have := (this.2 h1).1; omega
 ·omega
theorem cmpT_trans' {t u v : T} (h : cmpT t u ≤ 0) (k : cmpT u v < 0) : cmpT t v < 0 := by
 have := cmpT_chain t u v h (by omega)
 rcases cmpT_three t v with h1 | h1 | h1
 ·omega
 ·have := (this.2 h1).2; omega
 ·omega
end Go.Proofs.Ytopnpdobcagcgaa
namespace Go.Proofs.Ytopnpdobcagcgaa
open Go.RowKit
set_option linter.unusedSimpArgs false
set_option linter.unusedVariables false
theorem size_rx {cs : List Value} (h : cs.length = 6) : (Try.prog.info? 27).map (·.size) = some cs.length := by
 rw [h]
 kernel_rfl
theorem wrap_sum (a b : Nat) (h : a + b ≤ 4611686018427387904) : IntKind.i64.wrap ((a : Int) + (b : Int)) = ((a + b : Nat) : Int) := by
 rw [← Int.natCast_add]
 exact IntWalk.i64_in _ (by omega)
theorem wrap_sum' (a b : Nat) (h : a + b ≤ 4611686018427387904) : wrap64 ((a : Int) + (b : Int)) = ((a + b : Nat) : Int) := by
 rw [← Int.natCast_add]
 exact IntWalk.wrap64_in _ (by omega)
theorem wrap_one (j : Nat) (h : j ≤ 4611686018427387904) : wrap64 ((j : Int) + 1) = ((j + 1 : Nat) : Int) := by
 rw [show (j : Int) + 1 = ((j + 1 : Nat) : Int) from rfl]
 exact IntWalk.wrap64_in _ (by omega)
theorem wrap_one' (j : Nat) (h : j ≤ 4611686018427387904) : IntKind.i64.wrap ((j : Int) + 1) = ((j + 1 : Nat) : Int) := by
 rw [show (j : Int) + 1 = ((j + 1 : Nat) : Int) from rfl]
 exact IntWalk.i64_in _ (by omega)
theorem nodesL_take (l : List T) (j : Nat) : nodesL (l.take j) ≤ nodesL l := by
 have h := nodesL_append (l.take j) (l.drop j)
 rw [List.take_append_drop] at h
 omega
theorem RxV.part {B : Nat} {w w' : World} {l : List T} {f : Nat → List Value} (h : ∀ i t, l[i]? = some t → RxV B w (f i) t) (hb : Below B w w') (hB : B ≤ w'.heap.size) {i : Nat} {t : T} (ht : l[i]? = some t) : RxV w'.heap.size w' (f i) t :=
 ((h i t ht).stay hb).mono hB
set_option maxHeartbeats 2000000 in
set_option maxRecDepth 100000 in
theorem refNodes_any : ∀ (N : Nat) (t : T), t.nodes ≤ N → t.nodes ≤ 1099511627776 → ∀ (cs : List Value) (w : World), RxV w.heap.size w cs t →
  Calls Try.prog 25 #[.agg cs.toArray] w fun e w' => e = .returned (.int .i64 (t.nodes : Int)) ∧ Below w.heap.size w w' := by
 intro N
 induction N with
 | zero => intro t h; have := nodes_pos t; omega
 | succ N ih =>
  rintro ⟨k, s, l⟩ hN hM cs w hv
  have IH := Lib.hid ih
  clear ih
  obtain ⟨A, cap, f, rfl, h1, h2, h0, h3, h4⟩ := hv.opened
  have H3 := Lib.hid h3
  have H4 := Lib.hid h4
  have HNN := Lib.hid (show T.nodes (.node k s l) = 1 + nodesL l by simp only [T.nodes])
  rw [HNN.out] at hN hM ⊢
  have HN := Lib.hid hN
  have HM := Lib.hid hM
  obtain ⟨cs, hcs⟩ : ∃ cs, cs = Value.int .i64 k :: (wds s ++ [.slice A l.length cap]) := ⟨_, rfl⟩
  have HCL := Lib.hid (show cs.length = 6 by rw [hcs]; rfl)
  have HC5 := Lib.hid (show cs[5]? = some (.slice A l.length cap) by rw [hcs]; rfl)
  have HLL := Lib.hid (len_nodes l)
  rw [← hcs]
  clear hv h1 h2 h0 h3 h4 hcs hN hM
  go_enter Try.func25, Try.ntmps25
  go_wp2_with ((with_reducible refine atDst 1 ?_); refine wpList_box rfl 27 _ rfl cs rfl (Below.refl w.heap.size w) (Nat.le_refl _) ?_; intro w1 hk1 hb1 hs1 _; have K1 := Lib.hid hk1; have B1 := Lib.hid hb1; clear hk1 hb1 hs1)
  go_loopw [3, 4] (fun n i wl => ∃ j : Nat, j ≤ l.length ∧ i = .int .i64 (j : Int) ∧ n = .int .i64 ((1 + nodesL (l.take j) : Nat) : Int) ∧ Below w1.heap.size w1 wl) (fun _ i _ => l.length - (intOf i).toNat)
  case atStart => exact ⟨0, by omega, by simp, by simp [nodesL], Below.refl _ _⟩
  case round =>
   obtain ⟨j, hj, rfl, rfl, hb⟩ := hrel
   have HB := Lib.hid hb
   clear hb
   have KR := Lib.hid (K1.out.below HB.out K1.out.lt)
   have c5 := KR.out.cell 5
   rw [HC5.out] at c5
   by_cases hjl : j < l.length
   ·have j1 : (j : Int) < (l.length : Int) := Int.ofNat_lt.2 hjl
    obtain ⟨b, off, rfl, hb, hrng⟩ := H3.out (by rintro rfl; simp at hjl)
    have BW := Lib.hid (B1.out.trans (HB.out.mono B1.out.size))
    obtain ⟨u, hu⟩ : ∃ u, l[j]? = some u := ⟨_, List.getElem?_eq_getElem hjl⟩
    have HV := Lib.hid (RxV.part H4.out BW.out BW.out.size hu)
    have HRG := Lib.hid (range_below (hrng j hjl) BW.out hb)
    have hnx := nodesL_next l j u hu
    have htk := nodesL_take l (j + 1)
    have hmem := nodes_mem (List.mem_of_getElem? hu)
    have HU := Lib.hid hu
    have HNX := Lib.hid hnx
    have hle1 : (1 + nodesL (l.take j)) + u.nodes ≤ 4611686018427387904 := by have := HM.out; omega
    have HUN := Lib.hid (show u.nodes ≤ N by have := HN.out; omega)
    have HUM := Lib.hid (show u.nodes ≤ 1099511627776 by have := HM.out; omega)
    have e1 := wrap_sum _ _ hle1
    have e2 := wrap_sum' _ _ hle1
    have hj62 : j ≤ 4611686018427387904 := by have := HM.out; have := HLL.out; omega
    have e3 := wrap_one j hj62
    have e4 := wrap_one' j hj62
    have HEX := Lib.hid (show (1 + nodesL (l.take j)) + u.nodes = 1 + nodesL (l.take (j + 1)) by rw [hnx]; omega)
    obtain ⟨a, ha⟩ : ∃ a, a = 1 + nodesL (l.take j) := ⟨_, rfl⟩
    obtain ⟨c, hc⟩ : ∃ c, c = u.nodes := ⟨_, rfl⟩
    have HCU := Lib.hid hc
    rw [← ha, ← hc] at e1 e2 HEX
    rw [← ha]
    clear hrng hu hnx htk hmem hle1 ha hc hj62
    go_wp2_with ((with_reducible refine atDst 17 ?_); refine wpList_load_mid rfl 27 _ rfl b (off + j * 6) rfl (f j) _ HRG.out Try.underlying27 rfl (size_rx HV.out.length) ?_)
    refine (IH.out u HUN.out HUM.out (f j) wr HV.out).mono ?_
    rintro e w2 ⟨rfl, hb2⟩
    rw [← HCU.out]
    have B2 := Lib.hid (HB.out.trans (hb2.mono HB.out.size))
    clear hb2
    go_wp2_with fail
    exact ⟨⟨j + 1, by omega, by congr 1, by rw [← HEX.out, Int.natCast_add], B2.out⟩, by simp [intOf] <;> omega⟩
   ·obtain rfl : j = l.length := by omega
    have j1 : ¬ ((l.length : Int) < (l.length : Int)) := by omega
    have B9 := Lib.hid (B1.out.trans (HB.out.mono B1.out.size))
    rw [List.take_length]
    go_wp2_with fail
    go_ret
    exact ⟨rfl, B9.out⟩
mutual
theorem depth_le : ∀ t : T, t.depth ≤ t.nodes
 | .node k s l => by
  have := depthL_le l
  simp only [T.depth, T.nodes]
  omega
theorem depthL_le : ∀ l : List T, depthL l ≤ nodesL l
 | [] => Nat.le_refl _
 | t :: r => by
  have h1 := depth_le t
  have h2 := depthL_le r
  simp only [depthL, nodesL]
  omega
end
theorem max_int (a c : Nat) : Value.int .i64 (if a < c then (c : Int) else (a : Int)) = Value.int .i64 ((max a c : Nat) : Int) := by
 congr 1
 split <;> omega
set_option maxHeartbeats 2000000 in
set_option maxRecDepth 100000 in
theorem refDepth_any : ∀ (N : Nat) (t : T), t.nodes ≤ N → t.nodes ≤ 1099511627776 → ∀ (cs : List Value) (w : World), RxV w.heap.size w cs t →
  Calls Try.prog 26 #[.agg cs.toArray] w fun e w' => e = .returned (.int .i64 (t.depth : Int)) ∧ Below w.heap.size w w' := by
 intro N
 induction N with
 | zero => intro t h; have := nodes_pos t; omega
 | succ N ih =>
  rintro ⟨k, s, l⟩ hN hM cs w hv
  have IH := Lib.hid ih
  clear ih
  obtain ⟨A, cap, f, rfl, h1, h2, h0, h3, h4⟩ := hv.opened
  have H3 := Lib.hid h3
  have H4 := Lib.hid h4
  have HNN := Lib.hid (show T.nodes (.node k s l) = 1 + nodesL l by simp only [T.nodes])
  have HDD := Lib.hid (show T.depth (.node k s l) = depthL l + 1 by simp only [T.depth])
  have HDL := Lib.hid (depthL_le l)
  rw [HNN.out] at hN hM
  rw [HDD.out]
  have HN := Lib.hid hN
  have HM := Lib.hid hM
  obtain ⟨cs, hcs⟩ : ∃ cs, cs = Value.int .i64 k :: (wds s ++ [.slice A l.length cap]) := ⟨_, rfl⟩
  have HCL := Lib.hid (show cs.length = 6 by rw [hcs]; rfl)
  have HC5 := Lib.hid (show cs[5]? = some (.slice A l.length cap) by rw [hcs]; rfl)
  have HLL := Lib.hid (len_nodes l)
  rw [← hcs]
  clear hv h1 h2 h0 h3 h4 hcs hN hM
  go_enter Try.func26, Try.ntmps26
  go_wp2_with ((with_reducible refine atDst 1 ?_); refine wpList_box rfl 27 _ rfl cs rfl (Below.refl w.heap.size w) (Nat.le_refl _) ?_; intro w1 hk1 hb1 hs1 _; have K1 := Lib.hid hk1; have B1 := Lib.hid hb1; clear hk1 hb1 hs1)
  go_loopw [3, 4] (fun n i wl => ∃ j : Nat, j ≤ l.length ∧ i = .int .i64 (j : Int) ∧ n = .int .i64 ((depthL (l.take j) : Nat) : Int) ∧ Below w1.heap.size w1 wl) (fun _ i _ => l.length - (intOf i).toNat)
  case atStart => exact ⟨0, by omega, by simp, by simp [depthL], Below.refl _ _⟩
  case round =>
   obtain ⟨j, hj, rfl, rfl, hb⟩ := hrel
   have HB := Lib.hid hb
   clear hb
   have KR := Lib.hid (K1.out.below HB.out K1.out.lt)
   have c5 := KR.out.cell 5
   rw [HC5.out] at c5
   by_cases hjl : j < l.length
   ·have j1 : (j : Int) < (l.length : Int) := Int.ofNat_lt.2 hjl
    obtain ⟨b, off, rfl, hb, hrng⟩ := H3.out (by rintro rfl; simp at hjl)
    have BW := Lib.hid (B1.out.trans (HB.out.mono B1.out.size))
    obtain ⟨u, hu⟩ : ∃ u, l[j]? = some u := ⟨_, List.getElem?_eq_getElem hjl⟩
    have HV := Lib.hid (RxV.part H4.out BW.out BW.out.size hu)
    have HRG := Lib.hid (range_below (hrng j hjl) BW.out hb)
    have hnx := depthL_next l j u hu
    have hmem := nodes_mem (List.mem_of_getElem? hu)
    have HU := Lib.hid hu
    have HNX := Lib.hid hnx
    have HUN := Lib.hid (show u.nodes ≤ N by have := HN.out; omega)
    have HUM := Lib.hid (show u.nodes ≤ 1099511627776 by have := HM.out; omega)
    have hj62 : j ≤ 4611686018427387904 := by have := HM.out; have := HLL.out; omega
    have e3 := wrap_one j hj62
    have e4 := wrap_one' j hj62
    obtain ⟨a, ha⟩ : ∃ a, a = depthL (l.take j) := ⟨_, rfl⟩
    obtain ⟨c, hc⟩ : ∃ c, c = u.depth := ⟨_, rfl⟩
    have HCU := Lib.hid hc
    have HEX := Lib.hid (show max a c = depthL (l.take (j + 1)) by rw [hnx, ha, hc])
    rw [← ha]
    clear hrng hu hnx hmem ha hc hj62
    go_wp2_with ((with_reducible refine atDst 17 ?_); refine wpList_load_mid rfl 27 _ rfl b (off + j * 6) rfl (f j) _ HRG.out Try.underlying27 rfl (size_rx HV.out.length) ?_)
    refine (IH.out u HUN.out HUM.out (f j) wr HV.out).mono ?_
    rintro e w2 ⟨rfl, hb2⟩
    rw [← HCU.out]
    have B2 := Lib.hid (HB.out.trans (hb2.mono HB.out.size))
    clear hb2
    go_wp2_with fail
    exact ⟨⟨j + 1, by omega, by congr 1, by rw [← HEX.out]; exact max_int a c, B2.out⟩, by simp [intOf] <;> omega⟩
   ·obtain rfl : j = l.length := by omega
    have j1 : ¬ ((l.length : Int) < (l.length : Int)) := by omega
    have B9 := Lib.hid (B1.out.trans (HB.out.mono B1.out.size))
    rw [List.take_length]
    obtain ⟨a, ha⟩ : ∃ a, a = depthL l := ⟨_, rfl⟩
    have hle : a ≤ 4611686018427387904 := by rw [ha]; have := HDL.out; have := HM.out; omega
    rw [← ha]
    have e3 := wrap_one a hle
    have e4 := wrap_one' a hle
    have HA := Lib.hid ha
    clear ha hle
    go_wp2_with fail
    go_ret
    rw [← HA.out]
    exact ⟨rfl, B9.out⟩
end Go.Proofs.Ytopnpdobcagcgaa
namespace Go.Proofs.Ytopnpdobcagcgaa
open Go.RowKit
set_option linter.unusedSimpArgs false
set_option linter.unusedVariables false
theorem flat6_get : ∀ {cs : List (List Value)} (_ : ∀ c ∈ cs, c.length = 6) {i : Nat} {c : List Value}, cs[i]? = some c → ∀ j, j < 6 → cs.flatten[i * 6 + j]? = c[j]?
 | [], _, i, c, h, _, _ => by simp at h
 | a :: r, hl, 0, c, h, j, hj => by
  have : a = c := by simpa using h
  subst this
  have h6 := hl a (by simp)
  rw [List.flatten_cons, Nat.zero_mul, Nat.zero_add, List.getElem?_append_left (by omega)]
 | a :: r, hl, i + 1, c, h, j, hj => by
  have h6 := hl a (by simp)
  have ih := flat6_get (cs := r) (fun d hd => hl d (List.mem_cons_of_mem _ hd)) (i := i) (c := c) (by simpa using h) j hj
  rw [List.flatten_cons, List.getElem?_append_right (by omega), ← ih]
  congr 1
  omega
theorem flat6_len : ∀ {cs : List (List Value)}, (∀ c ∈ cs, c.length = 6) → cs.flatten.length = cs.length * 6
 | [], _ => rfl
 | a :: r, hl => by
  have h6 := hl a (by simp)
  have ih := flat6_len (cs := r) fun c hc => hl c (by simp [hc])
  rw [List.flatten_cons, List.length_append, List.length_cons, ih, h6]
  omega
theorem append_where {P : Program} {w : World} (base : Nat) (t ty e : TypeId) (i : TypeInfo) (z : Value) (size bytes : Nat) (ht : P.underlying t = some (.slice e)) (hi : P.info? e = some i) (hz : i.zero = some z)
  (hsize : i.size = size) (hby : i.bytes = bytes) (hsz : 0 < size)
  (v : Value) (n : Nat) (xs : List Value) (hown : w.ownsRow base e size v n xs)
  (a : Addr) (m c : Nat) (news : List Value) (hl : news.length = m * size) (hnews : ∀ j u, news[j]? = some u → w.cell? (a.add j) = some u) (h1 : ∀ u ∈ news, u.oneCell' = true)
  (h63 : n + m ≤ maxLen) (hbytes : (n + m) * bytes ≤ 140737488355328) {v' : Value} {w' : World} (hrun : (Builtin.append_ #[t, t] ty #[v, .slice (some a) m c]).run P w = .ok v' w') :
  ∀ k, v'.ownBlock = some k → v.ownBlock = some k ∨ w.heap.size ≤ k := by
 subst hsize
 subst hby
 have hsmall : n + m ≤ 9223372036854775807 := by simp only [maxLen] at h63; omega
 intro k hk
 rcases hown.2 with ⟨rfl, rfl⟩ | ⟨g, cap, cur, rfl, hbg, hg, hnc, hcm, hcs, htake⟩
 ·have hx : xs = [] := List.eq_nil_of_length_eq_zero (by simpa using hown.1)
  subst hx
  by_cases hm : m = 0
  ·subst hm
   have hn : news = [] := List.eq_nil_of_length_eq_zero (by simpa using hl)
   subst hn
   have hr : (Builtin.append_ #[t, t] ty #[.slice none 0 0, .slice (some a) 0 c]).run P w = .ok (.slice none 0 0) w := by
    simp [Builtin.append_, run_underlying ht, sizeOf, typeInfo, hi, Builtin.lenOf, Builtin.firstCells, loadCells, loadCellsFrom]
   rw [hr] at hrun
   injection hrun with e1 e2
   subst e1
   cases hk
  ·have hr := run_append_nil (P := P) w t ty e i z ht hi hz a m c news hl hnews (by omega) (by omega) (by have hb := hbytes; simp only [Nat.zero_add] at hb; omega)
   rw [hr] at hrun
   injection hrun with e1 e2
   subst e1
   have : w.heap.size = k := Option.some.inj hk
   exact .inr (by omega)
 ·by_cases hroom : n + m ≤ cap
  ·obtain ⟨w2, hr, _, _⟩ := run_append_fits (P := P) w base t ty e i i.size ht hi rfl g n cap xs hown a m c news hl hnews h1 hroom
   rw [hr] at hrun
   injection hrun with e1 e2
   subst e1
   exact .inl hk
  ·have holds : ∀ j u, xs[j]? = some u → w.cell? ((⟨g, 0, none⟩ : Addr).add j) = some u := hown.cells (g := g) rfl
   have hr := run_append_grow (P := P) w t ty e i z ht hi hz ⟨g, 0, none⟩ n cap xs hown.1 holds a m c news hl hnews (by omega) (by omega) (growslice_fits (by omega) hbytes)
   rw [hr] at hrun
   injection hrun with e1 e2
   subst e1
   have : w.heap.size = k := Option.some.inj hk
   exact .inr (by omega)
def OwnT (D : Nat → Prop) (base : Nat) (w : World) (v : Value) (l : List T) : Prop :=
 ∃ cells : List (List Value), cells.length = l.length ∧ (∀ c ∈ cells, c.length = 6) ∧ w.ownsRow base 27 6 v l.length cells.flatten ∧
  ∀ (i : Nat) (c : List Value) (t : T), cells[i]? = some c → l[i]? = some t → RxD (fun k => D k ∧ k < w.heap.size ∧ some k ≠ v.ownBlock) w c t
theorem OwnT.nil (D : Nat → Prop) (base : Nat) (w : World) : OwnT D base w (.slice none 0 0) [] := ⟨[], rfl, by simp, ⟨by simp, .inl ⟨rfl, rfl⟩⟩, fun i c t h => by simp at h⟩
theorem own6_stay {w w' : World} {base n k : Nat} {e : TypeId} {v : Value} {xs : List Value} (h : w.ownsRow base e k v n xs) (hb : ∀ j, v.ownBlock = some j → w'.heap[j]? = w.heap[j]?) : w'.ownsRow base e k v n xs := by
 refine ⟨h.1, ?_⟩
 rcases h.2 with h0 | ⟨g, cap, cur, rfl, hb2, hg, h3⟩
 ·exact .inl h0
 ·exact .inr ⟨g, cap, cur, rfl, hb2, (hb g rfl).trans hg, h3⟩
theorem own6_lt {w : World} {base n k : Nat} {e : TypeId} {v : Value} {xs : List Value} (h : w.ownsRow base e k v n xs) : ∀ j, v.ownBlock = some j → j < w.heap.size ∧ base ≤ j := by
 intro j hj
 rcases h.2 with ⟨rfl, h0⟩ | ⟨g, cap, cur, rfl, hb, hg, _⟩
 ·cases hj
 ·have hk' : some g = some j := hj
  injection hk' with hk'
  subst hk'
  exact ⟨(Array.getElem?_eq_some_iff.1 hg).1, hb⟩
theorem OwnT.stay {D : Nat → Prop} {base : Nat} {w w' : World} {v : Value} {l : List T} (h : OwnT D base w v l) (hb : Below w.heap.size w w') : OwnT D base w' v l := by
 obtain ⟨cells, h1, h2, h3, h4⟩ := h
 refine ⟨cells, h1, h2, own6_stay h3 fun j hj => hb.block j (own6_lt h3 j hj).1, fun i c t hc ht => ?_⟩
 exact ((h4 i c t hc ht).stay fun k hk => hb.block k hk.2.1).mono fun k hk => ⟨hk.1, Nat.lt_of_lt_of_le hk.2.1 hb.size, hk.2.2⟩
theorem OwnT.slice {D : Nat → Prop} {base : Nat} {w : World} {v : Value} {l : List T} (h : OwnT D base w v l) : ∃ A c, v = .slice A l.length c := by
 obtain ⟨_, _, _, h3, _⟩ := h
 rcases h3.2 with ⟨rfl, h0⟩ | ⟨g, cap, cur, rfl, _⟩
 ·exact ⟨none, 0, by rw [h0]⟩
 ·exact ⟨_, _, rfl⟩
theorem OwnT.lt {D : Nat → Prop} {base : Nat} {w : World} {v : Value} {l : List T} (h : OwnT D base w v l) (j : Nat) (hj : v.ownBlock = some j) : j < w.heap.size := by
 obtain ⟨_, _, _, h3, _⟩ := h
 exact (own6_lt h3 j hj).1
theorem OwnT.ge {D : Nat → Prop} {base : Nat} {w : World} {v : Value} {l : List T} (h : OwnT D base w v l) (j : Nat) (hj : v.ownBlock = some j) : base ≤ j := by
 obtain ⟨_, _, _, h3, _⟩ := h
 exact (own6_lt h3 j hj).2
theorem OwnT.rx {D : Nat → Prop} {base : Nat} {w : World} {v : Value} {l : List T} (h : OwnT D base w v l) (k : Int) (s : Nat → Bool) : RxD (fun b => (D b ∨ base ≤ b) ∧ b < w.heap.size) w (.int .i64 k :: (wds s ++ [v])) (.node k s l) := by
 obtain ⟨cells, h1, h2, h3, h4⟩ := h
 rcases h3.2 with ⟨rfl, h0⟩ | ⟨g, cap, cur, rfl, hb, hg, hn, hm, hs, ht⟩
 ·obtain rfl : l = [] := List.eq_nil_of_length_eq_zero h0
  exact .node (fun _ => []) (Nat.le_refl _) (Nat.zero_le _) (fun _ => rfl) (fun h => absurd rfl h) (fun i t h => by simp at h)
 ·refine .node (fun i => cells.getD i []) hn hm (fun h => by cases h) (fun hne => ⟨g, 0, rfl, ⟨.inr hb, (Array.getElem?_eq_some_iff.1 hg).1⟩, fun i hi j u hu => ?_⟩) (fun i t hti => ?_)
  ·have hic : i < cells.length := by omega
   have hci : cells[i]? = some cells[i] := List.getElem?_eq_getElem hic
   have e0 : cells.getD i [] = cells[i] := by simp [List.getD, hci]
   rw [e0] at hu
   have hj : j < 6 := by rw [← h2 cells[i] (List.getElem_mem hic)]; exact (List.getElem?_eq_some_iff.1 hu).1
   have e1 := flat6_get h2 hci j hj
   rw [hu, ← ht, List.getElem?_take, if_pos (by omega), Array.getElem?_toList] at e1
   rw [cell_of_row w g _ cur _ (0, 0) hg, Nat.zero_add, e1]
  ·have hic : i < cells.length := by rw [h1]; exact (List.getElem?_eq_some_iff.1 hti).1
   have hci : cells[i]? = some cells[i] := List.getElem?_eq_getElem hic
   have e0 : cells.getD i [] = cells[i] := by simp [List.getD, hci]
   rw [e0]
   exact (h4 i cells[i] t hci hti).mono fun k hk => ⟨.inl hk.1, hk.2.1⟩
theorem inf_rx : (Try.prog.info? 27).map (fun i => (i.zero, i.size, i.bytes)) = some (some (.agg (Value.int .i64 0 :: (wds (fun _ => false) ++ [.slice none 0 0])).toArray), 6, 64) := by kernel_rfl
section
variable {w : World} {ops : Array Oper} {rest : List Oper} {o : Oper} {a : Act} {Q : Exit → Act → World → Prop}
theorem wpList_appT {D : Nat → Prop} {base : Nat} (hgd : o.guard = none) (s x : Operand)
  (ho : o.op = .call { callee := .builtin .append, args := #[s, x], argTypes := #[25, 25] })
  (i : TypeInfo) (hi : Try.prog.info? 27 = some i) (hz : i.zero = some (.agg (Value.int .i64 0 :: (wds (fun _ => false) ++ [.slice none 0 0])).toArray))
  (hsize : i.size = 6) (hby : i.bytes = 64)
  (v : Value) (l : List T) (hs : a.eval s = v) (hown : OwnT D base w v l)
  (g cap : Nat) (tg : TypeId) (c : List Value) (t : T) (hx : a.eval x = .slice (some ⟨g, 0, none⟩) 1 cap) (hr : Blk w g tg c) (hel : RxD (fun k => D k ∧ k < w.heap.size ∧ some k ≠ v.ownBlock) w c t)
  (hlen : l.length + 1 ≤ 1099511627776) (hb : base ≤ w.heap.size)
  (h : ∀ v' w', OwnT D base w' v' (l ++ [t]) → w.grownBy w' v.ownBlock → wpList Try.prog ops Q rest (a.put o.dst v') w') : wpList Try.prog ops Q (o :: rest) a w := by
 obtain ⟨cells, h1, h2, h3, h4⟩ := hown
 have hc6 : c.length = 6 := hel.length
 have hnews : ∀ j u, c[j]? = some u → w.cell? ((⟨g, 0, none⟩ : Addr).add j) = some u := fun j u hj => by
  rw [Addr.add_lit, Nat.zero_add, hr.cell j]
  exact hj
 obtain ⟨v', w', hrun, hown', hgr, _⟩ := run_append_own (P := Try.prog) w base 25 o.type 27 i _ 6 64 Try.underlying25 hi hz hsize hby (by simp [Value.cells, wds]) (by omega) v l.length cells.flatten h3 ⟨g, 0, none⟩ 1 cap c (by omega) hnews hel.one (by unfold maxLen; omega) (by omega) hb
 have hwh := append_where (P := Try.prog) (w := w) base 25 o.type 27 i _ 6 64 Try.underlying25 hi hz hsize hby (by omega) v l.length cells.flatten h3 ⟨g, 0, none⟩ 1 cap c (by omega) hnews hel.one (by unfold maxLen; omega) (by omega) hrun
 refine wpList_plain hgd fun K hK => ?_
 unfold Oper.wp execOp
 simp only [ho, resolve, invoke, builtin, Sem.run_bind, Sem.run_pure, Result.andThen_ok, List.map_toArray, List.map_cons, List.map_nil, hs, hx, hrun]
 refine hK _ _ (h v' w' ⟨cells ++ [c], by simp [h1], fun d hd => ?_, ?_, fun j d u hd hu => ?_⟩ hgr)
 ·rcases List.mem_append.1 hd with hd | hd
  ·exact h2 d hd
  ·obtain rfl := List.mem_singleton.1 hd
   exact hc6
 ·rw [List.flatten_append, List.length_append]
  simpa using hown'
 ·have key : RxD (fun k => D k ∧ k < w.heap.size ∧ some k ≠ v.ownBlock) w d u := by
   by_cases hj : j < l.length
   ·rw [List.getElem?_append_left (by omega)] at hd hu
    exact h4 j d u hd hu
   ·have hjl : j = l.length := by
     have := (List.getElem?_eq_some_iff.1 hu).1
     simp at this
     omega
    subst hjl
    rw [List.getElem?_append_right (by omega)] at hd hu
    simp [h1] at hd hu
    rw [← hd, ← hu]
    exact hel
  refine (key.stay fun k hk => hgr.block k hk.2.1 hk.2.2).mono fun k hk => ⟨hk.1, Nat.lt_of_lt_of_le hk.2.1 hgr.size, fun he => ?_⟩
  rcases hwh k he.symm with h | h
  ·exact hk.2.2 h.symm
  ·have := hk.2.1
   omega
end
end Go.Proofs.Ytopnpdobcagcgaa
namespace Go.Proofs.Ytopnpdobcagcgaa
open Go.RowKit
set_option linter.unusedSimpArgs false
set_option linter.unusedVariables false
section
variable {P : Program} {w : World} {ops : Array Oper} {rest : List Oper} {o : Oper} {a : Act} {Q : Exit → Act → World → Prop}
theorem wpList_ldMidG (hgd : Region.wanted o (yielded ops a.tmps) = true) (ty : TypeId) (x : Operand) (ho : o.op = .load ty x) (b off : Nat) (hx : a.eval x = .pointer (some ⟨b, off, none⟩)) (cs : List Value) (d : TypeDesc)
  (hg : w.rangeAt b off cs) (hu : P.underlying ty = some d) (hd : d.isRow = true) (hi : (P.info? ty).map (·.size) = some cs.length)
  (h : wpList P ops Q rest (a.put o.dst (.agg cs.toArray)) w) : wpList P ops Q (o :: rest) a w := by
 refine BigFrame.wpList_want hgd fun K hK => ?_
 exact wp_load_mid ty x ho b off hx cs d hg hu hd hi (hK _ _ h)
theorem wpList_neSetG (hgd : Region.wanted o (yielded ops a.tmps) = true) {b : Bool} {p q : Nat → Bool} (hb : (!eqS p q) = b) (t e : TypeId) (x y : Operand) (oT : TypeId) (ho : o.op = .binOp .neq t x y oT) (hm : P.eqGuardType P.depth t = false)
  (ht : P.underlying t = some (.array 4 e)) (he : P.underlying e = some (.int .u64)) (hsz : ∀ w, (sizeOf e).run P w = .ok 1 w)
  (ex : a.eval x = .agg (wds p).toArray) (ey : a.eval y = .agg (wds q).toArray)
  (h : wpList P ops Q rest (a.put o.dst (.bool b)) w) : wpList P ops Q (o :: rest) a w := by
 refine BigFrame.wpList_want hgd fun K hK => ?_
 unfold Oper.wp
 simp only [execOp, ho, ex, ey, Sem.run_bind, run_eqGuard_agg w .neq t x y _ _ hm, Result.andThen_ok, run_neq_sets w t e ht he hsz p q, Sem.run_pure, hb]
 exact hK _ _ h
end
theorem guardSet : Try.prog.eqGuardType Try.prog.depth 24 = false := by kernel_rfl
theorem sizeU64 : ∀ w, (sizeOf 22).run Try.prog w = .ok 1 w := by
 intro w
 have h : (Try.prog.info? 22).map (·.size) = some 1 := by kernel_rfl
 cases hi : Try.prog.info? 22 with
 | none => rw [hi] at h; cases h
 | some i =>
  rw [hi] at h
  have h' : i.size = 1 := by simpa using h
  simp [sizeOf, typeInfo, hi, h']
theorem set_range {w : World} {g : Nat} {t : TypeId} {k : Int} {s : Nat → Bool} {v : Value} (h : Blk w g t (.int .i64 k :: (wds s ++ [v]))) : w.rangeAt g 1 (wds s) := by
 intro j u hu
 have hj : j < 4 := by simpa [wds_length] using (List.getElem?_eq_some_iff.1 hu).1
 rw [h.cell, Nat.add_comm 1 j, List.getElem?_cons_succ, List.getElem?_append_left (by rw [wds_length]; exact hj)]
 exact hu
theorem set_range' {w : World} {g : Nat} {t : TypeId} {k : Int} {s : Nat → Bool} {v : Value} {cs : List Value} (hc : cs = .int .i64 k :: (wds s ++ [v])) (h : Blk w g t cs) : w.rangeAt g 1 (wds s) :=
 set_range (hc ▸ h)
end Go.Proofs.Ytopnpdobcagcgaa
namespace Go.Proofs.Ytopnpdobcagcgaa
open Go.RowKit
set_option linter.unusedSimpArgs false
set_option linter.unusedVariables false
section
variable {P : Program} {w : World} {ops : Array Oper} {rest : List Oper} {o : Oper} {a : Act} {Q : Exit → Act → World → Prop}
theorem run_bldT1 (t e : TypeId) (i : TypeInfo) (ht : P.underlying t = some (.slice e)) (hi : P.info? e = some i) (hz : i.zero = some (.agg (Value.int .i64 0 :: (wds (fun _ => false) ++ [.slice none 0 0])).toArray)) (hs : i.size = 6) (ds : List Value) (hl : ds.length = 6) :
  (Instr.buildSlice t 1 #[(0, .agg ds.toArray)]).run P w = .ok (.slice (some ⟨w.heap.size, 0, none⟩) 1 1) (w.alloc (.cells ds.toArray e)) := by
 have hzv : (zeroValue e).run P w = .ok (.agg (Value.int .i64 0 :: (wds (fun _ => false) ++ [.slice none 0 0])).toArray) w := by simp [zeroValue, typeInfo, hi, hz]
 match ds, hl with
 | [d0, d1, d2, d3, d4, d5], _ =>
  simp [Instr.buildSlice, run_underlying ht, sizeOf, typeInfo, hi, hs, hzv, Value.cells, Instr.fill, wds, Array.range_succ, Array.range_zero', newRow]
theorem wpList_bldT1 (hg : o.guard = none) (t e : TypeId) (x : Operand) (ho : o.op = .buildSlice t 1 #[(0, x)]) (i : TypeInfo) (ht : P.underlying t = some (.slice e)) (hi : P.info? e = some i) (hz : i.zero = some (.agg (Value.int .i64 0 :: (wds (fun _ => false) ++ [.slice none 0 0])).toArray)) (hs : i.size = 6) (ds : List Value) (hl : ds.length = 6)
  (hx : a.eval x = .agg ds.toArray)
  (h : ∀ w', Blk w' w.heap.size e ds → Below w.heap.size w w' → w'.heap.size = w.heap.size + 1 → wpList P ops Q rest (a.put o.dst (.slice (some ⟨w.heap.size, 0, none⟩) 1 1)) w') : wpList P ops Q (o :: rest) a w := by
 refine wpList_plain hg fun K hK => ?_
 have hrun := run_bldT1 (P := P) (w := w) t e i ht hi hz hs ds hl
 unfold Oper.wp
 simp only [execOp, ho, List.map_toArray, List.map_cons, List.map_nil, hx, hrun, Sem.run_bind, Result.andThen_ok, Sem.run_pure]
 exact hK _ _ (h _ (Blk.new w e _) ((Below.refl _ _).alloc (Nat.le_refl _) _) (by simp))
end
set_option maxHeartbeats 4000000 in
set_option maxRecDepth 100000 in
theorem refCopy_any : ∀ (N : Nat) (t : T), t.nodes ≤ N → t.nodes ≤ 1099511627776 → ∀ (cs : List Value) (w : World), RxV w.heap.size w cs t →
  Calls Try.prog 39 #[.agg cs.toArray] w fun e w' => ∃ ds, e = .returned (.agg ds.toArray) ∧ RxD (fun k => w.heap.size ≤ k ∧ k < w'.heap.size) w' ds t ∧ Below w.heap.size w w' := by
 intro N
 induction N with
 | zero => intro t h; have := nodes_pos t; omega
 | succ N ih =>
  rintro ⟨k, s, l⟩ hN hM cs w hv
  have IH := Lib.hid ih
  clear ih
  obtain ⟨A, cap, f, rfl, h1, h2, h0, h3, h4⟩ := hv.opened
  have H3 := Lib.hid h3
  have H4 := Lib.hid h4
  have HNN := Lib.hid (show T.nodes (.node k s l) = 1 + nodesL l by simp only [T.nodes])
  rw [HNN.out] at hN hM
  have HN := Lib.hid hN
  have HM := Lib.hid hM
  obtain ⟨cs, hcs⟩ : ∃ cs, cs = Value.int .i64 k :: (wds s ++ [.slice A l.length cap]) := ⟨_, rfl⟩
  have HCL := Lib.hid (show cs.length = 6 by rw [hcs]; rfl)
  have HC5 := Lib.hid (show cs[5]? = some (.slice A l.length cap) by rw [hcs]; rfl)
  have HST := Lib.hid (show ∀ v, cs.set 5 v = Value.int .i64 k :: (wds s ++ [v]) by rw [hcs]; intro v; rfl)
  have HLL := Lib.hid (len_nodes l)
  rw [← hcs]
  obtain ⟨i0, hi0, hz0, hz1, hz2⟩ := infoP inf_rx
  obtain ⟨z, hz⟩ : ∃ z, z = Value.int .i64 0 :: (wds (fun _ => false) ++ [Value.slice none 0 0]) := ⟨_, rfl⟩
  have HZ := Lib.hid hz
  have HZL := Lib.hid (show z.length = 6 by rw [hz]; rfl)
  have HZ0 := Lib.hid (show i0.zero = some (.agg z.toArray) by rw [hz]; exact hz0)
  have HZ1 := Lib.hid hz0
  clear hv h1 h2 h0 h3 h4 hcs hN hM hz hz0
  go_enter Try.func39, Try.ntmps39
  go_wp2_with (first
   | ((with_reducible refine atDst 1 ?_); refine wpList_box rfl 27 _ rfl cs rfl (Below.refl w.heap.size w) (Nat.le_refl _) ?_; intro w1 hk1 hb1 hs1 _; have K1 := Lib.hid hk1; have B1 := Lib.hid hb1; clear hk1 hb1 hs1)
   | ((with_reducible refine atDst 2 ?_); refine wpList_new rfl 27 rfl i0 _ z hi0 HZ0.out rfl (Below.refl w1.heap.size w1) (Nat.le_refl _) ?_; intro w2 hk2 hb2 hs2 _; have M2 := Lib.hid hk2; have B2 := Lib.hid (B1.out.trans (hb2.mono B1.out.size)); have K2 := Lib.hid (K1.out.below hb2 K1.out.lt); have G12 := Lib.hid K1.out.lt; clear hk2 hb2 hs2 K1 B1))
  go_loopw [3, 4] (fun v i wl => ∃ j : Nat, j ≤ l.length ∧ i = .int .i64 (j : Int) ∧ OwnT (fun q => w2.heap.size ≤ q) w2.heap.size wl v (l.take j) ∧ Below w2.heap.size w2 wl) (fun _ i _ => l.length - (intOf i).toNat)
  case atStart => exact ⟨0, by omega, by simp, OwnT.nil _ _ _, Below.refl _ _⟩
  case round =>
   obtain ⟨j, hj, rfl, ho, hb⟩ := hrel
   have HO := Lib.hid ho
   have HB := Lib.hid hb
   clear ho hb
   have KR := Lib.hid (K2.out.below HB.out K2.out.lt)
   have c5 := KR.out.cell 5
   rw [HC5.out] at c5
   by_cases hjl : j < l.length
   ·have j1 : (j : Int) < (l.length : Int) := Int.ofNat_lt.2 hjl
    obtain ⟨b, off, rfl, hb, hrng⟩ := H3.out (by rintro rfl; simp at hjl)
    have BW := Lib.hid (B2.out.trans (HB.out.mono B2.out.size))
    obtain ⟨u, hu⟩ : ∃ u, l[j]? = some u := ⟨_, List.getElem?_eq_getElem hjl⟩
    have HV := Lib.hid (RxV.part H4.out BW.out BW.out.size hu)
    have HRG := Lib.hid (range_below (hrng j hjl) BW.out hb)
    have hmem := nodes_mem (List.mem_of_getElem? hu)
    have HTK := Lib.hid (show l.take (j + 1) = l.take j ++ [u] by
     obtain ⟨hi, rfl⟩ := List.getElem?_eq_some_iff.1 hu
     exact List.take_succ_eq_append_getElem hi)
    have HUN := Lib.hid (show u.nodes ≤ N by have := HN.out; omega)
    have HUM := Lib.hid (show u.nodes ≤ 1099511627776 by have := HM.out; omega)
    have hj62 : j ≤ 4611686018427387904 := by have := HM.out; have := HLL.out; omega
    have e3 := wrap_one j hj62
    have e4 := wrap_one' j hj62
    have HLE := Lib.hid (show (l.take j).length + 1 ≤ 1099511627776 by rw [List.length_take]; have := HM.out; have := HLL.out; omega)
    clear hrng hu hmem hj62 hb
    go_wp2_with ((with_reducible refine atDst 17 ?_); refine wpList_load_mid rfl 27 _ rfl b (off + j * 6) rfl (f j) _ HRG.out Try.underlying27 rfl (size_rx HV.out.length) ?_)
    refine (IH.out u HUN.out HUM.out (f j) wr HV.out).mono ?_
    rintro e w3 ⟨ds, rfl, hds, hb3⟩
    have HDS := Lib.hid hds
    have HD6 := Lib.hid hds.length
    have O3 := Lib.hid (HO.out.stay hb3)
    have HLT3 := Lib.hid (fun q hq => (HO.out.lt q hq))
    have B3 := Lib.hid (HB.out.trans (hb3.mono HB.out.size))
    have SR := Lib.hid HB.out.size
    clear hds hb3
    go_wp2_with (first
     | ((with_reducible refine atDst 19 ?_); refine wpList_bldT1 rfl 25 27 (.tmp 18) rfl i0 Try.underlying25 hi0 HZ1.out hz1 ds HD6.out rfl ?_; intro w4 hk4 hb4 hs4; have K4 := Lib.hid hk4; have O4 := Lib.hid (O3.out.stay hb4); have B4 := Lib.hid (B3.out.trans (hb4.mono B3.out.size)); have D4 := Lib.hid ((HDS.out.stay (w' := w4) fun q hq => hb4.block q hq.2).mono (D' := fun q => wr.heap.size ≤ q ∧ q < w4.heap.size) fun q hq => ⟨hq.1, Nat.lt_of_lt_of_le hq.2 hb4.size⟩); clear hk4 hb4 hs4)
     | ((with_reducible refine atDst 20 ?_); refine wpList_appT (base := w2.heap.size) rfl (.tmp 12) (.tmp 19) rfl i0 hi0 HZ1.out hz1 hz2 _ (l.take j) rfl O4.out w3.heap.size 1 27 ds u rfl K4.out (D4.out.mono fun q hq => ⟨Nat.le_trans SR.out hq.1, hq.2, fun he => by have h5 := HLT3.out q he.symm; have h6 := hq.1; omega⟩) HLE.out B4.out.size ?_; intro v5 w5 ho5 hg5; have O5 := Lib.hid ho5; have B5 := Lib.hid (B4.out.grown hg5 B4.out.size (fun q hq => O4.out.ge q hq)); clear ho5 hg5))
    refine ⟨⟨j + 1, by omega, by congr 1, by rw [HTK.out]; exact O5.out, B5.out⟩, by simp [intOf] <;> omega⟩
   ·obtain rfl : j = l.length := by omega
    have j1 : ¬ ((l.length : Int) < (l.length : Int)) := by omega
    have ho := HO.out
    rw [List.take_length] at ho
    have O9 := Lib.hid ho
    have hfz := KR.out.frozen 5
    have MR := Lib.hid (M2.out.below HB.out M2.out.lt)
    have B9 := Lib.hid (B2.out.trans (HB.out.mono B2.out.size))
    obtain ⟨A3, cap3, rfl⟩ := O9.out.slice
    have KS := Lib.hid (show Blk (wr.setCell ⟨w.heap.size, 5, none⟩ (.slice A3 l.length cap3)) w.heap.size 27 (Value.int .i64 k :: (wds s ++ [.slice A3 l.length cap3])) by
     have := KR.out.set 5 (.slice A3 l.length cap3)
     rw [HST.out] at this
     exact this)
    obtain ⟨ds, hds⟩ : ∃ ds, ds = Value.int .i64 k :: (wds s ++ [.slice A3 l.length cap3]) := ⟨_, rfl⟩
    have HD6 := Lib.hid (show ds.length = 6 by rw [hds]; rfl)
    have KS' := Lib.hid (show Blk (wr.setCell ⟨w.heap.size, 5, none⟩ (.slice A3 l.length cap3)) w.heap.size 27 ds by rw [hds]; exact KS.out)
    have MS := Lib.hid (show Blk (wr.setCell ⟨w.heap.size, 5, none⟩ (.slice A3 l.length cap3)) w1.heap.size 27 z from MR.out.far (by have := G12.out; show w1.heap.size ≠ w.heap.size; omega) _)
    have BS := Lib.hid (show Below w.heap.size w (wr.setCell ⟨w.heap.size, 5, none⟩ (.slice A3 l.length cap3)) from B9.out.setCell (Nat.le_refl _) _)
    have GM := Lib.hid M2.out.lt
    have DS := Lib.hid (show RxD (fun b => w2.heap.size ≤ b ∧ b < wr.heap.size) (wr.setCell ⟨w.heap.size, 5, none⟩ (.slice A3 l.length cap3)) ds (.node k s l) by
     rw [hds]
     refine ((O9.out.rx k s).mono (D' := fun b => w2.heap.size ≤ b ∧ b < wr.heap.size) fun q hq => ⟨hq.1.elim id id, hq.2⟩).stay fun q hq => Below.heap_setCell wr ⟨w.heap.size, 5, none⟩ _ q ?_
     have h1 := hq.1
     have h2 := GM.out
     have h3 := G12.out
     show q ≠ w.heap.size
     omega)
    have HO1 := Lib.hid (show ds.all (·.oneCell') = true from List.all_eq_true.2 DS.out.one)
    have SZ9 := Lib.hid (show (wr.setCell ⟨w.heap.size, 5, none⟩ (.slice A3 l.length cap3)).heap.size = wr.heap.size by simp)
    clear ho HO hds KS
    go_wp2_with (first
     | ((with_reducible refine atDst 23 ?_); refine wpList_ldArr rfl 27 _ rfl w.heap.size rfl 27 _ _ KS'.out Try.underlying27 rfl (size_rx HD6.out) ?_)
     | ((with_reducible refine atStore 27 2 23 ?_); refine wpList_stBlk rfl 27 _ _ rfl w1.heap.size ds rfl rfl 27 _ MS.out (size_rx HD6.out) (by rw [HZL.out, HD6.out]) HO1.out BS.out (Nat.le_of_lt G12.out) ?_; intro w6 hk6 hb6 hs6 ho6; have K6 := Lib.hid hk6; have B6 := Lib.hid hb6; have D6 := Lib.hid ((DS.out.stay (w' := w6) fun q hq => ho6 q (by have h1 := hq.1; have h2 := GM.out; omega)).mono (D' := fun q => w.heap.size ≤ q ∧ q < w6.heap.size) fun q hq => ⟨by have h1 := hq.1; have h2 := GM.out; have h3 := G12.out; omega, by have h1 := hq.2; have h2 := SZ9.out; omega⟩); clear hk6 hb6 hs6 ho6))
    refine bodyPost_ret (results_blk rfl _ _ w1.heap.size 27 _ _ rfl K6.out Try.underlying27 rfl (size_rx HD6.out)) rfl ?_
    exact ⟨ds, rfl, D6.out, B6.out⟩
end Go.Proofs.Ytopnpdobcagcgaa
