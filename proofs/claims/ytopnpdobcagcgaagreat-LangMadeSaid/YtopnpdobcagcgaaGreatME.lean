/-
  Texts of this proof, put together: RxA, RxJp, RxMp, RxB. No statement is proved here.
-/
import Derived.Test.YtopnpdobcagcgaaGreatMC
import Derived.Test.YtopnpdobcagcgaaGreatMD
import Derived.Deep.MidRow
namespace Go.Proofs.YtopnpdobcagcgaaGreat
open Go.RowKit
set_option linter.unusedSimpArgs false
set_option linter.unusedVariables false
/-! ### their line -/
theorem eqS_comm (p q : Nat → Bool) : eqS q p = eqS p q := by
 rw [Bool.eq_iff_iff, eqS_iff, eqS_iff]
 exact ⟨fun h b hb => (h b hb).symm, fun h b hb => (h b hb).symm⟩
mutual
theorem cmpT_self : ∀ t : T, cmpT t t = 0
 | .node k s l => by
  simp only [cmpT, eqS_self, cmpL_self l]
  simp
theorem cmpL_self : ∀ l : List T, cmpL l l = 0
 | [] => rfl
 | t :: r => by simp only [cmpL, cmpT_self t, cmpL_self r, if_true]
end
mutual
theorem cmpT_flip : ∀ t u : T, cmpT u t = - cmpT t u
 | .node k s l, .node k' s' l' => by
  by_cases hk : k = k'
  ·subst hk
   simp only [cmpT, if_true, eqS_comm s s']
   by_cases h3 : k = 3 ∧ eqS s s' = false
   ·rw [if_pos h3, if_pos h3]
    cases h : lessS s s' with
    | true =>
     have : lessS s' s = false := by
      cases h2 : lessS s' s with
      | false => rfl
      | true =>
       have := lessS_trans h h2
       rw [lessS_irrefl] at this
       cases this
     rw [this]; rfl
    | false =>
     have := lessS_not h
     rw [h3.2] at this
     cases h2 : lessS s' s with
     | true => rfl
     | false => rw [h2] at this; cases this
   ·rw [if_neg h3, if_neg h3]
    exact cmpL_flip l l'
  ·have hk' : ¬ k' = k := fun e => hk e.symm
   simp only [cmpT, if_neg hk, if_neg hk']
   by_cases h1 : k < k'
   ·rw [if_pos h1, if_neg (by omega)]; rfl
   ·rw [if_neg h1, if_pos (by omega)]
theorem cmpL_flip : ∀ l m : List T, cmpL m l = - cmpL l m
 | [], [] => rfl
 | [], _ :: _ => rfl
 | _ :: _, [] => rfl
 | a :: r, b :: s => by
  have h1 := cmpT_flip a b
  have h2 := cmpL_flip r s
  simp only [cmpL, h1, h2]
  by_cases h : cmpT a b = 0
  ·rw [if_pos h, if_pos (by omega)]
  ·rw [if_neg h, if_neg (by omega)]
end
mutual
theorem cmpT_three : ∀ t u : T, cmpT t u = -1 ∨ cmpT t u = 0 ∨ cmpT t u = 1
 | .node k s l, .node k' s' l' => by
  simp only [cmpT]
  by_cases hk : k = k'
  ·rw [if_pos hk]
   by_cases h3 : k = 3 ∧ eqS s s' = false
   ·rw [if_pos h3]
    cases lessS s s' <;> simp
   ·rw [if_neg h3]
    exact cmpL_three l l'
  ·rw [if_neg hk]
   by_cases h1 : k < k'
   ·rw [if_pos h1]; exact .inl rfl
   ·rw [if_neg h1]; exact .inr (.inr rfl)
theorem cmpL_three : ∀ l m : List T, cmpL l m = -1 ∨ cmpL l m = 0 ∨ cmpL l m = 1
 | [], [] => .inr (.inl rfl)
 | [], _ :: _ => .inl rfl
 | _ :: _, [] => .inr (.inr rfl)
 | a :: r, b :: s => by
  simp only [cmpL]
  by_cases h : cmpT a b = 0
  ·rw [if_pos h]; exact cmpL_three r s
  ·rw [if_neg h]; exact cmpT_three a b
end
def Chn (x y z : Int) : Prop := x ≤ 0 → y ≤ 0 → z ≤ 0 ∧ (z = 0 → x = 0 ∧ y = 0)
theorem chn_sets (s s' s'' : Nat → Bool) : Chn (if eqS s s' = false then (if lessS s s' then -1 else 1) else 0) (if eqS s' s'' = false then (if lessS s' s'' then -1 else 1) else 0) (if eqS s s'' = false then (if lessS s s'' then -1 else 1) else 0) := by
 intro hx hy
 cases e1 : eqS s s' with
 | true =>
  have h1 := (eqS_iff s s').1 e1
  have a1 : eqS s s'' = eqS s' s'' := by
   rw [Bool.eq_iff_iff, eqS_iff, eqS_iff]
   exact ⟨fun h b hb => (h1 b hb).symm.trans (h b hb), fun h b hb => (h1 b hb).trans (h b hb)⟩
  have a2 : lessS s s'' = lessS s' s'' := lessS_congr h1 fun _ _ => rfl
  rw [a1, a2]
  exact ⟨hy, fun h => ⟨rfl, h⟩⟩
 | false =>
  rw [e1, if_pos rfl] at hx
  have l1 : lessS s s' = true := by
   cases h : lessS s s' with
   | true => rfl
   | false => rw [h] at hx; simp at hx
  cases e2 : eqS s' s'' with
  | true =>
   have h2 := (eqS_iff s' s'').1 e2
   have a2 : lessS s s'' = true := by rw [← lessS_congr (fun _ _ => rfl) h2]; exact l1
   rw [lessS_ne a2, a2]
   exact ⟨by decide, fun h => by simp at h⟩
  | false =>
   rw [e2, if_pos rfl] at hy
   have l2 : lessS s' s'' = true := by
    cases h : lessS s' s'' with
    | true => rfl
    | false => rw [h] at hy; simp at hy
   have a2 := lessS_trans l1 l2
   rw [lessS_ne a2, a2]
   exact ⟨by decide, fun h => by simp at h⟩
def lex (d l : Int) : Int := if d = 0 then l else d
theorem chn_lex {d1 d2 d3 l1 l2 l3 : Int} (hd : Chn d1 d2 d3) (hl : Chn l1 l2 l3) : Chn (lex d1 l1) (lex d2 l2) (lex d3 l3) := by
 unfold lex
 intro hx hy
 have x0 : d1 ≤ 0 := by
  by_cases e : d1 = 0
  ·omega
  ·rw [if_neg e] at hx; exact hx
 have y0 : d2 ≤ 0 := by
  by_cases e : d2 = 0
  ·omega
  ·rw [if_neg e] at hy; exact hy
 have hz := hd x0 y0
 by_cases ez : d3 = 0
 ·obtain ⟨ex, ey⟩ := hz.2 ez
  rw [if_pos ex] at hx ⊢
  rw [if_pos ey] at hy ⊢
  rw [if_pos ez]
  exact hl hx hy
 ·rw [if_neg ez]
  exact ⟨hz.1, fun h0 => absurd h0 ez⟩
def kindD (k k' : Int) : Int := if k = k' then 0 else if k < k' then -1 else 1
def setD (k : Int) (s s' : Nat → Bool) : Int := if k = 3 then (if eqS s s' = false then (if lessS s s' then -1 else 1) else 0) else 0
theorem chn_kind (a b c : Int) : Chn (kindD a b) (kindD b c) (kindD a c) := by
 intro hx hy
 unfold kindD at *
 have h1 : a ≤ b := by
  by_cases h : a = b
  ·omega
  ·rw [if_neg h] at hx
   by_cases h' : a < b
   ·omega
   ·rw [if_neg h'] at hx; simp at hx
 have h2 : b ≤ c := by
  by_cases h : b = c
  ·omega
  ·rw [if_neg h] at hy
   by_cases h' : b < c
   ·omega
   ·rw [if_neg h'] at hy; simp at hy
 by_cases h : a = c
 ·rw [if_pos h, if_pos (by omega), if_pos (by omega)]
  exact ⟨by decide, fun _ => ⟨rfl, rfl⟩⟩
 ·rw [if_neg h, if_pos (by omega)]
  exact ⟨by decide, fun h0 => by simp at h0⟩
theorem chn_setD (k : Int) (s s' s'' : Nat → Bool) : Chn (setD k s s') (setD k s' s'') (setD k s s'') := by
 unfold setD
 by_cases h : k = 3
 ·rw [if_pos h, if_pos h, if_pos h]
  exact chn_sets s s' s''
 ·rw [if_neg h, if_neg h, if_neg h]
  exact fun _ _ => ⟨by decide, fun _ => ⟨rfl, rfl⟩⟩
theorem lex_zero (l : Int) : lex 0 l = l := rfl
theorem lex_ne {d : Int} (l : Int) (h : d ≠ 0) : lex d l = d := if_neg h
theorem cmpT_lex (k k' : Int) (s s' : Nat → Bool) (l l' : List T) : cmpT (.node k s l) (.node k' s' l') = lex (kindD k k') (lex (setD k s s') (cmpL l l')) := by
 simp only [cmpT]
 by_cases hk : k = k'
 ·have e1 : kindD k k' = 0 := if_pos hk
  rw [if_pos hk, e1, lex_zero]
  by_cases h3 : k = 3
  ·cases e : eqS s s' with
   | true =>
    have e2 : setD k s s' = 0 := by unfold setD; rw [if_pos h3, e]; rfl
    rw [if_neg (by rintro ⟨_, h⟩; cases h), e2, lex_zero]
   | false =>
    have e2 : setD k s s' = if lessS s s' then -1 else 1 := by unfold setD; rw [if_pos h3, e]; rfl
    rw [if_pos ⟨h3, rfl⟩, e2, lex_ne]
    cases lessS s s' <;> decide
  ·have e2 : setD k s s' = 0 := if_neg h3
   rw [if_neg (fun h => h3 h.1), e2, lex_zero]
 ·have e1 : kindD k k' = if k < k' then -1 else 1 := if_neg hk
  rw [if_neg hk, e1, lex_ne]
  by_cases h : k < k'
  ·rw [if_pos h]; decide
  ·rw [if_neg h]; decide
mutual
theorem cmpT_chain : ∀ t u v : T, Chn (cmpT t u) (cmpT u v) (cmpT t v)
 | .node k s l, .node k' s' l', .node k'' s'' l'' => by
  have hl := cmpL_chain l l' l''
  rw [cmpT_lex, cmpT_lex, cmpT_lex]
  intro hx hy
  have hk := chn_kind k k' k''
  by_cases h1 : k = k'
  ·subst h1
   exact chn_lex hk (chn_lex (chn_setD k s s' s'') hl) hx hy
  ·have hx0 : kindD k k' ≠ 0 := by
    unfold kindD
    rw [if_neg h1]
    split <;> decide
   have hx1 : kindD k k' ≤ 0 := by
    unfold lex at hx
    rw [if_neg hx0] at hx
    exact hx
   have hy1 : kindD k' k'' ≤ 0 := by
    unfold lex at hy
    by_cases e : kindD k' k'' = 0
    ·omega
    ·rw [if_neg e] at hy; exact hy
   have hz := hk hx1 hy1
   have ez : kindD k k'' ≠ 0 := fun h => hx0 (hz.2 h).1
   have e : lex (kindD k k'') (lex (setD k s s'') (cmpL l l'')) = kindD k k'' := by unfold lex; rw [if_neg ez]
   rw [e]
   exact ⟨hz.1, fun h => absurd h ez⟩
theorem cmpL_chain : ∀ l m n : List T, Chn (cmpL l m) (cmpL m n) (cmpL l n)
 | [], [], n => fun hx hy => ⟨hy, fun h => ⟨rfl, h⟩⟩
 | [], _ :: _, [] => fun _ hy => by simp [cmpL] at hy
 | [], _ :: _, _ :: _ => fun _ _ => ⟨by simp [cmpL], fun h => by simp [cmpL] at h⟩
 | _ :: _, [], _ => fun hx _ => by simp [cmpL] at hx
 | _ :: _, _ :: _, [] => fun _ hy => by simp [cmpL] at hy
 | a :: r, b :: s, c :: t => by
  have h := cmpT_chain a b c
  have hr := cmpL_chain r s t
  have := chn_lex h hr
  unfold lex at this
  simp only [cmpL]
  exact this
end
theorem cmpT_trans {t u v : T} (h : cmpT t u < 0) (k : cmpT u v ≤ 0) : cmpT t v < 0 := by
 have := cmpT_chain t u v (by omega) k
 rcases cmpT_three t v with h1 | h1 | h1
 ·omega
 ·have := (this.2 h1).1; omega
 ·omega
theorem cmpT_trans' {t u v : T} (h : cmpT t u ≤ 0) (k : cmpT u v < 0) : cmpT t v < 0 := by
 have := cmpT_chain t u v h (by omega)
 rcases cmpT_three t v with h1 | h1 | h1
 ·omega
 ·have := (this.2 h1).2; omega
 ·omega
theorem OwnT.rowD {D : Nat → Prop} {base : Nat} {w : World} {v : Value} {l : List T} (h : OwnT D base w v l) : RowD (fun b => (D b ∨ base ≤ b) ∧ b < w.heap.size) w v l := by
 obtain ⟨v', he, hr⟩ := (h.rx 0 zeroS).row
 have : v' = v := by
  simp only [List.cons.injEq, true_and] at he
  have := List.append_cancel_left he
  simpa using this.symm
 rwa [this] at hr
def wrapT (k : Int) (n : T) : List T → T
 | [] => n
 | [t] => t
 | a :: b :: r => .node k zeroS (a :: b :: r)
theorem wrapT_many (k : Int) (n : T) (l : List T) (h : 2 ≤ l.length) : wrapT k n l = .node k zeroS l := by
 match l, h with
 | a :: b :: r, _ => rfl
def anyK (k : Int) (l : List T) : Bool := l.any fun t => decide (t.kind = k)
def catT (l : List T) : T := if anyK 1 (flatT 4 l) then noneT else wrapT 4 emptyT (withoutT 2 (flatT 4 l))
theorem wrapT_nodes (k : Int) (n : T) : ∀ l : List T, (wrapT k n l).nodes ≤ 1 + n.nodes + nodesL l
 | [] => by simp only [wrapT, nodesL]; omega
 | [t] => by simp only [wrapT, nodesL]; omega
 | a :: b :: r => by
  rw [wrapT_many k n _ (by simp)]
  simp only [T.nodes]
  omega
theorem catT_nodes (l : List T) : (catT l).nodes ≤ 2 + nodesL l := by
 unfold catT
 have h1 := wrapT_nodes 4 emptyT (withoutT 2 (flatT 4 l))
 have h2 := withoutT_nodes 2 (flatT 4 l)
 have h3 := flatT_nodes 4 l
 have h4 : emptyT.nodes = 1 := rfl
 have h5 : noneT.nodes = 1 := rfl
 split <;> omega
def nthT (l : List T) (i : Nat) : T := l.getD i noneT
theorem nthT_some {l : List T} {i : Nat} (h : i < l.length) : l[i]? = some (nthT l i) := by
 unfold nthT
 rw [List.getD_eq_getElem?_getD, List.getElem?_eq_getElem h]
 rfl
def ddU (l : List T) (i : Nat) : List T := (List.range i).filterMap fun j => if j = 0 ∨ cmpT (nthT l j) (nthT l (j - 1)) ≠ 0 then some (nthT l j) else none
theorem ddU_next (l : List T) (i : Nat) : ddU l (i + 1) = ddU l i ++ if i = 0 ∨ cmpT (nthT l i) (nthT l (i - 1)) ≠ 0 then [nthT l i] else [] := by
 unfold ddU
 rw [List.range_succ, List.filterMap_append]
 congr 1
 by_cases h : i = 0 ∨ cmpT (nthT l i) (nthT l (i - 1)) ≠ 0
 ·simp only [List.filterMap_cons, if_pos h, List.filterMap_nil]
 ·simp only [List.filterMap_cons, if_neg h, List.filterMap_nil]
theorem ddU_all (l : List T) : ∀ i, i ≤ l.length → (∀ j, 0 < j → j < i → cmpT (nthT l j) (nthT l (j - 1)) ≠ 0) → ddU l i = l.take i
 | 0, _, _ => by simp [ddU]
 | i + 1, hi, h => by
  have ih := ddU_all l i (by omega) fun j h0 hj => h j h0 (by omega)
  rw [ddU_next, ih, if_pos, List.take_succ_eq_append_getElem (by omega)]
  ·congr 2
   have := nthT_some (l := l) (i := i) (by omega)
   rw [List.getElem?_eq_getElem (by omega)] at this
   exact (Option.some.inj this).symm
  ·rcases Nat.eq_zero_or_pos i with h0 | h0
   ·exact .inl h0
   ·exact .inr (h i h0 (by omega))
def ThereT (w : World) (g n : Nat) : Prop := ∀ j, j < n → w.there g (j * 6) 6
theorem grown_setCells {w w' : World} {g : Nat} (h : w.grownBy w' (some g)) (o : Nat) (vs : List Value) : w.grownBy (w'.setCells g o vs) (some g) := by
 induction vs generalizing o w' with
 | nil => exact h
 | cons v r ih =>
  refine ih (w' := w'.setCell ⟨g, o, none⟩ v) ⟨h.os, h.tape, h.output, ?_, fun k hk hne => ?_⟩ (o + 1)
  ·have := h.size
   simpa [World.setCell] using this
  ·rw [← h.block k hk hne]
   exact Below.heap_setCell w' ⟨g, o, none⟩ v k fun e => hne (by rw [e])
theorem there_below {w w' : World} {B g o n : Nat} (h : w.there g o n) (hb : Below B w w') (hg : g < B) : w'.there g o n := fun j hj => by
 have h1 := h j hj
 have e := hb.block g hg
 refine ⟨?_, ?_⟩
 ·have : w'.cell? ⟨g, o + j, none⟩ = w.cell? ⟨g, o + j, none⟩ := hb.cell (p := ⟨g, o + j, none⟩) hg
  rw [this]
  exact h1.1
 ·have h2 := h1.2
  unfold World.frozen? at h2 ⊢
  simp only [e]
  exact h2
theorem ThereT.all {w : World} {g n : Nat} (h : ThereT w g n) (o m : Nat) (hm : o + m ≤ n * 6) : w.there g o m := fun j hj => by
 have hk : (o + j) / 6 < n := by omega
 have := h ((o + j) / 6) hk ((o + j) % 6) (Nat.mod_lt _ (by omega))
 rw [show (o + j) / 6 * 6 + (o + j) % 6 = o + j by omega] at this
 exact this
theorem grown_below {w w1 w2 : World} {g B : Nat} (h : w.grownBy w1 (some g)) (hb : Below B w1 w2) (hB : w1.heap.size ≤ B) : w.grownBy w2 (some g) :=
 ⟨hb.os.trans h.os, hb.tape.trans h.tape, hb.output.trans h.output, Nat.le_trans h.size hb.size, fun k hk hne => (hb.block k (by have := h.size; omega)).trans (h.block k hk hne)⟩
section
variable {w : World} {ops : Array Oper} {rest : List Oper} {o : Oper} {a : Act} {Q : Exit → Act → World → Prop}
theorem wpList_clearT (hgd : o.guard = none) (x : Operand) (ho : o.op = .call { callee := .builtin .clear, args := #[x], argTypes := #[27] }) (g off s c : Nat) (hx : a.eval x = .slice (some ⟨g, off, none⟩) s c) (hs : 0 < s) (ht : w.there g off (s * 6))
  (h : ∀ zs : List Value, zs.length = s * 6 → wpList Tryz.prog ops Q rest (a.put o.dst (.tuple #[])) (w.setCells g off zs)) : wpList Tryz.prog ops Q (o :: rest) a w := by
 obtain ⟨i, hi, hz, hsz, hby⟩ := inf_rx'
 obtain ⟨s', rfl⟩ : ∃ s', s = s' + 1 := ⟨s - 1, by omega⟩
 obtain ⟨zs, hzs⟩ : ∃ zs, zs = (Builtin.zeroCells (Value.agg (rxc 0 zeroS (.slice none 0 0)).toArray).cells (s' + 1)).toList := ⟨_, rfl⟩
 have hl : zs.length = (s' + 1) * 6 := by
  have hzc : (Value.agg (rxc 0 zeroS (.slice none 0 0)).toArray).cells.size = 6 := by simp [Value.cells, rxc, wds]
  rw [hzs, Array.length_toList, size_zeroCells, hzc]
 have h1 : ∀ v ∈ zs, v.oneCell' = true := fun v hv => by
  rw [hzs] at hv
  simp only [Builtin.zeroCells, Array.toList_map, List.mem_map] at hv
  obtain ⟨j, _, rfl⟩ := hv
  simp only [Value.cells, rxc, wds]
  match j % (#[Value.int .i64 0, .int .u64 (word zeroS 0 : Int), .int .u64 (word zeroS 1 : Int), .int .u64 (word zeroS 2 : Int), .int .u64 (word zeroS 3 : Int), .slice none 0 0] : Array Value).size, Nat.mod_lt j (show 0 < (#[Value.int .i64 0, .int .u64 (word zeroS 0 : Int), .int .u64 (word zeroS 1 : Int), .int .u64 (word zeroS 2 : Int), .int .u64 (word zeroS 3 : Int), .slice none 0 0] : Array Value).size by decide) with
  | 0, _ => rfl
  | 1, _ => rfl
  | 2, _ => rfl
  | 3, _ => rfl
  | 4, _ => rfl
  | 5, _ => rfl
 have hrun := run_storeCells_cells (P := Tryz.prog) g off zs 0 w (fun j hj => by simpa using (ht j (by omega)).1) (fun j hj => by simpa using (ht j (by omega)).2) h1
 rw [Nat.add_zero] at hrun
 refine wpList_plain hgd fun K hK => ?_
 unfold Oper.wp execOp
 have hc : (Builtin.clear_ #[27] o.type #[.slice (some ⟨g, off, none⟩) (s' + 1) c]).run Tryz.prog w = .ok (.tuple #[]) (w.setCells g off zs) := by
  rw [hzs] at hrun ⊢
  simp [Builtin.clear_, run_underlying Tryz.underlying27, zeroValue, typeInfo, hi, hz, hrun]
 simp only [ho, resolve, invoke, builtin, Sem.run_bind, Sem.run_pure, Result.andThen_ok, List.map_toArray, List.map_cons, List.map_nil, hx, hc]
 exact hK _ _ (h zs hl)
end
theorem atClear (x : Tmp) {P : Program} {w : World} {ops : Array Oper} {rest : List Oper} {t ty : TypeId} {p : String} {af : Array Edge} {g : Option (Tmp × Bool)} {a : Act} {Q : Exit → Act → World → Prop}
  (h : wpList P ops Q (⟨none, .call { callee := .builtin .clear, args := #[.tmp x], argTypes := #[t] }, ty, p, af, g⟩ :: rest) a w) : wpList P ops Q (⟨none, .call { callee := .builtin .clear, args := #[.tmp x], argTypes := #[t] }, ty, p, af, g⟩ :: rest) a w := h
theorem six_apart {j a n : Nat} {cs : List Value} (hc : cs.length = 6) (hn : n = 6) (h : j ≠ a) : j * 6 + cs.length ≤ a * 6 ∨ a * 6 + n ≤ j * 6 := by omega
theorem six_below {j a : Nat} {cs : List Value} (hc : cs.length = 6) (h : j < a) : j * 6 + cs.length ≤ a * 6 := by omega
theorem sub_next {m q : Nat} (h : q < m) : m - (q + 1) < m - q := by omega
theorem pred_add {k q r : Nat} (h : q = r + 1) : k + q - 1 = k + r := by omega
theorem below_n {a k q n : Nat} (h : a + 1 ≤ k + q) (h2 : k + q < n) : a < n := by omega
theorem sum_ne {k q : Nat} (h : 1 ≤ k) : k + q ≠ 0 := by omega
theorem back_one {k q j : Nat} (h : k + (q + 1) ≤ j + 1) : k + q ≤ j + 1 := by omega
theorem not_at {k q j a : Nat} (h : k + (q + 1) ≤ j + 1) (ha : a + 1 ≤ k + q) : j ≠ a := by omega
theorem lt_of_ne {j a : Nat} (h : j < a + 1) (hne : j ≠ a) : j < a := by omega
theorem last_one {j n : Nat} {t : T} {l : List T} (hl : n = l.length) {u : T} (h : (l ++ [u])[j]? = some t) (hne : j ≠ n) : j < l.length := by
 have h3 := (List.getElem?_eq_some_iff.1 h).1
 rw [List.length_append] at h3
 simp at h3
 omega
theorem OwnT.mid {D : Nat → Prop} {base : Nat} {w : World} {v : Value} {l : List T} (h : OwnT D base w v l) (hne : 0 < l.length) :
  ∃ (g cap : Nat) (f : Nat → List Value), v = .slice (some ⟨g, 0, none⟩) l.length cap ∧ base ≤ g ∧ g < w.heap.size ∧ l.length ≤ cap ∧ cap ≤ maxLen ∧ ThereT w g l.length ∧ (∀ i, i < l.length → w.rangeAt g (i * 6) (f i)) ∧
   ∀ i t, l[i]? = some t → RxD (fun k => D k ∧ k < w.heap.size ∧ k ≠ g) w (f i) t := by
 obtain ⟨cells, h1, h2, h3, h4⟩ := h
 rcases h3.2 with ⟨_, h0⟩ | ⟨g, cap, cur, rfl, hb, hg, hn, hm, hs, ht⟩
 ·omega
 have hlt : g < w.heap.size := (Array.getElem?_eq_some_iff.1 hg).1
 refine ⟨g, cap, fun i => cells.getD i [], rfl, hb, hlt, hn, hm, fun j hj i hi => ⟨?_, by simp [World.frozen?, hg]⟩, fun i hi j u hu => ?_, fun i t hti => ?_⟩
 ·have hji : j * 6 + i < cur.size := by omega
  rw [cell_of_row w g (j * 6 + i) cur _ (0, 0) hg, Array.getElem?_eq_getElem hji]
  rfl
 ·have hic : i < cells.length := by omega
  have hci : cells[i]? = some cells[i] := List.getElem?_eq_getElem hic
  have e0 : cells.getD i [] = cells[i] := by simp [List.getD, hci]
  have hu : (cells.getD i [])[j]? = some u := hu
  rw [e0] at hu
  have hj : j < 6 := by rw [← h2 cells[i] (List.getElem_mem hic)]; exact (List.getElem?_eq_some_iff.1 hu).1
  have e1 := flat6_get h2 hci j hj
  rw [hu, ← ht, List.getElem?_take, if_pos (by omega), Array.getElem?_toList] at e1
  rw [cell_of_row w g _ cur _ (0, 0) hg, e1]
 ·have hic : i < cells.length := by rw [h1]; exact (List.getElem?_eq_some_iff.1 hti).1
  have hci : cells[i]? = some cells[i] := List.getElem?_eq_getElem hic
  have e0 : cells.getD i [] = cells[i] := by simp [List.getD, hci]
  show RxD _ w (cells.getD i []) t
  rw [e0]
  exact (h4 i cells[i] t hci hti).mono fun k hk => ⟨hk.1, hk.2.1, fun e => hk.2.2 (by rw [e]; rfl)⟩
def canS (s : Nat → Bool) : Prop := ∀ b, 256 ≤ b → s b = false
mutual
def canT : T → Prop
 | .node _ s l => canS s ∧ canL l
def canL : List T → Prop
 | [] => True
 | t :: r => canT t ∧ canL r
end
def fitsT (p k : Int) : Bool := if p = 2 then decide (k = 5) else decide (p ≠ 1) && decide (p ≠ k)
def countT (k : Int) (s : Nat → Bool) (n : Nat) : Bool :=
 if k = 3 then !eqS s zeroS && decide (n = 0) else if k = 1 ∨ k = 2 then decide (n = 0) else if k = 4 ∨ k = 5 then decide (2 ≤ n) else decide (k = 6) && decide (n = 1)
def folT (a b : T) : Bool := decide (cmpT b a < 0) && !(decide (a.kind = 3) && decide (b.kind = 3))
def ascF : List T → Bool
 | a :: b :: r => folT b a && ascF (b :: r)
 | _ => true
mutual
def plainT : T → Bool
 | .node k s l => (decide (k = 3) || eqS s zeroS) && countT k s l.length && plainL k l && (decide (k ≠ 5) || ascF l)
def plainL (k : Int) : List T → Bool
 | [] => true
 | a :: r => fitsT a.kind k && plainT a && plainL k r
end
theorem canL_iff : ∀ {l : List T}, canL l ↔ ∀ t ∈ l, canT t
 | [] => by simp [canL]
 | t :: r => by simp [canL, @canL_iff r]
theorem plainL_iff {k : Int} : ∀ {l : List T}, plainL k l = true ↔ ∀ t ∈ l, fitsT t.kind k = true ∧ plainT t = true
 | [] => by simp [plainL]
 | t :: r => by simp [plainL, @plainL_iff k r]
def good (t : T) : Prop := canT t ∧ plainT t = true
theorem good_node {k : Int} {s : Nat → Bool} {l : List T} : good (.node k s l) ↔ canS s ∧ (∀ t ∈ l, good t) ∧ (k = 3 ∨ eqS s zeroS = true) ∧ countT k s l.length = true ∧ (∀ t ∈ l, fitsT t.kind k = true) ∧ (k = 5 → ascF l = true) := by
 unfold good
 simp only [canT, plainT, canL_iff, Bool.and_eq_true, Bool.or_eq_true, decide_eq_true_eq, plainL_iff]
 constructor
 ·rintro ⟨⟨h1, h2⟩, ⟨⟨h3, h4⟩, h5⟩, h6⟩
  exact ⟨h1, fun t ht => ⟨h2 t ht, (h5 t ht).2⟩, h3, h4, fun t ht => (h5 t ht).1, fun h => by rcases h6 with h6 | h6; exact absurd h h6; exact h6⟩
 ·rintro ⟨h1, h2, h3, h4, h5, h6⟩
  refine ⟨⟨h1, fun t ht => (h2 t ht).1⟩, ⟨⟨h3, h4⟩, fun t ht => ⟨h5 t ht, (h2 t ht).2⟩⟩, ?_⟩
  by_cases h : k = 5
  ·exact .inr (h6 h)
  ·exact .inl h
theorem can_zero : canS zeroS := fun _ _ => rfl
theorem can_eq {s s' : Nat → Bool} (h : canS s) (h' : canS s') (he : eqS s s' = true) : s = s' := by
 funext b
 by_cases hb : b < 256
 ·exact (eqS_iff s s').1 he b hb
 ·rw [h b (by omega), h' b (by omega)]
mutual
theorem cmpT_eq : ∀ t u : T, good t → good u → cmpT t u = 0 → t = u
 | .node k s l, .node k' s' l', hg, hg', h => by
  obtain ⟨c1, c2, c3, _⟩ := good_node.1 hg
  obtain ⟨d1, d2, d3, _⟩ := good_node.1 hg'
  rw [cmpT_lex] at h
  have hk : kindD k k' = 0 := by
   by_cases e : kindD k k' = 0
   ·exact e
   ·rw [lex_ne _ e] at h; exact absurd h e
  have hkk : k = k' := by
   unfold kindD at hk
   by_cases e : k = k'
   ·exact e
   ·rw [if_neg e] at hk
    split at hk <;> simp at hk
  subst hkk
  rw [hk, lex_zero] at h
  have hs : setD k s s' = 0 := by
   by_cases e : setD k s s' = 0
   ·exact e
   ·rw [lex_ne _ e] at h; exact absurd h e
  rw [hs, lex_zero] at h
  have hss : s = s' := by
   refine can_eq c1 d1 ?_
   by_cases h3 : k = 3
   ·unfold setD at hs
    rw [if_pos h3] at hs
    cases e : eqS s s' with
    | true => rfl
    | false =>
     rw [e, if_pos rfl] at hs
     split at hs <;> simp at hs
   ·have e1 := (eqS_iff _ _).1 (c3.resolve_left h3)
    have e2 := (eqS_iff _ _).1 (d3.resolve_left h3)
    exact (eqS_iff _ _).2 fun b hb => (e1 b hb).trans (e2 b hb).symm
  rw [hss, cmpL_eq l l' c2 d2 h]
theorem cmpL_eq : ∀ l m : List T, (∀ t ∈ l, good t) → (∀ t ∈ m, good t) → cmpL l m = 0 → l = m
 | [], [], _, _, _ => rfl
 | [], _ :: _, _, _, h => by simp [cmpL] at h
 | _ :: _, [], _, _, h => by simp [cmpL] at h
 | a :: r, b :: s, hl, hm, h => by
  simp only [cmpL] at h
  have h0 : cmpT a b = 0 := by
   by_cases e : cmpT a b = 0
   ·exact e
   ·rw [if_neg e] at h; exact h
  rw [if_pos h0] at h
  rw [cmpT_eq a b (hl a (by simp)) (hm b (by simp)) h0, cmpL_eq r s (fun t ht => hl t (by simp [ht])) (fun t ht => hm t (by simp [ht])) h]
end
/-! ### rising lists -/
def Asc (l : List T) : Prop := l.Pairwise fun a b => cmpT a b < 0
theorem asc_ext : ∀ {l m : List T}, Asc l → Asc m → (∀ x, x ∈ l ↔ x ∈ m) → l = m
 | [], [], _, _, _ => rfl
 | [], b :: s, _, _, h => absurd ((h b).2 (by simp)) (by simp)
 | a :: r, [], _, _, h => absurd ((h a).1 (by simp)) (by simp)
 | a :: r, b :: s, hl, hm, h => by
  have hl' := List.pairwise_cons.1 hl
  have hm' := List.pairwise_cons.1 hm
  have hab : a = b := by
   rcases List.mem_cons.1 ((h a).1 (by simp)) with e | e
   ·exact e
   ·rcases List.mem_cons.1 ((h b).2 (by simp)) with e2 | e2
    ·exact e2.symm
    ·have h1 := hm'.1 a e
     have h2 := hl'.1 b e2
     have := cmpT_flip a b
     omega
  subst hab
  have hir : ∀ (x : T), cmpT x x < 0 → False := fun x hx => by rw [cmpT_self] at hx; omega
  rw [asc_ext hl'.2 hm'.2 fun x => ⟨fun hx => by
   rcases List.mem_cons.1 ((h x).1 (by simp [hx])) with e | e
   ·subst e; exact (hir x (hl'.1 x hx)).elim
   ·exact e, fun hx => by
   rcases List.mem_cons.1 ((h x).2 (by simp [hx])) with e | e
   ·subst e; exact (hir x (hm'.1 x hx)).elim
   ·exact e⟩]
def insT (r : T) : List T → List T
 | [] => [r]
 | a :: l => if cmpT a r < 0 then a :: insT r l else if cmpT a r = 0 then a :: l else r :: a :: l
theorem insT_mem {r : T} (hr : good r) : ∀ {l : List T}, (∀ t ∈ l, good t) → ∀ x, x ∈ insT r l ↔ x = r ∨ x ∈ l
 | [], _, x => by simp [insT]
 | a :: l, hl, x => by
  have ih := insT_mem hr (l := l) (fun t ht => hl t (by simp [ht])) x
  simp only [insT]
  by_cases h1 : cmpT a r < 0
  ·rw [if_pos h1, List.mem_cons, ih, List.mem_cons]
   constructor
   ·rintro (h | h | h)
    ·exact .inr (.inl h)
    ·exact .inl h
    ·exact .inr (.inr h)
   ·rintro (h | h | h)
    ·exact .inr (.inl h)
    ·exact .inl h
    ·exact .inr (.inr h)
  ·rw [if_neg h1]
   by_cases h2 : cmpT a r = 0
   ·rw [if_pos h2]
    have := cmpT_eq a r (hl a (by simp)) hr h2
    subst this
    simp
   ·rw [if_neg h2]
    simp
theorem insT_asc {r : T} : ∀ {l : List T}, Asc l → Asc (insT r l) ∧ ∀ x ∈ insT r l, x = r ∨ x ∈ l
 | [], _ => ⟨by simp [insT, Asc], by simp [insT]⟩
 | a :: l, hl => by
  have hl' := List.pairwise_cons.1 hl
  obtain ⟨i1, i2⟩ := insT_asc (r := r) hl'.2
  simp only [insT]
  by_cases h1 : cmpT a r < 0
  ·rw [if_pos h1]
   refine ⟨List.pairwise_cons.2 ⟨fun x hx => ?_, i1⟩, fun x hx => ?_⟩
   ·rcases i2 x hx with e | e
    ·subst e; exact h1
    ·exact hl'.1 x e
   ·rcases List.mem_cons.1 hx with e | e
    ·exact .inr (by simp [e])
    ·rcases i2 x e with e | e
     ·exact .inl e
     ·exact .inr (by simp [e])
  ·rw [if_neg h1]
   by_cases h2 : cmpT a r = 0
   ·rw [if_pos h2]
    exact ⟨hl, fun x hx => .inr hx⟩
   ·rw [if_neg h2]
    have hra : cmpT r a < 0 := by have := cmpT_flip a r; omega
    refine ⟨List.pairwise_cons.2 ⟨fun x hx => ?_, hl⟩, fun x hx => ?_⟩
    ·rcases List.mem_cons.1 hx with e | e
     ·subst e; exact hra
     ·exact cmpT_trans hra (by have := hl'.1 x e; omega)
    ·rcases List.mem_cons.1 hx with e | e
     ·exact .inl e
     ·exact .inr e
def sortU (l : List T) : List T := l.foldl (fun acc t => insT t acc) []
theorem sortU_snoc (l : List T) (t : T) : sortU (l ++ [t]) = insT t (sortU l) := by simp [sortU, List.foldl_append]
theorem sortU_asc : ∀ l : List T, Asc (sortU l) := by
 intro l
 have : ∀ (m acc : List T), Asc acc → Asc (m.foldl (fun acc t => insT t acc) acc) := by
  intro m
  induction m with
  | nil => intro acc h; exact h
  | cons t r ih => intro acc h; exact ih _ (insT_asc h).1
 exact this l [] List.Pairwise.nil
theorem sortU_mem {l : List T} (hl : ∀ t ∈ l, good t) : ∀ x, x ∈ sortU l ↔ x ∈ l := by
 have : ∀ (m acc : List T), (∀ t ∈ m, good t) → (∀ t ∈ acc, good t) → ∀ x, x ∈ m.foldl (fun acc t => insT t acc) acc ↔ x ∈ m ∨ x ∈ acc := by
  intro m
  induction m with
  | nil => intro acc _ _ x; simp
  | cons t r ih =>
   intro acc hm ha x
   have ht := hm t (by simp)
   have hmem := insT_mem ht ha
   rw [List.foldl_cons, ih _ (fun u hu => hm u (by simp [hu])) (fun u hu => by
    rcases (hmem u).1 hu with e | e
    ·rw [e]; exact ht
    ·exact ha u e) x, hmem x, List.mem_cons]
   constructor
   ·rintro (h | h | h)
    ·exact .inl (.inr h)
    ·exact .inl (.inl h)
    ·exact .inr h
   ·rintro ((h | h) | h)
    ·exact .inr (.inl h)
    ·exact .inl h
    ·exact .inr (.inr h)
 intro x
 rw [sortU, this l [] hl (by simp) x]
 simp
theorem nthT_mem {l : List T} {i : Nat} (h : i < l.length) : nthT l i ∈ l := List.mem_of_getElem? (nthT_some h)
theorem ddU_facts (l : List T) (hs : l.Pairwise fun a b => 0 ≤ cmpT b a) (hg : ∀ t ∈ l, good t) : ∀ i, i ≤ l.length →
  Asc (ddU l i) ∧ (∀ x, x ∈ ddU l i ↔ ∃ j, j < i ∧ x = nthT l j)
 | 0, _ => ⟨by simp [ddU, Asc], fun x => by simp [ddU]⟩
 | i + 1, hi => by
  obtain ⟨ih1, ih2⟩ := ddU_facts l hs hg i (by omega)
  have hle : ∀ j, j < i → cmpT (nthT l j) (nthT l i) ≤ 0 := fun j hj => by
   have h1 := List.pairwise_iff_getElem.1 hs j i (by omega) (by omega) hj
   have e1 := nthT_some (l := l) (i := j) (by omega)
   have e2 := nthT_some (l := l) (i := i) (by omega)
   rw [List.getElem?_eq_getElem (by omega)] at e1 e2
   rw [Option.some.inj e1, Option.some.inj e2] at h1
   have := cmpT_flip (nthT l j) (nthT l i)
   omega
  rw [ddU_next]
  by_cases hc : i = 0 ∨ cmpT (nthT l i) (nthT l (i - 1)) ≠ 0
  ·rw [if_pos hc]
   refine ⟨List.pairwise_append.2 ⟨ih1, List.pairwise_singleton _ _, fun x hx y hy => ?_⟩, fun x => ?_⟩
   ·obtain rfl := List.mem_singleton.1 hy
    obtain ⟨j, hj, rfl⟩ := (ih2 x).1 hx
    have h0 : i ≠ 0 := by omega
    have h1 := hc.resolve_left h0
    have h2 := hle (i - 1) (by omega)
    have h3 := cmpT_flip (nthT l (i - 1)) (nthT l i)
    have h4 : cmpT (nthT l (i - 1)) (nthT l i) < 0 := by omega
    by_cases hj2 : j = i - 1
    ·rw [hj2]; exact h4
    ·have h5 : cmpT (nthT l j) (nthT l (i - 1)) ≤ 0 := by
      have h1 := List.pairwise_iff_getElem.1 hs j (i - 1) (by omega) (by omega) (by omega)
      have e1 := nthT_some (l := l) (i := j) (by omega)
      have e2 := nthT_some (l := l) (i := i - 1) (by omega)
      rw [List.getElem?_eq_getElem (by omega)] at e1 e2
      rw [Option.some.inj e1, Option.some.inj e2] at h1
      have := cmpT_flip (nthT l j) (nthT l (i - 1))
      omega
     exact cmpT_trans' h5 h4
   ·rw [List.mem_append, List.mem_singleton, ih2]
    constructor
    ·rintro (⟨j, hj, h⟩ | h)
     ·exact ⟨j, by omega, h⟩
     ·exact ⟨i, by omega, h⟩
    ·rintro ⟨j, hj, h⟩
     by_cases hji : j = i
     ·rw [hji] at h; exact .inr h
     ·exact .inl ⟨j, by omega, h⟩
  ·rw [if_neg hc, List.append_nil]
   refine ⟨ih1, fun x => ?_⟩
   rw [ih2]
   constructor
   ·rintro ⟨j, hj, h⟩; exact ⟨j, by omega, h⟩
   ·rintro ⟨j, hj, h⟩
    by_cases hji : j = i
    ·have h0 : i ≠ 0 := fun e => hc (.inl e)
     have h1 : cmpT (nthT l i) (nthT l (i - 1)) = 0 := by
      by_cases e : cmpT (nthT l i) (nthT l (i - 1)) = 0
      ·exact e
      ·exact absurd (.inr e) hc
     have := cmpT_eq _ _ (hg _ (nthT_mem (by omega))) (hg _ (nthT_mem (by omega))) h1
     exact ⟨i - 1, by omega, by rw [h, hji, this]⟩
    ·exact ⟨j, by omega, h⟩
theorem ddU_sort {l m : List T} (hp : l.Perm m) (hs : l.Pairwise fun a b => 0 ≤ cmpT b a) (hg : ∀ t ∈ m, good t) : ddU l l.length = sortU m := by
 obtain ⟨h1, h2⟩ := ddU_facts l hs (fun t ht => hg t (hp.mem_iff.1 ht)) l.length (Nat.le_refl _)
 refine asc_ext h1 (sortU_asc m) fun x => ?_
 rw [h2, sortU_mem hg, ← hp.mem_iff]
 constructor
 ·rintro ⟨j, hj, rfl⟩; exact nthT_mem hj
 ·intro hx
  obtain ⟨j, hj⟩ := List.getElem?_of_mem hx
  have hlt := (List.getElem?_eq_some_iff.1 hj).1
  refine ⟨j, hlt, ?_⟩
  have := nthT_some hlt
  rw [hj] at this
  exact Option.some.inj this
end Go.Proofs.YtopnpdobcagcgaaGreat
