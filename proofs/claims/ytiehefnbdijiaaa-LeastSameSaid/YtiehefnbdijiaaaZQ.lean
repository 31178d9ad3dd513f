/-
  Texts of this proof, put together: LqU, LqV, LkH. No statement is proved here.
-/
import Derived.Test.YtiehefnbdijiaaaZK
import Derived.Test.YtiehefnbdijiaaaZP
import Derived.Test.YtiehefnbdijiaaaZF
import Derived.Test.YtiehefnbdijiaaaZH
namespace Go.Proofs.Ytiehefnbdijiaaa
open Go.RowKit
set_option linter.unusedSimpArgs false
set_option linter.unusedVariables false
def movN (m y i : Nat) : Nat := if i = 0 then 0 else 1 + (i - 1 + y) % m
def bakN (m y q : Nat) : Nat := if q = 0 then 0 else 1 + (q - 1 + (m - y)) % m
theorem movN_lt {m y i : Nat} (hm : 0 < m) : movN m y i < m + 1 := by
 unfold movN
 have := Nat.mod_lt (i - 1 + y) hm
 split <;> omega
theorem bakN_lt {m y q : Nat} (hm : 0 < m) : bakN m y q < m + 1 := by
 unfold bakN
 have := Nat.mod_lt (q - 1 + (m - y)) hm
 split <;> omega
theorem mov_bak {m y q : Nat} (hy : y < m) (hq : q < m + 1) : movN m y (bakN m y q) = q := by
 unfold movN bakN
 by_cases h : q = 0
 ·rw [if_pos h, if_pos rfl, h]
 ·rw [if_neg h, if_neg (by omega), show 1 + (q - 1 + (m - y)) % m - 1 = (q - 1 + (m - y)) % m by omega, Nat.mod_add_mod, show q - 1 + (m - y) + y = q - 1 + m by omega, Nat.add_mod_right, Nat.mod_eq_of_lt (by omega)]
  omega
theorem bak_mov {m y i : Nat} (hy : y < m) (hi : i < m + 1) : bakN m y (movN m y i) = i := by
 unfold movN bakN
 by_cases h : i = 0
 ·rw [if_pos h, if_pos rfl, h]
 ·rw [if_neg h, if_neg (by omega), show 1 + (i - 1 + y) % m - 1 = (i - 1 + y) % m by omega, Nat.mod_add_mod, show i - 1 + y + (m - y) = i - 1 + m by omega, Nat.add_mod_right, Nat.mod_eq_of_lt (by omega)]
  omega
theorem mov_inj {m y i j : Nat} (hy : y < m) (hi : i < m + 1) (hj : j < m + 1) (h : movN m y i = movN m y j) : i = j := by
 rw [← bak_mov hy hi, h, bak_mov hy hj]
def rowT (m y : Nat) (r : List Int) : List Int := r.map fun x => ((movN m y x.toNat : Nat) : Int)
def turD (D : Dm) (m y : Nat) (Eb : List Bool) : Dm := ⟨D.cl, (List.range D.next.length).map fun q => rowT m y (D.next.getD (bakN m y q) []), Eb⟩
theorem turD_next {D : Dm} {m y : Nat} {Eb : List Bool} {q : Nat} (hq : q < D.next.length) : (turD D m y Eb).next[q]? = some (rowT m y (D.next.getD (bakN m y q) [])) := by
 show ((List.range D.next.length).map _)[q]? = _
 simp [hq]
theorem turD_len (D : Dm) (m y : Nat) (Eb : List Bool) : (turD D m y Eb).next.length = D.next.length := by simp [turD]
structure TurI (D : Dm) (m y i : Nat) (U : Nat → Value) (X : Nat → List Value) (Eb : List Bool) : Prop where
 l0 : (X 0).length = m + 1
 x0 : ∀ j, j < i → (X 0)[movN m y j]? = some (U (j + 2))
 x1 : X 1 = bools Eb
 l1 : Eb.length = m + 1
 e : ∀ j b, j < i → D.ends[j]? = some b → Eb[movN m y j]? = some b
 xr : ∀ j r, j < i → D.next[j]? = some r → X (j + 2) = nums .i64 (rowT m y r)
section
variable {D : Dm} {m y i : Nat} {U : Nat → Value} {X : Nat → List Value} {Eb : List Bool}
theorem TurI.more (h : TurI D m y i U X Eb) {v : Value} {l : List Value} : TurI D m y i (putV U (2 + i) v) (putX X (2 + i) l) Eb := by
 refine ⟨by rw [putX_ne (by omega)]; exact h.l0, fun j hj => ?_, by rw [putX_ne (by omega)]; exact h.x1, h.l1, h.e, fun j r hj hr => ?_⟩
 ·rw [putX_ne (by omega), putV_ne (by omega)]
  exact h.x0 j hj
 ·rw [putX_ne (by omega)]
  exact h.xr j r hj hr
theorem TurI.done (h : TurI D m y i U X Eb) (hy : y < m) (hi : i < m + 1) {r : List Int} {b : Bool} (hr : D.next[i]? = some r) (hx : X (i + 2) = nums .i64 (rowT m y r)) (hb : D.ends[i]? = some b) :
  TurI D m y (i + 1) U (putX (putX X 0 ((X 0).set (movN m y i) (U (i + 2)))) 1 ((X 1).set (movN m y i) (.bool b))) (Eb.set (movN m y i) b) := by
 have hm : 0 < m := by omega
 have ne : ∀ j, j < i → movN m y i ≠ movN m y j := fun j hj e => by
  have := mov_inj hy hi (by omega) e
  omega
 refine ⟨?_, fun j hj => ?_, ?_, by rw [List.length_set]; exact h.l1, fun j c hj hc => ?_, fun j q hj hq => ?_⟩
 ·rw [putX_ne (by decide), putX_at, List.length_set]
  exact h.l0
 ·rw [putX_ne (by decide), putX_at]
  by_cases e : j = i
  ·subst e
   rw [List.getElem?_set_self (by rw [h.l0]; exact movN_lt hm)]
  ·rw [List.getElem?_set_ne (ne j (by omega))]
   exact h.x0 j (by omega)
 ·rw [putX_at, h.x1]
  simp [bools, List.map_set]
 ·by_cases e : j = i
  ·subst e
   rw [hb] at hc
   rw [List.getElem?_set_self (by rw [h.l1]; exact movN_lt hm)]
   exact hc
  ·rw [List.getElem?_set_ne (ne j (by omega))]
   exact h.e j c (by omega) hc
 ·rw [putX_ne (by omega), putX_ne (by omega)]
  by_cases e : j = i
  ·subst e
   rw [hr] at hq
   obtain rfl := Option.some.inj hq
   exact hx
  ·exact h.xr j q (by omega) hq
theorem TurI.zero (cn : Nat) (vn ve : Value) (hk : cn = m + 1) : TurI D m y 0 (fun i => if i = 0 then vn else if i = 1 then ve else .slice none 0 0) (fun i => if i = 0 then List.replicate cn (.slice none 0 0) else if i = 1 then List.replicate cn (.bool false) else []) (List.replicate cn false) :=
 ⟨by simp [hk], fun j hj => absurd hj (Nat.not_lt_zero j), by simp [bools], by simp [hk], fun j b hj => absurd hj (Nat.not_lt_zero j), fun j r hj => absurd hj (Nat.not_lt_zero j)⟩
theorem TurI.dfa {w : World} {H : Nat} (h : TurI D m y (m + 1) U X Eb) (hk : D.next.length = m + 1) (hy : y < m) (hm : MayD D) (hl : D.cl.length = 256) (ha : Apt w H (2 + (m + 1)) U X) : DfaV w (dcl D.cl (U 0) (U 1)) (turD D m y Eb) := by
 have hm0 : 0 < m := by omega
 have r0 : Row w (U 0) (X 0) := Row.of_own (ha.own 0 (by omega))
 have r1 : Row w (U 1) (X 1) := Row.of_own (ha.own 1 (by omega))
 have e0 : X 0 = (List.range (m + 1)).map fun q => U (bakN m y q + 2) := by
  apply List.ext_getElem?
  intro q
  by_cases hq : q < m + 1
  ·have h1 := h.x0 (bakN m y q) (bakN_lt hm0)
   rw [mov_bak hy hq] at h1
   rw [h1]
   simp [hq]
  ·rw [List.getElem?_eq_none (by rw [h.l0]; omega), List.getElem?_eq_none (by simp; omega)]
 refine ⟨hl, U 0, U 1, fun q => U (bakN m y q + 2), rfl, by rw [turD_len, hk, ← e0]; exact r0, fun q r hr => ?_, by rw [h.x1] at r1; exact r1⟩
 have hq : q < D.next.length := by
  have := (List.getElem?_eq_some_iff.1 hr).1
  rwa [turD_len] at this
 rw [turD_next hq] at hr
 obtain rfl := Option.some.inj hr
 have hb : bakN m y q < D.next.length := by rw [hk]; exact bakN_lt hm0
 have r2 : Row w (U (bakN m y q + 2)) (X (bakN m y q + 2)) := Row.of_own (ha.own (bakN m y q + 2) (by omega))
 have h1 := h.xr (bakN m y q) _ (by omega) (List.getElem?_eq_getElem hb)
 rw [List.getD_eq_getElem?_getD, List.getElem?_eq_getElem hb, Option.getD_some]
 rwa [h1] at r2
end
section
variable {P : Program} {ops : Array Oper} {Q : Exit → Act → World → Prop} {md : Region.Mode} {T S : World → Prop} {n : Nat}
theorem mc_three {i j k : Nat} {oi oj ok : Oper} {fuel : Nat} {listed : Array Bool} {a : Act} {w : World} (hi : ops[i]? = some oi) (hj : ops[j]? = some oj) (hk : ops[k]? = some ok) (hr : Region.ready md ops listed = [i, j, k])
  (hwi : Region.wanted oi (yielded ops a.tmps) = true) (hwj : Region.wanted oj (yielded ops a.tmps) = true) (hwk : Region.wanted ok (yielded ops a.tmps) = true)
  (h1 : ∀ K : Act → World → Prop, (∀ a' w', T w' → S w' → wpAnyC P md ops Q T S n fuel (listed.setIfInBounds i true) a' w' → K a' w') → oi.wp P a w K Q)
  (h2 : ∀ K : Act → World → Prop, (∀ a' w', T w' → S w' → wpAnyC P md ops Q T S n fuel (listed.setIfInBounds j true) a' w' → K a' w') → oj.wp P a w K Q)
  (h3 : ∀ K : Act → World → Prop, (∀ a' w', T w' → S w' → wpAnyC P md ops Q T S n fuel (listed.setIfInBounds k true) a' w' → K a' w') → ok.wp P a w K Q) :
  wpAnyC P md ops Q T S n (fuel + 1) listed a w := by
 refine ⟨fun h0 => (by rw [hr] at h0; cases h0), fun x hx => ?_⟩
 rw [hr] at hx
 have hx2 : x = i ∨ x = j ∨ x = k := by simpa using hx
 unfold wpOp
 rcases hx2 with rfl | rfl | rfl
 ·rw [hi]
  simp only [hwi, if_true]
  exact .inl (h1 _ fun a' w' ht hs hk => ⟨ht, fun _ _ => hs, hk⟩)
 ·rw [hj]
  simp only [hwj, if_true]
  exact .inl (h2 _ fun a' w' ht hs hk => ⟨ht, fun _ _ => hs, hk⟩)
 ·rw [hk]
  simp only [hwk, if_true]
  exact .inl (h3 _ fun a' w' ht hs hk => ⟨ht, fun _ _ => hs, hk⟩)
end
theorem built_ptS (A B C : Option Addr) (n c : Nat) : Try.prog.built 67 [(1, .slice A n c), (2, .slice B n c), (3, .slice C n c)] = some #[.slice none 0 0, .slice A n c, .slice B n c, .slice C n c] := by kernel_rfl
theorem ex_bldPt {ev : Operand → Value} {o : Oper} (x y z : Operand) (ho : o.op = .build 67 #[(1, x), (2, y), (3, z)]) {A B C : Option Addr} {n c : Nat} (hx : ev x = .slice A n c) (hy : ev y = .slice B n c) (hz : ev z = .slice C n c) (W : World) : (execOp ev o).run Try.prog W = .ok (.value (.agg #[.slice none 0 0, .slice A n c, .slice B n c, .slice C n c])) W := by
 have h := built_ptS A B C n c
 have hr := run_build W 67 _ _ h
 unfold execOp
 simp only [ho, Sem.run_bind, List.map_toArray, List.map_cons, List.map_nil, hx, hy, hz, hr, Result.andThen_ok, Sem.run_pure]
theorem oneEndP {H X : Nat → Nat → Nat → Nat → World → Prop} {G : Prop} (main : (∀ p a b c w', H p a b c w' → X p a b c w') → G) (fin : ∀ p a b c w', H p a b c w' → X p a b c w') : G := main fin
theorem prt_one (n : Nat) : prt n (fun _ => 0) 0 = List.range n := by
 unfold prt
 rw [List.filter_eq_self]
 intro s _
 rfl
theorem apt_blks {w : World} {H m : Nat} {G : Nat → Nat} {X : Nat → List Value} (h : ∀ i, i < m → Blk w (G i) (tyU i) (X i)) (hH : ∀ i, i < m → H ≤ G i) (hl : ∀ i, i < m → (X i).length ≤ 2000) (hj : ∀ i j, i < m → j < m → G i = G j → i = j) : Apt w H m (fun i => .slice (some ⟨G i, 0, none⟩) (X i).length (X i).length) X := by
 refine ⟨fun i hi => (h i hi).own (hH i hi) (by have := hl i hi; unfold maxLen; omega), fun i j hi hj2 hne k hk hk2 => ?_⟩
 have e1 : some (G i) = some k := hk
 have e2 : some (G j) = some k := hk2
 exact hne (hj i j hi hj2 (Option.some.inj (e1.trans e2.symm)))
def five {α : Type} (a b c d e : α) : Nat → α
 | 0 => a
 | 1 => b
 | 2 => c
 | 3 => d
 | _ => e
theorem five_all {α : Type} {a b c d e : α} {P : Nat → α → Prop} (h0 : P 0 a) (h1 : P 1 b) (h2 : P 2 c) (h3 : P 3 d) (h4 : P 4 e) (i : Nat) (hi : i < 5) : P i (five a b c d e i) := by
 have : i = 0 ∨ i = 1 ∨ i = 2 ∨ i = 3 ∨ i = 4 := by omega
 rcases this with rfl | rfl | rfl | rfl | rfl
 ·exact h0
 ·exact h1
 ·exact h2
 ·exact h3
 ·exact h4
theorem ncs_range (n : Nat) : ncs n (fun q => q) = nat64 (List.range n) := by
 unfold nat64
 rw [ncs_nums]
def upI (i : Nat) : Nat → Nat := fun q => if q < i then q else 0
theorem upI_zero (n : Nat) : (ncs n fun _ => 0) = ncs n (upI 0) := ncs_congr fun q _ => by unfold upI; rw [if_neg (Nat.not_lt_zero q)]
theorem upI_next {n i : Nat} : ncs n (updN (upI i) i i) = ncs n (upI (i + 1)) := ncs_congr fun q _ => by
 unfold updN upI
 by_cases h : q = i
 ·rw [if_pos h, if_pos (by omega), h]
 ·rw [if_neg h]
  by_cases h2 : q < i
  ·rw [if_pos h2, if_pos (by omega)]
  ·rw [if_neg h2, if_neg (by omega)]
theorem upI_all {n : Nat} : ncs n (upI n) = nat64 (List.range n) := by
 rw [← ncs_range]
 exact ncs_congr fun q hq => by unfold upI; rw [if_pos hq]
theorem pt_made {w : World} {H p n gt gi ga gc gl : Nat} (hn : n ≤ 2000) (hp : Blk w p 67 [.slice (some ⟨gt, 0, none⟩) 1 1, .slice (some ⟨ga, 0, none⟩) n n, .slice (some ⟨gi, 0, none⟩) n n, .slice (some ⟨gc, 0, none⟩) n n])
  (ht : Blk w gt 38 [.slice (some ⟨gl, 0, none⟩) n n]) (ha : Blk w ga 3 (ncs n fun _ => 0)) (hi : Blk w gi 4 (bcs n fun _ => false)) (hc : Blk w gc 3 (ncs n fun _ => 0)) (hl : Blk w gl 3 (nat64 (List.range n)))
  (h0 : H ≤ p) (h1 : H ≤ ga) (h2 : H ≤ gi) (h3 : H ≤ gc) (h4 : H ≤ gl) (h5 : H ≤ gt) (n1 : ga ≠ gi) (n2 : ga ≠ gc) (n3 : gi ≠ gc) (n4 : ga ≠ p) (n5 : gi ≠ p) (n6 : gc ≠ p) (l1 : ga < gl) (l2 : gi < gl) (l3 : gc < gl) (l4 : p < gl) (l5 : gl < gt) :
  PtV w H p (fun k => H ≤ k ∧ k < w.heap.size) n 1 (fun _ => 0) (fun _ => false) (fun _ => 0) := by
 have hA : Apt w H 5 (fun i => .slice (some ⟨five gt gi ga gc gl i, 0, none⟩) (five [.slice (some ⟨gl, 0, none⟩) n n] (bcs n fun _ => false) (ncs n fun _ => 0) (ncs n fun _ => 0) (nat64 (List.range n)) i).length (five [.slice (some ⟨gl, 0, none⟩) n n] (bcs n fun _ => false) (ncs n fun _ => 0) (ncs n fun _ => 0) (nat64 (List.range n)) i).length) (five [.slice (some ⟨gl, 0, none⟩) n n] (bcs n fun _ => false) (ncs n fun _ => 0) (ncs n fun _ => 0) (nat64 (List.range n))) := by
  refine apt_blks (fun i hi5 => ?_) (fun i hi5 => ?_) (fun i hi5 => ?_) (fun i j hi5 hj5 e => ?_)
  ·have : i = 0 ∨ i = 1 ∨ i = 2 ∨ i = 3 ∨ i = 4 := by omega
   rcases this with rfl | rfl | rfl | rfl | rfl
   ·exact ht
   ·exact hi
   ·exact ha
   ·exact hc
   ·exact hl
  ·exact five_all (P := fun _ x => H ≤ x) h5 h2 h1 h3 h4 i hi5
  ·exact five_all (P := fun _ (x : List Value) => x.length ≤ 2000) (by simp) (by rw [bcs_len]; exact hn) (by rw [ncs_len]; exact hn) (by rw [ncs_len]; exact hn) (by rw [nat64_len, List.length_range]; exact hn) i hi5
  ·have q1 : i = 0 ∨ i = 1 ∨ i = 2 ∨ i = 3 ∨ i = 4 := by omega
   have q2 : j = 0 ∨ j = 1 ∨ j = 2 ∨ j = 3 ∨ j = 4 := by omega
   rcases q1 with rfl | rfl | rfl | rfl | rfl <;> rcases q2 with rfl | rfl | rfl | rfl | rfl <;> simp only [five] at e <;> omega
 refine ⟨⟨_, _, ⟨?_, hA, fun i hi5 e => ?_, h0, (by
  show [Value.slice (some ⟨gl, 0, none⟩) n n] = [Value.slice (some ⟨gl, 0, none⟩) (nat64 (List.range n)).length (nat64 (List.range n)).length]
  rw [nat64_len, List.length_range]), rfl, rfl, rfl, fun k hk => ?_⟩, fun k hk => ?_⟩, fun k hk => hk.1, fun k hk => hk.2⟩
 ·show Blk w p _ [.slice (some ⟨gt, 0, none⟩) 1 1, .slice (some ⟨ga, 0, none⟩) (ncs n fun _ => 0).length (ncs n fun _ => 0).length, .slice (some ⟨gi, 0, none⟩) (bcs n fun _ => false).length (bcs n fun _ => false).length, .slice (some ⟨gc, 0, none⟩) (ncs n fun _ => 0).length (ncs n fun _ => 0).length]
  rw [ncs_len, bcs_len]
  exact hp
 ·have e : some (five gt gi ga gc gl i) = some p := e
  have e2 := Option.some.inj e
  exact five_all (P := fun _ x => x ≠ p) (by omega) n5 n4 n6 (by omega) i hi5 e2
 ·obtain rfl : k = 0 := by omega
  show nat64 (List.range n) = _
  rw [prt_one]
 ·rcases hk with rfl | ⟨i, hi5, e⟩
  ·exact ⟨h0, hp.lt⟩
  ·have e2 := Option.some.inj (show some (five gt gi ga gc gl i) = some k from e)
   rw [← e2]
   exact five_all (P := fun _ x => H ≤ x ∧ x < w.heap.size) ⟨h5, ht.lt⟩ ⟨h2, hi.lt⟩ ⟨h1, ha.lt⟩ ⟨h3, hc.lt⟩ ⟨h4, hl.lt⟩ i hi5
set_option maxHeartbeats 8000000 in
set_option maxRecDepth 1000000 in
theorem lNew_any (n : Nat) (w : World) (hn : n ≤ 2000) (hp : 1 ≤ n) :
  Calls Try.prog 31 #[.int .i64 (n : Int)] w fun e w' => ∃ p, e = .returned (.pointer (some ⟨p, 0, none⟩)) ∧ PtV w' w.heap.size p (fun k => w.heap.size ≤ k ∧ k < w'.heap.size) n 1 (fun _ => 0) (fun _ => false) (fun _ => 0) ∧ Below w.heap.size w w' := by
 obtain ⟨i1, hi1, hy0, hy1, hy2⟩ := infoP inf_int
 obtain ⟨i2, hi2, hb0, hb1, hb2⟩ := infoP inf_bool
 obtain ⟨il, hil, hl0, hl1, hl2⟩ := infoP inf_sl
 have HNF := qH hn
 have HNP := qH hp
 have HYB := qH (show i2.bytes * n ≤ 281474976710656 by rw [hb2]; omega)
 have HYI := qH (show i1.bytes * n ≤ 281474976710656 by rw [hy2]; omega)
 have HN3 := qH (show n ≤ 9223372036854775807 by omega)
 clear hn hp
 go_enter Try.func31, Try.ntmps31
 go_wp2_with fail
 apply oneEndP (H := fun gp ga gi gc w' => Blk w' gp 67 [.slice none 0 0, .slice (some ⟨ga, 0, none⟩) n n, .slice (some ⟨gi, 0, none⟩) n n, .slice (some ⟨gc, 0, none⟩) n n] ∧ Blk w' ga 3 (List.replicate n (.int .i64 0)) ∧ Blk w' gi 4 (List.replicate n (.bool false)) ∧ Blk w' gc 3 (List.replicate n (.int .i64 0)) ∧ w.heap.size ≤ gp ∧ w.heap.size ≤ ga ∧ w.heap.size ≤ gi ∧ w.heap.size ≤ gc ∧ ga ≠ gi ∧ ga ≠ gc ∧ gi ≠ gc ∧ ga ≠ gp ∧ gi ≠ gp ∧ gc ≠ gp ∧ Below w.heap.size w w')
 case main =>
  intro fin
  have FIN := qH fin
  clear fin
  refine mc_start (fun V => Below w.heap.size w V) (fun _ => True) 9 (by kernel_rfl) (fun wd hwd => ?_)
  have hX : Below w.heap.size w wd := by rw [hwd]; exact (Below.refl _ _).drew
  clear hwd
  obtain ⟨v0, hv0⟩ : ∃ v : World, v = wd := ⟨_, rfl⟩
  subst hv0
  refine mc_take (i := 0) (oi := ⟨some 6, _, _, _, _, _⟩) (v := ?_) rfl (by kernel_rfl) (by kernel_rfl) (by kernel_rfl) (fun _ _ _ h => h) rfl hX ?_ ?_; rotate_left; (intro W hW; go_simp; try with_reducible rfl); simp only [Act.put, qA, qB, qC]
  refine mc_take (i := 2) (oi := ⟨some 8, _, _, _, _, _⟩) (v := ?_) rfl (by kernel_rfl) (by kernel_rfl) (by kernel_rfl) (fun _ _ _ h => h) rfl hX ?_ ?_; rotate_left; (intro W hW; go_simp; try with_reducible rfl); simp only [Act.put, qA, qB, qC]
  refine mc_take (i := 4) (oi := ⟨some 10, _, _, _, _, _⟩) (v := ?_) rfl (by kernel_rfl) (by kernel_rfl) (by kernel_rfl) (fun _ _ _ h => h) rfl hX ?_ ?_; rotate_left; (intro W hW; go_simp; try with_reducible rfl); simp only [Act.put, qA, qB, qC]
  refine mc_three (i := 1) (j := 3) (k := 5) (oi := ⟨some 7, _, _, _, _, _⟩) (oj := ⟨some 9, _, _, _, _, _⟩) (ok := ⟨some 11, _, _, _, _, _⟩) rfl rfl rfl (by kernel_rfl) rfl rfl rfl (fun K hK => ?_) (fun K hK => ?_) (fun K hK => ?_)
  ·refine wp_mk _ _ 38 rfl 3 i1 (.int .i64 0) Try.underlying38 hi1 hy0 hy1 rfl n rfl rfl HYI.out HN3.out ?_
   intro v1 hk hb _
   obtain ⟨ga, hg⟩ : ∃ g, g = v0.heap.size := ⟨_, rfl⟩
   rw [← hg] at hk
   rw [← hg]
   have G1_1 := qH hk
   have P1 := qH (show w.heap.size ≤ ga by rw [hg]; exact hX.size)
   have hX2 := hX.trans (hb.mono hX.size)
   clear hk hb hg
   refine hK _ _ hX2 trivial ?_
   clear hK K hX
   (try simp only [Act.put, qA, qB, qC])
   have hX := hX2
   clear hX2
   refine mc_two (i := 3) (j := 5) (oi := ⟨some 9, _, _, _, _, _⟩) (oj := ⟨some 11, _, _, _, _, _⟩) rfl rfl (by kernel_rfl) rfl rfl (fun K hK => ?_) (fun K hK => ?_)
   ·refine wp_mk _ _ 26 rfl 4 i2 (.bool false) Try.underlying26 hi2 hb0 hb1 rfl n rfl rfl HYB.out HN3.out ?_
    intro v2 hk hb _
    obtain ⟨gi, hg⟩ : ∃ g, g = v1.heap.size := ⟨_, rfl⟩
    rw [← hg] at hk
    rw [← hg]
    have G3_2 := qH hk
    have P3 := qH (show w.heap.size ≤ gi by rw [hg]; exact hX.size)
    have G1_2 := qH (G1_1.out.below hb G1_1.out.lt)
    have N13 := qH (show ga ≠ gi by rw [hg]; exact Nat.ne_of_lt G1_1.out.lt)
    have hX2 := hX.trans (hb.mono hX.size)
    clear hk hb hg
    refine hK _ _ hX2 trivial ?_
    clear hK K hX
    (try simp only [Act.put, qA, qB, qC])
    have hX := hX2
    clear hX2
    refine mc_actB (i := 5) (o := ⟨some 11, _, _, _, _, _⟩) rfl (by kernel_rfl) rfl (fun K hK => ?_)
    refine wp_mk _ _ 38 rfl 3 i1 (.int .i64 0) Try.underlying38 hi1 hy0 hy1 rfl n rfl rfl HYI.out HN3.out ?_
    intro v3 hk hb _
    obtain ⟨gc, hg⟩ : ∃ g, g = v2.heap.size := ⟨_, rfl⟩
    rw [← hg] at hk
    rw [← hg]
    have G5_3 := qH hk
    have P5 := qH (show w.heap.size ≤ gc by rw [hg]; exact hX.size)
    have G1_3 := qH (G1_2.out.below hb G1_2.out.lt)
    have N15 := qH (show ga ≠ gc by rw [hg]; exact Nat.ne_of_lt G1_2.out.lt)
    have G3_3 := qH (G3_2.out.below hb G3_2.out.lt)
    have N35 := qH (show gi ≠ gc by rw [hg]; exact Nat.ne_of_lt G3_2.out.lt)
    have hX2 := hX.trans (hb.mono hX.size)
    clear hk hb hg
    refine hK _ _ hX2 trivial ?_
    clear hK K hX
    (try simp only [Act.put, qA, qB, qC])
    have hX := hX2
    clear hX2
    refine mc_take (i := 6) (oi := ⟨some 12, _, _, _, _, _⟩) (v := .agg #[.slice none 0 0, .slice (some ⟨ga, 0, none⟩) n n, .slice (some ⟨gi, 0, none⟩) n n, .slice (some ⟨gc, 0, none⟩) n n]) rfl (by kernel_rfl) (by kernel_rfl) (by kernel_rfl) (fun _ _ _ h => h) rfl hX (fun V _ => ex_bldPt (.tmp 7) (.tmp 9) (.tmp 11) rfl rfl rfl rfl V) ?_; simp only [Act.put, qA, qB, qC]
    refine mc_actB (i := 7) (o := ⟨some 13, _, _, _, _, _⟩) rfl (by kernel_rfl) rfl (fun K hK => ?_)
    refine wp_box 67 _ rfl [.slice none 0 0, .slice (some ⟨ga, 0, none⟩) n n, .slice (some ⟨gi, 0, none⟩) n n, .slice (some ⟨gc, 0, none⟩) n n] rfl ?_
    intro v4 hk hb _
    obtain ⟨gp, hg⟩ : ∃ g, g = v3.heap.size := ⟨_, rfl⟩
    rw [← hg] at hk
    rw [← hg]
    have PP := qH (show w.heap.size ≤ gp by rw [hg]; exact hX.size)
    have G1_4 := qH (G1_3.out.below hb G1_3.out.lt)
    have M1 := qH (show ga ≠ gp by rw [hg]; exact Nat.ne_of_lt G1_3.out.lt)
    have G3_4 := qH (G3_3.out.below hb G3_3.out.lt)
    have M3 := qH (show gi ≠ gp by rw [hg]; exact Nat.ne_of_lt G3_3.out.lt)
    have G5_4 := qH (G5_3.out.below hb G5_3.out.lt)
    have M5 := qH (show gc ≠ gp by rw [hg]; exact Nat.ne_of_lt G5_3.out.lt)
    have hX2 := hX.trans (hb.mono hX.size)
    refine hK _ _ hX2 trivial ?_
    clear hK K hX hb hg
    (try simp only [Act.put, qA, qB, qC])
    have hX := hX2
    refine mc_take (i := 8) (oi := ⟨some 3, _, _, _, _, _⟩) (v := ?_) rfl (by kernel_rfl) (by kernel_rfl) (by kernel_rfl) (fun _ _ _ h => h) rfl hX ?_ ?_; rotate_left; (intro W hW; go_simp; try with_reducible rfl); simp only [Act.put, qA, qB, qC]
    refine wpAnyC_done (by kernel_rfl) ?_ _
    exact FIN.out gp ga gi gc v4 ⟨hk, G1_4.out, G3_4.out, G5_4.out, PP.out, P1.out, P3.out, P5.out, N13.out, N15.out, N35.out, M1.out, M3.out, M5.out, hX2⟩
   ·refine wp_mk _ _ 38 rfl 3 i1 (.int .i64 0) Try.underlying38 hi1 hy0 hy1 rfl n rfl rfl HYI.out HN3.out ?_
    intro v2 hk hb _
    obtain ⟨gc, hg⟩ : ∃ g, g = v1.heap.size := ⟨_, rfl⟩
    rw [← hg] at hk
    rw [← hg]
    have G5_2 := qH hk
    have P5 := qH (show w.heap.size ≤ gc by rw [hg]; exact hX.size)
    have G1_2 := qH (G1_1.out.below hb G1_1.out.lt)
    have N15 := qH (show ga ≠ gc by rw [hg]; exact Nat.ne_of_lt G1_1.out.lt)
    have hX2 := hX.trans (hb.mono hX.size)
    clear hk hb hg
    refine hK _ _ hX2 trivial ?_
    clear hK K hX
    (try simp only [Act.put, qA, qB, qC])
    have hX := hX2
    clear hX2
    refine mc_actB (i := 3) (o := ⟨some 9, _, _, _, _, _⟩) rfl (by kernel_rfl) rfl (fun K hK => ?_)
    refine wp_mk _ _ 26 rfl 4 i2 (.bool false) Try.underlying26 hi2 hb0 hb1 rfl n rfl rfl HYB.out HN3.out ?_
    intro v3 hk hb _
    obtain ⟨gi, hg⟩ : ∃ g, g = v2.heap.size := ⟨_, rfl⟩
    rw [← hg] at hk
    rw [← hg]
    have G3_3 := qH hk
    have P3 := qH (show w.heap.size ≤ gi by rw [hg]; exact hX.size)
    have G1_3 := qH (G1_2.out.below hb G1_2.out.lt)
    have N13 := qH (show ga ≠ gi by rw [hg]; exact Nat.ne_of_lt G1_2.out.lt)
    have G5_3 := qH (G5_2.out.below hb G5_2.out.lt)
    have N53 := qH (show gc ≠ gi by rw [hg]; exact Nat.ne_of_lt G5_2.out.lt)
    have hX2 := hX.trans (hb.mono hX.size)
    clear hk hb hg
    refine hK _ _ hX2 trivial ?_
    clear hK K hX
    (try simp only [Act.put, qA, qB, qC])
    have hX := hX2
    clear hX2
    refine mc_take (i := 6) (oi := ⟨some 12, _, _, _, _, _⟩) (v := .agg #[.slice none 0 0, .slice (some ⟨ga, 0, none⟩) n n, .slice (some ⟨gi, 0, none⟩) n n, .slice (some ⟨gc, 0, none⟩) n n]) rfl (by kernel_rfl) (by kernel_rfl) (by kernel_rfl) (fun _ _ _ h => h) rfl hX (fun V _ => ex_bldPt (.tmp 7) (.tmp 9) (.tmp 11) rfl rfl rfl rfl V) ?_; simp only [Act.put, qA, qB, qC]
    refine mc_actB (i := 7) (o := ⟨some 13, _, _, _, _, _⟩) rfl (by kernel_rfl) rfl (fun K hK => ?_)
    refine wp_box 67 _ rfl [.slice none 0 0, .slice (some ⟨ga, 0, none⟩) n n, .slice (some ⟨gi, 0, none⟩) n n, .slice (some ⟨gc, 0, none⟩) n n] rfl ?_
    intro v4 hk hb _
    obtain ⟨gp, hg⟩ : ∃ g, g = v3.heap.size := ⟨_, rfl⟩
    rw [← hg] at hk
    rw [← hg]
    have PP := qH (show w.heap.size ≤ gp by rw [hg]; exact hX.size)
    have G1_4 := qH (G1_3.out.below hb G1_3.out.lt)
    have M1 := qH (show ga ≠ gp by rw [hg]; exact Nat.ne_of_lt G1_3.out.lt)
    have G3_4 := qH (G3_3.out.below hb G3_3.out.lt)
    have M3 := qH (show gi ≠ gp by rw [hg]; exact Nat.ne_of_lt G3_3.out.lt)
    have G5_4 := qH (G5_3.out.below hb G5_3.out.lt)
    have M5 := qH (show gc ≠ gp by rw [hg]; exact Nat.ne_of_lt G5_3.out.lt)
    have hX2 := hX.trans (hb.mono hX.size)
    refine hK _ _ hX2 trivial ?_
    clear hK K hX hb hg
    (try simp only [Act.put, qA, qB, qC])
    have hX := hX2
    refine mc_take (i := 8) (oi := ⟨some 3, _, _, _, _, _⟩) (v := ?_) rfl (by kernel_rfl) (by kernel_rfl) (by kernel_rfl) (fun _ _ _ h => h) rfl hX ?_ ?_; rotate_left; (intro W hW; go_simp; try with_reducible rfl); simp only [Act.put, qA, qB, qC]
    refine wpAnyC_done (by kernel_rfl) ?_ _
    exact FIN.out gp ga gi gc v4 ⟨hk, G1_4.out, G3_4.out, G5_4.out, PP.out, P1.out, P3.out, P5.out, N13.out, N15.out, N53.out.symm, M1.out, M3.out, M5.out, hX2⟩
  ·refine wp_mk _ _ 26 rfl 4 i2 (.bool false) Try.underlying26 hi2 hb0 hb1 rfl n rfl rfl HYB.out HN3.out ?_
   intro v1 hk hb _
   obtain ⟨gi, hg⟩ : ∃ g, g = v0.heap.size := ⟨_, rfl⟩
   rw [← hg] at hk
   rw [← hg]
   have G3_1 := qH hk
   have P3 := qH (show w.heap.size ≤ gi by rw [hg]; exact hX.size)
   have hX2 := hX.trans (hb.mono hX.size)
   clear hk hb hg
   refine hK _ _ hX2 trivial ?_
   clear hK K hX
   (try simp only [Act.put, qA, qB, qC])
   have hX := hX2
   clear hX2
   refine mc_two (i := 1) (j := 5) (oi := ⟨some 7, _, _, _, _, _⟩) (oj := ⟨some 11, _, _, _, _, _⟩) rfl rfl (by kernel_rfl) rfl rfl (fun K hK => ?_) (fun K hK => ?_)
   ·refine wp_mk _ _ 38 rfl 3 i1 (.int .i64 0) Try.underlying38 hi1 hy0 hy1 rfl n rfl rfl HYI.out HN3.out ?_
    intro v2 hk hb _
    obtain ⟨ga, hg⟩ : ∃ g, g = v1.heap.size := ⟨_, rfl⟩
    rw [← hg] at hk
    rw [← hg]
    have G1_2 := qH hk
    have P1 := qH (show w.heap.size ≤ ga by rw [hg]; exact hX.size)
    have G3_2 := qH (G3_1.out.below hb G3_1.out.lt)
    have N31 := qH (show gi ≠ ga by rw [hg]; exact Nat.ne_of_lt G3_1.out.lt)
    have hX2 := hX.trans (hb.mono hX.size)
    clear hk hb hg
    refine hK _ _ hX2 trivial ?_
    clear hK K hX
    (try simp only [Act.put, qA, qB, qC])
    have hX := hX2
    clear hX2
    refine mc_actB (i := 5) (o := ⟨some 11, _, _, _, _, _⟩) rfl (by kernel_rfl) rfl (fun K hK => ?_)
    refine wp_mk _ _ 38 rfl 3 i1 (.int .i64 0) Try.underlying38 hi1 hy0 hy1 rfl n rfl rfl HYI.out HN3.out ?_
    intro v3 hk hb _
    obtain ⟨gc, hg⟩ : ∃ g, g = v2.heap.size := ⟨_, rfl⟩
    rw [← hg] at hk
    rw [← hg]
    have G5_3 := qH hk
    have P5 := qH (show w.heap.size ≤ gc by rw [hg]; exact hX.size)
    have G3_3 := qH (G3_2.out.below hb G3_2.out.lt)
    have N35 := qH (show gi ≠ gc by rw [hg]; exact Nat.ne_of_lt G3_2.out.lt)
    have G1_3 := qH (G1_2.out.below hb G1_2.out.lt)
    have N15 := qH (show ga ≠ gc by rw [hg]; exact Nat.ne_of_lt G1_2.out.lt)
    have hX2 := hX.trans (hb.mono hX.size)
    clear hk hb hg
    refine hK _ _ hX2 trivial ?_
    clear hK K hX
    (try simp only [Act.put, qA, qB, qC])
    have hX := hX2
    clear hX2
    refine mc_take (i := 6) (oi := ⟨some 12, _, _, _, _, _⟩) (v := .agg #[.slice none 0 0, .slice (some ⟨ga, 0, none⟩) n n, .slice (some ⟨gi, 0, none⟩) n n, .slice (some ⟨gc, 0, none⟩) n n]) rfl (by kernel_rfl) (by kernel_rfl) (by kernel_rfl) (fun _ _ _ h => h) rfl hX (fun V _ => ex_bldPt (.tmp 7) (.tmp 9) (.tmp 11) rfl rfl rfl rfl V) ?_; simp only [Act.put, qA, qB, qC]
    refine mc_actB (i := 7) (o := ⟨some 13, _, _, _, _, _⟩) rfl (by kernel_rfl) rfl (fun K hK => ?_)
    refine wp_box 67 _ rfl [.slice none 0 0, .slice (some ⟨ga, 0, none⟩) n n, .slice (some ⟨gi, 0, none⟩) n n, .slice (some ⟨gc, 0, none⟩) n n] rfl ?_
    intro v4 hk hb _
    obtain ⟨gp, hg⟩ : ∃ g, g = v3.heap.size := ⟨_, rfl⟩
    rw [← hg] at hk
    rw [← hg]
    have PP := qH (show w.heap.size ≤ gp by rw [hg]; exact hX.size)
    have G1_4 := qH (G1_3.out.below hb G1_3.out.lt)
    have M1 := qH (show ga ≠ gp by rw [hg]; exact Nat.ne_of_lt G1_3.out.lt)
    have G3_4 := qH (G3_3.out.below hb G3_3.out.lt)
    have M3 := qH (show gi ≠ gp by rw [hg]; exact Nat.ne_of_lt G3_3.out.lt)
    have G5_4 := qH (G5_3.out.below hb G5_3.out.lt)
    have M5 := qH (show gc ≠ gp by rw [hg]; exact Nat.ne_of_lt G5_3.out.lt)
    have hX2 := hX.trans (hb.mono hX.size)
    refine hK _ _ hX2 trivial ?_
    clear hK K hX hb hg
    (try simp only [Act.put, qA, qB, qC])
    have hX := hX2
    refine mc_take (i := 8) (oi := ⟨some 3, _, _, _, _, _⟩) (v := ?_) rfl (by kernel_rfl) (by kernel_rfl) (by kernel_rfl) (fun _ _ _ h => h) rfl hX ?_ ?_; rotate_left; (intro W hW; go_simp; try with_reducible rfl); simp only [Act.put, qA, qB, qC]
    refine wpAnyC_done (by kernel_rfl) ?_ _
    exact FIN.out gp ga gi gc v4 ⟨hk, G1_4.out, G3_4.out, G5_4.out, PP.out, P1.out, P3.out, P5.out, N31.out.symm, N15.out, N35.out, M1.out, M3.out, M5.out, hX2⟩
   ·refine wp_mk _ _ 38 rfl 3 i1 (.int .i64 0) Try.underlying38 hi1 hy0 hy1 rfl n rfl rfl HYI.out HN3.out ?_
    intro v2 hk hb _
    obtain ⟨gc, hg⟩ : ∃ g, g = v1.heap.size := ⟨_, rfl⟩
    rw [← hg] at hk
    rw [← hg]
    have G5_2 := qH hk
    have P5 := qH (show w.heap.size ≤ gc by rw [hg]; exact hX.size)
    have G3_2 := qH (G3_1.out.below hb G3_1.out.lt)
    have N35 := qH (show gi ≠ gc by rw [hg]; exact Nat.ne_of_lt G3_1.out.lt)
    have hX2 := hX.trans (hb.mono hX.size)
    clear hk hb hg
    refine hK _ _ hX2 trivial ?_
    clear hK K hX
    (try simp only [Act.put, qA, qB, qC])
    have hX := hX2
    clear hX2
    refine mc_actB (i := 1) (o := ⟨some 7, _, _, _, _, _⟩) rfl (by kernel_rfl) rfl (fun K hK => ?_)
    refine wp_mk _ _ 38 rfl 3 i1 (.int .i64 0) Try.underlying38 hi1 hy0 hy1 rfl n rfl rfl HYI.out HN3.out ?_
    intro v3 hk hb _
    obtain ⟨ga, hg⟩ : ∃ g, g = v2.heap.size := ⟨_, rfl⟩
    rw [← hg] at hk
    rw [← hg]
    have G1_3 := qH hk
    have P1 := qH (show w.heap.size ≤ ga by rw [hg]; exact hX.size)
    have G3_3 := qH (G3_2.out.below hb G3_2.out.lt)
    have N31 := qH (show gi ≠ ga by rw [hg]; exact Nat.ne_of_lt G3_2.out.lt)
    have G5_3 := qH (G5_2.out.below hb G5_2.out.lt)
    have N51 := qH (show gc ≠ ga by rw [hg]; exact Nat.ne_of_lt G5_2.out.lt)
    have hX2 := hX.trans (hb.mono hX.size)
    clear hk hb hg
    refine hK _ _ hX2 trivial ?_
    clear hK K hX
    (try simp only [Act.put, qA, qB, qC])
    have hX := hX2
    clear hX2
    refine mc_take (i := 6) (oi := ⟨some 12, _, _, _, _, _⟩) (v := .agg #[.slice none 0 0, .slice (some ⟨ga, 0, none⟩) n n, .slice (some ⟨gi, 0, none⟩) n n, .slice (some ⟨gc, 0, none⟩) n n]) rfl (by kernel_rfl) (by kernel_rfl) (by kernel_rfl) (fun _ _ _ h => h) rfl hX (fun V _ => ex_bldPt (.tmp 7) (.tmp 9) (.tmp 11) rfl rfl rfl rfl V) ?_; simp only [Act.put, qA, qB, qC]
    refine mc_actB (i := 7) (o := ⟨some 13, _, _, _, _, _⟩) rfl (by kernel_rfl) rfl (fun K hK => ?_)
    refine wp_box 67 _ rfl [.slice none 0 0, .slice (some ⟨ga, 0, none⟩) n n, .slice (some ⟨gi, 0, none⟩) n n, .slice (some ⟨gc, 0, none⟩) n n] rfl ?_
    intro v4 hk hb _
    obtain ⟨gp, hg⟩ : ∃ g, g = v3.heap.size := ⟨_, rfl⟩
    rw [← hg] at hk
    rw [← hg]
    have PP := qH (show w.heap.size ≤ gp by rw [hg]; exact hX.size)
    have G1_4 := qH (G1_3.out.below hb G1_3.out.lt)
    have M1 := qH (show ga ≠ gp by rw [hg]; exact Nat.ne_of_lt G1_3.out.lt)
    have G3_4 := qH (G3_3.out.below hb G3_3.out.lt)
    have M3 := qH (show gi ≠ gp by rw [hg]; exact Nat.ne_of_lt G3_3.out.lt)
    have G5_4 := qH (G5_3.out.below hb G5_3.out.lt)
    have M5 := qH (show gc ≠ gp by rw [hg]; exact Nat.ne_of_lt G5_3.out.lt)
    have hX2 := hX.trans (hb.mono hX.size)
    refine hK _ _ hX2 trivial ?_
    clear hK K hX hb hg
    (try simp only [Act.put, qA, qB, qC])
    have hX := hX2
    refine mc_take (i := 8) (oi := ⟨some 3, _, _, _, _, _⟩) (v := ?_) rfl (by kernel_rfl) (by kernel_rfl) (by kernel_rfl) (fun _ _ _ h => h) rfl hX ?_ ?_; rotate_left; (intro W hW; go_simp; try with_reducible rfl); simp only [Act.put, qA, qB, qC]
    refine wpAnyC_done (by kernel_rfl) ?_ _
    exact FIN.out gp ga gi gc v4 ⟨hk, G1_4.out, G3_4.out, G5_4.out, PP.out, P1.out, P3.out, P5.out, N31.out.symm, N51.out.symm, N35.out, M1.out, M3.out, M5.out, hX2⟩
  ·refine wp_mk _ _ 38 rfl 3 i1 (.int .i64 0) Try.underlying38 hi1 hy0 hy1 rfl n rfl rfl HYI.out HN3.out ?_
   intro v1 hk hb _
   obtain ⟨gc, hg⟩ : ∃ g, g = v0.heap.size := ⟨_, rfl⟩
   rw [← hg] at hk
   rw [← hg]
   have G5_1 := qH hk
   have P5 := qH (show w.heap.size ≤ gc by rw [hg]; exact hX.size)
   have hX2 := hX.trans (hb.mono hX.size)
   clear hk hb hg
   refine hK _ _ hX2 trivial ?_
   clear hK K hX
   (try simp only [Act.put, qA, qB, qC])
   have hX := hX2
   clear hX2
   refine mc_two (i := 1) (j := 3) (oi := ⟨some 7, _, _, _, _, _⟩) (oj := ⟨some 9, _, _, _, _, _⟩) rfl rfl (by kernel_rfl) rfl rfl (fun K hK => ?_) (fun K hK => ?_)
   ·refine wp_mk _ _ 38 rfl 3 i1 (.int .i64 0) Try.underlying38 hi1 hy0 hy1 rfl n rfl rfl HYI.out HN3.out ?_
    intro v2 hk hb _
    obtain ⟨ga, hg⟩ : ∃ g, g = v1.heap.size := ⟨_, rfl⟩
    rw [← hg] at hk
    rw [← hg]
    have G1_2 := qH hk
    have P1 := qH (show w.heap.size ≤ ga by rw [hg]; exact hX.size)
    have G5_2 := qH (G5_1.out.below hb G5_1.out.lt)
    have N51 := qH (show gc ≠ ga by rw [hg]; exact Nat.ne_of_lt G5_1.out.lt)
    have hX2 := hX.trans (hb.mono hX.size)
    clear hk hb hg
    refine hK _ _ hX2 trivial ?_
    clear hK K hX
    (try simp only [Act.put, qA, qB, qC])
    have hX := hX2
    clear hX2
    refine mc_actB (i := 3) (o := ⟨some 9, _, _, _, _, _⟩) rfl (by kernel_rfl) rfl (fun K hK => ?_)
    refine wp_mk _ _ 26 rfl 4 i2 (.bool false) Try.underlying26 hi2 hb0 hb1 rfl n rfl rfl HYB.out HN3.out ?_
    intro v3 hk hb _
    obtain ⟨gi, hg⟩ : ∃ g, g = v2.heap.size := ⟨_, rfl⟩
    rw [← hg] at hk
    rw [← hg]
    have G3_3 := qH hk
    have P3 := qH (show w.heap.size ≤ gi by rw [hg]; exact hX.size)
    have G5_3 := qH (G5_2.out.below hb G5_2.out.lt)
    have N53 := qH (show gc ≠ gi by rw [hg]; exact Nat.ne_of_lt G5_2.out.lt)
    have G1_3 := qH (G1_2.out.below hb G1_2.out.lt)
    have N13 := qH (show ga ≠ gi by rw [hg]; exact Nat.ne_of_lt G1_2.out.lt)
    have hX2 := hX.trans (hb.mono hX.size)
    clear hk hb hg
    refine hK _ _ hX2 trivial ?_
    clear hK K hX
    (try simp only [Act.put, qA, qB, qC])
    have hX := hX2
    clear hX2
    refine mc_take (i := 6) (oi := ⟨some 12, _, _, _, _, _⟩) (v := .agg #[.slice none 0 0, .slice (some ⟨ga, 0, none⟩) n n, .slice (some ⟨gi, 0, none⟩) n n, .slice (some ⟨gc, 0, none⟩) n n]) rfl (by kernel_rfl) (by kernel_rfl) (by kernel_rfl) (fun _ _ _ h => h) rfl hX (fun V _ => ex_bldPt (.tmp 7) (.tmp 9) (.tmp 11) rfl rfl rfl rfl V) ?_; simp only [Act.put, qA, qB, qC]
    refine mc_actB (i := 7) (o := ⟨some 13, _, _, _, _, _⟩) rfl (by kernel_rfl) rfl (fun K hK => ?_)
    refine wp_box 67 _ rfl [.slice none 0 0, .slice (some ⟨ga, 0, none⟩) n n, .slice (some ⟨gi, 0, none⟩) n n, .slice (some ⟨gc, 0, none⟩) n n] rfl ?_
    intro v4 hk hb _
    obtain ⟨gp, hg⟩ : ∃ g, g = v3.heap.size := ⟨_, rfl⟩
    rw [← hg] at hk
    rw [← hg]
    have PP := qH (show w.heap.size ≤ gp by rw [hg]; exact hX.size)
    have G1_4 := qH (G1_3.out.below hb G1_3.out.lt)
    have M1 := qH (show ga ≠ gp by rw [hg]; exact Nat.ne_of_lt G1_3.out.lt)
    have G3_4 := qH (G3_3.out.below hb G3_3.out.lt)
    have M3 := qH (show gi ≠ gp by rw [hg]; exact Nat.ne_of_lt G3_3.out.lt)
    have G5_4 := qH (G5_3.out.below hb G5_3.out.lt)
    have M5 := qH (show gc ≠ gp by rw [hg]; exact Nat.ne_of_lt G5_3.out.lt)
    have hX2 := hX.trans (hb.mono hX.size)
    refine hK _ _ hX2 trivial ?_
    clear hK K hX hb hg
    (try simp only [Act.put, qA, qB, qC])
    have hX := hX2
    refine mc_take (i := 8) (oi := ⟨some 3, _, _, _, _, _⟩) (v := ?_) rfl (by kernel_rfl) (by kernel_rfl) (by kernel_rfl) (fun _ _ _ h => h) rfl hX ?_ ?_; rotate_left; (intro W hW; go_simp; try with_reducible rfl); simp only [Act.put, qA, qB, qC]
    refine wpAnyC_done (by kernel_rfl) ?_ _
    exact FIN.out gp ga gi gc v4 ⟨hk, G1_4.out, G3_4.out, G5_4.out, PP.out, P1.out, P3.out, P5.out, N13.out, N51.out.symm, N53.out.symm, M1.out, M3.out, M5.out, hX2⟩
   ·refine wp_mk _ _ 26 rfl 4 i2 (.bool false) Try.underlying26 hi2 hb0 hb1 rfl n rfl rfl HYB.out HN3.out ?_
    intro v2 hk hb _
    obtain ⟨gi, hg⟩ : ∃ g, g = v1.heap.size := ⟨_, rfl⟩
    rw [← hg] at hk
    rw [← hg]
    have G3_2 := qH hk
    have P3 := qH (show w.heap.size ≤ gi by rw [hg]; exact hX.size)
    have G5_2 := qH (G5_1.out.below hb G5_1.out.lt)
    have N53 := qH (show gc ≠ gi by rw [hg]; exact Nat.ne_of_lt G5_1.out.lt)
    have hX2 := hX.trans (hb.mono hX.size)
    clear hk hb hg
    refine hK _ _ hX2 trivial ?_
    clear hK K hX
    (try simp only [Act.put, qA, qB, qC])
    have hX := hX2
    clear hX2
    refine mc_actB (i := 1) (o := ⟨some 7, _, _, _, _, _⟩) rfl (by kernel_rfl) rfl (fun K hK => ?_)
    refine wp_mk _ _ 38 rfl 3 i1 (.int .i64 0) Try.underlying38 hi1 hy0 hy1 rfl n rfl rfl HYI.out HN3.out ?_
    intro v3 hk hb _
    obtain ⟨ga, hg⟩ : ∃ g, g = v2.heap.size := ⟨_, rfl⟩
    rw [← hg] at hk
    rw [← hg]
    have G1_3 := qH hk
    have P1 := qH (show w.heap.size ≤ ga by rw [hg]; exact hX.size)
    have G5_3 := qH (G5_2.out.below hb G5_2.out.lt)
    have N51 := qH (show gc ≠ ga by rw [hg]; exact Nat.ne_of_lt G5_2.out.lt)
    have G3_3 := qH (G3_2.out.below hb G3_2.out.lt)
    have N31 := qH (show gi ≠ ga by rw [hg]; exact Nat.ne_of_lt G3_2.out.lt)
    have hX2 := hX.trans (hb.mono hX.size)
    clear hk hb hg
    refine hK _ _ hX2 trivial ?_
    clear hK K hX
    (try simp only [Act.put, qA, qB, qC])
    have hX := hX2
    clear hX2
    refine mc_take (i := 6) (oi := ⟨some 12, _, _, _, _, _⟩) (v := .agg #[.slice none 0 0, .slice (some ⟨ga, 0, none⟩) n n, .slice (some ⟨gi, 0, none⟩) n n, .slice (some ⟨gc, 0, none⟩) n n]) rfl (by kernel_rfl) (by kernel_rfl) (by kernel_rfl) (fun _ _ _ h => h) rfl hX (fun V _ => ex_bldPt (.tmp 7) (.tmp 9) (.tmp 11) rfl rfl rfl rfl V) ?_; simp only [Act.put, qA, qB, qC]
    refine mc_actB (i := 7) (o := ⟨some 13, _, _, _, _, _⟩) rfl (by kernel_rfl) rfl (fun K hK => ?_)
    refine wp_box 67 _ rfl [.slice none 0 0, .slice (some ⟨ga, 0, none⟩) n n, .slice (some ⟨gi, 0, none⟩) n n, .slice (some ⟨gc, 0, none⟩) n n] rfl ?_
    intro v4 hk hb _
    obtain ⟨gp, hg⟩ : ∃ g, g = v3.heap.size := ⟨_, rfl⟩
    rw [← hg] at hk
    rw [← hg]
    have PP := qH (show w.heap.size ≤ gp by rw [hg]; exact hX.size)
    have G1_4 := qH (G1_3.out.below hb G1_3.out.lt)
    have M1 := qH (show ga ≠ gp by rw [hg]; exact Nat.ne_of_lt G1_3.out.lt)
    have G3_4 := qH (G3_3.out.below hb G3_3.out.lt)
    have M3 := qH (show gi ≠ gp by rw [hg]; exact Nat.ne_of_lt G3_3.out.lt)
    have G5_4 := qH (G5_3.out.below hb G5_3.out.lt)
    have M5 := qH (show gc ≠ gp by rw [hg]; exact Nat.ne_of_lt G5_3.out.lt)
    have hX2 := hX.trans (hb.mono hX.size)
    refine hK _ _ hX2 trivial ?_
    clear hK K hX hb hg
    (try simp only [Act.put, qA, qB, qC])
    have hX := hX2
    refine mc_take (i := 8) (oi := ⟨some 3, _, _, _, _, _⟩) (v := ?_) rfl (by kernel_rfl) (by kernel_rfl) (by kernel_rfl) (fun _ _ _ h => h) rfl hX ?_ ?_; rotate_left; (intro W hW; go_simp; try with_reducible rfl); simp only [Act.put, qA, qB, qC]
    refine wpAnyC_done (by kernel_rfl) ?_ _
    exact FIN.out gp ga gi gc v4 ⟨hk, G1_4.out, G3_4.out, G5_4.out, PP.out, P1.out, P3.out, P5.out, N31.out.symm, N51.out.symm, N53.out.symm, M1.out, M3.out, M5.out, hX2⟩
 case fin =>
  rintro gp ga gi gc w1 ⟨KP, KA, KI, KC, h1, h2, h3, h4, n1, n2, n3, n4, n5, n6, hb⟩
  have HKP := qH KP
  have HKA := qH KA
  have HKI := qH KI
  have HKC := qH KC
  have HLE := qH (And.intro h1 (And.intro h2 (And.intro h3 h4)))
  have HNE := qH (And.intro n1 (And.intro n2 (And.intro n3 (And.intro n4 (And.intro n5 n6)))))
  have HB := qH hb
  clear KP KA KI KC h1 h2 h3 h4 n1 n2 n3 n4 n5 n6 hb
  go_wp2_with ((with_reducible refine atDst 15 ?_); refine wpList_mk _ rfl _ _ 38 rfl 3 i1 (.int .i64 0) Try.underlying38 hi1 hy0 hy1 rfl n _ _ _ _ rfl rfl rfl rfl HYI.out HN3.out ?_; intro w2 hk hb hs; have T2 := qH hk; have B2 := qH hb; clear hk hb hs; (try simp only [Act.put, qA, qB, qC]))
  obtain ⟨gl, hgl⟩ : ∃ g, g = w1.heap.size := ⟨_, rfl⟩
  rw [← hgl] at T2
  have HGL := qH hgl
  have BG2 := qH (show Below gl w1 w2 by rw [hgl]; exact B2.out)
  rw [← hgl]
  have K0 := qH (show Blk w2 gl 3 (ncs n (upI 0)) by rw [← upI_zero, ← ncs_no]; exact T2.out)
  clear hgl T2
  go_wp2_with fail
  go_loopw [18] (fun iv wl => ∃ i : Nat, i ≤ n ∧ iv = .int .i64 (i : Int) ∧ Blk wl gl 3 (ncs n (upI i)) ∧ Below gl w1 wl) (fun iv _ => n - (intOf iv).toNat)
  case atStart => exact ⟨0, Nat.zero_le _, rfl, K0.out, BG2.out⟩
  clear K0
  obtain ⟨i, hi, rfl, hk, hb⟩ := hrel
  obtain ⟨wl, hwl⟩ : ∃ v : World, v = wr := ⟨_, rfl⟩
  subst hwl
  have HI := qH hi
  have KI := qH hk
  have BI := qH hb
  clear hi hk hb
  by_cases hin : i < n
  ·have x1 : (i : Int) < (n : Int) := Int.ofNat_lt.2 hin
   have HIN := qH hin
   have HMI := qH (sub_next hin)
   have e3 := wrap_one i (lt_bigN hin HNF.out)
   have e4 := wrap_one' i (lt_bigN hin HNF.out)
   have c0 : wl.cell? ⟨gl, i, none⟩ = some (.int .i64 (upI i i : Int)) := by rw [KI.out.cell, ncs_get _ hin]
   have f0 := KI.out.frozen i
   have KZ := qH (show Blk (wl.setCell ⟨gl, i, none⟩ (.int .i64 (i : Int))) gl 3 (ncs n (upI (i + 1))) by
    have h1 := KI.out.set i (.int .i64 (i : Int))
    rw [ncs_set, upI_next] at h1
    exact h1)
   clear hin
   go_wp2_with fail
   exact ⟨⟨i + 1, HIN.out, rfl, KZ.out, BI.out.setCell (p := ⟨gl, i, none⟩) (Nat.le_refl _) _⟩, by simpa [intOf] using HMI.out⟩
  ·obtain rfl : i = n := Nat.le_antisymm HI.out (Nat.le_of_not_lt hin)
   have x1 : ¬ ((i : Int) < (i : Int)) := Int.lt_irrefl _
   have PL := qH (show gp < gl by rw [HGL.out]; exact HKP.out.lt)
   clear hin
   go_wp2_with ((with_reducible refine atDst 28 ?_); refine wpList_plain rfl fun K hK => wp_bldVk 25 38 (.tmp 27) rfl il (.slice none 0 0) Try.underlying25 hil hl0 hl1 rfl (.slice (some ⟨gl, 0, none⟩) i i) rfl rfl ?_; intro w3 hk3 hb3; have K3 := qH hk3; have B3 := qH hb3; have HP3 := qH ((HKP.out.below BI.out PL.out).below hb3 (HKP.out.below BI.out PL.out).lt); have cp0 := HP3.out.cell 0; have fp0 := HP3.out.frozen 0; clear hk3 hb3; refine hK _ _ ?_; clear hK K; (try simp only [Act.put, qA, qB, qC]))
   go_ret
   have st : ∀ {g : Nat} {t : TypeId} {cs : List Value}, Blk w1 g t cs → g ≠ gp → Blk (w3.setCell ⟨gp, 0, none⟩ (.slice (some ⟨wl.heap.size, 0, none⟩) 1 1)) g t cs := fun {g t cs} hk hne =>
    ((hk.below BI.out (by rw [HGL.out]; exact hk.lt)).below B3.out (hk.below BI.out (by rw [HGL.out]; exact hk.lt)).lt).far (p := ⟨gp, 0, none⟩) hne _
   obtain ⟨h1, h2, h3, h4⟩ := HLE.out
   obtain ⟨n1, n2, n3, n4, n5, n6⟩ := HNE.out
   have hgl : w.heap.size ≤ gl := by rw [HGL.out]; exact HB.out.size
   refine ⟨gp, rfl, pt_made (gt := wl.heap.size) (gi := gi) (ga := ga) (gc := gc) (gl := gl) HNF.out ?_ ?_ ?_ ?_ ?_ ?_ h1 h2 h3 h4 hgl (Nat.le_trans hgl (Nat.le_of_lt KI.out.lt)) n1 n2 n3 n4 n5 n6 (by rw [HGL.out]; exact HKA.out.lt) (by rw [HGL.out]; exact HKI.out.lt) (by rw [HGL.out]; exact HKC.out.lt) PL.out KI.out.lt, ?_⟩
   ·have := HP3.out.set 0 (.slice (some ⟨wl.heap.size, 0, none⟩) 1 1)
    simpa using this
   ·exact K3.out.far (p := ⟨gp, 0, none⟩) (by show wl.heap.size ≠ gp; have := KI.out.lt; have := PL.out; omega) _
   ·rw [← ncs_no]
    exact st HKA.out n4
   ·rw [← bcs_no]
    exact st HKI.out n5
   ·rw [← ncs_no]
    exact st HKC.out n6
   ·have h9 := KI.out.below B3.out KI.out.lt
    rw [upI_all] at h9
    exact h9.far (p := ⟨gp, 0, none⟩) (by show gl ≠ gp; have := PL.out; omega) _
   ·exact (HB.out.trans ((BI.out.mono hgl).trans (B3.out.mono (Nat.le_trans hgl (Nat.le_of_lt KI.out.lt))))).setCell (p := ⟨gp, 0, none⟩) h1 _
end Go.Proofs.Ytiehefnbdijiaaa
