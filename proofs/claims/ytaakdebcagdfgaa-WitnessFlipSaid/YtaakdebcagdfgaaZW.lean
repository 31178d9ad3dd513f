/-
  Texts of this proof, put together: WoY, WoR, WoS. No statement is proved here.
-/
import Derived.Test.YtaakdebcagdfgaaZV
import Derived.Test.YtaakdebcagdfgaaZG
import Derived.Test.YtaakdebcagdfgaaZM
namespace Go.Proofs.Ytaakdebcagdfgaa
open Go.RowKit
set_option linter.unusedSimpArgs false
set_option linter.unusedVariables false
def seC (cs : List Value) (lv : Value) (m : Nat) (uv ov : Value) : List Value := cs ++ [lv, .int .i64 (m : Int), uv, ov]
section
variable {cs : List Value} {lv uv ov x : Value} {m i : Nat}
theorem seC_len (h : cs.length = 258) : (seC cs lv m uv ov).length = 262 := by simp [seC, h]
theorem seC_low (h : cs.length = 258) (hi : i < 258) : (seC cs lv m uv ov)[i]? = cs[i]? := by
 unfold seC
 rw [List.getElem?_append_left (by rw [h]; exact hi)]
theorem seC_top (h : cs.length = 258) (i : Nat) : (seC cs lv m uv ov)[258 + i]? = [lv, Value.int .i64 (m : Int), uv, ov][i]? := by
 unfold seC
 rw [List.getElem?_append_right (by rw [h]; exact Nat.le_add_right _ _), h, Nat.add_sub_cancel_left]
theorem seC_l (h : cs.length = 258) : (seC cs lv m uv ov)[258]? = some lv := seC_top h 0
theorem seC_m (h : cs.length = 258) : (seC cs lv m uv ov)[259]? = some (.int .i64 (m : Int)) := seC_top h 1
theorem seC_u (h : cs.length = 258) : (seC cs lv m uv ov)[260]? = some uv := seC_top h 2
theorem seC_o (h : cs.length = 258) : (seC cs lv m uv ov)[261]? = some ov := seC_top h 3
theorem seC_setU (h : cs.length = 258) : (seC cs lv m uv ov).set 260 x = seC cs lv m x ov := by
 unfold seC
 rw [List.set_append_right _ _ (by rw [h]; decide), h]
 rfl
theorem seC_setO (h : cs.length = 258) : (seC cs lv m uv ov).set 261 x = seC cs lv m uv x := by
 unfold seC
 rw [List.set_append_right _ _ (by rw [h]; decide), h]
 rfl
end
def uS (g : Nat) (uv ov : Value) : Nat → Value := tb6 (.slice (some ⟨g, 0, none⟩) 1 1) uv ov undef undef undef
theorem xuS {g k : Nat} {uv ov : Value} : XU (uS g uv ov) k ↔ k = g ∨ uv.ownBlock = some k ∨ ov.ownBlock = some k := by
 constructor
 ·rintro ⟨i, hi, hk⟩
  have : i = 0 ∨ i = 1 ∨ i = 2 := by omega
  rcases this with rfl | rfl | rfl
  ·exact .inl (Option.some.inj hk).symm
  ·exact .inr (.inl hk)
  ·exact .inr (.inr hk)
 ·rintro (rfl | h | h)
  ·exact ⟨0, by omega, rfl⟩
  ·exact ⟨1, by omega, h⟩
  ·exact ⟨2, by omega, h⟩
structure SeV (w : World) (B H g : Nat) (cs : List Value) (lv : Value) (m : Nat) (uv : Value) (u : List UInt8) (ov : Value) (os : List Value) (o : List (List UInt8)) : Prop where
 blk : Blk w g 65 (seC cs lv m uv ov)
 wrd : w.ownsRow H 5 1 uv u.length (bvs u)
 lst : w.ownsRow H 22 1 ov os.length os
 ap : ∀ k, uv.ownBlock = some k → ov.ownBlock ≠ some k
 rows : RW w (uS g uv ov) os o
 gB : B ≤ g
 gH : g < H
 hs : H ≤ w.heap.size
structure SStp (w w' : World) (g : Nat) (uv ov uv' ov' : Value) : Prop where
 off : Off (XU (uS g uv ov)) w w'
 new : ∀ k, XU (uS g uv' ov') k → XU (uS g uv ov) k ∨ w.heap.size ≤ k
section
variable {w w' w'' wb : World} {B H g m : Nat} {cs : List Value} {lv uv uv' uv'' ov ov' ov'' r : Value} {u : List UInt8} {os : List Value} {o : List (List UInt8)}
theorem SStp.of (hb : Below w.heap.size w w') (g : Nat) (uv ov : Value) : SStp w w' g uv ov uv ov := ⟨Off.new _ hb, fun k hk => .inl hk⟩
theorem SStp.trans (x : SStp w w' g uv ov uv' ov') (y : SStp w' w'' g uv' ov' uv'' ov'') : SStp w w'' g uv ov uv'' ov'' := by
 refine ⟨⟨y.off.os.trans x.off.os, y.off.tape.trans x.off.tape, y.off.output.trans x.off.output, Nat.le_trans x.off.size y.off.size, fun k hk hn => ?_⟩, fun k hk => ?_⟩
 ·refine (y.off.block k (Nat.lt_of_lt_of_le hk x.off.size) fun hd => ?_).trans (x.off.block k hk hn)
  rcases x.new k hd with e | e
  ·exact hn e
  ·omega
 ·rcases y.new k hk with e | e
  ·exact x.new k e
  ·exact .inr (Nat.le_trans x.off.size e)
theorem SeV.above (h : SeV w B H g cs lv m uv u ov os o) {k : Nat} (hk : XU (uS g uv ov) k) : B ≤ k := by
 have h1 := h.gB
 have h2 := h.gH
 rcases xuS.1 hk with rfl | e | e
 ·exact h1
 ·have := (own6_lt h.wrd k e).2
  omega
 ·have := (own6_lt h.lst k e).2
  omega
theorem SeV.und (h : SeV w B H g cs lv m uv u ov os o) {k : Nat} (hk : XU (uS g uv ov) k) : k < w.heap.size := by
 rcases xuS.1 hk with rfl | e | e
 ·exact h.blk.lt
 ·exact (own6_lt h.wrd k e).1
 ·exact (own6_lt h.lst k e).1
theorem SeV.gneU (h : SeV w B H g cs lv m uv u ov os o) : uv.ownBlock ≠ some g := fun e => by
 have h1 := (own6_lt h.wrd g e).2
 have h2 := h.gH
 omega
theorem SeV.gneO (h : SeV w B H g cs lv m uv u ov os o) : ov.ownBlock ≠ some g := fun e => by
 have h1 := (own6_lt h.lst g e).2
 have h2 := h.gH
 omega
theorem SeV.new (h : SeV w B H g cs lv m uv u ov os o) (hb : Below w.heap.size w w') : SeV w' B H g cs lv m uv u ov os o :=
 ⟨h.blk.below hb h.blk.lt, own6_stay h.wrd fun j hj => hb.block j (own6_lt h.wrd j hj).1, own6_stay h.lst fun j hj => hb.block j (own6_lt h.lst j hj).1, h.ap, h.rows.step (Off.new _ hb) fun k hk => .inl hk, h.gB, h.gH, Nat.le_trans h.hs hb.size⟩
theorem SeV.below (h : SeV w B H g cs lv m uv u ov os o) (st : SStp w w' g uv ov uv' ov') : Below B w w' :=
 st.off.below (fun k hk => h.above hk) (Nat.le_trans (Nat.le_of_lt (Nat.lt_of_le_of_lt h.gB h.gH)) h.hs)
theorem SeV.putU (h : SeV w B H g cs lv m uv u ov os o) (hl : cs.length = 258) {v : List UInt8} (ho : w'.ownsRow H 5 1 uv' v.length (bvs v)) (hg : w.grownBy w' uv.ownBlock) (hw : ∀ k, uv'.ownBlock = some k → uv.ownBlock = some k ∨ w.heap.size ≤ k) :
  SeV (w'.setCell ⟨g, 260, none⟩ uv') B H g cs lv m uv' v ov os o ∧ SStp w (w'.setCell ⟨g, 260, none⟩ uv') g uv ov uv' ov := by
 have hne : uv'.ownBlock ≠ some g := fun e => (hw g e).elim h.gneU fun h2 => absurd h.blk.lt (Nat.not_lt.2 h2)
 have hoff : Off (XU (uS g uv ov)) w (w'.setCell ⟨g, 260, none⟩ uv') := (Off.grown hg fun k hk => .inr (xuS.2 (.inr (.inl hk)))).trans (Off.set w' 260 uv' (xuS.2 (.inl rfl)))
 have hx : ∀ k, XU (uS g uv' ov) k → XU (uS g uv ov) k ∨ w.heap.size ≤ k := fun k hk => by
  rcases xuS.1 hk with e | e | e
  ·exact .inl (xuS.2 (.inl e))
  ·exact (hw k e).imp (fun e => xuS.2 (.inr (.inl e))) id
  ·exact .inl (xuS.2 (.inr (.inr e)))
 have hbl : Blk (w'.setCell ⟨g, 260, none⟩ uv') g 65 (seC cs lv m uv' ov) := by
  have h1 := (h.blk.grown hg fun e => h.gneU e.symm).set 260 uv'
  rw [seC_setU hl] at h1
  exact h1
 refine ⟨⟨hbl, own6_stay ho fun j hj => Below.heap_setCell w' ⟨g, 260, none⟩ uv' j fun e => hne (by rw [← show j = g from e]; exact hj), own6_stay h.lst fun j hj => ?_, fun k hk => ?_, h.rows.step hoff hx, h.gB, h.gH, by simpa using Nat.le_trans h.hs hg.size⟩, ⟨hoff, hx⟩⟩
 ·rw [Below.heap_setCell w' ⟨g, 260, none⟩ uv' j fun e => h.gneO (by rw [← show j = g from e]; exact hj)]
  exact hg.block j (own6_lt h.lst j hj).1 fun e => h.ap j e.symm hj
 ·rcases hw k hk with e | e
  ·exact h.ap k e
  ·exact fun e2 => absurd (own6_lt h.lst k e2).1 (Nat.not_lt.2 e)
theorem SeV.putO (h : SeV w B H g cs lv m uv u ov os o) (hl : cs.length = 258) {x : List UInt8} (ho : w'.ownsRow H 22 1 ov' (os ++ [r]).length (os ++ [r])) (hg : w.grownBy w' ov.ownBlock) (hw : ∀ k, ov'.ownBlock = some k → ov.ownBlock = some k ∨ w.heap.size ≤ k)
  (hr : Row w r (bvs x)) (hrk : ∀ k, r.ownBlock = some k → k < w.heap.size ∧ ¬ XU (uS g uv ov) k) :
  SeV (w'.setCell ⟨g, 261, none⟩ ov') B H g cs lv m uv u ov' (os ++ [r]) (o ++ [x]) ∧ SStp w (w'.setCell ⟨g, 261, none⟩ ov') g uv ov uv ov' := by
 have hne : ov'.ownBlock ≠ some g := fun e => (hw g e).elim h.gneO fun h2 => absurd h.blk.lt (Nat.not_lt.2 h2)
 have hoff : Off (XU (uS g uv ov)) w (w'.setCell ⟨g, 261, none⟩ ov') := (Off.grown hg fun k hk => .inr (xuS.2 (.inr (.inr hk)))).trans (Off.set w' 261 ov' (xuS.2 (.inl rfl)))
 have hx : ∀ k, XU (uS g uv ov') k → XU (uS g uv ov) k ∨ w.heap.size ≤ k := fun k hk => by
  rcases xuS.1 hk with e | e | e
  ·exact .inl (xuS.2 (.inl e))
  ·exact .inl (xuS.2 (.inr (.inl e)))
  ·exact (hw k e).imp (fun e => xuS.2 (.inr (.inr e))) id
 have hbl : Blk (w'.setCell ⟨g, 261, none⟩ ov') g 65 (seC cs lv m uv ov') := by
  have h1 := (h.blk.grown hg fun e => h.gneO e.symm).set 261 ov'
  rw [seC_setO hl] at h1
  exact h1
 refine ⟨⟨hbl, own6_stay h.wrd fun j hj => ?_, own6_stay ho fun j hj => Below.heap_setCell w' ⟨g, 261, none⟩ ov' j fun e => hne (by rw [← show j = g from e]; exact hj), fun k hk e2 => ?_, (h.rows.step hoff hx).snoc (RO.step ⟨hr, hrk⟩ hoff hx), h.gB, h.gH, by simpa using Nat.le_trans h.hs hg.size⟩, ⟨hoff, hx⟩⟩
 ·rw [Below.heap_setCell w' ⟨g, 261, none⟩ ov' j fun e => h.gneU (by rw [← show j = g from e]; exact hj)]
  exact hg.block j (own6_lt h.wrd j hj).1 fun e => h.ap j hj e.symm
 ·rcases hw k e2 with e | e
  ·exact h.ap k hk e
  ·exact absurd (own6_lt h.wrd k hk).1 (Nat.not_lt.2 e)
end
/-! ### single operations -/
section
variable {ev : Operand → Value} {o : Oper} {p : Addr} {W : World} {A : Option Addr} {n c : Nat}
theorem wo_ldO (x : Operand) (ho : o.op = .load 35 x) (hx : ev x = .pointer (some p)) (hc : W.cell? p = some (.slice A n c)) : (execOp ev o).run Try.prog W = .ok (.value (.slice A n c)) W := by
 simp only [execOp, ho, hx]
 go_simp
theorem wo_ldW (x : Operand) (ho : o.op = .load 22 x) (hx : ev x = .pointer (some p)) (hc : W.cell? p = some (.slice A n c)) : (execOp ev o).run Try.prog W = .ok (.value (.slice A n c)) W := by
 simp only [execOp, ho, hx]
 go_simp
theorem wo_cut (x y : Operand) (ho : o.op = .slice 22 x none (some y) none) {a : Addr} {m : Nat} (hx : ev x = .slice (some a) n c) (hy : ev y = .int .i64 (m : Int)) (hm : m ≤ n) (hn : n ≤ c) (W : World) : (execOp ev o).run Try.prog W = .ok (.value (.slice (some a) m c)) W := by
 have h1 : (m : Int) ≤ (c : Int) := Int.ofNat_le.2 (Nat.le_trans hm hn)
 simp only [execOp, ho, hx, hy]
 go_simp
end
section
variable {o : Oper} {a : Act} {K : Act → World → Prop} {Q : Exit → Act → World → Prop} {w : World}
theorem wo_stO (x y : Operand) (ho : o.op = .store 35 x y) {p : Addr} (hx : a.eval x = .pointer (some p)) {A : Option Addr} {n c : Nat} (hy : a.eval y = .slice A n c) {v : Value} (hc : w.cell? p = some v) (hf : w.frozen? p = false)
  (h : K (a.put o.dst undef) (w.setCell p (.slice A n c))) : o.wp Try.prog a w K Q := by
 unfold Oper.wp
 simp only [execOp, ho, hx, hy]
 go_simp
 exact h
theorem wo_stW (x y : Operand) (ho : o.op = .store 22 x y) {p : Addr} (hx : a.eval x = .pointer (some p)) {A : Option Addr} {n c : Nat} (hy : a.eval y = .slice A n c) {v : Value} (hc : w.cell? p = some v) (hf : w.frozen? p = false)
  (h : K (a.put o.dst undef) (w.setCell p (.slice A n c))) : o.wp Try.prog a w K Q := by
 unfold Oper.wp
 simp only [execOp, ho, hx, hy]
 go_simp
 exact h
end
theorem wrdP_more (D : Dm) (i s : Nat) (u : List UInt8) {b : Nat} (hb : b ≤ 256) : ∃ r, wrdB D (i + 1) s u = wrdP D i s u b ++ r := by
 rw [← wrdP_all]
 have key : ∀ k, ∃ r, wrdP D i s u (b + k) = wrdP D i s u b ++ r := fun k => by
  induction k with
  | zero => exact ⟨[], (List.append_nil _).symm⟩
  | succ k ih =>
   obtain ⟨r, hr⟩ := ih
   exact ⟨_, by rw [← Nat.add_assoc, wrdP_succ, hr, List.append_assoc]⟩
 obtain ⟨r, hr⟩ := key (256 - b)
 exact ⟨r, by rw [show 256 = b + (256 - b) by omega]; exact hr⟩
set_option maxHeartbeats 4000000 in
set_option maxRecDepth 1000000 in
theorem wCloneB_any (v : Value) (xs : List Value) (w : World) (hr : Row w v xs) (h1 : ∀ u ∈ xs, u.oneCell' = true) (hn : xs.length ≤ 1048576) :
  Calls Try.prog 42 #[v] w fun e w' => ∃ u, e = .returned u ∧ w'.ownsRow w.heap.size 5 1 u xs.length xs ∧ Below w.heap.size w w' := by
 have HR := qH hr
 have H1 := qH h1
 have HN := qH hn
 obtain ⟨i, hi, hz, hs, hy⟩ := infoP inf_u8
 obtain ⟨A, cap, rfl, hl, hm, h0, _⟩ := hr
 cases A with
 | none =>
  obtain rfl : cap = 0 := h0 rfl
  have hx : xs = [] := List.eq_nil_of_length_eq_zero (by omega)
  subst hx
  clear hl hm h0 h1 hn HR H1 HN hi hz hs hy
  have hq : ∀ W, (binOp .eql 22 (.slice none 0 0) (.slice none 0 0)).run Try.prog W = .ok (.bool true) W := fun W => Lib.run_eql_slice_nil W 22 5 none 0 0 0 0 Try.underlying22
  go_enter Try.func42, Try.ntmps42
  go_wp2_with fail
  go_ret
  exact ⟨_, rfl, ownC_nil _ _ _, Below.refl _ _⟩
 | some ad =>
  obtain ⟨n, hnn⟩ : ∃ n, n = xs.length := ⟨_, rfl⟩
  rw [← hnn] at HR HN hl ⊢
  have HNN := qH hnn
  have HIZ := qH (And.intro hz (And.intro hs hy))
  have HI := qH hi
  clear hl hm h0 h1 hn hnn hi hz hs hy
  have hq : ∀ W, (binOp .eql 22 (.slice (some ad) n cap) (.slice none 0 0)).run Try.prog W = .ok (.bool false) W := fun W => Lib.run_eql_slice_nil W 22 5 (some ad) n cap 0 0 Try.underlying22
  go_enter Try.func42, Try.ntmps42
  go_wp2_with (first
   | ((with_reducible refine atDst 5 ?_); refine wpList_bld0 rfl 22 5 rfl i Try.underlying22 HI.out (.int .u8 0) HIZ.out.1 HIZ.out.2.1 ?_; intro w1 ho1 hb1; have O1 := qH ho1; have B1 := qH hb1; clear ho1 hb1; (try simp only [Act.put, qA, qB, qC]))
   | ((with_reducible refine atDst 7 ?_); refine wpList_appR (w0 := w) rfl (.tmp 5) (.tmp 6) 22 rfl 5 i (.int .u8 0) 1 Try.underlying22 HI.out HIZ.out.1 HIZ.out.2.1 HIZ.out.2.2 rfl _ 0 [] rfl O1.out _ xs rfl (HR.out.below B1.out) H1.out (by rw [← HNN.out, Nat.zero_add]; exact HN.out) (by decide) B1.out ?_; intro v2 w2 ho2 hr2 hb2 _; have O2 := qH ho2; have B2 := qH hb2; clear ho2 hr2 hb2; (try simp only [Act.put, qA, qB, qC])))
  go_ret
  refine ⟨_, rfl, ?_, B2.out⟩
  have := O2.out
  rwa [Nat.zero_add, List.nil_append, ← HNN.out] at this
def revQ (q : List UInt8) (i : Nat) : List UInt8 := (List.range q.length).map fun t => if t < i ∨ q.length ≤ t + i then q.getD (q.length - 1 - t) 0 else q.getD t 0
theorem revQ_len (q : List UInt8) (i : Nat) : (revQ q i).length = q.length := by simp [revQ]
theorem revQ_get {q : List UInt8} {i t : Nat} (h : t < q.length) : (revQ q i)[t]? = some (if t < i ∨ q.length ≤ t + i then q.getD (q.length - 1 - t) 0 else q.getD t 0) := by simp [revQ, h]
theorem getD_at {q : List UInt8} {t : Nat} (h : t < q.length) : q[t]? = some (q.getD t 0) := by
 rw [List.getD_eq_getElem?_getD, List.getElem?_eq_getElem h]
 rfl
theorem revQ_zero (q : List UInt8) : revQ q 0 = q := by
 apply List.ext_getElem?
 intro t
 by_cases h : t < q.length
 ·rw [revQ_get h, if_neg (by omega), getD_at h]
 ·rw [List.getElem?_eq_none (by rw [revQ_len]; omega), List.getElem?_eq_none (by omega)]
theorem revQ_all {q : List UInt8} {i : Nat} (hi : q.length ≤ 2 * i + 1) : revQ q i = q.reverse := by
 apply List.ext_getElem?
 intro t
 by_cases h : t < q.length
 ·rw [revQ_get h, List.getElem?_reverse h, getD_at (by omega)]
  by_cases hc : t < i ∨ q.length ≤ t + i
  ·rw [if_pos hc]
  ·rw [if_neg hc, show q.length - 1 - t = t by omega]
 ·rw [List.getElem?_eq_none (by rw [revQ_len]; omega), List.getElem?_eq_none (by rw [List.length_reverse]; omega)]
theorem revQ_low {q : List UInt8} {i j : Nat} (h : j + i + 1 = q.length) (hij : i < j) : (revQ q i)[i]? = some (q.getD i 0) ∧ (revQ q i)[j]? = some (q.getD j 0) := by
 rw [revQ_get (by omega), revQ_get (by omega), if_neg (by omega), if_neg (by omega)]
 exact ⟨rfl, rfl⟩
theorem revQ_step {q : List UInt8} {i j : Nat} (h : j + i + 1 = q.length) (hij : i < j) : ((revQ q i).set i (q.getD j 0)).set j (q.getD i 0) = revQ q (i + 1) := by
 apply List.ext_getElem?
 intro t
 by_cases ht : t < q.length
 ·rw [revQ_get ht, List.getElem?_set, List.getElem?_set]
  by_cases h1 : j = t
  ·subst h1
   rw [if_pos rfl, if_pos (by rw [List.length_set, revQ_len]; exact ht), if_pos (by omega), show q.length - 1 - j = i by omega]
  ·rw [if_neg h1]
   by_cases h2 : i = t
   ·subst h2
    rw [if_pos rfl, if_pos (by rw [revQ_len]; exact ht), if_pos (by omega), show q.length - 1 - i = j by omega]
   ·rw [if_neg h2, revQ_get ht]
    by_cases hc : t < i ∨ q.length ≤ t + i
    ·rw [if_pos hc, if_pos (by omega)]
    ·rw [if_neg hc, if_neg (by omega)]
 ·rw [List.getElem?_eq_none (by rw [List.length_set, List.length_set, revQ_len]; omega), List.getElem?_eq_none (by rw [revQ_len]; omega)]
theorem wo_ixU {ev : Operand → Value} {o : Oper} {n c : Nat} (x i : Operand) (ho : o.op = .indexAddr 22 x i) {b q : Nat} (hx : ev x = .slice (some ⟨b, 0, none⟩) n c) (hi : ev i = .int .i64 (q : Int)) (hq : q < n) (W : World) : (execOp ev o).run Try.prog W = .ok (.value (.pointer (some ⟨b, q, none⟩))) W := by
 have h1 : (q : Int) < (n : Int) := Int.ofNat_lt.2 hq
 simp only [execOp, ho, hx, hi]
 go_simp
theorem wo_ldU {ev : Operand → Value} {o : Oper} {p : Addr} {W : World} (x : Operand) (ho : o.op = .load 5 x) (hx : ev x = .pointer (some p)) {k : UInt8} (hc : W.cell? p = some (bv k)) : (execOp ev o).run Try.prog W = .ok (.value (bv k)) W := by
 unfold bv at *
 exact lk_ldU x ho hx hc
theorem wp_stBv {o : Oper} {a : Act} {K : Act → World → Prop} {Q : Exit → Act → World → Prop} {w : World} (x y : Operand) (ho : o.op = .store 5 x y) {p : Addr} (hx : a.eval x = .pointer (some p)) {k v : UInt8} (hy : a.eval y = bv k) (hc : w.cell? p = some (bv v)) (hf : w.frozen? p = false)
  (h : K (a.put o.dst undef) (w.setCell p (bv k))) : o.wp Try.prog a w K Q := by
 unfold bv at *
 unfold Oper.wp
 simp only [execOp, ho, hx, hy]
 go_simp
 exact h
theorem grown_ownR {w : World} {B n k : Nat} {e : TypeId} {g c : Nat} {xs : List Value} (h : w.ownsRow B e k (.slice (some ⟨g, 0, none⟩) n c) n xs) (r : Option Nat) (hr : r = some g) (i : Nat) (v : Value) : w.grownBy (w.setCell ⟨g, i, none⟩ v) r :=
 ⟨rfl, rfl, rfl, by simp, fun k hk hne => Below.heap_setCell w ⟨g, i, none⟩ v k fun e => hne (by rw [hr, e])⟩
theorem grown_trans {w w1 w2 : World} {r : Option Nat} (h : w.grownBy w1 r) (k : w1.grownBy w2 r) : w.grownBy w2 r :=
 ⟨k.os.trans h.os, k.tape.trans h.tape, k.output.trans h.output, Nat.le_trans h.size k.size, fun j hj hne => (k.block j (Nat.lt_of_lt_of_le hj h.size) hne).trans (h.block j hj hne)⟩
theorem rev_m {n i : Nat} (h : 2 * i + 1 < n) : n - (i + 1) < n - i := by omega
theorem rev_w {n : Nat} {z : Int} (h0 : -1 ≤ z) (h1 : z ≤ (n : Int)) (hn : n ≤ 1048576) : wrap64 z = z ∧ IntKind.i64.wrap z = z := ⟨IntWalk.wrap64_in _ (by omega), IntWalk.i64_in _ (by omega)⟩
set_option maxHeartbeats 8000000 in
set_option maxRecDepth 1000000 in
theorem wRev_any (q : List UInt8) (B n : Nat) (v : Value) (w : World) (hq : n = q.length) (ho : w.ownsRow B 5 1 v n (bvs q)) (hn : n ≤ 1048576) :
  Calls Try.prog 38 #[v] w fun e w' => e = .returned (.tuple #[]) ∧ w'.ownsRow B 5 1 v n (bvs q.reverse) ∧ w.grownBy w' v.ownBlock := by
 obtain ⟨A, c, rfl⟩ := own2_slice ho
 have HO := qH ho
 have HQ := qH hq
 have HN := qH hn
 have e1 := (rev_w (n := n) (z := (n : Int) - 1) (by omega) (by omega) hn).1
 have e2 := (rev_w (n := n) (z := (n : Int) - 1) (by omega) (by omega) hn).2
 clear ho hq hn
 go_enter Try.func38, Try.ntmps38
 go_wp2_with fail
 clear e1 e2
 go_loopw [2, 3] (fun iv jv wl => ∃ (i : Nat) (z : Int), 2 * i ≤ n ∧ z = (n : Int) - 1 - (i : Int) ∧ iv = .int .i64 (i : Int) ∧ jv = .int .i64 z ∧ wl.ownsRow B 5 1 (.slice A n c) n (bvs (revQ q i)) ∧ w.grownBy wl (Value.slice A n c).ownBlock) (fun iv _ _ => n - (intOf iv).toNat)
 case atStart => exact ⟨0, (n : Int) - 1, Nat.zero_le _, by omega, rfl, rfl, by rw [revQ_zero]; exact HO.out, ⟨rfl, rfl, rfl, Nat.le_refl _, fun _ _ _ => rfl⟩⟩
 obtain ⟨i, z, hi, hz, rfl, rfl, hown, hg⟩ := hrel
 have HI := qH hi
 have HZ := qH hz
 have HOW := qH hown
 have HG := qH hg
 obtain ⟨wi, hwi⟩ : ∃ v : World, v = wr := ⟨_, rfl⟩
 subst hwi
 by_cases hij : (i : Int) < z
 ·obtain ⟨j, hj⟩ : ∃ j : Nat, z = (j : Int) := ⟨z.toNat, by omega⟩
  subst hj
  have HJ := qH (show j + i + 1 = n by omega)
  have HIJ := qH (show i < j by omega)
  have HIN := qH (show i < n by omega)
  have HJN := qH (show j < n by omega)
  have HMI := qH (rev_m (n := n) (i := i) (by omega))
  have HI2 := qH (show 2 * (i + 1) ≤ n by omega)
  obtain ⟨z2, hz2⟩ : ∃ z2 : Int, z2 = (j : Int) - 1 := ⟨_, rfl⟩
  have e3 := (rev_w (n := n) (z := (i : Int) + 1) (by omega) (by omega) HN.out).1.trans (show (i : Int) + 1 = ((i + 1 : Nat) : Int) by omega)
  have e4 := (rev_w (n := n) (z := (i : Int) + 1) (by omega) (by omega) HN.out).2.trans (show (i : Int) + 1 = ((i + 1 : Nat) : Int) by omega)
  have e5 := (rev_w (n := n) (z := (j : Int) - 1) (by omega) (by omega) HN.out).1.trans hz2.symm
  have e6 := (rev_w (n := n) (z := (j : Int) - 1) (by omega) (by omega) HN.out).2.trans hz2.symm
  have HZ2 := qH (show z2 = (n : Int) - 1 - ((i + 1 : Nat) : Int) by omega)
  obtain ⟨g, cc, hA, hBg, hgl, hin⟩ : ∃ g cc, A = some ⟨g, 0, none⟩ ∧ B ≤ g ∧ g < wi.heap.size ∧ cc = c := by
   rcases hown.2 with ⟨e, h0⟩ | ⟨g, cap, cur, e, hb, hgg, _⟩
   ·omega
   ·injection e with e a b
    exact ⟨g, c, e, hb, (Array.getElem?_eq_some_iff.1 hgg).1, rfl⟩
  subst hA
  obtain ⟨x, hx⟩ : ∃ x, x = q.getD i 0 := ⟨_, rfl⟩
  obtain ⟨y, hy⟩ : ∃ y, y = q.getD j 0 := ⟨_, rfl⟩
  have hlow := revQ_low (q := q) (i := i) (j := j) (by rw [← HQ.out]; exact HJ.out) HIJ.out
  rw [← hx, ← hy] at hlow
  have CI := qH (bvs_get _ _ _ hlow.1)
  have CJ := qH (bvs_get _ _ _ hlow.2)
  have HST := qH (show ((bvs (revQ q i)).set i (bv y)).set j (bv x) = bvs (revQ q (i + 1)) by
   rw [bvs_set, bvs_set, hx, hy, revQ_step (by rw [← HQ.out]; exact HJ.out) HIJ.out])
  clear hij hi hz hown hg hlow hx hy hz2 hin hBg hgl
  have x1 : (i : Int) < (j : Int) := Int.ofNat_lt.2 HIJ.out
  go_wp2_with fail
  refine mc_start (fun _ => True) (fun V => V.heap = wi.heap) 13 (by kernel_rfl) (fun wd hwd => ?_)
  have hBD : wd.heap = wi.heap := by rw [hwd]; rfl
  have OD := qH (show wd.ownsRow B 5 1 (.slice (some ⟨g, 0, none⟩) n c) n (bvs (revQ q i)) from own6_stay HOW.out fun _ _ => by rw [hBD])
  have GD := qH (show w.grownBy wd (some g) from by rw [hwd]; exact grown_trans HG.out (grown_start wi (some g)))
  have CI2 := qH (show ∀ V : World, V.heap = wi.heap → V.cell? ⟨g, i, none⟩ = some (bv x) from fun V hV => by rw [World.cell?_of_block (w := wi) (by rw [hV])]; exact (own_cell HOW.out CI.out).1)
  have CJ2 := qH (show ∀ V : World, V.heap = wi.heap → V.cell? ⟨g, j, none⟩ = some (bv y) from fun V hV => by rw [World.cell?_of_block (w := wi) (by rw [hV])]; exact (own_cell HOW.out CJ.out).1)
  have hX : True := trivial
  have hY := hBD
  clear hwd hBD
  refine mc_take (i := 0) (oi := ⟨some 14, _, _, _, _, _⟩) (v := ?_) rfl (by kernel_rfl) (by kernel_rfl) (by kernel_rfl) (fun _ _ _ h => h) rfl hX ?_ ?_; rotate_left; (intro W hW; go_simp; try with_reducible rfl); simp only [Act.put, qA, qB, qC]
  refine mc_take (i := 1) (oi := ⟨some 15, _, _, _, _, _⟩) (v := ?_) rfl (by kernel_rfl) (by kernel_rfl) (by kernel_rfl) (fun _ _ _ h => h) rfl hX ?_ ?_; rotate_left; (intro W hW; go_simp; try with_reducible rfl); simp only [Act.put, qA, qB, qC]
  refine mc_take (i := 2) (oi := ⟨some 16, _, _, _, _, _⟩) (v := ?_) rfl (by kernel_rfl) (by kernel_rfl) (by kernel_rfl) (fun _ _ _ h => h) rfl hX ?_ ?_; rotate_left; (intro W hW; go_simp; try with_reducible rfl); simp only [Act.put, qA, qB, qC]
  refine mc_take (i := 3) (oi := ⟨some 17, _, _, _, _, _⟩) (v := ?_) rfl (by kernel_rfl) (by kernel_rfl) (by kernel_rfl) (fun _ _ _ h => h) rfl hX ?_ ?_; rotate_left; (intro W hW; go_simp; try with_reducible rfl); simp only [Act.put, qA, qB, qC]
  refine mc_take (i := 4) (oi := ⟨some 18, _, _, _, _, _⟩) (v := ?_) rfl (by kernel_rfl) (by kernel_rfl) (by kernel_rfl) (fun _ _ _ h => h) rfl hX ?_ ?_; rotate_left; (intro W hW; go_simp; try with_reducible rfl); simp only [Act.put, qA, qB, qC]
  refine mc_take (i := 5) (oi := ⟨some 19, _, _, _, _, _⟩) (v := ?_) rfl (by kernel_rfl) (by kernel_rfl) (by kernel_rfl) (fun _ _ _ h => h) rfl hX ?_ ?_; rotate_left; (intro W hW; go_simp; try with_reducible rfl); simp only [Act.put, qA, qB, qC]
  refine mc_take (i := 6) (oi := ⟨some 20, _, _, _, _, _⟩) (v := .pointer (some ⟨g, j, none⟩)) rfl (by kernel_rfl) (by kernel_rfl) (by kernel_rfl) (fun _ _ _ h => h) rfl hX (fun V _ => wo_ixU (.tmp 18) (.tmp 19) rfl rfl rfl HJN.out V) ?_; simp only [Act.put, qA, qB, qC]
  refine mc_takeS (i := 7) (oi := ⟨some 21, _, _, _, _, _⟩) (v := bv y) rfl (by kernel_rfl) (by kernel_rfl) (by kernel_rfl) (fun _ _ _ h => h) rfl hX hY (fun V _ hV => wo_ldU (.tmp 20) rfl rfl (CJ2.out V hV)) ?_; simp only [Act.put, qA, qB, qC]
  refine mc_take (i := 8) (oi := ⟨some 22, _, _, _, _, _⟩) (v := ?_) rfl (by kernel_rfl) (by kernel_rfl) (by kernel_rfl) (fun _ _ _ h => h) rfl hX ?_ ?_; rotate_left; (intro W hW; go_simp; try with_reducible rfl); simp only [Act.put, qA, qB, qC]
  refine mc_take (i := 9) (oi := ⟨some 23, _, _, _, _, _⟩) (v := ?_) rfl (by kernel_rfl) (by kernel_rfl) (by kernel_rfl) (fun _ _ _ h => h) rfl hX ?_ ?_; rotate_left; (intro W hW; go_simp; try with_reducible rfl); simp only [Act.put, qA, qB, qC]
  refine mc_take (i := 10) (oi := ⟨some 24, _, _, _, _, _⟩) (v := .pointer (some ⟨g, i, none⟩)) rfl (by kernel_rfl) (by kernel_rfl) (by kernel_rfl) (fun _ _ _ h => h) rfl hX (fun V _ => wo_ixU (.tmp 22) (.tmp 23) rfl rfl rfl HIN.out V) ?_; simp only [Act.put, qA, qB, qC]
  refine mc_takeS (i := 11) (oi := ⟨some 25, _, _, _, _, _⟩) (v := bv x) rfl (by kernel_rfl) (by kernel_rfl) (by kernel_rfl) (fun _ _ _ h => h) rfl hX hY (fun V _ hV => wo_ldU (.tmp 24) rfl rfl (CI2.out V hV)) ?_; simp only [Act.put, qA, qB, qC]
  refine mc_take (i := 12) (oi := ⟨some 26, _, _, _, _, _⟩) (v := .pointer (some ⟨g, i, none⟩)) rfl (by kernel_rfl) (by kernel_rfl) (by kernel_rfl) (fun _ _ _ h => h) rfl hX (fun V _ => wo_ixU (.tmp 14) (.tmp 15) rfl rfl rfl HIN.out V) ?_; simp only [Act.put, qA, qB, qC]
  refine mc_last (i := 13) (o := ⟨none, _, _, _, _, _⟩) rfl (by kernel_rfl) rfl (fun K hK => ?_)
  refine wp_stBv (.tmp 26) (.tmp 21) rfl rfl rfl (own_cell OD.out CI.out).1 (own_cell OD.out CI.out).2 ?_
  refine hK _ _ trivial ?_
  clear hK K
  (try simp only [Act.put, qA, qB, qC])
  have O1 := qH (own_set OD.out (j := i) (by rw [bvs_length, revQ_len, ← HQ.out]; exact HIN.out) (bv y))
  have CJ3 := qH (show ((bvs (revQ q i)).set i (bv y))[j]? = some (bv y) by rw [List.getElem?_set_ne (Nat.ne_of_lt HIJ.out)]; exact CJ.out)
  have G1 := qH (grown_trans GD.out (grown_ownR OD.out (some g) rfl i (bv y)))
  refine mc_take (i := 14) (oi := ⟨some 27, _, _, _, _, _⟩) (v := .pointer (some ⟨g, j, none⟩)) rfl (by kernel_rfl) (by kernel_rfl) (by kernel_rfl) (fun _ _ _ h => h) rfl hX (fun V _ => wo_ixU (.tmp 16) (.tmp 17) rfl rfl rfl HJN.out V) ?_; simp only [Act.put, qA, qB, qC]
  refine mc_last (i := 15) (o := ⟨none, _, _, _, _, _⟩) rfl (by kernel_rfl) rfl (fun K hK => ?_)
  refine wp_stBv (.tmp 27) (.tmp 25) rfl rfl rfl (own_cell O1.out CJ3.out).1 (own_cell O1.out CJ3.out).2 ?_
  refine hK _ _ trivial ?_
  clear hK K hX
  (try simp only [Act.put, qA, qB, qC])
  refine wpAnyC_done (by kernel_rfl) ?_ _
  have O2 := qH (own_set O1.out (j := j) (by rw [List.length_set, bvs_length, revQ_len, ← HQ.out]; exact HJN.out) (bv x))
  have G2 := qH (grown_trans G1.out (grown_ownR O1.out (some g) rfl j (bv x)))
  rw [HST.out] at O2
  go_wp2_with fail
  exact ⟨⟨i + 1, z2, HI2.out, HZ2.out, rfl, rfl, O2.out, G2.out⟩, by simpa [intOf] using HMI.out⟩
 ·have HE := qH (revQ_all (q := q) (i := i) (by rw [← HQ.out]; omega))
  clear hi hz hown hg
  go_wp2_with fail
  go_end0
  rw [HE.out] at HOW
  exact ⟨rfl, HOW.out, HG.out⟩
section
variable {ev : Operand → Value} {o : Oper}
theorem wo_f0 (x : Operand) (ho : o.op = .fieldAddr 53 x 0) {b q : Nat} (hx : ev x = .pointer (some ⟨b, q, none⟩)) (W : World) : (execOp ev o).run Try.prog W = .ok (.value (.pointer (some ⟨b, q, none⟩))) W := by
 simp only [execOp, ho, hx]
 go_simp
theorem wo_f1 (x : Operand) (ho : o.op = .fieldAddr 53 x 1) {b q : Nat} (hx : ev x = .pointer (some ⟨b, q, none⟩)) (W : World) : (execOp ev o).run Try.prog W = .ok (.value (.pointer (some ⟨b, q + 1, none⟩))) W := by
 simp only [execOp, ho, hx]
 go_simp
theorem wo_f2 (x : Operand) (ho : o.op = .fieldAddr 53 x 2) {b q : Nat} (hx : ev x = .pointer (some ⟨b, q, none⟩)) (W : World) : (execOp ev o).run Try.prog W = .ok (.value (.pointer (some ⟨b, q + 2, none⟩))) W := by
 simp only [execOp, ho, hx]
 go_simp
end
theorem bvs_oneB (c : UInt8) : ∀ u ∈ bvs [c], u.oneCell' = true := List.all_eq_true.1 (bvs_all' _)
set_option maxHeartbeats 8000000 in
set_option maxRecDepth 1000000 in
theorem wWord_any {D : Dm} {t : Nat → Bool} {S : List Stp} {W : List (List UInt8)} {i b : Nat} (hB : BfS D t S W i b) (k B n : Nat) (u : List UInt8) (v : Value) (w : World) (hk : k < n) (hu : W[k]? = some u) (hn : n = S.length) (ho : w.ownsRow B 53 3 v n (sts S)) (hf : n ≤ 2000) :
  Calls Try.prog 25 #[v, .int .i64 (k : Int)] w fun e w' => ∃ r, e = .returned r ∧ Row w' r (bvs u) ∧ Below w.heap.size w w' := by
 have HB := qH hB
 have HU := qH hu
 have HN := qH hn
 have HF := qH hf
 have HKN := qH hk
 obtain ⟨g, c, rfl, hbg, hgl, hcell⟩ := own3_in ho (Nat.lt_of_le_of_lt (Nat.zero_le _) hk)
 have HGL := qH hgl
 have HC := qH hcell
 obtain ⟨iu, hiu, hu0, hu1, hu2⟩ := infoP inf_u8
 have HUL := qH (hB.word_len k u hu)
 clear hB hu hn ho hf hk hbg hgl hcell
 go_enter Try.func25, Try.ntmps25
 go_wp2_with fail
 go_loopw [1, 4] (fun av rv wl => ∃ (m : Nat) (p q : List UInt8), m ≤ k ∧ av = .int .i64 (m : Int) ∧ W[m]? = some p ∧ u = p ++ q.reverse ∧ wl.ownsRow w.heap.size 5 1 rv q.length (bvs q) ∧ Below w.heap.size w wl) (fun av _ _ => (intOf av).toNat)
 case atStart => exact ⟨k, u, [], Nat.le_refl _, rfl, HU.out, by simp, World.ownsRow_nil _ _ _ _, Below.refl _ _⟩
 obtain ⟨m, p, q, hm, rfl, hp, he, hown, hbl⟩ := hrel
 have HM := qH hm
 have HP := qH hp
 have HE := qH he
 have OW := qH hown
 have BL := qH hbl
 have HQL := qH (show q.length ≤ 2000 by
  have h1 := HUL.out
  rw [he, List.length_append, List.length_reverse] at h1
  have h2 := HKN.out
  have h3 := HF.out
  omega)
 obtain ⟨wl, hwl⟩ : ∃ v : World, v = wr := ⟨_, rfl⟩
 subst hwl
 by_cases h0 : m = 0
 ·subst h0
  have HPN := qH (show p = [] by
   rw [HB.out.word0] at hp
   exact (Option.some.inj hp).symm)
  have HR := qH (show u = q.reverse by rw [he, HPN.out, List.nil_append])
  clear hm hp he hown hbl
  go_wp2_with fail
  refine (wRev_any q w.heap.size q.length _ wl rfl OW.out (Nat.le_trans HQL.out (by decide))).mono ?_
  rintro e w2 ⟨rfl, ho2, hg⟩
  have O2 := qH ho2
  have B2 := qH (BL.out.trans (grown_belowO OW.out hg BL.out.size))
  clear ho2 hg
  go_wp2_with fail
  go_ret
  refine ⟨_, rfl, ?_, B2.out⟩
  rw [HR.out]
  exact Row.of_own O2.out
 ·have hpos : 0 < m := Nat.pos_of_ne_zero h0
  have m1 : (0 : Int) < (m : Int) := Int.ofNat_lt.2 hpos
  have HMN := qH (Nat.lt_of_le_of_lt hm HKN.out)
  obtain ⟨x, hx, _⟩ := HB.out.sat hp
  obtain ⟨hlt, p2, hp2, hpe⟩ := HB.out.back hpos hx hp
  obtain ⟨s1, fr, by_⟩ := x
  obtain ⟨_, hc1, hc2⟩ := HC.out m _ HMN.out hx
  have C1 := qH (show ∀ V, Below w.heap.size w V → V.cell? ⟨g, m * 3 + 1, none⟩ = some (.int .i64 (fr : Int)) from fun V hV => (hV.cell (p := ⟨g, m * 3 + 1, none⟩) HGL.out).trans hc1)
  have C2 := qH (show ∀ V, Below w.heap.size w V → V.cell? ⟨g, m * 3 + 2, none⟩ = some (bv by_) from fun V hV => (hV.cell (p := ⟨g, m * 3 + 2, none⟩) HGL.out).trans hc2)
  have HLT := qH (show fr < m from hlt)
  have HP2 := qH (show W[fr]? = some p2 from hp2)
  have HE2 := qH (show u = p2 ++ (q ++ [by_]).reverse by
   rw [he, hpe, List.reverse_append, List.append_assoc]
   rfl)
  clear hm hp he hown hbl h0 hpos hx hlt hp2 hpe hc1 hc2
  go_wp2_with (first
   | ((with_reducible refine atDst 10 ?_); refine wpList_plain rfl fun K hK => wp_rd (wo_ix (.tmp 8) (.tmp 9) rfl rfl rfl HMN.out _) ?_; refine hK _ _ ?_; clear hK K; (try simp only [Act.put, qA, qB, qC]))
   | ((with_reducible refine atDst 11 ?_); refine wpList_plain rfl fun K hK => wp_rd (wo_f2 (.tmp 10) rfl rfl _) ?_; refine hK _ _ ?_; clear hK K; (try simp only [Act.put, qA, qB, qC]))
   | ((with_reducible refine atDst 12 ?_); refine wpList_plain rfl fun K hK => wp_rd (wo_ldU (.tmp 11) rfl rfl (C2.out _ BL.out)) ?_; refine hK _ _ ?_; clear hK K; (try simp only [Act.put, qA, qB, qC]))
   | ((with_reducible refine atDst 13 ?_); refine wpList_plain rfl fun K hK => wp_bldVk 22 5 (.tmp 12) rfl iu (.int .u8 0) Try.underlying22 hiu hu0 hu1 rfl (bv by_) rfl rfl ?_; intro w2 hk hb; have K2 := qH (Row.of_own (hk.own (Nat.zero_le _) one_maxW)); have O2 := qH (own6_stay OW.out fun j hj => hb.block j (own6_lt OW.out j hj).1); have B2 := qH (BL.out.trans (hb.mono BL.out.size)); clear hk hb; refine hK _ _ ?_; clear hK K; (try simp only [Act.put, qA, qB, qC]))
   | ((with_reducible refine atDst 14 ?_); refine wpList_plain rfl fun K hK => wp_appW (base := w.heap.size) (.tmp 7) (.tmp 13) 22 rfl 5 iu (.int .u8 0) 1 Try.underlying22 hiu hu0 hu1 hu2 rfl _ q.length (bvs q) rfl O2.out _ (bvs [by_]) rfl K2.out (bvs_oneB by_) (Nat.le_trans (Nat.add_le_add_right HQL.out 1) (by decide)) (by decide) B2.out.size ?_; intro v4 w4 ho hg hw; have O4 := qH ho; have B4 := qH (B2.out.trans (grown_belowO O2.out hg B2.out.size)); clear ho hg hw; refine hK _ _ ?_; clear hK K; (try simp only [Act.put, qA, qB, qC]))
   | ((with_reducible refine atDst 17 ?_); refine wpList_plain rfl fun K hK => wp_rd (wo_ix (.tmp 15) (.tmp 16) rfl rfl rfl HMN.out _) ?_; refine hK _ _ ?_; clear hK K; (try simp only [Act.put, qA, qB, qC]))
   | ((with_reducible refine atDst 18 ?_); refine wpList_plain rfl fun K hK => wp_rd (wo_f1 (.tmp 17) rfl rfl _) ?_; refine hK _ _ ?_; clear hK K; (try simp only [Act.put, qA, qB, qC]))
   | ((with_reducible refine atDst 19 ?_); refine wpList_plain rfl fun K hK => wp_rd (lk_ldI (.tmp 18) rfl rfl (C1.out _ B4.out)) ?_; refine hK _ _ ?_; clear hK K; (try simp only [Act.put, qA, qB, qC])))
  have O5 := qH (show w4.ownsRow w.heap.size 5 1 v4 (q ++ [by_]).length (bvs (q ++ [by_])) by
   rw [List.length_append, bvs_append]
   exact O4.out)
  exact ⟨⟨fr, p2, q ++ [by_], Nat.le_trans (Nat.le_of_lt HLT.out) HM.out, rfl, HP2.out, HE2.out, O5.out, B4.out⟩, by simpa [intOf] using HLT.out⟩
end Go.Proofs.Ytaakdebcagdfgaa
