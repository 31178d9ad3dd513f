/-
  Texts of this proof, put together: AppW, TgA, TgB, TgC, TgD, TgE. No statement is proved here.
-/
import Derived.Test.YteadghoojeehlaaGreatDoorWC
import Derived.Test.YteadghoojeehlaaGreatDoorWM
import Derived.Test.YteadghoojeehlaaGreatDoorWK
import Derived.Test.YteadghoojeehlaaGreatDoorWH
namespace Go.Proofs.YteadghoojeehlaaGreatDoor
open Go.RowKit
set_option linter.unusedSimpArgs false
set_option linter.unusedVariables false
section
variable {P : Program} {w : World} {ops : Array Oper} {rest : List Oper} {o : Oper} {a : Act} {Q : Exit → Act → World → Prop}
theorem wp_appW {base : Nat} {K : Act → World → Prop} (s x : Operand) (t : TypeId)
  (ho : o.op = .call { callee := .builtin .append, args := #[s, x], argTypes := #[t, t] })
  (e : TypeId) (i : TypeInfo) (z : Value) (bytes : Nat) (ht : P.underlying t = some (.slice e)) (hi : P.info? e = some i) (hz : i.zero = some z)
  (hsize : i.size = 1) (hby : i.bytes = bytes) (hzs : z.cells.size = 1)
  (v : Value) (n : Nat) (xs : List Value) (hs : a.eval s = v) (hown : w.ownsRow base e 1 v n xs)
  (u : Value) (news : List Value) (hx : a.eval x = u) (hr : Row w u news) (h1 : ∀ u ∈ news, u.oneCell' = true)
  (hlen : n + news.length ≤ 2097152) (hby2 : bytes ≤ 1000) (hb : base ≤ w.heap.size)
  (h : ∀ v' w', w'.ownsRow base e 1 v' (n + news.length) (xs ++ news) → w.grownBy w' v.ownBlock → (∀ k, v'.ownBlock = some k → v.ownBlock = some k ∨ w.heap.size ≤ k) → K (a.put o.dst v') w') : o.wp P a w K Q := by
 have hm : (n + news.length) * bytes ≤ 2097152 * 1000 := Nat.mul_le_mul hlen hby2
 obtain ⟨A, cap, rfl, hl, hmx, h0, hc⟩ := hr
 cases A with
 | none =>
  have hcap : cap = 0 := h0 rfl
  subst hcap
  have hn : news = [] := List.eq_nil_of_length_eq_zero (by omega)
  subst hn
  have hrun := run_append_owned_none (P := P) (w := w) base t o.type e i 1 ht hi v n xs hown
  unfold Oper.wp
  simp at hx
  simp [execOp, ho, resolve, invoke, builtin, hs, hx, hrun, Result.andThen]
  exact h v w (by simpa using hown) (World.grownBy.refl _ _) fun k hk => .inl hk
 | some ad =>
  have hnews : ∀ j u, news[j]? = some u → w.cell? (ad.add j) = some u := by
   intro j u hj
   obtain ⟨b, off, hA, _, hcell⟩ := hc (by intro e; rw [e] at hj; simp at hj)
   injection hA with hA
   subst hA
   rw [Addr.add_lit]
   exact hcell j u hj
  obtain ⟨v', w', hrun, hown', hgr, _⟩ := run_append_own (P := P) w base t o.type e i z 1 bytes ht hi hz hsize hby hzs (by omega) v n xs hown ad news.length cap news (by omega) hnews h1 (by unfold maxLen; omega) (by omega) hb
  have hwh := append_where (P := P) (w := w) base t o.type e i z 1 bytes ht hi hz hsize hby (by omega) v n xs hown ad news.length cap news (by omega) hnews h1 (by unfold maxLen; omega) (by omega) hrun
  unfold Oper.wp execOp
  simp only [ho, resolve, invoke, builtin, Sem.run_bind, Sem.run_pure, Result.andThen_ok, List.map_toArray, List.map_cons, List.map_nil, hs, hx, hrun]
  exact h v' w' hown' hgr hwh
theorem wpList_appW {base : Nat} (hgd : o.guard = none) (s x : Operand) (t : TypeId)
  (ho : o.op = .call { callee := .builtin .append, args := #[s, x], argTypes := #[t, t] })
  (e : TypeId) (i : TypeInfo) (z : Value) (bytes : Nat) (ht : P.underlying t = some (.slice e)) (hi : P.info? e = some i) (hz : i.zero = some z)
  (hsize : i.size = 1) (hby : i.bytes = bytes) (hzs : z.cells.size = 1)
  (v : Value) (n : Nat) (xs : List Value) (hs : a.eval s = v) (hown : w.ownsRow base e 1 v n xs)
  (u : Value) (news : List Value) (hx : a.eval x = u) (hr : Row w u news) (h1 : ∀ u ∈ news, u.oneCell' = true)
  (hlen : n + news.length ≤ 2097152) (hby2 : bytes ≤ 1000) (hb : base ≤ w.heap.size)
  (h : ∀ v' w', w'.ownsRow base e 1 v' (n + news.length) (xs ++ news) → w.grownBy w' v.ownBlock → (∀ k, v'.ownBlock = some k → v.ownBlock = some k ∨ w.heap.size ≤ k) → wpList P ops Q rest (a.put o.dst v') w') : wpList P ops Q (o :: rest) a w :=
 wpList_plain hgd fun _ hK => wp_appW s x t ho e i z bytes ht hi hz hsize hby hzs v n xs hs hown u news hx hr h1 hlen hby2 hb fun v' w' h2 h3 h4 => hK _ _ (h v' w' h2 h3 h4)
end
/-! ### plain facts -/
structure GL (n : Nat) (t : Nat → Bool) (L : List Int) : Prop where
 rng : ∀ x ∈ L, 0 ≤ x ∧ x < (n : Int)
 nd : L.Nodup
 is : ∀ i : Nat, i < n → (t i = true ↔ (i : Int) ∈ L)
theorem risJ_nd (t : Nat → Bool) (n : Nat) : (risJ t n).Nodup := List.nodup_iff_pairwise_ne.2 ((risJ_rise t n).imp fun h => Int.ne_of_lt h)
theorem GL.perm {n : Nat} {t : Nat → Bool} {L : List Int} (h : GL n t L) : L.Perm (risJ t n) :=
 (List.perm_ext_iff_of_nodup h.nd (risJ_nd t n)).2 fun x => by
  rw [risJ_mem]
  constructor
  ·intro hx
   obtain ⟨h0, h1⟩ := h.rng x hx
   refine ⟨x.toNat, by omega, by omega, (h.is _ (by omega)).2 ?_⟩
   rwa [Int.toNat_of_nonneg h0]
  ·rintro ⟨i, rfl, hi, ht⟩
   exact (h.is i hi).1 ht
theorem GL.len {n : Nat} {t : Nat → Bool} {L : List Int} (h : GL n t L) : L.length ≤ n := by
 rw [h.perm.length_eq]
 exact risJ_len t n
theorem GL.nil (n : Nat) : GL n (fun _ => false) [] := ⟨fun x h => by simp at h, .nil, fun i _ => by simp⟩
theorem GL.add {n : Nat} {t : Nat → Bool} {L : List Int} (h : GL n t L) {i : Nat} (hi : i < n) (ht : t i = false) : GL n (updB t i true) (L ++ [(i : Int)]) := by
 have hn : (i : Int) ∉ L := fun hm => by have := (h.is i hi).2 hm; rw [ht] at this; cases this
 refine ⟨fun x hx => ?_, ?_, fun j hj => ?_⟩
 ·rcases List.mem_append.1 hx with hx | hx
  ·exact h.rng x hx
  ·obtain rfl := List.mem_singleton.1 hx
   exact ⟨by omega, by omega⟩
 ·refine List.nodup_append.2 ⟨h.nd, by simp, fun a ha b hb hab => ?_⟩
  obtain rfl := List.mem_singleton.1 hb
  exact hn (hab ▸ ha)
 ·unfold updB
  by_cases hji : j = i
  ·subst hji; simp
  ·rw [if_neg hji, h.is j hj, List.mem_append, List.mem_singleton]
   constructor
   ·exact .inl
   ·rintro (h1 | h1)
    ·exact h1
    ·omega
def addT (n : Nat) (t : Nat → Bool) (x : Int) : Nat → Bool := if 0 ≤ x ∧ x < (n : Int) ∧ t x.toNat = false then updB t x.toNat true else t
def addL (n : Nat) (t : Nat → Bool) (L : List Int) (x : Int) : List Int := if 0 ≤ x ∧ x < (n : Int) ∧ t x.toNat = false then L ++ [x] else L
theorem add_yes {n : Nat} {t : Nat → Bool} {i : Nat} (L : List Int) (hi : i < n) (ht : t i = false) : addT n t (i : Int) = updB t i true ∧ addL n t L (i : Int) = L ++ [(i : Int)] := by
 unfold addT addL
 rw [if_pos ⟨by omega, by omega, by simpa using ht⟩, if_pos ⟨by omega, by omega, by simpa using ht⟩, Int.toNat_natCast]
 exact ⟨rfl, rfl⟩
theorem add_no {n : Nat} {t : Nat → Bool} {x : Int} (L : List Int) (h : ¬ (0 ≤ x ∧ x < (n : Int) ∧ t x.toNat = false)) : addT n t x = t ∧ addL n t L x = L := by
 unfold addT addL
 rw [if_neg h, if_neg h]
 exact ⟨rfl, rfl⟩
theorem addT_iff {n : Nat} {t : Nat → Bool} {x : Int} {j : Nat} (hj : j < n) : addT n t x j = true ↔ t j = true ∨ x = (j : Int) := by
 unfold addT
 by_cases h : 0 ≤ x ∧ x < (n : Int) ∧ t x.toNat = false
 ·rw [if_pos h]
  unfold updB
  by_cases hji : j = x.toNat
  ·rw [if_pos hji]
   simp only [true_iff]
   right; omega
  ·rw [if_neg hji]
   constructor
   ·exact .inl
   ·rintro (h1 | h1)
    ·exact h1
    ·omega
 ·rw [if_neg h]
  constructor
  ·exact .inl
  ·rintro (h1 | h1)
   ·exact h1
   ·subst h1
    cases ht : t j with
    | true => rfl
    | false => exact absurd ⟨by omega, by omega, by simpa using ht⟩ h
theorem addL_app (n : Nat) (t : Nat → Bool) (L : List Int) (x : Int) : ∃ m, addL n t L x = L ++ m := by
 unfold addL
 split
 ·exact ⟨_, rfl⟩
 ·exact ⟨[], by simp⟩
theorem GL.put {n : Nat} {t : Nat → Bool} {L : List Int} (h : GL n t L) (x : Int) : GL n (addT n t x) (addL n t L x) := by
 by_cases hc : 0 ≤ x ∧ x < (n : Int) ∧ t x.toNat = false
 ·obtain ⟨i, rfl⟩ : ∃ i : Nat, x = (i : Int) := ⟨x.toNat, by omega⟩
  have ht : t i = false := by simpa using hc.2.2
  obtain ⟨e1, e2⟩ := add_yes (n := n) L (by omega) ht
  rw [e1, e2]
  exact h.add (by omega) ht
 ·obtain ⟨e1, e2⟩ := add_no (n := n) (t := t) L hc
  rw [e1, e2]
  exact h
/-! ### how it lies -/
def gcl (A : Option Addr) (n cap : Nat) (a z : Int) (h : Nat) (lv : Value) : List Value := [.slice A n cap, .int .i64 a, .int .i64 z, .slice (some ⟨h, 0, none⟩) n n, lv]
structure GrpV (w : World) (B g h : Nat) (A : Option Addr) (n cap : Nat) (a z : Int) (t : Nat → Bool) (lv : Value) (L : List Int) : Prop where
 blk : Blk w g 134 (gcl A n cap a z h lv)
 marks : Blk w h 4 (bcs n t)
 own : w.ownsRow B 3 1 lv L.length (nums .i64 L)
 gB : B ≤ g
 hB : B ≤ h
 gh : g ≠ h
 lg : lv.ownBlock ≠ some g
 lh : lv.ownBlock ≠ some h
 gl : GL n t L
def Gd (g h : Nat) (lv : Value) (k : Nat) : Prop := k = g ∨ k = h ∨ lv.ownBlock = some k
structure GStep (w w' : World) (g h : Nat) (lv lv' : Value) : Prop where
 off : Off (Gd g h lv) w w'
 new : ∀ k, lv'.ownBlock = some k → lv.ownBlock = some k ∨ w.heap.size ≤ k
section
variable {w w' w'' : World} {B g h n cap : Nat} {A : Option Addr} {a z : Int} {t : Nat → Bool} {lv lv' lv'' : Value} {L : List Int}
theorem GStep.refl (w : World) (g h : Nat) (lv : Value) : GStep w w g h lv lv := ⟨Off.refl _ _, fun k hk => .inl hk⟩
theorem GStep.trans (x : GStep w w' g h lv lv') (y : GStep w' w'' g h lv' lv'') : GStep w w'' g h lv lv'' := by
 refine ⟨⟨y.off.os.trans x.off.os, y.off.tape.trans x.off.tape, y.off.output.trans x.off.output, Nat.le_trans x.off.size y.off.size, fun k hk hn => ?_⟩, fun k hk => ?_⟩
 ·refine (y.off.block k (Nat.lt_of_lt_of_le hk x.off.size) fun hd => ?_).trans (x.off.block k hk hn)
  rcases hd with e | e | e
  ·exact hn (.inl e)
  ·exact hn (.inr (.inl e))
  ·rcases x.new k e with e | e
   ·exact hn (.inr (.inr e))
   ·omega
 ·rcases y.new k hk with e | e
  ·exact x.new k e
  ·exact .inr (Nat.le_trans x.off.size e)
theorem GStep.of (hb : Below w.heap.size w w') (g h : Nat) (lv : Value) : GStep w w' g h lv lv := ⟨Off.new _ hb, fun k hk => .inl hk⟩
theorem GrpV.gd (x : GrpV w B g h A n cap a z t lv L) {k : Nat} (hk : Gd g h lv k) : B ≤ k := by
 rcases hk with rfl | rfl | hk
 ·exact x.gB
 ·exact x.hB
 ·exact own_above x.own k hk
theorem GrpV.lts (x : GrpV w B g h A n cap a z t lv L) {k : Nat} (hk : Gd g h lv k) : k < w.heap.size := by
 rcases hk with rfl | rfl | hk
 ·exact x.blk.lt
 ·exact x.marks.lt
 ·exact (own6_lt x.own k hk).1
theorem GStep.below (y : GStep w w' g h lv lv') (x : GrpV w B g h A n cap a z t lv L) (hB : B ≤ w.heap.size) : Below B w w' := y.off.below (fun k hk => x.gd hk) hB
theorem GrpV.stay (x : GrpV w B g h A n cap a z t lv L) (hk : ∀ k, Gd g h lv k → w'.heap[k]? = w.heap[k]?) : GrpV w' B g h A n cap a z t lv L :=
 ⟨(hk g (.inl rfl)).trans x.blk, (hk h (.inr (.inl rfl))).trans x.marks, own6_stay x.own fun j hj => hk j (.inr (.inr hj)), x.gB, x.hB, x.gh, x.lg, x.lh, x.gl⟩
theorem GrpV.below (x : GrpV w B g h A n cap a z t lv L) (hb : Below w.heap.size w w') : GrpV w' B g h A n cap a z t lv L := x.stay fun k hk => hb.block k (x.lts hk)
end
set_option maxHeartbeats 4000000 in
set_option maxRecDepth 1000000 in
theorem has_any (A : Option Addr) (n cap : Nat) (a z x : Int) (hn : n ≤ maxLen) (w : World) (q : Bool) (hq : decide (0 ≤ x ∧ x < (n : Int)) = q) :
  Calls Tryz.prog 37 #[.agg #[.slice A n cap, .int .i64 a, .int .i64 z], .int .i64 x] w fun e w' => e = .returned (.bool q) ∧ Below w.heap.size w w' := by
 go_enter Tryz.func37, Tryz.ntmps37
 by_cases h0 : 0 ≤ x
 ·have h1 : x ≥ 0 := h0
  by_cases h2 : x < (n : Int)
  ·have HT := qH (show q = true by rw [← hq]; exact decide_eq_true ⟨h0, h2⟩)
   clear hq
   go_wp2_with ((with_reducible refine atDst 2 ?_); refine wpList_box rfl 24 _ rfl [.slice A n cap, .int .i64 a, .int .i64 z] rfl (Below.refl w.heap.size w) (Nat.le_refl _) ?_; intro w1 hk1 hb1 hs1 _; have K1 := qH hk1; have B1 := qH hb1; have c0 := hk1.cell 0; clear hk1 hb1 hs1; (try simp only [Act.put, qA, qB, qC]))
   go_ret
   rw [HT.out]
   exact ⟨rfl, B1.out⟩
  ·have HT := qH (show q = false by rw [← hq]; exact decide_eq_false fun h => h2 h.2)
   clear hq
   go_wp2_with ((with_reducible refine atDst 2 ?_); refine wpList_box rfl 24 _ rfl [.slice A n cap, .int .i64 a, .int .i64 z] rfl (Below.refl w.heap.size w) (Nat.le_refl _) ?_; intro w1 hk1 hb1 hs1 _; have K1 := qH hk1; have B1 := qH hb1; have c0 := hk1.cell 0; clear hk1 hb1 hs1; (try simp only [Act.put, qA, qB, qC]))
   go_ret
   rw [HT.out]
   exact ⟨rfl, B1.out⟩
 ·have h1 : ¬ (x ≥ 0) := h0
  have HT := qH (show q = false by rw [← hq]; exact decide_eq_false fun h => h0 h.1)
  clear hq
  go_wp2_with ((with_reducible refine atDst 2 ?_); refine wpList_box rfl 24 _ rfl [.slice A n cap, .int .i64 a, .int .i64 z] rfl (Below.refl w.heap.size w) (Nat.le_refl _) ?_; intro w1 hk1 hb1 hs1 _; have K1 := qH hk1; have B1 := qH hb1; have c0 := hk1.cell 0; clear hk1 hb1 hs1; (try simp only [Act.put, qA, qB, qC]))
  go_ret
  rw [HT.out]
  exact ⟨rfl, B1.out⟩
theorem gcl_range {w : World} {g : Nat} {t : TypeId} {A : Option Addr} {n cap h : Nat} {a z : Int} {lv : Value} (hb : Blk w g t (gcl A n cap a z h lv)) : w.rangeAt g 0 [.slice A n cap, .int .i64 a, .int .i64 z] := fun j v hv => by
 rw [Nat.zero_add, hb.cell]
 match j with
 | 0 => exact hv
 | 1 => exact hv
 | 2 => exact hv
 | k + 3 => simp at hv
section
variable {w w2 w4 w5 : World} {B g h n cap : Nat} {A : Option Addr} {a z : Int} {t : Nat → Bool} {lv : Value} {L : List Int}
theorem gAdd_mid (x : GrpV w2 B g h A n cap a z t lv L) (i : Nat) :
  Blk (w2.setCell ⟨h, i, none⟩ (.bool true)) g 134 (gcl A n cap a z h lv) ∧ Blk (w2.setCell ⟨h, i, none⟩ (.bool true)) h 4 (bcs n (updB t i true)) ∧
   (w2.setCell ⟨h, i, none⟩ (.bool true)).ownsRow B 3 1 lv L.length (nums .i64 L) ∧ Off (Gd g h lv) w2 (w2.setCell ⟨h, i, none⟩ (.bool true)) := by
 refine ⟨x.blk.far (p := ⟨h, i, none⟩) x.gh _, ?_, own6_stay x.own fun j hj => Below.heap_setCell w2 ⟨h, i, none⟩ _ j ?_, Off.set w2 i _ (.inr (.inl rfl))⟩
 ·have := x.marks.set i (.bool true)
  rw [bcs_set] at this
  exact this
 ·intro e
  subst e
  exact x.lh hj
theorem gAdd_end {v5 : Value} {i : Nat} (hi : i < n) (ht : t i = false) (b2 : Below w.heap.size w w2) (x : GrpV w2 B g h A n cap a z t lv L)
  (m : Blk (w2.setCell ⟨h, i, none⟩ (.bool true)) g 134 (gcl A n cap a z h lv) ∧ Blk (w2.setCell ⟨h, i, none⟩ (.bool true)) h 4 (bcs n (updB t i true)) ∧
   (w2.setCell ⟨h, i, none⟩ (.bool true)).ownsRow B 3 1 lv L.length (nums .i64 L) ∧ Off (Gd g h lv) w2 (w2.setCell ⟨h, i, none⟩ (.bool true)))
  (b4 : Below (w2.setCell ⟨h, i, none⟩ (.bool true)).heap.size (w2.setCell ⟨h, i, none⟩ (.bool true)) w4)
  (ho : w5.ownsRow B 3 1 v5 (L.length + (nums .i64 [(i : Int)]).length) (nums .i64 L ++ nums .i64 [(i : Int)])) (hg : w4.grownBy w5 lv.ownBlock) (hw : ∀ k, v5.ownBlock = some k → lv.ownBlock = some k ∨ w4.heap.size ≤ k) :
  w5.cell? ⟨g, 4, none⟩ = some lv ∧ w5.frozen? ⟨g, 4, none⟩ = false ∧ GrpV (w5.setCell ⟨g, 4, none⟩ v5) B g h A n cap a z (updB t i true) v5 (L ++ [(i : Int)]) ∧ GStep w (w5.setCell ⟨g, 4, none⟩ v5) g h lv v5 := by
 obtain ⟨m1, m2, m3, m4⟩ := m
 have hs : w2.heap.size ≤ w4.heap.size := Nat.le_trans m4.size b4.size
 have g5 : Blk w5 g 134 (gcl A n cap a z h lv) := (m1.below b4 m1.lt).grown hg fun e => x.lg e.symm
 have h5 : Blk w5 h 4 (bcs n (updB t i true)) := (m2.below b4 m2.lt).grown hg fun e => x.lh e.symm
 have n5g : v5.ownBlock ≠ some g := fun e => by
  rcases hw g e with e | e
  ·exact x.lg e
  ·have := x.blk.lt; omega
 have n5h : v5.ownBlock ≠ some h := fun e => by
  rcases hw h e with e | e
  ·exact x.lh e
  ·have := x.marks.lt; omega
 have hoff : Off (Gd g h lv) w2 w5 := (m4.trans (Off.new _ b4)).trans (Off.grown hg fun k hk => .inr (.inr (.inr hk)))
 refine ⟨g5.cell 4, g5.frozen 4, ⟨g5.set 4 v5, h5.far (p := ⟨g, 4, none⟩) x.gh.symm _, ?_, x.gB, x.hB, x.gh, n5g, n5h, x.gl.add hi ht⟩, ⟨(Off.new _ b2).trans (hoff.trans (Off.set w5 4 v5 (.inl rfl))), fun k hk => ?_⟩⟩
 ·rw [List.length_append, nums_append]
  exact own6_stay ho fun j hj => Below.heap_setCell w5 ⟨g, 4, none⟩ _ j (by rintro rfl; exact n5g hj)
 ·rcases hw k hk with e | e
  ·exact .inl e
  ·exact .inr (by have := b2.size; omega)
end
set_option maxHeartbeats 4000000 in
set_option maxRecDepth 1000000 in
theorem gAdd_any {B g h n cap : Nat} {A : Option Addr} {a z : Int} {t : Nat → Bool} {lv : Value} {L : List Int} (x : Int) (w : World) (hg : GrpV w B g h A n cap a z t lv L) (hn : n ≤ 2000) (hB : B ≤ w.heap.size) :
  Calls Tryz.prog 70 #[.pointer (some ⟨g, 0, none⟩), .int .i64 x] w fun e w' => e = .returned (.tuple #[]) ∧ ∃ lv', GrpV w' B g h A n cap a z (addT n t x) lv' (addL n t L x) ∧ GStep w w' g h lv lv' := by
 have G := qH hg
 have HN := qH hn
 have HB := qH hB
 have HRG := qH (gcl_range hg.blk)
 obtain ⟨i1, hi1, hy0, hy1, hy2⟩ := infoP inf_int
 clear hg hn hB
 go_enter Tryz.func70, Tryz.ntmps70
 go_wp2_with ((with_reducible refine atDst 7 ?_); refine wpList_load_mid rfl 24 _ rfl g 0 rfl [.slice A n cap, .int .i64 a, .int .i64 z] _ HRG.out Tryz.underlying24 rfl (size_nfa rfl) ?_; (try simp only [Act.put, qA, qB, qC]))
 obtain ⟨q, hq⟩ : ∃ q, decide (0 ≤ x ∧ x < (n : Int)) = q := ⟨_, rfl⟩
 have HQ := qH hq
 refine (has_any A n cap a z x (by have := HN.out; unfold maxLen; omega) w q hq).mono ?_
 rintro e w2 ⟨rfl, hb⟩
 have B2 := qH hb
 have G2 := qH (G.out.below hb)
 have c3 := G2.out.blk.cell 3
 have c4 := G2.out.blk.cell 4
 have fz := G2.out.blk.frozen 4
 clear hb hq
 simp only [gcl] at c3 c4
 cases q with
 | false =>
  have HA := qH (add_no (n := n) (t := t) L fun h => by have := of_decide_eq_false HQ.out; exact this ⟨h.1, h.2.1⟩)
  go_wp2_with fail
  go_end0
  rw [HA.out.1, HA.out.2]
  exact ⟨rfl, _, G2.out, GStep.of B2.out _ _ _⟩
 | true =>
  have hx := of_decide_eq_true HQ.out
  obtain ⟨i, rfl⟩ : ∃ i : Nat, x = (i : Int) := ⟨x.toNat, by omega⟩
  have HI := qH (show i < n by omega)
  have i1' : (i : Int) < (n : Int) := by have := HI.out; omega
  have cm := G2.out.marks.cell i
  rw [bcs_get _ HI.out] at cm
  obtain ⟨b, hb⟩ : ∃ b, t i = b := ⟨_, rfl⟩
  rw [hb] at cm
  have HT := qH hb
  clear hx hb
  cases b with
  | true =>
   have HA := qH (add_no (n := n) (t := t) (x := (i : Int)) L fun h => by have h9 := h.2.2; rw [Int.toNat_natCast, HT.out] at h9; cases h9)
   go_wp2_with fail
   go_end0
   rw [HA.out.1, HA.out.2]
   exact ⟨rfl, _, G2.out, GStep.of B2.out _ _ _⟩
  | false =>
   have HA := qH (add_yes L HI.out HT.out)
   have fm := G2.out.marks.frozen i
   have M3 := qH (gAdd_mid G2.out i)
   have d4 := M3.out.1.cell 4
   simp only [gcl, List.getElem?_cons_succ, List.getElem?_cons_zero] at d4
   have HLN := qH G2.out.gl.len
   have HBS := qH (show B ≤ (w2.setCell ⟨h, i, none⟩ (.bool true)).heap.size by have := HB.out; have := B2.out.size; simp; omega)
   go_wp2_with (first
    | ((with_reducible refine atDst 32 ?_); refine wpList_plain rfl fun K hK => wp_bldI 53 3 (.tmp 31) rfl i1 Tryz.underlying53 hi1 0 hy0 hy1 (i : Int) rfl ?_; intro w4 hr4 hb4; have R4 := qH hr4; have B4 := qH hb4; clear hr4 hb4; refine hK _ _ ?_; clear hK K; (try simp only [Act.put, qA, qB, qC]))
    | ((with_reducible refine atDst 33 ?_); refine wpList_appW rfl (.tmp 30) (.tmp 32) 53 rfl 3 i1 (.int .i64 0) 8 Tryz.underlying53 hi1 hy0 hy1 hy2 rfl lv L.length (nums .i64 L) rfl (ownBelow M3.out.2.2.1 B4.out (Nat.le_refl _)) _ (nums .i64 [(i : Int)]) rfl R4.out (nums_one _ _) (by have := HLN.out; have := HN.out; rw [nums_length .i64 [(i : Int)]]; simp only [List.length_singleton]; omega) (by omega) (Nat.le_trans HBS.out B4.out.size) ?_; intro v5 w5 ho5 hg5 hw5; obtain ⟨A5, c5, rfl, _⟩ := Row.of_own ho5; generalize (nums .i64 L ++ nums .i64 [(i : Int)]).length = n5 at ho5 hg5 hw5 ⊢; have O5 := qH (gAdd_end HI.out HT.out B2.out G2.out M3.out B4.out ho5 hg5 hw5); have e5 := O5.out.1; have f5 := O5.out.2.1; clear ho5 hg5 hw5; (try simp only [Act.put, qA, qB, qC])))
   go_end0
   rw [HA.out.1, HA.out.2]
   exact ⟨rfl, _, O5.out.2.2⟩
section
variable {P : Program} {o : Oper} {a : Act} {w : World} {K : Act → World → Prop} {Q : Exit → Act → World → Prop}
theorem wp_mk (l c : Operand) (t : TypeId) (hop : o.op = Op.makeSlice t l c)
  (e : TypeId) (i : TypeInfo) (z : Value) (h1 : P.underlying t = some (.slice e)) (h2 : P.info? e = some i) (h3 : i.zero = some z) (h4 : i.size = 1) (hz : z.cells = #[z])
  (n : Nat) (hl : a.eval l = .int .i64 (n : Int)) (hc : a.eval c = .int .i64 (n : Int)) (b2 : i.bytes * n ≤ 281474976710656) (b3 : n ≤ 9223372036854775807)
  (hK : ∀ w', Blk w' w.heap.size e (List.replicate n z) → Below w.heap.size w w' → w.heap.size < w'.heap.size → K (a.put o.dst (.slice (some ⟨w.heap.size, 0, none⟩) n n)) w') : o.wp P a w K Q := by
 have hb : (i.bytes : Int) * (n : Int) ≤ 281474976710656 := by
  have h : ((i.bytes * n : Nat) : Int) ≤ 281474976710656 := by omega
  rwa [Int.natCast_mul] at h
 have hrun := run_make (P := P) w t e i z h1 h2 h3 .i64 .i64 n n (by omega) (Int.le_refl _) hb (by omega)
 simp only [Int.toNat_natCast, h4, Nat.mul_one] at hrun
 unfold Oper.wp
 simp [execOp, hop, hl, hc, hrun, Result.andThen]
 refine hK _ ?_ ((Below.refl _ _).alloc (Nat.le_refl _) _) (by simp)
 have he : madeCells z.cells n = (List.replicate n z).toArray := by
  apply Array.ext'
  rw [hz]
  simp only [madeCells, Array.toList_map, Array.toList_range]
  apply List.ext_getElem
  ·simp
  ·intro j h1 h2
   simp [Nat.mod_one]
 rw [he]
 exact Blk.new w e _
theorem wp_box (ty : TypeId) (x : Operand) (ho : o.op = .box ty x) (cs : List Value) (hx : a.eval x = .agg cs.toArray)
  (h : ∀ w', Blk w' w.heap.size ty cs → Below w.heap.size w w' → w'.heap.size = w.heap.size + 1 → K (a.put o.dst (.pointer (some ⟨w.heap.size, 0, none⟩))) w') : o.wp P a w K Q := by
 unfold Oper.wp
 have hrun : (Instr.box ty (.agg cs.toArray)).run P w = .ok (.pointer (some ⟨w.heap.size, 0, none⟩)) (w.alloc (.cells cs.toArray ty)) := by
  simp [Instr.box, newVar, Value.cells, run_newRow_blk]
 simp only [execOp, ho, hx, hrun, Sem.run_bind, Result.andThen_ok, Sem.run_pure]
 exact h _ (Blk.new w ty cs) ((Below.refl _ _).alloc (Nat.le_refl _) _) (by simp)
end
set_option maxHeartbeats 4000000 in
set_option maxRecDepth 1000000 in
theorem newGroup_any (A : Option Addr) (n cap : Nat) (a z : Int) (hn : n ≤ 2000) (w : World) :
  Calls Tryz.prog 69 #[.agg #[.slice A n cap, .int .i64 a, .int .i64 z]] w fun e w' => ∃ g h, e = .returned (.pointer (some ⟨g, 0, none⟩)) ∧ GrpV w' w.heap.size g h A n cap a z (fun _ => false) (.slice none 0 0) [] ∧ Below w.heap.size w w' := by
 have HN := qH hn
 obtain ⟨i2, hi2, hz2, hs2, hy2⟩ := infoP inf_bool
 have HY2 := qH (show i2.bytes * n ≤ 281474976710656 by rw [hy2]; omega)
 have HN3 := qH (show n ≤ 9223372036854775807 by omega)
 clear hn hy2
 go_enter Tryz.func69, Tryz.ntmps69
 go_wp2_with ((with_reducible refine atDst 1 ?_); refine wpList_box rfl 24 _ rfl [.slice A n cap, .int .i64 a, .int .i64 z] rfl (Below.refl w.heap.size w) (Nat.le_refl _) ?_; intro w1 hk1 hb1 hs1 _; have K1 := qH hk1; have B1 := qH hb1; clear hk1 hb1 hs1; (try simp only [Act.put, qA, qB, qC]))
 have HC0 := qH (K1.out.cell 0)
 have HKL := qH K1.out.lt
 refine sx_startB (B := w1.heap.size) (w0 := w1) (by kernel_rfl) (Below.refl _ _) (fun wd hwd hX => ?_)
 clear hwd
 refine sx_take (i := 0) (oi := ⟨some 3, _, _, _, _, _⟩) (v := .agg #[.slice A n cap, .int .i64 a, .int .i64 z]) rfl (by kernel_rfl) (by kernel_rfl) (by kernel_rfl) (fun _ _ _ h => h) rfl hX (ld_blk 24 _ rfl w.heap.size rfl 24 [.slice A n cap, .int .i64 a, .int .i64 z] _ K1.out K1.out.lt Tryz.underlying24 rfl (size_nfa rfl)) ?_; simp only [Act.put, qA, qB, qC]
 refine sx_take (i := 1) (oi := ⟨some 4, _, _, _, _, _⟩) (v := ?_) rfl (by kernel_rfl) (by kernel_rfl) (by kernel_rfl) (fun _ _ _ h => h) rfl hX ?_ ?_; rotate_left; (intro W hW; go_simp; try with_reducible rfl); simp only [Act.put, qA, qB, qC]
 refine sx_take (i := 2) (oi := ⟨some 5, _, _, _, _, _⟩) (v := .slice A n cap) rfl (by kernel_rfl) (by kernel_rfl) (by kernel_rfl) (fun _ _ _ h => h) rfl hX (fun W hW => ld_sts (.tmp 4) rfl rfl ((hW.cell (p := ⟨w.heap.size, 0, none⟩) HKL.out).trans HC0.out)) ?_; simp only [Act.put, qA, qB, qC]
 refine sx_take (i := 3) (oi := ⟨some 6, _, _, _, _, _⟩) (v := ?_) rfl (by kernel_rfl) (by kernel_rfl) (by kernel_rfl) (fun _ _ _ h => h) rfl hX ?_ ?_; rotate_left; (intro W hW; go_simp; try with_reducible rfl); simp only [Act.put, qA, qB, qC]
 refine sx_actB (i := 4) (o := ⟨some 7, _, _, _, _, _⟩) rfl (by kernel_rfl) rfl hX (fun K hK => ?_)
 refine wp_mk _ _ 29 rfl 4 i2 (.bool false) Tryz.underlying29 hi2 hz2 hs2 rfl n rfl rfl HY2.out HN3.out ?_
 intro w3 hk hb hs
 have T3 := qH hk
 have B3 := qH hb
 refine hK _ _ (hb.mono hX.size) ?_
 clear hK K
 (try simp only [Act.put, qA, qB, qC])
 have HXW := qH hX
 replace hX := hX.trans (hb.mono hX.size)
 clear hk hb hs
 refine sx_take (i := 5) (oi := ⟨some 8, _, _, _, _, _⟩) (v := .agg (gcl A n cap a z wd.heap.size (.slice none 0 0)).toArray) rfl (by kernel_rfl) (by kernel_rfl) (by kernel_rfl) (fun _ _ _ h => h) rfl hX (fun W _ => by (go_simp; try rfl)) ?_; simp only [Act.put, qA, qB, qC]
 refine sx_actB (i := 6) (o := ⟨some 9, _, _, _, _, _⟩) rfl (by kernel_rfl) rfl hX (fun K hK => ?_)
 refine wp_box 134 _ rfl (gcl A n cap a z wd.heap.size (.slice none 0 0)) rfl ?_
 intro w4 hk hb hs
 have K4 := qH hk
 have B4 := qH hb
 refine hK _ _ (hb.mono hX.size) ?_
 clear hK K
 (try simp only [Act.put, qA, qB, qC])
 replace hX := hX.trans (hb.mono hX.size)
 have GE := qH (show GrpV w4 w.heap.size w3.heap.size wd.heap.size A n cap a z (fun _ => false) (.slice none 0 0) [] from
  ⟨hk, by rw [← bcs_no]; exact (T3.out.below hb T3.out.lt), ownN _ _ _, by have := HKL.out; have := HXW.out.size; have := B3.out.size; omega, by have := HKL.out; have := HXW.out.size; omega, by have := T3.out.lt; omega, (fun h => by cases h), (fun h => by cases h), GL.nil n⟩)
 have BE := qH (B1.out.trans (hX.mono B1.out.size))
 clear hk hb hs
 refine sx_take (i := 7) (oi := ⟨some 2, _, _, _, _, _⟩) (v := ?_) rfl (by kernel_rfl) (by kernel_rfl) (by kernel_rfl) (fun _ _ _ h => h) rfl hX ?_ ?_; rotate_left; (intro W hW; go_simp; try with_reducible rfl); simp only [Act.put, qA, qB, qC]
 refine wpAnyH_done (by kernel_rfl) ?_ _
 clear hX
 go_wp2_with fail
 go_ret
 exact ⟨_, _, rfl, GE.out, BE.out⟩
structure Cl (S : List St) (P : Nat → Prop) (t : Nat → Bool) (L : List Int) (i kk : Nat) : Prop where
 seeds : ∀ q, q < S.length → P q → t q = true
 sound : ∀ q, q < S.length → t q = true → Rc S P q
 done : ∀ (j : Nat) (x : Int) (s : St), j < i → L[j]? = some x → S[x.toNat]? = some s → ∀ f ∈ s.free, t f.toNat = true
 part : ∀ (x : Int) (s : St), L[i]? = some x → S[x.toNat]? = some s → ∀ (m : Nat) (f : Int), m < kk → s.free[m]? = some f → t f.toNat = true
section
variable {S : List St} {P : Nat → Prop} {t : Nat → Bool} {L : List Int} {i kk : Nat}
theorem Cl.start (h1 : ∀ q, q < S.length → P q → t q = true) (h2 : ∀ q, q < S.length → t q = true → P q) : Cl S P t L 0 0 :=
 ⟨h1, fun q hq ht => .base (h2 q hq ht) hq, fun j x s h => absurd h (Nat.not_lt_zero j), fun x s _ _ m f h => absurd h (Nat.not_lt_zero m)⟩
theorem addT_up {n : Nat} {x : Int} {q : Nat} (h : t q = true) : addT n t x q = true := by
 unfold addT
 split
 ·unfold updB; split; rfl; exact h
 ·exact h
theorem Cl.mark (h : Cl S P t L i kk) {x f : Int} {s : St} (hx : L[i]? = some x) (h0 : 0 ≤ x) (hs : S[x.toNat]? = some s) (ht : t x.toNat = true) (hf : s.free[kk]? = some f) (hf0 : 0 ≤ f) (hf1 : f < (S.length : Int)) :
  Cl S P (addT S.length t f) (addL S.length t L f) i (kk + 1) := by
 obtain ⟨m, hm⟩ := addL_app S.length t L f
 have hfn : f.toNat < S.length := by omega
 have key : ∀ q, q < S.length → (addT S.length t f q = true ↔ t q = true ∨ f = (q : Int)) := fun q hq => addT_iff hq
 have hi : i < L.length := (List.getElem?_eq_some_iff.1 hx).1
 refine ⟨fun q hq hp => addT_up (h.seeds q hq hp), fun q hq hu => ?_, fun j y u hj hy hu f' hf' => ?_, fun y u hy hu k f' hk hf' => ?_⟩
 ·rcases (key q hq).1 hu with hu | hu
  ·exact h.sound q hq hu
  ·exact .go (h.sound _ (by have := (List.getElem?_eq_some_iff.1 hs).1; exact this) ht) hs (by rw [← hu]; exact List.mem_of_getElem? hf) hq
 ·rw [hm, List.getElem?_append_left (by omega)] at hy
  exact addT_up (h.done j y u hj hy hu f' hf')
 ·rw [hm, List.getElem?_append_left hi, hx] at hy
  injection hy with hy
  subst hy
  rw [hs] at hu
  injection hu with hu
  subst hu
  rcases Nat.lt_or_ge k kk with hlt | hge
  ·exact addT_up (h.part x s hx hs k f' hlt hf')
  ·obtain rfl : k = kk := by omega
   rw [hf] at hf'
   injection hf' with hf'
   subst hf'
   exact (key _ hfn).2 (.inr (by omega))
theorem Cl.next (h : Cl S P t L i kk) {x : Int} {s : St} (hx : L[i]? = some x) (hs : S[x.toNat]? = some s) (hk : kk = s.free.length) : Cl S P t L (i + 1) 0 := by
 refine ⟨h.seeds, h.sound, fun j y u hj hy hu f hf => ?_, fun y u _ _ m f h => absurd h (Nat.not_lt_zero m)⟩
 rcases Nat.lt_or_ge j i with hlt | hge
 ·exact h.done j y u hlt hy hu f hf
 ·obtain rfl : j = i := by omega
  rw [hx] at hy
  injection hy with hy
  subst hy
  rw [hs] at hu
  injection hu with hu
  subst hu
  obtain ⟨m, hm, hmf⟩ := List.getElem_of_mem hf
  exact h.part x s hx hs m f (by omega) (by rw [List.getElem?_eq_getElem hm, hmf])
theorem Cl.end_ (h : Cl S P t L L.length kk) (g : GL S.length t L) {q : Nat} (hq : q < S.length) : t q = true ↔ Rc S P q :=
 rc_is h.seeds (fun i s hs ht j hj => by
  have hi : i < S.length := (List.getElem?_eq_some_iff.1 hs).1
  obtain ⟨k, hk, hkx⟩ := List.getElem_of_mem ((g.is i hi).1 ht)
  have := h.done k (i : Int) s hk (by rw [List.getElem?_eq_getElem hk, hkx]) (by simpa using hs) _ hj
  simpa using this) h.sound q hq
end
theorem ld_ints {ev : Operand → Value} {o : Oper} (x : Operand) (ho : o.op = .load 53 x) {p : Addr} (hx : ev x = .pointer (some p)) {A : Option Addr} {n c : Nat} {W : World} (hc : W.cell? p = some (.slice A n c)) : (execOp ev o).run Tryz.prog W = .ok (.value (.slice A n c)) W := by
 simp only [execOp, ho, hx]
 go_simp
theorem GrpV.size {w : World} {B g h n cap : Nat} {A : Option Addr} {a z : Int} {t : Nat → Bool} {lv : Value} {L : List Int} (x : GrpV w B g h A n cap a z t lv L) : B ≤ w.heap.size := Nat.le_of_lt (Nat.lt_of_le_of_lt x.gB x.blk.lt)
def GPost (w0 : World) (S : List St) (A : Option Addr) (cap : Nat) (a z : Int) (g h : Nat) (w : World) (lv : Value) (R : Nat → Prop) (w' : World) : Prop :=
 ∃ t' lv' L', GrpV w' w0.heap.size g h A S.length cap a z t' lv' L' ∧ GStep w w' g h lv lv' ∧ ∀ q, q < S.length → (t' q = true ↔ R q)
set_option maxHeartbeats 4000000 in
set_option maxRecDepth 1000000 in
theorem gClose_any (w0 : World) (S : List St) (A : Option Addr) (cap : Nat) (a z : Int) (hv : NfaV w0 [.slice A S.length cap, .int .i64 a, .int .i64 z] S a z) (hm : MayN S a z) {g h : Nat} {t : Nat → Bool} {lv : Value} {L : List Int} (P : Nat → Prop)
  (hP : ∀ q, q < S.length → (t q = true ↔ P q)) (w : World) (hg : GrpV w w0.heap.size g h A S.length cap a z t lv L) (hb : Below w0.heap.size w0 w) :
  Calls Tryz.prog 71 #[.pointer (some ⟨g, 0, none⟩)] w fun e w' => e = .returned (.tuple #[]) ∧ GPost w0 S A cap a z g h w lv (Rc S P) w' := by
 have V := qH hv
 have HM := qH hm
 have HN := qH hm.few
 have CS := qH (Cl.start (S := S) (P := P) (t := t) (L := L) (fun q hq h => (hP q hq).2 h) fun q hq h => (hP q hq).1 h)
 have G := qH hg
 have B0 := qH hb
 clear hv hm hP hg hb
 go_enter Tryz.func71, Tryz.ntmps71
 go_wp2_with fail
 go_loopw [2] (fun iv wl => ∃ (i : Nat) (t' : Nat → Bool) (lv' : Value) (L' : List Int), i ≤ L'.length ∧ iv = .int .i64 (i : Int) ∧ GrpV wl w0.heap.size g h A S.length cap a z t' lv' L' ∧ GStep w wl g h lv lv' ∧ Cl S P t' L' i 0) (fun iv _ => S.length - (intOf iv).toNat)
 case atStart => exact ⟨0, t, lv, L, Nat.zero_le _, by simp, G.out, GStep.refl _ _ _ _, CS.out⟩
 obtain ⟨i, t', lv', L', hi, rfl, hg, hst, hcl⟩ := hrel
 have GI := qH hg
 have SI := qH hst
 have CI := qH hcl
 have BI := qH (B0.out.trans ((hst.below G.out G.out.size)))
 have d0 := hg.blk.cell 0
 have d4 := hg.blk.cell 4
 simp only [gcl, List.getElem?_cons_succ, List.getElem?_cons_zero] at d0 d4
 have HLL := qH hg.gl.len
 obtain ⟨Al, cl, rfl, _⟩ := Row.of_own hg.own
 rw [nums_length] at GI SI d4
 clear hst hcl hg
 obtain ⟨wi, hwi⟩ : ∃ v : World, v = wr := ⟨_, rfl⟩
 subst hwi
 by_cases hil : i < L'.length
 ·have x1 : (i : Int) < (L'.length : Int) := Int.ofNat_lt.2 hil
  obtain ⟨x, hx⟩ : ∃ x, L'[i]? = some x := ⟨_, List.getElem?_eq_getElem hil⟩
  obtain ⟨x0, x1'⟩ := GI.out.gl.rng x (List.mem_of_getElem? hx)
  obtain ⟨p, rfl⟩ : ∃ p : Nat, x = (p : Int) := ⟨x.toNat, by omega⟩
  have HPN := qH (show p < S.length by omega)
  obtain ⟨s, hs⟩ : ∃ s, S[p]? = some s := ⟨_, List.getElem?_eq_getElem HPN.out⟩
  have HS := qH hs
  have HX := qH hx
  have HTP := qH ((GI.out.gl.is p HPN.out).2 (List.mem_of_getElem? hx))
  obtain ⟨b, off, rfl, hbb, _, _, Af, cf, hf, hrow⟩ := V.out.at_ hs
  obtain ⟨fl, hfl⟩ : ∃ n, n = s.free.length := ⟨_, rfl⟩
  rw [← hfl] at hf hrow
  have HFL := qH hfl
  have HFC := qH ((BI.out.cell (p := ⟨b, off + p * 6 + 5, none⟩) hbb).trans hf)
  have HBB := qH (Nat.lt_of_lt_of_le hbb BI.out.size)
  have HROW := qH hrow
  have HF8 := qH (show fl ≤ 8 by have := HM.out.free8 s (List.mem_of_getElem? hs); omega)
  obtain ⟨bl, ol, rfl, hbl, hcl⟩ := (Row.of_own GI.out.own).at_ (by rw [nums_length]; omega)
  have HBL := qH hbl
  have HCJ := qH (hcl i (.int .i64 (p : Int)) (by simp [nums, hx]))
  have HGL := qH GI.out.blk.lt
  have HD0 := qH d0
  have HD4 := qH d4
  have HI := qH hil
  have HMI := qH (show i < S.length by have := HLL.out; omega)
  have e3 := wrap_one i (lt_bigN HMI.out HN.out)
  have e4 := wrap_one' i (lt_bigN HMI.out HN.out)
  have hpn : (p : Int) < (S.length : Int) := by have := HPN.out; omega
  clear hx x0 x1' hs hf hfl hbb hrow hbl hcl hil
  go_wp2_with fail
  refine sx_startB (B := wi.heap.size) (w0 := wi) (by kernel_rfl) (Below.refl _ _) (fun wd hwd hX => ?_)
  clear hwd d0 d4
  refine sx_take (i := 0) (oi := ⟨some 14, _, _, _, _, _⟩) (v := ?_) rfl (by kernel_rfl) (by kernel_rfl) (by kernel_rfl) (fun _ _ _ h => h) rfl hX ?_ ?_; rotate_left; (intro W hW; go_simp; try with_reducible rfl); simp only [Act.put, qA, qB, qC]
  refine sx_take (i := 1) (oi := ⟨some 15, _, _, _, _, _⟩) (v := ?_) rfl (by kernel_rfl) (by kernel_rfl) (by kernel_rfl) (fun _ _ _ h => h) rfl hX ?_ ?_; rotate_left; (intro W hW; go_simp; try with_reducible rfl); simp only [Act.put, qA, qB, qC]
  refine sx_take (i := 2) (oi := ⟨some 16, _, _, _, _, _⟩) (v := ?_) rfl (by kernel_rfl) (by kernel_rfl) (by kernel_rfl) (fun _ _ _ h => h) rfl hX ?_ ?_; rotate_left; (intro W hW; go_simp; try with_reducible rfl); simp only [Act.put, qA, qB, qC]
  refine sx_take (i := 3) (oi := ⟨some 17, _, _, _, _, _⟩) (v := ?_) rfl (by kernel_rfl) (by kernel_rfl) (by kernel_rfl) (fun _ _ _ h => h) rfl hX ?_ ?_; rotate_left; (intro W hW; go_simp; try with_reducible rfl); simp only [Act.put, qA, qB, qC]
  refine sx_take (i := 4) (oi := ⟨some 18, _, _, _, _, _⟩) (v := .slice (some ⟨b, off, none⟩) S.length cap) rfl (by kernel_rfl) (by kernel_rfl) (by kernel_rfl) (fun _ _ _ h => h) rfl hX (fun W hW => ld_sts (.tmp 17) rfl rfl ((hW.cell (p := ⟨g, 0, none⟩) HGL.out).trans HD0.out)) ?_; simp only [Act.put, qA, qB, qC]
  refine sx_take (i := 5) (oi := ⟨some 19, _, _, _, _, _⟩) (v := ?_) rfl (by kernel_rfl) (by kernel_rfl) (by kernel_rfl) (fun _ _ _ h => h) rfl hX ?_ ?_; rotate_left; (intro W hW; go_simp; try with_reducible rfl); simp only [Act.put, qA, qB, qC]
  refine sx_take (i := 6) (oi := ⟨some 20, _, _, _, _, _⟩) (v := ?_) rfl (by kernel_rfl) (by kernel_rfl) (by kernel_rfl) (fun _ _ _ h => h) rfl hX ?_ ?_; rotate_left; (intro W hW; go_simp; try with_reducible rfl); simp only [Act.put, qA, qB, qC]
  refine sx_take (i := 7) (oi := ⟨some 21, _, _, _, _, _⟩) (v := ?_) rfl (by kernel_rfl) (by kernel_rfl) (by kernel_rfl) (fun _ _ _ h => h) rfl hX ?_ ?_; rotate_left; (intro W hW; go_simp; try with_reducible rfl); simp only [Act.put, qA, qB, qC]
  refine sx_take (i := 8) (oi := ⟨some 22, _, _, _, _, _⟩) (v := .slice (some ⟨bl, ol, none⟩) L'.length cl) rfl (by kernel_rfl) (by kernel_rfl) (by kernel_rfl) (fun _ _ _ h => h) rfl hX (fun W hW => ld_ints (.tmp 21) rfl rfl ((hW.cell (p := ⟨g, 4, none⟩) HGL.out).trans HD4.out)) ?_; simp only [Act.put, qA, qB, qC]
  refine sx_take (i := 9) (oi := ⟨some 23, _, _, _, _, _⟩) (v := ?_) rfl (by kernel_rfl) (by kernel_rfl) (by kernel_rfl) (fun _ _ _ h => h) rfl hX ?_ ?_; rotate_left; (intro W hW; go_simp; try with_reducible rfl); simp only [Act.put, qA, qB, qC]
  refine sx_take (i := 10) (oi := ⟨some 24, _, _, _, _, _⟩) (v := ?_) rfl (by kernel_rfl) (by kernel_rfl) (by kernel_rfl) (fun _ _ _ h => h) rfl hX ?_ ?_; rotate_left; (intro W hW; go_simp; try with_reducible rfl); simp only [Act.put, qA, qB, qC]
  refine sx_take (i := 11) (oi := ⟨some 25, _, _, _, _, _⟩) (v := .int .i64 (p : Int)) rfl (by kernel_rfl) (by kernel_rfl) (by kernel_rfl) (fun _ _ _ h => h) rfl hX (fun W hW => ld_int9 (.tmp 24) rfl rfl ((hW.cell (p := ⟨bl, ol + i, none⟩) HBL.out).trans HCJ.out)) ?_; simp only [Act.put, qA, qB, qC]
  refine sx_take (i := 12) (oi := ⟨some 26, _, _, _, _, _⟩) (v := ?_) rfl (by kernel_rfl) (by kernel_rfl) (by kernel_rfl) (fun _ _ _ h => h) rfl hX ?_ ?_; rotate_left; (intro W hW; go_simp; try with_reducible rfl); simp only [Act.put, qA, qB, qC]
  refine sx_take (i := 13) (oi := ⟨some 27, _, _, _, _, _⟩) (v := ?_) rfl (by kernel_rfl) (by kernel_rfl) (by kernel_rfl) (fun _ _ _ h => h) rfl hX ?_ ?_; rotate_left; (intro W hW; go_simp; try with_reducible rfl); simp only [Act.put, qA, qB, qC]
  refine sx_take (i := 14) (oi := ⟨some 28, _, _, _, _, _⟩) (v := .slice Af fl cf) rfl (by kernel_rfl) (by kernel_rfl) (by kernel_rfl) (fun _ _ _ h => h) rfl hX (fun W hW => ld_ints (.tmp 27) rfl rfl ((hW.cell (p := ⟨b, off + p * 6 + 5, none⟩) HBB.out).trans HFC.out)) ?_; simp only [Act.put, qA, qB, qC]
  refine sx_take (i := 15) (oi := ⟨some 29, _, _, _, _, _⟩) (v := ?_) rfl (by kernel_rfl) (by kernel_rfl) (by kernel_rfl) (fun _ _ _ h => h) rfl hX ?_ ?_; rotate_left; (intro W hW; go_simp; try with_reducible rfl); simp only [Act.put, qA, qB, qC]
  refine sx_take (i := 16) (oi := ⟨some 30, _, _, _, _, _⟩) (v := ?_) rfl (by kernel_rfl) (by kernel_rfl) (by kernel_rfl) (fun _ _ _ h => h) rfl hX ?_ ?_; rotate_left; (intro W hW; go_simp; try with_reducible rfl); simp only [Act.put, qA, qB, qC]
  refine wpAnyH_done (by kernel_rfl) ?_ _
  have BD := qH hX
  have GD := qH (GI.out.below hX)
  have SD := qH (SI.out.trans (GStep.of hX g h _))
  clear hX
  go_wp2_with fail
  go_loopw [30] (fun kv wl => ∃ (k : Nat) (u : Nat → Bool) (v : Value) (M : List Int), k ≤ fl ∧ kv = .int .i64 (k : Int) ∧ GrpV wl w0.heap.size g h (some ⟨b, off, none⟩) S.length cap a z u v M ∧ GStep w wl g h lv v ∧ Cl S P u M i k ∧ M[i]? = some (p : Int)) (fun kv _ => fl - (intOf kv).toNat)
  case atStart => exact ⟨0, t', _, L', Nat.zero_le _, by simp, GD.out, SD.out, CI.out, HX.out⟩
  clear GI SI CI BI HD0 HD4 HCJ HBL HGL HX HTP BD GD SD HI HLL x1
  obtain ⟨k, u, v, M, hk, rfl, hg, hst, hcl, hmi⟩ := hrel
  have GK := qH hg
  have SK := qH hst
  have CK := qH hcl
  have HMX := qH hmi
  have BK := qH (B0.out.trans ((hst.below G.out G.out.size)))
  clear hg hst hcl hmi
  obtain ⟨wk, hwk⟩ : ∃ v : World, v = wr := ⟨_, rfl⟩
  subst hwk
  by_cases hkl : k < fl
  ·have y1 : (k : Int) < (fl : Int) := Int.ofNat_lt.2 hkl
   have HK := qH hkl
   have HMK := qH (sub_next hkl)
   have f3 := wrap_one k (lt_bigN HK.out (Nat.le_trans HF8.out (by decide)))
   have f4 := wrap_one' k (lt_bigN HK.out (Nat.le_trans HF8.out (by decide)))
   obtain ⟨f, hf⟩ : ∃ f, s.free[k]? = some f := ⟨_, List.getElem?_eq_getElem (by rw [← HFL.out]; exact hkl)⟩
   have HF := qH hf
   have HFR := qH (HM.out.free s (List.mem_of_getElem? HS.out) f (List.mem_of_getElem? hf))
   obtain ⟨bf, of, rfl, hbf, hcf⟩ := (HROW.out.below BK.out).at_ (by rw [nums_length, ← HFL.out]; exact Nat.lt_of_le_of_lt (Nat.zero_le _) hkl)
   have hcj := hcf k (.int .i64 f) (by simp [nums, hf])
   have HTP := qH ((GK.out.gl.is p HPN.out).2 (List.mem_of_getElem? HMX.out))
   clear hk hkl hf hcf hbf
   go_wp2_with fail
   refine (gAdd_any f wk GK.out HN.out GK.out.size).mono ?_
   rintro e w2 ⟨rfl, v2, hg2, hst2⟩
   have CE := qH (CK.out.mark HMX.out (Int.natCast_nonneg p) (by simpa using HS.out) (by simpa using HTP.out) HF.out HFR.out.1 HFR.out.2)
   have ME := qH (show (addL S.length u M f)[i]? = some (p : Int) by
    obtain ⟨m, hm⟩ := addL_app S.length u M f
    rw [hm, List.getElem?_append_left (List.getElem?_eq_some_iff.1 HMX.out).1]
    exact HMX.out)
   have G2 := qH hg2
   have S2 := qH (SK.out.trans hst2)
   clear hg2 hst2 hcj
   go_wp2_with fail
   exact ⟨⟨k + 1, _, _, _, HK.out, by congr 1, G2.out, S2.out, CE.out, ME.out⟩, by simpa [intOf] using HMK.out⟩
  ·obtain rfl : k = fl := Nat.le_antisymm hk (Nat.not_lt.1 hkl)
   have y1 : ¬ ((k : Int) < (k : Int)) := Int.lt_irrefl _
   have CE := qH (CK.out.next HMX.out (by simpa using HS.out) HFL.out)
   have HIE := qH (show i + 1 ≤ M.length from (List.getElem?_eq_some_iff.1 HMX.out).1)
   have HME := qH (sub_next HMI.out)
   go_wp2_with fail
   exact ⟨⟨i + 1, _, _, _, HIE.out, by congr 1, GK.out, SK.out, CE.out⟩, by simpa [intOf] using HME.out⟩
 ·obtain rfl : i = L'.length := by omega
  have x1 : ¬ ((L'.length : Int) < (L'.length : Int)) := by omega
  go_wp2_with fail
  go_end0
  exact ⟨rfl, _, _, _, GI.out, SI.out, fun q hq => CI.out.end_ GI.out.gl hq⟩
def Sp (S : List St) (t0 : Nat → Bool) (l : List Int) (b j : Nat) (t : Nat → Bool) : Prop := ∀ q, q < S.length → (t q = true ↔ t0 q = true ∨ (q : Int) ∈ goN S (l.take j) b)
theorem Sp.start (S : List St) (t0 : Nat → Bool) (l : List Int) (b : Nat) : Sp S t0 l b 0 t0 := fun q _ => by rw [goN_nil]; simp
theorem Sp.out {S : List St} {t0 t : Nat → Bool} {l : List Int} {b j : Nat} (h : Sp S t0 l b j t) (e : goN S (l.take (j + 1)) b = goN S (l.take j) b) : Sp S t0 l b (j + 1) t := fun q hq => by rw [e]; exact h q hq
end Go.Proofs.YteadghoojeehlaaGreatDoor
