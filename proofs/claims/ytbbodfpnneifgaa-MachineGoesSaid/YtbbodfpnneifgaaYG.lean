/-
  Texts of this proof, put together: RegM, SoA, SoB, SoO, McA. No statement is proved here.
-/
import Derived.Test.YtbbodfpnneifgaaYC
import Derived.Test.YtbbodfpnneifgaaYB
import Derived.Test.YtbbodfpnneifgaaYA
import Derived.Test.YtbbodfpnneifgaaYF
namespace Go.Proofs.Ytbbodfpnneifgaa
open Go.RowKit
set_option linter.unusedVariables false
section
variable {P : Program} {ops : Array Oper} {Q : Exit → Act → World → Prop} {md : Region.Mode} {T S : World → Prop} {n : Nat}
def wpAnyC (P : Program) (md : Region.Mode) (ops : Array Oper) (Q : Exit → Act → World → Prop) (T S : World → Prop) (n : Nat) : Nat → Array Bool → Act → World → Prop
 | 0, listed, a, w => Region.ready md ops listed = [] ∧ Q .normal a w
 | fuel + 1, listed, a, w =>
  (Region.ready md ops listed = [] → Q .normal a w) ∧
  ∀ i ∈ Region.ready md ops listed, wpOp P ops Q i (fun a' w' => T w' ∧ (i < n → S w → S w') ∧ wpAnyC P md ops Q T S n fuel (listed.setIfInBounds i true) a' w') a w
theorem wpAny_of_C : ∀ (fuel : Nat) (listed : Array Bool) (a : Act) (w : World), wpAnyC P md ops Q T S n fuel listed a w → wpAny P md ops Q fuel listed a w
 | 0, _, _, _, h => h
 | fuel + 1, _, _, _, h => ⟨h.1, fun i hi => wpOp_mono (fun a' w' h' => wpAny_of_C fuel _ a' w' h'.2.2) (h.2 i hi)⟩
def allWait (md : Region.Mode) (ops : Array Oper) (n i : Nat) : Bool := (List.range ops.size).all fun j => decide (j < n) || waitsFor md ops j i
theorem allWait_spec {i j : Nat} (h : allWait md ops n i = true) {listed : Array Bool} (hi : i ∈ Region.ready md ops listed) (hj : j ∈ Region.ready md ops listed) : j < n := by
 unfold allWait at h
 rw [List.all_eq_true] at h
 obtain ⟨_, o, ho, _⟩ := mem_ready.1 hj
 have h2 := h j (List.mem_range.2 (Array.getElem?_eq_some_iff.1 ho).1)
 rw [Bool.or_eq_true, decide_eq_true_iff] at h2
 rcases h2 with h2 | h2
 ·exact h2
 ·exact absurd hj (waits_not h2 hi)
theorem wpAnyC_first {U : World → Prop} {i : Nat} {oi : Oper} {v : Value} (hi : ops[i]? = some oi) (hsel : ∀ (j : Nat) (o : Oper) cs b, ops[j]? = some o → o.op ≠ .select cs b)
  (hQ : ∀ c a w, Q (.panic c) (a.put oi.dst v) w → Q (.panic c) a w)
  (hU : ∀ (listed : Array Bool) (j : Nat) (w w' : World), i ∈ Region.ready md ops listed → j ∈ Region.ready md ops listed → U w → T w' → (j < n → S w → S w') → U w') :
  ∀ (fuel : Nat) (listed : Array Bool) (a : Act) (w : World),
   (∀ j oj, ops[j]? = some oj → j ≠ i → listed.getD j true = false → (∀ e ∈ oj.after, Region.binds md e = true → e.on ≠ i) → oi.apart ops oj = true) →
   i ∈ Region.ready md ops listed → YieldsIf P ops U oi v a → U w → T w →
   wpAnyC P md ops Q T S n fuel (listed.setIfInBounds i true) (a.put oi.dst v) w → wpAnyC P md ops Q T S n (fuel + 1) listed a w := by
 intro fuel
 induction fuel with
 | zero =>
  intro listed a w _ hr hy hS hT H
  refine ⟨fun h => (by rw [h] at hr; cases hr), fun j hj => ?_⟩
  by_cases hji : j = i
  ·subst hji; exact hy.wpOp hi hS ⟨hT, fun _ h => h, H⟩
  ·have := ready_mono hj hji
   rw [H.1] at this
   cases this
 | succ fuel ih =>
  intro listed a w hfree hr hy hS hT H
  refine ⟨fun h => (by rw [h] at hr; cases hr), fun j hj => ?_⟩
  by_cases hji : j = i
  ·subst hji; exact hy.wpOp hi hS ⟨hT, fun _ h => h, H⟩
  ·have h1 := H.2 j (ready_mono hj hji)
   obtain ⟨hjun, oj, hoj, hall⟩ := mem_ready.1 hj
   have hnot : ∀ e ∈ oj.after, Region.binds md e = true → e.on ≠ i := fun e he hb heq => by
    have h1 := hall e he hb
    have h0 := (mem_ready.1 hr).1
    rw [heq] at h1
    rcases Nat.lt_or_ge i listed.size with h' | h'
    ·simp [h'] at h0 h1; rw [h0] at h1; cases h1
    ·simp [Array.getElem?_eq_none h'] at h1
   have h2 := wpOp_putIf hoj (hfree j oj hoj hji hjun hnot) (fun cs b => hsel i oi cs b hi) (fun cs b => hsel j oj cs b hoj) hQ hy h1
   have hfree' : ∀ k ok, ops[k]? = some ok → k ≠ i → (listed.setIfInBounds j true).getD k true = false →
     (∀ e ∈ ok.after, Region.binds md e = true → e.on ≠ i) → oi.apart ops ok = true := fun k ok hk hki hun hno => by
    refine hfree k ok hk hki ?_ hno
    by_cases hjk : j = k
    ·subst hjk; exact hjun
    ·rw [getD_set_ne true hjk] at hun; exact hun
   refine wpOp_mono (fun a' w' h3 => ⟨h3.2.1, h3.2.2.1, ih (listed.setIfInBounds j true) a' w' hfree' (ready_mono hr (Ne.symm hji)) h3.1 (hU listed j w w' hr hj hS h3.2.1 h3.2.2.1) h3.2.1 ?_⟩) h2
   rw [Array.setIfInBounds_comm _ _ hji]
   exact h3.2.2.2
theorem mc_take {i : Nat} {oi : Oper} {v : Value} {fuel : Nat} {listed : Array Bool} {a : Act} {w : World} (hi : ops[i]? = some oi)
  (hs : Region.noSelect ops = true) (hf : Region.free md ops listed i = true) (hr : (Region.ready md ops listed).contains i = true)
  (hQ : ∀ c a w, Q (.panic c) (a.put oi.dst v) w → Q (.panic c) a w) (hw : Region.wanted oi (yielded ops a.tmps) = true) (hT : T w)
  (hy : ∀ W, T W → (execOp a.eval oi).run P W = .ok (.value v) W)
  (h : wpAnyC P md ops Q T S n fuel (listed.setIfInBounds i true) (a.put oi.dst v) w) : wpAnyC P md ops Q T S n (fuel + 1) listed a w :=
 wpAnyC_first (U := T) hi (Region.noSelect_spec hs) hQ (fun _ _ _ _ _ _ _ h _ => h) fuel listed a w (Region.free_spec hi hf) (by simpa using hr) (.inl ⟨hw, hy⟩) hT hT h
theorem mc_skip {i : Nat} {oi : Oper} {fuel : Nat} {listed : Array Bool} {a : Act} {w : World} (hi : ops[i]? = some oi)
  (hs : Region.noSelect ops = true) (hf : Region.free md ops listed i = true) (hr : (Region.ready md ops listed).contains i = true)
  (hQ : ∀ c a w, Q (.panic c) (a.put oi.dst undef) w → Q (.panic c) a w) (hw : Region.wanted oi (yielded ops a.tmps) = false) (hT : T w)
  (h : wpAnyC P md ops Q T S n fuel (listed.setIfInBounds i true) (a.put oi.dst undef) w) : wpAnyC P md ops Q T S n (fuel + 1) listed a w :=
 wpAnyC_first (U := T) hi (Region.noSelect_spec hs) hQ (fun _ _ _ _ _ _ _ h _ => h) fuel listed a w (Region.free_spec hi hf) (by simpa using hr) (.inr ⟨hw, rfl⟩) hT hT h
theorem mc_takeS {i : Nat} {oi : Oper} {v : Value} {fuel : Nat} {listed : Array Bool} {a : Act} {w : World} (hi : ops[i]? = some oi)
  (hs : Region.noSelect ops = true) (hf : Region.free md ops listed i = true) (hr : (Region.ready md ops listed).contains i = true)
  (hQ : ∀ c a w, Q (.panic c) (a.put oi.dst v) w → Q (.panic c) a w) (hw : Region.wanted oi (yielded ops a.tmps) = true) (hT : T w) (hS : S w)
  (hy : ∀ W, T W → S W → (execOp a.eval oi).run P W = .ok (.value v) W)
  (h : wpAnyC P md ops Q T S n fuel (listed.setIfInBounds i true) (a.put oi.dst v) w) (hwt : allWait md ops n i = true := by kernel_rfl) : wpAnyC P md ops Q T S n (fuel + 1) listed a w :=
 wpAnyC_first (U := fun W => T W ∧ S W) hi (Region.noSelect_spec hs) hQ (fun listed j w w' h1 h2 h3 h4 h5 => ⟨h4, h5 (allWait_spec hwt h1 h2) h3.2⟩) fuel listed a w (Region.free_spec hi hf) (by simpa using hr) (.inl ⟨hw, fun W hW => hy W hW.1 hW.2⟩) ⟨hT, hS⟩ hT h
theorem mc_actB {i : Nat} {o : Oper} {fuel : Nat} {listed : Array Bool} {a : Act} {w : World} (hi : ops[i]? = some o) (hr : Region.ready md ops listed = [i])
  (hw : Region.wanted o (yielded ops a.tmps) = true)
  (h : ∀ K : Act → World → Prop, (∀ a' w', T w' → S w' → wpAnyC P md ops Q T S n fuel (listed.setIfInBounds i true) a' w' → K a' w') → o.wp P a w K Q) :
  wpAnyC P md ops Q T S n (fuel + 1) listed a w := by
 refine ⟨fun h0 => (by rw [hr] at h0; cases h0), fun j hj => ?_⟩
 rw [hr] at hj
 have hji : j = i := by simpa using hj
 subst hji
 unfold wpOp
 rw [hi]
 simp only [hw, if_true]
 exact .inl (h _ fun a' w' ht hs hk => ⟨ht, fun _ _ => hs, hk⟩)
theorem mc_last {i : Nat} {o : Oper} {fuel : Nat} {listed : Array Bool} {a : Act} {w : World} (hi : ops[i]? = some o) (hr : Region.ready md ops listed = [i])
  (hw : Region.wanted o (yielded ops a.tmps) = true)
  (h : ∀ K : Act → World → Prop, (∀ a' w', T w' → wpAnyC P md ops Q T S n fuel (listed.setIfInBounds i true) a' w' → K a' w') → o.wp P a w K Q) (hin : decide (n ≤ i) = true := by rfl) :
  wpAnyC P md ops Q T S n (fuel + 1) listed a w := by
 refine ⟨fun h0 => (by rw [hr] at h0; cases h0), fun j hj => ?_⟩
 rw [hr] at hj
 have hji : j = i := by simpa using hj
 subst hji
 unfold wpOp
 rw [hi]
 simp only [hw, if_true]
 exact .inl (h _ fun a' w' ht hk => ⟨ht, fun h0 => absurd h0 (Nat.not_lt.2 (of_decide_eq_true hin)), hk⟩)
theorem wpAnyC_done {listed : Array Bool} {a : Act} {w : World} (hr : Region.ready md ops listed = []) (h : Q .normal a w) :
  ∀ fuel, wpAnyC P md ops Q T S n fuel listed a w
 | 0 => ⟨hr, h⟩
 | _ + 1 => ⟨fun _ => h, by rw [hr]; simp⟩
theorem mc_start {id : Nat} {a : Act} {w : World} (T S : World → Prop) (n : Nat) (hm : P.follows .mixedOrders = true)
  (h : ∀ wd, wd = w.drew → wpAnyC P .any ops Q T S n ops.size (Array.replicate ops.size false) a wd) : (Code.region id ops true).wp P Q a w :=
 wp_region_any hm (wpAny_of_C _ _ _ _ (h _ rfl))
end
set_option linter.unusedSimpArgs false
def Dat (w : World) (g : Nat) (zs : List Value) (l : List UInt8) : Prop := Blk w g 5 (bvs l ++ zs)
section
variable {w w' : World} {g : Nat} {zs : List Value} {l : List UInt8}
theorem Dat.lt (h : Dat w g zs l) : g < w.heap.size := Blk.lt h
theorem Dat.drew (h : Dat w g zs l) : Dat w.drew g zs l := Blk.drew h
theorem Dat.keep (h : Dat w g zs l) (hk : w'.heap[g]? = w.heap[g]?) : Dat w' g zs l := hk.trans h
theorem Dat.cell (h : Dat w g zs l) {i : Nat} {c : UInt8} (hc : l[i]? = some c) : w.cell? ⟨g, i, none⟩ = some (bv c) := by
 have hi := (List.getElem?_eq_some_iff.1 hc).1
 rw [Blk.cell h, List.getElem?_append_left (by rw [bvs_length]; exact hi)]
 exact bvs_get l i c hc
theorem Dat.frozen (h : Dat w g zs l) (i : Nat) : w.frozen? ⟨g, i, none⟩ = false := Blk.frozen h i
theorem bvs_set (l : List UInt8) (i : Nat) (c : UInt8) : (bvs l).set i (bv c) = bvs (l.set i c) := by simp [bvs, List.map_set]
theorem Dat.set (h : Dat w g zs l) {i : Nat} (hi : i < l.length) (c : UInt8) : Dat (w.setCell ⟨g, i, none⟩ (bv c)) g zs (l.set i c) := by
 have h1 := Blk.set h i (bv c)
 rw [List.set_append_left _ _ (by rw [bvs_length]; exact hi), bvs_set] at h1
 exact h1
theorem Dat.below {B : Nat} (h : Dat w g zs l) (hb : Below B w w') (hg : g < B) : Dat w' g zs l := Blk.below h hb hg
end
theorem grownS_trans {w w1 w2 : World} {g : Nat} (h : w.grownBy w1 (some g)) (h2 : w1.grownBy w2 (some g)) : w.grownBy w2 (some g) :=
 ⟨h2.os.trans h.os, h2.tape.trans h.tape, h2.output.trans h.output, Nat.le_trans h.size h2.size, fun k hk hne => (h2.block k (by have := h.size; omega) hne).trans (h.block k hk hne)⟩
theorem grownS_set {w V : World} {g : Nat} (h : w.grownBy V (some g)) (q : Nat) (v : Value) : w.grownBy (V.setCell ⟨g, q, none⟩ v) (some g) :=
 ⟨h.os, h.tape, h.output, Nat.le_trans h.size (by simp [World.setCell]), fun k hk hn => (Below.heap_setCell V ⟨g, q, none⟩ v k (by rintro rfl; exact hn rfl)).trans (h.block k hk hn)⟩
theorem grownS_drew (w : World) (g : Nat) : w.grownBy w.drew (some g) := ⟨rfl, rfl, rfl, Nat.le_refl _, fun _ _ _ => rfl⟩
theorem grownS_below {w w1 w2 : World} {g : Nat} (h : w.grownBy w1 (some g)) (hb : Below w1.heap.size w1 w2) : w.grownBy w2 (some g) :=
 ⟨hb.os.trans h.os, hb.tape.trans h.tape, hb.output.trans h.output, Nat.le_trans h.size hb.size, fun k hk hn => (hb.block k (Nat.lt_of_lt_of_le hk h.size)).trans (h.block k hk hn)⟩
theorem swap_permS {l : List UInt8} {x y : Nat} {p q : UInt8} (hp : l[y]? = some p) (hq : l[x]? = some q) : ((l.set x p).set y q).Perm l := by
 obtain ⟨hy, hy2⟩ := List.getElem?_eq_some_iff.1 hp
 obtain ⟨hx, hx2⟩ := List.getElem?_eq_some_iff.1 hq
 have h := Array.swap_perm (xs := l.toArray) (i := x) (j := y) (by simpa using hx) (by simpa using hy)
 have h2 := h.toList
 simpa [Array.toList_swap, hy2, hx2] using h2
structure SoP (g : Nat) (zs : List Value) (l0 : List UInt8) (w0 w : World) : Prop where
 dat : ∃ l, l.Perm l0 ∧ Dat w g zs l
 grown : w0.grownBy w (some g)
section
variable {w w0 w' : World} {g : Nat} {zs : List Value} {l l0 : List UInt8}
theorem SoP.refl (h : Dat w g zs l) : SoP g zs l w w := ⟨⟨l, List.Perm.refl _, h⟩, ⟨rfl, rfl, rfl, Nat.le_refl _, fun _ _ _ => rfl⟩⟩
theorem SoP.trans (hp : l.Perm l0) (h1 : w0.grownBy w (some g)) (h : SoP g zs l w w') : SoP g zs l0 w0 w' := by
 obtain ⟨⟨l', hp', hd⟩, hg⟩ := h
 exact ⟨⟨l', hp'.trans hp, hd⟩, grownS_trans h1 hg⟩
theorem SoP.below (h : SoP g zs l0 w0 w) (hb : Below w.heap.size w w') : SoP g zs l0 w0 w' := by
 obtain ⟨⟨l, hp, hd⟩, hg⟩ := h
 exact ⟨⟨l, hp, hd.below hb hd.lt⟩, grownS_below hg hb⟩
theorem SoP.swap (hl : l.Perm l0) (hd : Dat w g zs l) (hg : w0.grownBy w (some g)) {x y : Nat} {p q : UInt8} (hp : l[y]? = some p) (hq : l[x]? = some q) : SoP g zs l0 w0 ((w.setCell ⟨g, x, none⟩ (bv p)).setCell ⟨g, y, none⟩ (bv q)) := by
 have hy := (List.getElem?_eq_some_iff.1 hp).1
 have hx := (List.getElem?_eq_some_iff.1 hq).1
 exact ⟨⟨_, (swap_permS hp hq).trans hl, (hd.set hx p).set (by rw [List.length_set]; exact hy) q⟩, grownS_set (grownS_set hg x _) y _⟩
end
/-! ### single cells -/
theorem ld_yt {ev : Operand → Value} {o : Oper} (x : Operand) (ho : o.op = .load 5 x) {p : Addr} (hx : ev x = .pointer (some p)) {b : UInt8} {W : World} (hc : W.cell? p = some (bv b)) : (execOp ev o).run Try.prog W = .ok (.value (bv b)) W := by
 simp only [execOp, ho, hx]
 go_simp
theorem cell_same {w V : World} {g i : Nat} {u : Value} (hs : V.heap[g]? = w.heap[g]?) (hc : w.cell? ⟨g, i, none⟩ = some u) : V.cell? ⟨g, i, none⟩ = some u := by
 unfold World.cell? at hc ⊢
 simp only [hs]
 exact hc
theorem wp_stY {o : Oper} {a : Act} {w : World} {K : Act → World → Prop} {Q : Exit → Act → World → Prop} (x y : Operand) (ho : o.op = .store 5 x y) (g q : Nat) (hx : a.eval x = .pointer (some ⟨g, q, none⟩)) (b : UInt8) (hy : a.eval y = bv b)
  (u : Value) (hc : w.cell? ⟨g, q, none⟩ = some u) (hf : w.frozen? ⟨g, q, none⟩ = false) (h : K (a.put o.dst undef) (w.setCell ⟨g, q, none⟩ (bv b))) : o.wp Try.prog a w K Q := by
 unfold Oper.wp execOp
 simp only [ho, hx, hy]
 have hrun : (Instr.storeAt 5 (.pointer (some ⟨g, q, none⟩)) (bv b)).run Try.prog w = .ok () (w.setCell ⟨g, q, none⟩ (bv b)) := by
  go_simp
 simp only [Sem.run_bind, hrun, Result.andThen_ok, Sem.run_pure]
 exact h
theorem dat_hit {w : World} {g : Nat} {zs : List Value} {l : List UInt8} (h : Dat w g zs l) {i : Nat} (hi : i < l.length) : w.cell? ⟨g, i, none⟩ = some (bv (l[i]'hi)) := h.cell (List.getElem?_eq_getElem hi)
theorem nanY_any (a : UInt8) (w : World) : Calls Try.prog 63 #[bv a] w fun e w' => e = .returned (.bool false) ∧ w' = w := by
 go_enter Try.func63, Try.ntmps63
 go_wp2_with fail
 go_ret
 exact ⟨rfl, rfl⟩
theorem lessY_any (a b : UInt8) (w : World) : Calls Try.prog 53 #[bv a, bv b] w fun e w' => e = .returned (.bool (decide (a.toNat < b.toNat))) ∧ w' = w := by
 go_enter Try.func53, Try.ntmps53
 go_wp2_with fail
 refine (nanY_any a w).mono ?_
 rintro e w' ⟨rfl, rfl⟩
 go_wp2_with fail
 go_ret
 exact ⟨rfl, rfl⟩
theorem w64S (k : Nat) (h : k ≤ 4611686018427387904) : wrap64 (k : Int) = (k : Int) := IntWalk.wrap64_in _ (by omega)
theorem k64S (k : Nat) (h : k ≤ 4611686018427387904) : IntKind.i64.wrap (k : Int) = (k : Int) := IntWalk.i64_in _ (by omega)
theorem ix_y {ev : Operand → Value} {o : Oper} (x i : Operand) (ho : o.op = .indexAddr 22 x i) {b n c q : Nat} (hx : ev x = .slice (some ⟨b, 0, none⟩) n c) (hi : ev i = .int .i64 (q : Int)) (hq : q < n) (W : World) : (execOp ev o).run Try.prog W = .ok (.value (.pointer (some ⟨b, q, none⟩))) W := by
 have h1 : (q : Int) < (n : Int) := Int.ofNat_lt.2 hq
 simp only [execOp, ho, hx, hi]
 go_simp
def IsW (w V : World) : Prop := V = w
section
variable {w0 w V : World} {g : Nat} {zs : List Value} {l : List UInt8}
theorem Dat.is (h : Dat w g zs l) (hV : IsW w.drew V) : Dat V g zs l := by
 have e : V = w.drew := hV
 rw [e]
 exact h.drew
theorem grownS_is (h : w0.grownBy w (some g)) (hV : IsW w.drew V) : w0.grownBy V (some g) := by
 have e : V = w.drew := hV
 rw [e]
 exact grownS_trans h (grownS_drew _ _)
theorem SoP.is (h : SoP g zs l w0 w) (hV : IsW w.drew V) : SoP g zs l w0 V := ⟨by
 obtain ⟨l', hp, hd⟩ := h.dat
 exact ⟨l', hp, hd.is hV⟩, grownS_is h.grown hV⟩
end
theorem ex_gtY {P : Program} {ev : Operand → Value} {o : Oper} (x y : Operand) {t r : TypeId} (ho : o.op = .binOp .gtr t x y r) {i j : Nat} (hx : ev x = .int .i64 (i : Int)) (hy : ev y = .int .i64 (j : Int)) {b : Bool} (hb : decide (j < i) = b) (W : World) : (execOp ev o).run P W = .ok (.value (.bool b)) W := by
 have h1 : decide ((j : Int) < (i : Int)) = b := by rw [← hb]; simp
 simp only [execOp, ho, hx, hy]
 rw [← h1]
 go_simp
theorem ex_ltY {P : Program} {ev : Operand → Value} {o : Oper} (x y : Operand) {t r : TypeId} (ho : o.op = .binOp .lss t x y r) {i j : Nat} (hx : ev x = .int .i64 (i : Int)) (hy : ev y = .int .i64 (j : Int)) {b : Bool} (hb : decide (i < j) = b) (W : World) : (execOp ev o).run P W = .ok (.value (.bool b)) W := by
 have h1 : decide ((i : Int) < (j : Int)) = b := by rw [← hb]; simp
 simp only [execOp, ho, hx, hy]
 rw [← h1]
 go_simp
theorem ex_leY {P : Program} {ev : Operand → Value} {o : Oper} (x y : Operand) {t r : TypeId} (ho : o.op = .binOp .leq t x y r) {i j : Nat} (hx : ev x = .int .i64 (i : Int)) (hy : ev y = .int .i64 (j : Int)) {b : Bool} (hb : decide (i ≤ j) = b) (W : World) : (execOp ev o).run P W = .ok (.value (.bool b)) W := by
 have h1 : decide ((i : Int) ≤ (j : Int)) = b := by rw [← hb]; simp
 simp only [execOp, ho, hx, hy]
 rw [← h1]
 go_simp
theorem ex_sub1Y {ev : Operand → Value} {o : Oper} (x : Operand) (ho : o.op = .binOp .sub 3 x (.const (.int .i64 1)) 3) {k : Nat} (hx : ev x = .int .i64 ((k + 1 : Nat) : Int)) (hc : ev (.const (.int .i64 1)) = .int .i64 1) (hk : k ≤ 1048576) (W : World) : (execOp ev o).run Try.prog W = .ok (.value (.int .i64 (k : Int))) W := by
 have h1 := w64S k (by omega)
 have h2 := k64S k (by omega)
 simp only [execOp, ho, hx, hc]
 go_simp
theorem ex_subV {ev : Operand → Value} {o : Oper} (x : Operand) (ho : o.op = .binOp .sub 3 x (.const (.int .i64 1)) 3) {i k : Nat} (hx : ev x = .int .i64 (i : Int)) (hc : ev (.const (.int .i64 1)) = .int .i64 1) (hi : k + 1 = i) (hk : k ≤ 1048576) (W : World) : (execOp ev o).run Try.prog W = .ok (.value (.int .i64 (k : Int))) W := by
 subst hi
 exact ex_sub1Y x ho hx hc hk W
theorem ex_addY {ev : Operand → Value} {o : Oper} (x y : Operand) (ho : o.op = .binOp .add 3 x y 3) {i j k : Nat} (hx : ev x = .int .i64 (i : Int)) (hy : ev y = .int .i64 (j : Int)) (hk : k = i + j) (hb : k ≤ 4194304) (W : World) : (execOp ev o).run Try.prog W = .ok (.value (.int .i64 (k : Int))) W := by
 have h1 : wrap64 ((i : Int) + (j : Int)) = (k : Int) := by rw [show (i : Int) + (j : Int) = (k : Int) from by omega]; exact w64S k (by omega)
 have h2 : IntKind.i64.wrap ((i : Int) + (j : Int)) = (k : Int) := by rw [show (i : Int) + (j : Int) = (k : Int) from by omega]; exact k64S k (by omega)
 simp only [execOp, ho, hx, hy]
 go_simp
theorem sub_w {i k : Nat} (h : k + 1 = i) (hk : k ≤ 1048576) : wrap64 ((i : Int) - 1) = (k : Int) := by
 rw [show (i : Int) - 1 = (k : Int) from by omega]; exact w64S k (by omega)
theorem sub_k {i k : Nat} (h : k + 1 = i) (hk : k ≤ 1048576) : IntKind.i64.wrap ((i : Int) - 1) = (k : Int) := by
 rw [show (i : Int) - 1 = (k : Int) from by omega]; exact k64S k (by omega)
theorem dif_w {b i d : Nat} (h : i + d = b) (hb : b ≤ 1048576) : wrap64 ((b : Int) - (i : Int)) = (d : Int) := by
 rw [show (b : Int) - (i : Int) = (d : Int) from by omega]; exact w64S d (by omega)
theorem dif_k {b i d : Nat} (h : i + d = b) (hb : b ≤ 1048576) : IntKind.i64.wrap ((b : Int) - (i : Int)) = (d : Int) := by
 rw [show (b : Int) - (i : Int) = (d : Int) from by omega]; exact k64S d (by omega)
theorem pre_ex {i : Nat} (h : 0 < i) : ∃ k, k + 1 = i := ⟨i - 1, by omega⟩
set_option maxHeartbeats 4000000 in
set_option maxRecDepth 1000000 in
theorem revY_any (g n cap : Nat) (zs : List Value) (l0 : List UInt8) (w : World) (hl : l0.length = n) (hn : n ≤ 1048576) (hd : Dat w g zs l0) (a b : Nat) (hab : a < b) (hb : b ≤ n) :
  Calls Try.prog 51 #[.slice (some ⟨g, 0, none⟩) n cap, .int .i64 (a : Int), .int .i64 (b : Int)] w fun e w' => e = .returned (.tuple #[]) ∧ SoP g zs l0 w w' := by
 have HL := qH hl
 have HN := qH hn
 have D0 := qH hd
 obtain ⟨b1, rfl⟩ : ∃ b1, b = b1 + 1 := ⟨b - 1, by omega⟩
 have HB := qH (show b1 < n by omega)
 have HA := qH (show a ≤ b1 by omega)
 have e0 := w64S b1 (by omega)
 have e0' := k64S b1 (by omega)
 clear hl hn hd hb hab
 go_enter Try.func51, Try.ntmps51
 go_wp2_with fail
 go_loopw [6, 7] (fun iv jv wl => ∃ i j : Nat, iv = .int .i64 (i : Int) ∧ jv = .int .i64 (j : Int) ∧ j < n ∧ i ≤ j + 1 ∧ SoP g zs l0 w wl) (fun iv jv _ => ((intOf jv) + 1 - (intOf iv)).toNat)
 case atStart => exact ⟨a, b1, by simp, rfl, HB.out, Nat.le_succ_of_le HA.out, SoP.refl D0.out⟩
 obtain ⟨i, j, rfl, rfl, hj, hij, ⟨l, hp, hd⟩, hg⟩ := hrel
 have SD := qH hd
 have PL := qH hp
 have GD := qH hg
 have SL := qH (show l.length = n by rw [hp.length_eq]; exact HL.out)
 have SJ := qH hj
 clear hp hd hg
 by_cases hlt : i < j
 ·have x1 : (i : Int) < (j : Int) := Int.ofNat_lt.2 hlt
  obtain ⟨j1, rfl⟩ : ∃ j1, j = j1 + 1 := ⟨j - 1, by omega⟩
  have SI := qH hlt
  obtain ⟨p, hp⟩ : ∃ p, l[j1 + 1]? = some p := ⟨_, List.getElem?_eq_getElem (by rw [SL.out]; exact hj)⟩
  obtain ⟨q, hq⟩ : ∃ q, l[i]? = some q := ⟨_, List.getElem?_eq_getElem (by rw [SL.out]; omega)⟩
  have HP := qH hp
  have HQ := qH hq
  clear hp hq hij
  have f1 := wrap_one i (by have := HN.out; have := SL.out; omega)
  have f2 := wrap_one' i (by have := HN.out; have := SL.out; omega)
  have g1 := w64S j1 (by have := HN.out; omega)
  have g2 := k64S j1 (by have := HN.out; omega)
  clear hlt
  have y1 : (i : Int) < (n : Int) := Int.ofNat_lt.2 (by have := SJ.out; have := SI.out; omega)
  have y2 : ((j1 + 1 : Nat) : Int) < (n : Int) := Int.ofNat_lt.2 hj
  rename_i wr
  go_wp2_with fail
  have SX := qH (show i < n by have := SJ.out; have := SI.out; omega)
  refine mc_start (fun V => wr.grownBy V (some g)) (fun V => V.heap[g]? = wr.heap[g]?) 13 (by kernel_rfl) (fun wd hwd => ?_)
  have hX : wr.grownBy wd (some g) := by rw [hwd]; exact grownS_drew _ _
  have hY : wd.heap[g]? = wr.heap[g]? := by rw [hwd]; rfl
  have GW := qH (grownS_trans GD.out hX)
  have HWD := qH hwd
  clear hwd
  refine mc_take (i := 0) (oi := ⟨some 14, _, _, _, _, _⟩) (v := ?_) rfl (by kernel_rfl) (by kernel_rfl) (by kernel_rfl) (fun _ _ _ h => h) rfl hX ?_ ?_; rotate_left; (intro W hW; go_simp; try with_reducible rfl); simp only [Act.put, qA, qB, qC]
  refine mc_take (i := 1) (oi := ⟨some 15, _, _, _, _, _⟩) (v := ?_) rfl (by kernel_rfl) (by kernel_rfl) (by kernel_rfl) (fun _ _ _ h => h) rfl hX ?_ ?_; rotate_left; (intro W hW; go_simp; try with_reducible rfl); simp only [Act.put, qA, qB, qC]
  refine mc_take (i := 2) (oi := ⟨some 16, _, _, _, _, _⟩) (v := ?_) rfl (by kernel_rfl) (by kernel_rfl) (by kernel_rfl) (fun _ _ _ h => h) rfl hX ?_ ?_; rotate_left; (intro W hW; go_simp; try with_reducible rfl); simp only [Act.put, qA, qB, qC]
  refine mc_take (i := 3) (oi := ⟨some 17, _, _, _, _, _⟩) (v := ?_) rfl (by kernel_rfl) (by kernel_rfl) (by kernel_rfl) (fun _ _ _ h => h) rfl hX ?_ ?_; rotate_left; (intro W hW; go_simp; try with_reducible rfl); simp only [Act.put, qA, qB, qC]
  refine mc_take (i := 4) (oi := ⟨some 18, _, _, _, _, _⟩) (v := ?_) rfl (by kernel_rfl) (by kernel_rfl) (by kernel_rfl) (fun _ _ _ h => h) rfl hX ?_ ?_; rotate_left; (intro W hW; go_simp; try with_reducible rfl); simp only [Act.put, qA, qB, qC]
  refine mc_take (i := 5) (oi := ⟨some 19, _, _, _, _, _⟩) (v := ?_) rfl (by kernel_rfl) (by kernel_rfl) (by kernel_rfl) (fun _ _ _ h => h) rfl hX ?_ ?_; rotate_left; (intro W hW; go_simp; try with_reducible rfl); simp only [Act.put, qA, qB, qC]
  refine mc_take (i := 6) (oi := ⟨some 20, _, _, _, _, _⟩) (v := .pointer (some ⟨g, (j1 + 1), none⟩)) rfl (by kernel_rfl) (by kernel_rfl) (by kernel_rfl) (fun _ _ _ h => h) rfl hX (fun V _ => ix_y (.tmp 18) (.tmp 19) rfl rfl rfl SJ.out V) ?_; simp only [Act.put, qA, qB, qC]
  refine mc_takeS (i := 7) (oi := ⟨some 21, _, _, _, _, _⟩) (v := bv p) rfl (by kernel_rfl) (by kernel_rfl) (by kernel_rfl) (fun _ _ _ h => h) rfl hX hY (fun V hT hS => ld_yt (.tmp 20) rfl rfl (cell_same hS (SD.out.cell HP.out))) ?_; simp only [Act.put, qA, qB, qC]
  refine mc_take (i := 8) (oi := ⟨some 22, _, _, _, _, _⟩) (v := ?_) rfl (by kernel_rfl) (by kernel_rfl) (by kernel_rfl) (fun _ _ _ h => h) rfl hX ?_ ?_; rotate_left; (intro W hW; go_simp; try with_reducible rfl); simp only [Act.put, qA, qB, qC]
  refine mc_take (i := 9) (oi := ⟨some 23, _, _, _, _, _⟩) (v := ?_) rfl (by kernel_rfl) (by kernel_rfl) (by kernel_rfl) (fun _ _ _ h => h) rfl hX ?_ ?_; rotate_left; (intro W hW; go_simp; try with_reducible rfl); simp only [Act.put, qA, qB, qC]
  refine mc_take (i := 10) (oi := ⟨some 24, _, _, _, _, _⟩) (v := .pointer (some ⟨g, i, none⟩)) rfl (by kernel_rfl) (by kernel_rfl) (by kernel_rfl) (fun _ _ _ h => h) rfl hX (fun V _ => ix_y (.tmp 22) (.tmp 23) rfl rfl rfl SX.out V) ?_; simp only [Act.put, qA, qB, qC]
  refine mc_takeS (i := 11) (oi := ⟨some 25, _, _, _, _, _⟩) (v := bv q) rfl (by kernel_rfl) (by kernel_rfl) (by kernel_rfl) (fun _ _ _ h => h) rfl hX hY (fun V hT hS => ld_yt (.tmp 24) rfl rfl (cell_same hS (SD.out.cell HQ.out))) ?_; simp only [Act.put, qA, qB, qC]
  refine mc_take (i := 12) (oi := ⟨some 26, _, _, _, _, _⟩) (v := .pointer (some ⟨g, i, none⟩)) rfl (by kernel_rfl) (by kernel_rfl) (by kernel_rfl) (fun _ _ _ h => h) rfl hX (fun V _ => ix_y (.tmp 14) (.tmp 15) rfl rfl rfl SX.out V) ?_; simp only [Act.put, qA, qB, qC]
  refine mc_last (i := 13) (o := ⟨none, _, _, _, _, _⟩) rfl (by kernel_rfl) rfl (fun K hK => ?_)
  have HZ := qH (show Dat wd g zs l from SD.out.keep hY)
  refine wp_stY (.tmp 26) (.tmp 21) rfl g i rfl p rfl _ (HZ.out.cell HQ.out) (HZ.out.frozen _) ?_
  refine hK _ _ (grownS_set hX _ _) ?_
  clear hK K
  have HZ2 := qH (HZ.out.set (List.getElem?_eq_some_iff.1 HQ.out).1 p)
  have HC2 := qH (dat_hit HZ2.out (i := (j1 + 1)) (by rw [List.length_set]; exact (List.getElem?_eq_some_iff.1 HP.out).1))
  clear hY
  replace hX := grownS_set hX i (bv p)
  (try simp only [Act.put, qA, qB, qC])
  refine mc_take (i := 14) (oi := ⟨some 27, _, _, _, _, _⟩) (v := .pointer (some ⟨g, (j1 + 1), none⟩)) rfl (by kernel_rfl) (by kernel_rfl) (by kernel_rfl) (fun _ _ _ h => h) rfl hX (fun V _ => ix_y (.tmp 16) (.tmp 17) rfl rfl rfl SJ.out V) ?_; simp only [Act.put, qA, qB, qC]
  refine mc_last (i := 15) (o := ⟨none, _, _, _, _, _⟩) rfl (by kernel_rfl) rfl (fun K hK => ?_)
  refine wp_stY (.tmp 27) (.tmp 25) rfl g (j1 + 1) rfl q rfl _ HC2.out (HZ2.out.frozen _) ?_
  refine hK _ _ (grownS_set hX _ _) ?_
  clear hK K hX
  (try simp only [Act.put, qA, qB, qC])
  refine wpAnyC_done (by kernel_rfl) ?_ _
  have HSW := qH (SoP.swap PL.out HZ.out GW.out HP.out HQ.out)
  have HM := qH (show ((j1 : Int) + 1 - ((i + 1 : Nat) : Int)).toNat < (((j1 + 1 : Nat) : Int) + 1 - (i : Int)).toNat by have := SI.out; omega)
  have HI1 := qH (show i + 1 ≤ j1 + 1 by have := SI.out; omega)
  have HJ1 := qH (show j1 < n by have := SJ.out; omega)
  go_wp2_with fail
  exact ⟨⟨i + 1, j1, by congr 1, rfl, HJ1.out, HI1.out, HSW.out⟩, by simpa [intOf] using HM.out⟩
 ·have x1 : ¬ ((i : Int) < (j : Int)) := by omega
  clear hij hlt
  go_wp2_with fail
  refine bodyPost_end (results_none rfl _ _ _) rfl ?_
  exact ⟨rfl, ⟨⟨l, PL.out, SD.out⟩, GD.out⟩⟩
def maxL (l : List UInt8) : Nat := l.foldl (fun m c => max m c.toNat) 0
theorem maxL_snoc (l : List UInt8) (c : UInt8) : maxL (l ++ [c]) = max (maxL l) c.toNat := by simp [maxL]
theorem maxL_up {l : List UInt8} : ∀ {c : UInt8}, c ∈ l → c.toNat ≤ maxL l := by
 have h : ∀ (l : List UInt8) (k : Nat), k ≤ l.foldl (fun m c => max m c.toNat) k ∧ ∀ c ∈ l, c.toNat ≤ l.foldl (fun m c => max m c.toNat) k := by
  intro l
  induction l with
  | nil => intro k; exact ⟨Nat.le_refl _, fun c hc => by cases hc⟩
  | cons a r ih =>
   intro k
   have h1 := ih (max k a.toNat)
   refine ⟨Nat.le_trans (Nat.le_max_left _ _) h1.1, fun c hc => ?_⟩
   rcases List.mem_cons.1 hc with rfl | hc
   ·exact Nat.le_trans (Nat.le_max_right _ _) h1.1
   ·exact h1.2 c hc
 exact fun {c} hc => (h l 0).2 c hc
theorem maxL_in {l : List UInt8} (hl : l ≠ []) : ∃ c ∈ l, c.toNat = maxL l := by
 have h : ∀ (l : List UInt8) (k : Nat), l.foldl (fun m c => max m c.toNat) k = k ∨ ∃ c ∈ l, c.toNat = l.foldl (fun m c => max m c.toNat) k := by
  intro l
  induction l with
  | nil => intro k; exact .inl rfl
  | cons a r ih =>
   intro k
   rcases ih (max k a.toNat) with h1 | ⟨c, hc, h1⟩
   ·rcases Nat.le_total k a.toNat with h2 | h2
    ·exact .inr ⟨a, List.mem_cons_self, by rw [List.foldl_cons, h1, Nat.max_eq_right h2]⟩
    ·exact .inl (by rw [List.foldl_cons, h1, Nat.max_eq_left h2])
   ·exact .inr ⟨c, List.mem_cons_of_mem _ hc, h1⟩
 rcases h l 0 with h1 | h1
 ·obtain ⟨a, ha⟩ := List.exists_mem_of_ne_nil l hl
  refine ⟨a, ha, ?_⟩
  have := maxL_up ha
  unfold maxL at this ⊢
  omega
 ·exact h1
theorem maxL_take {l : List UInt8} {i : Nat} {c : UInt8} (h : l[i]? = some c) : maxL (l.take (i + 1)) = max (maxL (l.take i)) c.toNat := by
 have hi := (List.getElem?_eq_some_iff.1 h).1
 rw [List.take_succ_eq_append_getElem hi, maxL_snoc]
 rw [(List.getElem?_eq_some_iff.1 h).2]
theorem maxL_lt {l : List UInt8} : maxL l < 256 := by
 by_cases h : l = []
 ·rw [h]; decide
 ·obtain ⟨c, _, hc⟩ := maxL_in h
  rw [← hc]
  exact c.toNat_lt
theorem maxJ (m k : Nat) : max (m : Int) (k : Int) = ((max m k : Nat) : Int) := by omega
theorem maxI (m k : Nat) : (if m < k then (k : Int) else (m : Int)) = ((max m k : Nat) : Int) := by split <;> omega
set_option maxHeartbeats 4000000 in
set_option maxRecDepth 1000000 in
theorem maxY_any (l : List UInt8) (v : Value) (w : World) (hr : Row w v (bvs l)) (h1 : 0 < l.length) (hn : l.length ≤ 1048576) :
  Calls Try.prog 39 #[v] w fun e w' => e = .returned (.int .u8 (maxL l : Int)) ∧ w' = w := by
 have HR := qH hr
 have HN := qH hn
 obtain ⟨A, cap, hv, _⟩ := hr
 subst hv
 obtain ⟨b, off, rfl, _, hc⟩ := HR.out.at_ (by rw [bvs_length]; exact h1)
 obtain ⟨n, hnn⟩ : ∃ n, n = (bvs l).length := ⟨_, rfl⟩
 have HNL := qH (show n = l.length by rw [hnn, bvs_length])
 rw [← hnn] at HR ⊢
 have HC := qH (show ∀ (i : Nat) (c : UInt8), l[i]? = some c → w.cell? ⟨b, off + i, none⟩ = some (.int .u8 (c.toNat : Int)) from fun i c h => hc i _ (bvs_get l i c h))
 have x0 : ¬ ((n : Int) < 1) := by rw [HNL.out]; omega
 have x1 : (0 : Int) < (n : Int) := by rw [HNL.out]; omega
 obtain ⟨c0, hc0⟩ : ∃ c, l[0]? = some c := ⟨_, List.getElem?_eq_getElem h1⟩
 have HC0 := qH hc0
 have y0 : w.cell? ⟨b, off, none⟩ = some (.int .u8 (c0.toNat : Int)) := HC.out 0 c0 hc0
 have HM0 := qH (show c0.toNat = maxL (l.take 1) by rw [maxL_take hc0]; simp [maxL])
 have H1 := qH (show 1 ≤ n by rw [HNL.out]; exact h1)
 clear hn hc hnn hc0 h1
 go_enter Try.func39, Try.ntmps39
 go_wp2_with fail
 go_loopw [3, 4] (fun mv iv wl => ∃ i m : Nat, mv = .int .u8 (m : Int) ∧ iv = .int .i64 (i : Int) ∧ i ≤ n ∧ m = maxL (l.take i) ∧ wl = w) (fun _ iv _ => n - (intOf iv).toNat)
 case atStart => exact ⟨1, c0.toNat, rfl, rfl, H1.out, HM0.out, rfl⟩
 obtain ⟨i, m, rfl, rfl, hi, hm, hw⟩ := hrel
 have hw2 := hw.symm
 subst hw2
 have HM := qH hm
 have HI := qH hi
 clear hw hm hi
 by_cases hin : i < n
 ·have z1 : (i : Int) < (n : Int) := Int.ofNat_lt.2 hin
  obtain ⟨c, hc⟩ : ∃ c, l[i]? = some c := ⟨_, List.getElem?_eq_getElem (by rw [← HNL.out]; exact hin)⟩
  have z2 := HC.out i c hc
  have HMX := qH (show max m c.toNat = maxL (l.take (i + 1)) by rw [maxL_take hc, HM.out])
  have HMI := qH (sub_next hin)
  have HI1 := qH (show i + 1 ≤ n from hin)
  have f1 := wrap_one i (Nat.le_trans HI.out (by rw [HNL.out]; exact Nat.le_trans HN.out (by decide)))
  have f2 := wrap_one' i (Nat.le_trans HI.out (by rw [HNL.out]; exact Nat.le_trans HN.out (by decide)))
  clear hin hc
  go_wp2_with fail
  exact ⟨⟨i + 1, max m c.toNat, congrArg (Value.int .u8) (by first | exact maxI m c.toNat | exact maxJ m c.toNat), by simp, HI1.out, HMX.out, trivial⟩, by simpa [intOf] using HMI.out⟩
 ·obtain rfl : i = n := Nat.le_antisymm HI.out (Nat.le_of_not_lt hin)
  have z1 : ¬ ((i : Int) < (i : Int)) := Int.lt_irrefl _
  have HFIN := qH (show m = maxL l by rw [HM.out, List.take_of_length_le (by rw [HNL.out]; exact Nat.le_refl _)])
  clear hin
  go_wp2_with fail
  go_ret
  rw [HFIN.out]
  exact ⟨rfl, rfl⟩
theorem cls_max {cl : List UInt8} (hl : cl.length = 256) : clsA cl = maxL cl + 1 := by
 have hne : cl ≠ [] := by intro h; rw [h] at hl; cases hl
 obtain ⟨c, hc, he⟩ := maxL_in hne
 apply Nat.le_antisymm
 ·have h : ∀ i, clsD cl i ≤ maxL cl + 1 := by
   intro i
   induction i with
   | zero => exact Nat.zero_le _
   | succ i ih =>
    rcases Nat.lt_or_ge i cl.length with hi | hi
    ·rw [clsD_next (List.getElem?_eq_getElem hi)]
     have := maxL_up (List.getElem_mem hi)
     omega
    ·have : clsD cl (i + 1) = clsD cl i := by
      unfold clsD
      rw [List.take_of_length_le hi, List.take_of_length_le (by omega)]
     rw [this]
     exact ih
  exact h 256
 ·obtain ⟨j, hj⟩ := List.mem_iff_getElem?.1 hc
  have := clsA_lt hl hj
  omega
theorem cls_row {w : World} {g : Nat} {t : TypeId} {cl : List UInt8} {vn ve : Value} (h : Blk w g t (dcl cl vn ve)) (hl : cl.length = 256) : Row w (.slice (some ⟨g, 0, none⟩) 256 256) (bvs cl) := by
 have hl2 : (bvs cl).length = 256 := by rw [bvs_length, hl]
 refine ⟨some ⟨g, 0, none⟩, 256, by rw [hl2], by rw [hl2]; exact Nat.le_refl _, by decide, (fun h => by cases h), fun _ => ⟨g, 0, rfl, h.lt, fun i u hu => ?_⟩⟩
 have hi : i < 256 := by rw [← hl2]; exact (List.getElem?_eq_some_iff.1 hu).1
 rw [Nat.zero_add, Blk.cell h, dcl_cl hl hi]
 exact hu
set_option maxHeartbeats 4000000 in
set_option maxRecDepth 1000000 in
theorem mCount_any (D : Dm) (cs : List Value) (w : World) (hv : DfaV w cs D) :
  Calls Try.prog 25 #[.agg cs.toArray] w fun e w' => e = .returned (.int .i64 (clsA D.cl : Int)) ∧ Below w.heap.size w w' := by
 obtain ⟨An, Ae, cn, ce, vf, hl, hcs, hn, hr, he⟩ := hv.form
 have HL := qH hl
 have HCS := qH hcs
 obtain ⟨m, hm⟩ : ∃ m, m = maxL D.cl := ⟨_, rfl⟩
 have HM := qH hm
 have HMB := qH (show m < 256 by rw [hm]; exact maxL_lt)
 have f1 := wrap_one m (Nat.le_trans (Nat.le_of_lt HMB.out) (by decide))
 have f2 := wrap_one' m (Nat.le_trans (Nat.le_of_lt HMB.out) (by decide))
 have f3 := w64S m (Nat.le_trans (Nat.le_of_lt HMB.out) (by decide))
 have f4 := k64S m (Nat.le_trans (Nat.le_of_lt HMB.out) (by decide))
 have HE := qH (show clsA D.cl = m + 1 by rw [cls_max hl, hm])
 rw [HE.out]
 clear hv hl hcs hn hr he hm
 go_enter Try.func25, Try.ntmps25
 go_wp2_with ((with_reducible refine atDst 1 ?_); refine wpList_box rfl 28 _ rfl cs rfl (Below.refl w.heap.size w) (Nat.le_refl _) ?_; intro w1 hk1 hb1 hs1 _; have K1 := qH hk1; have B1 := qH hb1; clear hk1 hb1 hs1; (try simp only [Act.put, qA, qB, qC]))
 refine (maxY_any D.cl _ w1 (cls_row (vn := .slice An D.next.length cn) (ve := .slice Ae D.ends.length ce) (by rw [← HCS.out]; exact K1.out) HL.out) (by rw [HL.out]; decide) (by rw [HL.out]; decide)).mono ?_
 rintro e w2 ⟨rfl, hw⟩
 subst hw
 rw [← HM.out]
 go_wp2_with fail
 go_ret
 exact ⟨rfl, B1.out⟩
def hasD (n : Nat) (x : Int) : Bool := decide (0 ≤ x ∧ x < (n : Int))
set_option maxHeartbeats 4000000 in
set_option maxRecDepth 1000000 in
theorem mHas_any (D : Dm) (x : Int) (cs : List Value) (w : World) (hv : DfaV w cs D) :
  Calls Try.prog 26 #[.agg cs.toArray, .int .i64 x] w fun e w' => e = .returned (.bool (hasD D.next.length x)) ∧ Below w.heap.size w w' := by
 obtain ⟨An, Ae, cn, ce, vf, hl, hcs, hn, hr, he⟩ := hv.form
 obtain ⟨n, hnn⟩ : ∃ n, n = D.next.length := ⟨_, rfl⟩
 rw [← hnn] at hcs ⊢
 have HL := qH hl
 have HCS := qH hcs
 clear hv hl hcs hn hr he hnn
 by_cases h0 : 0 ≤ x
 ·by_cases h1 : x < (n : Int)
  ·have HH := qH (show hasD n x = true from decide_eq_true ⟨h0, h1⟩)
   have y0 : decide (0 ≤ x) = true := decide_eq_true h0
   have y1 : decide (x < (n : Int)) = true := decide_eq_true h1
   rw [HH.out]
   go_enter Try.func26, Try.ntmps26
   go_wp2_with ((with_reducible refine atDst 2 ?_); refine wpList_box rfl 28 _ rfl cs rfl (Below.refl w.heap.size w) (Nat.le_refl _) ?_; intro w1 hk1 hb1 hs1 _; have K1 := qH hk1; have B1 := qH hb1; (have c256 : w1.cell? ⟨w.heap.size, 256, none⟩ = some (.slice An n cn) := by rw [hk1.cell 256, HCS.out]; exact dcl_n HL.out); clear hk1 hb1 hs1; (try simp only [Act.put, qA, qB, qC]))
   go_ret
   exact ⟨rfl, B1.out⟩
  ·have HH := qH (show hasD n x = false from decide_eq_false fun h => h1 h.2)
   have y0 : decide (0 ≤ x) = true := decide_eq_true h0
   have y1 : decide (x < (n : Int)) = false := decide_eq_false h1
   rw [HH.out]
   go_enter Try.func26, Try.ntmps26
   go_wp2_with ((with_reducible refine atDst 2 ?_); refine wpList_box rfl 28 _ rfl cs rfl (Below.refl w.heap.size w) (Nat.le_refl _) ?_; intro w1 hk1 hb1 hs1 _; have K1 := qH hk1; have B1 := qH hb1; (have c256 : w1.cell? ⟨w.heap.size, 256, none⟩ = some (.slice An n cn) := by rw [hk1.cell 256, HCS.out]; exact dcl_n HL.out); clear hk1 hb1 hs1; (try simp only [Act.put, qA, qB, qC]))
   go_ret
   exact ⟨rfl, B1.out⟩
 ·have HH := qH (show hasD n x = false from decide_eq_false fun h => h0 h.1)
  have y0 : decide (0 ≤ x) = false := decide_eq_false h0
  rw [HH.out]
  go_enter Try.func26, Try.ntmps26
  go_wp2_with ((with_reducible refine atDst 2 ?_); refine wpList_box rfl 28 _ rfl cs rfl (Below.refl w.heap.size w) (Nat.le_refl _) ?_; intro w1 hk1 hb1 hs1 _; have K1 := qH hk1; have B1 := qH hb1; (skip); clear hk1 hb1 hs1; (try simp only [Act.put, qA, qB, qC]))
  go_ret
  exact ⟨rfl, B1.out⟩
end Go.Proofs.Ytbbodfpnneifgaa
