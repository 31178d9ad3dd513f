/-
  Texts of this proof, put together: RegL, SbP, SbQ. No statement is proved here.
-/
import Derived.Test.YteadghoojeehlaaGreatDoorXM
import Derived.Test.YteadghoojeehlaaGreatDoorXX
namespace Go.Proofs.YteadghoojeehlaaGreatDoor
open Go.RowKit
set_option linter.unusedVariables false
section
variable {P : Program} {ops : Array Oper} {Q : Exit → Act → World → Prop} {md : Region.Mode} {S : World → Prop} {n : Nat}
def wpAnyB (P : Program) (md : Region.Mode) (ops : Array Oper) (Q : Exit → Act → World → Prop) (S : World → Prop) (n : Nat) : Nat → Array Bool → Act → World → Prop
 | 0, listed, a, w => Region.ready md ops listed = [] ∧ Q .normal a w
 | fuel + 1, listed, a, w =>
  (Region.ready md ops listed = [] → Q .normal a w) ∧
  ∀ i ∈ Region.ready md ops listed, wpOp P ops Q i (fun a' w' => (i ≠ n → S w') ∧ wpAnyB P md ops Q S n fuel (listed.setIfInBounds i true) a' w') a w
theorem wpAny_of_B : ∀ (fuel : Nat) (listed : Array Bool) (a : Act) (w : World), wpAnyB P md ops Q S n fuel listed a w → wpAny P md ops Q fuel listed a w
 | 0, _, _, _, h => h
 | fuel + 1, _, _, _, h => ⟨h.1, fun i hi => wpOp_mono (fun a' w' h' => wpAny_of_B fuel _ a' w' h'.2) (h.2 i hi)⟩
def waitsFor (md : Region.Mode) (ops : Array Oper) (n i : Nat) : Bool := match ops[n]? with
 | some o => o.after.any fun e => Region.binds md e && e.on == i
 | none => true
theorem waits_not {i : Nat} (h : waitsFor md ops n i = true) {listed : Array Bool} (hi : i ∈ Region.ready md ops listed) : n ∉ Region.ready md ops listed := by
 intro hn
 obtain ⟨_, o, ho, hall⟩ := mem_ready.1 hn
 unfold waitsFor at h
 rw [ho] at h
 obtain ⟨e, he, hb⟩ := Array.any_eq_true'.1 h
 rw [Bool.and_eq_true, beq_iff_eq] at hb
 have h1 := hall e he hb.1
 have h0 := (mem_ready.1 hi).1
 rw [hb.2] at h1
 rcases Nat.lt_or_ge i listed.size with h' | h'
 ·simp [h'] at h0 h1; rw [h0] at h1; cases h1
 ·simp [Array.getElem?_eq_none h'] at h1
theorem wpAnyB_first {i : Nat} {oi : Oper} {v : Value} (hi : ops[i]? = some oi) (hsel : ∀ (j : Nat) (o : Oper) cs b, ops[j]? = some o → o.op ≠ .select cs b)
  (hQ : ∀ c a w, Q (.panic c) (a.put oi.dst v) w → Q (.panic c) a w) (hwt : waitsFor md ops n i = true) (hin : i ≠ n) :
  ∀ (fuel : Nat) (listed : Array Bool) (a : Act) (w : World),
   (∀ j oj, ops[j]? = some oj → j ≠ i → listed.getD j true = false → (∀ e ∈ oj.after, Region.binds md e = true → e.on ≠ i) → oi.apart ops oj = true) →
   i ∈ Region.ready md ops listed → YieldsIf P ops S oi v a → S w →
   wpAnyB P md ops Q S n fuel (listed.setIfInBounds i true) (a.put oi.dst v) w → wpAnyB P md ops Q S n (fuel + 1) listed a w := by
 intro fuel
 induction fuel with
 | zero =>
  intro listed a w _ hr hy hS H
  refine ⟨fun h => (by rw [h] at hr; cases hr), fun j hj => ?_⟩
  by_cases hji : j = i
  ·subst hji; exact hy.wpOp hi hS ⟨fun _ => hS, H⟩
  ·have := ready_mono hj hji
   rw [H.1] at this
   cases this
 | succ fuel ih =>
  intro listed a w hfree hr hy hS H
  refine ⟨fun h => (by rw [h] at hr; cases hr), fun j hj => ?_⟩
  by_cases hji : j = i
  ·subst hji; exact hy.wpOp hi hS ⟨fun _ => hS, H⟩
  ·have hjn : j ≠ n := fun e => waits_not hwt hr (e ▸ hj)
   have h1 := H.2 j (ready_mono hj hji)
   obtain ⟨hjun, oj, hoj, hall⟩ := mem_ready.1 hj
   have hnot : ∀ e ∈ oj.after, Region.binds md e = true → e.on ≠ i := fun e he hb heq => by
    have h1 := hall e he hb
    have h0 := (mem_ready.1 hr).1
    rw [heq] at h1
    rcases Nat.lt_or_ge i listed.size with h' | h'
    ·simp [h'] at h0 h1; rw [h0] at h1; cases h1
    ·simp [Array.getElem?_eq_none h'] at h1
   have h2 := wpOp_putIf hoj (hfree j oj hoj hji hjun hnot) (fun cs b => hsel i oi cs b hi) (fun cs b => hsel j oj cs b hoj) hQ hy h1
   have hfree' : ∀ k ok, ops[k]? = some ok → k ≠ i → (listed.setIfInBounds j true).getD k true = false →
     (∀ e ∈ ok.after, Region.binds md e = true → e.on ≠ i) → oi.apart ops ok = true := fun k ok hk hki hun hno => by
    refine hfree k ok hk hki ?_ hno
    by_cases hjk : j = k
    ·subst hjk; exact hjun
    ·rw [getD_set_ne true hjk] at hun; exact hun
   refine wpOp_mono (fun a' w' h3 => ⟨h3.2.1, ih (listed.setIfInBounds j true) a' w' hfree' (ready_mono hr (Ne.symm hji)) h3.1 (h3.2.1 hjn) ?_⟩) h2
   rw [Array.setIfInBounds_comm _ _ hji]
   exact h3.2.2
theorem sb_take {i : Nat} {oi : Oper} {v : Value} {fuel : Nat} {listed : Array Bool} {a : Act} {w : World} (hi : ops[i]? = some oi)
  (hs : Region.noSelect ops = true) (hf : Region.free md ops listed i = true) (hr : (Region.ready md ops listed).contains i = true)
  (hQ : ∀ c a w, Q (.panic c) (a.put oi.dst v) w → Q (.panic c) a w) (hw : Region.wanted oi (yielded ops a.tmps) = true) (hS : S w)
  (hy : ∀ W, S W → (execOp a.eval oi).run P W = .ok (.value v) W)
  (h : wpAnyB P md ops Q S n fuel (listed.setIfInBounds i true) (a.put oi.dst v) w) (hwt : (waitsFor md ops n i && !(i == n)) = true := by kernel_rfl) : wpAnyB P md ops Q S n (fuel + 1) listed a w := by
 rw [Bool.and_eq_true, Bool.not_eq_true', beq_eq_false_iff_ne] at hwt
 exact wpAnyB_first hi (Region.noSelect_spec hs) hQ hwt.1 hwt.2 fuel listed a w (Region.free_spec hi hf) (by simpa using hr) (.inl ⟨hw, hy⟩) hS h
theorem sb_actB {i : Nat} {o : Oper} {fuel : Nat} {listed : Array Bool} {a : Act} {w : World} (hi : ops[i]? = some o) (hr : Region.ready md ops listed = [i])
  (hw : Region.wanted o (yielded ops a.tmps) = true) (hS : S w)
  (h : ∀ K : Act → World → Prop, (∀ a' w', S w' → wpAnyB P md ops Q S n fuel (listed.setIfInBounds i true) a' w' → K a' w') → o.wp P a w K Q) :
  wpAnyB P md ops Q S n (fuel + 1) listed a w := by
 refine ⟨fun h0 => (by rw [hr] at h0; cases h0), fun j hj => ?_⟩
 rw [hr] at hj
 have hji : j = i := by simpa using hj
 subst hji
 unfold wpOp
 rw [hi]
 simp only [hw, if_true]
 exact .inl (h _ fun a' w' hx hk => ⟨fun _ => hx, hk⟩)
theorem sb_run {i : Nat} {oi : Oper} {v : Value} {fuel : Nat} {listed : Array Bool} {a : Act} {w : World} (hi : ops[i]? = some oi) (hr : Region.ready md ops listed = [i])
  (hw : Region.wanted oi (yielded ops a.tmps) = true) (hS : S w) (hy : (execOp a.eval oi).run P w = .ok (.value v) w)
  (h : wpAnyB P md ops Q S n fuel (listed.setIfInBounds i true) (a.put oi.dst v) w) : wpAnyB P md ops Q S n (fuel + 1) listed a w := by
 refine sb_actB hi hr hw hS fun K hK => ?_
 unfold Oper.wp
 rw [hy]
 exact hK _ _ hS h
theorem sb_last {o : Oper} {fuel : Nat} {listed : Array Bool} {a : Act} {w : World} (hi : ops[n]? = some o) (hr : Region.ready md ops listed = [n])
  (hw : Region.wanted o (yielded ops a.tmps) = true)
  (h : ∀ K : Act → World → Prop, (∀ a' w', wpAnyB P md ops Q S n fuel (listed.setIfInBounds n true) a' w' → K a' w') → o.wp P a w K Q) :
  wpAnyB P md ops Q S n (fuel + 1) listed a w := by
 refine ⟨fun h0 => (by rw [hr] at h0; cases h0), fun j hj => ?_⟩
 rw [hr] at hj
 have hji : j = n := by simpa using hj
 subst hji
 unfold wpOp
 rw [hi]
 simp only [hw, if_true]
 exact .inl (h _ fun a' w' hk => ⟨fun h0 => absurd rfl h0, hk⟩)
theorem wpAnyB_done {listed : Array Bool} {a : Act} {w : World} (hr : Region.ready md ops listed = []) (h : Q .normal a w) :
  ∀ fuel, wpAnyB P md ops Q S n fuel listed a w
 | 0 => ⟨hr, h⟩
 | _ + 1 => ⟨fun _ => h, by rw [hr]; simp⟩
theorem sb_start {id : Nat} {a : Act} {w : World} (S : World → Prop) (n : Nat) (hm : P.follows .mixedOrders = true)
  (h : ∀ wd, wd = w.drew → wpAnyB P .any ops Q S n ops.size (Array.replicate ops.size false) a wd) : (Code.region id ops true).wp P Q a w :=
 wp_region_any hm (wpAny_of_B _ _ _ _ (h _ rfl))
end
set_option linter.unusedSimpArgs false
section
variable {P : Program} {w : World} {ops : Array Oper} {rest : List Oper} {o : Oper} {a : Act} {Q : Exit → Act → World → Prop} {K : Act → World → Prop}
theorem wpList_mkMap (hgd : o.guard = none) (t : TypeId) (ho : o.op = .makeMap t none)
  (h : ∀ w', MapV w' w.heap.size [] → Below w.heap.size w w' → w'.heap.size = w.heap.size + 1 → wpList P ops Q rest (a.put o.dst (.map (some w.heap.size))) w') : wpList P ops Q (o :: rest) a w := by
 refine wpList_plain hgd fun K hK => ?_
 unfold Oper.wp
 simp only [execOp, ho, Option.map_none, run_makeMap, Sem.run_bind, Result.andThen_ok, Sem.run_pure]
 exact hK _ _ (h _ (mapV_new w) ((Below.refl _ _).alloc (Nat.le_refl _) _) (by simp))
theorem wpList_stMidB (hgd : o.guard = none) (ty : TypeId) (x y : Operand) (ho : o.op = .store ty x y) (g off : Nat) (vs : List Value) (hx : a.eval x = .pointer (some ⟨g, off, none⟩)) (hy : a.eval y = .agg vs.toArray)
  (t : TypeId) (cs : List Value) (hg : Blk w g t cs) (hfit : off + vs.length ≤ cs.length) (hi : (P.info? ty).map (·.size) = some vs.length) (h1 : vs.all (·.oneCell') = true)
  (h : ∀ w', Blk w' g t (splice cs off vs) → w'.heap.size = w.heap.size → (∀ B w0, B ≤ g → Below B w0 w → Below B w0 w') → (∀ k, k ≠ g → w'.heap[k]? = w.heap[k]?) → wpList P ops Q rest (a.put o.dst undef) w') : wpList P ops Q (o :: rest) a w := by
 refine wpList_store_mid hgd ty x y ho g off vs.toArray hx hy (by simpa using hg.there (by simpa using hfit)) (by simpa using hi) (by simpa using h1) ?_
 exact h _ (hg.setCells hfit) (setCells_size g vs w off) (fun B w0 hB hb => below_setCells hB hb) fun k hk => setCells_other g k hk vs w off
theorem wp_bldV (t e : TypeId) (x : Operand) (ho : o.op = .buildSlice t 1 #[(0, x)]) (i : TypeInfo) (z : Value) (ht : P.underlying t = some (.slice e)) (hi : P.info? e = some i) (hz : i.zero = some z) (hs : i.size = 1) (hzc : z.cells = #[z]) (v : Value) (hx : a.eval x = v) (hv : v.cells = #[v])
  (h : ∀ w', Row w' (.slice (some ⟨w.heap.size, 0, none⟩) 1 1) [v] → Below w.heap.size w w' → K (a.put o.dst (.slice (some ⟨w.heap.size, 0, none⟩) 1 1)) w') : o.wp P a w K Q := by
 have hzv : (zeroValue e).run P w = .ok z w := by simp [zeroValue, typeInfo, hi, hz]
 have hrun : (Instr.buildSlice t 1 #[(0, v)]).run P w = .ok (.slice (some ⟨w.heap.size, 0, none⟩) 1 1) (w.alloc (.cells [v].toArray e)) := by
  simp [Instr.buildSlice, run_underlying ht, sizeOf, typeInfo, hi, hs, hzv, hzc, hv, Instr.fill, Array.range_succ, Array.range_zero', newRow]
 unfold Oper.wp
 simp only [execOp, ho, List.map_toArray, List.map_cons, List.map_nil, hx, hrun, Sem.run_bind, Result.andThen_ok, Sem.run_pure]
 exact h _ (rowB (Blk.new w e _) rfl (by omega)) ((Below.refl _ _).alloc (Nat.le_refl _) _)
end
theorem built_mk (A : Option Addr) (n cap : Nat) (a z : Int) (x y : Nat) : Tryz.prog.built 64 [(0, .agg (nfc A n cap a z).toArray), (4, .map (some x)), (6, .map (some y))] = some (mkc (nfc A n cap a z) (ctab [] 0) 0 (.slice none 0 0) x (.slice none 0 0) y).toArray := by kernel_rfl
theorem mkc_splice {A : Option Addr} {n cap k mr mn : Nat} {a z : Int} {cl cl' : List UInt8} {sg q : Value} (h1 : cl.length = 256) (h2 : cl'.length = 256) :
  splice (mkc (nfc A n cap a z) cl k sg mr q mn) 3 (bvs cl') = mkc (nfc A n cap a z) cl' k sg mr q mn := by
 have e2 : (bvs cl).length = 256 := by rw [bvs_length, h1]
 have e3 : (bvs cl').length = 256 := by rw [bvs_length, h2]
 have t1 : ∀ Y : List Value, (nfc A n cap a z ++ Y).take 3 = nfc A n cap a z := fun Y => rfl
 have t2 : ∀ Y : List Value, (nfc A n cap a z ++ Y).drop (3 + 256) = Y.drop 256 := fun Y => rfl
 have t3 : ∀ T : List Value, (bvs cl ++ T).drop 256 = T := fun T => List.drop_left' e2
 unfold splice mkc
 rw [e3, t1, t2, t3]
theorem mkc_rng {w : World} {g : Nat} {ty : TypeId} {A : Option Addr} {n cap k mr mn : Nat} {a z : Int} {cl : List UInt8} {sg q : Value} (h : Blk w g ty (mkc (nfc A n cap a z) cl k sg mr q mn)) (hl : cl.length = 256) : w.rangeAt g 3 (bvs cl) := fun j v hv => by
 have hj : j < 256 := by have := (List.getElem?_eq_some_iff.1 hv).1; rwa [bvs_length, hl] at this
 rw [h.cell, mkc_cl hl hj]
 exact hv
theorem inf_bs : (Tryz.prog.info? 38).map (fun i => (i.zero, i.size, i.bytes)) = some (some (.slice none 0 0), 1, 24) := by kernel_rfl
theorem ld_bss {ev : Operand → Value} {o : Oper} (x : Operand) (ho : o.op = .load 59 x) {p : Addr} (hx : ev x = .pointer (some p)) {A : Option Addr} {n c : Nat} {W : World} (hc : W.cell? p = some (.slice A n c)) : (execOp ev o).run Tryz.prog W = .ok (.value (.slice A n c)) W := by
 simp only [execOp, ho, hx]
 go_simp
theorem wp_stBss {o : Oper} {a : Act} {K : Act → World → Prop} {Q : Exit → Act → World → Prop} {w : World} (x y : Operand) (ho : o.op = .store 59 x y) {p : Addr} (hx : a.eval x = .pointer (some p)) {A : Option Addr} {n c : Nat} (hy : a.eval y = .slice A n c) {v : Value} (hc : w.cell? p = some v) (hf : w.frozen? p = false)
  (h : K (a.put o.dst undef) (w.setCell p (.slice A n c))) : o.wp Tryz.prog a w K Q := by
 unfold Oper.wp
 simp only [execOp, ho, hx, hy]
 go_simp
 exact h
def SgR (w : World) (base : Nat) (sgv v : Value) (l : List UInt8) : Prop :=
 ∃ A c, v = .slice A l.length c ∧ (l ≠ [] → ∃ b off, A = some ⟨b, off, none⟩ ∧ base ≤ b ∧ b < w.heap.size ∧ sgv.ownBlock ≠ some b ∧ ∀ m x, l[m]? = some x → w.cell? ⟨b, off + m, none⟩ = some (bv x))
theorem SgR.step {w w' : World} {base g : Nat} {sgv sgv' v : Value} {l : List UInt8} (h : SgR w base sgv v l) (ho : Off (fun k => k = g ∨ sgv.ownBlock = some k) w w') (hg : g < base) (hn : ∀ k, sgv'.ownBlock = some k → sgv.ownBlock = some k ∨ w.heap.size ≤ k) : SgR w' base sgv' v l := by
 obtain ⟨A, c, e, h2⟩ := h
 refine ⟨A, c, e, fun hne => ?_⟩
 obtain ⟨b, off, hA, h3, h4, h5, h6⟩ := h2 hne
 refine ⟨b, off, hA, h3, Nat.lt_of_lt_of_le h4 ho.size, fun e => ?_, fun m x hx => ho.cell h4 (fun e => ?_) (h6 m x hx)⟩
 ·rcases hn b e with e | e
  ·exact h5 e
  ·omega
 ·rcases e with e | e
  ·omega
  ·exact h5 e
theorem sgR_new {w w' : World} {base : Nat} {sgv sgv' v : Value} {l : List UInt8} (h : w'.ownsRow w.heap.size 5 1 v l.length (bvs l)) (hB : base ≤ w.heap.size) (hs : ∀ k, sgv'.ownBlock = some k → k < w.heap.size ∨ w'.heap.size ≤ k) {w'' : World} {g : Nat} (hg : g < base) (ho : Off (fun k => k = g ∨ sgv.ownBlock = some k) w' w'') (hs0 : ∀ k, sgv.ownBlock = some k → k < w.heap.size) : SgR w'' base sgv' v l := by
 have hr := Row.of_own h
 have hab := own_above h
 obtain ⟨A, c, e, _, _, _, h3⟩ := hr
 rw [bvs_length] at e
 refine ⟨A, c, e, fun hne => ?_⟩
 obtain ⟨b, off, hA, hlt, hc⟩ := h3 (by intro e0; apply hne; cases l with | nil => rfl | cons x r => simp [bvs] at e0)
 subst hA
 subst e
 have hb := hab b rfl
 refine ⟨b, off, rfl, Nat.le_trans hB hb, Nat.lt_of_lt_of_le hlt ho.size, fun e => ?_, fun m x hx => ho.cell hlt (fun e => ?_) (hc m _ (bvs_get l m x hx))⟩
 ·rcases hs b e with e | e
  ·omega
  ·omega
 ·rcases e with e | e
  ·omega
  ·have := hs0 b e
   omega
theorem sg_fin {w : World} {base g mr mn : Nat} {sgv : Value} {S : List St} {vf : Nat → Value} (ho : w.ownsRow base 38 1 sgv S.length ((List.range S.length).map vf)) (hr : ∀ i s, i < S.length → S[i]? = some s → SgR w base sgv (vf i) (sgL S s)) (hg : g < base) (hmr : mr < base) (hmn : mn < base) :
  SgV w w.heap.size g mr mn sgv (sgS S) := by
 have hab := own_above ho
 obtain ⟨A, cap, e, _, _, _, h3⟩ := Row.of_own ho
 have hl : ((List.range S.length).map vf).length = S.length := by simp
 rw [hl] at e
 refine ⟨A, cap, vf, by rw [sgS_len]; exact e, fun hne => ?_, fun i l hl => ?_⟩
 ·have hpos : 0 < S.length := by
   rcases Nat.eq_zero_or_pos S.length with h0 | h0
   ·exfalso
    apply hne
    apply List.eq_nil_of_length_eq_zero
    rw [sgS_len, h0]
   ·exact h0
  obtain ⟨b, off, hA, hlt, hc⟩ := h3 (by intro e0; rw [e0] at hl; simp at hl; omega)
  subst hA
  subst e
  have hb := hab b rfl
  refine ⟨b, off, rfl, ⟨hlt, by omega, by omega, by omega⟩, hlt, fun i hi => hc i (vf i) ?_⟩
  rw [sgS_len] at hi
  simp [hi]
 ·have hi : i < S.length := by have := (List.getElem?_eq_some_iff.1 hl).1; rwa [sgS_len] at this
  have hsi : S[i]? = some S[i] := List.getElem?_eq_getElem hi
  have hl2 := sgS_get hsi
  rw [hl] at hl2
  injection hl2 with hl2
  subst hl2
  obtain ⟨Ai, ci, e, h4⟩ := hr i S[i] hi hsi
  refine ⟨Ai, ci, e, fun hne => ?_⟩
  obtain ⟨b, off, hA, h5, h6, _, h7⟩ := h4 hne
  exact ⟨b, off, hA, ⟨h6, by omega, by omega, by omega⟩, h6, h7⟩
theorem range_snoc (j : Nat) (vf : Nat → Value) (v : Value) : (List.range (j + 1)).map (fun i => if i = j then v else vf i) = (List.range j).map vf ++ [v] := by
 rw [List.range_succ, List.map_append, List.map_singleton, if_pos rfl]
 congr 1
 refine List.map_congr_left fun i hi => ?_
 have := List.mem_range.1 hi
 rw [if_neg (by omega)]
theorem wpList_stIB {w : World} {ops : Array Oper} {rest : List Oper} {o : Oper} {a : Act} {Q : Exit → Act → World → Prop} (hgd : o.guard = none) (x y : Operand) (ho : o.op = .store 3 x y) (g i : Nat) (hx : a.eval x = .pointer (some ⟨g, i, none⟩)) {v : Int} (hy : a.eval y = .int .i64 v)
  (t : TypeId) (cs : List Value) (hg : Blk w g t cs) {u : Int} (hu : cs[i]? = some (.int .i64 u))
  (h : ∀ w', Blk w' g t (cs.set i (.int .i64 v)) → w'.heap.size = w.heap.size → (∀ B w0, B ≤ g → Below B w0 w → Below B w0 w') → (∀ k, k ≠ g → w'.heap[k]? = w.heap[k]?) → wpList Tryz.prog ops Q rest (a.put o.dst undef) w') : wpList Tryz.prog ops Q (o :: rest) a w := by
 refine wpList_plain hgd fun K hK => ?_
 have hc : w.cell? ⟨g, i, none⟩ = some (.int .i64 u) := by rw [hg.cell, hu]
 have hf := hg.frozen i
 have key : K (a.put o.dst undef) (w.setCell ⟨g, i, none⟩ (.int .i64 v)) := hK _ _ (h _ (hg.set i _) (by simp) (fun B w0 hB hb => hb.setCell (p := ⟨g, i, none⟩) hB _) fun k hk => Below.heap_setCell w ⟨g, i, none⟩ _ k hk)
 unfold Oper.wp
 simp only [execOp, ho, hx, hy]
 go_simp
 exact key
def NmPost (A : Option Addr) (cap : Nat) (a z : Int) (S : List St) (w : World) (e : Ending) (w' : World) : Prop :=
 ∃ g mr mn sg, e = .returned (.pointer (some ⟨g, 0, none⟩)) ∧ MkV w' w.heap.size w'.heap.size g mr mn A cap a z (ctab (setsN S) 256) (fbN S).length sg S (.slice none 0 0) [] [] ∧ SgV w' w'.heap.size g mr mn sg (sgS S) ∧ Below w.heap.size w w'
set_option maxHeartbeats 8000000 in
set_option maxRecDepth 1000000 in
theorem newMaker_any (A : Option Addr) (cap : Nat) (a z : Int) (S : List St) (w : World) (hv : NfaV w (nfc A S.length cap a z) S a z) (hmy : MayN S a z) (hT : Tb w) :
  Calls Tryz.prog 18 #[.agg (nfc A S.length cap a z).toArray] w fun e w' => NmPost A cap a z S w e w' := by
 have V := qH hv
 have HM := qH hmy
 have HT := qH hT
 obtain ⟨cl0, hcl0⟩ : ∃ cl0, cl0 = ctab [] 0 := ⟨_, rfl⟩
 have HL0 := qH (show cl0.length = 256 by rw [hcl0]; exact ctab_length _ _)
 have HBM := qH (fun x y : Nat => by have := built_mk A S.length cap a z x y; rw [← hcl0] at this; exact this)
 obtain ⟨cl, hcl⟩ : ∃ cl, cl = ctab (setsN S) 256 := ⟨_, rfl⟩
 have HCL := qH hcl
 have HL := qH (show cl.length = 256 by rw [hcl]; exact ctab_length _ _)
 have HSC := qH (show (Tryz.prog.info? 27).map (·.size) = some (bvs cl).length from size_ctab HL.out)
 obtain ⟨k, hk⟩ : ∃ k, k = (fbN S).length := ⟨_, rfl⟩
 have HK := qH hk
 obtain ⟨one, hone⟩ : ∃ one : Nat → Bool, one = fun b => decide (b ∈ firstJ (setsN S) 256) := ⟨_, rfl⟩
 have HONE := qH hone
 obtain ⟨i4, hi4, hz4, hs4, hy4⟩ := infoP inf_set
 obtain ⟨zs, hzs⟩ : ∃ z : Nat → Bool, z = fun _ => false := ⟨_, rfl⟩
 rw [← hzs] at hz4
 obtain ⟨i0, hi0, hz0, hs0, hy0⟩ := infoP inf_nst
 obtain ⟨zz, hzz⟩ : ∃ z : List Value, z = stc ⟨fun _ => false, 0, []⟩ (.slice none 0 0) := ⟨_, rfl⟩
 have HZL := qH (show zz.length = 6 by rw [hzz]; rfl)
 have HZ0 := qH (show i0.zero = some (.agg zz.toArray) by rw [hzz]; exact hz0)
 obtain ⟨ib, hib, hbz, hbs, hby⟩ := infoP inf_bs
 obtain ⟨nv, hnv⟩ : ∃ nv, nv = nfc A S.length cap a z := ⟨_, rfl⟩
 have HNV := qH hnv
 have HN3 := qH (show (Tryz.prog.info? 24).map (·.size) = some nv.length from size_nfa (by rw [hnv]; rfl))
 have HC0 := qH (show nv[0]? = some (.slice A S.length cap) by rw [hnv]; rfl)
 rw [← hnv] at V HBM ⊢
 clear hv hmy hT hcl0 hcl hk hone hzs hzz hz0 hs0 hy0 hnv
 go_enter Tryz.func18, Tryz.ntmps18
 go_wp2_with (first
  | ((with_reducible refine atDst 1 ?_); refine wpList_box rfl 24 _ rfl nv rfl (Below.refl w.heap.size w) (Nat.le_refl _) ?_; intro w1 hk1 hb1 hs1 _; have K1 := qH hk1; have B1 := qH hb1; clear hk1 hb1 hs1; (try simp only [Act.put, qA, qB, qC]))
  | ((with_reducible refine atDst 7 ?_); refine wpList_ldArr rfl 24 _ rfl w.heap.size rfl 24 _ _ K1.out Tryz.underlying24 rfl HN3.out ?_; (try simp only [Act.put, qA, qB, qC]))
  | ((with_reducible refine atDst 8 ?_); refine wpList_mkMap rfl 60 rfl ?_; intro w2 hm hb hs; have R2 := qH hm; have B2 := qH hb; have Z2 := qH hs; clear hm hb hs; (try simp only [Act.put, qA, qB, qC]))
  | ((with_reducible refine atDst 9 ?_); refine wpList_mkMap rfl 62 rfl ?_; intro w3 hm hb hs; have N3 := qH hm; have B3 := qH hb; have Z3 := qH hs; clear hm hb hs; (try simp only [Act.put, qA, qB, qC]))
  | ((with_reducible refine atDst 10 ?_); refine wpList_bld rfl 64 #[(0, .tmp 7), (4, .tmp 8), (6, .tmp 9)] rfl (mkc nv cl0 0 (.slice none 0 0) w1.heap.size (.slice none 0 0) w2.heap.size) (HBM.out w1.heap.size w2.heap.size) ?_; (try simp only [Act.put, qA, qB, qC]))
  | ((with_reducible refine atDst 11 ?_); refine wpList_box rfl 64 _ rfl (mkc nv cl0 0 (.slice none 0 0) w1.heap.size (.slice none 0 0) w2.heap.size) rfl (Below.refl w3.heap.size w3) (Nat.le_refl _) ?_; intro w4 hk4 hb4 hs4 _; have K4 := qH (show Blk w4 w3.heap.size 64 (mkc (nfc A S.length cap a z) cl0 0 (.slice none 0 0) w1.heap.size (.slice none 0 0) w2.heap.size) by rw [← HNV.out]; exact hk4); have B4 := qH hb4; have B14 := qH (B2.out.trans ((B3.out.trans (hb4.mono B3.out.size)).mono B2.out.size)); have C4 := qH (K1.out.below (B2.out.trans ((B3.out.trans (hb4.mono B3.out.size)).mono B2.out.size)) K1.out.lt); clear hk4 hb4 hs4; (try simp only [Act.put, qA, qB, qC]))
  | ((with_reducible refine atDst 15 ?_); refine wpList_ldArr rfl 24 _ rfl w.heap.size rfl 24 _ _ C4.out Tryz.underlying24 rfl HN3.out ?_; (try simp only [Act.put, qA, qB, qC])))
 have B04 := qH (B1.out.trans (B14.out.mono B1.out.size))
 refine (sbClasses_any S a z nv w4 (V.out.below B04.out) HM.out.few (HT.out.belowG B04.out HT.out.lt)).mono ?_
 rintro e w5 ⟨rfl, hb⟩
 rw [← HCL.out, ← HK.out]
 have K5 := qH (K4.out.below hb K4.out.lt)
 have B5 := qH (B04.out.trans (hb.mono B04.out.size))
 have B45 := qH hb
 obtain ⟨g, hg⟩ : ∃ g, g = w3.heap.size := ⟨_, rfl⟩
 have HG := qH hg
 obtain ⟨mr, hmr⟩ : ∃ mr, mr = w1.heap.size := ⟨_, rfl⟩
 have HMR := qH hmr
 obtain ⟨mn, hmn⟩ : ∃ mn, mn = w2.heap.size := ⟨_, rfl⟩
 have HMN := qH hmn
 rw [← hg, ← hmr, ← hmn] at K5
 rw [← hg, ← hmr, ← hmn]
 have S0 := qH (show w.heap.size < mr by rw [hmr]; exact K1.out.lt)
 have S1 := qH (show mr < mn by rw [hmr, hmn, Z2.out]; omega)
 have S2 := qH (show mn < g by rw [hmn, hg, Z3.out]; omega)
 have S4 := qH (show g < w4.heap.size by rw [hg]; exact K4.out.lt)
 have MR5 := qH (show MapV w5 mr [] by rw [hmr]; exact R2.out.stay ((B3.out.trans ((B4.out.trans (hb.mono B4.out.size)).mono B3.out.size)).block _ R2.out.lt))
 have MN5 := qH (show MapV w5 mn [] by rw [hmn]; exact N3.out.stay ((B4.out.trans (hb.mono B4.out.size)).block _ N3.out.lt))
 have C5 := qH (show Blk w5 w.heap.size 24 nv from C4.out.below hb C4.out.lt)
 clear hb hg hmr hmn
 go_wp2_with (first
  | ((with_reducible refine atStore 27 20 17 ?_); refine wpList_stMidB rfl 27 _ _ rfl g 3 (bvs cl) rfl rfl 64 _ K5.out (by rw [mkc_len HL0.out, bvs_length, HL.out]; decide) HSC.out (bvs_all' _) ?_; intro w6 hk hs hb ho; rw [mkc_splice HL0.out HL.out] at hk; have K6 := qH hk; have Z6 := qH hs; have O6 := qH ho; have B6 := qH (hb w.heap.size w (Nat.le_of_lt (Nat.lt_trans S0.out (Nat.lt_trans S1.out S2.out))) B5.out); clear hk hs hb ho; (try simp only [Act.put, qA, qB, qC]))
  | ((with_reducible refine atStore 3 22 18 ?_); refine wpList_stIB rfl (.tmp 22) (.tmp 18) rfl g 259 rfl rfl 64 _ K6.out (mkc_k HL.out) ?_; intro w7 hk hs hb ho; rw [mkc_setk HL.out] at hk; have K7 := qH hk; have Z7 := qH (show w7.heap.size = w5.heap.size by rw [hs]; exact Z6.out); have O7 := qH (show ∀ i, i ≠ g → w7.heap[i]? = w5.heap[i]? from fun i hi => (ho i hi).trans (O6.out i hi)); have B7 := qH (hb w.heap.size w (Nat.le_of_lt (Nat.lt_trans S0.out (Nat.lt_trans S1.out S2.out))) B6.out); have G7 := qH (mkc_rng hk HL.out); clear hk hs hb ho; (try simp only [Act.put, qA, qB, qC]))
  | ((with_reducible refine atDst 26 ?_); refine wpList_load_mid rfl 27 _ rfl g 3 rfl (bvs cl) _ G7.out Tryz.underlying27 rfl HSC.out ?_; (try simp only [Act.put, qA, qB, qC])))
 rw [HCL.out]
 refine (leasts_any (setsN S) w7).mono ?_
 rintro e w8 ⟨rfl, hb⟩
 rw [← HCL.out, ← HONE.out]
 have B78 := qH hb
 have NG0 := qH (show w.heap.size ≠ g from Nat.ne_of_lt (Nat.lt_trans S0.out (Nat.lt_trans S1.out S2.out)))
 have C7 := qH (show Blk w7 w.heap.size 24 nv from (O7.out _ NG0.out).trans C5.out)
 have MR7 := qH (MR5.out.stay (O7.out mr (Nat.ne_of_lt (Nat.lt_trans S1.out S2.out))))
 have MN7 := qH (MN5.out.stay (O7.out mn (Nat.ne_of_lt S2.out)))
 clear hb
 go_wp2_with (first
  | ((with_reducible refine atDst 4 ?_); refine wpList_new rfl 43 rfl i4 _ (wds zs) hi4 hz4 rfl (Below.refl w8.heap.size w8) (Nat.le_refl _) ?_; intro w9 hk hb hs _; have K9 := qH hk; have B9 := qH hb; clear hk hb hs; (try simp only [Act.put, qA, qB, qC]))
  | ((with_reducible refine atStore 43 4 27 ?_); refine wpList_stBlk rfl 43 _ _ rfl w8.heap.size (wds one) rfl rfl 43 _ K9.out (size_set one) rfl (wds_all _) B9.out (Nat.le_refl _) ?_; intro wA hk hb hs ho; have PO := qH hk; have B7A := qH (B78.out.trans (hb.mono B78.out.size)); have CA := qH (C7.out.below (B78.out.trans (hb.mono B78.out.size)) C7.out.lt); have c0 := (C7.out.below (B78.out.trans (hb.mono B78.out.size)) C7.out.lt).cell 0; rw [HC0.out] at c0; clear hk hb hs ho; (try simp only [Act.put, qA, qB, qC])))
 clear c0
 have KA := qH (K7.out.below B7A.out K7.out.lt)
 have BA := qH (B7.out.trans (B7A.out.mono B7.out.size))
 have MRA := qH (MR7.out.stay (B7A.out.block mr MR7.out.lt))
 have MNA := qH (MN7.out.stay (B7A.out.block mn MN7.out.lt))
 obtain ⟨base, hbase⟩ : ∃ base, base = wA.heap.size := ⟨_, rfl⟩
 have HBS := qH hbase
 have GB := qH (show g < base by rw [hbase]; exact KA.out.lt)
 have PB := qH (show w8.heap.size < base by rw [hbase]; exact PO.out.lt)
 have P8 := qH (show g < w8.heap.size from Nat.lt_of_lt_of_le K7.out.lt B78.out.size)
 clear hbase
 go_loopw [31] (fun iv wl => ∃ (j : Nat) (sgv : Value) (vf : Nat → Value), j ≤ S.length ∧ iv = .int .i64 (j : Int) ∧ Blk wl g 64 (mkc (nfc A S.length cap a z) cl k sgv mr (.slice none 0 0) mn) ∧ wl.ownsRow base 38 1 sgv j ((List.range j).map vf) ∧
  (∀ i s, i < j → S[i]? = some s → SgR wl base sgv (vf i) (sgL S s)) ∧ Off (fun k => k = g ∨ base ≤ k) wA wl) (fun iv _ => S.length - (intOf iv).toNat)
 case atStart => exact ⟨0, .slice none 0 0, fun _ => undef, Nat.zero_le _, by simp, KA.out, ownN _ _ _, fun i s h => absurd h (Nat.not_lt_zero i), Off.refl _ _⟩
 case round =>
  obtain ⟨j, sgv, vf, hj, rfl, hk, ho, hr, hof⟩ := hrel
  have KJ := qH hk
  have OJ := qH ho
  have RJ := qH hr
  have FJ := qH hof
  clear hk ho hr hof
  obtain ⟨wq, hwq⟩ : ∃ v : World, v = wr := ⟨_, rfl⟩
  subst hwq
  have BQ := qH (show Below w.heap.size w wq from BA.out.trans (FJ.out.below (fun k hk => by
   rcases hk with h | h
   ·rw [h]; exact Nat.le_of_lt (Nat.lt_trans S0.out (Nat.lt_trans S1.out S2.out))
   ·exact Nat.le_trans (Nat.le_trans BA.out.size (Nat.le_of_eq HBS.out.symm)) h) BA.out.size))
  by_cases hjl : j < S.length
  ·have x1 : (j : Int) < (S.length : Int) := Int.ofNat_lt.2 hjl
   have HJ := qH hjl
   have HMX := qH (sub_next hjl)
   obtain ⟨s, hs⟩ : ∃ s, S[j]? = some s := ⟨_, List.getElem?_eq_getElem hjl⟩
   have HS := qH hs
   have VQ := V.out.below BQ.out
   rw [HNV.out] at VQ
   obtain ⟨b, off, Af, cf, rfl, hlt, hr, _⟩ := VQ.whole hs
   obtain ⟨st, hst⟩ : ∃ l, l = stc s (.slice Af s.free.length cf) := ⟨_, rfl⟩
   have HST := qH hst
   have HR2 := qH (show wq.rangeAt b (off + j * 6) st by rw [hst]; exact hr)
   have HT6 := qH (show st.length = 6 by rw [hst]; rfl)
   have HT1 := qH (show st.all (·.oneCell') = true by rw [hst]; exact stc_one _ _ _ _)
   have e3 := wrap_one j (lt_2k hjl HM.out.few)
   have e4 := wrap_one' j (lt_2k hjl HM.out.few)
   clear hj hjl hs hr hlt hst VQ
   go_wp2_with (first
    | ((with_reducible refine atDst 34 ?_); refine wpList_load_mid rfl 55 _ rfl b (off + j * 6) rfl st _ HR2.out Tryz.underlying55 rfl (size_nst HT6.out) ?_; (try simp only [Act.put, qA, qB, qC]))
    | ((with_reducible refine atDst 6 ?_); refine wpList_new rfl 55 rfl i0 _ zz hi0 HZ0.out rfl (Below.refl wq.heap.size wq) (Nat.le_refl _) ?_; intro wB hk hb hs ho; have KB := qH hk; have BB := qH hb; clear hk hb hs ho; (try simp only [Act.put, qA, qB, qC]))
    | ((with_reducible refine atStore 55 6 34 ?_); refine wpList_stBlk rfl 55 _ _ rfl wq.heap.size st rfl rfl 55 _ KB.out (size_nst HT6.out) (by rw [HZL.out, HT6.out]) HT1.out BB.out (Nat.le_refl _) ?_; intro wC hk hb hs ho; have BC := qH hb; have RS := qH (stc_range hk HST.out); have LC := qH hk.lt; clear hk hb hs ho; (try simp only [Act.put, qA, qB, qC])))
   have HRL := qH (show ((List.range j).map vf).length = j by simp)
   obtain ⟨As, cs0, hsgv, _⟩ := Row.of_own OJ.out
   rw [HRL.out] at hsgv
   have HSF := qH hsgv
   have OC := qH (ownBelow OJ.out BC.out (Nat.le_refl _))
   have HOA := qH (fun i (hi : sgv.ownBlock = some i) => (⟨own_above OJ.out i hi, (own6_lt OJ.out i hi).1⟩ : base ≤ i ∧ i < wq.heap.size))
   have KC := qH (KJ.out.below BC.out KJ.out.lt)
   have HCC := qH (show wC.cell? ⟨g, 260, none⟩ = some (.slice As j cs0) by have := KC.out.cell 260; rw [mkc_sg HL.out, hsgv] at this; exact this)
   have HGO := qH (show ¬ sgv.ownBlock = some g from fun h => by have := (HOA.out g h).1; have := GB.out; omega)
   have HPO := qH (show ¬ sgv.ownBlock = some w8.heap.size from fun h => by have := (HOA.out _ h).1; have := PB.out; omega)
   have HQO := qH (show ¬ sgv.ownBlock = some wq.heap.size from fun h => Nat.lt_irrefl _ (HOA.out _ h).2)
   have POC := qH (show Blk wC w8.heap.size 43 (wds one) from (Off.blk FJ.out (fun h => by
    rcases h with h | h
    ·have := P8.out; omega
    ·have := PB.out; omega) PO.out).below BC.out (Nat.lt_of_lt_of_le PO.out.lt FJ.out.size))
   have HTC := qH (HT.out.belowG (BQ.out.trans (BC.out.mono BQ.out.size)) HT.out.lt)
   have HTL := qH (show 0 < wC.heap.size from Nat.lt_of_lt_of_le HT.out.lt (Nat.le_trans BQ.out.size BC.out.size))
   obtain ⟨pq, hpq⟩ : ∃ pq : Nat → Bool, pq = fun b => s.set b && one b := ⟨_, rfl⟩
   have HPQ := qH hpq
   have HSG := qH (show memJ pq 256 = sgL S s by rw [hpq, HONE.out]; rfl)
   have HJN := qH (show j ≤ 2000 from Nat.le_trans (Nat.le_of_lt HJ.out) HM.out.few)
   clear hsgv hpq
   refine sb_start (fun W => Off (fun i => sgv.ownBlock = some i) wC W) 14 (by kernel_rfl) (fun wd hwd => ?_)
   have hX : Off (fun i => sgv.ownBlock = some i) wC wd := by rw [hwd]; exact Off.start _ _
   have HWD := qH (show Below wC.heap.size wC wd by rw [hwd]; exact (Below.refl _ _).drew)
   clear hwd
   refine sb_take (i := 0) (oi := ⟨some 35, _, _, _, _, _⟩) (v := ?_) rfl (by kernel_rfl) (by kernel_rfl) (by kernel_rfl) (fun _ _ _ h => h) rfl hX ?_ ?_; rotate_left; (intro W hW; go_simp; try with_reducible rfl); simp only [Act.put, qA, qB, qC]
   refine sb_take (i := 1) (oi := ⟨some 36, _, _, _, _, _⟩) (v := ?_) rfl (by kernel_rfl) (by kernel_rfl) (by kernel_rfl) (fun _ _ _ h => h) rfl hX ?_ ?_; rotate_left; (intro W hW; go_simp; try with_reducible rfl); simp only [Act.put, qA, qB, qC]
   refine sb_take (i := 2) (oi := ⟨some 37, _, _, _, _, _⟩) (v := ?_) rfl (by kernel_rfl) (by kernel_rfl) (by kernel_rfl) (fun _ _ _ h => h) rfl hX ?_ ?_; rotate_left; (intro W hW; go_simp; try with_reducible rfl); simp only [Act.put, qA, qB, qC]
   refine sb_take (i := 3) (oi := ⟨some 38, _, _, _, _, _⟩) (v := ?_) rfl (by kernel_rfl) (by kernel_rfl) (by kernel_rfl) (fun _ _ _ h => h) rfl hX ?_ ?_; rotate_left; (intro W hW; go_simp; try with_reducible rfl); simp only [Act.put, qA, qB, qC]
   refine sb_take (i := 4) (oi := ⟨some 39, _, _, _, _, _⟩) (v := .slice As j cs0) rfl (by kernel_rfl) (by kernel_rfl) (by kernel_rfl) (fun _ _ _ h => h) rfl hX (fun W hW => ld_bss (.tmp 38) rfl rfl (Off.cell hW KC.out.lt HGO.out HCC.out)) ?_; simp only [Act.put, qA, qB, qC]
   refine sb_take (i := 5) (oi := ⟨some 40, _, _, _, _, _⟩) (v := ?_) rfl (by kernel_rfl) (by kernel_rfl) (by kernel_rfl) (fun _ _ _ h => h) rfl hX ?_ ?_; rotate_left; (intro W hW; go_simp; try with_reducible rfl); simp only [Act.put, qA, qB, qC]
   refine sb_take (i := 6) (oi := ⟨some 41, _, _, _, _, _⟩) (v := .agg (wds s.set).toArray) rfl (by kernel_rfl) (by kernel_rfl) (by kernel_rfl) (fun _ _ _ h => h) rfl hX (fun W hW => ld_mid 43 _ rfl wq.heap.size 0 rfl (wds s.set) _ (Off.range hW LC.out HQO.out RS.out) (Nat.lt_of_lt_of_le LC.out (Off.size hW)) Tryz.underlying43 rfl (size_set s.set) W (Below.refl _ _)) ?_; simp only [Act.put, qA, qB, qC]
   refine sb_take (i := 7) (oi := ⟨some 42, _, _, _, _, _⟩) (v := .agg (wds one).toArray) rfl (by kernel_rfl) (by kernel_rfl) (by kernel_rfl) (fun _ _ _ h => h) rfl hX (fun W hW => ld_blk 43 _ rfl w8.heap.size rfl 43 (wds one) _ (Off.blk hW HPO.out POC.out) (Off.blk hW HPO.out POC.out).lt Tryz.underlying43 rfl (size_set one) W (Below.refl _ _)) ?_; simp only [Act.put, qA, qB, qC]
   refine sb_actB (i := 8) (o := ⟨some 43, _, _, _, _, _⟩) rfl (by kernel_rfl) rfl hX (fun K hK => ?_)
   go_wp2_with fail
   refine (bsAnd_any s.set one wd).mono ?_
   rintro e wE ⟨rfl, hb⟩
   rw [← HPQ.out]
   have BE := qH (HWD.out.trans (hb.mono HWD.out.size))
   go_wp2_with fail
   refine hK _ _ (hX.then hb) ?_
   clear hK K
   (try simp only [Act.put, qA, qB, qC])
   replace hX := hX.then hb
   clear hb
   refine sb_actB (i := 9) (o := ⟨some 44, _, _, _, _, _⟩) rfl (by kernel_rfl) rfl hX (fun K hK => ?_)
   go_wp2_with fail
   refine (bsList_own pq wE (HTC.out.belowG BE.out HTL.out)).mono ?_
   rintro e wF ⟨vl, rfl, hol, hb⟩
   rw [HSG.out] at hol
   have OL := qH hol
   have BF := qH (BE.out.trans (hb.mono BE.out.size))
   have BEF := qH hb
   obtain ⟨Al, cl2, hvl, _⟩ := Row.of_own hol
   rw [bvs_length] at hvl
   obtain ⟨nl, hnl⟩ : ∃ nl, nl = (sgL S s).length := ⟨_, rfl⟩
   rw [← hnl] at hvl
   subst hvl
   have HNL := qH hnl
   clear hnl
   go_wp2_with fail
   refine hK _ _ (hX.then hb) ?_
   clear hK K
   (try simp only [Act.put, qA, qB, qC])
   replace hX := hX.then hb
   clear hb hol
   refine sb_actB (i := 10) (o := ⟨some 45, _, _, _, _, _⟩) rfl (by kernel_rfl) rfl hX (fun K hK => ?_)
   refine wp_bldV 59 38 (.tmp 44) rfl ib (.slice none 0 0) Tryz.underlying59 hib hbz hbs rfl (.slice Al nl cl2) rfl rfl ?_
   intro wG hrG hb
   have RG := qH hrG
   have BG := qH (BF.out.trans (hb.mono BF.out.size))
   have BFG := qH hb
   refine hK _ _ (hX.then hb) ?_
   clear hK K
   (try simp only [Act.put, qA, qB, qC])
   replace hX := hX.then hb
   clear hb hrG
   refine sb_actB (i := 11) (o := ⟨some 46, _, _, _, _, _⟩) rfl (by kernel_rfl) rfl hX (fun K hK => ?_)
   refine wp_appW (base := base) (.tmp 39) (.tmp 45) 59 rfl 38 ib (.slice none 0 0) 24 Tryz.underlying59 hib hbz hbs hby rfl _ j ((List.range j).map vf) rfl (by have h1 := ownBelow OC.out BG.out (Nat.le_refl _); rw [HSF.out] at h1; exact h1) _ [.slice Al nl cl2] rfl RG.out (fun u hu => by obtain rfl := List.mem_singleton.1 hu; rfl) (by have := HJN.out; simp only [List.length_singleton]; omega) (by omega) (Nat.le_trans (Nat.le_trans (Nat.le_trans (Nat.le_of_eq HBS.out) FJ.out.size) BC.out.size) BG.out.size) ?_
   intro vn wH hoH hgH hwH
   rw [← HSF.out] at hgH hwH
   have OH := qH hoH
   have GH := qH hgH
   have WH := qH hwH
   have KH := qH ((KC.out.below BG.out KC.out.lt).grown hgH (fun e => HGO.out e.symm))
   have HCH := qH (show wH.cell? ⟨g, 260, none⟩ = some sgv by have := KH.out.cell 260; rw [mkc_sg HL.out] at this; exact this)
   have HFH := qH (KH.out.frozen 260)
   obtain ⟨An, cn, hvn, _⟩ := Row.of_own hoH
   obtain ⟨nn, hnn⟩ : ∃ nn, nn = ((List.range j).map vf ++ [Value.slice Al nl cl2]).length := ⟨_, rfl⟩
   rw [← hnn] at hvn
   subst hvn
   refine hK _ _ (hX.trans (Off.grown hgH fun i hi => .inr hi)) ?_
   clear hK K
   (try simp only [Act.put, qA, qB, qC])
   replace hX := hX.trans (Off.grown hgH fun i hi => .inr hi)
   clear hoH hgH hwH hnn
   refine sb_run (i := 12) (oi := ⟨some 47, _, _, _, _, _⟩) (v := ?_) rfl (by kernel_rfl) rfl hX ?_ ?_; rotate_left; (go_simp; try with_reducible rfl); simp only [Act.put, qA, qB, qC]
   refine sb_run (i := 13) (oi := ⟨some 48, _, _, _, _, _⟩) (v := ?_) rfl (by kernel_rfl) rfl hX ?_ ?_; rotate_left; (go_simp; try with_reducible rfl); simp only [Act.put, qA, qB, qC]
   refine sb_last (o := ⟨none, _, _, _, _, _⟩) rfl (by kernel_rfl) rfl (fun K hK => ?_)
   refine wp_stBss (.tmp 48) (.tmp 46) rfl rfl rfl HCH.out HFH.out ?_
   refine hK _ _ ?_
   clear hK K
   (try simp only [Act.put, qA, qB, qC])
   refine wpAnyB_done (by kernel_rfl) ?_ _
   have OX := qH hX
   clear hX
   obtain ⟨sgn, hsgn⟩ : ∃ v, v = Value.slice An nn cn := ⟨_, rfl⟩
   rw [← hsgn] at OH WH
   have HSN := qH hsgn
   have SZ := qH (show wq.heap.size ≤ wE.heap.size from Nat.le_trans BC.out.size BE.out.size)
   have HGN := qH (show ¬ sgn.ownBlock = some g from fun h => by
    rcases WH.out g h with e | e
    ·exact HGO.out e
    ·have h1 := KC.out.lt; have h2 := BG.out.size; exact Nat.not_lt.2 (Nat.le_trans h2 e) h1)
   have KE := qH (show Blk (wH.setCell ⟨g, 260, none⟩ sgn) g 64 (mkc (nfc (some ⟨b, off, none⟩) S.length cap a z) cl k sgn mr (.slice none 0 0) mn) from by
    have h1 := KH.out.set 260 sgn
    rw [mkc_setsg HL.out] at h1
    exact h1)
   have OFH := qH (show Off (fun i => i = g ∨ sgv.ownBlock = some i) wC (wH.setCell ⟨g, 260, none⟩ sgn) from (OX.out.mono (fun i _ h => .inr h)).trans (Off.set wH 260 sgn (.inl rfl)))
   have OFF := qH (show Off (fun i => i = g ∨ sgv.ownBlock = some i) wF (wH.setCell ⟨g, 260, none⟩ sgn) from (((Off.new _ BFG.out).trans (Off.grown GH.out fun i hi => .inr (.inr hi))).trans (Off.set wH 260 sgn (.inl rfl))))
   have OFQ := qH (show Off (fun i => i = g ∨ sgv.ownBlock = some i) wq (wH.setCell ⟨g, 260, none⟩ sgn) from (Off.new _ BC.out).trans OFH.out)
   have RE := qH (show ∀ i s', i < j + 1 → S[i]? = some s' → SgR (wH.setCell ⟨g, 260, none⟩ sgn) base sgn ((fun i => if i = j then Value.slice Al nl cl2 else vf i) i) (sgL S s') from fun i s' hi hs' => by
    show SgR _ base sgn (if i = j then Value.slice Al nl cl2 else vf i) (sgL S s')
    by_cases hij : i = j
    ·rw [if_pos hij]
     subst hij
     rw [HS.out] at hs'
     injection hs' with hs'
     subst hs'
     exact sgR_new OL.out (Nat.le_trans (Nat.le_trans (Nat.le_of_eq HBS.out) FJ.out.size) SZ.out) (fun i hi => by
      rcases WH.out i hi with e | e
      ·exact .inl (Nat.lt_of_lt_of_le (HOA.out i e).2 SZ.out)
      ·exact .inr (Nat.le_trans BFG.out.size e)) GB.out OFF.out (fun i hi => Nat.lt_of_lt_of_le (HOA.out i hi).2 SZ.out)
    ·rw [if_neg hij]
     exact (RJ.out i s' (by omega) hs').step OFQ.out GB.out (fun i hi => by
      rcases WH.out i hi with e | e
      ·exact .inl e
      ·exact .inr (Nat.le_trans (Nat.le_trans BC.out.size BG.out.size) e)))
   have OE := qH (show (wH.setCell ⟨g, 260, none⟩ sgn).ownsRow base 38 1 sgn (j + 1) ((List.range (j + 1)).map fun i => if i = j then Value.slice Al nl cl2 else vf i) from by
    rw [range_snoc]
    exact own6_stay OH.out fun i hi => Below.heap_setCell wH ⟨g, 260, none⟩ sgn i (fun e => HGN.out (by rw [← show i = g from e]; exact hi)))
   have FE := qH (FJ.out.trans (OFQ.out.mono fun i _ h => by
    rcases h with h | h
    ·exact .inl h
    ·exact .inr (HOA.out i h).1))
   rw [← HSN.out]
   clear hsgn
   go_wp2_with fail
   exact ⟨⟨j + 1, sgn, fun i => if i = j then Value.slice Al nl cl2 else vf i, HJ.out, by congr 1, KE.out, OE.out, RE.out, FE.out⟩, by simpa [intOf] using HMX.out⟩
  ·obtain rfl : j = S.length := Nat.le_antisymm hj (Nat.not_lt.1 hjl)
   have x1 : ¬ ((S.length : Int) < (S.length : Int)) := Int.lt_irrefl _
   have LB := qH (show base ≤ wq.heap.size from Nat.le_trans (Nat.le_of_eq HBS.out) FJ.out.size)
   have MRQ := qH (show MapV wq mr [] from MRA.out.stay (FJ.out.block mr MRA.out.lt (fun h => by
    rcases h with h | h
    ·have := S1.out; have := S2.out; omega
    ·have := S1.out; have := S2.out; have := GB.out; omega)))
   have MNQ := qH (show MapV wq mn [] from MNA.out.stay (FJ.out.block mn MNA.out.lt (fun h => by
    rcases h with h | h
    ·have := S2.out; omega
    ·have := S2.out; have := GB.out; omega)))
   have ME := qH (show MkV wq w.heap.size wq.heap.size g mr mn A cap a z cl k sgv S (.slice none 0 0) [] [] from
    ⟨KJ.out, HL.out, MRQ.out, MNQ.out, own32N _ _ _, by have := S0.out; have := S1.out; have := S2.out; omega, by have := S0.out; omega, by have := S0.out; have := S1.out; omega, Nat.lt_of_lt_of_le GB.out LB.out, by have := S1.out; have := S2.out; have := GB.out; have := LB.out; omega, by have := S2.out; have := GB.out; have := LB.out; omega, Nat.le_refl _, by have := S1.out; have := S2.out; omega, by have := S2.out; omega, by have := S1.out; omega, fun X h => by simp at h, .nil, fun x h => by simp at h⟩)
   have GE := qH (sg_fin (mr := mr) (mn := mn) OJ.out RJ.out GB.out (by have := S1.out; have := S2.out; have := GB.out; omega) (by have := S2.out; have := GB.out; omega))
   clear hj hjl KJ OJ RJ FJ
   go_wp2_with fail
   go_ret
   unfold NmPost
   rw [← HCL.out, ← HK.out]
   exact ⟨g, mr, mn, sgv, rfl, ME.out, GE.out, BQ.out⟩
end Go.Proofs.YteadghoojeehlaaGreatDoor
