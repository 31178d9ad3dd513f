/-
  Texts of this proof, put together: ThF, ThG, ThH, SetCA, SetD, SetE, BsC, GrA, BsE, SetK, SbB, SbC, SbD, Off, SbI, SbK, AppW, TgA, TgD, TgE, SbM, SbN, RegL, SbP. No statement is proved here.
-/
import Derived.Test.YtbbodfpnneifgaaYB
import Derived.Test.YtbbodfpnneifgaaYA
import Derived.Sort.Grow
import Derived.Laws.Bits128
import Derived.Shelf.Spec.TrailingZeros
import Derived.Maps.Keyed
import Derived.WideKeyArr
import Derived.Carry
import Derived.Test.YtbbodfpnneifgaaProg
import Derived.Shelf.SlSortCmp.WholeK
import Derived.Lib.OwnBridge
import Derived.Great.FillDense
import Derived.Shelf.Slices.In.SortNone
namespace Go.Proofs.Ytbbodfpnneifgaa
open Go.RowKit
set_option linter.unusedSimpArgs false
set_option linter.unusedVariables false
def cellB (w : World) (g q : Nat) : Bool := match w.cell? ⟨g, q, none⟩ with | some (.bool b) => b | _ => false
def bOf : Value → Nat | .bool true => 1 | _ => 0
def farW (g n : Nat) (v : Value) (w : World) : Nat := 2 * unm n (cellB w g) + bOf v
theorem unm_congr {n : Nat} {t u : Nat → Bool} (h : ∀ q, q < n → t q = u q) : unm n t = unm n u := by
 unfold unm
 rw [List.filter_congr fun q hq => by rw [h q (List.mem_range.1 hq)]]
theorem unm_blk {w : World} {g n : Nat} {t : Nat → Bool} (h : Blk w g 4 (bcs n t)) : unm n (cellB w g) = unm n t :=
 unm_congr fun q hq => by
  unfold cellB
  rw [h.cell, bcs_get t hq]
theorem farW_yes {w : World} {g n : Nat} {t : Nat → Bool} (h : Blk w g 4 (bcs n t)) : farW g n (.bool true) w = 2 * unm n t + 1 := by
 unfold farW
 rw [unm_blk h]
 rfl
theorem farW_no {w : World} {g n : Nat} {t : Nat → Bool} (h : Blk w g 4 (bcs n t)) : farW g n (.bool false) w = 2 * unm n t := by
 unfold farW
 rw [unm_blk h]
 rfl
theorem Ps.far {S : List St} {P : Nat → Prop} {t0 t : Nat → Bool} {ag : Bool} {kk g : Nat} {w w' : World} (h : Ps S P t0 ag S.length kk t) (h0 : Blk w g 4 (bcs S.length t0)) (h1 : Blk w' g 4 (bcs S.length t)) :
  farW g S.length (.bool ag) w' < farW g S.length (.bool true) w := by
 rw [farW_yes h0]
 cases ag with
 | true =>
  rw [farW_yes h1]
  have := h.less
  omega
 | false =>
  rw [farW_no h1]
  have := unm_congr (h.still rfl)
  omega
structure Pq (S : List St) (P : Nat → Prop) (ag : Bool) (t : Nat → Bool) : Prop where
 seeds : ∀ q, q < S.length → P q → t q = true
 sound : ∀ q, q < S.length → t q = true → Rc S P q
 done : ag = false → ∀ q, q < S.length → (t q = true ↔ Rc S P q)
theorem Ps.all {S : List St} {P : Nat → Prop} {t0 t : Nat → Bool} {ag : Bool} {kk : Nat} (h : Ps S P t0 ag S.length kk t) : Pq S P ag t :=
 ⟨h.seeds, h.sound, fun ha q hq => by subst ha; exact h.end_ hq⟩
theorem Pq.first {S : List St} {l : List Int} : Pq S (ofL l) true (sdJ l l.length) :=
 ⟨fun q _ h => sdJ_all.2 h, fun q hq h => .base (sdJ_all.1 h) hq, fun h => (by cases h)⟩
theorem goN_nil (S : List St) (l : List Int) (b : Nat) : goN S (l.take 0) b = [] := rfl
theorem ld_int9 {ev : Operand → Value} {o : Oper} (x : Operand) (ho : o.op = .load 3 x) {p : Addr} (hx : ev x = .pointer (some p)) {k : Int} {W : World} (hc : W.cell? p = some (.int .i64 k)) : (execOp ev o).run Try.prog W = .ok (.value (.int .i64 k)) W := by
 simp only [execOp, ho, hx]
 go_simp
section
variable {P : Program} {o : Oper} {a : Act} {w : World} {K : Act → World → Prop} {Q : Exit → Act → World → Prop}
theorem wp_bldI (t e : TypeId) (x : Operand) (ho : o.op = .buildSlice t 1 #[(0, x)]) (i : TypeInfo) (ht : P.underlying t = some (.slice e)) (hi : P.info? e = some i) (z : Int) (hz : i.zero = some (.int .i64 z)) (hs : i.size = 1) (p : Int) (hx : a.eval x = .int .i64 p)
  (h : ∀ w', Row w' (.slice (some ⟨w.heap.size, 0, none⟩) 1 1) (nums .i64 [p]) → Below w.heap.size w w' → K (a.put o.dst (.slice (some ⟨w.heap.size, 0, none⟩) 1 1)) w') : o.wp P a w K Q := by
 have hzv : (zeroValue e).run P w = .ok (.int .i64 z) w := by simp [zeroValue, typeInfo, hi, hz]
 have hrun : (Instr.buildSlice t 1 #[(0, .int .i64 p)]).run P w = .ok (.slice (some ⟨w.heap.size, 0, none⟩) 1 1) (w.alloc (.cells (nums .i64 [p]).toArray e)) := by
  simp [Instr.buildSlice, run_underlying ht, sizeOf, typeInfo, hi, hs, hzv, Value.cells, Instr.fill, Array.range_succ, Array.range_zero', newRow, nums]
 unfold Oper.wp
 simp only [execOp, ho, List.map_toArray, List.map_cons, List.map_nil, hx, hrun, Sem.run_bind, Result.andThen_ok, Sem.run_pure]
 have hb := Blk.new w e (nums .i64 [p])
 have hr : Row (w.alloc (.cells (nums .i64 [p]).toArray e)) (.slice (some ⟨w.heap.size, 0, none⟩) 1 1) (nums .i64 [p]) :=
  Row.of_own (hb.own (Nat.zero_le _) (by simp [maxLen, nums]))
 exact h _ hr ((Below.refl _ _).alloc (Nat.le_refl _) _)
end
theorem ld_u9 {ev : Operand → Value} {o : Oper} (x : Operand) (ho : o.op = .load 5 x) {p : Addr} (hx : ev x = .pointer (some p)) {k : Int} {W : World} (hc : W.cell? p = some (.int .u8 k)) : (execOp ev o).run Try.prog W = .ok (.value (.int .u8 k)) W := by
 simp only [execOp, ho, hx]
 go_simp
/-! ### alike -/
def alikeS (ps : List (Nat → Bool)) (a b : Nat) : Bool := ps.all fun p => p a == p b
def firstJ (ps : List (Nat → Bool)) : Nat → List Nat
 | 0 => []
 | j + 1 => if (firstJ ps j).any (fun f => alikeS ps j f) then firstJ ps j else firstJ ps j ++ [j]
def clsOf (ps : List (Nat → Bool)) (j : Nat) : Nat := (firstJ ps j).findIdx fun f => alikeS ps j f
def ctab (ps : List (Nat → Bool)) (j : Nat) : List UInt8 := (List.range 256).map fun b => if b < j then UInt8.ofNat (clsOf ps b) else 0
theorem ctab_length (ps : List (Nat → Bool)) (j : Nat) : (ctab ps j).length = 256 := by simp [ctab]
theorem size_ctab {l : List UInt8} (h : l.length = 256) : (Try.prog.info? 24).map (·.size) = some (bvs l).length := by
 rw [bvs_length, h]
 kernel_rfl
theorem bvs_all' (l : List UInt8) : (bvs l).all (·.oneCell') = true := by
 rw [List.all_eq_true]
 exact bvs_one l
def outs (ps : List (Nat → Bool)) (n j : Nat) : List (Nat → Bool) := (List.range n).map fun k b => decide (b < j) && decide (clsOf ps b = k)
/-! ### counting bits, byte by byte -/
def rep (c : Nat) : Nat → Nat
 | 0 => 0
 | n + 1 => 256 * rep c n + c
def s1 (b : Nat) : Nat := ((b / 2) &&& 85) + (b &&& 85)
def s2 (b : Nat) : Nat := ((b / 4) &&& 51) + (b &&& 51)
def s3 (b : Nat) : Nat := (b / 16 + b) &&& 15
def S1 (n x : Nat) : Nat := ((x / 2) &&& rep 85 n) + (x &&& rep 85 n)
def S2 (n x : Nat) : Nat := ((x / 4) &&& rep 51 n) + (x &&& rep 51 n)
def S3 (n x : Nat) : Nat := (x / 16 + x) &&& rep 15 n
theorem f1 : ∀ (b : Fin 256) (r : Fin 2), (((128 * r.val + b.val / 2) % 256) &&& 85) = ((b.val / 2) &&& 85) ∧ s1 b.val < 256 := by decide +kernel
theorem f2 : ∀ (b : Fin 256) (r : Fin 4), (((64 * r.val + b.val / 4) % 256) &&& 51) = ((b.val / 4) &&& 51) ∧ s2 b.val < 256 := by decide +kernel
theorem f3 : ∀ (b : Fin 69) (r : Fin 5), b.val % 16 ≤ 4 → ((16 * r.val + b.val / 16 + b.val) &&& 15) = s3 b.val := by decide +kernel
theorem f4 : ∀ b : Fin 256, s2 (s1 b.val) % 16 ≤ 4 ∧ s2 (s1 b.val) ≤ 68 ∧ s3 (s2 (s1 b.val)) = ((List.range 8).filter b.val.testBit).length ∧ s3 (s2 (s1 b.val)) ≤ 8 := by decide +kernel
def S (n x : Nat) : Nat := S3 n (S2 n (S1 n x))
def Gr (w w' : World) : Prop := ∃ q os, w' = Sort.grow (w.drewN q) os
theorem Gr.refl (w : World) : Gr w w := ⟨0, #[], by rw [Sort.grow_empty]; rfl⟩
theorem Gr.alloc {w w' : World} (h : Gr w w') (o : Obj) : Gr w (w'.alloc o) := by
 obtain ⟨q, os, rfl⟩ := h
 exact ⟨q, os ++ #[o], by rw [Sort.alloc_eq_grow, Sort.grow_grow]⟩
theorem grow_drewN (w : World) (os : Array Obj) (n : Nat) : (Sort.grow w os).drewN n = Sort.grow (w.drewN n) os := rfl
theorem Gr.drewN {w w' : World} (h : Gr w w') (n : Nat) : Gr w (w'.drewN n) := by
 obtain ⟨q, os, rfl⟩ := h
 exact ⟨q + n, os, by rw [grow_drewN, World.drewN_drewN]⟩
theorem Gr.trans {w w' w'' : World} (h : Gr w w') (k : Gr w' w'') : Gr w w'' := by
 obtain ⟨q, os, rfl⟩ := h
 obtain ⟨r, os', rfl⟩ := k
 exact ⟨q + r, os ++ os', by rw [grow_drewN, World.drewN_drewN, Sort.grow_grow]⟩
theorem Gr.below {w w' : World} (h : Gr w w') : Below w.heap.size w w' := by
 obtain ⟨q, os, rfl⟩ := h
 refine ⟨rfl, rfl, rfl, by simp [Sort.grow], fun k hk => ?_⟩
 show (w.heap ++ os)[k]? = _
 rw [Array.getElem?_append_left hk]
theorem Gr.of {w w' : World} (h : Below w.heap.size w w') (hd : w.drawn ≤ w'.drawn) : Gr w w' := by
 refine ⟨w'.drawn - w.drawn, w'.heap.extract w.heap.size w'.heap.size, ?_⟩
 have hh : w'.heap = w.heap ++ w'.heap.extract w.heap.size w'.heap.size := by
  apply Array.ext_getElem?
  intro i
  by_cases hi : i < w.heap.size
  ·rw [Array.getElem?_append_left hi]
   exact h.block i hi
  ·rw [Array.getElem?_append_right (by omega), Array.getElem?_extract]
   have hs := h.size
   by_cases h2 : i < w'.heap.size
   ·rw [if_pos (by omega)]
    congr 1
    omega
   ·rw [if_neg (by omega), Array.getElem?_eq_none (by omega)]
 obtain ⟨heap, tape, drawn, os, output⟩ := w
 obtain ⟨heap', tape', drawn', os', output'⟩ := w'
 have h1 := h.os
 have h2 := h.tape
 have h3 := h.output
 simp only at h1 h2 h3 hh hd
 subst h1 h2 h3
 unfold Sort.grow World.drewN
 simp only [World.mk.injEq, and_true, true_and]
 exact ⟨hh, by omega⟩
theorem Gr.drawn {w w' : World} (h : Gr w w') : w.drawn ≤ w'.drawn := by
 obtain ⟨q, os, rfl⟩ := h
 show w.drawn ≤ w.drawn + q
 omega
theorem Gr.size {w w' : World} (h : Gr w w') : w.heap.size ≤ w'.heap.size := h.below.size
section
variable {P : Program} {w : World} {ops : Array Oper} {rest : List Oper} {o : Oper} {a : Act} {Q : Exit → Act → World → Prop}
end
def left (p : Nat → Bool) (i c : Nat) : Nat := wd (fun j => p (64 * i + j) && decide (c ≤ j)) 64
def parts (ps : List (Nat → Bool)) : List (Nat → Bool) := outs ps (firstJ ps 256).length 256
section
variable {P : Program} {w : World} {ops : Array Oper} {rest : List Oper} {o : Oper} {a : Act} {Q : Exit → Act → World → Prop} {K : Act → World → Prop}
end
/-! ### begun -/
def setsN (S : List St) : List (Nat → Bool) := S.map St.set
def fbN (S : List St) : List Nat := firstJ (setsN S) 256
noncomputable def sucN (S : List St) (X : List Int) : List (List Int) := (fbN S).map fun b => stpN S X b
noncomputable def LN (S : List St) (a : Int) (r : Nat) : List (List Int) := Lq (sucN S) (clsN S [a]) r
def FitN (S : List St) (a : Int) (n : Nat) : Prop := Fit (sucN S) (clsN S [a]) n
structure Dm where
 cl : List UInt8
 next : List (List Int)
 ends : List Bool
deriving DecidableEq
def noDm : Dm := ⟨List.replicate 256 0, [], []⟩
def hasZ (z : Int) (X : List Int) : Bool := decide (z ∈ X)
noncomputable def machN (S : List St) (a z : Int) (n : Nat) : Dm := ⟨ctab (setsN S) 256, rowsI (sucN S) (LN S a n) n, endsI (hasZ z) (LN S a n) n⟩
noncomputable def mkN (S : List St) (a z most : Int) : Dm × Int := by
 classical exact if MayN S a z then (if h : ∃ n : Nat, FitN S a n ∧ (n : Int) ≤ most then (machN S a z h.choose, 0) else (noDm, 7)) else (noDm, 3)
theorem mkN_ok {S : List St} {a z most : Int} (h : MayN S a z) {n : Nat} (hn : FitN S a n) (hm : (n : Int) ≤ most) : mkN S a z most = (machN S a z n, 0) := by
 have he : ∃ n : Nat, FitN S a n ∧ (n : Int) ≤ most := ⟨n, hn, hm⟩
 unfold mkN
 rw [if_pos h, dif_pos he]
 rw [fit_one he.choose_spec.1 hn]
theorem mkN_many {S : List St} {a z most : Int} (h : MayN S a z) {r : Nat} (hr : most < ((LN S a r).length : Int)) : mkN S a z most = (noDm, 7) := by
 have he : ¬ ∃ n : Nat, FitN S a n ∧ (n : Int) ≤ most := by
  rintro ⟨n, hn, hm⟩
  have := fit_most hn r
  unfold LN at hr
  omega
 unfold mkN
 rw [if_pos h, dif_neg he]
/-! ### sets of states -/
theorem LN_zero (S : List St) (a : Int) : LN S a 0 = [clsN S [a]] := rfl
def gds (t : Nat → Bool) : List Value := (List.range 32).map fun i => .int .u64 (word t i : Int)
def RowG (w : World) (v : Value) (ts : List (Nat → Bool)) : Prop :=
 ∃ A cap, v = .slice A ts.length cap ∧ ts.length ≤ cap ∧ cap ≤ maxLen ∧ (A = none → cap = 0) ∧
  (ts ≠ [] → ∃ b off, A = some ⟨b, off, none⟩ ∧ b < w.heap.size ∧ ∀ i t, ts[i]? = some t → w.rangeAt b (off + i * 32) (gds t))
theorem RowG.below {w w' : World} {v : Value} {ts : List (Nat → Bool)} (h : RowG w v ts) (hb : Below w.heap.size w w') : RowG w' v ts := by
 obtain ⟨A, cap, hv, h1, h2, h0, h3⟩ := h
 refine ⟨A, cap, hv, h1, h2, h0, fun hne => ?_⟩
 obtain ⟨b, off, hA, hlt, hc⟩ := h3 hne
 exact ⟨b, off, hA, Nat.lt_of_lt_of_le hlt hb.size, fun i t ht => range_below (hc i t ht) hb hlt⟩
theorem RowG.at_ {w : World} {A : Option Addr} {n cap : Nat} {ts : List (Nat → Bool)} (h : RowG w (.slice A n cap) ts) (hne : 0 < ts.length) : ∃ b off, A = some ⟨b, off, none⟩ ∧ b < w.heap.size ∧ ∀ i t, ts[i]? = some t → w.rangeAt b (off + i * 32) (gds t) := by
 obtain ⟨A', cap', he, _, _, _, h3⟩ := h
 injection he with hA _ _
 subst hA
 exact h3 (by rintro rfl; simp at hne)
section
variable {P : Program} {w : World} {ops : Array Oper} {rest : List Oper} {o : Oper} {a : Act} {Q : Exit → Act → World → Prop}
end
def MapV (w : World) (b : Nat) (E : List (Value × Value)) : Prop := ∃ es clock, w.heap[b]? = some (.map es clock) ∧ es.toList.map (fun x => (x.key, x.val)) = E
theorem MapV.lt {w : World} {b : Nat} {E : List (Value × Value)} (h : MapV w b E) : b < w.heap.size := by
 obtain ⟨es, clock, hb, _⟩ := h
 exact (Array.getElem?_eq_some_iff.1 hb).1
theorem MapV.stay {w w' : World} {b : Nat} {E : List (Value × Value)} (h : MapV w b E) (hk : w'.heap[b]? = w.heap[b]?) : MapV w' b E := by
 obtain ⟨es, clock, hb, hE⟩ := h
 exact ⟨es, clock, hk.trans hb, hE⟩
section
variable {P : Program} {w : World} {t k e : TypeId} {b : Nat} {E : List (Value × Value)}
end
/-! ### groups as keys -/
structure Off (D : Nat → Prop) (w w' : World) : Prop where
 os : w'.os = w.os
 tape : w'.tape = w.tape
 output : w'.output = w.output
 size : w.heap.size ≤ w'.heap.size
 block : ∀ k, k < w.heap.size → ¬ D k → w'.heap[k]? = w.heap[k]?
section
variable {D D' : Nat → Prop} {w w1 w2 w' : World} {B b o : Nat}
theorem Off.refl (D : Nat → Prop) (w : World) : Off D w w := ⟨rfl, rfl, rfl, Nat.le_refl _, fun _ _ _ => rfl⟩
theorem Off.start (D : Nat → Prop) (w : World) : Off D w w.drew := ⟨rfl, rfl, rfl, Nat.le_refl _, fun _ _ _ => rfl⟩
theorem Off.trans (h : Off D w w1) (k : Off D w1 w2) : Off D w w2 :=
 ⟨k.os.trans h.os, k.tape.trans h.tape, k.output.trans h.output, Nat.le_trans h.size k.size, fun i hi hn => (k.block i (Nat.lt_of_lt_of_le hi h.size) hn).trans (h.block i hi hn)⟩
theorem Off.mono (h : Off D w w') (hD : ∀ k, k < w.heap.size → D k → D' k) : Off D' w w' := ⟨h.os, h.tape, h.output, h.size, fun k hk hn => h.block k hk fun hd => hn (hD k hk hd)⟩
theorem Off.of (h : Below B w w') (hB : ∀ k, k < w.heap.size → ¬ D k → k < B) : Off D w w' := ⟨h.os, h.tape, h.output, h.size, fun k hk hn => h.block k (hB k hk hn)⟩
theorem Off.new (D : Nat → Prop) (h : Below w.heap.size w w') : Off D w w' := .of h fun k hk _ => hk
theorem Off.put {g : Nat} (h : Below B w w') (ho : ∀ k, k ≠ g → w'.heap[k]? = w.heap[k]?) (hD : w.heap.size ≤ g ∨ D g) : Off D w w' :=
 ⟨h.os, h.tape, h.output, h.size, fun k hk hn => ho k (by rintro rfl; rcases hD with h1 | h1; exact absurd hk (Nat.not_lt.2 h1); exact hn h1)⟩
theorem Off.grown {r : Option Nat} (h : w.grownBy w' r) (hD : ∀ k, r = some k → w.heap.size ≤ k ∨ D k) : Off D w w' :=
 ⟨h.os, h.tape, h.output, h.size, fun k hk hn => h.block k hk fun e => by rcases hD k e.symm with h1 | h1; exact absurd hk (Nat.not_lt.2 h1); exact hn h1⟩
theorem Off.set (w : World) {g : Nat} (i : Nat) (u : Value) (hD : D g) : Off D w (w.setCell ⟨g, i, none⟩ u) :=
 ⟨rfl, rfl, rfl, by simp [World.setCell], fun k hk hn => Below.heap_setCell w ⟨g, i, none⟩ u k (by rintro rfl; exact hn hD)⟩
theorem Off.setCells {g : Nat} (hD : D g) : ∀ (vs : List Value) (o : Nat) (w : World), Off D w (w.setCells g o vs)
 | [], _, w => Off.refl D w
 | v :: r, o, w => (Off.set w o v hD).trans (Off.setCells hD r (o + 1) _)
theorem Off.below (h : Off D w w') (hD : ∀ k, D k → B ≤ k) (hB : B ≤ w.heap.size) : Below B w w' := ⟨h.os, h.tape, h.output, h.size, fun k hk => h.block k (Nat.lt_of_lt_of_le hk hB) fun hd => absurd hk (Nat.not_lt.2 (hD k hd))⟩
theorem Off.cell (h : Off D w w') {v : Value} (hb : b < w.heap.size) (hn : ¬ D b) (hc : w.cell? ⟨b, o, none⟩ = some v) : w'.cell? ⟨b, o, none⟩ = some v := by
 have := h.block b hb hn
 unfold World.cell? at hc ⊢
 simp only [this]
 exact hc
theorem Off.range (h : Off D w w') {cs : List Value} (hb : b < w.heap.size) (hn : ¬ D b) (hc : w.rangeAt b o cs) : w'.rangeAt b o cs := fun j v hv => h.cell hb hn (hc j v hv)
theorem Off.blk (h : Off D w w') {t : TypeId} {cs : List Value} (hn : ¬ D b) (hc : Blk w b t cs) : Blk w' b t cs := (h.block b hc.lt hn).trans hc
theorem Off.then (h : Off D w w1) (hb : Below w1.heap.size w1 w2) : Off D w w2 := h.trans (Off.new D hb)
end
def fbB (ps : List (Nat → Bool)) (j : Nat) : List UInt8 := (firstJ ps j).map UInt8.ofNat
/-! ### cells -/
section
variable {A : Option Addr} {n cap k mr mn : Nat} {a z : Int} {cl : List UInt8} {sg q : Value}
end
/-! ### entries -/
/-! ### the whole of it -/
def Md (g mr mn : Nat) (qv : Value) (k : Nat) : Prop := k = g ∨ k = mr ∨ k = mn ∨ qv.ownBlock = some k
structure MStep (w w' : World) (g mr mn : Nat) (qv qv' : Value) : Prop where
 off : Off (Md g mr mn qv) w w'
 new : ∀ k, qv'.ownBlock = some k → qv.ownBlock = some k ∨ w.heap.size ≤ k
section
variable {w w' w'' : World} {B H g mr mn cap k : Nat} {A : Option Addr} {a z : Int} {cl : List UInt8} {sg : Value} {S : List St} {qv qv' qv'' : Value} {Qs : List (List Int)} {Es : List Int}
theorem MStep.refl (w : World) (g mr mn : Nat) (qv : Value) : MStep w w g mr mn qv qv := ⟨Off.refl _ _, fun k hk => .inl hk⟩
theorem MStep.trans (x : MStep w w' g mr mn qv qv') (y : MStep w' w'' g mr mn qv' qv'') : MStep w w'' g mr mn qv qv'' := by
 refine ⟨⟨y.off.os.trans x.off.os, y.off.tape.trans x.off.tape, y.off.output.trans x.off.output, Nat.le_trans x.off.size y.off.size, fun k hk hn => ?_⟩, fun k hk => ?_⟩
 ·refine (y.off.block k (Nat.lt_of_lt_of_le hk x.off.size) fun hd => ?_).trans (x.off.block k hk hn)
  rcases hd with e | e | e | e
  ·exact hn (.inl e)
  ·exact hn (.inr (.inl e))
  ·exact hn (.inr (.inr (.inl e)))
  ·rcases x.new k e with e | e
   ·exact hn (.inr (.inr (.inr e)))
   ·omega
 ·rcases y.new k hk with e | e
  ·exact x.new k e
  ·exact .inr (Nat.le_trans x.off.size e)
theorem MStep.of (hb : Below w.heap.size w w') (g mr mn : Nat) (qv : Value) : MStep w w' g mr mn qv qv := ⟨Off.new _ hb, fun k hk => .inl hk⟩
end
section
variable {P : Program} {w : World} {o : Oper} {a : Act} {Q : Exit → Act → World → Prop} {K : Act → World → Prop}
end
section
variable {P : Program} {w : World} {ops : Array Oper} {rest : List Oper} {o : Oper} {a : Act} {Q : Exit → Act → World → Prop}
theorem wp_appW {base : Nat} {K : Act → World → Prop} (s x : Operand) (t : TypeId)
  (ho : o.op = .call { callee := .builtin .append, args := #[s, x], argTypes := #[t, t] })
  (e : TypeId) (i : TypeInfo) (z : Value) (bytes : Nat) (ht : P.underlying t = some (.slice e)) (hi : P.info? e = some i) (hz : i.zero = some z)
  (hsize : i.size = 1) (hby : i.bytes = bytes) (hzs : z.cells.size = 1)
  (v : Value) (n : Nat) (xs : List Value) (hs : a.eval s = v) (hown : w.ownsRow base e 1 v n xs)
  (u : Value) (news : List Value) (hx : a.eval x = u) (hr : Row w u news) (h1 : ∀ u ∈ news, u.oneCell' = true)
  (hlen : n + news.length ≤ 2097152) (hby2 : bytes ≤ 1000) (hb : base ≤ w.heap.size)
  (h : ∀ v' w', w'.ownsRow base e 1 v' (n + news.length) (xs ++ news) → w.grownBy w' v.ownBlock → (∀ k, v'.ownBlock = some k → v.ownBlock = some k ∨ w.heap.size ≤ k) → K (a.put o.dst v') w') : o.wp P a w K Q := by
 have hm : (n + news.length) * bytes ≤ 2097152 * 1000 := Nat.mul_le_mul hlen hby2
 obtain ⟨A, cap, rfl, hl, hmx, h0, hc⟩ := hr
 cases A with
 | none =>
  have hcap : cap = 0 := h0 rfl
  subst hcap
  have hn : news = [] := List.eq_nil_of_length_eq_zero (by omega)
  subst hn
  have hrun := run_append_owned_none (P := P) (w := w) base t o.type e i 1 ht hi v n xs hown
  unfold Oper.wp
  simp at hx
  simp [execOp, ho, resolve, invoke, builtin, hs, hx, hrun, Result.andThen]
  exact h v w (by simpa using hown) (World.grownBy.refl _ _) fun k hk => .inl hk
 | some ad =>
  have hnews : ∀ j u, news[j]? = some u → w.cell? (ad.add j) = some u := by
   intro j u hj
   obtain ⟨b, off, hA, _, hcell⟩ := hc (by intro e; rw [e] at hj; simp at hj)
   injection hA with hA
   subst hA
   rw [Addr.add_lit]
   exact hcell j u hj
  obtain ⟨v', w', hrun, hown', hgr, _⟩ := run_append_own (P := P) w base t o.type e i z 1 bytes ht hi hz hsize hby hzs (by omega) v n xs hown ad news.length cap news (by omega) hnews h1 (by unfold maxLen; omega) (by omega) hb
  have hwh := append_where (P := P) (w := w) base t o.type e i z 1 bytes ht hi hz hsize hby (by omega) v n xs hown ad news.length cap news (by omega) hnews h1 (by unfold maxLen; omega) (by omega) hrun
  unfold Oper.wp execOp
  simp only [ho, resolve, invoke, builtin, Sem.run_bind, Sem.run_pure, Result.andThen_ok, List.map_toArray, List.map_cons, List.map_nil, hs, hx, hrun]
  exact h v' w' hown' hgr hwh
theorem wpList_appW {base : Nat} (hgd : o.guard = none) (s x : Operand) (t : TypeId)
  (ho : o.op = .call { callee := .builtin .append, args := #[s, x], argTypes := #[t, t] })
  (e : TypeId) (i : TypeInfo) (z : Value) (bytes : Nat) (ht : P.underlying t = some (.slice e)) (hi : P.info? e = some i) (hz : i.zero = some z)
  (hsize : i.size = 1) (hby : i.bytes = bytes) (hzs : z.cells.size = 1)
  (v : Value) (n : Nat) (xs : List Value) (hs : a.eval s = v) (hown : w.ownsRow base e 1 v n xs)
  (u : Value) (news : List Value) (hx : a.eval x = u) (hr : Row w u news) (h1 : ∀ u ∈ news, u.oneCell' = true)
  (hlen : n + news.length ≤ 2097152) (hby2 : bytes ≤ 1000) (hb : base ≤ w.heap.size)
  (h : ∀ v' w', w'.ownsRow base e 1 v' (n + news.length) (xs ++ news) → w.grownBy w' v.ownBlock → (∀ k, v'.ownBlock = some k → v.ownBlock = some k ∨ w.heap.size ≤ k) → wpList P ops Q rest (a.put o.dst v') w') : wpList P ops Q (o :: rest) a w :=
 wpList_plain hgd fun _ hK => wp_appW s x t ho e i z bytes ht hi hz hsize hby hzs v n xs hs hown u news hx hr h1 hlen hby2 hb fun v' w' h2 h3 h4 => hK _ _ (h v' w' h2 h3 h4)
end
/-! ### plain facts -/
structure GL (n : Nat) (t : Nat → Bool) (L : List Int) : Prop where
 rng : ∀ x ∈ L, 0 ≤ x ∧ x < (n : Int)
 nd : L.Nodup
 is : ∀ i : Nat, i < n → (t i = true ↔ (i : Int) ∈ L)
theorem risJ_nd (t : Nat → Bool) (n : Nat) : (risJ t n).Nodup := List.nodup_iff_pairwise_ne.2 ((risJ_rise t n).imp fun h => Int.ne_of_lt h)
theorem GL.perm {n : Nat} {t : Nat → Bool} {L : List Int} (h : GL n t L) : L.Perm (risJ t n) :=
 (List.perm_ext_iff_of_nodup h.nd (risJ_nd t n)).2 fun x => by
  rw [risJ_mem]
  constructor
  ·intro hx
   obtain ⟨h0, h1⟩ := h.rng x hx
   refine ⟨x.toNat, by omega, by omega, (h.is _ (by omega)).2 ?_⟩
   rwa [Int.toNat_of_nonneg h0]
  ·rintro ⟨i, rfl, hi, ht⟩
   exact (h.is i hi).1 ht
theorem GL.len {n : Nat} {t : Nat → Bool} {L : List Int} (h : GL n t L) : L.length ≤ n := by
 rw [h.perm.length_eq]
 exact risJ_len t n
theorem GL.nil (n : Nat) : GL n (fun _ => false) [] := ⟨fun x h => by simp at h, .nil, fun i _ => by simp⟩
theorem GL.add {n : Nat} {t : Nat → Bool} {L : List Int} (h : GL n t L) {i : Nat} (hi : i < n) (ht : t i = false) : GL n (updB t i true) (L ++ [(i : Int)]) := by
 have hn : (i : Int) ∉ L := fun hm => by have := (h.is i hi).2 hm; rw [ht] at this; cases this
 refine ⟨fun x hx => ?_, ?_, fun j hj => ?_⟩
 ·rcases List.mem_append.1 hx with hx | hx
  ·exact h.rng x hx
  ·obtain rfl := List.mem_singleton.1 hx
   exact ⟨by omega, by omega⟩
 ·refine List.nodup_append.2 ⟨h.nd, by simp, fun a ha b hb hab => ?_⟩
  obtain rfl := List.mem_singleton.1 hb
  exact hn (hab ▸ ha)
 ·unfold updB
  by_cases hji : j = i
  ·subst hji; simp
  ·rw [if_neg hji, h.is j hj, List.mem_append, List.mem_singleton]
   constructor
   ·exact .inl
   ·rintro (h1 | h1)
    ·exact h1
    ·omega
def addT (n : Nat) (t : Nat → Bool) (x : Int) : Nat → Bool := if 0 ≤ x ∧ x < (n : Int) ∧ t x.toNat = false then updB t x.toNat true else t
def addL (n : Nat) (t : Nat → Bool) (L : List Int) (x : Int) : List Int := if 0 ≤ x ∧ x < (n : Int) ∧ t x.toNat = false then L ++ [x] else L
theorem add_yes {n : Nat} {t : Nat → Bool} {i : Nat} (L : List Int) (hi : i < n) (ht : t i = false) : addT n t (i : Int) = updB t i true ∧ addL n t L (i : Int) = L ++ [(i : Int)] := by
 unfold addT addL
 rw [if_pos ⟨by omega, by omega, by simpa using ht⟩, if_pos ⟨by omega, by omega, by simpa using ht⟩, Int.toNat_natCast]
 exact ⟨rfl, rfl⟩
theorem add_no {n : Nat} {t : Nat → Bool} {x : Int} (L : List Int) (h : ¬ (0 ≤ x ∧ x < (n : Int) ∧ t x.toNat = false)) : addT n t x = t ∧ addL n t L x = L := by
 unfold addT addL
 rw [if_neg h, if_neg h]
 exact ⟨rfl, rfl⟩
theorem addT_iff {n : Nat} {t : Nat → Bool} {x : Int} {j : Nat} (hj : j < n) : addT n t x j = true ↔ t j = true ∨ x = (j : Int) := by
 unfold addT
 by_cases h : 0 ≤ x ∧ x < (n : Int) ∧ t x.toNat = false
 ·rw [if_pos h]
  unfold updB
  by_cases hji : j = x.toNat
  ·rw [if_pos hji]
   simp only [true_iff]
   right; omega
  ·rw [if_neg hji]
   constructor
   ·exact .inl
   ·rintro (h1 | h1)
    ·exact h1
    ·omega
 ·rw [if_neg h]
  constructor
  ·exact .inl
  ·rintro (h1 | h1)
   ·exact h1
   ·subst h1
    cases ht : t j with
    | true => rfl
    | false => exact absurd ⟨by omega, by omega, by simpa using ht⟩ h
theorem addL_app (n : Nat) (t : Nat → Bool) (L : List Int) (x : Int) : ∃ m, addL n t L x = L ++ m := by
 unfold addL
 split
 ·exact ⟨_, rfl⟩
 ·exact ⟨[], by simp⟩
theorem GL.put {n : Nat} {t : Nat → Bool} {L : List Int} (h : GL n t L) (x : Int) : GL n (addT n t x) (addL n t L x) := by
 by_cases hc : 0 ≤ x ∧ x < (n : Int) ∧ t x.toNat = false
 ·obtain ⟨i, rfl⟩ : ∃ i : Nat, x = (i : Int) := ⟨x.toNat, by omega⟩
  have ht : t i = false := by simpa using hc.2.2
  obtain ⟨e1, e2⟩ := add_yes (n := n) L (by omega) ht
  rw [e1, e2]
  exact h.add (by omega) ht
 ·obtain ⟨e1, e2⟩ := add_no (n := n) (t := t) L hc
  rw [e1, e2]
  exact h
/-! ### how it lies -/
def Gd (g h : Nat) (lv : Value) (k : Nat) : Prop := k = g ∨ k = h ∨ lv.ownBlock = some k
structure GStep (w w' : World) (g h : Nat) (lv lv' : Value) : Prop where
 off : Off (Gd g h lv) w w'
 new : ∀ k, lv'.ownBlock = some k → lv.ownBlock = some k ∨ w.heap.size ≤ k
section
variable {w w' w'' : World} {B g h n cap : Nat} {A : Option Addr} {a z : Int} {t : Nat → Bool} {lv lv' lv'' : Value} {L : List Int}
theorem GStep.refl (w : World) (g h : Nat) (lv : Value) : GStep w w g h lv lv := ⟨Off.refl _ _, fun k hk => .inl hk⟩
theorem GStep.trans (x : GStep w w' g h lv lv') (y : GStep w' w'' g h lv' lv'') : GStep w w'' g h lv lv'' := by
 refine ⟨⟨y.off.os.trans x.off.os, y.off.tape.trans x.off.tape, y.off.output.trans x.off.output, Nat.le_trans x.off.size y.off.size, fun k hk hn => ?_⟩, fun k hk => ?_⟩
 ·refine (y.off.block k (Nat.lt_of_lt_of_le hk x.off.size) fun hd => ?_).trans (x.off.block k hk hn)
  rcases hd with e | e | e
  ·exact hn (.inl e)
  ·exact hn (.inr (.inl e))
  ·rcases x.new k e with e | e
   ·exact hn (.inr (.inr e))
   ·omega
 ·rcases y.new k hk with e | e
  ·exact x.new k e
  ·exact .inr (Nat.le_trans x.off.size e)
theorem GStep.of (hb : Below w.heap.size w w') (g h : Nat) (lv : Value) : GStep w w' g h lv lv := ⟨Off.new _ hb, fun k hk => .inl hk⟩
end
structure Cl (S : List St) (P : Nat → Prop) (t : Nat → Bool) (L : List Int) (i kk : Nat) : Prop where
 seeds : ∀ q, q < S.length → P q → t q = true
 sound : ∀ q, q < S.length → t q = true → Rc S P q
 done : ∀ (j : Nat) (x : Int) (s : St), j < i → L[j]? = some x → S[x.toNat]? = some s → ∀ f ∈ s.free, t f.toNat = true
 part : ∀ (x : Int) (s : St), L[i]? = some x → S[x.toNat]? = some s → ∀ (m : Nat) (f : Int), m < kk → s.free[m]? = some f → t f.toNat = true
section
variable {S : List St} {P : Nat → Prop} {t : Nat → Bool} {L : List Int} {i kk : Nat}
theorem Cl.start (h1 : ∀ q, q < S.length → P q → t q = true) (h2 : ∀ q, q < S.length → t q = true → P q) : Cl S P t L 0 0 :=
 ⟨h1, fun q hq ht => .base (h2 q hq ht) hq, fun j x s h => absurd h (Nat.not_lt_zero j), fun x s _ _ m f h => absurd h (Nat.not_lt_zero m)⟩
theorem addT_up {n : Nat} {x : Int} {q : Nat} (h : t q = true) : addT n t x q = true := by
 unfold addT
 split
 ·unfold updB; split; rfl; exact h
 ·exact h
theorem Cl.mark (h : Cl S P t L i kk) {x f : Int} {s : St} (hx : L[i]? = some x) (h0 : 0 ≤ x) (hs : S[x.toNat]? = some s) (ht : t x.toNat = true) (hf : s.free[kk]? = some f) (hf0 : 0 ≤ f) (hf1 : f < (S.length : Int)) :
  Cl S P (addT S.length t f) (addL S.length t L f) i (kk + 1) := by
 obtain ⟨m, hm⟩ := addL_app S.length t L f
 have hfn : f.toNat < S.length := by omega
 have key : ∀ q, q < S.length → (addT S.length t f q = true ↔ t q = true ∨ f = (q : Int)) := fun q hq => addT_iff hq
 have hi : i < L.length := (List.getElem?_eq_some_iff.1 hx).1
 refine ⟨fun q hq hp => addT_up (h.seeds q hq hp), fun q hq hu => ?_, fun j y u hj hy hu f' hf' => ?_, fun y u hy hu k f' hk hf' => ?_⟩
 ·rcases (key q hq).1 hu with hu | hu
  ·exact h.sound q hq hu
  ·exact .go (h.sound _ (by have := (List.getElem?_eq_some_iff.1 hs).1; exact this) ht) hs (by rw [← hu]; exact List.mem_of_getElem? hf) hq
 ·rw [hm, List.getElem?_append_left (by omega)] at hy
  exact addT_up (h.done j y u hj hy hu f' hf')
 ·rw [hm, List.getElem?_append_left hi, hx] at hy
  injection hy with hy
  subst hy
  rw [hs] at hu
  injection hu with hu
  subst hu
  rcases Nat.lt_or_ge k kk with hlt | hge
  ·exact addT_up (h.part x s hx hs k f' hlt hf')
  ·obtain rfl : k = kk := by omega
   rw [hf] at hf'
   injection hf' with hf'
   subst hf'
   exact (key _ hfn).2 (.inr (by omega))
theorem Cl.next (h : Cl S P t L i kk) {x : Int} {s : St} (hx : L[i]? = some x) (hs : S[x.toNat]? = some s) (hk : kk = s.free.length) : Cl S P t L (i + 1) 0 := by
 refine ⟨h.seeds, h.sound, fun j y u hj hy hu f hf => ?_, fun y u _ _ m f h => absurd h (Nat.not_lt_zero m)⟩
 rcases Nat.lt_or_ge j i with hlt | hge
 ·exact h.done j y u hlt hy hu f hf
 ·obtain rfl : j = i := by omega
  rw [hx] at hy
  injection hy with hy
  subst hy
  rw [hs] at hu
  injection hu with hu
  subst hu
  obtain ⟨m, hm, hmf⟩ := List.getElem_of_mem hf
  exact h.part x s hx hs m f (by omega) (by rw [List.getElem?_eq_getElem hm, hmf])
theorem Cl.end_ (h : Cl S P t L L.length kk) (g : GL S.length t L) {q : Nat} (hq : q < S.length) : t q = true ↔ Rc S P q :=
 rc_is h.seeds (fun i s hs ht j hj => by
  have hi : i < S.length := (List.getElem?_eq_some_iff.1 hs).1
  obtain ⟨k, hk, hkx⟩ := List.getElem_of_mem ((g.is i hi).1 ht)
  have := h.done k (i : Int) s hk (by rw [List.getElem?_eq_getElem hk, hkx]) (by simpa using hs) _ hj
  simpa using this) h.sound q hq
end
theorem ld_ints {ev : Operand → Value} {o : Oper} (x : Operand) (ho : o.op = .load 41 x) {p : Addr} (hx : ev x = .pointer (some p)) {A : Option Addr} {n c : Nat} {W : World} (hc : W.cell? p = some (.slice A n c)) : (execOp ev o).run Try.prog W = .ok (.value (.slice A n c)) W := by
 simp only [execOp, ho, hx]
 go_simp
def Sp (S : List St) (t0 : Nat → Bool) (l : List Int) (b j : Nat) (t : Nat → Bool) : Prop := ∀ q, q < S.length → (t q = true ↔ t0 q = true ∨ (q : Int) ∈ goN S (l.take j) b)
theorem Sp.start (S : List St) (t0 : Nat → Bool) (l : List Int) (b : Nat) : Sp S t0 l b 0 t0 := fun q _ => by rw [goN_nil]; simp
theorem Sp.out {S : List St} {t0 t : Nat → Bool} {l : List Int} {b j : Nat} (h : Sp S t0 l b j t) (e : goN S (l.take (j + 1)) b = goN S (l.take j) b) : Sp S t0 l b (j + 1) t := fun q hq => by rw [e]; exact h q hq
section
variable {w w' w2 : World} {B H g mr mn cap k : Nat} {A : Option Addr} {a z : Int} {cl : List UInt8} {sg : Value} {S : List St} {qv : Value} {Qs : List (List Int)} {Es : List Int}
end
theorem MStep.behind {w w' w'' : World} {g mr mn : Nat} {qv qv' : Value} (x : MStep w w' g mr mn qv qv') (hb : Below w.heap.size w' w'') : MStep w w'' g mr mn qv qv' :=
 ⟨⟨hb.os.trans x.off.os, hb.tape.trans x.off.tape, hb.output.trans x.off.output, Nat.le_trans x.off.size hb.size, fun k hk hn => (hb.block k hk).trans (x.off.block k hk hn)⟩, x.new⟩
/-! ### plain facts -/
/-! ### the signs in memory -/
def SgV (w : World) (H g mr mn : Nat) (sg : Value) (LL : List (List UInt8)) : Prop :=
 ∃ (A : Option Addr) (cap : Nat) (vf : Nat → Value), sg = .slice A LL.length cap ∧ (LL ≠ [] → ∃ b off, A = some ⟨b, off, none⟩ ∧ (b < H ∧ b ≠ g ∧ b ≠ mr ∧ b ≠ mn) ∧ b < w.heap.size ∧ ∀ i, i < LL.length → w.cell? ⟨b, off + i, none⟩ = some (vf i)) ∧
  ∀ i l, LL[i]? = some l → ∃ Ai ci, vf i = .slice Ai l.length ci ∧ (l ≠ [] → ∃ b off, Ai = some ⟨b, off, none⟩ ∧ (b < H ∧ b ≠ g ∧ b ≠ mr ∧ b ≠ mn) ∧ b < w.heap.size ∧ ∀ j c, l[j]? = some c → w.cell? ⟨b, off + j, none⟩ = some (bv c))
theorem SgV.stay {w w' : World} {H g mr mn : Nat} {sg : Value} {LL : List (List UInt8)} (h : SgV w H g mr mn sg LL) (hs : w.heap.size ≤ w'.heap.size) (hk : ∀ k, k < H → k ≠ g → k ≠ mr → k ≠ mn → w'.heap[k]? = w.heap[k]?) : SgV w' H g mr mn sg LL := by
 obtain ⟨A, cap, vf, h1, h2, h3⟩ := h
 have key : ∀ b o v, (b < H ∧ b ≠ g ∧ b ≠ mr ∧ b ≠ mn) → w.cell? ⟨b, o, none⟩ = some v → w'.cell? ⟨b, o, none⟩ = some v := fun b o v hb hc => by
  have := hk b hb.1 hb.2.1 hb.2.2.1 hb.2.2.2
  unfold World.cell? at hc ⊢
  simp only [this]
  exact hc
 refine ⟨A, cap, vf, h1, fun hne => ?_, fun i l hl => ?_⟩
 ·obtain ⟨b, off, e, hb, hlt, hc⟩ := h2 hne
  exact ⟨b, off, e, hb, Nat.lt_of_lt_of_le hlt hs, fun i hi => key _ _ _ hb (hc i hi)⟩
 ·obtain ⟨Ai, ci, e, h4⟩ := h3 i l hl
  refine ⟨Ai, ci, e, fun hne => ?_⟩
  obtain ⟨b, off, e, hb, hlt, hc⟩ := h4 hne
  exact ⟨b, off, e, hb, Nat.lt_of_lt_of_le hlt hs, fun j c hj => key _ _ _ hb (hc j c hj)⟩
/-! ### a run of steps -/
structure MO (D : Nat → Prop) (w w' : World) (g mr mn : Nat) (qv qv' : Value) : Prop where
 off : Off (fun k => Md g mr mn qv k ∨ D k) w w'
 new : ∀ k, qv'.ownBlock = some k → qv.ownBlock = some k ∨ w.heap.size ≤ k
section
variable {D : Nat → Prop} {w w' w'' : World} {g mr mn : Nat} {qv qv' qv'' : Value}
theorem MO.refl (D : Nat → Prop) (w : World) (g mr mn : Nat) (qv : Value) : MO D w w g mr mn qv qv := ⟨Off.refl _ _, fun k hk => .inl hk⟩
theorem MO.step (x : MO D w w' g mr mn qv qv') (y : MStep w' w'' g mr mn qv' qv'') : MO D w w'' g mr mn qv qv'' := by
 refine ⟨⟨y.off.os.trans x.off.os, y.off.tape.trans x.off.tape, y.off.output.trans x.off.output, Nat.le_trans x.off.size y.off.size, fun k hk hn => ?_⟩, fun k hk => ?_⟩
 ·refine (y.off.block k (Nat.lt_of_lt_of_le hk x.off.size) fun hd => ?_).trans (x.off.block k hk hn)
  rcases hd with e | e | e | e
  ·exact hn (.inl (.inl e))
  ·exact hn (.inl (.inr (.inl e)))
  ·exact hn (.inl (.inr (.inr (.inl e))))
  ·rcases x.new k e with e | e
   ·exact hn (.inl (.inr (.inr (.inr e))))
   ·omega
 ·rcases y.new k hk with e | e
  ·exact x.new k e
  ·exact .inr (Nat.le_trans x.off.size e)
theorem MO.put (x : MO D w w' g mr mn qv qv') {D' : Nat → Prop} (y : Off D' w' w'') (hD : ∀ k, D' k → D k ∨ w.heap.size ≤ k) : MO D w w'' g mr mn qv qv' := by
 refine ⟨⟨y.os.trans x.off.os, y.tape.trans x.off.tape, y.output.trans x.off.output, Nat.le_trans x.off.size y.size, fun k hk hn => ?_⟩, x.new⟩
 refine (y.block k (Nat.lt_of_lt_of_le hk x.off.size) fun hd => ?_).trans (x.off.block k hk hn)
 rcases hD k hd with e | e
 ·exact hn (.inr e)
 ·omega
theorem MO.then (x : MO D w w' g mr mn qv qv') (hb : Below w'.heap.size w' w'') : MO D w w'' g mr mn qv qv' := x.put (Off.new (fun _ => False) hb) fun k h => h.elim
theorem MO.trans (x : MO D w w' g mr mn qv qv') {D' : Nat → Prop} (y : MO D' w' w'' g mr mn qv' qv'') (hD : ∀ k, D' k → D k ∨ w.heap.size ≤ k) : MO D w w'' g mr mn qv qv'' := by
 refine ⟨⟨y.off.os.trans x.off.os, y.off.tape.trans x.off.tape, y.off.output.trans x.off.output, Nat.le_trans x.off.size y.off.size, fun k hk hn => ?_⟩, fun k hk => ?_⟩
 ·refine (y.off.block k (Nat.lt_of_lt_of_le hk x.off.size) fun hd => ?_).trans (x.off.block k hk hn)
  rcases hd with (e | e | e | e) | e
  ·exact hn (.inl (.inl e))
  ·exact hn (.inl (.inr (.inl e)))
  ·exact hn (.inl (.inr (.inr (.inl e))))
  ·rcases x.new k e with e | e
   ·exact hn (.inl (.inr (.inr (.inr e))))
   ·omega
  ·rcases hD k e with e | e
   ·exact hn (.inr e)
   ·omega
 ·rcases y.new k hk with e | e
  ·exact x.new k e
  ·exact .inr (Nat.le_trans x.off.size e)
theorem MO.blk (x : MO D w w' g mr mn qv qv') {b : Nat} {t : TypeId} {cs : List Value} (hb : Blk w b t cs) (h1 : ¬ Md g mr mn qv b) (h2 : ¬ D b) : Blk w' b t cs := Off.blk x.off (fun h => h.elim h1 h2) hb
theorem MO.cell (x : MO D w w' g mr mn qv qv') {b o : Nat} {v : Value} (hb : b < w.heap.size) (h1 : ¬ Md g mr mn qv b) (h2 : ¬ D b) (hc : w.cell? ⟨b, o, none⟩ = some v) : w'.cell? ⟨b, o, none⟩ = some v := Off.cell x.off hb (fun h => h.elim h1 h2) hc
end
section
variable {P : Program} {ops : Array Oper} {Q : Exit → Act → World → Prop} {md : Region.Mode} {S : World → Prop} {n : Nat}
def waitsFor (md : Region.Mode) (ops : Array Oper) (n i : Nat) : Bool := match ops[n]? with
 | some o => o.after.any fun e => Region.binds md e && e.on == i
 | none => true
theorem waits_not {i : Nat} (h : waitsFor md ops n i = true) {listed : Array Bool} (hi : i ∈ Region.ready md ops listed) : n ∉ Region.ready md ops listed := by
 intro hn
 obtain ⟨_, o, ho, hall⟩ := mem_ready.1 hn
 unfold waitsFor at h
 rw [ho] at h
 obtain ⟨e, he, hb⟩ := Array.any_eq_true'.1 h
 rw [Bool.and_eq_true, beq_iff_eq] at hb
 have h1 := hall e he hb.1
 have h0 := (mem_ready.1 hi).1
 rw [hb.2] at h1
 rcases Nat.lt_or_ge i listed.size with h' | h'
 ·simp [h'] at h0 h1; rw [h0] at h1; cases h1
 ·simp [Array.getElem?_eq_none h'] at h1
end
section
variable {P : Program} {w : World} {ops : Array Oper} {rest : List Oper} {o : Oper} {a : Act} {Q : Exit → Act → World → Prop} {K : Act → World → Prop}
theorem wp_bldV (t e : TypeId) (x : Operand) (ho : o.op = .buildSlice t 1 #[(0, x)]) (i : TypeInfo) (z : Value) (ht : P.underlying t = some (.slice e)) (hi : P.info? e = some i) (hz : i.zero = some z) (hs : i.size = 1) (hzc : z.cells = #[z]) (v : Value) (hx : a.eval x = v) (hv : v.cells = #[v])
  (h : ∀ w', Row w' (.slice (some ⟨w.heap.size, 0, none⟩) 1 1) [v] → Below w.heap.size w w' → K (a.put o.dst (.slice (some ⟨w.heap.size, 0, none⟩) 1 1)) w') : o.wp P a w K Q := by
 have hzv : (zeroValue e).run P w = .ok z w := by simp [zeroValue, typeInfo, hi, hz]
 have hrun : (Instr.buildSlice t 1 #[(0, v)]).run P w = .ok (.slice (some ⟨w.heap.size, 0, none⟩) 1 1) (w.alloc (.cells [v].toArray e)) := by
  simp [Instr.buildSlice, run_underlying ht, sizeOf, typeInfo, hi, hs, hzv, hzc, hv, Instr.fill, Array.range_succ, Array.range_zero', newRow]
 unfold Oper.wp
 simp only [execOp, ho, List.map_toArray, List.map_cons, List.map_nil, hx, hrun, Sem.run_bind, Result.andThen_ok, Sem.run_pure]
 exact h _ (rowB (Blk.new w e _) rfl (by omega)) ((Below.refl _ _).alloc (Nat.le_refl _) _)
end
def SgR (w : World) (base : Nat) (sgv v : Value) (l : List UInt8) : Prop :=
 ∃ A c, v = .slice A l.length c ∧ (l ≠ [] → ∃ b off, A = some ⟨b, off, none⟩ ∧ base ≤ b ∧ b < w.heap.size ∧ sgv.ownBlock ≠ some b ∧ ∀ m x, l[m]? = some x → w.cell? ⟨b, off + m, none⟩ = some (bv x))
theorem SgR.step {w w' : World} {base g : Nat} {sgv sgv' v : Value} {l : List UInt8} (h : SgR w base sgv v l) (ho : Off (fun k => k = g ∨ sgv.ownBlock = some k) w w') (hg : g < base) (hn : ∀ k, sgv'.ownBlock = some k → sgv.ownBlock = some k ∨ w.heap.size ≤ k) : SgR w' base sgv' v l := by
 obtain ⟨A, c, e, h2⟩ := h
 refine ⟨A, c, e, fun hne => ?_⟩
 obtain ⟨b, off, hA, h3, h4, h5, h6⟩ := h2 hne
 refine ⟨b, off, hA, h3, Nat.lt_of_lt_of_le h4 ho.size, fun e => ?_, fun m x hx => ho.cell h4 (fun e => ?_) (h6 m x hx)⟩
 ·rcases hn b e with e | e
  ·exact h5 e
  ·omega
 ·rcases e with e | e
  ·omega
  ·exact h5 e
theorem range_snoc (j : Nat) (vf : Nat → Value) (v : Value) : (List.range (j + 1)).map (fun i => if i = j then v else vf i) = (List.range j).map vf ++ [v] := by
 rw [List.range_succ, List.map_append, List.map_singleton, if_pos rfl]
 congr 1
 refine List.map_congr_left fun i hi => ?_
 have := List.mem_range.1 hi
 rw [if_neg (by omega)]
end Go.Proofs.Ytbbodfpnneifgaa
