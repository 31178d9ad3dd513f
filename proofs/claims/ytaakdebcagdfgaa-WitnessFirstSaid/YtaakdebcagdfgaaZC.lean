/-
  Texts of this proof, put together: ThC, ThD, ThF, ThG, ThH, SetCA, SetD, SetE, BsC, GrA, BsE, SetK, BsM, SbB, SbC, SbD, SbEo, Off, SbI, BsF, SbK, AppW, TgA. No statement is proved here.
-/
import Derived.Test.YtaakdebcagdfgaaZB
import Derived.Test.YtaakdebcagdfgaaZA
import Derived.Sort.Grow
import Derived.Laws.Bits128
import Derived.Shelf.Spec.TrailingZeros
import Derived.Maps.Keyed
import Derived.WideKeyArr
import Derived.Carry
import Derived.Test.YtaakdebcagdfgaaProg
import Derived.Shelf.SlSortCmp.WholeK
import Derived.Lib.OwnBridge
import Derived.Great.FillDense
namespace Go.Proofs.Ytaakdebcagdfgaa
open Go.RowKit
set_option linter.unusedSimpArgs false
set_option linter.unusedVariables false
def sdJ (l : List Int) (j i : Nat) : Bool := (l.take j).any fun x => decide (x = (i : Int))
theorem sdJ_all {l : List Int} {i : Nat} : sdJ l l.length i = true ↔ ofL l i := by
 unfold sdJ ofL
 rw [List.take_length, List.any_eq_true]
 constructor
 ·rintro ⟨x, hx, h⟩
  have : x = (i : Int) := by simpa using h
  rwa [← this]
 ·intro h; exact ⟨_, h, by simp⟩
structure Ps (S : List St) (P : Nat → Prop) (t0 : Nat → Bool) (ag : Bool) (i kk : Nat) (t : Nat → Bool) : Prop where
 seeds : ∀ q, q < S.length → P q → t q = true
 sound : ∀ q, q < S.length → t q = true → Rc S P q
 more : ∀ q, t0 q = true → t q = true
 still : ag = false → ∀ q, q < S.length → t q = t0 q
 new : ag = true → ∃ q, q < S.length ∧ t0 q = false ∧ t q = true
 done : ag = false → ∀ i' s, i' < i → S[i']? = some s → t i' = true → ∀ f ∈ s.free, t f.toNat = true
 part : ag = false → ∀ s, S[i]? = some s → t i = true → ∀ m f, m < kk → s.free[m]? = some f → t f.toNat = true
section
variable {S : List St} {P : Nat → Prop} {t0 t : Nat → Bool} {ag : Bool} {i kk : Nat}
theorem Ps.start (h1 : ∀ q, q < S.length → P q → t q = true) (h2 : ∀ q, q < S.length → t q = true → Rc S P q) : Ps S P t false 0 0 t :=
 ⟨h1, h2, fun _ h => h, fun _ _ _ => rfl, fun h => (by cases h), fun _ i' s h => absurd h (Nat.not_lt_zero i'), fun _ s _ _ m f h => absurd h (Nat.not_lt_zero m)⟩
theorem Ps.mark (h : Ps S P t0 ag i kk t) {s : St} (hs : S[i]? = some s) (ht : t i = true) {f : Int} (hf : s.free[kk]? = some f) (h0 : 0 ≤ f) (h1 : f < (S.length : Int)) : Ps S P t0 (ag || !t f.toNat) i (kk + 1) (updB t f.toNat true) := by
 have hi : i < S.length := (List.getElem?_eq_some_iff.1 hs).1
 have hfm : f ∈ s.free := List.mem_of_getElem? hf
 have hfn : f.toNat < S.length := by omega
 have hup : ∀ q, t q = true → updB t f.toNat true q = true := fun q hq => by unfold updB; split; rfl; exact hq
 by_cases hft : t f.toNat = true
 ·have e : updB t f.toNat true = t := by
   funext q
   unfold updB
   split
   ·next h => rw [h, hft]
   ·rfl
  rw [e, hft]
  simp only [Bool.not_true, Bool.or_false]
  refine ⟨h.seeds, h.sound, h.more, h.still, h.new, h.done, fun ha s' hs' ht' m f' hm hf' => ?_⟩
  rw [hs] at hs'
  injection hs' with hs'
  subst hs'
  rcases Nat.lt_or_ge m kk with hlt | hge
  ·exact h.part ha s hs ht' m f' hlt hf'
  ·obtain rfl : m = kk := by omega
   rw [hf] at hf'
   injection hf' with hf'
   rw [← hf']
   exact hft
 ·have hft' : t f.toNat = false := by simpa using hft
  rw [hft']
  simp only [Bool.not_false, Bool.or_true]
  refine ⟨fun q hq hp => hup q (h.seeds q hq hp), fun q hq hu => ?_, fun q hq => hup q (h.more q hq), fun h => (by cases h), fun _ => ⟨f.toNat, hfn, ?_, (by unfold updB; rw [if_pos rfl])⟩, fun h => (by cases h), fun h => (by cases h)⟩
  ·unfold updB at hu
   by_cases hqf : q = f.toNat
   ·rw [hqf]
    exact .go (h.sound i hi ht) hs (by rwa [Int.toNat_of_nonneg h0]) hfn
   ·rw [if_neg hqf] at hu
    exact h.sound q hq hu
  ·cases h0 : t0 f.toNat with
   | false => rfl
   | true => exact absurd (h.more _ h0) hft
theorem Ps.next (h : Ps S P t0 ag i kk t) {s : St} (hs : S[i]? = some s) (hk : kk = s.free.length ∨ t i = false) : Ps S P t0 ag (i + 1) 0 t := by
 refine ⟨h.seeds, h.sound, h.more, h.still, h.new, fun ha i' s' hi hs' ht' f hf => ?_, fun _ s _ _ m f h => absurd h (Nat.not_lt_zero m)⟩
 rcases Nat.lt_or_ge i' i with hlt | hge
 ·exact h.done ha i' s' hlt hs' ht' f hf
 ·obtain rfl : i' = i := by omega
  rw [hs] at hs'
  injection hs' with hs'
  subst hs'
  rcases hk with hk | hk
  ·obtain ⟨m, hm, hmf⟩ := List.getElem_of_mem hf
   exact h.part ha s hs ht' m f (by omega) (by rw [List.getElem?_eq_getElem hm, hmf])
  ·rw [ht'] at hk; cases hk
theorem Ps.end_ (h : Ps S P t0 false S.length kk t) {q : Nat} (hq : q < S.length) : t q = true ↔ Rc S P q :=
 rc_is h.seeds (fun i s hs ht j hj => by
  have := h.done rfl i s (List.getElem?_eq_some_iff.1 hs).1 hs ht _ hj
  simpa using this) h.sound q hq
def unm (n : Nat) (t : Nat → Bool) : Nat := ((List.range n).filter fun q => !t q).length
theorem unm_le (n : Nat) (t : Nat → Bool) : unm n t ≤ n := by
 have := List.length_filter_le (fun q => !t q) (List.range n)
 rwa [List.length_range] at this
theorem unm_succ (n : Nat) (t : Nat → Bool) : unm (n + 1) t = unm n t + (if t n = true then 0 else 1) := by
 unfold unm
 rw [List.range_succ, List.filter_append, List.length_append]
 cases h : t n <;> simp [h]
theorem unm_more {u v : Nat → Bool} : ∀ {n : Nat}, (∀ q, u q = true → v q = true) → unm n v ≤ unm n u
 | 0, _ => Nat.le_refl _
 | n + 1, h => by
  have ih := unm_more (n := n) h
  rw [unm_succ, unm_succ]
  by_cases hu : u n = true
  ·rw [if_pos hu, if_pos (h n hu)]; omega
  ·rw [if_neg hu]; split <;> omega
theorem unm_less {u v : Nat → Bool} : ∀ {n : Nat}, (∀ q, u q = true → v q = true) → (∃ q, q < n ∧ u q = false ∧ v q = true) → unm n v < unm n u
 | 0, _, ⟨q, hq, _⟩ => absurd hq (Nat.not_lt_zero q)
 | n + 1, h, ⟨q, hq, h1, h2⟩ => by
  rw [unm_succ, unm_succ]
  rcases Nat.lt_or_ge q n with hlt | hge
  ·have ih := unm_less (n := n) h ⟨q, hlt, h1, h2⟩
   by_cases hu : u n = true
   ·rw [if_pos hu, if_pos (h n hu)]; omega
   ·rw [if_neg hu]; split <;> omega
  ·obtain rfl : q = n := by omega
   have ih := unm_more (n := q) h
   rw [if_pos h2, if_neg (by rw [h1]; simp)]
   omega
theorem Ps.less (h : Ps S P t0 true i kk t) : unm S.length t < unm S.length t0 := unm_less h.more (h.new rfl)
end
theorem lt_bigN {i n : Nat} (h : i < n) (hn : n ≤ 2000) : i ≤ 4611686018427387904 := by omega
def okS (n : Nat) (s : St) : Prop := s.to < (n : Int) ∧ s.free.length ≤ 8 ∧ ∀ f ∈ s.free, 0 ≤ f ∧ f < (n : Int)
theorem MayN.ok {S : List St} {a z : Int} (h : MayN S a z) {i : Nat} {s : St} (hs : S[i]? = some s) : okS S.length s :=
 have hm := List.mem_of_getElem? hs
 ⟨h.to s hm, h.free8 s hm, h.free s hm⟩
def cellB (w : World) (g q : Nat) : Bool := match w.cell? ⟨g, q, none⟩ with | some (.bool b) => b | _ => false
def bOf : Value → Nat | .bool true => 1 | _ => 0
def farW (g n : Nat) (v : Value) (w : World) : Nat := 2 * unm n (cellB w g) + bOf v
theorem unm_congr {n : Nat} {t u : Nat → Bool} (h : ∀ q, q < n → t q = u q) : unm n t = unm n u := by
 unfold unm
 rw [List.filter_congr fun q hq => by rw [h q (List.mem_range.1 hq)]]
theorem unm_blk {w : World} {g n : Nat} {t : Nat → Bool} (h : Blk w g 4 (bcs n t)) : unm n (cellB w g) = unm n t :=
 unm_congr fun q hq => by
  unfold cellB
  rw [h.cell, bcs_get t hq]
theorem farW_yes {w : World} {g n : Nat} {t : Nat → Bool} (h : Blk w g 4 (bcs n t)) : farW g n (.bool true) w = 2 * unm n t + 1 := by
 unfold farW
 rw [unm_blk h]
 rfl
theorem farW_no {w : World} {g n : Nat} {t : Nat → Bool} (h : Blk w g 4 (bcs n t)) : farW g n (.bool false) w = 2 * unm n t := by
 unfold farW
 rw [unm_blk h]
 rfl
theorem Ps.far {S : List St} {P : Nat → Prop} {t0 t : Nat → Bool} {ag : Bool} {kk g : Nat} {w w' : World} (h : Ps S P t0 ag S.length kk t) (h0 : Blk w g 4 (bcs S.length t0)) (h1 : Blk w' g 4 (bcs S.length t)) :
  farW g S.length (.bool ag) w' < farW g S.length (.bool true) w := by
 rw [farW_yes h0]
 cases ag with
 | true =>
  rw [farW_yes h1]
  have := h.less
  omega
 | false =>
  rw [farW_no h1]
  have := unm_congr (h.still rfl)
  omega
structure Pq (S : List St) (P : Nat → Prop) (ag : Bool) (t : Nat → Bool) : Prop where
 seeds : ∀ q, q < S.length → P q → t q = true
 sound : ∀ q, q < S.length → t q = true → Rc S P q
 done : ag = false → ∀ q, q < S.length → (t q = true ↔ Rc S P q)
theorem Ps.all {S : List St} {P : Nat → Prop} {t0 t : Nat → Bool} {ag : Bool} {kk : Nat} (h : Ps S P t0 ag S.length kk t) : Pq S P ag t :=
 ⟨h.seeds, h.sound, fun ha q hq => by subst ha; exact h.end_ hq⟩
theorem Pq.first {S : List St} {l : List Int} : Pq S (ofL l) true (sdJ l l.length) :=
 ⟨fun q _ h => sdJ_all.2 h, fun q hq h => .base (sdJ_all.1 h) hq, fun h => (by cases h)⟩
theorem Pq.cls {S : List St} {l : List Int} {t : Nat → Bool} (h : Pq S (ofL l) false t) : risJ t S.length = clsN S l := by
 unfold clsN
 refine risJ_congr fun q hq => ?_
 rw [Bool.eq_iff_iff, rcB_iff]
 exact h.done rfl q hq
theorem goN_nil (S : List St) (l : List Int) (b : Nat) : goN S (l.take 0) b = [] := rfl
theorem ld_int9 {ev : Operand → Value} {o : Oper} (x : Operand) (ho : o.op = .load 3 x) {p : Addr} (hx : ev x = .pointer (some p)) {k : Int} {W : World} (hc : W.cell? p = some (.int .i64 k)) : (execOp ev o).run Try.prog W = .ok (.value (.int .i64 k)) W := by
 simp only [execOp, ho, hx]
 go_simp
section
variable {P : Program} {o : Oper} {a : Act} {w : World} {K : Act → World → Prop} {Q : Exit → Act → World → Prop}
theorem wp_bldI (t e : TypeId) (x : Operand) (ho : o.op = .buildSlice t 1 #[(0, x)]) (i : TypeInfo) (ht : P.underlying t = some (.slice e)) (hi : P.info? e = some i) (z : Int) (hz : i.zero = some (.int .i64 z)) (hs : i.size = 1) (p : Int) (hx : a.eval x = .int .i64 p)
  (h : ∀ w', Row w' (.slice (some ⟨w.heap.size, 0, none⟩) 1 1) (nums .i64 [p]) → Below w.heap.size w w' → K (a.put o.dst (.slice (some ⟨w.heap.size, 0, none⟩) 1 1)) w') : o.wp P a w K Q := by
 have hzv : (zeroValue e).run P w = .ok (.int .i64 z) w := by simp [zeroValue, typeInfo, hi, hz]
 have hrun : (Instr.buildSlice t 1 #[(0, .int .i64 p)]).run P w = .ok (.slice (some ⟨w.heap.size, 0, none⟩) 1 1) (w.alloc (.cells (nums .i64 [p]).toArray e)) := by
  simp [Instr.buildSlice, run_underlying ht, sizeOf, typeInfo, hi, hs, hzv, Value.cells, Instr.fill, Array.range_succ, Array.range_zero', newRow, nums]
 unfold Oper.wp
 simp only [execOp, ho, List.map_toArray, List.map_cons, List.map_nil, hx, hrun, Sem.run_bind, Result.andThen_ok, Sem.run_pure]
 have hb := Blk.new w e (nums .i64 [p])
 have hr : Row (w.alloc (.cells (nums .i64 [p]).toArray e)) (.slice (some ⟨w.heap.size, 0, none⟩) 1 1) (nums .i64 [p]) :=
  Row.of_own (hb.own (Nat.zero_le _) (by simp [maxLen, nums]))
 exact h _ hr ((Below.refl _ _).alloc (Nat.le_refl _) _)
end
theorem ld_u9 {ev : Operand → Value} {o : Oper} (x : Operand) (ho : o.op = .load 5 x) {p : Addr} (hx : ev x = .pointer (some p)) {k : Int} {W : World} (hc : W.cell? p = some (.int .u8 k)) : (execOp ev o).run Try.prog W = .ok (.value (.int .u8 k)) W := by
 simp only [execOp, ho, hx]
 go_simp
/-! ### alike -/
def alikeS (ps : List (Nat → Bool)) (a b : Nat) : Bool := ps.all fun p => p a == p b
def firstJ (ps : List (Nat → Bool)) : Nat → List Nat
 | 0 => []
 | j + 1 => if (firstJ ps j).any (fun f => alikeS ps j f) then firstJ ps j else firstJ ps j ++ [j]
def clsOf (ps : List (Nat → Bool)) (j : Nat) : Nat := (firstJ ps j).findIdx fun f => alikeS ps j f
theorem firstJ_len (ps : List (Nat → Bool)) : ∀ j, (firstJ ps j).length ≤ j
 | 0 => Nat.le_refl _
 | j + 1 => by
  have := firstJ_len ps j
  simp only [firstJ]
  split
  ·omega
  ·rw [List.length_append]; simp; omega
theorem firstJ_lt (ps : List (Nat → Bool)) : ∀ (j f : Nat), f ∈ firstJ ps j → f < j
 | 0, _, h => by simp [firstJ] at h
 | j + 1, f, h => by
  simp only [firstJ] at h
  split at h
  ·exact Nat.lt_succ_of_lt (firstJ_lt ps j f h)
  ·rcases List.mem_append.1 h with h | h
   ·exact Nat.lt_succ_of_lt (firstJ_lt ps j f h)
   ·have : f = j := by simpa using h
    omega
theorem clsOf_le (ps : List (Nat → Bool)) (j : Nat) : clsOf ps j ≤ (firstJ ps j).length := List.findIdx_le_length
theorem firstJ_hit {ps : List (Nat → Bool)} {j : Nat} (h : clsOf ps j < (firstJ ps j).length) : firstJ ps (j + 1) = firstJ ps j := by
 have : (firstJ ps j).any (fun f => alikeS ps j f) = true := by
  rw [List.any_eq_true]
  exact ⟨(firstJ ps j)[clsOf ps j], List.getElem_mem h, List.findIdx_getElem (w := h)⟩
 simp only [firstJ]
 rw [if_pos this]
theorem firstJ_new {ps : List (Nat → Bool)} {j : Nat} (h : clsOf ps j = (firstJ ps j).length) : firstJ ps (j + 1) = firstJ ps j ++ [j] := by
 have : ¬ (firstJ ps j).any (fun f => alikeS ps j f) = true := by
  rw [List.any_eq_true]
  rintro ⟨f, hf, ha⟩
  have := List.findIdx_lt_length_of_exists (p := fun f => alikeS ps j f) ⟨f, hf, ha⟩
  unfold clsOf at h
  omega
 simp only [firstJ]
 rw [if_neg this]
theorem clsOf_next {ps : List (Nat → Bool)} {j k : Nat} (hk : k ≤ clsOf ps j) (hl : k < (firstJ ps j).length) (h : alikeS ps j (firstJ ps j)[k] = false) : k + 1 ≤ clsOf ps j := by
 rcases Nat.lt_or_ge k (clsOf ps j) with h1 | h1
 ·exact h1
 ·have e : k = clsOf ps j := by omega
  subst e
  have := List.findIdx_getElem (p := fun f => alikeS ps j f) (w := hl)
  exact absurd (this.symm.trans h) (by simp)
theorem clsOf_stop {ps : List (Nat → Bool)} {j k : Nat} (hk : k ≤ clsOf ps j) (hl : k < (firstJ ps j).length) (h : alikeS ps j (firstJ ps j)[k] = true) : clsOf ps j = k := by
 refine Nat.le_antisymm ?_ hk
 exact Nat.le_of_not_lt fun hlt => by
  have := List.not_of_lt_findIdx (p := fun f => alikeS ps j f) (xs := firstJ ps j) hlt
  rw [h] at this
  cases this
def ctab (ps : List (Nat → Bool)) (j : Nat) : List UInt8 := (List.range 256).map fun b => if b < j then UInt8.ofNat (clsOf ps b) else 0
theorem ctab_length (ps : List (Nat → Bool)) (j : Nat) : (ctab ps j).length = 256 := by simp [ctab]
theorem ctab_next (ps : List (Nat → Bool)) (j : Nat) (hj : j < 256) : (ctab ps j).set j (UInt8.ofNat (clsOf ps j)) = ctab ps (j + 1) := by
 apply List.ext_getElem
 ·simp [ctab]
 ·intro i h1 h2
  simp only [ctab, List.getElem_set, List.getElem_map, List.getElem_range]
  by_cases h : j = i
  ·subst h
   simp
  ·rw [if_neg h]
   by_cases hi : i < j
   ·rw [if_pos hi, if_pos (by omega)]
   ·rw [if_neg hi, if_neg (by omega)]
theorem ctab_null (ps qs : List (Nat → Bool)) : ctab ps 0 = ctab qs 0 := by
 unfold ctab
 refine List.map_congr_left fun b _ => ?_
 rw [if_neg (by omega), if_neg (by omega)]
theorem size_ctab {l : List UInt8} (h : l.length = 256) : (Try.prog.info? 24).map (·.size) = some (bvs l).length := by
 rw [bvs_length, h]
 kernel_rfl
abbrev fcs (ps : List (Nat → Bool)) (j : Nat) : List Value := nums .i64 ((firstJ ps j).map fun (n : Nat) => (n : Int))
theorem fcs_length (ps : List (Nat → Bool)) (j : Nat) : (fcs ps j).length = (firstJ ps j).length := by simp [fcs, nums]
theorem bvs_all' (l : List UInt8) : (bvs l).all (·.oneCell') = true := by
 rw [List.all_eq_true]
 exact bvs_one l
theorem own_far {w : World} {base g i : Nat} {e : TypeId} {v : Value} {n : Nat} {xs : List Value} (h : w.ownsRow base e 1 v n xs) (hg : g < base) (u : Value) : (w.setCell ⟨g, i, none⟩ u).ownsRow base e 1 v n xs := by
 refine ⟨h.1, ?_⟩
 rcases h.2 with h0 | ⟨g2, cap, cur, rfl, hb, hg2, h3⟩
 ·exact .inl h0
 ·exact .inr ⟨g2, cap, cur, rfl, hb, (Below.heap_setCell w ⟨g, i, none⟩ u g2 (by simp; omega)).trans hg2, h3⟩
theorem firstJ_mono (ps : List (Nat → Bool)) (j : Nat) : ∀ d, (firstJ ps j).length ≤ (firstJ ps (j + d)).length
 | 0 => Nat.le_refl _
 | d + 1 => by
  refine Nat.le_trans (firstJ_mono ps j d) ?_
  rw [show j + (d + 1) = (j + d) + 1 from rfl]
  simp only [firstJ]
  split
  ·exact Nat.le_refl _
  ·rw [List.length_append]; omega
theorem clsOf_lt (ps : List (Nat → Bool)) {j : Nat} (hj : j < 256) : clsOf ps j < (firstJ ps 256).length := by
 have h1 := firstJ_mono ps (j + 1) (256 - (j + 1))
 rw [show j + 1 + (256 - (j + 1)) = 256 from by omega] at h1
 have h2 := clsOf_le ps j
 rcases Nat.lt_or_ge (clsOf ps j) (firstJ ps j).length with h | h
 ·rw [firstJ_hit h] at h1
  omega
 ·rw [firstJ_new (by omega), List.length_append] at h1
  simp at h1
  omega
def outs (ps : List (Nat → Bool)) (n j : Nat) : List (Nat → Bool) := (List.range n).map fun k b => decide (b < j) && decide (clsOf ps b = k)
/-! ### counting bits, byte by byte -/
def rep (c : Nat) : Nat → Nat
 | 0 => 0
 | n + 1 => 256 * rep c n + c
def s1 (b : Nat) : Nat := ((b / 2) &&& 85) + (b &&& 85)
def s2 (b : Nat) : Nat := ((b / 4) &&& 51) + (b &&& 51)
def s3 (b : Nat) : Nat := (b / 16 + b) &&& 15
def S1 (n x : Nat) : Nat := ((x / 2) &&& rep 85 n) + (x &&& rep 85 n)
def S2 (n x : Nat) : Nat := ((x / 4) &&& rep 51 n) + (x &&& rep 51 n)
def S3 (n x : Nat) : Nat := (x / 16 + x) &&& rep 15 n
theorem f1 : ∀ (b : Fin 256) (r : Fin 2), (((128 * r.val + b.val / 2) % 256) &&& 85) = ((b.val / 2) &&& 85) ∧ s1 b.val < 256 := by decide +kernel
theorem f2 : ∀ (b : Fin 256) (r : Fin 4), (((64 * r.val + b.val / 4) % 256) &&& 51) = ((b.val / 4) &&& 51) ∧ s2 b.val < 256 := by decide +kernel
theorem f3 : ∀ (b : Fin 69) (r : Fin 5), b.val % 16 ≤ 4 → ((16 * r.val + b.val / 16 + b.val) &&& 15) = s3 b.val := by decide +kernel
theorem f4 : ∀ b : Fin 256, s2 (s1 b.val) % 16 ≤ 4 ∧ s2 (s1 b.val) ≤ 68 ∧ s3 (s2 (s1 b.val)) = ((List.range 8).filter b.val.testBit).length ∧ s3 (s2 (s1 b.val)) ≤ 8 := by decide +kernel
def S (n x : Nat) : Nat := S3 n (S2 n (S1 n x))
def Gr (w w' : World) : Prop := ∃ q os, w' = Sort.grow (w.drewN q) os
theorem Gr.refl (w : World) : Gr w w := ⟨0, #[], by rw [Sort.grow_empty]; rfl⟩
theorem Gr.alloc {w w' : World} (h : Gr w w') (o : Obj) : Gr w (w'.alloc o) := by
 obtain ⟨q, os, rfl⟩ := h
 exact ⟨q, os ++ #[o], by rw [Sort.alloc_eq_grow, Sort.grow_grow]⟩
theorem grow_drewN (w : World) (os : Array Obj) (n : Nat) : (Sort.grow w os).drewN n = Sort.grow (w.drewN n) os := rfl
theorem Gr.drewN {w w' : World} (h : Gr w w') (n : Nat) : Gr w (w'.drewN n) := by
 obtain ⟨q, os, rfl⟩ := h
 exact ⟨q + n, os, by rw [grow_drewN, World.drewN_drewN]⟩
theorem Gr.trans {w w' w'' : World} (h : Gr w w') (k : Gr w' w'') : Gr w w'' := by
 obtain ⟨q, os, rfl⟩ := h
 obtain ⟨r, os', rfl⟩ := k
 exact ⟨q + r, os ++ os', by rw [grow_drewN, World.drewN_drewN, Sort.grow_grow]⟩
theorem Gr.below {w w' : World} (h : Gr w w') : Below w.heap.size w w' := by
 obtain ⟨q, os, rfl⟩ := h
 refine ⟨rfl, rfl, rfl, by simp [Sort.grow], fun k hk => ?_⟩
 show (w.heap ++ os)[k]? = _
 rw [Array.getElem?_append_left hk]
theorem Gr.of {w w' : World} (h : Below w.heap.size w w') (hd : w.drawn ≤ w'.drawn) : Gr w w' := by
 refine ⟨w'.drawn - w.drawn, w'.heap.extract w.heap.size w'.heap.size, ?_⟩
 have hh : w'.heap = w.heap ++ w'.heap.extract w.heap.size w'.heap.size := by
  apply Array.ext_getElem?
  intro i
  by_cases hi : i < w.heap.size
  ·rw [Array.getElem?_append_left hi]
   exact h.block i hi
  ·rw [Array.getElem?_append_right (by omega), Array.getElem?_extract]
   have hs := h.size
   by_cases h2 : i < w'.heap.size
   ·rw [if_pos (by omega)]
    congr 1
    omega
   ·rw [if_neg (by omega), Array.getElem?_eq_none (by omega)]
 obtain ⟨heap, tape, drawn, os, output⟩ := w
 obtain ⟨heap', tape', drawn', os', output'⟩ := w'
 have h1 := h.os
 have h2 := h.tape
 have h3 := h.output
 simp only at h1 h2 h3 hh hd
 subst h1 h2 h3
 unfold Sort.grow World.drewN
 simp only [World.mk.injEq, and_true, true_and]
 exact ⟨hh, by omega⟩
theorem Gr.drawn {w w' : World} (h : Gr w w') : w.drawn ≤ w'.drawn := by
 obtain ⟨q, os, rfl⟩ := h
 show w.drawn ≤ w.drawn + q
 omega
theorem Gr.size {w w' : World} (h : Gr w w') : w.heap.size ≤ w'.heap.size := h.below.size
section
variable {P : Program} {w : World} {ops : Array Oper} {rest : List Oper} {o : Oper} {a : Act} {Q : Exit → Act → World → Prop}
end
def left (p : Nat → Bool) (i c : Nat) : Nat := wd (fun j => p (64 * i + j) && decide (c ≤ j)) 64
def parts (ps : List (Nat → Bool)) : List (Nat → Bool) := outs ps (firstJ ps 256).length 256
section
variable {P : Program} {w : World} {ops : Array Oper} {rest : List Oper} {o : Oper} {a : Act} {Q : Exit → Act → World → Prop} {K : Act → World → Prop}
end
/-! ### begun -/
/-! ### bytes alike -/
theorem alikeS_iff (ps : List (Nat → Bool)) (a b : Nat) : alikeS ps a b = true ↔ ∀ p ∈ ps, p a = p b := by
 unfold alikeS
 rw [List.all_eq_true]
 simp
theorem alikeS_refl (ps : List (Nat → Bool)) (a : Nat) : alikeS ps a a = true := (alikeS_iff ps a a).2 fun _ _ => rfl
theorem alikeS_symm {ps : List (Nat → Bool)} {a b : Nat} (h : alikeS ps a b = true) : alikeS ps b a = true := (alikeS_iff ps b a).2 fun p hp => ((alikeS_iff ps a b).1 h p hp).symm
theorem alikeS_trans {ps : List (Nat → Bool)} {a b c : Nat} (h : alikeS ps a b = true) (k : alikeS ps b c = true) : alikeS ps a c = true :=
 (alikeS_iff ps a c).2 fun p hp => ((alikeS_iff ps a b).1 h p hp).trans ((alikeS_iff ps b c).1 k p hp)
/-! ### the first bytes -/
theorem firstJ_facts (ps : List (Nat → Bool)) : ∀ j, (firstJ ps j).Pairwise (fun f g => f < g ∧ alikeS ps f g = false) ∧ (∀ f ∈ firstJ ps j, ∀ b, b < f → alikeS ps f b = false) ∧ (∀ b, b < j → ∃ f ∈ firstJ ps j, alikeS ps f b = true)
 | 0 => ⟨List.Pairwise.nil, fun f hf => by simp [firstJ] at hf, fun b hb => by omega⟩
 | j + 1 => by
  obtain ⟨h1, h2, h3⟩ := firstJ_facts ps j
  by_cases hh : (firstJ ps j).any (fun f => alikeS ps j f) = true
  ·have e : firstJ ps (j + 1) = firstJ ps j := by simp only [firstJ]; rw [if_pos hh]
   rw [e]
   refine ⟨h1, h2, fun b hb => ?_⟩
   by_cases hbj : b < j
   ·exact h3 b hbj
   ·obtain rfl : b = j := by omega
    obtain ⟨f, hf, ha⟩ := List.any_eq_true.1 hh
    exact ⟨f, hf, alikeS_symm ha⟩
  ·have e : firstJ ps (j + 1) = firstJ ps j ++ [j] := by simp only [firstJ]; rw [if_neg hh]
   have hno : ∀ f ∈ firstJ ps j, alikeS ps f j = false := fun f hf => by
    rw [Bool.eq_false_iff]
    exact fun k => hh (List.any_eq_true.2 ⟨f, hf, alikeS_symm k⟩)
   rw [e]
   refine ⟨List.pairwise_append.2 ⟨h1, List.pairwise_singleton _ _, fun f hf g hg => ?_⟩, fun f hf b hb => ?_, fun b hb => ?_⟩
   ·obtain rfl : g = j := by simpa using hg
    exact ⟨firstJ_lt ps _ f hf, hno f hf⟩
   ·rcases List.mem_append.1 hf with hf | hf
    ·exact h2 f hf b hb
    ·obtain rfl : f = j := by simpa using hf
     rw [Bool.eq_false_iff]
     intro k
     obtain ⟨g, hg, ha⟩ := h3 b hb
     have := hno g hg
     rw [alikeS_trans ha (alikeS_symm k)] at this
     cases this
   ·by_cases hbj : b < j
    ·obtain ⟨f, hf, ha⟩ := h3 b hbj
     exact ⟨f, List.mem_append.2 (.inl hf), ha⟩
    ·obtain rfl : b = j := by omega
     exact ⟨b, by simp, alikeS_refl ps b⟩
theorem firstJ_prefix (ps : List (Nat → Bool)) (j : Nat) : ∀ d, firstJ ps j <+: firstJ ps (j + d)
 | 0 => List.prefix_refl _
 | d + 1 => by
  refine List.IsPrefix.trans (firstJ_prefix ps j d) ?_
  rw [show j + (d + 1) = (j + d) + 1 from rfl]
  simp only [firstJ]
  split
  ·exact List.prefix_refl _
  ·exact List.prefix_append _ _
theorem clsOf_ltN (ps : List (Nat → Bool)) {N j : Nat} (hj : j < N) : clsOf ps j < (firstJ ps N).length := by
 have h1 := firstJ_mono ps (j + 1) (N - (j + 1))
 rw [show j + 1 + (N - (j + 1)) = N from by omega] at h1
 have h2 := clsOf_le ps j
 rcases Nat.lt_or_ge (clsOf ps j) (firstJ ps j).length with h | h
 ·rw [firstJ_hit h] at h1
  omega
 ·rw [firstJ_new (by omega), List.length_append] at h1
  simp at h1
  omega
theorem clsOf_is (ps : List (Nat → Bool)) (N b : Nat) (hb : b < N) (k : Nat) (hk : k < (firstJ ps N).length) : clsOf ps b = k ↔ alikeS ps ((firstJ ps N)[k]'hk) b = true := by
 obtain ⟨h1, h2, h3⟩ := firstJ_facts ps N
 have hlt := clsOf_ltN ps hb
 have hat : alikeS ps ((firstJ ps N)[clsOf ps b]'hlt) b = true := by
  have hp := firstJ_prefix ps (b + 1) (N - (b + 1))
  rw [show b + 1 + (N - (b + 1)) = N by omega] at hp
  rcases Nat.lt_or_ge (clsOf ps b) (firstJ ps b).length with h | h
  ·have ht := List.findIdx_getElem (p := fun f => alikeS ps b f) (w := h)
   have hp2 := firstJ_prefix ps b (N - b)
   rw [show b + (N - b) = N by omega] at hp2
   have := List.IsPrefix.getElem hp2 h
   have e : (firstJ ps N)[clsOf ps b]'hlt = (firstJ ps b)[clsOf ps b]'h := this.symm
   rw [e]
   exact alikeS_symm ht
  ·have hle := clsOf_le ps b
   have e0 : clsOf ps b = (firstJ ps b).length := by omega
   have en := firstJ_new e0
   have hl2 : clsOf ps b < (firstJ ps (b + 1)).length := by rw [en, List.length_append]; simp; omega
   have := List.IsPrefix.getElem hp hl2
   have e : (firstJ ps N)[clsOf ps b]'hlt = (firstJ ps (b + 1))[clsOf ps b]'hl2 := this.symm
   rw [e]
   have e2 : (firstJ ps (b + 1))[clsOf ps b]'hl2 = b := by
    have : (firstJ ps (b + 1))[clsOf ps b]? = some b := by rw [en, e0]; simp
    rw [List.getElem?_eq_getElem hl2] at this
    exact Option.some.inj this
   rw [e2]
   exact alikeS_refl ps b
 constructor
 ·rintro rfl
  exact hat
 ·intro ha
  have hl := alikeS_trans hat (alikeS_symm ha)
  rcases Nat.lt_trichotomy (clsOf ps b) k with h | h | h
  ·have := (List.pairwise_iff_getElem.1 h1 _ _ hlt hk h).2
   rw [hl] at this; cases this
  ·exact h
  ·have := (List.pairwise_iff_getElem.1 h1 _ _ hk hlt h).2
   rw [alikeS_symm hl] at this; cases this
/-! ### the document's parts -/
/-! ### cut by set after set -/
/-! ### told by what they have below 256 -/
def setsN (S : List St) : List (Nat → Bool) := S.map St.set
def fbN (S : List St) : List Nat := firstJ (setsN S) 256
noncomputable def sucN (S : List St) (X : List Int) : List (List Int) := (fbN S).map fun b => stpN S X b
noncomputable def LN (S : List St) (a : Int) (r : Nat) : List (List Int) := Lq (sucN S) (clsN S [a]) r
def FitN (S : List St) (a : Int) (n : Nat) : Prop := Fit (sucN S) (clsN S [a]) n
structure Dm where
 cl : List UInt8
 next : List (List Int)
 ends : List Bool
deriving DecidableEq
def noDm : Dm := ⟨List.replicate 256 0, [], []⟩
def hasZ (z : Int) (X : List Int) : Bool := decide (z ∈ X)
noncomputable def machN (S : List St) (a z : Int) (n : Nat) : Dm := ⟨ctab (setsN S) 256, rowsI (sucN S) (LN S a n) n, endsI (hasZ z) (LN S a n) n⟩
noncomputable def mkN (S : List St) (a z most : Int) : Dm × Int := by
 classical exact if MayN S a z then (if h : ∃ n : Nat, FitN S a n ∧ (n : Int) ≤ most then (machN S a z h.choose, 0) else (noDm, 7)) else (noDm, 3)
theorem mkN_ok {S : List St} {a z most : Int} (h : MayN S a z) {n : Nat} (hn : FitN S a n) (hm : (n : Int) ≤ most) : mkN S a z most = (machN S a z n, 0) := by
 have he : ∃ n : Nat, FitN S a n ∧ (n : Int) ≤ most := ⟨n, hn, hm⟩
 unfold mkN
 rw [if_pos h, dif_pos he]
 rw [fit_one he.choose_spec.1 hn]
theorem mkN_many {S : List St} {a z most : Int} (h : MayN S a z) {r : Nat} (hr : most < ((LN S a r).length : Int)) : mkN S a z most = (noDm, 7) := by
 have he : ¬ ∃ n : Nat, FitN S a n ∧ (n : Int) ≤ most := by
  rintro ⟨n, hn, hm⟩
  have := fit_most hn r
  unfold LN at hr
  omega
 unfold mkN
 rw [if_pos h, dif_neg he]
/-! ### sets of states -/
theorem LN_zero (S : List St) (a : Int) : LN S a 0 = [clsN S [a]] := rfl
def gds (t : Nat → Bool) : List Value := (List.range 32).map fun i => .int .u64 (word t i : Int)
def RowG (w : World) (v : Value) (ts : List (Nat → Bool)) : Prop :=
 ∃ A cap, v = .slice A ts.length cap ∧ ts.length ≤ cap ∧ cap ≤ maxLen ∧ (A = none → cap = 0) ∧
  (ts ≠ [] → ∃ b off, A = some ⟨b, off, none⟩ ∧ b < w.heap.size ∧ ∀ i t, ts[i]? = some t → w.rangeAt b (off + i * 32) (gds t))
theorem RowG.below {w w' : World} {v : Value} {ts : List (Nat → Bool)} (h : RowG w v ts) (hb : Below w.heap.size w w') : RowG w' v ts := by
 obtain ⟨A, cap, hv, h1, h2, h0, h3⟩ := h
 refine ⟨A, cap, hv, h1, h2, h0, fun hne => ?_⟩
 obtain ⟨b, off, hA, hlt, hc⟩ := h3 hne
 exact ⟨b, off, hA, Nat.lt_of_lt_of_le hlt hb.size, fun i t ht => range_below (hc i t ht) hb hlt⟩
theorem RowG.at_ {w : World} {A : Option Addr} {n cap : Nat} {ts : List (Nat → Bool)} (h : RowG w (.slice A n cap) ts) (hne : 0 < ts.length) : ∃ b off, A = some ⟨b, off, none⟩ ∧ b < w.heap.size ∧ ∀ i t, ts[i]? = some t → w.rangeAt b (off + i * 32) (gds t) := by
 obtain ⟨A', cap', he, _, _, _, h3⟩ := h
 injection he with hA _ _
 subst hA
 exact h3 (by rintro rfl; simp at hne)
section
variable {P : Program} {w : World} {ops : Array Oper} {rest : List Oper} {o : Oper} {a : Act} {Q : Exit → Act → World → Prop}
end
def MapV (w : World) (b : Nat) (E : List (Value × Value)) : Prop := ∃ es clock, w.heap[b]? = some (.map es clock) ∧ es.toList.map (fun x => (x.key, x.val)) = E
theorem MapV.lt {w : World} {b : Nat} {E : List (Value × Value)} (h : MapV w b E) : b < w.heap.size := by
 obtain ⟨es, clock, hb, _⟩ := h
 exact (Array.getElem?_eq_some_iff.1 hb).1
theorem MapV.stay {w w' : World} {b : Nat} {E : List (Value × Value)} (h : MapV w b E) (hk : w'.heap[b]? = w.heap[b]?) : MapV w' b E := by
 obtain ⟨es, clock, hb, hE⟩ := h
 exact ⟨es, clock, hk.trans hb, hE⟩
section
variable {P : Program} {w : World} {t k e : TypeId} {b : Nat} {E : List (Value × Value)}
end
/-! ### groups as keys -/
theorem ld_u64 {ev : Operand → Value} {o : Oper} (x : Operand) (ho : o.op = .load 32 x) {p : Addr} (hx : ev x = .pointer (some p)) {k : Int} {W : World} (hc : W.cell? p = some (.int .u64 k)) : (execOp ev o).run Try.prog W = .ok (.value (.int .u64 k)) W := by
 simp only [execOp, ho, hx]
 go_simp
theorem wp_stU {o : Oper} {a : Act} {K : Act → World → Prop} {Q : Exit → Act → World → Prop} {w : World} (x y : Operand) (ho : o.op = .store 32 x y) {p : Addr} (hx : a.eval x = .pointer (some p)) {k v : Int} (hy : a.eval y = .int .u64 k) (hc : w.cell? p = some (.int .u64 v)) (hf : w.frozen? p = false)
  (h : K (a.put o.dst undef) (w.setCell p (.int .u64 k))) : o.wp Try.prog a w K Q := by
 unfold Oper.wp
 simp only [execOp, ho, hx, hy]
 go_simp
 exact h
structure Off (D : Nat → Prop) (w w' : World) : Prop where
 os : w'.os = w.os
 tape : w'.tape = w.tape
 output : w'.output = w.output
 size : w.heap.size ≤ w'.heap.size
 block : ∀ k, k < w.heap.size → ¬ D k → w'.heap[k]? = w.heap[k]?
section
variable {D D' : Nat → Prop} {w w1 w2 w' : World} {B b o : Nat}
theorem Off.refl (D : Nat → Prop) (w : World) : Off D w w := ⟨rfl, rfl, rfl, Nat.le_refl _, fun _ _ _ => rfl⟩
theorem Off.start (D : Nat → Prop) (w : World) : Off D w w.drew := ⟨rfl, rfl, rfl, Nat.le_refl _, fun _ _ _ => rfl⟩
theorem Off.trans (h : Off D w w1) (k : Off D w1 w2) : Off D w w2 :=
 ⟨k.os.trans h.os, k.tape.trans h.tape, k.output.trans h.output, Nat.le_trans h.size k.size, fun i hi hn => (k.block i (Nat.lt_of_lt_of_le hi h.size) hn).trans (h.block i hi hn)⟩
theorem Off.mono (h : Off D w w') (hD : ∀ k, k < w.heap.size → D k → D' k) : Off D' w w' := ⟨h.os, h.tape, h.output, h.size, fun k hk hn => h.block k hk fun hd => hn (hD k hk hd)⟩
theorem Off.of (h : Below B w w') (hB : ∀ k, k < w.heap.size → ¬ D k → k < B) : Off D w w' := ⟨h.os, h.tape, h.output, h.size, fun k hk hn => h.block k (hB k hk hn)⟩
theorem Off.new (D : Nat → Prop) (h : Below w.heap.size w w') : Off D w w' := .of h fun k hk _ => hk
theorem Off.put {g : Nat} (h : Below B w w') (ho : ∀ k, k ≠ g → w'.heap[k]? = w.heap[k]?) (hD : w.heap.size ≤ g ∨ D g) : Off D w w' :=
 ⟨h.os, h.tape, h.output, h.size, fun k hk hn => ho k (by rintro rfl; rcases hD with h1 | h1; exact absurd hk (Nat.not_lt.2 h1); exact hn h1)⟩
theorem Off.grown {r : Option Nat} (h : w.grownBy w' r) (hD : ∀ k, r = some k → w.heap.size ≤ k ∨ D k) : Off D w w' :=
 ⟨h.os, h.tape, h.output, h.size, fun k hk hn => h.block k hk fun e => by rcases hD k e.symm with h1 | h1; exact absurd hk (Nat.not_lt.2 h1); exact hn h1⟩
theorem Off.set (w : World) {g : Nat} (i : Nat) (u : Value) (hD : D g) : Off D w (w.setCell ⟨g, i, none⟩ u) :=
 ⟨rfl, rfl, rfl, by simp [World.setCell], fun k hk hn => Below.heap_setCell w ⟨g, i, none⟩ u k (by rintro rfl; exact hn hD)⟩
theorem Off.setCells {g : Nat} (hD : D g) : ∀ (vs : List Value) (o : Nat) (w : World), Off D w (w.setCells g o vs)
 | [], _, w => Off.refl D w
 | v :: r, o, w => (Off.set w o v hD).trans (Off.setCells hD r (o + 1) _)
theorem Off.below (h : Off D w w') (hD : ∀ k, D k → B ≤ k) (hB : B ≤ w.heap.size) : Below B w w' := ⟨h.os, h.tape, h.output, h.size, fun k hk => h.block k (Nat.lt_of_lt_of_le hk hB) fun hd => absurd hk (Nat.not_lt.2 (hD k hd))⟩
theorem Off.cell (h : Off D w w') {v : Value} (hb : b < w.heap.size) (hn : ¬ D b) (hc : w.cell? ⟨b, o, none⟩ = some v) : w'.cell? ⟨b, o, none⟩ = some v := by
 have := h.block b hb hn
 unfold World.cell? at hc ⊢
 simp only [this]
 exact hc
theorem Off.range (h : Off D w w') {cs : List Value} (hb : b < w.heap.size) (hn : ¬ D b) (hc : w.rangeAt b o cs) : w'.rangeAt b o cs := fun j v hv => h.cell hb hn (hc j v hv)
theorem Off.blk (h : Off D w w') {t : TypeId} {cs : List Value} (hn : ¬ D b) (hc : Blk w b t cs) : Blk w' b t cs := (h.block b hc.lt hn).trans hc
theorem Off.then (h : Off D w w1) (hb : Below w1.heap.size w1 w2) : Off D w w2 := h.trans (Off.new D hb)
end
def fbB (ps : List (Nat → Bool)) (j : Nat) : List UInt8 := (firstJ ps j).map UInt8.ofNat
theorem fbB_len (ps : List (Nat → Bool)) (j : Nat) : (fbB ps j).length = (firstJ ps j).length := by simp [fbB]
theorem ctab_at (ps : List (Nat → Bool)) {j : Nat} (hj : j < 256) : (ctab ps 256)[j]? = some (UInt8.ofNat (clsOf ps j)) := by
 simp [ctab, hj]
theorem clsOf_256 (ps : List (Nat → Bool)) {j : Nat} (hj : j < 256) : clsOf ps j < 256 := Nat.lt_of_lt_of_le (clsOf_lt ps hj) (firstJ_len ps 256)
theorem wrap_256 (j : Nat) (h : j < 256) : IntKind.u8.wrap (j : Int) = (j : Int) := IntWalk.u8_in _ (by omega)
theorem wrap_256' (j : Nat) (h : j < 256) : wrap64 (j : Int) = (j : Int) := IntWalk.wrap64_in _ (by omega)
theorem wrap_256'' (j : Nat) (h : j < 256) : IntKind.i64.wrap (j : Int) = (j : Int) := IntWalk.i64_in _ (by omega)
theorem wrap8N (n : Nat) (h : n < 256) : IntKind.u8.wrap (n : Int) = (n : Int) := IntWalk.u8_in _ (by omega)
/-! ### cells -/
section
variable {A : Option Addr} {n cap k mr mn : Nat} {a z : Int} {cl : List UInt8} {sg q : Value}
end
/-! ### entries -/
/-! ### the whole of it -/
def Md (g mr mn : Nat) (qv : Value) (k : Nat) : Prop := k = g ∨ k = mr ∨ k = mn ∨ qv.ownBlock = some k
structure MStep (w w' : World) (g mr mn : Nat) (qv qv' : Value) : Prop where
 off : Off (Md g mr mn qv) w w'
 new : ∀ k, qv'.ownBlock = some k → qv.ownBlock = some k ∨ w.heap.size ≤ k
section
variable {w w' w'' : World} {B H g mr mn cap k : Nat} {A : Option Addr} {a z : Int} {cl : List UInt8} {sg : Value} {S : List St} {qv qv' qv'' : Value} {Qs : List (List Int)} {Es : List Int}
theorem MStep.refl (w : World) (g mr mn : Nat) (qv : Value) : MStep w w g mr mn qv qv := ⟨Off.refl _ _, fun k hk => .inl hk⟩
theorem MStep.trans (x : MStep w w' g mr mn qv qv') (y : MStep w' w'' g mr mn qv' qv'') : MStep w w'' g mr mn qv qv'' := by
 refine ⟨⟨y.off.os.trans x.off.os, y.off.tape.trans x.off.tape, y.off.output.trans x.off.output, Nat.le_trans x.off.size y.off.size, fun k hk hn => ?_⟩, fun k hk => ?_⟩
 ·refine (y.off.block k (Nat.lt_of_lt_of_le hk x.off.size) fun hd => ?_).trans (x.off.block k hk hn)
  rcases hd with e | e | e | e
  ·exact hn (.inl e)
  ·exact hn (.inr (.inl e))
  ·exact hn (.inr (.inr (.inl e)))
  ·rcases x.new k e with e | e
   ·exact hn (.inr (.inr (.inr e)))
   ·omega
 ·rcases y.new k hk with e | e
  ·exact x.new k e
  ·exact .inr (Nat.le_trans x.off.size e)
theorem MStep.of (hb : Below w.heap.size w w') (g mr mn : Nat) (qv : Value) : MStep w w' g mr mn qv qv := ⟨Off.new _ hb, fun k hk => .inl hk⟩
end
section
variable {P : Program} {w : World} {o : Oper} {a : Act} {Q : Exit → Act → World → Prop} {K : Act → World → Prop}
end
section
variable {P : Program} {w : World} {ops : Array Oper} {rest : List Oper} {o : Oper} {a : Act} {Q : Exit → Act → World → Prop}
theorem wp_appW {base : Nat} {K : Act → World → Prop} (s x : Operand) (t : TypeId)
  (ho : o.op = .call { callee := .builtin .append, args := #[s, x], argTypes := #[t, t] })
  (e : TypeId) (i : TypeInfo) (z : Value) (bytes : Nat) (ht : P.underlying t = some (.slice e)) (hi : P.info? e = some i) (hz : i.zero = some z)
  (hsize : i.size = 1) (hby : i.bytes = bytes) (hzs : z.cells.size = 1)
  (v : Value) (n : Nat) (xs : List Value) (hs : a.eval s = v) (hown : w.ownsRow base e 1 v n xs)
  (u : Value) (news : List Value) (hx : a.eval x = u) (hr : Row w u news) (h1 : ∀ u ∈ news, u.oneCell' = true)
  (hlen : n + news.length ≤ 2097152) (hby2 : bytes ≤ 1000) (hb : base ≤ w.heap.size)
  (h : ∀ v' w', w'.ownsRow base e 1 v' (n + news.length) (xs ++ news) → w.grownBy w' v.ownBlock → (∀ k, v'.ownBlock = some k → v.ownBlock = some k ∨ w.heap.size ≤ k) → K (a.put o.dst v') w') : o.wp P a w K Q := by
 have hm : (n + news.length) * bytes ≤ 2097152 * 1000 := Nat.mul_le_mul hlen hby2
 obtain ⟨A, cap, rfl, hl, hmx, h0, hc⟩ := hr
 cases A with
 | none =>
  have hcap : cap = 0 := h0 rfl
  subst hcap
  have hn : news = [] := List.eq_nil_of_length_eq_zero (by omega)
  subst hn
  have hrun := run_append_owned_none (P := P) (w := w) base t o.type e i 1 ht hi v n xs hown
  unfold Oper.wp
  simp at hx
  simp [execOp, ho, resolve, invoke, builtin, hs, hx, hrun, Result.andThen]
  exact h v w (by simpa using hown) (World.grownBy.refl _ _) fun k hk => .inl hk
 | some ad =>
  have hnews : ∀ j u, news[j]? = some u → w.cell? (ad.add j) = some u := by
   intro j u hj
   obtain ⟨b, off, hA, _, hcell⟩ := hc (by intro e; rw [e] at hj; simp at hj)
   injection hA with hA
   subst hA
   rw [Addr.add_lit]
   exact hcell j u hj
  obtain ⟨v', w', hrun, hown', hgr, _⟩ := run_append_own (P := P) w base t o.type e i z 1 bytes ht hi hz hsize hby hzs (by omega) v n xs hown ad news.length cap news (by omega) hnews h1 (by unfold maxLen; omega) (by omega) hb
  have hwh := append_where (P := P) (w := w) base t o.type e i z 1 bytes ht hi hz hsize hby (by omega) v n xs hown ad news.length cap news (by omega) hnews h1 (by unfold maxLen; omega) (by omega) hrun
  unfold Oper.wp execOp
  simp only [ho, resolve, invoke, builtin, Sem.run_bind, Sem.run_pure, Result.andThen_ok, List.map_toArray, List.map_cons, List.map_nil, hs, hx, hrun]
  exact h v' w' hown' hgr hwh
theorem wpList_appW {base : Nat} (hgd : o.guard = none) (s x : Operand) (t : TypeId)
  (ho : o.op = .call { callee := .builtin .append, args := #[s, x], argTypes := #[t, t] })
  (e : TypeId) (i : TypeInfo) (z : Value) (bytes : Nat) (ht : P.underlying t = some (.slice e)) (hi : P.info? e = some i) (hz : i.zero = some z)
  (hsize : i.size = 1) (hby : i.bytes = bytes) (hzs : z.cells.size = 1)
  (v : Value) (n : Nat) (xs : List Value) (hs : a.eval s = v) (hown : w.ownsRow base e 1 v n xs)
  (u : Value) (news : List Value) (hx : a.eval x = u) (hr : Row w u news) (h1 : ∀ u ∈ news, u.oneCell' = true)
  (hlen : n + news.length ≤ 2097152) (hby2 : bytes ≤ 1000) (hb : base ≤ w.heap.size)
  (h : ∀ v' w', w'.ownsRow base e 1 v' (n + news.length) (xs ++ news) → w.grownBy w' v.ownBlock → (∀ k, v'.ownBlock = some k → v.ownBlock = some k ∨ w.heap.size ≤ k) → wpList P ops Q rest (a.put o.dst v') w') : wpList P ops Q (o :: rest) a w :=
 wpList_plain hgd fun _ hK => wp_appW s x t ho e i z bytes ht hi hz hsize hby hzs v n xs hs hown u news hx hr h1 hlen hby2 hb fun v' w' h2 h3 h4 => hK _ _ (h v' w' h2 h3 h4)
end
/-! ### plain facts -/
structure GL (n : Nat) (t : Nat → Bool) (L : List Int) : Prop where
 rng : ∀ x ∈ L, 0 ≤ x ∧ x < (n : Int)
 nd : L.Nodup
 is : ∀ i : Nat, i < n → (t i = true ↔ (i : Int) ∈ L)
theorem risJ_nd (t : Nat → Bool) (n : Nat) : (risJ t n).Nodup := List.nodup_iff_pairwise_ne.2 ((risJ_rise t n).imp fun h => Int.ne_of_lt h)
theorem GL.perm {n : Nat} {t : Nat → Bool} {L : List Int} (h : GL n t L) : L.Perm (risJ t n) :=
 (List.perm_ext_iff_of_nodup h.nd (risJ_nd t n)).2 fun x => by
  rw [risJ_mem]
  constructor
  ·intro hx
   obtain ⟨h0, h1⟩ := h.rng x hx
   refine ⟨x.toNat, by omega, by omega, (h.is _ (by omega)).2 ?_⟩
   rwa [Int.toNat_of_nonneg h0]
  ·rintro ⟨i, rfl, hi, ht⟩
   exact (h.is i hi).1 ht
theorem GL.len {n : Nat} {t : Nat → Bool} {L : List Int} (h : GL n t L) : L.length ≤ n := by
 rw [h.perm.length_eq]
 exact risJ_len t n
theorem GL.nil (n : Nat) : GL n (fun _ => false) [] := ⟨fun x h => by simp at h, .nil, fun i _ => by simp⟩
theorem GL.add {n : Nat} {t : Nat → Bool} {L : List Int} (h : GL n t L) {i : Nat} (hi : i < n) (ht : t i = false) : GL n (updB t i true) (L ++ [(i : Int)]) := by
 have hn : (i : Int) ∉ L := fun hm => by have := (h.is i hi).2 hm; rw [ht] at this; cases this
 refine ⟨fun x hx => ?_, ?_, fun j hj => ?_⟩
 ·rcases List.mem_append.1 hx with hx | hx
  ·exact h.rng x hx
  ·obtain rfl := List.mem_singleton.1 hx
   exact ⟨by omega, by omega⟩
 ·refine List.nodup_append.2 ⟨h.nd, by simp, fun a ha b hb hab => ?_⟩
  obtain rfl := List.mem_singleton.1 hb
  exact hn (hab ▸ ha)
 ·unfold updB
  by_cases hji : j = i
  ·subst hji; simp
  ·rw [if_neg hji, h.is j hj, List.mem_append, List.mem_singleton]
   constructor
   ·exact .inl
   ·rintro (h1 | h1)
    ·exact h1
    ·omega
def addT (n : Nat) (t : Nat → Bool) (x : Int) : Nat → Bool := if 0 ≤ x ∧ x < (n : Int) ∧ t x.toNat = false then updB t x.toNat true else t
def addL (n : Nat) (t : Nat → Bool) (L : List Int) (x : Int) : List Int := if 0 ≤ x ∧ x < (n : Int) ∧ t x.toNat = false then L ++ [x] else L
theorem add_yes {n : Nat} {t : Nat → Bool} {i : Nat} (L : List Int) (hi : i < n) (ht : t i = false) : addT n t (i : Int) = updB t i true ∧ addL n t L (i : Int) = L ++ [(i : Int)] := by
 unfold addT addL
 rw [if_pos ⟨by omega, by omega, by simpa using ht⟩, if_pos ⟨by omega, by omega, by simpa using ht⟩, Int.toNat_natCast]
 exact ⟨rfl, rfl⟩
theorem add_no {n : Nat} {t : Nat → Bool} {x : Int} (L : List Int) (h : ¬ (0 ≤ x ∧ x < (n : Int) ∧ t x.toNat = false)) : addT n t x = t ∧ addL n t L x = L := by
 unfold addT addL
 rw [if_neg h, if_neg h]
 exact ⟨rfl, rfl⟩
theorem addT_iff {n : Nat} {t : Nat → Bool} {x : Int} {j : Nat} (hj : j < n) : addT n t x j = true ↔ t j = true ∨ x = (j : Int) := by
 unfold addT
 by_cases h : 0 ≤ x ∧ x < (n : Int) ∧ t x.toNat = false
 ·rw [if_pos h]
  unfold updB
  by_cases hji : j = x.toNat
  ·rw [if_pos hji]
   simp only [true_iff]
   right; omega
  ·rw [if_neg hji]
   constructor
   ·exact .inl
   ·rintro (h1 | h1)
    ·exact h1
    ·omega
 ·rw [if_neg h]
  constructor
  ·exact .inl
  ·rintro (h1 | h1)
   ·exact h1
   ·subst h1
    cases ht : t j with
    | true => rfl
    | false => exact absurd ⟨by omega, by omega, by simpa using ht⟩ h
theorem addL_app (n : Nat) (t : Nat → Bool) (L : List Int) (x : Int) : ∃ m, addL n t L x = L ++ m := by
 unfold addL
 split
 ·exact ⟨_, rfl⟩
 ·exact ⟨[], by simp⟩
theorem GL.put {n : Nat} {t : Nat → Bool} {L : List Int} (h : GL n t L) (x : Int) : GL n (addT n t x) (addL n t L x) := by
 by_cases hc : 0 ≤ x ∧ x < (n : Int) ∧ t x.toNat = false
 ·obtain ⟨i, rfl⟩ : ∃ i : Nat, x = (i : Int) := ⟨x.toNat, by omega⟩
  have ht : t i = false := by simpa using hc.2.2
  obtain ⟨e1, e2⟩ := add_yes (n := n) L (by omega) ht
  rw [e1, e2]
  exact h.add (by omega) ht
 ·obtain ⟨e1, e2⟩ := add_no (n := n) (t := t) L hc
  rw [e1, e2]
  exact h
/-! ### how it lies -/
def Gd (g h : Nat) (lv : Value) (k : Nat) : Prop := k = g ∨ k = h ∨ lv.ownBlock = some k
structure GStep (w w' : World) (g h : Nat) (lv lv' : Value) : Prop where
 off : Off (Gd g h lv) w w'
 new : ∀ k, lv'.ownBlock = some k → lv.ownBlock = some k ∨ w.heap.size ≤ k
section
variable {w w' w'' : World} {B g h n cap : Nat} {A : Option Addr} {a z : Int} {t : Nat → Bool} {lv lv' lv'' : Value} {L : List Int}
theorem GStep.refl (w : World) (g h : Nat) (lv : Value) : GStep w w g h lv lv := ⟨Off.refl _ _, fun k hk => .inl hk⟩
theorem GStep.trans (x : GStep w w' g h lv lv') (y : GStep w' w'' g h lv' lv'') : GStep w w'' g h lv lv'' := by
 refine ⟨⟨y.off.os.trans x.off.os, y.off.tape.trans x.off.tape, y.off.output.trans x.off.output, Nat.le_trans x.off.size y.off.size, fun k hk hn => ?_⟩, fun k hk => ?_⟩
 ·refine (y.off.block k (Nat.lt_of_lt_of_le hk x.off.size) fun hd => ?_).trans (x.off.block k hk hn)
  rcases hd with e | e | e
  ·exact hn (.inl e)
  ·exact hn (.inr (.inl e))
  ·rcases x.new k e with e | e
   ·exact hn (.inr (.inr e))
   ·omega
 ·rcases y.new k hk with e | e
  ·exact x.new k e
  ·exact .inr (Nat.le_trans x.off.size e)
theorem GStep.of (hb : Below w.heap.size w w') (g h : Nat) (lv : Value) : GStep w w' g h lv lv := ⟨Off.new _ hb, fun k hk => .inl hk⟩
end
end Go.Proofs.Ytaakdebcagdfgaa
