/-
  Texts of this proof, put together: ThC, ThD, ThF, ThG, BsAh, BsA, BsO, BsB, SetCA, SetD, SetE, SetK, BsH. No statement is proved here.
-/
import Derived.Test.YteadghoojeehlaaDoorUD
import Derived.Test.YteadghoojeehlaaDoorUB
import Derived.Test.YteadghoojeehlaaDoorUC
namespace Go.Proofs.YteadghoojeehlaaDoor
open Go.RowKit
set_option linter.unusedSimpArgs false
set_option linter.unusedVariables false
def sdJ (l : List Int) (j i : Nat) : Bool := (l.take j).any fun x => decide (x = (i : Int))
theorem sdJ_zero (l : List Int) : sdJ l 0 = fun _ => false := by funext i; simp [sdJ]
theorem sdJ_succ {l : List Int} {j : Nat} {x : Int} (h : l[j]? = some x) (i : Nat) : sdJ l (j + 1) i = (sdJ l j i || decide (x = (i : Int))) := by
 obtain ⟨hj, rfl⟩ := List.getElem?_eq_some_iff.1 h
 unfold sdJ
 rw [List.take_succ_eq_append_getElem hj, List.any_append]
 simp
theorem sdJ_all {l : List Int} {i : Nat} : sdJ l l.length i = true ↔ ofL l i := by
 unfold sdJ ofL
 rw [List.take_length, List.any_eq_true]
 constructor
 ·rintro ⟨x, hx, h⟩
  have : x = (i : Int) := by simpa using h
  rwa [← this]
 ·intro h; exact ⟨_, h, by simp⟩
structure Ps (S : List St) (P : Nat → Prop) (t0 : Nat → Bool) (ag : Bool) (i kk : Nat) (t : Nat → Bool) : Prop where
 seeds : ∀ q, q < S.length → P q → t q = true
 sound : ∀ q, q < S.length → t q = true → Rc S P q
 more : ∀ q, t0 q = true → t q = true
 still : ag = false → ∀ q, q < S.length → t q = t0 q
 new : ag = true → ∃ q, q < S.length ∧ t0 q = false ∧ t q = true
 done : ag = false → ∀ i' s, i' < i → S[i']? = some s → t i' = true → ∀ f ∈ s.free, t f.toNat = true
 part : ag = false → ∀ s, S[i]? = some s → t i = true → ∀ m f, m < kk → s.free[m]? = some f → t f.toNat = true
section
variable {S : List St} {P : Nat → Prop} {t0 t : Nat → Bool} {ag : Bool} {i kk : Nat}
theorem Ps.start (h1 : ∀ q, q < S.length → P q → t q = true) (h2 : ∀ q, q < S.length → t q = true → Rc S P q) : Ps S P t false 0 0 t :=
 ⟨h1, h2, fun _ h => h, fun _ _ _ => rfl, fun h => (by cases h), fun _ i' s h => absurd h (Nat.not_lt_zero i'), fun _ s _ _ m f h => absurd h (Nat.not_lt_zero m)⟩
theorem Ps.mark (h : Ps S P t0 ag i kk t) {s : St} (hs : S[i]? = some s) (ht : t i = true) {f : Int} (hf : s.free[kk]? = some f) (h0 : 0 ≤ f) (h1 : f < (S.length : Int)) : Ps S P t0 (ag || !t f.toNat) i (kk + 1) (updB t f.toNat true) := by
 have hi : i < S.length := (List.getElem?_eq_some_iff.1 hs).1
 have hfm : f ∈ s.free := List.mem_of_getElem? hf
 have hfn : f.toNat < S.length := by omega
 have hup : ∀ q, t q = true → updB t f.toNat true q = true := fun q hq => by unfold updB; split; rfl; exact hq
 by_cases hft : t f.toNat = true
 ·have e : updB t f.toNat true = t := by
   funext q
   unfold updB
   split
   ·next h => rw [h, hft]
   ·rfl
  rw [e, hft]
  simp only [Bool.not_true, Bool.or_false]
  refine ⟨h.seeds, h.sound, h.more, h.still, h.new, h.done, fun ha s' hs' ht' m f' hm hf' => ?_⟩
  rw [hs] at hs'
  injection hs' with hs'
  subst hs'
  rcases Nat.lt_or_ge m kk with hlt | hge
  ·exact h.part ha s hs ht' m f' hlt hf'
  ·obtain rfl : m = kk := by omega
   rw [hf] at hf'
   injection hf' with hf'
   rw [← hf']
   exact hft
 ·have hft' : t f.toNat = false := by simpa using hft
  rw [hft']
  simp only [Bool.not_false, Bool.or_true]
  refine ⟨fun q hq hp => hup q (h.seeds q hq hp), fun q hq hu => ?_, fun q hq => hup q (h.more q hq), fun h => (by cases h), fun _ => ⟨f.toNat, hfn, ?_, (by unfold updB; rw [if_pos rfl])⟩, fun h => (by cases h), fun h => (by cases h)⟩
  ·unfold updB at hu
   by_cases hqf : q = f.toNat
   ·rw [hqf]
    exact .go (h.sound i hi ht) hs (by rwa [Int.toNat_of_nonneg h0]) hfn
   ·rw [if_neg hqf] at hu
    exact h.sound q hq hu
  ·cases h0 : t0 f.toNat with
   | false => rfl
   | true => exact absurd (h.more _ h0) hft
theorem Ps.next (h : Ps S P t0 ag i kk t) {s : St} (hs : S[i]? = some s) (hk : kk = s.free.length ∨ t i = false) : Ps S P t0 ag (i + 1) 0 t := by
 refine ⟨h.seeds, h.sound, h.more, h.still, h.new, fun ha i' s' hi hs' ht' f hf => ?_, fun _ s _ _ m f h => absurd h (Nat.not_lt_zero m)⟩
 rcases Nat.lt_or_ge i' i with hlt | hge
 ·exact h.done ha i' s' hlt hs' ht' f hf
 ·obtain rfl : i' = i := by omega
  rw [hs] at hs'
  injection hs' with hs'
  subst hs'
  rcases hk with hk | hk
  ·obtain ⟨m, hm, hmf⟩ := List.getElem_of_mem hf
   exact h.part ha s hs ht' m f (by omega) (by rw [List.getElem?_eq_getElem hm, hmf])
  ·rw [ht'] at hk; cases hk
theorem Ps.end_ (h : Ps S P t0 false S.length kk t) {q : Nat} (hq : q < S.length) : t q = true ↔ Rc S P q :=
 rc_is h.seeds (fun i s hs ht j hj => by
  have := h.done rfl i s (List.getElem?_eq_some_iff.1 hs).1 hs ht _ hj
  simpa using this) h.sound q hq
def unm (n : Nat) (t : Nat → Bool) : Nat := ((List.range n).filter fun q => !t q).length
theorem unm_succ (n : Nat) (t : Nat → Bool) : unm (n + 1) t = unm n t + (if t n = true then 0 else 1) := by
 unfold unm
 rw [List.range_succ, List.filter_append, List.length_append]
 cases h : t n <;> simp [h]
theorem unm_more {u v : Nat → Bool} : ∀ {n : Nat}, (∀ q, u q = true → v q = true) → unm n v ≤ unm n u
 | 0, _ => Nat.le_refl _
 | n + 1, h => by
  have ih := unm_more (n := n) h
  rw [unm_succ, unm_succ]
  by_cases hu : u n = true
  ·rw [if_pos hu, if_pos (h n hu)]; omega
  ·rw [if_neg hu]; split <;> omega
theorem unm_less {u v : Nat → Bool} : ∀ {n : Nat}, (∀ q, u q = true → v q = true) → (∃ q, q < n ∧ u q = false ∧ v q = true) → unm n v < unm n u
 | 0, _, ⟨q, hq, _⟩ => absurd hq (Nat.not_lt_zero q)
 | n + 1, h, ⟨q, hq, h1, h2⟩ => by
  rw [unm_succ, unm_succ]
  rcases Nat.lt_or_ge q n with hlt | hge
  ·have ih := unm_less (n := n) h ⟨q, hlt, h1, h2⟩
   by_cases hu : u n = true
   ·rw [if_pos hu, if_pos (h n hu)]; omega
   ·rw [if_neg hu]; split <;> omega
  ·obtain rfl : q = n := by omega
   have ih := unm_more (n := q) h
   rw [if_pos h2, if_neg (by rw [h1]; simp)]
   omega
theorem Ps.less (h : Ps S P t0 true i kk t) : unm S.length t < unm S.length t0 := unm_less h.more (h.new rfl)
end
noncomputable def mayNB (S : List St) (a z : Int) : Bool := @decide (MayN S a z) (Classical.propDecidable _)
theorem mayNB_yes {S : List St} {a z : Int} (h : MayN S a z) : mayNB S a z = true := by
 unfold mayNB
 exact (@decide_eq_true_iff _ (Classical.propDecidable _)).2 h
theorem mayNB_no {S : List St} {a z : Int} (h : ¬ MayN S a z) : mayNB S a z = false := by
 unfold mayNB
 exact (@decide_eq_false_iff_not _ (Classical.propDecidable _)).2 h
theorem mayNB_iff {S : List St} {a z : Int} : mayNB S a z = true ↔ MayN S a z := by
 unfold mayNB
 exact @decide_eq_true_iff _ (Classical.propDecidable _)
theorem lt_bigN {i n : Nat} (h : i < n) (hn : n ≤ 2000) : i ≤ 4611686018427387904 := by omega
theorem size_nfa {cs : List Value} (h : cs.length = 3) : (Tryd.prog.info? 24).map (·.size) = some cs.length := by
 rw [h]
 kernel_rfl
theorem size_nst {cs : List Value} (h : cs.length = 6) : (Tryd.prog.info? 49).map (·.size) = some cs.length := by
 rw [h]
 kernel_rfl
theorem inf_nst : (Tryd.prog.info? 49).map (fun i => (i.zero, i.size, i.bytes)) = some (some (.agg (stc ⟨fun _ => false, 0, []⟩ (.slice none 0 0)).toArray), 6, 64) := by kernel_rfl
def okS (n : Nat) (s : St) : Prop := s.to < (n : Int) ∧ s.free.length ≤ 8 ∧ ∀ f ∈ s.free, 0 ≤ f ∧ f < (n : Int)
theorem MayN.ok {S : List St} {a z : Int} (h : MayN S a z) {i : Nat} {s : St} (hs : S[i]? = some s) : okS S.length s :=
 have hm := List.mem_of_getElem? hs
 ⟨h.to s hm, h.free8 s hm, h.free s hm⟩
def cellB (w : World) (g q : Nat) : Bool := match w.cell? ⟨g, q, none⟩ with | some (.bool b) => b | _ => false
def bOf : Value → Nat | .bool true => 1 | _ => 0
def farW (g n : Nat) (v : Value) (w : World) : Nat := 2 * unm n (cellB w g) + bOf v
theorem unm_congr {n : Nat} {t u : Nat → Bool} (h : ∀ q, q < n → t q = u q) : unm n t = unm n u := by
 unfold unm
 rw [List.filter_congr fun q hq => by rw [h q (List.mem_range.1 hq)]]
theorem unm_blk {w : World} {g n : Nat} {t : Nat → Bool} (h : Blk w g 4 (bcs n t)) : unm n (cellB w g) = unm n t :=
 unm_congr fun q hq => by
  unfold cellB
  rw [h.cell, bcs_get t hq]
theorem farW_yes {w : World} {g n : Nat} {t : Nat → Bool} (h : Blk w g 4 (bcs n t)) : farW g n (.bool true) w = 2 * unm n t + 1 := by
 unfold farW
 rw [unm_blk h]
 rfl
theorem farW_no {w : World} {g n : Nat} {t : Nat → Bool} (h : Blk w g 4 (bcs n t)) : farW g n (.bool false) w = 2 * unm n t := by
 unfold farW
 rw [unm_blk h]
 rfl
theorem Ps.far {S : List St} {P : Nat → Prop} {t0 t : Nat → Bool} {ag : Bool} {kk g : Nat} {w w' : World} (h : Ps S P t0 ag S.length kk t) (h0 : Blk w g 4 (bcs S.length t0)) (h1 : Blk w' g 4 (bcs S.length t)) :
  farW g S.length (.bool ag) w' < farW g S.length (.bool true) w := by
 rw [farW_yes h0]
 cases ag with
 | true =>
  rw [farW_yes h1]
  have := h.less
  omega
 | false =>
  rw [farW_no h1]
  have := unm_congr (h.still rfl)
  omega
structure Pq (S : List St) (P : Nat → Prop) (ag : Bool) (t : Nat → Bool) : Prop where
 seeds : ∀ q, q < S.length → P q → t q = true
 sound : ∀ q, q < S.length → t q = true → Rc S P q
 done : ag = false → ∀ q, q < S.length → (t q = true ↔ Rc S P q)
theorem Ps.all {S : List St} {P : Nat → Prop} {t0 t : Nat → Bool} {ag : Bool} {kk : Nat} (h : Ps S P t0 ag S.length kk t) : Pq S P ag t :=
 ⟨h.seeds, h.sound, fun ha q hq => by subst ha; exact h.end_ hq⟩
theorem Pq.first {S : List St} {l : List Int} : Pq S (ofL l) true (sdJ l l.length) :=
 ⟨fun q _ h => sdJ_all.2 h, fun q hq h => .base (sdJ_all.1 h) hq, fun h => (by cases h)⟩
noncomputable def cloN (S : List St) (a z : Int) (l : List Int) : List Int := if mayNB S a z then clsN S l else []
theorem cloN_no {S : List St} {a z : Int} {l : List Int} (h : mayNB S a z = false) : cloN S a z l = [] := by
 unfold cloN
 rw [h]
 rfl
theorem cloN_yes {S : List St} {a z : Int} {l : List Int} (h : mayNB S a z = true) : cloN S a z l = clsN S l := by
 unfold cloN
 rw [h]
 rfl
theorem goN_nil (S : List St) (l : List Int) (b : Nat) : goN S (l.take 0) b = [] := rfl
theorem ld_int9 {ev : Operand → Value} {o : Oper} (x : Operand) (ho : o.op = .load 3 x) {p : Addr} (hx : ev x = .pointer (some p)) {k : Int} {W : World} (hc : W.cell? p = some (.int .i64 k)) : (execOp ev o).run Tryd.prog W = .ok (.value (.int .i64 k)) W := by
 simp only [execOp, ho, hx]
 go_simp
theorem ld_sts {ev : Operand → Value} {o : Oper} (x : Operand) (ho : o.op = .load 22 x) {p : Addr} (hx : ev x = .pointer (some p)) {A : Option Addr} {n c : Nat} {W : World} (hc : W.cell? p = some (.slice A n c)) : (execOp ev o).run Tryd.prog W = .ok (.value (.slice A n c)) W := by
 simp only [execOp, ho, hx]
 go_simp
section
variable {P : Program} {o : Oper} {a : Act} {w : World} {K : Act → World → Prop} {Q : Exit → Act → World → Prop}
theorem wp_bldI (t e : TypeId) (x : Operand) (ho : o.op = .buildSlice t 1 #[(0, x)]) (i : TypeInfo) (ht : P.underlying t = some (.slice e)) (hi : P.info? e = some i) (z : Int) (hz : i.zero = some (.int .i64 z)) (hs : i.size = 1) (p : Int) (hx : a.eval x = .int .i64 p)
  (h : ∀ w', Row w' (.slice (some ⟨w.heap.size, 0, none⟩) 1 1) (nums .i64 [p]) → Below w.heap.size w w' → K (a.put o.dst (.slice (some ⟨w.heap.size, 0, none⟩) 1 1)) w') : o.wp P a w K Q := by
 have hzv : (zeroValue e).run P w = .ok (.int .i64 z) w := by simp [zeroValue, typeInfo, hi, hz]
 have hrun : (Instr.buildSlice t 1 #[(0, .int .i64 p)]).run P w = .ok (.slice (some ⟨w.heap.size, 0, none⟩) 1 1) (w.alloc (.cells (nums .i64 [p]).toArray e)) := by
  simp [Instr.buildSlice, run_underlying ht, sizeOf, typeInfo, hi, hs, hzv, Value.cells, Instr.fill, Array.range_succ, Array.range_zero', newRow, nums]
 unfold Oper.wp
 simp only [execOp, ho, List.map_toArray, List.map_cons, List.map_nil, hx, hrun, Sem.run_bind, Result.andThen_ok, Sem.run_pure]
 have hb := Blk.new w e (nums .i64 [p])
 have hr : Row (w.alloc (.cells (nums .i64 [p]).toArray e)) (.slice (some ⟨w.heap.size, 0, none⟩) 1 1) (nums .i64 [p]) :=
  Row.of_own (hb.own (Nat.zero_le _) (by simp [maxLen, nums]))
 exact h _ hr ((Below.refl _ _).alloc (Nat.le_refl _) _)
end
theorem has_bit2 (x k : Nat) (hx : x < 18446744073709551616) : (bits .and .u64 ((x : Int) / 2 ^ k) 1 == 1) = decide (x / 2 ^ k % 2 = 1) := by
 have e : (2 ^ k : Int) = ((2 ^ k : Nat) : Int) := by rw [Int.natCast_pow]; rfl
 have hlt : x / 2 ^ k < 18446744073709551616 := Nat.lt_of_le_of_lt (Nat.div_le_self _ _) hx
 rw [e, ← Int.natCast_ediv]
 generalize x / 2 ^ k = y at hlt
 rw [show (1 : Int) = ((1 : Nat) : Int) from rfl, u64_and_nat y 1 hlt (by omega), Nat.and_one_is_mod, Bool.eq_iff_iff, beq_iff_eq, decide_eq_true_iff]
 omega
set_option maxHeartbeats 2000000 in
set_option maxRecDepth 100000 in
theorem bsOf_any (v : Value) (l : List UInt8) (w : World) (hr : Row w v (bvs l)) (hl : l.length ≤ 1048576) :
  Calls Tryd.prog 53 #[v] w fun e w' => e = .returned (.agg (wds fun b => decide (UInt8.ofNat b ∈ l)).toArray) ∧ Below w.heap.size w w' := by
 have R0 := qH hr
 obtain ⟨A, cap, rfl, a1, a2, a0, a3⟩ := hr
 rw [bvs_length] at a1 R0 ⊢
 clear a3 a0 a2
 obtain ⟨i0, hi0, hz0⟩ := info_set
 obtain ⟨z, hz⟩ : ∃ z : Nat → Bool, z = fun _ => false := ⟨_, rfl⟩
 rw [← hz] at hz0
 have HZ := qH hz
 clear hz
 go_enter Tryd.func53, Tryd.ntmps53
 go_wp2_with ((with_reducible refine atDst 2 ?_); refine wpList_new rfl 47 rfl i0 _ (wds z) hi0 hz0 rfl (Below.refl w.heap.size w) (Nat.le_refl _) ?_; intro w1 hk1 hb1 hs1 _; have K1 := qH hk1; have B1 := qH hb1; clear hk1 hb1 hs1)
 go_loopw [7] (fun i wl => ∃ j : Nat, j ≤ l.length ∧ i = .int .i64 (j : Int) ∧ Blk wl w.heap.size 47 (wds fun b => decide (UInt8.ofNat b ∈ l.take j)) ∧ Below w.heap.size w wl) (fun i _ => l.length - (intOf i).toNat)
 case atStart => exact ⟨0, by omega, by simp, by simpa [HZ.out] using K1.out, B1.out⟩
 case round =>
  obtain ⟨j, hj, rfl, hk, hb⟩ := hrel
  have KR := qH hk
  have BR := qH hb
  clear hk hb
  by_cases hjl : j < l.length
  ·have i1 : (j : Int) < (l.length : Int) := by omega
   obtain ⟨b0, off, rfl, hb0, hcell⟩ := (R0.out.below BR.out).at_ (by rw [bvs_length]; omega)
   have hcj := hcell j _ (bvs_get l j l[j] (List.getElem?_eq_getElem hjl))
   obtain ⟨c, hc⟩ : ∃ c : UInt8, c = l[j] := ⟨_, rfl⟩
   rw [← hc] at hcj
   have HC := qH hc
   have hlt := c.toNat_lt
   obtain ⟨n, hn⟩ : ∃ n, n = c.toNat := ⟨_, rfl⟩
   have hcj' : wr.cell? ⟨b0, off + j, none⟩ = some (.int .u8 (n : Int)) := by rw [hn]; exact hcj
   rw [← hn] at hlt
   have HN := qH hn
   have hgc := KR.out.cell (n / 64)
   rw [wds_get _ (n / 64) (by omega)] at hgc
   obtain ⟨x, hx⟩ : ∃ x, x = word (fun b => decide (UInt8.ofNat b ∈ l.take j)) (n / 64) := ⟨_, rfl⟩
   rw [← hx] at hgc
   have hfz := KR.out.frozen (n / 64)
   have HX := qH hx
   have hlx : x < 18446744073709551616 := by rw [hx]; exact word_lt _ _
   have hsh := shl_bit (n % 64) (Nat.mod_lt _ (by omega))
   clear hcell hc hcj hn hx
   have hq1 : IntKind.u8.wrap ((n : Int) / 64) = ((n / 64 : Nat) : Int) := IntWalk.u8_in _ (by omega)
   have hq2 : ((n : Int).tmod 64) = ((n % 64 : Nat) : Int) := by rw [Int.tmod_eq_emod_of_nonneg (by omega)]; rfl
   have hq3 : (n : Int) / 64 < 4 := by omega
   have hq4 : 0 ≤ (n : Int) / 64 := by omega
   have hq5 : ((n : Int) / 64).toNat = n / 64 := by omega
   go_wp2_with fail
   refine ⟨⟨j + 1, by omega, by congr 1, ?_, (BR.out.setCell (p := ⟨w.heap.size, n / 64, none⟩) (Nat.le_refl _) _)⟩, by simp [intOf] <;> omega⟩
   rw [of_bits hlx (Nat.mod_lt n (by omega))]
   have hk := KR.out.set (n / 64) (.int .u64 ((x ||| 2 ^ (n % 64) : Nat) : Int))
   rw [HX.out, wds_put _ n (by omega)] at hk
   rw [HX.out]
   rw [wds_congr (q := fun b => decide (UInt8.ofNat b ∈ l.take j) || decide (b = n)) (fun b hb => ?_)]
   ·exact hk
   ·rw [List.take_succ_eq_append_getElem hjl, ← HC.out]
    exact mem_next b c n hb HN.out _
  ·obtain rfl : j = l.length := by omega
   have i1 : ¬ ((l.length : Int) < (l.length : Int)) := by omega
   have k9 := KR.out
   rw [List.take_length] at k9
   obtain ⟨q, hq⟩ : ∃ q : Nat → Bool, q = fun b => decide (UInt8.ofNat b ∈ l) := ⟨_, rfl⟩
   rw [← hq] at k9
   have K9 := qH k9
   have HQ := qH hq
   clear k9 hq KR
   go_wp2_with (first
    | ((with_reducible refine atDst 21 ?_); refine wpList_ldArr rfl 47 _ rfl w.heap.size rfl 47 _ _ K9.out Tryd.underlying47 rfl (size_set q) ?_)
    | ((with_reducible refine atStore 47 2 21 ?_); refine wpList_stBlk rfl 47 _ _ rfl w.heap.size (wds q) rfl rfl 47 _ K9.out (size_set q) rfl (wds_all _) BR.out (Nat.le_refl _) ?_; intro w3 hk3 hb3 hs3 _; have K3 := qH hk3; have B3 := qH hb3; clear hk3 hb3))
   refine bodyPost_ret (results_blk rfl _ _ w.heap.size 47 _ _ rfl K3.out Tryd.underlying47 rfl (size_set q)) rfl ?_
   exact ⟨by rw [HQ.out], B3.out⟩
def cutW (r : Nat → Bool) (j : Nat) : Nat → Bool := fun b => decide (b < 64 * j) && r b
theorem cutW_zero (r : Nat → Bool) : cutW r 0 = fun _ => false := by
 funext b
 simp [cutW]
theorem cutW_four (r : Nat → Bool) : wds (cutW r 4) = wds r := wds_congr fun b hb => by simp [cutW]; omega
theorem cutW_same (r : Nat → Bool) {i j : Nat} (h : i ≠ j) : word (cutW r j) i = word (cutW r (j + 1)) i := wd_congr fun k hk => by
 have : decide (64 * i + k < 64 * j) = decide (64 * i + k < 64 * (j + 1)) := decide_eq_decide.2 (by omega)
 simp only [cutW, this]
theorem cutW_here (r : Nat → Bool) (j : Nat) : word (cutW r (j + 1)) j = word r j := wd_congr fun k hk => by
 have : decide (64 * j + k < 64 * (j + 1)) = true := decide_eq_true (by omega)
 simp only [cutW, this, Bool.true_and]
theorem cutW_next (r : Nat → Bool) (j : Nat) (hj : j < 4) : (wds (cutW r j)).set j (.int .u64 (word r j : Int)) = wds (cutW r (j + 1)) := by
 rw [← cutW_here r j]
 match j, hj with
 | 0, _ => simp only [wds, List.set_cons_zero]; rw [cutW_same r (i := 1) (j := 0) (by omega), cutW_same r (i := 2) (j := 0) (by omega), cutW_same r (i := 3) (j := 0) (by omega)]
 | 1, _ => simp only [wds, List.set_cons_zero, List.set_cons_succ]; rw [cutW_same r (i := 0) (j := 1) (by omega), cutW_same r (i := 2) (j := 1) (by omega), cutW_same r (i := 3) (j := 1) (by omega)]
 | 2, _ => simp only [wds, List.set_cons_zero, List.set_cons_succ]; rw [cutW_same r (i := 0) (j := 2) (by omega), cutW_same r (i := 1) (j := 2) (by omega), cutW_same r (i := 3) (j := 2) (by omega)]
 | 3, _ => simp only [wds, List.set_cons_zero, List.set_cons_succ]; rw [cutW_same r (i := 0) (j := 3) (by omega), cutW_same r (i := 1) (j := 3) (by omega), cutW_same r (i := 2) (j := 3) (by omega)]
theorem word_not (p : Nat → Bool) (i : Nat) : (18446744073709551615 : Nat) ^^^ word p i = word (fun b => !p b) i := by
 rw [show (18446744073709551615 : Nat) = 2 ^ 64 - 1 from rfl]
 apply Nat.eq_of_testBit_eq
 intro j
 rw [Nat.testBit_xor, Nat.testBit_two_pow_sub_one]
 simp only [word, wd_bit]
 cases decide (j < 64) <;> simp
set_option maxHeartbeats 2000000 in
set_option maxRecDepth 100000 in
theorem bsAnd_any (p q : Nat → Bool) (w : World) :
  Calls Tryd.prog 39 #[.agg (wds p).toArray, .agg (wds q).toArray] w fun e w' => e = .returned (.agg (wds fun b => Bool.and (p b) (q b)).toArray) ∧ Below w.heap.size w w' := by
 obtain ⟨r, hr⟩ : ∃ r : Nat → Bool, r = fun b => Bool.and (p b) (q b) := ⟨_, rfl⟩
 have HOP := qH (show ∀ i, HAnd.hAnd (word p i) (word q i) = word r i from fun i => by rw [hr]; exact word_and p q i)
 rw [← hr]
 clear hr
 obtain ⟨i0, hi0, hz0⟩ := info_set
 obtain ⟨z, hz⟩ : ∃ z : Nat → Bool, z = fun _ => false := ⟨_, rfl⟩
 rw [← hz] at hz0
 have HZ := qH hz
 clear hz
 go_enter Tryd.func39, Tryd.ntmps39
 go_wp2_with (first
  | ((with_reducible refine atDst 2 ?_); refine wpList_box rfl 47 _ rfl (wds p) rfl (Below.refl w.heap.size w) (Nat.le_refl _) ?_; intro w1 hk1 hb1 hs1 _; have K1 := qH hk1; have B1 := qH hb1; clear hk1 hb1 hs1)
  | ((with_reducible refine atDst 3 ?_); refine wpList_box rfl 47 _ rfl (wds q) rfl B1.out B1.out.size ?_; intro w2 hk2 hb2 hs2 ho2; have L2 := qH hk2; have B2 := qH hb2; have K2 := qH (show Blk w2 w.heap.size 47 (wds p) from (ho2 _ K1.out.lt).trans K1.out); clear hk2 hb2 hs2 ho2)
  | ((with_reducible refine atDst 4 ?_); refine wpList_new rfl 47 rfl i0 _ (wds z) hi0 hz0 rfl B2.out B2.out.size ?_; intro w3 hk3 hb3 hs3 ho3; have M3 := qH hk3; have B3 := qH hb3; have K3 := qH (show Blk w3 w.heap.size 47 (wds p) from (ho3 _ K2.out.lt).trans K2.out); have L3 := qH (show Blk w3 w1.heap.size 47 (wds q) from (ho3 _ L2.out.lt).trans L2.out); clear hk3 hb3 hs3 ho3))
 go_loopw [6] (fun i wl => ∃ j : Nat, j ≤ 4 ∧ i = .int .i64 (j : Int) ∧ Blk wl w2.heap.size 47 (wds (cutW r j)) ∧ Below w2.heap.size w3 wl) (fun i _ => 4 - (intOf i).toNat)
 case atStart => exact ⟨0, by omega, by simp, by rw [cutW_zero, ← HZ.out]; exact M3.out, Below.refl _ _⟩
 case round =>
  obtain ⟨j, hj, rfl, hk, hb⟩ := hrel
  have KR := qH hk
  have BR := qH hb
  clear hk hb
  by_cases hjl : j < 4
  ·have j1 : (j : Int) < 4 := by omega
   have hcp := (K3.out.below BR.out K2.out.lt).cell j
   rw [wds_get p j hjl] at hcp
   have hcq := (L3.out.below BR.out L2.out.lt).cell j
   rw [wds_get q j hjl] at hcq
   have hfz := KR.out.frozen j
   have hcr := KR.out.cell j
   rw [wds_get _ j hjl] at hcr
   obtain ⟨x, hx⟩ : ∃ x, x = word p j := ⟨_, rfl⟩
   obtain ⟨y, hy⟩ : ∃ y, y = word q j := ⟨_, rfl⟩
   obtain ⟨z2, hz2⟩ : ∃ y, y = word (cutW r j) j := ⟨_, rfl⟩
   rw [← hx] at hcp
   rw [← hy] at hcq
   rw [← hz2] at hcr
   have hlx : x < 18446744073709551616 := by rw [hx]; exact word_lt _ _
   have hly : y < 18446744073709551616 := by rw [hy]; exact word_lt _ _
   have HXY := qH (show HAnd.hAnd x y = word r j by rw [hx, hy]; exact HOP.out j)
   clear hx hy hz2
   go_wp2_with fail
   go_still_tail 9, (by kernel_rfl)
   change wpList _ _ _ _ _ wr.drew
   go_wp2_with fail
   refine ⟨⟨j + 1, by omega, by congr 1, ?_, (BR.out.setCell (p := ⟨w2.heap.size, j, none⟩) (Nat.le_refl _) _).drew⟩, by simp [intOf] <;> omega⟩
   have hk := KR.out.set j (.int .u64 ((HAnd.hAnd x y : Nat) : Int))
   rw [HXY.out, cutW_next r j hjl] at hk
   rw [u64_and_nat x y hlx hly, HXY.out]
   exact hk.drew
  ·obtain rfl : j = 4 := by omega
   have k9 := KR.out
   rw [cutW_four] at k9
   have K9 := qH k9
   have B9 := qH (B3.out.trans (BR.out.mono B2.out.size))
   clear k9 KR
   go_wp2_with (first
    | ((with_reducible refine atDst 19 ?_); refine wpList_ldArr rfl 47 _ rfl w2.heap.size rfl 47 _ _ K9.out Tryd.underlying47 rfl (size_set r) ?_)
    | ((with_reducible refine atStore 47 4 19 ?_); refine wpList_stBlk rfl 47 _ _ rfl w2.heap.size (wds r) rfl rfl 47 _ K9.out (size_set r) rfl (wds_all _) B9.out B2.out.size ?_; intro w4 hk4 hb4 hs4 _; have K4 := qH hk4; have B4 := qH hb4; clear hk4 hb4))
   refine bodyPost_ret (results_blk rfl _ _ w2.heap.size 47 _ _ rfl K4.out Tryd.underlying47 rfl (size_set r)) rfl ?_
   exact ⟨rfl, B4.out⟩
set_option maxHeartbeats 2000000 in
set_option maxRecDepth 100000 in
theorem bsNot_any (p : Nat → Bool) (w : World) :
  Calls Tryd.prog 63 #[.agg (wds p).toArray] w fun e w' => e = .returned (.agg (wds fun b => !p b).toArray) ∧ Below w.heap.size w w' := by
 obtain ⟨r, hr⟩ : ∃ r : Nat → Bool, r = fun b => !p b := ⟨_, rfl⟩
 have HOP := qH (show ∀ i, (18446744073709551615 : Nat) ^^^ word p i = word r i from fun i => by rw [hr]; exact word_not p i)
 rw [← hr]
 clear hr
 obtain ⟨i0, hi0, hz0⟩ := info_set
 obtain ⟨z, hz⟩ : ∃ z : Nat → Bool, z = fun _ => false := ⟨_, rfl⟩
 rw [← hz] at hz0
 have HZ := qH hz
 clear hz
 go_enter Tryd.func63, Tryd.ntmps63
 go_wp2_with (first
  | ((with_reducible refine atDst 1 ?_); refine wpList_box rfl 47 _ rfl (wds p) rfl (Below.refl w.heap.size w) (Nat.le_refl _) ?_; intro w1 hk1 hb1 hs1 _; have K1 := qH hk1; have B1 := qH hb1; clear hk1 hb1 hs1)
  | ((with_reducible refine atDst 2 ?_); refine wpList_new rfl 47 rfl i0 _ (wds z) hi0 hz0 rfl B1.out B1.out.size ?_; intro w2 hk2 hb2 hs2 ho2; have M2 := qH hk2; have B2 := qH hb2; have K2 := qH (show Blk w2 w.heap.size 47 (wds p) from (ho2 _ K1.out.lt).trans K1.out); clear hk2 hb2 hs2 ho2))
 go_loopw [4] (fun i wl => ∃ j : Nat, j ≤ 4 ∧ i = .int .i64 (j : Int) ∧ Blk wl w1.heap.size 47 (wds (cutW r j)) ∧ Below w1.heap.size w2 wl) (fun i _ => 4 - (intOf i).toNat)
 case atStart => exact ⟨0, by omega, by simp, by rw [cutW_zero, ← HZ.out]; exact M2.out, Below.refl _ _⟩
 case round =>
  obtain ⟨j, hj, rfl, hk, hb⟩ := hrel
  have KR := qH hk
  have BR := qH hb
  clear hk hb
  by_cases hjl : j < 4
  ·have j1 : (j : Int) < 4 := by omega
   have hcp := (K2.out.below BR.out K1.out.lt).cell j
   rw [wds_get p j hjl] at hcp
   have hfz := KR.out.frozen j
   have hcr := KR.out.cell j
   rw [wds_get _ j hjl] at hcr
   obtain ⟨x, hx⟩ : ∃ x, x = word p j := ⟨_, rfl⟩
   obtain ⟨z2, hz2⟩ : ∃ y, y = word (cutW r j) j := ⟨_, rfl⟩
   rw [← hx] at hcp
   rw [← hz2] at hcr
   have hlx : x < 18446744073709551616 := by rw [hx]; exact word_lt _ _
   have HXY := qH (show (18446744073709551615 : Nat) ^^^ x = word r j by rw [hx]; exact HOP.out j)
   clear hx hz2
   go_wp2_with fail
   refine ⟨⟨j + 1, by omega, by congr 1, ?_, (BR.out.setCell (p := ⟨w1.heap.size, j, none⟩) (Nat.le_refl _) _)⟩, by simp [intOf] <;> omega⟩
   have hk := KR.out.set j (.int .u64 ((18446744073709551615 ^^^ x : Nat) : Int))
   rw [HXY.out, cutW_next r j hjl] at hk
   have e0 : (if IntKind.u64.signed = true then (-1 : Int) else IntKind.u64.max) = ((18446744073709551615 : Nat) : Int) := by decide
   rw [e0, u64_xor_nat 18446744073709551615 x (by omega) hlx, HXY.out]
   exact hk
  ·obtain rfl : j = 4 := by omega
   have k9 := KR.out
   rw [cutW_four] at k9
   have K9 := qH k9
   have B9 := qH (B2.out.trans (BR.out.mono B1.out.size))
   clear k9 KR
   go_wp2_with (first
    | ((with_reducible refine atDst 14 ?_); refine wpList_ldArr rfl 47 _ rfl w1.heap.size rfl 47 _ _ K9.out Tryd.underlying47 rfl (size_set r) ?_)
    | ((with_reducible refine atStore 47 2 14 ?_); refine wpList_stBlk rfl 47 _ _ rfl w1.heap.size (wds r) rfl rfl 47 _ K9.out (size_set r) rfl (wds_all _) B9.out B1.out.size ?_; intro w4 hk4 hb4 hs4 _; have K4 := qH hk4; have B4 := qH hb4; clear hk4 hb4))
   refine bodyPost_ret (results_blk rfl _ _ w1.heap.size 47 _ _ rfl K4.out Tryd.underlying47 rfl (size_set r)) rfl ?_
   exact ⟨rfl, B4.out⟩
/-! ### alike -/
def alikeS (ps : List (Nat → Bool)) (a b : Nat) : Bool := ps.all fun p => p a == p b
def firstJ (ps : List (Nat → Bool)) : Nat → List Nat
 | 0 => []
 | j + 1 => if (firstJ ps j).any (fun f => alikeS ps j f) then firstJ ps j else firstJ ps j ++ [j]
def clsOf (ps : List (Nat → Bool)) (j : Nat) : Nat := (firstJ ps j).findIdx fun f => alikeS ps j f
theorem firstJ_len (ps : List (Nat → Bool)) : ∀ j, (firstJ ps j).length ≤ j
 | 0 => Nat.le_refl _
 | j + 1 => by
  have := firstJ_len ps j
  simp only [firstJ]
  split
  ·omega
  ·rw [List.length_append]; simp; omega
theorem firstJ_lt (ps : List (Nat → Bool)) : ∀ (j f : Nat), f ∈ firstJ ps j → f < j
 | 0, _, h => by simp [firstJ] at h
 | j + 1, f, h => by
  simp only [firstJ] at h
  split at h
  ·exact Nat.lt_succ_of_lt (firstJ_lt ps j f h)
  ·rcases List.mem_append.1 h with h | h
   ·exact Nat.lt_succ_of_lt (firstJ_lt ps j f h)
   ·have : f = j := by simpa using h
    omega
theorem clsOf_le (ps : List (Nat → Bool)) (j : Nat) : clsOf ps j ≤ (firstJ ps j).length := List.findIdx_le_length
theorem firstJ_hit {ps : List (Nat → Bool)} {j : Nat} (h : clsOf ps j < (firstJ ps j).length) : firstJ ps (j + 1) = firstJ ps j := by
 have : (firstJ ps j).any (fun f => alikeS ps j f) = true := by
  rw [List.any_eq_true]
  exact ⟨(firstJ ps j)[clsOf ps j], List.getElem_mem h, List.findIdx_getElem (w := h)⟩
 simp only [firstJ]
 rw [if_pos this]
theorem firstJ_new {ps : List (Nat → Bool)} {j : Nat} (h : clsOf ps j = (firstJ ps j).length) : firstJ ps (j + 1) = firstJ ps j ++ [j] := by
 have : ¬ (firstJ ps j).any (fun f => alikeS ps j f) = true := by
  rw [List.any_eq_true]
  rintro ⟨f, hf, ha⟩
  have := List.findIdx_lt_length_of_exists (p := fun f => alikeS ps j f) ⟨f, hf, ha⟩
  unfold clsOf at h
  omega
 simp only [firstJ]
 rw [if_neg this]
def ctab (ps : List (Nat → Bool)) (j : Nat) : List UInt8 := (List.range 256).map fun b => if b < j then UInt8.ofNat (clsOf ps b) else 0
theorem ctab_length (ps : List (Nat → Bool)) (j : Nat) : (ctab ps j).length = 256 := by simp [ctab]
theorem ctab_zero : ∃ i : TypeInfo, Tryd.prog.info? 28 = some i ∧ i.zero = some (.agg (bvs (ctab [] 0)).toArray) := by
 have h : ((Tryd.prog.info? 28).map (·.zero)) = some (some (.agg (bvs (ctab [] 0)).toArray)) := by kernel_rfl
 cases hi : Tryd.prog.info? 28 with
 | none => rw [hi] at h; cases h
 | some i =>
  rw [hi] at h
  exact ⟨i, rfl, by simpa using h⟩
theorem size_ctab {l : List UInt8} (h : l.length = 256) : (Tryd.prog.info? 28).map (·.size) = some (bvs l).length := by
 rw [bvs_length, h]
 kernel_rfl
theorem bvs_all' (l : List UInt8) : (bvs l).all (·.oneCell') = true := by
 rw [List.all_eq_true]
 exact bvs_one l
theorem firstJ_mono (ps : List (Nat → Bool)) (j : Nat) : ∀ d, (firstJ ps j).length ≤ (firstJ ps (j + d)).length
 | 0 => Nat.le_refl _
 | d + 1 => by
  refine Nat.le_trans (firstJ_mono ps j d) ?_
  rw [show j + (d + 1) = (j + d) + 1 from rfl]
  simp only [firstJ]
  split
  ·exact Nat.le_refl _
  ·rw [List.length_append]; omega
theorem clsOf_lt (ps : List (Nat → Bool)) {j : Nat} (hj : j < 256) : clsOf ps j < (firstJ ps 256).length := by
 have h1 := firstJ_mono ps (j + 1) (256 - (j + 1))
 rw [show j + 1 + (256 - (j + 1)) = 256 from by omega] at h1
 have h2 := clsOf_le ps j
 rcases Nat.lt_or_ge (clsOf ps j) (firstJ ps j).length with h | h
 ·rw [firstJ_hit h] at h1
  omega
 ·rw [firstJ_new (by omega), List.length_append] at h1
  simp at h1
  omega
def outs (ps : List (Nat → Bool)) (n j : Nat) : List (Nat → Bool) := (List.range n).map fun k b => decide (b < j) && decide (clsOf ps b = k)
theorem outs_length (ps : List (Nat → Bool)) (n j : Nat) : (outs ps n j).length = n := by simp [outs]
theorem outs_at (ps : List (Nat → Bool)) (n j i : Nat) (h : i < (outs ps n j).length) : (outs ps n j)[i] = fun b => decide (b < j) && decide (clsOf ps b = i) := by
 simp only [outs, List.getElem_map, List.getElem_range]
theorem outs_get {ps : List (Nat → Bool)} {n j k : Nat} (hk : k < n) : (outs ps n j)[k]? = some fun b => decide (b < j) && decide (clsOf ps b = k) := by simp [outs, hk]
theorem inf_set : (Tryd.prog.info? 47).map (fun i => (i.zero, i.size, i.bytes)) = some (some (.agg (wds fun _ => false).toArray), 4, 32) := by kernel_rfl
def parts (ps : List (Nat → Bool)) : List (Nat → Bool) := outs ps (firstJ ps 256).length 256
theorem guard_set : Tryd.prog.eqGuardType Tryd.prog.depth 47 = false := by kernel_rfl
theorem size_u64 : ∀ w, (sizeOf 45).run Tryd.prog w = .ok 1 w := by
 intro w
 have h : (Tryd.prog.info? 45).map (·.size) = some 1 := by kernel_rfl
 cases hi : Tryd.prog.info? 45 with
 | none => rw [hi] at h; cases h
 | some i =>
  rw [hi] at h
  have h' : i.size = 1 := by simpa using h
  simp [sizeOf, typeInfo, hi, h']
section
variable {P : Program} {w : World} {ops : Array Oper} {rest : List Oper} {o : Oper} {a : Act} {Q : Exit → Act → World → Prop} {K : Act → World → Prop}
theorem run_bldSet1 (t e : TypeId) (i : TypeInfo) (ht : P.underlying t = some (.slice e)) (hi : P.info? e = some i) (hz : i.zero = some (.agg (wds fun _ => false).toArray)) (hs : i.size = 4) (q : Nat → Bool) :
  (Instr.buildSlice t 1 #[(0, .agg (wds q).toArray)]).run P w = .ok (.slice (some ⟨w.heap.size, 0, none⟩) 1 1) (w.alloc (.cells (sets [q]).toArray e)) := by
 have hzv : (zeroValue e).run P w = .ok (.agg (wds fun _ => false).toArray) w := by simp [zeroValue, typeInfo, hi, hz]
 simp [Instr.buildSlice, run_underlying ht, sizeOf, typeInfo, hi, hs, hzv, Value.cells, Instr.fill, wds, Array.range_succ, Array.range_zero', newRow, sets]
theorem wp_bldSet1 (t e : TypeId) (x : Operand) (ho : o.op = .buildSlice t 1 #[(0, x)]) (i : TypeInfo) (ht : P.underlying t = some (.slice e)) (hi : P.info? e = some i) (hz : i.zero = some (.agg (wds fun _ => false).toArray)) (hs : i.size = 4) (q : Nat → Bool)
  (hx : a.eval x = .agg (wds q).toArray) (h : K (a.put o.dst (.slice (some ⟨w.heap.size, 0, none⟩) 1 1)) (w.alloc (.cells (sets [q]).toArray e))) : o.wp P a w K Q := by
 have hrun := run_bldSet1 (P := P) (w := w) t e i ht hi hz hs q
 unfold Oper.wp
 simp only [execOp, ho, List.map_toArray, List.map_cons, List.map_nil, hx, hrun, Sem.run_bind, Result.andThen_ok, Sem.run_pure]
 exact h
theorem wpList_bldSet1 (hg : o.guard = none) (t e : TypeId) (x : Operand) (ho : o.op = .buildSlice t 1 #[(0, x)]) (i : TypeInfo) (ht : P.underlying t = some (.slice e)) (hi : P.info? e = some i) (hz : i.zero = some (.agg (wds fun _ => false).toArray)) (hs : i.size = 4) (q : Nat → Bool)
  (hx : a.eval x = .agg (wds q).toArray)
  (h : ∀ w', Blk w' w.heap.size e (sets [q]) → Below w.heap.size w w' → wpList P ops Q rest (a.put o.dst (.slice (some ⟨w.heap.size, 0, none⟩) 1 1)) w') : wpList P ops Q (o :: rest) a w :=
 wpList_plain hg fun _ hK => wp_bldSet1 t e x ho i ht hi hz hs q hx (hK _ _ (h _ (Blk.new w e _) ((Below.refl _ _).alloc (Nat.le_refl _) _)))
end
/-! ### begun -/
def pieces (p s : Nat → Bool) : List (Nat → Bool) := [fun b => p b && s b, fun b => p b && !s b]
def nonE (q : Nat → Bool) : Bool := !eqS q fun _ => false
def splitS (ps : List (Nat → Bool)) (s : Nat → Bool) : List (Nat → Bool) := ps.flatMap fun p => (pieces p s).filter nonE
theorem splitS_next (ps : List (Nat → Bool)) (s : Nat → Bool) (j : Nat) (h : j < ps.length) : splitS (ps.take (j + 1)) s = splitS (ps.take j) s ++ (pieces ps[j] s).filter nonE := by
 unfold splitS
 rw [List.take_succ_eq_append_getElem h, List.flatMap_append, List.flatMap_cons, List.flatMap_nil, List.append_nil]
theorem splitS_len (s : Nat → Bool) : ∀ ps : List (Nat → Bool), (splitS ps s).length ≤ 2 * ps.length
 | [] => Nat.le_refl _
 | p :: r => by
  have h1 : ((pieces p s).filter nonE).length ≤ 2 := List.length_filter_le _ _
  have h2 := splitS_len s r
  have e : splitS (p :: r) s = (pieces p s).filter nonE ++ splitS r s := by simp [splitS]
  rw [e, List.length_append, List.length_cons]
  omega
theorem pieces_next (p s : Nat → Bool) (k : Nat) (q : Nat → Bool) (hk : (pieces p s)[k]? = some q) : ((pieces p s).take (k + 1)).filter nonE = ((pieces p s).take k).filter nonE ++ if nonE q then [q] else [] := by
 obtain ⟨h, e⟩ := List.getElem?_eq_some_iff.1 hk
 rw [List.take_succ_eq_append_getElem h, List.filter_append, e]
 cases hq : nonE q <;> simp [hq]
/-! ### rows of sets of the call's own -/
theorem own4Below {w w' : World} {base B n k : Nat} {e : TypeId} {v : Value} {xs : List Value} (h : w.ownsRow base e k v n xs) (hb : Below B w w') (hB : w.heap.size ≤ B) : w'.ownsRow base e k v n xs := by
 refine ⟨h.1, ?_⟩
 rcases h.2 with h0 | ⟨g, cap, cur, rfl, hb2, hg, h3⟩
 ·exact .inl h0
 ·exact .inr ⟨g, cap, cur, rfl, hb2, (hb.block g (Nat.lt_of_lt_of_le (Array.getElem?_eq_some_iff.1 hg).1 hB)).trans hg, h3⟩
theorem own4_above {w : World} {base n k : Nat} {e : TypeId} {v : Value} {xs : List Value} (h : w.ownsRow base e k v n xs) : ∀ j, v.ownBlock = some j → base ≤ j := by
 intro j hj
 rcases h.2 with ⟨rfl, h0⟩ | ⟨g, cap, cur, rfl, hb, hg, _⟩
 ·cases hj
 ·have hk' : some g = some j := hj
  injection hk' with hk'
  omega
theorem own4_lt {w : World} {base n k : Nat} {e : TypeId} {v : Value} {xs : List Value} (h : w.ownsRow base e k v n xs) : ∀ j, v.ownBlock = some j → j < w.heap.size := by
 intro j hj
 rcases h.2 with ⟨rfl, h0⟩ | ⟨g, cap, cur, rfl, hb, hg, _⟩
 ·cases hj
 ·have hk' : some g = some j := hj
  injection hk' with hk'
  subst hk'
  exact (Array.getElem?_eq_some_iff.1 hg).1
theorem own4N (w : World) (B : Nat) (e : TypeId) : w.ownsRow B e 4 (.slice none 0 0) 0 [] := ⟨by simp, .inl ⟨rfl, rfl⟩⟩
theorem own4_row {w : World} {base : Nat} {e : TypeId} {v : Value} {ps : List (Nat → Bool)} (h : w.ownsRow base e 4 v ps.length (sets ps)) : RowS w v ps := by
 rcases h.2 with ⟨rfl, h0⟩ | ⟨g, cap, cur, rfl, hb, hg, hn, hm, hs, ht⟩
 ·obtain rfl : ps = [] := List.eq_nil_of_length_eq_zero h0
  exact RowS.nil w
 ·refine ⟨_, cap, rfl, hn, hm, (fun h => by cases h), fun _ => ⟨g, 0, rfl, (Array.getElem?_eq_some_iff.1 hg).1, fun i p hp j u hu => ?_⟩⟩
  have hi := (List.getElem?_eq_some_iff.1 hp).1
  have hj : j < 4 := by simpa [wds_length] using (List.getElem?_eq_some_iff.1 hu).1
  have e1 := sets_get hp j hj
  rw [hu, ← ht, List.getElem?_take, if_pos (by omega), Array.getElem?_toList] at e1
  rw [cell_of_row w g _ cur e (0, 0) hg, Nat.zero_add, e1]
section
variable {P : Program} {w : World} {ops : Array Oper} {rest : List Oper} {o : Oper} {a : Act} {Q : Exit → Act → World → Prop}
theorem wpList_appS {base : Nat} (hgd : o.guard = none) (s x : Operand) (t : TypeId)
  (ho : o.op = .call { callee := .builtin .append, args := #[s, x], argTypes := #[t, t] })
  (e : TypeId) (i : TypeInfo) (ht : P.underlying t = some (.slice e)) (hi : P.info? e = some i) (hz : i.zero = some (.agg (wds fun _ => false).toArray))
  (hsize : i.size = 4) (hby : i.bytes = 32)
  (v : Value) (ps : List (Nat → Bool)) (hs : a.eval s = v) (hown : w.ownsRow base e 4 v ps.length (sets ps))
  (g c : Nat) (tg : TypeId) (qs : List (Nat → Bool)) (hx : a.eval x = .slice (some ⟨g, 0, none⟩) qs.length c) (hr : Blk w g tg (sets qs))
  (hlen : ps.length + qs.length ≤ 1048576) (hb : base ≤ w.heap.size)
  (h : ∀ v' w', w'.ownsRow base e 4 v' (ps ++ qs).length (sets (ps ++ qs)) → w.grownBy w' v.ownBlock → wpList P ops Q rest (a.put o.dst v') w') : wpList P ops Q (o :: rest) a w := by
 refine wpList_plain hgd fun K hK => ?_
 refine wp_append_own w s x t ho base e i _ 4 32 ht hi hz hsize hby (by simp [Value.cells, wds]) (by omega) v ps.length (sets ps) hs hown ⟨g, 0, none⟩ qs.length c (sets qs) hx (sets_length qs) (fun j u hj => ?_) (sets_one qs) (by unfold maxLen; omega) (by omega) hb
  (fun v' w' h2 h3 _ => hK _ _ (h v' w' ?_ h3))
 ·rw [Addr.add_lit, Nat.zero_add, hr.cell j]; exact hj
 ·rw [List.length_append, sets_append]; exact h2
theorem wpList_ldMid (hgd : o.guard = none) (ty : TypeId) (x : Operand) (ho : o.op = .load ty x) (b off : Nat) (hx : a.eval x = .pointer (some ⟨b, off, none⟩)) (cs : List Value) (d : TypeDesc)
  (hg : w.rangeAt b off cs) (hu : P.underlying ty = some d) (hd : d.isRow = true) (hi : (P.info? ty).map (·.size) = some cs.length)
  (h : wpList P ops Q rest (a.put o.dst (.agg cs.toArray)) w) : wpList P ops Q (o :: rest) a w :=
 wpList_plain hgd fun _ hK => wp_load_mid ty x ho b off hx cs d hg hu hd hi (hK _ _ h)
theorem wpList_neSet_is (hgd : Region.wanted o (yielded ops a.tmps) = true) {b : Bool} {p q : Nat → Bool} (hb : (!eqS p q) = b) (t e : TypeId) (x y : Operand) (oT : TypeId) (ho : o.op = .binOp .neq t x y oT) (hm : P.eqGuardType P.depth t = false)
  (ht : P.underlying t = some (.array 4 e)) (he : P.underlying e = some (.int .u64)) (hsz : ∀ w, (sizeOf e).run P w = .ok 1 w)
  (ex : a.eval x = .agg (wds p).toArray) (ey : a.eval y = .agg (wds q).toArray)
  (h : wpList P ops Q rest (a.put o.dst (.bool b)) w) : wpList P ops Q (o :: rest) a w := by
 refine BigFrame.wpList_want hgd fun K hK => ?_
 unfold Oper.wp
 simp only [execOp, ho, ex, ey, Sem.run_bind, run_eqGuard_agg w .neq t x y _ _ hm, Result.andThen_ok, run_neq_sets w t e ht he hsz p q, Sem.run_pure, hb]
 exact hK _ _ h
end
theorem runTwo (p q : Nat → Bool) (w : World) : (Instr.build 123 #[(0, .agg (wds p).toArray), (1, .agg (wds q).toArray)]).run Tryd.prog w = .ok (.agg (wds p ++ wds q).toArray) w := by kernel_rfl
theorem idxP0 (p q : Nat → Bool) (w : World) : (Instr.index 123 (.agg (wds p ++ wds q).toArray) (.int .i64 0)).run Tryd.prog w = .ok (.agg (wds p).toArray) w := by kernel_rfl
theorem idxP1 (p q : Nat → Bool) (w : World) : (Instr.index 123 (.agg (wds p ++ wds q).toArray) (.int .i64 1)).run Tryd.prog w = .ok (.agg (wds q).toArray) w := by kernel_rfl
theorem zeroB : Tryd.prog.built 47 [] = some (wds fun _ => false).toArray := by kernel_rfl
end Go.Proofs.YteadghoojeehlaaDoor
