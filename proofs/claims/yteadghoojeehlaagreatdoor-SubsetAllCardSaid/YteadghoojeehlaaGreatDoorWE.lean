/-
  Texts of this proof, put together: SpB, ThC, ThD, ThE. No statement is proved here.
-/
import Derived.Test.YteadghoojeehlaaGreatDoorWC
import Derived.Test.YteadghoojeehlaaGreatDoorWD
import Derived.Test.YteadghoojeehlaaGreatDoorWA
namespace Go.Proofs.YteadghoojeehlaaGreatDoor
open Go.RowKit
set_option linter.unusedSimpArgs false
set_option linter.unusedVariables false
def bcs (n : Nat) (f : Nat → Bool) : List Value := (List.range n).map fun q => .bool (f q)
theorem bcs_len (n : Nat) (f : Nat → Bool) : (bcs n f).length = n := by simp [bcs]
theorem bcs_get {n q : Nat} (f : Nat → Bool) (h : q < n) : (bcs n f)[q]? = some (.bool (f q)) := by simp [bcs, h]
theorem bcs_congr {n : Nat} {f g : Nat → Bool} (h : ∀ q, q < n → f q = g q) : bcs n f = bcs n g := by
 unfold bcs
 exact List.map_congr_left fun q hq => by rw [h q (List.mem_range.1 hq)]
theorem bcs_no (n : Nat) : List.replicate n (Value.bool false) = bcs n fun _ => false := by
 apply List.ext_getElem?
 intro q
 by_cases h : q < n
 ·rw [bcs_get _ h]; simp [h]
 ·rw [List.getElem?_eq_none (by simp; omega), List.getElem?_eq_none (by rw [bcs_len]; omega)]
def updB (f : Nat → Bool) (q : Nat) (b : Bool) : Nat → Bool := fun i => if i = q then b else f i
theorem bcs_set (n q : Nat) (f : Nat → Bool) (b : Bool) : (bcs n f).set q (.bool b) = bcs n (updB f q b) := by
 apply List.ext_getElem?
 intro i
 by_cases h : i < n
 ·rw [bcs_get _ h]
  unfold updB
  by_cases hi : i = q
  ·subst hi
   rw [List.getElem?_set_self (by rw [bcs_len]; exact h), if_pos rfl]
  ·rw [List.getElem?_set_ne (by omega), bcs_get _ h, if_neg hi]
 ·rw [List.getElem?_eq_none (by rw [List.length_set, bcs_len]; omega), List.getElem?_eq_none (by rw [bcs_len]; omega)]
def tops (n m : Nat) (bs : Nat → Nat) : List Value := (List.range n).map fun p => if p < m then .slice (some ⟨bs p, 0, none⟩) n n else .slice none 0 0
theorem tops_len (n m : Nat) (bs : Nat → Nat) : (tops n m bs).length = n := by simp [tops]
theorem tops_get {n m p : Nat} (bs : Nat → Nat) (h : p < n) : (tops n m bs)[p]? = some (if p < m then .slice (some ⟨bs p, 0, none⟩) n n else .slice none 0 0) := by simp [tops, h]
theorem tops_no (n : Nat) (bs : Nat → Nat) : List.replicate n (Value.slice none 0 0) = tops n 0 bs := by
 apply List.ext_getElem?
 intro q
 by_cases h : q < n
 ·rw [tops_get _ h]; simp [h]
 ·rw [List.getElem?_eq_none (by simp; omega), List.getElem?_eq_none (by rw [tops_len]; omega)]
def updN (bs : Nat → Nat) (m b : Nat) : Nat → Nat := fun i => if i = m then b else bs i
theorem tops_set (n m : Nat) (bs : Nat → Nat) (b : Nat) : (tops n m bs).set m (.slice (some ⟨b, 0, none⟩) n n) = tops n (m + 1) (updN bs m b) := by
 apply List.ext_getElem?
 intro i
 by_cases h : i < n
 ·rw [tops_get _ h]
  unfold updN
  by_cases hi : i = m
  ·subst hi
   rw [List.getElem?_set_self (by rw [tops_len]; exact h), if_pos (by omega), if_pos rfl]
  ·rw [List.getElem?_set_ne (by omega), tops_get _ h, if_neg hi]
   by_cases h2 : i < m
   ·rw [if_pos h2, if_pos (by omega)]
   ·rw [if_neg h2, if_neg (by omega)]
 ·rw [List.getElem?_eq_none (by rw [List.length_set, tops_len]; omega), List.getElem?_eq_none (by rw [tops_len]; omega)]
structure Tbl (w : World) (B g : Nat) (bs : Nat → Nat) (n m : Nat) (f : Nat → Nat → Bool) : Prop where
 top : Blk w g 29 (tops n m bs)
 row : ∀ p, p < m → Blk w (bs p) 4 (bcs n (f p))
 base : B ≤ g
 bbase : ∀ p, p < m → B ≤ bs p
 ne : ∀ p, p < m → bs p ≠ g
 inj : ∀ p q, p < m → q < m → bs p = bs q → p = q
def upd2 (f : Nat → Nat → Bool) (p q : Nat) (b : Bool) : Nat → Nat → Bool := fun i j => if i = p then updB (f p) q b j else f i j
section
variable {w w' : World} {B g n m p q : Nat} {bs : Nat → Nat} {f f' : Nat → Nat → Bool}
theorem Tbl.stay (h : Tbl w B g bs n m f) (hg : w'.heap[g]? = w.heap[g]?) (hb : ∀ p, p < m → w'.heap[bs p]? = w.heap[bs p]?) : Tbl w' B g bs n m f :=
 ⟨hg.trans h.top, fun p hp => (hb p hp).trans (h.row p hp), h.base, h.bbase, h.ne, h.inj⟩
theorem Tbl.below (h : Tbl w B g bs n m f) (hb : Below w.heap.size w w') : Tbl w' B g bs n m f :=
 h.stay (hb.block _ h.top.lt) fun p hp => hb.block _ (h.row p hp).lt
theorem Tbl.drew (h : Tbl w B g bs n m f) : Tbl w.drew B g bs n m f := ⟨h.top, h.row, h.base, h.bbase, h.ne, h.inj⟩
theorem Tbl.congr (h : Tbl w B g bs n m f) (he : ∀ p q, p < m → q < n → f p q = f' p q) : Tbl w B g bs n m f' :=
 ⟨h.top, fun p hp => by rw [← bcs_congr (fun q hq => he p q hp hq)]; exact h.row p hp, h.base, h.bbase, h.ne, h.inj⟩
theorem Tbl.mono {B' : Nat} (h : Tbl w B g bs n m f) (hB : B' ≤ B) : Tbl w B' g bs n m f :=
 ⟨h.top, h.row, Nat.le_trans hB h.base, fun p hp => Nat.le_trans hB (h.bbase p hp), h.ne, h.inj⟩
theorem Tbl.at_ (h : Tbl w B g bs n m f) (hp : p < n) (hm : p < m) : w.cell? ⟨g, p, none⟩ = some (.slice (some ⟨bs p, 0, none⟩) n n) := by
 rw [h.top.cell, tops_get _ hp, if_pos hm]
theorem Tbl.cell (h : Tbl w B g bs n m f) (hp : p < m) (hq : q < n) : w.cell? ⟨bs p, q, none⟩ = some (.bool (f p q)) := by
 rw [(h.row p hp).cell, bcs_get _ hq]
theorem Tbl.put (h : Tbl w B g bs n m f) (hp : p < m) (q : Nat) (b : Bool) : Tbl (w.setCell ⟨bs p, q, none⟩ (.bool b)) B g bs n m (upd2 f p q b) := by
 refine ⟨h.top.far (p := ⟨bs p, q, none⟩) (h.ne p hp).symm _, fun i hi => ?_, h.base, h.bbase, h.ne, h.inj⟩
 by_cases hip : i = p
 ·subst hip
  have := (h.row i hi).set q (.bool b)
  rw [bcs_set] at this
  have e : upd2 f i q b i = updB (f i) q b := by funext j; unfold upd2; rw [if_pos rfl]
  rw [e]
  exact this
 ·have e : upd2 f p q b i = f i := by funext j; unfold upd2; rw [if_neg hip]
  rw [e]
  exact (h.row i hi).far (p := ⟨bs p, q, none⟩) (fun he => hip (h.inj i p hi hp he)) _
theorem Tbl.new (h : Blk w g 29 (List.replicate n (.slice none 0 0))) (hB : B ≤ g) (bs : Nat → Nat) (f : Nat → Nat → Bool) : Tbl w B g bs n 0 f :=
 ⟨by rw [tops_no n bs] at h; exact h, fun p hp => absurd hp (Nat.not_lt_zero p), hB, fun p hp => absurd hp (Nat.not_lt_zero p), fun p hp => absurd hp (Nat.not_lt_zero p), fun p q hp => absurd hp (Nat.not_lt_zero p)⟩
theorem Tbl.more (h : Tbl w B g bs n m f) (hb : Below w.heap.size w w') (hk : Blk w' w.heap.size 4 (List.replicate n (.bool false))) (hf : ∀ q, f m q = false) :
  Tbl (w'.setCell ⟨g, m, none⟩ (.slice (some ⟨w.heap.size, 0, none⟩) n n)) B g (updN bs m w.heap.size) n (m + 1) f := by
 have hlt : ∀ p, p < m → bs p < w.heap.size := fun p hp => (h.row p hp).lt
 have hg : g < w.heap.size := h.top.lt
 have hu : ∀ p, p < m → updN bs m w.heap.size p = bs p := fun p hp => by unfold updN; rw [if_neg (by omega)]
 have hum : updN bs m w.heap.size m = w.heap.size := by unfold updN; rw [if_pos rfl]
 have hcase : ∀ p, p < m + 1 → p < m ∨ p = m := fun p hp => by omega
 have h1 := h.below hb
 refine ⟨?_, fun p hp => ?_, h.base, fun p hp => ?_, fun p hp => ?_, fun p q hp hq he => ?_⟩
 ·have := h1.top.set m (.slice (some ⟨w.heap.size, 0, none⟩) n n)
  rw [tops_set] at this
  exact this
 ·rcases hcase p hp with hp | rfl
  ·rw [hu p hp]
   exact (h1.row p hp).far (p := ⟨g, m, none⟩) (h.ne p hp) _
  ·rw [hum, bcs_congr (g := fun _ => false) fun q _ => hf q, ← bcs_no]
   exact hk.far (p := ⟨g, p, none⟩) (by show w.heap.size ≠ g; omega) _
 ·rcases hcase p hp with hp | rfl
  ·rw [hu p hp]; exact h.bbase p hp
  ·rw [hum]; exact Nat.le_trans h.base (Nat.le_of_lt hg)
 ·rcases hcase p hp with hp | rfl
  ·rw [hu p hp]; exact h.ne p hp
  ·rw [hum]; omega
 ·rcases hcase p hp with hp | rfl <;> rcases hcase q hq with hq | rfl
  ·rw [hu p hp, hu q hq] at he; exact h.inj p q hp hq he
  ·rw [hu p hp, hum] at he; have := hlt p hp; omega
  ·rw [hu q hq, hum] at he; have := hlt q hq; omega
  ·rfl
theorem Tbl.frozen (h : Tbl w B g bs n m f) (hp : p < m) (q : Nat) : w.frozen? ⟨bs p, q, none⟩ = false := (h.row p hp).frozen q
theorem Tbl.apart {B2 g2 n2 m2 : Nat} {bs2 : Nat → Nat} {f2 : Nat → Nat → Bool} (h : Tbl w B g bs n m f) (h2 : Tbl w B2 g2 bs2 n2 m2 f2) (hp : p < m) (hn : bs p < B2) (q : Nat) (b : Bool) : Tbl (w.setCell ⟨bs p, q, none⟩ (.bool b)) B2 g2 bs2 n2 m2 f2 :=
 ⟨h2.top.far (p := ⟨bs p, q, none⟩) (by have := h2.base; show g2 ≠ bs p; omega) _, fun i hi => (h2.row i hi).far (p := ⟨bs p, q, none⟩) (by have := h2.bbase i hi; show bs2 i ≠ bs p; omega) _, h2.base, h2.bbase, h2.ne, h2.inj⟩
end
/-! ### single cells in regions that draw -/
theorem inf_bool : (Tryz.prog.info? 4).map (fun i => (i.zero, i.size, i.bytes)) = some (some (.bool false), 1, 1) := by kernel_rfl
def sdJ (l : List Int) (j i : Nat) : Bool := (l.take j).any fun x => decide (x = (i : Int))
theorem sdJ_zero (l : List Int) : sdJ l 0 = fun _ => false := by funext i; simp [sdJ]
theorem sdJ_succ {l : List Int} {j : Nat} {x : Int} (h : l[j]? = some x) (i : Nat) : sdJ l (j + 1) i = (sdJ l j i || decide (x = (i : Int))) := by
 obtain ⟨hj, rfl⟩ := List.getElem?_eq_some_iff.1 h
 unfold sdJ
 rw [List.take_succ_eq_append_getElem hj, List.any_append]
 simp
theorem sdJ_in {l : List Int} {j : Nat} {x : Int} (h : l[j]? = some x) (h0 : 0 ≤ x) : updB (sdJ l j) x.toNat true = sdJ l (j + 1) := by
 funext i
 rw [sdJ_succ h]
 unfold updB
 by_cases hi : i = x.toNat
 ·rw [if_pos hi, decide_eq_true (by omega)]; simp
 ·rw [if_neg hi, decide_eq_false (by omega)]; simp
theorem sdJ_out {l : List Int} {j k i : Nat} {x : Int} (h : l[j]? = some x) (hx : ¬ (0 ≤ x ∧ x < (k : Int))) (hi : i < k) : sdJ l (j + 1) i = sdJ l j i := by
 rw [sdJ_succ h, decide_eq_false (by omega)]
 simp
theorem sdJ_all {l : List Int} {i : Nat} : sdJ l l.length i = true ↔ ofL l i := by
 unfold sdJ ofL
 rw [List.take_length, List.any_eq_true]
 constructor
 ·rintro ⟨x, hx, h⟩
  have : x = (i : Int) := by simpa using h
  rwa [← this]
 ·intro h; exact ⟨_, h, by simp⟩
structure Ps (S : List St) (P : Nat → Prop) (t0 : Nat → Bool) (ag : Bool) (i kk : Nat) (t : Nat → Bool) : Prop where
 seeds : ∀ q, q < S.length → P q → t q = true
 sound : ∀ q, q < S.length → t q = true → Rc S P q
 more : ∀ q, t0 q = true → t q = true
 still : ag = false → ∀ q, q < S.length → t q = t0 q
 new : ag = true → ∃ q, q < S.length ∧ t0 q = false ∧ t q = true
 done : ag = false → ∀ i' s, i' < i → S[i']? = some s → t i' = true → ∀ f ∈ s.free, t f.toNat = true
 part : ag = false → ∀ s, S[i]? = some s → t i = true → ∀ m f, m < kk → s.free[m]? = some f → t f.toNat = true
section
variable {S : List St} {P : Nat → Prop} {t0 t : Nat → Bool} {ag : Bool} {i kk : Nat}
theorem Ps.start (h1 : ∀ q, q < S.length → P q → t q = true) (h2 : ∀ q, q < S.length → t q = true → Rc S P q) : Ps S P t false 0 0 t :=
 ⟨h1, h2, fun _ h => h, fun _ _ _ => rfl, fun h => (by cases h), fun _ i' s h => absurd h (Nat.not_lt_zero i'), fun _ s _ _ m f h => absurd h (Nat.not_lt_zero m)⟩
theorem Ps.mark (h : Ps S P t0 ag i kk t) {s : St} (hs : S[i]? = some s) (ht : t i = true) {f : Int} (hf : s.free[kk]? = some f) (h0 : 0 ≤ f) (h1 : f < (S.length : Int)) : Ps S P t0 (ag || !t f.toNat) i (kk + 1) (updB t f.toNat true) := by
 have hi : i < S.length := (List.getElem?_eq_some_iff.1 hs).1
 have hfm : f ∈ s.free := List.mem_of_getElem? hf
 have hfn : f.toNat < S.length := by omega
 have hup : ∀ q, t q = true → updB t f.toNat true q = true := fun q hq => by unfold updB; split; rfl; exact hq
 by_cases hft : t f.toNat = true
 ·have e : updB t f.toNat true = t := by
   funext q
   unfold updB
   split
   ·next h => rw [h, hft]
   ·rfl
  rw [e, hft]
  simp only [Bool.not_true, Bool.or_false]
  refine ⟨h.seeds, h.sound, h.more, h.still, h.new, h.done, fun ha s' hs' ht' m f' hm hf' => ?_⟩
  rw [hs] at hs'
  injection hs' with hs'
  subst hs'
  rcases Nat.lt_or_ge m kk with hlt | hge
  ·exact h.part ha s hs ht' m f' hlt hf'
  ·obtain rfl : m = kk := by omega
   rw [hf] at hf'
   injection hf' with hf'
   rw [← hf']
   exact hft
 ·have hft' : t f.toNat = false := by simpa using hft
  rw [hft']
  simp only [Bool.not_false, Bool.or_true]
  refine ⟨fun q hq hp => hup q (h.seeds q hq hp), fun q hq hu => ?_, fun q hq => hup q (h.more q hq), fun h => (by cases h), fun _ => ⟨f.toNat, hfn, ?_, (by unfold updB; rw [if_pos rfl])⟩, fun h => (by cases h), fun h => (by cases h)⟩
  ·unfold updB at hu
   by_cases hqf : q = f.toNat
   ·rw [hqf]
    exact .go (h.sound i hi ht) hs (by rwa [Int.toNat_of_nonneg h0]) hfn
   ·rw [if_neg hqf] at hu
    exact h.sound q hq hu
  ·cases h0 : t0 f.toNat with
   | false => rfl
   | true => exact absurd (h.more _ h0) hft
theorem Ps.next (h : Ps S P t0 ag i kk t) {s : St} (hs : S[i]? = some s) (hk : kk = s.free.length ∨ t i = false) : Ps S P t0 ag (i + 1) 0 t := by
 refine ⟨h.seeds, h.sound, h.more, h.still, h.new, fun ha i' s' hi hs' ht' f hf => ?_, fun _ s _ _ m f h => absurd h (Nat.not_lt_zero m)⟩
 rcases Nat.lt_or_ge i' i with hlt | hge
 ·exact h.done ha i' s' hlt hs' ht' f hf
 ·obtain rfl : i' = i := by omega
  rw [hs] at hs'
  injection hs' with hs'
  subst hs'
  rcases hk with hk | hk
  ·obtain ⟨m, hm, hmf⟩ := List.getElem_of_mem hf
   exact h.part ha s hs ht' m f (by omega) (by rw [List.getElem?_eq_getElem hm, hmf])
  ·rw [ht'] at hk; cases hk
theorem Ps.end_ (h : Ps S P t0 false S.length kk t) {q : Nat} (hq : q < S.length) : t q = true ↔ Rc S P q :=
 rc_is h.seeds (fun i s hs ht j hj => by
  have := h.done rfl i s (List.getElem?_eq_some_iff.1 hs).1 hs ht _ hj
  simpa using this) h.sound q hq
def unm (n : Nat) (t : Nat → Bool) : Nat := ((List.range n).filter fun q => !t q).length
theorem unm_succ (n : Nat) (t : Nat → Bool) : unm (n + 1) t = unm n t + (if t n = true then 0 else 1) := by
 unfold unm
 rw [List.range_succ, List.filter_append, List.length_append]
 cases h : t n <;> simp [h]
theorem unm_more {u v : Nat → Bool} : ∀ {n : Nat}, (∀ q, u q = true → v q = true) → unm n v ≤ unm n u
 | 0, _ => Nat.le_refl _
 | n + 1, h => by
  have ih := unm_more (n := n) h
  rw [unm_succ, unm_succ]
  by_cases hu : u n = true
  ·rw [if_pos hu, if_pos (h n hu)]; omega
  ·rw [if_neg hu]; split <;> omega
theorem unm_less {u v : Nat → Bool} : ∀ {n : Nat}, (∀ q, u q = true → v q = true) → (∃ q, q < n ∧ u q = false ∧ v q = true) → unm n v < unm n u
 | 0, _, ⟨q, hq, _⟩ => absurd hq (Nat.not_lt_zero q)
 | n + 1, h, ⟨q, hq, h1, h2⟩ => by
  rw [unm_succ, unm_succ]
  rcases Nat.lt_or_ge q n with hlt | hge
  ·have ih := unm_less (n := n) h ⟨q, hlt, h1, h2⟩
   by_cases hu : u n = true
   ·rw [if_pos hu, if_pos (h n hu)]; omega
   ·rw [if_neg hu]; split <;> omega
  ·obtain rfl : q = n := by omega
   have ih := unm_more (n := q) h
   rw [if_pos h2, if_neg (by rw [h1]; simp)]
   omega
theorem Ps.less (h : Ps S P t0 true i kk t) : unm S.length t < unm S.length t0 := unm_less h.more (h.new rfl)
end
noncomputable def mayNB (S : List St) (a z : Int) : Bool := @decide (MayN S a z) (Classical.propDecidable _)
theorem mayNB_yes {S : List St} {a z : Int} (h : MayN S a z) : mayNB S a z = true := by
 unfold mayNB
 exact (@decide_eq_true_iff _ (Classical.propDecidable _)).2 h
theorem mayNB_no {S : List St} {a z : Int} (h : ¬ MayN S a z) : mayNB S a z = false := by
 unfold mayNB
 exact (@decide_eq_false_iff_not _ (Classical.propDecidable _)).2 h
theorem mayNB_iff {S : List St} {a z : Int} : mayNB S a z = true ↔ MayN S a z := by
 unfold mayNB
 exact @decide_eq_true_iff _ (Classical.propDecidable _)
theorem lt_bigN {i n : Nat} (h : i < n) (hn : n ≤ 2000) : i ≤ 4611686018427387904 := by omega
theorem size_nfa {cs : List Value} (h : cs.length = 3) : (Tryz.prog.info? 24).map (·.size) = some cs.length := by
 rw [h]
 kernel_rfl
theorem size_nst {cs : List Value} (h : cs.length = 6) : (Tryz.prog.info? 55).map (·.size) = some cs.length := by
 rw [h]
 kernel_rfl
theorem inf_nst : (Tryz.prog.info? 55).map (fun i => (i.zero, i.size, i.bytes)) = some (some (.agg (stc ⟨fun _ => false, 0, []⟩ (.slice none 0 0)).toArray), 6, 64) := by kernel_rfl
def okS (n : Nat) (s : St) : Prop := s.to < (n : Int) ∧ s.free.length ≤ 8 ∧ ∀ f ∈ s.free, 0 ≤ f ∧ f < (n : Int)
theorem MayN.ok {S : List St} {a z : Int} (h : MayN S a z) {i : Nat} {s : St} (hs : S[i]? = some s) : okS S.length s :=
 have hm := List.mem_of_getElem? hs
 ⟨h.to s hm, h.free8 s hm, h.free s hm⟩
set_option maxHeartbeats 4000000 in
set_option maxRecDepth 1000000 in
theorem refMayN_any (S : List St) (a z : Int) (cs : List Value) (w : World) (hv : NfaV w cs S a z) :
  Calls Tryz.prog 23 #[.agg cs.toArray] w fun e w' => e = .returned (.bool (mayNB S a z)) ∧ Below w.heap.size w w' := by
 have V := qH hv
 obtain ⟨A, cap, rfl, hlc, hcm, hA0⟩ := hv.len
 have HLC := qH hlc
 have HCM := qH hcm
 clear hv hlc hcm hA0
 by_cases h1 : 2000 < S.length
 ·have i1 : (2000 : Int) < (S.length : Int) := by omega
  have HF := qH (mayNB_no (S := S) (a := a) (z := z) fun h => by have := h.few; omega)
  clear h1
  go_enter Tryz.func23, Tryz.ntmps23
  go_wp2_with ((with_reducible refine atDst 1 ?_); refine wpList_box rfl 24 _ rfl [.slice A S.length cap, .int .i64 a, .int .i64 z] rfl (Below.refl w.heap.size w) (Nat.le_refl _) ?_; intro w1 hk1 hb1 hs1 _; have K1 := qH hk1; have B1 := qH hb1; have c0 := hk1.cell 0; have c1 := hk1.cell 1; have c2 := hk1.cell 2; clear hk1 hb1 hs1; (try simp only [Act.put, qA, qB, qC]))
  go_ret
  rw [HF.out]
  exact ⟨rfl, B1.out⟩
 have i1 : ¬ ((2000 : Int) < (S.length : Int)) := by omega
 by_cases h2 : a < 0
 ·have HF := qH (mayNB_no (S := S) (a := a) (z := z) fun h => by have := h.a0; omega)
  clear h1
  go_enter Tryz.func23, Tryz.ntmps23
  go_wp2_with ((with_reducible refine atDst 1 ?_); refine wpList_box rfl 24 _ rfl [.slice A S.length cap, .int .i64 a, .int .i64 z] rfl (Below.refl w.heap.size w) (Nat.le_refl _) ?_; intro w1 hk1 hb1 hs1 _; have K1 := qH hk1; have B1 := qH hb1; have c0 := hk1.cell 0; have c1 := hk1.cell 1; have c2 := hk1.cell 2; clear hk1 hb1 hs1; (try simp only [Act.put, qA, qB, qC]))
  go_ret
  rw [HF.out]
  exact ⟨rfl, B1.out⟩
 by_cases h3 : (S.length : Int) ≤ a
 ·have HF := qH (mayNB_no (S := S) (a := a) (z := z) fun h => by have := h.a1; omega)
  clear h1
  go_enter Tryz.func23, Tryz.ntmps23
  go_wp2_with ((with_reducible refine atDst 1 ?_); refine wpList_box rfl 24 _ rfl [.slice A S.length cap, .int .i64 a, .int .i64 z] rfl (Below.refl w.heap.size w) (Nat.le_refl _) ?_; intro w1 hk1 hb1 hs1 _; have K1 := qH hk1; have B1 := qH hb1; have c0 := hk1.cell 0; have c1 := hk1.cell 1; have c2 := hk1.cell 2; clear hk1 hb1 hs1; (try simp only [Act.put, qA, qB, qC]))
  go_ret
  rw [HF.out]
  exact ⟨rfl, B1.out⟩
 by_cases h4 : z < 0
 ·have HF := qH (mayNB_no (S := S) (a := a) (z := z) fun h => by have := h.z0; omega)
  clear h1
  go_enter Tryz.func23, Tryz.ntmps23
  go_wp2_with ((with_reducible refine atDst 1 ?_); refine wpList_box rfl 24 _ rfl [.slice A S.length cap, .int .i64 a, .int .i64 z] rfl (Below.refl w.heap.size w) (Nat.le_refl _) ?_; intro w1 hk1 hb1 hs1 _; have K1 := qH hk1; have B1 := qH hb1; have c0 := hk1.cell 0; have c1 := hk1.cell 1; have c2 := hk1.cell 2; clear hk1 hb1 hs1; (try simp only [Act.put, qA, qB, qC]))
  go_ret
  rw [HF.out]
  exact ⟨rfl, B1.out⟩
 by_cases h5 : (S.length : Int) ≤ z
 ·have HF := qH (mayNB_no (S := S) (a := a) (z := z) fun h => by have := h.z1; omega)
  clear h1
  go_enter Tryz.func23, Tryz.ntmps23
  go_wp2_with ((with_reducible refine atDst 1 ?_); refine wpList_box rfl 24 _ rfl [.slice A S.length cap, .int .i64 a, .int .i64 z] rfl (Below.refl w.heap.size w) (Nat.le_refl _) ?_; intro w1 hk1 hb1 hs1 _; have K1 := qH hk1; have B1 := qH hb1; have c0 := hk1.cell 0; have c1 := hk1.cell 1; have c2 := hk1.cell 2; clear hk1 hb1 hs1; (try simp only [Act.put, qA, qB, qC]))
  go_ret
  rw [HF.out]
  exact ⟨rfl, B1.out⟩
 have HMK := qH (show (∀ i s, S[i]? = some s → okS S.length s) → MayN S a z from fun h => ⟨by omega, by omega, by omega, by omega, by omega, fun s hs => by
   obtain ⟨i, hi, rfl⟩ := List.getElem_of_mem hs
   exact (h i _ (List.getElem?_eq_getElem hi)).1, fun s hs => by
   obtain ⟨i, hi, rfl⟩ := List.getElem_of_mem hs
   exact (h i _ (List.getElem?_eq_getElem hi)).2.1, fun s hs => by
   obtain ⟨i, hi, rfl⟩ := List.getElem_of_mem hs
   exact (h i _ (List.getElem?_eq_getElem hi)).2.2⟩)
 have HN := qH (show S.length ≤ 2000 by omega)
 obtain ⟨i0, hi0, hz0, hs0, hy0⟩ := infoP inf_nst
 obtain ⟨zz, hzz⟩ : ∃ z : List Value, z = stc ⟨fun _ => false, 0, []⟩ (.slice none 0 0) := ⟨_, rfl⟩
 have HZL := qH (show zz.length = 6 by rw [hzz]; rfl)
 have HZ0 := qH (show i0.zero = some (.agg zz.toArray) by rw [hzz]; exact hz0)
 clear h1 hzz hz0 hs0 hy0
 go_enter Tryz.func23, Tryz.ntmps23
 go_wp2_with ((with_reducible refine atDst 1 ?_); refine wpList_box rfl 24 _ rfl [.slice A S.length cap, .int .i64 a, .int .i64 z] rfl (Below.refl w.heap.size w) (Nat.le_refl _) ?_; intro w1 hk1 hb1 hs1 _; have K1 := qH hk1; have B1 := qH hb1; have c0 := hk1.cell 0; have c1 := hk1.cell 1; have c2 := hk1.cell 2; clear hk1 hb1 hs1; (try simp only [Act.put, qA, qB, qC]))
 go_loopw [4] (fun iv wl => ∃ i : Nat, i ≤ S.length ∧ iv = .int .i64 (i : Int) ∧ (∀ i' s, i' < i → S[i']? = some s → okS S.length s) ∧ Below w1.heap.size w1 wl) (fun iv _ => S.length - (intOf iv).toNat)
 case atStart => exact ⟨0, Nat.zero_le _, by simp, fun i' s h => absurd h (Nat.not_lt_zero i'), Below.refl _ _⟩
 obtain ⟨i, hi, rfl, hok, hb⟩ := hrel
 have HOK := qH hok
 have BR := qH hb
 have BW := qH (B1.out.trans (hb.mono B1.out.size))
 clear hok hb c0 c1 c2
 have KR := qH (K1.out.below BR.out K1.out.lt)
 have c0 := KR.out.cell 0
 by_cases hin : i < S.length
 ·have x1 : (i : Int) < (S.length : Int) := Int.ofNat_lt.2 hin
  have HI := qH hin
  have HMI := qH (sub_next hin)
  have e3 := wrap_one i (lt_bigN HI.out HN.out)
  have e4 := wrap_one' i (lt_bigN HI.out HN.out)
  obtain ⟨s, hs⟩ : ∃ s, S[i]? = some s := ⟨_, List.getElem?_eq_getElem hin⟩
  have HS := qH hs
  obtain ⟨b, off, Af, cf, rfl, hlt, hr, hrow⟩ := (V.out.below BW.out).whole hs
  have HR := qH hr
  have HROW := qH hrow
  clear hi hin hs hr hrow hlt
  obtain ⟨wq, hwq⟩ : ∃ v : World, v = wr := ⟨_, rfl⟩
  subst hwq
  obtain ⟨fl, hfl⟩ : ∃ n, n = s.free.length := ⟨_, rfl⟩
  have HFL := qH hfl
  obtain ⟨st, hst⟩ : ∃ l, l = stc s (.slice Af fl cf) := ⟨_, rfl⟩
  rw [← hfl] at HROW
  have HR2 := qH (show wq.rangeAt b (off + i * 6) st by rw [hst, hfl]; exact HR.out)
  have HT6 := qH (show st.length = 6 by rw [hst]; rfl)
  have HT1 := qH (show st.all (·.oneCell') = true by rw [hst]; exact stc_one _ _ _ _)
  have HT4 := qH (show st[4]? = some (.int .i64 s.to) by rw [hst]; rfl)
  have HT5 := qH (show st[5]? = some (.slice Af fl cf) by rw [hst]; rfl)
  obtain ⟨to, hto⟩ : ∃ n, n = s.to := ⟨_, rfl⟩
  have HTO := qH hto
  rw [← hto] at HT4
  clear hst hfl HR hto
  by_cases h1 : (S.length : Int) ≤ to
  ·have HT := qH (mayNB_no (S := S) (a := a) (z := z) fun h => by have h9 := (h.ok HS.out).1; rw [← HTO.out] at h9; omega)
   go_wp2_with (first
    | ((with_reducible refine atDst 43 ?_); refine wpList_load_mid rfl 55 _ rfl b (off + i * 6) rfl st _ HR2.out Tryz.underlying55 rfl (size_nst HT6.out) ?_; (try simp only [Act.put, qA, qB, qC]))
    | ((with_reducible refine atDst 5 ?_); refine wpList_new rfl 55 rfl i0 _ zz hi0 HZ0.out rfl (Below.refl wq.heap.size wq) (Nat.le_refl _) ?_; intro w4 hk hb hs ho; have K4 := qH hk; have B4 := qH hb; clear hk hb hs ho; (try simp only [Act.put, qA, qB, qC]))
    | ((with_reducible refine atStore 55 5 43 ?_); refine wpList_stBlk rfl 55 _ _ rfl wq.heap.size st rfl rfl 55 _ K4.out (size_nst HT6.out) (by rw [HZL.out, HT6.out]) HT1.out B4.out (Nat.le_refl _) ?_; intro w5 hk hb hs ho; have K5 := qH hk; have B5 := qH hb; have B5R := qH (BR.out.trans (hb.mono BR.out.size)); have BZ := qH (BW.out.trans (hb.mono BW.out.size)); have k4 := hk.cell 4; rw [HT4.out] at k4; have k5 := hk.cell 5; rw [HT5.out] at k5; clear hk hb hs ho; (try simp only [Act.put, qA, qB, qC])))
   go_ret
   rw [HT.out]
   exact ⟨rfl, BZ.out⟩
  by_cases h2 : 8 < fl
  ·have d1 : (8 : Int) < (fl : Int) := by omega
   have HT := qH (mayNB_no (S := S) (a := a) (z := z) fun h => by have h9 := (h.ok HS.out).2.1; rw [← HFL.out] at h9; omega)
   clear h2
   go_wp2_with (first
    | ((with_reducible refine atDst 43 ?_); refine wpList_load_mid rfl 55 _ rfl b (off + i * 6) rfl st _ HR2.out Tryz.underlying55 rfl (size_nst HT6.out) ?_; (try simp only [Act.put, qA, qB, qC]))
    | ((with_reducible refine atDst 5 ?_); refine wpList_new rfl 55 rfl i0 _ zz hi0 HZ0.out rfl (Below.refl wq.heap.size wq) (Nat.le_refl _) ?_; intro w4 hk hb hs ho; have K4 := qH hk; have B4 := qH hb; clear hk hb hs ho; (try simp only [Act.put, qA, qB, qC]))
    | ((with_reducible refine atStore 55 5 43 ?_); refine wpList_stBlk rfl 55 _ _ rfl wq.heap.size st rfl rfl 55 _ K4.out (size_nst HT6.out) (by rw [HZL.out, HT6.out]) HT1.out B4.out (Nat.le_refl _) ?_; intro w5 hk hb hs ho; have K5 := qH hk; have B5 := qH hb; have B5R := qH (BR.out.trans (hb.mono BR.out.size)); have BZ := qH (BW.out.trans (hb.mono BW.out.size)); have k4 := hk.cell 4; rw [HT4.out] at k4; have k5 := hk.cell 5; rw [HT5.out] at k5; clear hk hb hs ho; (try simp only [Act.put, qA, qB, qC])))
   go_ret
   rw [HT.out]
   exact ⟨rfl, BZ.out⟩
  have d1 : ¬ ((8 : Int) < (fl : Int)) := by omega
  have HF8 := qH (show fl ≤ 8 by omega)
  clear h2
  go_wp2_with (first
   | ((with_reducible refine atDst 43 ?_); refine wpList_load_mid rfl 55 _ rfl b (off + i * 6) rfl st _ HR2.out Tryz.underlying55 rfl (size_nst HT6.out) ?_; (try simp only [Act.put, qA, qB, qC]))
   | ((with_reducible refine atDst 5 ?_); refine wpList_new rfl 55 rfl i0 _ zz hi0 HZ0.out rfl (Below.refl wq.heap.size wq) (Nat.le_refl _) ?_; intro w4 hk hb hs ho; have K4 := qH hk; have B4 := qH hb; clear hk hb hs ho; (try simp only [Act.put, qA, qB, qC]))
   | ((with_reducible refine atStore 55 5 43 ?_); refine wpList_stBlk rfl 55 _ _ rfl wq.heap.size st rfl rfl 55 _ K4.out (size_nst HT6.out) (by rw [HZL.out, HT6.out]) HT1.out B4.out (Nat.le_refl _) ?_; intro w5 hk hb hs ho; have K5 := qH hk; have B5 := qH hb; have B5R := qH (BR.out.trans (hb.mono BR.out.size)); have BZ := qH (BW.out.trans (hb.mono BW.out.size)); have k4 := hk.cell 4; rw [HT4.out] at k4; have k5 := hk.cell 5; rw [HT5.out] at k5; clear hk hb hs ho; (try simp only [Act.put, qA, qB, qC])))
  go_loopw [6] (fun jv wl => ∃ j : Nat, j ≤ fl ∧ jv = .int .i64 (j : Int) ∧ (∀ m f, m < j → s.free[m]? = some f → 0 ≤ f ∧ f < (S.length : Int)) ∧ Below w5.heap.size w5 wl) (fun jv _ => fl - (intOf jv).toNat)
  case atStart => exact ⟨0, Nat.zero_le _, by simp, fun m f h => absurd h (Nat.not_lt_zero m), Below.refl _ _⟩
  clear k4 k5
  obtain ⟨j, hj, rfl, hfr, hb⟩ := hrel
  have HFR := qH hfr
  have B5J := qH hb
  have BJ := qH (B5R.out.trans (hb.mono B5R.out.size))
  have BY := qH (BZ.out.trans (hb.mono BZ.out.size))
  have k5 := (K5.out.below hb K5.out.lt).cell 5
  rw [HT5.out] at k5
  have RX := qH (HROW.out.below (B5.out.trans (hb.mono B5.out.size)))
  clear hfr hb
  by_cases hjf : j < fl
  ·have y1 : (j : Int) < (fl : Int) := Int.ofNat_lt.2 hjf
   have HJ := qH hjf
   have HMJ := qH (sub_next hjf)
   have f3 := wrap_one j (lt_bigN HJ.out (Nat.le_trans HF8.out (by decide)))
   have f4 := wrap_one' j (lt_bigN HJ.out (Nat.le_trans HF8.out (by decide)))
   obtain ⟨f, hf⟩ : ∃ f, s.free[j]? = some f := ⟨_, List.getElem?_eq_getElem (by rw [← HFL.out]; exact hjf)⟩
   have HF := qH hf
   obtain ⟨bf, of, rfl, hbf, hcf⟩ := RX.out.at_ (by rw [nums_length, ← HFL.out]; omega)
   have hcj := hcf j (.int .i64 f) (by
    obtain ⟨hjl, rfl⟩ := List.getElem?_eq_some_iff.1 hf
    exact nums_get _ _ _ hjl)
   clear hj hjf hf hcf hbf
   by_cases g1 : f < 0
   ·have HT := qH (mayNB_no (S := S) (a := a) (z := z) fun h => by have h9 := (h.ok HS.out).2.2 f (List.mem_of_getElem? HF.out); omega)
    go_wp2_with fail
    go_ret
    rw [HT.out]
    exact ⟨rfl, BY.out⟩
   by_cases g2 : (S.length : Int) ≤ f
   ·have HT := qH (mayNB_no (S := S) (a := a) (z := z) fun h => by have h9 := (h.ok HS.out).2.2 f (List.mem_of_getElem? HF.out); omega)
    go_wp2_with fail
    go_ret
    rw [HT.out]
    exact ⟨rfl, BY.out⟩
   have HFF := qH (show 0 ≤ f ∧ f < (S.length : Int) from ⟨by omega, by omega⟩)
   go_wp2_with fail
   refine ⟨⟨j + 1, HJ.out, by congr 1, fun m f' hm hf' => ?_, ?_⟩, by simpa [intOf] using HMJ.out⟩
   ·rcases Nat.lt_or_ge m j with hlt | hge
    ·exact HFR.out m f' hlt hf'
    ·obtain rfl : m = j := by omega
     rw [HF.out] at hf'
     injection hf' with hf'
     rw [← hf']
     exact HFF.out
   ·exact B5J.out
  obtain rfl : j = fl := by omega
  have y1 : ¬ ((j : Int) < (j : Int)) := by omega
  have HFA := qH (show okS S.length s from ⟨by rw [← HTO.out]; omega, by rw [← HFL.out]; exact HF8.out, fun f hf => by
   obtain ⟨m, hm, rfl⟩ := List.getElem_of_mem hf
   exact HFR.out m _ (by rw [HFL.out]; exact hm) (List.getElem?_eq_getElem hm)⟩)
  go_wp2_with fail
  refine ⟨⟨i + 1, HI.out, by congr 1, fun i' s' hi' hs' => ?_, BJ.out⟩, by simpa [intOf] using HMI.out⟩
  rcases Nat.lt_or_ge i' i with hlt | hge
  ·exact HOK.out i' s' hlt hs'
  ·obtain rfl : i' = i := by omega
   rw [HS.out] at hs'
   injection hs' with hs'
   rw [← hs']
   exact HFA.out
 ·obtain rfl : i = S.length := by omega
  have x1 : ¬ ((S.length : Int) < (S.length : Int)) := by omega
  have HT := qH (mayNB_yes (HMK.out fun i s hs => HOK.out i s (List.getElem?_eq_some_iff.1 hs).1 hs))
  go_wp2_with fail
  go_ret
  rw [HT.out]
  exact ⟨rfl, BW.out⟩
theorem nums_lenJ (t : Nat → Bool) (n : Nat) : (nums .i64 (risJ t n)).length ≤ n := by rw [nums_length]; exact risJ_len t n
set_option maxHeartbeats 4000000 in
set_option maxRecDepth 1000000 in
theorem refMarkedN_own (n : Nat) (hn : n ≤ 2000) (t : Nat → Bool) (V : Value) (w : World) (hr : Row w V (bcs n t)) :
  Calls Tryz.prog 44 #[V] w fun e w' => ∃ v, e = .returned v ∧ Row w' v (nums .i64 (risJ t n)) ∧ (∀ k, v.ownBlock = some k → w.heap.size ≤ k) ∧ Below w.heap.size w w' := by
 have R0 := qH hr
 have HN := qH hn
 obtain ⟨A, cap, rfl, a1, a2, a0, a3⟩ := hr
 rw [bcs_len] at a1 R0 ⊢
 clear a3 a0 a2 a1 hn
 obtain ⟨i1, hi1, hy0, hy1, hy2⟩ := infoP inf_int
 go_enter Tryz.func44, Tryz.ntmps44
 go_wp2_with fail
 go_loopw [3, 4] (fun v i wl => ∃ j : Nat, j ≤ n ∧ i = .int .i64 (j : Int) ∧ wl.ownsRow w.heap.size 3 1 v (nums .i64 (risJ t j)).length (nums .i64 (risJ t j)) ∧ Below w.heap.size w wl) (fun _ i _ => n - (intOf i).toNat)
 case atStart => exact ⟨0, Nat.zero_le _, by simp, ownN _ _ _, Below.refl _ _⟩
 case round =>
  obtain ⟨j, hj, rfl, ho, hb⟩ := hrel
  have HO := qH ho
  have HB := qH hb
  clear ho hb
  by_cases hjl : j < n
  ·have j1 : (j : Int) < (n : Int) := Int.ofNat_lt.2 hjl
   obtain ⟨b0, off, rfl, hb0, hcell⟩ := (R0.out.below HB.out).at_ (by rw [bcs_len]; omega)
   have hcj := hcell j _ (bcs_get t hjl)
   have HJ := qH hjl
   have HMJ := qH (sub_next hjl)
   have e3 := wrap_one j (lt_bigN HJ.out HN.out)
   have e4 := wrap_one' j (lt_bigN HJ.out HN.out)
   obtain ⟨q, hq⟩ : ∃ q, t j = q := ⟨_, rfl⟩
   rw [hq] at hcj
   have HS := qH (risJ_succ t j)
   have HLN := qH (nums_lenJ t j)
   have HQ := qH hq
   clear hcell hb0 hjl hj hq
   cases q with
   | true =>
    have R1 := qH (rowB (n := 1) (show Blk (wr.alloc (.cells #[.int .i64 (j : Int)] 3)) wr.heap.size 3 (nums .i64 [(j : Int)]) from Blk.new wr 3 (nums .i64 [(j : Int)])) rfl (by omega))
    go_wp2_with ((with_reducible refine atDst 18 ?_); refine wpList_appR (w0 := w) rfl (.tmp 15) (.tmp 17) 53 rfl 3 i1 (.int .i64 0) 8 Tryz.underlying53 hi1 hy0 hy1 hy2 rfl _ _ _ rfl (HO.out.alloc _) _ (nums .i64 [(j : Int)]) rfl R1.out (nums_one _ _) (by have := HLN.out; have := HJ.out; have := HN.out; rw [nums_length .i64 [(j : Int)]]; simp only [List.length_singleton]; omega) (by omega) (HB.out.alloc HB.out.size _) ?_; intro v3 w4 ho4 _ hb4 _; have O4 := qH ho4; have B4 := qH hb4; clear ho4 hb4; (try simp only [Act.put, qA, qB, qC]))
    refine ⟨⟨j + 1, HJ.out, by congr 1, ?_, B4.out⟩, by simpa [intOf] using HMJ.out⟩
    rw [HS.out, HQ.out, if_pos rfl, nums_append, List.length_append]
    exact O4.out
   | false =>
    go_wp2_with fail
    refine ⟨⟨j + 1, HJ.out, by congr 1, ?_, HB.out⟩, by simpa [intOf] using HMJ.out⟩
    rw [HS.out, HQ.out, if_neg Bool.false_ne_true]
    exact HO.out
  ·obtain rfl : j = n := by omega
   have j1 : ¬ ((j : Int) < (j : Int)) := by omega
   have HR := qH (Row.of_own HO.out)
   have HA := qH (own_above HO.out)
   clear HO
   go_wp2_with fail
   go_ret
   exact ⟨_, rfl, HR.out, HA.out, HB.out⟩
set_option maxHeartbeats 4000000 in
set_option maxRecDepth 1000000 in
theorem refHasN_any (l : List Int) (k : Int) (V : Value) (w : World) (hr : Row w V (nums .i64 l)) :
  Calls Tryz.prog 28 #[V, .int .i64 k] w fun e w' => e = .returned (.bool (decide (k ∈ l))) ∧ w' = w := by
 have R0 := qH hr
 obtain ⟨A, cap, rfl, a1, a2, a0, a3⟩ := hr
 rw [nums_length] at a1 R0 ⊢
 have HN := qH (And.intro a1 a2)
 clear a3 a0 a2 a1
 go_enter Tryz.func28, Tryz.ntmps28
 go_wp2_with fail
 go_loopw [5] (fun i wl => ∃ j : Nat, j ≤ l.length ∧ i = .int .i64 (j : Int) ∧ (∀ m, m < j → l[m]? ≠ some k) ∧ wl = w) (fun i _ => l.length - (intOf i).toNat)
 case atStart => exact ⟨0, Nat.zero_le _, by simp, fun m h => absurd h (Nat.not_lt_zero m), rfl⟩
 case round =>
  obtain ⟨j, hj, rfl, hno, rfl⟩ := hrel
  have HO := qH hno
  clear hno
  by_cases hjl : j < l.length
  ·have j1 : (j : Int) < (l.length : Int) := Int.ofNat_lt.2 hjl
   obtain ⟨b0, off, rfl, hb0, hcell⟩ := R0.out.at_ (by rw [nums_length]; omega)
   obtain ⟨x, hx⟩ : ∃ x, l[j]? = some x := ⟨_, List.getElem?_eq_getElem hjl⟩
   have hcj := hcell j (.int .i64 x) (by simp [nums, hx])
   have HX := qH hx
   have HJ := qH hjl
   have HMJ := qH (sub_next hjl)
   have e3 := wrap_len HJ.out HN.out.1 HN.out.2
   have e4 := wrap_len' HJ.out HN.out.1 HN.out.2
   clear hcell hb0 hjl hj hx
   by_cases hxk : x = k
   ·subst hxk
    have HT := qH (show decide (x ∈ l) = true from decide_eq_true (List.mem_of_getElem? HX.out))
    go_wp2_with fail
    go_ret
    rw [HT.out]
    exact ⟨rfl, rfl⟩
   ·have HNX := qH hxk
    go_wp2_with fail
    refine ⟨⟨j + 1, HJ.out, by congr 1, fun m hm => ?_, trivial⟩, by simpa [intOf] using HMJ.out⟩
    rcases Nat.lt_succ_iff_lt_or_eq.1 hm with hm | rfl
    ·exact HO.out m hm
    ·rw [HX.out]
     exact fun h => HNX.out (Option.some.inj h)
  ·obtain rfl : j = l.length := by omega
   have j1 : ¬ ((l.length : Int) < (l.length : Int)) := by omega
   have HT := qH (show decide (k ∈ l) = false from decide_eq_false fun h => by
    obtain ⟨m, hm⟩ := List.mem_iff_getElem?.1 h
    have hlt := (List.getElem?_eq_some_iff.1 hm).1
    exact HO.out m hlt hm)
   go_wp2_with fail
   go_ret
   rw [HT.out]
   exact ⟨rfl, rfl⟩
end Go.Proofs.YteadghoojeehlaaGreatDoor
