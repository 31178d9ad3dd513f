/-
  Texts of this proof, put together: (LwM) How package lang's matchers lie in memory, and worlds that differ in some blocks alone. No statement is proved here. (LwE) Package lang's matchers at work: round. No statement is proved here.
-/
import Derived.Test.YtopnpdobcagcgaaGreatPU
namespace Go.Proofs.YtopnpdobcagcgaaGreat
open Go.RowKit
set_option linter.unusedSimpArgs false
set_option linter.unusedVariables false
structure Off (D : Nat → Prop) (w w' : World) : Prop where
 os : w'.os = w.os
 tape : w'.tape = w.tape
 output : w'.output = w.output
 size : w.heap.size ≤ w'.heap.size
 block : ∀ k, k < w.heap.size → ¬ D k → w'.heap[k]? = w.heap[k]?
section
variable {D D' : Nat → Prop} {w w1 w2 w' : World} {B b o : Nat}
theorem Off.refl (D : Nat → Prop) (w : World) : Off D w w := ⟨rfl, rfl, rfl, Nat.le_refl _, fun _ _ _ => rfl⟩
theorem Off.start (D : Nat → Prop) (w : World) : Off D w w.drew := ⟨rfl, rfl, rfl, Nat.le_refl _, fun _ _ _ => rfl⟩
theorem Off.trans (h : Off D w w1) (k : Off D w1 w2) : Off D w w2 :=
 ⟨k.os.trans h.os, k.tape.trans h.tape, k.output.trans h.output, Nat.le_trans h.size k.size, fun i hi hn => (k.block i (Nat.lt_of_lt_of_le hi h.size) hn).trans (h.block i hi hn)⟩
theorem Off.mono (h : Off D w w') (hD : ∀ k, k < w.heap.size → D k → D' k) : Off D' w w' := ⟨h.os, h.tape, h.output, h.size, fun k hk hn => h.block k hk fun hd => hn (hD k hk hd)⟩
theorem Off.of (h : Below B w w') (hB : ∀ k, k < w.heap.size → ¬ D k → k < B) : Off D w w' := ⟨h.os, h.tape, h.output, h.size, fun k hk hn => h.block k (hB k hk hn)⟩
theorem Off.new (D : Nat → Prop) (h : Below w.heap.size w w') : Off D w w' := .of h fun k hk _ => hk
theorem Off.put {g : Nat} (h : Below B w w') (ho : ∀ k, k ≠ g → w'.heap[k]? = w.heap[k]?) (hD : w.heap.size ≤ g ∨ D g) : Off D w w' :=
 ⟨h.os, h.tape, h.output, h.size, fun k hk hn => ho k (by rintro rfl; rcases hD with h1 | h1; exact absurd hk (Nat.not_lt.2 h1); exact hn h1)⟩
theorem Off.grown {r : Option Nat} (h : w.grownBy w' r) (hD : ∀ k, r = some k → w.heap.size ≤ k ∨ D k) : Off D w w' :=
 ⟨h.os, h.tape, h.output, h.size, fun k hk hn => h.block k hk fun e => by rcases hD k e.symm with h1 | h1; exact absurd hk (Nat.not_lt.2 h1); exact hn h1⟩
theorem Off.set (w : World) {g : Nat} (i : Nat) (u : Value) (hD : D g) : Off D w (w.setCell ⟨g, i, none⟩ u) :=
 ⟨rfl, rfl, rfl, by simp [World.setCell], fun k hk hn => Below.heap_setCell w ⟨g, i, none⟩ u k (by rintro rfl; exact hn hD)⟩
theorem Off.setCells {g : Nat} (hD : D g) : ∀ (vs : List Value) (o : Nat) (w : World), Off D w (w.setCells g o vs)
 | [], _, w => Off.refl D w
 | v :: r, o, w => (Off.set w o v hD).trans (Off.setCells hD r (o + 1) _)
theorem Off.below (h : Off D w w') (hD : ∀ k, D k → B ≤ k) (hB : B ≤ w.heap.size) : Below B w w' := ⟨h.os, h.tape, h.output, h.size, fun k hk => h.block k (Nat.lt_of_lt_of_le hk hB) fun hd => absurd hk (Nat.not_lt.2 (hD k hd))⟩
theorem Off.cell (h : Off D w w') {v : Value} (hb : b < w.heap.size) (hn : ¬ D b) (hc : w.cell? ⟨b, o, none⟩ = some v) : w'.cell? ⟨b, o, none⟩ = some v := by
 have := h.block b hb hn
 unfold World.cell? at hc ⊢
 simp only [this]
 exact hc
theorem Off.range (h : Off D w w') {cs : List Value} (hb : b < w.heap.size) (hn : ¬ D b) (hc : w.rangeAt b o cs) : w'.rangeAt b o cs := fun j v hv => h.cell hb hn (hc j v hv)
theorem Off.blk (h : Off D w w') {t : TypeId} {cs : List Value} (hn : ¬ D b) (hc : Blk w b t cs) : Blk w' b t cs := (h.block b hc.lt hn).trans hc
theorem Off.then (h : Off D w w1) (hb : Below w1.heap.size w1 w2) : Off D w w2 := h.trans (Off.new D hb)
end
/-! ### sets in a row -/
def flatS (n : Nat) (f : Nat → Nat → Bool) : List Value := ((List.range n).map fun p => wds (f p)).flatten
theorem flatS_succ (n : Nat) (f : Nat → Nat → Bool) : flatS (n + 1) f = flatS n f ++ wds (f n) := by
 unfold flatS
 rw [List.range_succ, List.map_append, List.flatten_append]
 simp
theorem flatS_len (f : Nat → Nat → Bool) : ∀ n, (flatS n f).length = n * 4
 | 0 => rfl
 | n + 1 => by rw [flatS_succ, List.length_append, flatS_len f n, wds_length]; omega
theorem flatS_get (f : Nat → Nat → Bool) : ∀ (n p j : Nat), p < n → j < 4 → (flatS n f)[p * 4 + j]? = (wds (f p))[j]?
 | 0, p, j, h, _ => by omega
 | n + 1, p, j, h, hj => by
  rw [flatS_succ, List.getElem?_append, flatS_len]
  by_cases hp : p < n
  ·rw [if_pos (by omega), flatS_get f n p j hp hj]
  ·obtain rfl : p = n := by omega
   rw [if_neg (by omega), Nat.add_sub_cancel_left]
theorem flatS_range {w : World} {g n p : Nat} {t : TypeId} {f : Nat → Nat → Bool} (h : Blk w g t (flatS n f)) (hp : p < n) : w.rangeAt g (p * 4) (wds (f p)) := fun j v hv => by
 have hj : j < 4 := by have := (List.getElem?_eq_some_iff.1 hv).1; rwa [wds_length] at this
 rw [h.cell, flatS_get f n p j hp hj]
 exact hv
def updS (f : Nat → Nat → Bool) (p : Nat) (q : Nat → Bool) : Nat → Nat → Bool := fun i => if i = p then q else f i
theorem flatS_set (n p : Nat) (f : Nat → Nat → Bool) (q : Nat → Bool) (hp : p < n) :
  ((((flatS n f).set (p * 4) (.int .u64 (word q 0 : Int))).set (p * 4 + 1) (.int .u64 (word q 1 : Int))).set (p * 4 + 2) (.int .u64 (word q 2 : Int))).set (p * 4 + 3) (.int .u64 (word q 3 : Int)) = flatS n (updS f p q) := by
 apply List.ext_getElem?
 intro i
 by_cases hi : i < n * 4
 ·have e : i = i / 4 * 4 + i % 4 := by omega
  have h1 : i / 4 < n := by omega
  have h2 : i % 4 < 4 := Nat.mod_lt _ (by omega)
  have hR := flatS_get (updS f p q) n (i / 4) (i % 4) h1 h2
  have hL := flatS_get f n (i / 4) (i % 4) h1 h2
  rw [← e] at hR hL
  rw [hR]
  by_cases hip : i / 4 = p
  ·have hu : updS f p q (i / 4) = q := by unfold updS; rw [if_pos hip]
   rw [hu]
   have h4 : i % 4 = 0 ∨ i % 4 = 1 ∨ i % 4 = 2 ∨ i % 4 = 3 := by omega
   rcases h4 with h | h | h | h
   ·have : i = p * 4 := by omega
    subst this
    rw [h]
    simp [List.getElem?_set, flatS_len, wds, hp]
   ·have : i = p * 4 + 1 := by omega
    subst this
    rw [h]
    simp [List.getElem?_set, flatS_len, wds]
    omega
   ·have : i = p * 4 + 2 := by omega
    subst this
    rw [h]
    simp [List.getElem?_set, flatS_len, wds]
    omega
   ·have : i = p * 4 + 3 := by omega
    subst this
    rw [h]
    simp [List.getElem?_set, flatS_len, wds]
    omega
  ·have hu : updS f p q (i / 4) = f (i / 4) := by unfold updS; rw [if_neg hip]
   rw [hu, ← hL]
   rw [List.getElem?_set_ne (by omega), List.getElem?_set_ne (by omega), List.getElem?_set_ne (by omega), List.getElem?_set_ne (by omega)]
 ·rw [List.getElem?_eq_none (by simp [flatS_len]; omega), List.getElem?_eq_none (by rw [flatS_len]; omega)]
theorem flatS_put {w : World} {g n p : Nat} {t : TypeId} {f : Nat → Nat → Bool} (h : Blk w g t (flatS n f)) (q : Nat → Bool) (hp : p < n) : Blk (w.setCells g (p * 4) (wds q)) g t (flatS n (updS f p q)) := by
 have := (((h.set (p * 4) (.int .u64 (word q 0 : Int))).set (p * 4 + 1) (.int .u64 (word q 1 : Int))).set (p * 4 + 2) (.int .u64 (word q 2 : Int))).set (p * 4 + 3) (.int .u64 (word q 3 : Int))
 rw [flatS_set n p f q hp] at this
 exact this
theorem blk_there {w : World} {g : Nat} {t : TypeId} {cs : List Value} (h : Blk w g t cs) (o n : Nat) (hn : o + n ≤ cs.length) : w.there g o n := fun j hj => by
 rw [h.cell]
 exact ⟨by rw [List.getElem?_eq_getElem (by omega)]; rfl, h.frozen _⟩
/-! ### matchers -/
def mcl (k : Int) (h : Nat → Bool) (P : Value) (kn : Nat → Bool) (tb : Value) : List Value := .int .i64 k :: (wds h ++ (P :: (wds kn ++ [tb])))
theorem mcl_known {w : World} {g : Nat} {t : TypeId} {k : Int} {h kn : Nat → Bool} {P tb : Value} (hb : Blk w g t (mcl k h P kn tb)) (q : Nat → Bool) : Blk (w.setCells g 6 (wds q)) g t (mcl k h P q tb) :=
 (((hb.set 6 (.int .u64 (word q 0 : Int))).set 7 (.int .u64 (word q 1 : Int))).set 8 (.int .u64 (word q 2 : Int))).set 9 (.int .u64 (word q 3 : Int))
theorem mcl_hits {w : World} {g : Nat} {t : TypeId} {k : Int} {h kn : Nat → Bool} {P tb : Value} (hb : Blk w g t (mcl k h P kn tb)) (q : Nat → Bool) : Blk (w.setCells g 1 (wds q)) g t (mcl k q P kn tb) :=
 (((hb.set 1 (.int .u64 (word q 0 : Int))).set 2 (.int .u64 (word q 1 : Int))).set 3 (.int .u64 (word q 2 : Int))).set 4 (.int .u64 (word q 3 : Int))
theorem mcl_at {w : World} {g : Nat} {t : TypeId} {k : Int} {h kn : Nat → Bool} {P tb : Value} (hb : Blk w g t (mcl k h P kn tb)) :
  w.cell? ⟨g, 0, none⟩ = some (.int .i64 k) ∧ w.cell? ⟨g, 5, none⟩ = some P ∧ w.cell? ⟨g, 10, none⟩ = some tb ∧ w.rangeAt g 1 (wds h) ∧ w.rangeAt g 6 (wds kn) := by
 refine ⟨hb.cell 0, hb.cell 5, hb.cell 10, fun j v hv => ?_, fun j v hv => ?_⟩
 ·have hj : j < 4 := by have := (List.getElem?_eq_some_iff.1 hv).1; rwa [wds_length] at this
  rw [hb.cell, ← hv]
  match j, hj with
  | 0, _ => rfl
  | 1, _ => rfl
  | 2, _ => rfl
  | 3, _ => rfl
 ·have hj : j < 4 := by have := (List.getElem?_eq_some_iff.1 hv).1; rwa [wds_length] at this
  rw [hb.cell, ← hv]
  match j, hj with
  | 0, _ => rfl
  | 1, _ => rfl
  | 2, _ => rfl
  | 3, _ => rfl
theorem mcl_len (k : Int) (h : Nat → Bool) (P : Value) (kn : Nat → Bool) (tb : Value) : (mcl k h P kn tb).length = 11 := rfl
def TabM (W : List UInt8) (w : World) (D : Nat → Prop) (g : Nat) (A : Option Addr) (Ds : Nat → Nat → Prop) (x : T) (kn : Nat → Bool) (tb : Value) : Prop :=
 ∃ (tg : Nat) (tf : Nat → Nat → Bool), tb = .slice (some ⟨tg, 0, none⟩) (W.length + 1) (W.length + 1) ∧ D tg ∧ tg ≠ g ∧ (∀ i, ¬ Ds i tg) ∧ (∀ b off, A = some ⟨b, off, none⟩ → b ≠ tg) ∧ Blk w tg 26 (flatS (W.length + 1) tf) ∧
  ∀ p, p ≤ W.length → kn p = true → tf p = endsB (Lg x) W (fun q => decide (q = p))
inductive Mat (W : List UInt8) (w : World) : (Nat → Prop) → Nat → T → Prop
 | node {D : Nat → Prop} {g : Nat} {k : Int} {s : Nat → Bool} {l : List T} (A : Option Addr) (cap : Nat) (gp : Nat → Nat) (Ds : Nat → Nat → Prop) (kn : Nat → Bool) (tb : Value)
  (hD : D g) (hg : ∀ i, ¬ Ds i g)
  (blk : Blk w g 68 (mcl k (if k = 3 then hitP s W else zeroS) (.slice A l.length cap) kn tb))
  (h1 : l.length ≤ cap) (h2 : cap ≤ maxLen)
  (h3 : l ≠ [] → ∃ b off, A = some ⟨b, off, none⟩ ∧ D b ∧ b ≠ g ∧ (∀ i, ¬ Ds i b) ∧ ∀ i, i < l.length → w.cell? ⟨b, off + i, none⟩ = some (.pointer (some ⟨gp i, 0, none⟩)))
  (ht : k = 6 → ∀ x, l = [x] → TabM W w D g A Ds x kn tb)
  (hn : ¬ (k = 6 ∧ l.length = 1) → tb = .slice none 0 0)
  (hs : ∀ i q, Ds i q → D q)
  (hd : ∀ i j q, Ds i q → Ds j q → i = j)
  (hc : ∀ i t, l[i]? = some t → Mat W w (Ds i) (gp i) t) : Mat W w D g (.node k s l)
structure MatN (W : List UInt8) (w : World) (D : Nat → Prop) (g : Nat) (k : Int) (s : Nat → Bool) (l : List T) (A : Option Addr) (cap : Nat) (gp : Nat → Nat) (Ds : Nat → Nat → Prop) (kn : Nat → Bool) (tb : Value) : Prop where
 hD : D g
 hg : ∀ i, ¬ Ds i g
 blk : Blk w g 68 (mcl k (if k = 3 then hitP s W else zeroS) (.slice A l.length cap) kn tb)
 h1 : l.length ≤ cap
 h2 : cap ≤ maxLen
 h3 : l ≠ [] → ∃ b off, A = some ⟨b, off, none⟩ ∧ D b ∧ b ≠ g ∧ (∀ i, ¬ Ds i b) ∧ ∀ i, i < l.length → w.cell? ⟨b, off + i, none⟩ = some (.pointer (some ⟨gp i, 0, none⟩))
 ht : k = 6 → ∀ x, l = [x] → TabM W w D g A Ds x kn tb
 hn : ¬ (k = 6 ∧ l.length = 1) → tb = .slice none 0 0
 hs : ∀ i q, Ds i q → D q
 hd : ∀ i j q, Ds i q → Ds j q → i = j
 hc : ∀ i t, l[i]? = some t → Mat W w (Ds i) (gp i) t
theorem Mat.opened {W : List UInt8} {w : World} {D : Nat → Prop} {g : Nat} {k : Int} {s : Nat → Bool} {l : List T} (h : Mat W w D g (.node k s l)) : ∃ A cap gp Ds kn tb, MatN W w D g k s l A cap gp Ds kn tb := by
 cases h with
 | node A cap gp Ds kn tb hD hg blk h1 h2 h3 ht hn hs hd hc => exact ⟨A, cap, gp, Ds, kn, tb, hD, hg, blk, h1, h2, h3, ht, hn, hs, hd, hc⟩
theorem MatN.mat {W : List UInt8} {w : World} {D : Nat → Prop} {g : Nat} {k : Int} {s : Nat → Bool} {l : List T} {A : Option Addr} {cap : Nat} {gp : Nat → Nat} {Ds : Nat → Nat → Prop} {kn : Nat → Bool} {tb : Value} (h : MatN W w D g k s l A cap gp Ds kn tb) : Mat W w D g (.node k s l) :=
 .node A cap gp Ds kn tb h.hD h.hg h.blk h.h1 h.h2 h.h3 h.ht h.hn h.hs h.hd h.hc
theorem cell_heap {w w' : World} {b o : Nat} {v : Value} (h : w.cell? ⟨b, o, none⟩ = some v) (hb : w'.heap[b]? = w.heap[b]?) : w'.cell? ⟨b, o, none⟩ = some v := by
 unfold World.cell? at h ⊢
 simp only [hb]
 exact h
theorem TabM.stay {W : List UInt8} {w w' : World} {D : Nat → Prop} {g : Nat} {A : Option Addr} {Ds : Nat → Nat → Prop} {x : T} {kn : Nat → Bool} {tb : Value} (h : TabM W w D g A Ds x kn tb) (hb : ∀ k, D k → k ≠ g → (∀ i, ¬ Ds i k) → w'.heap[k]? = w.heap[k]?) : TabM W w' D g A Ds x kn tb := by
 obtain ⟨tg, tf, e, h1, h2, h3, h4, h5, h6⟩ := h
 exact ⟨tg, tf, e, h1, h2, h3, h4, (hb tg h1 h2 h3).trans h5, h6⟩
theorem Mat.stay {W : List UInt8} {w w' : World} {D : Nat → Prop} {g : Nat} {t : T} (h : Mat W w D g t) (hb : ∀ k, D k → w'.heap[k]? = w.heap[k]?) : Mat W w' D g t := by
 induction h with
 | node A cap gp Ds kn tb hD hg blk h1 h2 h3 ht hn hs hd hc ih =>
  refine .node A cap gp Ds kn tb hD hg ((hb _ hD).trans blk) h1 h2 (fun hne => ?_) (fun hk x hx => (ht hk x hx).stay fun k h _ _ => hb k h) hn hs hd (fun i t h => ih i t h fun k hk => hb k (hs i k hk))
  obtain ⟨b, off, hA, a1, a2, a3, a4⟩ := h3 hne
  exact ⟨b, off, hA, a1, a2, a3, fun i hi => cell_heap (a4 i hi) (hb b a1)⟩
theorem Mat.mono {W : List UInt8} {w : World} {D D' : Nat → Prop} {g : Nat} {t : T} (h : Mat W w D g t) (hD' : ∀ k, D k → D' k) : Mat W w D' g t := by
 cases h with
 | node A cap gp Ds kn tb hD hg blk h1 h2 h3 ht hn hs hd hc =>
  refine .node A cap gp Ds kn tb (hD' _ hD) hg blk h1 h2 (fun hne => ?_) (fun hk x hx => ?_) hn (fun i k hk => hD' k (hs i k hk)) hd hc
  ·obtain ⟨b, off, hA, a1, a2⟩ := h3 hne
   exact ⟨b, off, hA, hD' b a1, a2⟩
  ·obtain ⟨tg, tf, e, a1, a2⟩ := ht hk x hx
   exact ⟨tg, tf, e, hD' tg a1, a2⟩
section
variable {W : List UInt8} {w w' : World} {D : Nat → Prop} {g : Nat} {k : Int} {s : Nat → Bool} {l : List T} {A : Option Addr} {cap : Nat} {gp : Nat → Nat} {Ds : Nat → Nat → Prop} {kn : Nat → Bool} {tb : Value}
theorem MatN.stay (h : MatN W w D g k s l A cap gp Ds kn tb) (hb : ∀ k, D k → w'.heap[k]? = w.heap[k]?) : MatN W w' D g k s l A cap gp Ds kn tb where
 hD := h.hD
 hg := h.hg
 blk := (hb _ h.hD).trans h.blk
 h1 := h.h1
 h2 := h.h2
 h3 := fun hne => by
  obtain ⟨b, off, hA, a1, a2, a3, a4⟩ := h.h3 hne
  exact ⟨b, off, hA, a1, a2, a3, fun i hi => cell_heap (a4 i hi) (hb b a1)⟩
 ht := fun hk x hx => (h.ht hk x hx).stay fun k h _ _ => hb k h
 hn := h.hn
 hs := h.hs
 hd := h.hd
 hc := fun i t ht => (h.hc i t ht).stay fun k hk => hb k (h.hs i k hk)
theorem MatN.part (h : MatN W w D g k s l A cap gp Ds kn tb) (hsz : ∀ k, D k → k < w.heap.size) {i : Nat} {t : T} (hi : l[i]? = some t) (ho : Off (Ds i) w w') (hm : Mat W w' (Ds i) (gp i) t) : MatN W w' D g k s l A cap gp Ds kn tb where
 hD := h.hD
 hg := h.hg
 blk := (ho.block g (hsz g h.hD) (h.hg i)).trans h.blk
 h1 := h.h1
 h2 := h.h2
 h3 := fun hne => by
  obtain ⟨b, off, hA, a1, a2, a3, a4⟩ := h.h3 hne
  exact ⟨b, off, hA, a1, a2, a3, fun i' hi => cell_heap (a4 i' hi) (ho.block b (hsz b a1) (a3 i))⟩
 ht := fun hk x hx => (h.ht hk x hx).stay fun k hk _ hn => ho.block k (hsz k hk) (hn i)
 hn := h.hn
 hs := h.hs
 hd := h.hd
 hc := fun i' t' ht' => by
  by_cases hii : i' = i
  ·subst hii
   rw [hi] at ht'
   injection ht' with ht'
   subst ht'
   exact hm
  ·exact (h.hc i' t' ht').stay fun k hk => ho.block k (hsz k (h.hs i' k hk)) fun hk2 => hii (h.hd _ _ _ hk hk2)
end
end Go.Proofs.YtopnpdobcagcgaaGreat
namespace Go.Proofs.YtopnpdobcagcgaaGreat
open Go.RowKit
set_option linter.unusedSimpArgs false
set_option linter.unusedVariables false
theorem ld_ms {ev : Operand → Value} {o : Oper} (x : Operand) (ho : o.op = .load 65 x) {p : Addr} (hx : ev x = .pointer (some p)) {A : Option Addr} {n c : Nat} {W : World} (hc : W.cell? p = some (.slice A n c)) : (execOp ev o).run Tryz.prog W = .ok (.value (.slice A n c)) W := by
 simp only [execOp, ho, hx]
 go_simp
theorem ld_ss {ev : Operand → Value} {o : Oper} (x : Operand) (ho : o.op = .load 66 x) {p : Addr} (hx : ev x = .pointer (some p)) {A : Option Addr} {n c : Nat} {W : World} (hc : W.cell? p = some (.slice A n c)) : (execOp ev o).run Tryz.prog W = .ok (.value (.slice A n c)) W := by
 simp only [execOp, ho, hx]
 go_simp
theorem ld_mp {ev : Operand → Value} {o : Oper} (x : Operand) (ho : o.op = .load 53 x) {p : Addr} (hx : ev x = .pointer (some p)) {q : Option Addr} {W : World} (hc : W.cell? p = some (.pointer q)) : (execOp ev o).run Tryz.prog W = .ok (.value (.pointer q)) W := by
 simp only [execOp, ho, hx]
 go_simp
theorem wds_allA (p : Nat → Bool) : (wds p).toArray.all (·.oneCell') = true := by simpa using wds_all p
def EndsC (N : Nat) : Prop := ∀ t : T, t.nodes ≤ N → ∀ W : List UInt8, W.length ≤ 200 → ∀ (D : Nat → Prop) (g : Nat) (w : World), Mat W w D g t → (∀ k, D k → k < w.heap.size) → ∀ f : Nat → Bool, (∀ q, f q = true → q ≤ W.length) →
  Calls Tryz.prog 32 #[.pointer (some ⟨g, 0, none⟩), .agg (wds f).toArray] w fun e w' => e = .returned (.agg (wds (endsB (Lg t) W f)).toArray) ∧ Mat W w' D g t ∧ Off D w w'
set_option maxHeartbeats 8000000 in
set_option maxRecDepth 1000000 in
theorem lRound_any (N : Nat) (ih : EndsC N) (W : List UInt8) (hW : W.length ≤ 200) (s : Nat → Bool) (x : T) (hx : x.nodes ≤ N) {D : Nat → Prop} {g : Nat} {A : Option Addr} {cap : Nat} {gp : Nat → Nat} {Ds : Nat → Nat → Prop} {kn : Nat → Bool} {tb : Value} (w : World)
  (hm : MatN W w D g 6 s [x] A cap gp Ds kn tb) (hsz : ∀ k, D k → k < w.heap.size) (p : Nat) (hp : p ≤ W.length) :
  Calls Tryz.prog 71 #[.pointer (some ⟨g, 0, none⟩), .int .u8 (p : Int)] w fun e w' => e = .returned (.agg (wds (endsB (Lg x) W (fun q => decide (q = p)))).toArray) ∧ (∃ kn', MatN W w' D g 6 s [x] A cap gp Ds kn' tb) ∧ Off D w w' := by
 have IH := Lib.hid ih
 have HW := Lib.hid hW
 have HXN := Lib.hid hx
 have HP := Lib.hid hp
 have HSZ := Lib.hid hsz
 have M0 := Lib.hid hm
 obtain ⟨n, hn⟩ : ∃ n, n = W.length + 1 := ⟨_, rfl⟩
 have HNW := Lib.hid hn
 obtain ⟨b, off, rfl, hbD, hbg, hb0, hbc⟩ := hm.h3 (by simp)
 obtain ⟨tg, tf, rfl, htD, htg, ht0, hbt, htb, htf⟩ := hm.ht rfl x rfl
 rw [← hn] at htb M0 ⊢
 have HbD := Lib.hid hbD
 have Hbg := Lib.hid hbg
 have Hb0 := Lib.hid hb0
 have P0 := Lib.hid (hbc 0 (by simp))
 have HtD := Lib.hid htD
 have Htg := Lib.hid htg
 have Ht0 := Lib.hid ht0
 have Hbt := Lib.hid (hbt b off rfl)
 have T0 := Lib.hid htb
 have HTF := Lib.hid htf
 have HgD := Lib.hid hm.hD
 have HPN := Lib.hid (show p < n by omega)
 have i1 : (p : Int) < (n : Int) := by omega
 have i2 : (0 : Int) < (1 : Int) := by omega
 obtain ⟨res, hres⟩ : ∃ res, res = endsB (Lg x) W (fun q => decide (q = p)) := ⟨_, rfl⟩
 have HRES := Lib.hid hres
 obtain ⟨sp, hsp⟩ : ∃ sp : Nat → Bool, sp = fun q => decide (q = p) := ⟨_, rfl⟩
 have HSP := Lib.hid hsp
 obtain ⟨kn2, hkn2⟩ : ∃ kn2 : Nat → Bool, kn2 = fun q => kn q || sp q := ⟨_, rfl⟩
 have HKN := Lib.hid hkn2
 obtain ⟨q, hq⟩ : ∃ q, q = kn p := ⟨_, rfl⟩
 have HQ := Lib.hid hq
 obtain ⟨i0, hi0, hz0⟩ := info_set
 obtain ⟨zs, hzs⟩ : ∃ z : Nat → Bool, z = fun _ => false := ⟨_, rfl⟩
 rw [← hzs] at hz0
 rw [← hres]
 clear ih hW hx hp hsz hm hn hbD hbg hb0 hbc htD htg ht0 hbt htb htf hres hsp hkn2 hq hzs
 go_enter Tryz.func71, Tryz.ntmps71
 go_wp2_with (first
  | ((with_reducible refine atDst 4 ?_); refine wpList_new rfl 26 rfl i0 _ (wds zs) hi0 hz0 rfl (Below.refl w.heap.size w) (Nat.le_refl _) ?_; intro w1 hk1 hb1 hs1 ho1; have Z1 := Lib.hid hk1; have B1 := Lib.hid hb1; have M1 := Lib.hid (M0.out.stay (w' := w1) fun k hk => ho1 k (HSZ.out k hk)); clear hk1 hb1 hs1 ho1; (try simp only [Act.put, qA, qB, qC]))
  | ((with_reducible refine atDst 8 ?_); refine wpList_load_mid rfl 26 _ rfl g 6 rfl (wds kn) _ (mcl_at M1.out.blk).2.2.2.2 Tryz.underlying26 rfl (size_set kn) ?_; (try simp only [Act.put, qA, qB, qC])))
 refine (bsHas_any kn p w1 (by have := HP.out; have := HW.out; omega)).mono ?_
 rintro e wA ⟨rfl, hb2⟩
 rw [← HQ.out]
 have BA := Lib.hid (B1.out.trans (hb2.mono B1.out.size))
 have MNA := Lib.hid (M1.out.stay (w' := wA) fun k hk => hb2.block k (Nat.lt_of_lt_of_le (HSZ.out k hk) B1.out.size))
 have ZA := Lib.hid (Z1.out.below hb2 Z1.out.lt)
 have PA := Lib.hid (cell_heap P0.out (BA.out.block b (HSZ.out b HbD.out)))
 have TA := Lib.hid (T0.out.below BA.out (HSZ.out tg HtD.out))
 have OA := Lib.hid (Off.new D BA.out)
 clear hb2
 cases q with
 | true =>
  have MN := MNA
  have MZ := ZA
  have OZ := Lib.hid (OA.out.mono (D' := fun k => D k ∨ k = w.heap.size) fun k _ h => .inl h)
  have RT := Lib.hid (show wA.rangeAt tg (p * 4) (wds res) by have := flatS_range TA.out HPN.out; rwa [HTF.out p HP.out HQ.out.symm, ← HRES.out] at this)
  have c10 := (mcl_at MNA.out.blk).2.2.1
  go_wp2_with (first
   | ((with_reducible refine atDst 43 ?_); refine wpList_load_mid rfl 26 _ rfl tg (p * 4) rfl (wds res) _ RT.out Tryz.underlying26 rfl (size_set res) ?_; (try simp only [Act.put, qA, qB, qC]))
   | ((with_reducible refine atStore 26 4 43 ?_); refine wpList_stBlk rfl 26 _ _ rfl w.heap.size (wds res) rfl rfl 26 _ MZ.out (size_set res) rfl (wds_all _) (Below.refl w.heap.size _) (Nat.le_refl _) ?_; intro w11 hk11 hb11 hs11 ho11; have L11 := Lib.hid hk11; have OF := Lib.hid (OZ.out.trans (Off.put (D := fun k => D k ∨ k = w.heap.size) hb11 ho11 (.inr (.inr rfl)))); have O11 := Lib.hid ho11; clear hk11 hb11 hs11 ho11; (try simp only [Act.put, qA, qB, qC])))
  refine bodyPost_ret (results_blk rfl _ _ w.heap.size 26 _ _ rfl L11.out Tryz.underlying26 rfl (size_set res)) rfl ?_
  refine ⟨by rw [HRES.out], ⟨_, MN.out.stay (w' := w11) fun k hk => O11.out k (by have h1 := HSZ.out k hk; show k ≠ w.heap.size; omega)⟩, ?_⟩
  exact ⟨OF.out.os, OF.out.tape, OF.out.output, OF.out.size, fun k hk hn => OF.out.block k hk (by rintro (h | h); exact hn h; omega)⟩
 | false =>
  have GA := Lib.hid MNA.out.blk
  go_wp2_with fail
  refine sg_start (S := fun V => Off (fun k => k = g) wA V) (by kernel_rfl) (Off.start _ _) (fun wd hwd => ?_)
  have hX : Off (fun k => k = g) wA wd := by rw [hwd]; exact Off.start _ _
  have GD := Lib.hid (show Blk wd g 68 (mcl 6 zeroS (.slice (some ⟨b, off, none⟩) 1 cap) kn (.slice (some ⟨tg, 0, none⟩) n n)) by rw [hwd]; exact GA.out)
  clear hwd
  refine sg_take (i := 0) (oi := ⟨some 12, _, _, _, _, _⟩) (v := ?_) rfl (by kernel_rfl) (by kernel_rfl) (by kernel_rfl) (fun _ _ _ h => h) rfl hX ?_ ?_; rotate_left; (intro W hW; go_simp; try with_reducible rfl); simp only [Act.put, qA, qB, qC]
  refine sg_take (i := 1) (oi := ⟨some 13, _, _, _, _, _⟩) (v := ?_) rfl (by kernel_rfl) (by kernel_rfl) (by kernel_rfl) (fun _ _ _ h => h) rfl hX ?_ ?_; rotate_left; (intro W hW; go_simp; try with_reducible rfl); simp only [Act.put, qA, qB, qC]
  refine sg_take (i := 2) (oi := ⟨some 14, _, _, _, _, _⟩) (v := ?_) rfl (by kernel_rfl) (by kernel_rfl) (by kernel_rfl) (fun _ _ _ h => h) rfl hX ?_ ?_; rotate_left; (intro W hW; go_simp; try with_reducible rfl); simp only [Act.put, qA, qB, qC]
  refine sg_take (i := 3) (oi := ⟨some 15, _, _, _, _, _⟩) (v := ?_) rfl (by kernel_rfl) (by kernel_rfl) (by kernel_rfl) (fun _ _ _ h => h) rfl hX ?_ ?_; rotate_left; (intro W hW; go_simp; try with_reducible rfl); simp only [Act.put, qA, qB, qC]
  refine sg_take (i := 5) (oi := ⟨some 17, _, _, _, _, _⟩) (v := ?_) rfl (by kernel_rfl) (by kernel_rfl) (by kernel_rfl) (fun _ _ _ h => h) rfl hX ?_ ?_; rotate_left; (intro W hW; go_simp; try with_reducible rfl); simp only [Act.put, qA, qB, qC]
  refine sg_two (i := 4) (j := 6) (oi := ⟨some 16, _, _, _, _, _⟩) (oj := ⟨some 18, _, _, _, _, _⟩) rfl rfl (by kernel_rfl) rfl rfl hX (fun K hK => ?_) (fun K hK => ?_)
  ·refine wp_load_mid 26 _ rfl g 6 rfl (wds kn) _ (mcl_at GD.out).2.2.2.2 Tryz.underlying26 rfl (size_set kn) ?_
   refine hK _ _ hX ?_
   clear hK K
   (try simp only [Act.put, qA, qB, qC])
   refine sg_actB (i := 6) (o := ⟨some 18, _, _, _, _, _⟩) rfl (by kernel_rfl) rfl hX (fun K hK => ?_)
   go_wp2_with fail
   refine (lPlace_any p wd (by have := HP.out; have := HW.out; omega)).mono ?_
   rintro e w3 ⟨rfl, hb3⟩
   rw [← HSP.out]
   go_wp2_with fail
   refine hK _ _ (hX.then hb3) ?_
   clear hK K
   (try simp only [Act.put, qA, qB, qC])
   replace hX := hX.then hb3
   have GK3 := Lib.hid (GD.out.below hb3 GD.out.lt)
   refine sg_actB (i := 7) (o := ⟨some 19, _, _, _, _, _⟩) rfl (by kernel_rfl) rfl hX (fun K hK => ?_)
   go_wp2_with fail
   refine (bsOr_any kn sp w3).mono ?_
   rintro e w4 ⟨rfl, hb4⟩
   rw [← HKN.out]
   go_wp2_with fail
   refine hK _ _ (hX.then hb4) ?_
   clear hK K
   (try simp only [Act.put, qA, qB, qC])
   replace hX := hX.then hb4
   have G4 := Lib.hid (GK3.out.below hb4 GK3.out.lt)
   refine sg_take (i := 8) (oi := ⟨some 20, _, _, _, _, _⟩) (v := ?_) rfl (by kernel_rfl) (by kernel_rfl) (by kernel_rfl) (fun _ _ _ h => h) rfl hX ?_ ?_; rotate_left; (intro W hW; go_simp; try with_reducible rfl); simp only [Act.put, qA, qB, qC]
   refine sg_take (i := 9) (oi := ⟨some 21, _, _, _, _, _⟩) (v := ?_) rfl (by kernel_rfl) (by kernel_rfl) (by kernel_rfl) (fun _ _ _ h => h) rfl hX ?_ ?_; rotate_left; (intro W hW; go_simp; try with_reducible rfl); simp only [Act.put, qA, qB, qC]
   refine sg_actB (i := 10) (o := ⟨none, _, _, _, _, _⟩) rfl (by kernel_rfl) rfl hX (fun K hK => ?_)
   refine wp_store_mid 26 _ _ rfl g 6 (wds kn2).toArray rfl rfl (blk_there G4.out 6 4 (by simp [mcl_len])) (size_set kn2) (wds_allA kn2) ?_
   have hX9 := hX.trans (Off.setCells (D := fun k => k = g) rfl (wds kn2) 6 w4)
   refine hK _ _ hX9 ?_
   clear hK K
   refine wpAnyH_done (by kernel_rfl) ?_ _
   have GB := Lib.hid (mcl_known G4.out kn2)
   obtain ⟨wB, hwB⟩ : ∃ wB, wB = w4.setCells g 6 (wds kn2) := ⟨_, rfl⟩
   have e1 : w4.setCells g 6 (wds kn2).toArray.toList = wB := hwB.symm
   rw [e1]
   rw [← hwB] at GB hX9
   have OB := Lib.hid hX9
   clear hX hX9 hwB e1 hb3 hb4
   have GA : ∀ k, D k → k ≠ g → wB.heap[k]? = wA.heap[k]? := fun k hk hne => OB.out.block k (Nat.lt_of_lt_of_le (HSZ.out k hk) OA.out.size) hne
   have PB := Lib.hid (cell_heap PA.out (GA b HbD.out Hbg.out))
   have TB := Lib.hid (show Blk wB tg 26 (flatS n tf) from (GA tg HtD.out Htg.out).trans TA.out)
   have CB := Lib.hid ((MNA.out.hc 0 x rfl).stay fun k hk => GA k (MNA.out.hs 0 k hk) fun e => MNA.out.hg 0 (e ▸ hk))
   have ZB := Lib.hid (show Blk wB w.heap.size 26 (wds zs) from OB.out.blk (fun e => by have := HSZ.out g HgD.out; omega) ZA.out)
   have OWB := Lib.hid (show Off D w wB from ⟨OB.out.os.trans OA.out.os, OB.out.tape.trans OA.out.tape, OB.out.output.trans OA.out.output, Nat.le_trans OA.out.size OB.out.size, fun k hk hn => (OB.out.block k (Nat.lt_of_lt_of_le hk OA.out.size) (fun e => hn (e ▸ HgD.out))).trans (OA.out.block k hk hn)⟩)
   have LTB := Lib.hid (fun k hk => Nat.lt_of_lt_of_le (HSZ.out k hk) OWB.out.size)
   clear GA
   go_wp2_with fail
   refine sg_start (S := fun V => Off (fun k => Ds 0 k ∨ k = tg) wB V) (by kernel_rfl) (Off.start _ _) (fun wd hwd => ?_)
   have hX : Off (fun k => Ds 0 k ∨ k = tg) wB wd := by rw [hwd]; exact Off.start _ _
   have hwb : Below wB.heap.size wB wd := by rw [hwd]; exact (Below.refl _ _).drew
   clear hwd
   refine sg_take (i := 0) (oi := ⟨some 22, _, _, _, _, _⟩) (v := ?_) rfl (by kernel_rfl) (by kernel_rfl) (by kernel_rfl) (fun _ _ _ h => h) rfl hX ?_ ?_; rotate_left; (intro W hW; go_simp; try with_reducible rfl); simp only [Act.put, qA, qB, qC]
   refine sg_take (i := 1) (oi := ⟨some 23, _, _, _, _, _⟩) (v := ?_) rfl (by kernel_rfl) (by kernel_rfl) (by kernel_rfl) (fun _ _ _ h => h) rfl hX ?_ ?_; rotate_left; (intro W hW; go_simp; try with_reducible rfl); simp only [Act.put, qA, qB, qC]
   refine sg_take (i := 2) (oi := ⟨some 24, _, _, _, _, _⟩) (v := ?_) rfl (by kernel_rfl) (by kernel_rfl) (by kernel_rfl) (fun _ _ _ h => h) rfl hX ?_ ?_; rotate_left; (intro W hW; go_simp; try with_reducible rfl); simp only [Act.put, qA, qB, qC]
   refine sg_take (i := 3) (oi := ⟨some 25, _, _, _, _, _⟩) (v := .slice (some ⟨tg, 0, none⟩) n n) rfl (by kernel_rfl) (by kernel_rfl) (by kernel_rfl) (fun _ _ _ h => h) rfl hX (fun V hV => ld_ss (.tmp 24) rfl rfl (hV.cell GB.out.lt (by rintro (h | h); exact MNA.out.hg 0 h; exact Htg.out h.symm) (mcl_at GB.out).2.2.1)) ?_; simp only [Act.put, qA, qB, qC]
   refine sg_take (i := 4) (oi := ⟨some 26, _, _, _, _, _⟩) (v := ?_) rfl (by kernel_rfl) (by kernel_rfl) (by kernel_rfl) (fun _ _ _ h => h) rfl hX ?_ ?_; rotate_left; (intro W hW; go_simp; try with_reducible rfl); simp only [Act.put, qA, qB, qC]
   refine sg_take (i := 5) (oi := ⟨some 27, _, _, _, _, _⟩) (v := ?_) rfl (by kernel_rfl) (by kernel_rfl) (by kernel_rfl) (fun _ _ _ h => h) rfl hX ?_ ?_; rotate_left; (intro W hW; go_simp; try with_reducible rfl); simp only [Act.put, qA, qB, qC]
   refine sg_take (i := 6) (oi := ⟨some 28, _, _, _, _, _⟩) (v := ?_) rfl (by kernel_rfl) (by kernel_rfl) (by kernel_rfl) (fun _ _ _ h => h) rfl hX ?_ ?_; rotate_left; (intro W hW; go_simp; try with_reducible rfl); simp only [Act.put, qA, qB, qC]
   refine sg_take (i := 7) (oi := ⟨some 29, _, _, _, _, _⟩) (v := ?_) rfl (by kernel_rfl) (by kernel_rfl) (by kernel_rfl) (fun _ _ _ h => h) rfl hX ?_ ?_; rotate_left; (intro W hW; go_simp; try with_reducible rfl); simp only [Act.put, qA, qB, qC]
   refine sg_take (i := 8) (oi := ⟨some 30, _, _, _, _, _⟩) (v := .slice (some ⟨b, off, none⟩) 1 cap) rfl (by kernel_rfl) (by kernel_rfl) (by kernel_rfl) (fun _ _ _ h => h) rfl hX (fun V hV => ld_ms (.tmp 29) rfl rfl (hV.cell GB.out.lt (by rintro (h | h); exact MNA.out.hg 0 h; exact Htg.out h.symm) (mcl_at GB.out).2.1)) ?_; simp only [Act.put, qA, qB, qC]
   refine sg_take (i := 9) (oi := ⟨some 31, _, _, _, _, _⟩) (v := ?_) rfl (by kernel_rfl) (by kernel_rfl) (by kernel_rfl) (fun _ _ _ h => h) rfl hX ?_ ?_; rotate_left; (intro W hW; go_simp; try with_reducible rfl); simp only [Act.put, qA, qB, qC]
   refine sg_take (i := 10) (oi := ⟨some 32, _, _, _, _, _⟩) (v := .pointer (some ⟨gp 0, 0, none⟩)) rfl (by kernel_rfl) (by kernel_rfl) (by kernel_rfl) (fun _ _ _ h => h) rfl hX (fun V hV => ld_mp (.tmp 31) rfl rfl (hV.cell (LTB.out b HbD.out) (by rintro (h | h); exact Hb0.out 0 h; exact Hbt.out h) PB.out)) ?_; simp only [Act.put, qA, qB, qC]
   refine sg_take (i := 11) (oi := ⟨some 33, _, _, _, _, _⟩) (v := ?_) rfl (by kernel_rfl) (by kernel_rfl) (by kernel_rfl) (fun _ _ _ h => h) rfl hX ?_ ?_; rotate_left; (intro W hW; go_simp; try with_reducible rfl); simp only [Act.put, qA, qB, qC]
   refine sg_actB (i := 12) (o := ⟨some 34, _, _, _, _, _⟩) rfl (by kernel_rfl) rfl hX (fun K hK => ?_)
   go_wp2_with fail
   refine (lPlace_any p wd (by have := HP.out; have := HW.out; omega)).mono ?_
   rintro e w3 ⟨rfl, hb3⟩
   rw [← HSP.out]
   go_wp2_with fail
   refine hK _ _ (hX.then hb3) ?_
   clear hK K
   (try simp only [Act.put, qA, qB, qC])
   replace hX := hX.then hb3
   have CB3 := Lib.hid (CB.out.stay (w' := w3) fun k hk => (hwb.trans (hb3.mono hwb.size)).block k (LTB.out k (MNA.out.hs 0 k hk)))
   have LT3 := Lib.hid (fun k (hk : Ds 0 k) => Nat.lt_of_lt_of_le (LTB.out k (MNA.out.hs 0 k hk)) hX.size)
   refine sg_actB (i := 13) (o := ⟨some 35, _, _, _, _, _⟩) rfl (by kernel_rfl) rfl hX (fun K hK => ?_)
   go_wp2_with fail
   refine (IH.out x HXN.out W HW.out (Ds 0) (gp 0) w3 CB3.out LT3.out sp (by rw [HSP.out]; intro q hq; have h1 : q = p := (by simpa using hq); have h2 := HP.out; omega)).mono ?_
   rintro e w4 ⟨rfl, hm4, ho4⟩
   rw [HSP.out, ← HRES.out]
   go_wp2_with fail
   refine hK _ _ (hX.trans (ho4.mono fun k _ h => .inl h)) ?_
   clear hK K
   (try simp only [Act.put, qA, qB, qC])
   replace hX := hX.trans (ho4.mono fun k _ h => .inl h)
   have T4 := Lib.hid (show Blk w4 tg 26 (flatS n tf) from ho4.blk (Ht0.out 0) (TB.out.below (hwb.trans (hb3.mono hwb.size)) TB.out.lt))
   refine sg_take (i := 14) (oi := ⟨some 36, _, _, _, _, _⟩) (v := ?_) rfl (by kernel_rfl) (by kernel_rfl) (by kernel_rfl) (fun _ _ _ h => h) rfl hX ?_ ?_; rotate_left; (intro W hW; go_simp; try with_reducible rfl); simp only [Act.put, qA, qB, qC]
   refine sg_actB (i := 15) (o := ⟨none, _, _, _, _, _⟩) rfl (by kernel_rfl) rfl hX (fun K hK => ?_)
   refine wp_store_mid 26 _ _ rfl tg (p * 4) (wds res).toArray rfl rfl (blk_there T4.out (p * 4) 4 (by rw [flatS_len]; have := HPN.out; omega)) (size_set res) (wds_allA res) ?_
   have hX9 := hX.trans (Off.setCells (D := fun k => Ds 0 k ∨ k = tg) (.inr rfl) (wds res) (p * 4) w4)
   refine hK _ _ hX9 ?_
   clear hK K
   refine wpAnyH_done (by kernel_rfl) ?_ _
   have TC := Lib.hid (flatS_put T4.out res HPN.out)
   have CC := Lib.hid (hm4.stay (w' := w4.setCells tg (p * 4) (wds res)) fun k hk => (Off.setCells (D := fun k => k = tg) rfl (wds res) (p * 4) w4).block k (Nat.lt_of_lt_of_le (LT3.out k hk) ho4.size) (fun e => Ht0.out 0 (e ▸ hk)))
   obtain ⟨wC, hwC⟩ : ∃ wC, wC = w4.setCells tg (p * 4) (wds res) := ⟨_, rfl⟩
   have e1 : w4.setCells tg (p * 4) (wds res).toArray.toList = wC := hwC.symm
   rw [e1]
   rw [← hwC] at TC CC hX9
   have OC := Lib.hid hX9
   clear hX hX9 hwC e1 hb3 ho4 hm4 hwb
   have GC := Lib.hid (OC.out.blk (by rintro (h | h); exact MNA.out.hg 0 h; exact Htg.out h.symm) GB.out)
   have PC := Lib.hid (OC.out.cell (LTB.out b HbD.out) (by rintro (h | h); exact Hb0.out 0 h; exact Hbt.out h) PB.out)
   have MZ := Lib.hid (show Blk wC w.heap.size 26 (wds zs) from OC.out.blk (by rintro (h | h); have h1 := HSZ.out _ (MNA.out.hs 0 _ h); omega; have h1 := HSZ.out _ HtD.out; omega) ZB.out)
   have OZ0 := Lib.hid (OWB.out.trans (OC.out.mono (D' := D) fun k _ h => by rcases h with h | h; exact MNA.out.hs 0 k h; exact h ▸ HtD.out))
   have OZ := Lib.hid (OZ0.out.mono (D' := fun k => D k ∨ k = w.heap.size) fun k _ h => .inl h)
   have MN := Lib.hid (show MatN W wC D g 6 s [x] (some ⟨b, off, none⟩) cap gp Ds kn2 (.slice (some ⟨tg, 0, none⟩) n n) from
    {hD := HgD.out, hg := MNA.out.hg, blk := GC.out, h1 := MNA.out.h1, h2 := MNA.out.h2
     h3 := fun _ => ⟨b, off, rfl, HbD.out, Hbg.out, Hb0.out, fun i hi => by obtain rfl : i = 0 := (by simpa using hi); exact PC.out⟩
     ht := fun _ y hy => by
      injection hy with hy
      subst hy
      exact ⟨tg, updS tf p res, by rw [HNW.out], HtD.out, Htg.out, Ht0.out, fun b' off' h => by injection h with h; injection h with h; exact h ▸ Hbt.out, by rw [← HNW.out]; exact TC.out, fun q hq hk => by
       unfold updS
       by_cases hqp : q = p
       ·rw [if_pos hqp, HRES.out, hqp]
       ·rw [if_neg hqp]
        refine HTF.out q hq ?_
        rw [HKN.out, HSP.out] at hk
        simpa [hqp] using hk⟩
     hn := fun h => absurd ⟨rfl, rfl⟩ h, hs := MNA.out.hs, hd := MNA.out.hd
     hc := fun i t h => by
      match i, h with
      | 0, h => injection h with h; subst h; exact CC.out
      | i + 1, h => simp at h })
   have RT := Lib.hid (show wC.rangeAt tg (p * 4) (wds res) by have := flatS_range TC.out HPN.out; unfold updS at this; rwa [if_pos rfl] at this)
   have c10 := (mcl_at GC.out).2.2.1
   go_wp2_with (first
    | ((with_reducible refine atDst 43 ?_); refine wpList_load_mid rfl 26 _ rfl tg (p * 4) rfl (wds res) _ RT.out Tryz.underlying26 rfl (size_set res) ?_; (try simp only [Act.put, qA, qB, qC]))
    | ((with_reducible refine atStore 26 4 43 ?_); refine wpList_stBlk rfl 26 _ _ rfl w.heap.size (wds res) rfl rfl 26 _ MZ.out (size_set res) rfl (wds_all _) (Below.refl w.heap.size _) (Nat.le_refl _) ?_; intro w11 hk11 hb11 hs11 ho11; have L11 := Lib.hid hk11; have OF := Lib.hid (OZ.out.trans (Off.put (D := fun k => D k ∨ k = w.heap.size) hb11 ho11 (.inr (.inr rfl)))); have O11 := Lib.hid ho11; clear hk11 hb11 hs11 ho11; (try simp only [Act.put, qA, qB, qC])))
   refine bodyPost_ret (results_blk rfl _ _ w.heap.size 26 _ _ rfl L11.out Tryz.underlying26 rfl (size_set res)) rfl ?_
   refine ⟨by rw [HRES.out], ⟨_, MN.out.stay (w' := w11) fun k hk => O11.out k (by have h1 := HSZ.out k hk; show k ≠ w.heap.size; omega)⟩, ?_⟩
   exact ⟨OF.out.os, OF.out.tape, OF.out.output, OF.out.size, fun k hk hn => OF.out.block k hk (by rintro (h | h); exact hn h; omega)⟩
  ·go_wp2_with fail
   refine (lPlace_any p wd (by have := HP.out; have := HW.out; omega)).mono ?_
   rintro e w3 ⟨rfl, hb3⟩
   rw [← HSP.out]
   go_wp2_with fail
   refine hK _ _ (hX.then hb3) ?_
   clear hK K
   (try simp only [Act.put, qA, qB, qC])
   replace hX := hX.then hb3
   have GK3 := Lib.hid (GD.out.below hb3 GD.out.lt)
   refine sg_actB (i := 4) (o := ⟨some 16, _, _, _, _, _⟩) rfl (by kernel_rfl) rfl hX (fun K hK => ?_)
   refine wp_load_mid 26 _ rfl g 6 rfl (wds kn) _ (mcl_at GK3.out).2.2.2.2 Tryz.underlying26 rfl (size_set kn) ?_
   refine hK _ _ hX ?_
   clear hK K
   (try simp only [Act.put, qA, qB, qC])
   refine sg_actB (i := 7) (o := ⟨some 19, _, _, _, _, _⟩) rfl (by kernel_rfl) rfl hX (fun K hK => ?_)
   go_wp2_with fail
   refine (bsOr_any kn sp w3).mono ?_
   rintro e w4 ⟨rfl, hb4⟩
   rw [← HKN.out]
   go_wp2_with fail
   refine hK _ _ (hX.then hb4) ?_
   clear hK K
   (try simp only [Act.put, qA, qB, qC])
   replace hX := hX.then hb4
   have G4 := Lib.hid (GK3.out.below hb4 GK3.out.lt)
   refine sg_take (i := 8) (oi := ⟨some 20, _, _, _, _, _⟩) (v := ?_) rfl (by kernel_rfl) (by kernel_rfl) (by kernel_rfl) (fun _ _ _ h => h) rfl hX ?_ ?_; rotate_left; (intro W hW; go_simp; try with_reducible rfl); simp only [Act.put, qA, qB, qC]
   refine sg_take (i := 9) (oi := ⟨some 21, _, _, _, _, _⟩) (v := ?_) rfl (by kernel_rfl) (by kernel_rfl) (by kernel_rfl) (fun _ _ _ h => h) rfl hX ?_ ?_; rotate_left; (intro W hW; go_simp; try with_reducible rfl); simp only [Act.put, qA, qB, qC]
   refine sg_actB (i := 10) (o := ⟨none, _, _, _, _, _⟩) rfl (by kernel_rfl) rfl hX (fun K hK => ?_)
   refine wp_store_mid 26 _ _ rfl g 6 (wds kn2).toArray rfl rfl (blk_there G4.out 6 4 (by simp [mcl_len])) (size_set kn2) (wds_allA kn2) ?_
   have hX9 := hX.trans (Off.setCells (D := fun k => k = g) rfl (wds kn2) 6 w4)
   refine hK _ _ hX9 ?_
   clear hK K
   refine wpAnyH_done (by kernel_rfl) ?_ _
   have GB := Lib.hid (mcl_known G4.out kn2)
   obtain ⟨wB, hwB⟩ : ∃ wB, wB = w4.setCells g 6 (wds kn2) := ⟨_, rfl⟩
   have e1 : w4.setCells g 6 (wds kn2).toArray.toList = wB := hwB.symm
   rw [e1]
   rw [← hwB] at GB hX9
   have OB := Lib.hid hX9
   clear hX hX9 hwB e1 hb3 hb4
   have GA : ∀ k, D k → k ≠ g → wB.heap[k]? = wA.heap[k]? := fun k hk hne => OB.out.block k (Nat.lt_of_lt_of_le (HSZ.out k hk) OA.out.size) hne
   have PB := Lib.hid (cell_heap PA.out (GA b HbD.out Hbg.out))
   have TB := Lib.hid (show Blk wB tg 26 (flatS n tf) from (GA tg HtD.out Htg.out).trans TA.out)
   have CB := Lib.hid ((MNA.out.hc 0 x rfl).stay fun k hk => GA k (MNA.out.hs 0 k hk) fun e => MNA.out.hg 0 (e ▸ hk))
   have ZB := Lib.hid (show Blk wB w.heap.size 26 (wds zs) from OB.out.blk (fun e => by have := HSZ.out g HgD.out; omega) ZA.out)
   have OWB := Lib.hid (show Off D w wB from ⟨OB.out.os.trans OA.out.os, OB.out.tape.trans OA.out.tape, OB.out.output.trans OA.out.output, Nat.le_trans OA.out.size OB.out.size, fun k hk hn => (OB.out.block k (Nat.lt_of_lt_of_le hk OA.out.size) (fun e => hn (e ▸ HgD.out))).trans (OA.out.block k hk hn)⟩)
   have LTB := Lib.hid (fun k hk => Nat.lt_of_lt_of_le (HSZ.out k hk) OWB.out.size)
   clear GA
   go_wp2_with fail
   refine sg_start (S := fun V => Off (fun k => Ds 0 k ∨ k = tg) wB V) (by kernel_rfl) (Off.start _ _) (fun wd hwd => ?_)
   have hX : Off (fun k => Ds 0 k ∨ k = tg) wB wd := by rw [hwd]; exact Off.start _ _
   have hwb : Below wB.heap.size wB wd := by rw [hwd]; exact (Below.refl _ _).drew
   clear hwd
   refine sg_take (i := 0) (oi := ⟨some 22, _, _, _, _, _⟩) (v := ?_) rfl (by kernel_rfl) (by kernel_rfl) (by kernel_rfl) (fun _ _ _ h => h) rfl hX ?_ ?_; rotate_left; (intro W hW; go_simp; try with_reducible rfl); simp only [Act.put, qA, qB, qC]
   refine sg_take (i := 1) (oi := ⟨some 23, _, _, _, _, _⟩) (v := ?_) rfl (by kernel_rfl) (by kernel_rfl) (by kernel_rfl) (fun _ _ _ h => h) rfl hX ?_ ?_; rotate_left; (intro W hW; go_simp; try with_reducible rfl); simp only [Act.put, qA, qB, qC]
   refine sg_take (i := 2) (oi := ⟨some 24, _, _, _, _, _⟩) (v := ?_) rfl (by kernel_rfl) (by kernel_rfl) (by kernel_rfl) (fun _ _ _ h => h) rfl hX ?_ ?_; rotate_left; (intro W hW; go_simp; try with_reducible rfl); simp only [Act.put, qA, qB, qC]
   refine sg_take (i := 3) (oi := ⟨some 25, _, _, _, _, _⟩) (v := .slice (some ⟨tg, 0, none⟩) n n) rfl (by kernel_rfl) (by kernel_rfl) (by kernel_rfl) (fun _ _ _ h => h) rfl hX (fun V hV => ld_ss (.tmp 24) rfl rfl (hV.cell GB.out.lt (by rintro (h | h); exact MNA.out.hg 0 h; exact Htg.out h.symm) (mcl_at GB.out).2.2.1)) ?_; simp only [Act.put, qA, qB, qC]
   refine sg_take (i := 4) (oi := ⟨some 26, _, _, _, _, _⟩) (v := ?_) rfl (by kernel_rfl) (by kernel_rfl) (by kernel_rfl) (fun _ _ _ h => h) rfl hX ?_ ?_; rotate_left; (intro W hW; go_simp; try with_reducible rfl); simp only [Act.put, qA, qB, qC]
   refine sg_take (i := 5) (oi := ⟨some 27, _, _, _, _, _⟩) (v := ?_) rfl (by kernel_rfl) (by kernel_rfl) (by kernel_rfl) (fun _ _ _ h => h) rfl hX ?_ ?_; rotate_left; (intro W hW; go_simp; try with_reducible rfl); simp only [Act.put, qA, qB, qC]
   refine sg_take (i := 6) (oi := ⟨some 28, _, _, _, _, _⟩) (v := ?_) rfl (by kernel_rfl) (by kernel_rfl) (by kernel_rfl) (fun _ _ _ h => h) rfl hX ?_ ?_; rotate_left; (intro W hW; go_simp; try with_reducible rfl); simp only [Act.put, qA, qB, qC]
   refine sg_take (i := 7) (oi := ⟨some 29, _, _, _, _, _⟩) (v := ?_) rfl (by kernel_rfl) (by kernel_rfl) (by kernel_rfl) (fun _ _ _ h => h) rfl hX ?_ ?_; rotate_left; (intro W hW; go_simp; try with_reducible rfl); simp only [Act.put, qA, qB, qC]
   refine sg_take (i := 8) (oi := ⟨some 30, _, _, _, _, _⟩) (v := .slice (some ⟨b, off, none⟩) 1 cap) rfl (by kernel_rfl) (by kernel_rfl) (by kernel_rfl) (fun _ _ _ h => h) rfl hX (fun V hV => ld_ms (.tmp 29) rfl rfl (hV.cell GB.out.lt (by rintro (h | h); exact MNA.out.hg 0 h; exact Htg.out h.symm) (mcl_at GB.out).2.1)) ?_; simp only [Act.put, qA, qB, qC]
   refine sg_take (i := 9) (oi := ⟨some 31, _, _, _, _, _⟩) (v := ?_) rfl (by kernel_rfl) (by kernel_rfl) (by kernel_rfl) (fun _ _ _ h => h) rfl hX ?_ ?_; rotate_left; (intro W hW; go_simp; try with_reducible rfl); simp only [Act.put, qA, qB, qC]
   refine sg_take (i := 10) (oi := ⟨some 32, _, _, _, _, _⟩) (v := .pointer (some ⟨gp 0, 0, none⟩)) rfl (by kernel_rfl) (by kernel_rfl) (by kernel_rfl) (fun _ _ _ h => h) rfl hX (fun V hV => ld_mp (.tmp 31) rfl rfl (hV.cell (LTB.out b HbD.out) (by rintro (h | h); exact Hb0.out 0 h; exact Hbt.out h) PB.out)) ?_; simp only [Act.put, qA, qB, qC]
   refine sg_take (i := 11) (oi := ⟨some 33, _, _, _, _, _⟩) (v := ?_) rfl (by kernel_rfl) (by kernel_rfl) (by kernel_rfl) (fun _ _ _ h => h) rfl hX ?_ ?_; rotate_left; (intro W hW; go_simp; try with_reducible rfl); simp only [Act.put, qA, qB, qC]
   refine sg_actB (i := 12) (o := ⟨some 34, _, _, _, _, _⟩) rfl (by kernel_rfl) rfl hX (fun K hK => ?_)
   go_wp2_with fail
   refine (lPlace_any p wd (by have := HP.out; have := HW.out; omega)).mono ?_
   rintro e w3 ⟨rfl, hb3⟩
   rw [← HSP.out]
   go_wp2_with fail
   refine hK _ _ (hX.then hb3) ?_
   clear hK K
   (try simp only [Act.put, qA, qB, qC])
   replace hX := hX.then hb3
   have CB3 := Lib.hid (CB.out.stay (w' := w3) fun k hk => (hwb.trans (hb3.mono hwb.size)).block k (LTB.out k (MNA.out.hs 0 k hk)))
   have LT3 := Lib.hid (fun k (hk : Ds 0 k) => Nat.lt_of_lt_of_le (LTB.out k (MNA.out.hs 0 k hk)) hX.size)
   refine sg_actB (i := 13) (o := ⟨some 35, _, _, _, _, _⟩) rfl (by kernel_rfl) rfl hX (fun K hK => ?_)
   go_wp2_with fail
   refine (IH.out x HXN.out W HW.out (Ds 0) (gp 0) w3 CB3.out LT3.out sp (by rw [HSP.out]; intro q hq; have h1 : q = p := (by simpa using hq); have h2 := HP.out; omega)).mono ?_
   rintro e w4 ⟨rfl, hm4, ho4⟩
   rw [HSP.out, ← HRES.out]
   go_wp2_with fail
   refine hK _ _ (hX.trans (ho4.mono fun k _ h => .inl h)) ?_
   clear hK K
   (try simp only [Act.put, qA, qB, qC])
   replace hX := hX.trans (ho4.mono fun k _ h => .inl h)
   have T4 := Lib.hid (show Blk w4 tg 26 (flatS n tf) from ho4.blk (Ht0.out 0) (TB.out.below (hwb.trans (hb3.mono hwb.size)) TB.out.lt))
   refine sg_take (i := 14) (oi := ⟨some 36, _, _, _, _, _⟩) (v := ?_) rfl (by kernel_rfl) (by kernel_rfl) (by kernel_rfl) (fun _ _ _ h => h) rfl hX ?_ ?_; rotate_left; (intro W hW; go_simp; try with_reducible rfl); simp only [Act.put, qA, qB, qC]
   refine sg_actB (i := 15) (o := ⟨none, _, _, _, _, _⟩) rfl (by kernel_rfl) rfl hX (fun K hK => ?_)
   refine wp_store_mid 26 _ _ rfl tg (p * 4) (wds res).toArray rfl rfl (blk_there T4.out (p * 4) 4 (by rw [flatS_len]; have := HPN.out; omega)) (size_set res) (wds_allA res) ?_
   have hX9 := hX.trans (Off.setCells (D := fun k => Ds 0 k ∨ k = tg) (.inr rfl) (wds res) (p * 4) w4)
   refine hK _ _ hX9 ?_
   clear hK K
   refine wpAnyH_done (by kernel_rfl) ?_ _
   have TC := Lib.hid (flatS_put T4.out res HPN.out)
   have CC := Lib.hid (hm4.stay (w' := w4.setCells tg (p * 4) (wds res)) fun k hk => (Off.setCells (D := fun k => k = tg) rfl (wds res) (p * 4) w4).block k (Nat.lt_of_lt_of_le (LT3.out k hk) ho4.size) (fun e => Ht0.out 0 (e ▸ hk)))
   obtain ⟨wC, hwC⟩ : ∃ wC, wC = w4.setCells tg (p * 4) (wds res) := ⟨_, rfl⟩
   have e1 : w4.setCells tg (p * 4) (wds res).toArray.toList = wC := hwC.symm
   rw [e1]
   rw [← hwC] at TC CC hX9
   have OC := Lib.hid hX9
   clear hX hX9 hwC e1 hb3 ho4 hm4 hwb
   have GC := Lib.hid (OC.out.blk (by rintro (h | h); exact MNA.out.hg 0 h; exact Htg.out h.symm) GB.out)
   have PC := Lib.hid (OC.out.cell (LTB.out b HbD.out) (by rintro (h | h); exact Hb0.out 0 h; exact Hbt.out h) PB.out)
   have MZ := Lib.hid (show Blk wC w.heap.size 26 (wds zs) from OC.out.blk (by rintro (h | h); have h1 := HSZ.out _ (MNA.out.hs 0 _ h); omega; have h1 := HSZ.out _ HtD.out; omega) ZB.out)
   have OZ0 := Lib.hid (OWB.out.trans (OC.out.mono (D' := D) fun k _ h => by rcases h with h | h; exact MNA.out.hs 0 k h; exact h ▸ HtD.out))
   have OZ := Lib.hid (OZ0.out.mono (D' := fun k => D k ∨ k = w.heap.size) fun k _ h => .inl h)
   have MN := Lib.hid (show MatN W wC D g 6 s [x] (some ⟨b, off, none⟩) cap gp Ds kn2 (.slice (some ⟨tg, 0, none⟩) n n) from
    {hD := HgD.out, hg := MNA.out.hg, blk := GC.out, h1 := MNA.out.h1, h2 := MNA.out.h2
     h3 := fun _ => ⟨b, off, rfl, HbD.out, Hbg.out, Hb0.out, fun i hi => by obtain rfl : i = 0 := (by simpa using hi); exact PC.out⟩
     ht := fun _ y hy => by
      injection hy with hy
      subst hy
      exact ⟨tg, updS tf p res, by rw [HNW.out], HtD.out, Htg.out, Ht0.out, fun b' off' h => by injection h with h; injection h with h; exact h ▸ Hbt.out, by rw [← HNW.out]; exact TC.out, fun q hq hk => by
       unfold updS
       by_cases hqp : q = p
       ·rw [if_pos hqp, HRES.out, hqp]
       ·rw [if_neg hqp]
        refine HTF.out q hq ?_
        rw [HKN.out, HSP.out] at hk
        simpa [hqp] using hk⟩
     hn := fun h => absurd ⟨rfl, rfl⟩ h, hs := MNA.out.hs, hd := MNA.out.hd
     hc := fun i t h => by
      match i, h with
      | 0, h => injection h with h; subst h; exact CC.out
      | i + 1, h => simp at h })
   have RT := Lib.hid (show wC.rangeAt tg (p * 4) (wds res) by have := flatS_range TC.out HPN.out; unfold updS at this; rwa [if_pos rfl] at this)
   have c10 := (mcl_at GC.out).2.2.1
   go_wp2_with (first
    | ((with_reducible refine atDst 43 ?_); refine wpList_load_mid rfl 26 _ rfl tg (p * 4) rfl (wds res) _ RT.out Tryz.underlying26 rfl (size_set res) ?_; (try simp only [Act.put, qA, qB, qC]))
    | ((with_reducible refine atStore 26 4 43 ?_); refine wpList_stBlk rfl 26 _ _ rfl w.heap.size (wds res) rfl rfl 26 _ MZ.out (size_set res) rfl (wds_all _) (Below.refl w.heap.size _) (Nat.le_refl _) ?_; intro w11 hk11 hb11 hs11 ho11; have L11 := Lib.hid hk11; have OF := Lib.hid (OZ.out.trans (Off.put (D := fun k => D k ∨ k = w.heap.size) hb11 ho11 (.inr (.inr rfl)))); have O11 := Lib.hid ho11; clear hk11 hb11 hs11 ho11; (try simp only [Act.put, qA, qB, qC])))
   refine bodyPost_ret (results_blk rfl _ _ w.heap.size 26 _ _ rfl L11.out Tryz.underlying26 rfl (size_set res)) rfl ?_
   refine ⟨by rw [HRES.out], ⟨_, MN.out.stay (w' := w11) fun k hk => O11.out k (by have h1 := HSZ.out k hk; show k ≠ w.heap.size; omega)⟩, ?_⟩
   exact ⟨OF.out.os, OF.out.tape, OF.out.output, OF.out.size, fun k hk hn => OF.out.block k hk (by rintro (h | h); exact hn h; omega)⟩
end Go.Proofs.YtopnpdobcagcgaaGreat
