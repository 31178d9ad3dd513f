/-
  Texts of this proof, put together: TbC, TbD, TbE, TbF. No statement is proved here.
-/
import Derived.Test.YteadghoojeehlaaGreatDoorWV
import Derived.Test.YteadghoojeehlaaGreatDoorWE
import Derived.Test.YteadghoojeehlaaGreatDoorWK
import Derived.Test.YteadghoojeehlaaGreatDoorWN
import Derived.Test.YteadghoojeehlaaGreatDoorWG
import Derived.Test.YteadghoojeehlaaGreatDoorWI
import Derived.Test.YteadghoojeehlaaGreatDoorWD
namespace Go.Proofs.YteadghoojeehlaaGreatDoor
open Go.RowKit
set_option linter.unusedSimpArgs false
set_option linter.unusedVariables false
mutual
theorem szT_nodes : ∀ t : T, szT t + 1 ≤ 3 * t.nodes
 | .node k s l => by
  have h1 := szC_nodes l
  have h2 := szA_nodes l
  have h3 := szO_nodes l
  simp only [szT, T.nodes]
  split
  ·omega
  ·split
   ·omega
   ·split <;> omega
theorem szC_nodes : ∀ l : List T, szC l ≤ 3 * nodesL l
 | [] => Nat.le_refl _
 | x :: r => by
  have h1 := szT_nodes x
  have h2 := szC_nodes r
  simp only [szC, nodesL]
  omega
theorem szA_nodes : ∀ l : List T, szA l ≤ 3 * nodesL l ∧ (l.length ≠ 0 → szA l + 1 ≤ 3 * nodesL l)
 | [] => ⟨Nat.le_refl _, fun h => absurd rfl h⟩
 | x :: r => by
  have h1 := szT_nodes x
  have h2 := szA_nodes r
  simp only [szA, nodesL]
  split
  ·omega
  ·next h => have := h2.2 h; omega
theorem szO_nodes : ∀ l : List T, szO l ≤ 3 * nodesL l
 | [] => Nat.le_refl _
 | x :: r => by
  have h1 := szT_nodes x
  simp only [szO, nodesL]
  omega
end
def OkF (hi : Nat) (L : List St) : Prop := ∀ s ∈ L, s.to < (hi : Int) ∧ s.free.length ≤ 2 ∧ ∀ f ∈ s.free, 0 ≤ f ∧ f < (hi : Int)
theorem OkF.cons {hi : Nat} {a : St} {L : List St} (h1 : a.to < (hi : Int) ∧ a.free.length ≤ 2 ∧ ∀ f ∈ a.free, 0 ≤ f ∧ f < (hi : Int)) (h2 : OkF hi L) : OkF hi (a :: L) := fun s hs => by
 rcases List.mem_cons.1 hs with rfl | hs
 ·exact h1
 ·exact h2 s hs
theorem OkF.nil (hi : Nat) : OkF hi [] := fun s hs => by cases hs
theorem OkF.app {hi : Nat} {A B : List St} (h1 : OkF hi A) (h2 : OkF hi B) : OkF hi (A ++ B) := fun s hs => by
 rcases List.mem_append.1 hs with hs | hs
 ·exact h1 s hs
 ·exact h2 s hs
theorem ok_stF {hi : Nat} {l : List Int} (h1 : l.length ≤ 2) (h2 : ∀ f ∈ l, 0 ≤ f ∧ f < (hi : Int)) : (stF l).to < (hi : Int) ∧ (stF l).free.length ≤ 2 ∧ ∀ f ∈ (stF l).free, 0 ≤ f ∧ f < (hi : Int) := ⟨by show (-1 : Int) < hi; omega, h1, h2⟩
theorem altL_ok {hi : Nat} : ∀ {l : List T} {p : Nat}, p + szA l ≤ hi → (altL l p).length ≤ 2 ∧ ∀ f ∈ altL l p, 0 ≤ f ∧ f < (hi : Int)
 | [], p, _ => ⟨Nat.zero_le _, fun f hf => by cases hf⟩
 | x :: r, p, h => by
  have h2 := szT_two x
  rw [altL_cons]
  simp only [szA] at h
  split
  ·refine ⟨by simp, fun f hf => ?_⟩
   obtain rfl := List.mem_singleton.1 hf
   omega
  ·next h0 =>
   rw [if_neg h0] at h
   refine ⟨by simp, fun f hf => ?_⟩
   rcases List.mem_cons.1 hf with rfl | hf
   ·omega
   ·obtain rfl := List.mem_singleton.1 hf
    omega
mutual
theorem fragT_ok (hi : Nat) : ∀ (t : T) (n : Nat) (c : List Int), n + szT t ≤ hi → c.length ≤ 2 → (∀ f ∈ c, 0 ≤ f ∧ f < (hi : Int)) → OkF hi (fragT t n c)
 | .node k s l, n, c, h, hc1, hc2 => by
  have hsz := szT_two (.node k s l)
  have hc := ok_stF hc1 hc2
  have one : ∀ x : Nat, x < hi → ((stF [(x : Int)]).to < (hi : Int) ∧ (stF [(x : Int)]).free.length ≤ 2 ∧ ∀ f ∈ (stF [(x : Int)]).free, 0 ≤ f ∧ f < (hi : Int)) := fun x hx => ok_stF (by simp) fun f hf => by
   obtain rfl := List.mem_singleton.1 hf
   omega
  simp only [fragT]
  by_cases h3 : k = 3
  ·rw [if_pos h3]
   exact OkF.cons ⟨by show ((n + 1 : Nat) : Int) < hi; omega, Nat.zero_le _, fun f hf => by cases hf⟩ (OkF.cons hc (OkF.nil hi))
  rw [if_neg h3]
  by_cases h4 : k = 4
  ·subst h4
   simp only [szT, if_true] at h
   rw [if_pos rfl]
   refine OkF.cons ?_ (OkF.cons hc (fragC_ok hi l (n + 2) (n + 1) (by omega) (by omega)))
   split
   ·exact one (n + 1) (by omega)
   ·next h0 =>
    refine one (n + 2) ?_
    cases l with
    | nil => exact absurd rfl h0
    | cons x r => have := szT_two x; simp only [szC] at h; omega
  rw [if_neg h4]
  by_cases h5 : k = 5
  ·subst h5
   rw [if_pos rfl]
   have h' : n + 2 + szA l ≤ hi := by simp [szT] at h; omega
   have ha := altL_ok h'
   exact OkF.cons (ok_stF ha.1 ha.2) (OkF.cons hc (fragA_ok hi l (n + 2) (n + 1) h' (by omega)))
  rw [if_neg h5]
  by_cases h6 : k = 6
  ·subst h6
   rw [if_pos rfl]
   have h' : n + 2 + szO l ≤ hi := by simp [szT] at h; omega
   refine OkF.cons (ok_stF ?_ fun f hf => ?_) (OkF.cons hc (fragO_ok hi l (n + 2) n h' (by omega)))
   ·split <;> simp
   ·rcases List.mem_append.1 hf with hf | hf
    ·split at hf
     ·cases hf
     ·next h0 =>
      obtain rfl := List.mem_singleton.1 hf
      cases l with
      | nil => exact absurd rfl h0
      | cons x r => have := szT_two x; simp only [szO] at h'; omega
    ·obtain rfl := List.mem_singleton.1 hf
     omega
  rw [if_neg h6]
  by_cases h2 : k = 2
  ·rw [if_pos h2]
   exact OkF.cons (one (n + 1) (by omega)) (OkF.cons hc (OkF.nil hi))
  ·rw [if_neg h2]
   exact OkF.cons (ok_stF (by simp) fun f hf => by cases hf) (OkF.cons hc (OkF.nil hi))
theorem fragC_ok (hi : Nat) : ∀ (l : List T) (p z : Nat), p + szC l ≤ hi → z < hi → OkF hi (fragC l p z)
 | [], _, _, _, _ => OkF.nil hi
 | x :: r, p, z, h, hz => by
  simp only [szC] at h
  simp only [fragC]
  refine (fragT_ok hi x p _ (by omega) (by simp) fun f hf => ?_).app (fragC_ok hi r (p + szT x) z (by omega) hz)
  obtain rfl := List.mem_singleton.1 hf
  split
  ·omega
  ·next h0 =>
   cases r with
   | nil => exact absurd rfl h0
   | cons y q => have := szT_two y; simp only [szC] at h; omega
theorem fragA_ok (hi : Nat) : ∀ (l : List T) (p z : Nat), p + szA l ≤ hi → z < hi → OkF hi (fragA l p z)
 | [], _, _, _, _ => OkF.nil hi
 | x :: r, p, z, h, hz => by
  simp only [szA] at h
  simp only [fragA]
  refine (fragT_ok hi x p _ (by omega) (by simp) fun f hf => ?_).app ?_
  ·obtain rfl := List.mem_singleton.1 hf
   omega
  ·split
   ·exact OkF.nil hi
   ·next h0 =>
    rw [if_neg h0] at h
    have ha := altL_ok (hi := hi) (l := r) (p := p + szT x + 1) (by omega)
    exact OkF.cons (ok_stF ha.1 ha.2) (fragA_ok hi r (p + szT x + 1) z (by omega) hz)
theorem fragO_ok (hi : Nat) : ∀ (l : List T) (p z : Nat), p + szO l ≤ hi → z < hi → OkF hi (fragO l p z)
 | [], _, _, _, _ => OkF.nil hi
 | x :: r, p, z, h, hz => by
  simp only [szO] at h
  simp only [fragO]
  refine fragT_ok hi x p _ (by omega) (by simp) fun f hf => ?_
  obtain rfl := List.mem_singleton.1 hf
  omega
end
theorem frag_may {t : T} (h : t.nodes ≤ 400) : MayN (fragT t 0 []) 0 1 := by
 have hl := fragT_len t 0 []
 have h2 := szT_two t
 have h3 := szT_nodes t
 have hok := fragT_ok (fragT t 0 []).length t 0 [] (by rw [hl]; omega) (by simp) (fun f hf => by cases hf)
 exact ⟨by omega, by omega, by omega, by omega, by omega, fun s hs => (hok s hs).1, fun s hs => by have := (hok s hs).2.1; omega, fun s hs => (hok s hs).2.2⟩
/-! ### cells of states -/
def cellsN (S : List St) (fv : Nat → Value) : List (List Value) := S.zipIdx.map fun p => stc p.1 (fv p.2)
theorem cellsN_get (S : List St) (fv : Nat → Value) (i : Nat) : (cellsN S fv)[i]? = S[i]?.map fun s => stc s (fv i) := by
 unfold cellsN
 rw [List.getElem?_map, List.getElem?_zipIdx]
 cases S[i]? <;> simp
theorem cellsN_len (S : List St) (fv : Nat → Value) : (cellsN S fv).length = S.length := by simp [cellsN]
theorem cellsN_six (S : List St) (fv : Nat → Value) : ∀ c ∈ cellsN S fv, c.length = 6 := fun c hc => by
 obtain ⟨p, _, rfl⟩ := List.mem_map.1 hc
 rfl
theorem cellsN_flat (S : List St) (fv : Nat → Value) {i j : Nat} {s : St} (hs : S[i]? = some s) (hj : j < 6) : (cellsN S fv).flatten[i * 6 + j]? = (stc s (fv i))[j]? :=
 flat6_get (cellsN_six S fv) (by rw [cellsN_get, hs]; rfl) j hj
theorem flat6_set : ∀ {cs : List (List Value)} (_ : ∀ c ∈ cs, c.length = 6) {i j : Nat} {c : List Value} (u : Value), cs[i]? = some c → j < 6 → cs.flatten.set (i * 6 + j) u = (cs.set i (c.set j u)).flatten
 | [], _, i, j, c, u, h, _ => by simp at h
 | a :: r, hl, 0, j, c, u, h, hj => by
  have : a = c := by simpa using h
  subst this
  have h6 := hl a (by simp)
  rw [List.flatten_cons, Nat.zero_mul, Nat.zero_add, List.set_append_left _ _ (by omega), List.set_cons_zero, List.flatten_cons]
 | a :: r, hl, i + 1, j, c, u, h, hj => by
  have h6 := hl a (by simp)
  have ih := flat6_set (cs := r) (fun d hd => hl d (List.mem_cons_of_mem _ hd)) (i := i) (j := j) (c := c) u (by simpa using h) hj
  rw [List.flatten_cons, List.set_append_right _ _ (by omega), List.set_cons_succ, List.flatten_cons, ← ih]
  congr 2
  omega
def updV (fv : Nat → Value) (i : Nat) (u : Value) : Nat → Value := fun j => if j = i then u else fv j
theorem cellsN_mod {S : List St} {fv : Nat → Value} {i : Nat} {s : St} (hs : S[i]? = some s) (g : St → St) (u : Value) (c : List Value) (hc : c = stc (g s) u) : (cellsN S fv).set i c = cellsN (S.modify i g) (updV fv i u) := by
 apply List.ext_getElem?
 intro j
 rw [cellsN_get, List.getElem?_modify, List.getElem?_set, cellsN_len]
 have hi := (List.getElem?_eq_some_iff.1 hs).1
 unfold updV
 by_cases hij : i = j
 ·subst hij
  rw [if_pos rfl, if_pos hi, hs, hc]
  simp
 ·rw [if_neg hij, cellsN_get]
  have : ¬ j = i := fun h => hij h.symm
  cases S[j]? <;> simp [hij, this]
theorem cellsN_app (S : List St) (s : St) (fv : Nat → Value) (u : Value) : cellsN (S ++ [s]) (updV fv S.length u) = cellsN S fv ++ [stc s u] := by
 apply List.ext_getElem?
 intro j
 rw [cellsN_get, List.getElem?_append, List.getElem?_append, cellsN_len]
 unfold updV
 by_cases hj : j < S.length
 ·rw [if_pos hj, if_pos hj, cellsN_get, if_neg (by omega)]
 ·rw [if_neg hj, if_neg hj]
  by_cases h0 : j = S.length
  ·subst h0; simp
  ·rw [List.getElem?_eq_none (by simp; omega), List.getElem?_eq_none (by simp; omega)]; rfl
/-! ### rows of the call's own, one cell turned -/
theorem own_set {w : World} {base n k cap g : Nat} {e : TypeId} {xs : List Value} (h : w.ownsRow base e k (.slice (some ⟨g, 0, none⟩) n cap) n xs) {j : Nat} (hj : j < xs.length) (u : Value) : (w.setCell ⟨g, j, none⟩ u).ownsRow base e k (.slice (some ⟨g, 0, none⟩) n cap) n (xs.set j u) := by
 refine ⟨by rw [List.length_set]; exact h.1, ?_⟩
 rcases h.2 with ⟨he, h0⟩ | ⟨g', cap', cur, he, hb, hg, hnc, hcm, hcs, ht⟩
 ·cases he
 ·injection he with h1 h2 h3
  injection h1 with h1
  injection h1 with h1
  subst h1
  subst h3
  refine .inr ⟨g, cap, cur.setIfInBounds j u, rfl, hb, ?_, hnc, hcm, by simp [hcs], ?_⟩
  ·have : Blk w g e cur.toList := by unfold Blk; simpa using hg
   have h2 := this.set j u
   unfold Blk at h2
   rw [h2]
   congr 2
   apply Array.ext'
   simp
  ·rw [Array.toList_setIfInBounds, ← ht, List.take_set]
theorem own_cell {w : World} {base n k cap g : Nat} {e : TypeId} {xs : List Value} (h : w.ownsRow base e k (.slice (some ⟨g, 0, none⟩) n cap) n xs) {j : Nat} {u : Value} (hj : xs[j]? = some u) : w.cell? ⟨g, j, none⟩ = some u ∧ w.frozen? ⟨g, j, none⟩ = false := by
 refine ⟨by have := h.cells (g := g) rfl j u hj; rwa [Addr.add_lit, Nat.zero_add] at this, ?_⟩
 rcases h.2 with ⟨he, h0⟩ | ⟨g', cap', cur, he, hb, hg, hnc, hcm, hcs, ht⟩
 ·cases he
 ·injection he with h1 h2 h3
  injection h1 with h1
  injection h1 with h1
  subst h1
  simp [World.frozen?, hg]
/-! ### a builder -/
structure Bld (w : World) (B g : Nat) (lv : Value) (fv : Nat → Value) (S : List St) : Prop where
 blk : Blk w g 83 [lv]
 own : w.ownsRow B 55 6 lv S.length (cellsN S fv).flatten
 free : ∀ i s, S[i]? = some s → w.ownsRow B 3 1 (fv i) s.free.length (nums .i64 s.free)
 lg : lv.ownBlock ≠ some g
 fg : ∀ i, i < S.length → (fv i).ownBlock ≠ some g
 fl : ∀ i k, i < S.length → (fv i).ownBlock = some k → lv.ownBlock ≠ some k
 ff : ∀ i j k, i < S.length → j < S.length → i ≠ j → (fv i).ownBlock = some k → (fv j).ownBlock ≠ some k
def Bd (g : Nat) (lv : Value) (fv : Nat → Value) (n k : Nat) : Prop := k = g ∨ lv.ownBlock = some k ∨ ∃ i, i < n ∧ (fv i).ownBlock = some k
structure BldV (w : World) (B g : Nat) (D : Nat → Prop) (S : List St) : Prop where
 is : ∃ lv fv, Bld w B g lv fv S ∧ ∀ k, Bd g lv fv S.length k → D k
 dB : ∀ k, D k → B ≤ k
 dl : ∀ k, D k → k < w.heap.size
def up (D : Nat → Prop) (w w' : World) (k : Nat) : Prop := D k ∨ (w.heap.size ≤ k ∧ k < w'.heap.size)
section
variable {w w' w'' : World} {B g : Nat} {D D' : Nat → Prop} {S : List St} {lv : Value} {fv : Nat → Value}
theorem Bld.lt (h : Bld w B g lv fv S) {k : Nat} (hk : Bd g lv fv S.length k) : k < w.heap.size := by
 rcases hk with rfl | hk | ⟨i, hi, hk⟩
 ·exact h.blk.lt
 ·exact (own6_lt h.own k hk).1
 ·exact (own6_lt (h.free i _ (List.getElem?_eq_getElem hi)) k hk).1
theorem Bld.stay (h : Bld w B g lv fv S) (hb : ∀ k, Bd g lv fv S.length k → w'.heap[k]? = w.heap[k]?) : Bld w' B g lv fv S :=
 ⟨(hb g (.inl rfl)).trans h.blk, own6_stay h.own fun j hj => hb j (.inr (.inl hj)), fun i s hs => own6_stay (h.free i s hs) fun j hj => hb j (.inr (.inr ⟨i, (List.getElem?_eq_some_iff.1 hs).1, hj⟩)), h.lg, h.fg, h.fl, h.ff⟩
theorem BldV.below (h : BldV w B g D S) (hb : Below w.heap.size w w') : BldV w' B g D S := by
 obtain ⟨lv, fv, h1, h2⟩ := h.is
 exact ⟨⟨lv, fv, h1.stay fun k hk => hb.block k (h1.lt hk), h2⟩, h.dB, fun k hk => Nat.lt_of_lt_of_le (h.dl k hk) hb.size⟩
theorem BldV.mono (h : BldV w B g D S) (hD : ∀ k, D k → D' k) (hB : ∀ k, D' k → B ≤ k) (hl : ∀ k, D' k → k < w.heap.size) : BldV w B g D' S := by
 obtain ⟨lv, fv, h1, h2⟩ := h.is
 exact ⟨⟨lv, fv, h1, fun k hk => hD k (h2 k hk)⟩, hB, hl⟩
theorem BldV.lt (h : BldV w B g D S) : g < w.heap.size := by
 obtain ⟨lv, fv, h1, h2⟩ := h.is
 exact h1.blk.lt
theorem BldV.size (h : BldV w B g D S) : B ≤ w.heap.size := by
 obtain ⟨lv, fv, h1, h2⟩ := h.is
 exact Nat.le_of_lt (Nat.lt_of_le_of_lt (h.dB g (h2 g (.inl rfl))) h1.blk.lt)
theorem BldV.off (h : BldV w B g D S) (ho : Off D w w') : Below B w w' := ho.below h.dB h.size
theorem up_trans (h1 : w.heap.size ≤ w'.heap.size) (h2 : w'.heap.size ≤ w''.heap.size) : ∀ k, up (up D w w') w' w'' k → up D w w'' k := fun k hk => by
 rcases hk with (hk | hk) | hk
 ·exact .inl hk
 ·exact .inr ⟨hk.1, Nat.lt_of_lt_of_le hk.2 h2⟩
 ·exact .inr ⟨Nat.le_trans h1 hk.1, hk.2⟩
theorem off_trans (x : Off D w w') (y : Off (up D w w') w' w'') : Off D w w'' := by
 refine ⟨y.os.trans x.os, y.tape.trans x.tape, y.output.trans x.output, Nat.le_trans x.size y.size, fun k hk hn => ?_⟩
 refine (y.block k (Nat.lt_of_lt_of_le hk x.size) fun hd => ?_).trans (x.block k hk hn)
 rcases hd with e | e
 ·exact hn e
 ·omega
structure BPost (w : World) (B g : Nat) (D : Nat → Prop) (S : List St) (w' : World) : Prop where
 bld : BldV w' B g (up D w w') S
 off : Off D w w'
 sz : B ≤ w.heap.size
theorem BPost.trans {S' : List St} (x : BPost w B g D S w') (y : BPost w' B g (up D w w') S' w'') : BPost w B g D S' w'' := by
 refine ⟨y.bld.mono (up_trans x.off.size y.off.size) (fun k hk => ?_) (fun k hk => ?_), off_trans x.off y.off, x.sz⟩
 ·rcases hk with hk | hk
  ·exact x.bld.dB k (.inl hk)
  ·exact Nat.le_trans x.sz hk.1
 ·rcases hk with hk | hk
  ·exact y.bld.dl k (.inl (.inl hk))
  ·exact hk.2
theorem BPost.below (x : BPost w B g D S w') {w0 : World} (hD : ∀ k, D k → B ≤ k) (hb : Below B w0 w) : Below B w0 w' := hb.trans (x.off.below hD x.sz)
theorem BPost.pre (hb : Below w.heap.size w w') (hD : ∀ k, D k → k < w.heap.size) (x : BPost w' B g D S w'') (hB : B ≤ w.heap.size) : BPost w B g D S w'' := by
 refine ⟨x.bld.mono (fun k hk => ?_) (fun k hk => ?_) fun k hk => ?_, ?_, hB⟩
 ·rcases hk with hk | hk
  ·exact .inl hk
  ·exact .inr ⟨Nat.le_trans hb.size hk.1, hk.2⟩
 ·rcases hk with hk | hk
  ·exact x.bld.dB k (.inl hk)
  ·exact Nat.le_trans hB hk.1
 ·rcases hk with hk | hk
  ·exact x.bld.dl k (.inl hk)
  ·exact hk.2
 ·exact (Off.new D hb).trans x.off
end
/-! ### laws of rows of states -/
theorem builtN : Tryz.prog.built 55 [(1, .int .i64 (-1))] = some (stc st0 (.slice none 0 0)).toArray := by kernel_rfl
section
variable {P : Program} {w : World} {ops : Array Oper} {rest : List Oper} {o : Oper} {a : Act} {K : Act → World → Prop} {Q : Exit → Act → World → Prop}
theorem wpList_bldN (hg : o.guard = none) (t e : TypeId) (x : Operand) (ho : o.op = .buildSlice t 1 #[(0, x)]) (i : TypeInfo) (ht : P.underlying t = some (.slice e)) (hi : P.info? e = some i) (z : List Value) (hz6 : z.length = 6) (hz : i.zero = some (.agg z.toArray)) (hs : i.size = 6) (ds : List Value) (hl : ds.length = 6)
  (hx : a.eval x = .agg ds.toArray)
  (h : ∀ w', Blk w' w.heap.size e ds → Below w.heap.size w w' → wpList P ops Q rest (a.put o.dst (.slice (some ⟨w.heap.size, 0, none⟩) 1 1)) w') : wpList P ops Q (o :: rest) a w := by
 have hrun : (Instr.buildSlice t 1 #[(0, .agg ds.toArray)]).run P w = .ok (.slice (some ⟨w.heap.size, 0, none⟩) 1 1) (w.alloc (.cells ds.toArray e)) := by
  have hzv : (zeroValue e).run P w = .ok (.agg z.toArray) w := by simp [zeroValue, typeInfo, hi, hz]
  match ds, hl, z, hz6 with
  | [d0, d1, d2, d3, d4, d5], _, [z0, z1, z2, z3, z4, z5], _ =>
   simp [Instr.buildSlice, run_underlying ht, sizeOf, typeInfo, hi, hs, hzv, Value.cells, Instr.fill, Array.range_succ, Array.range_zero', newRow]
 refine wpList_plain hg fun K hK => ?_
 unfold Oper.wp
 simp only [execOp, ho, List.map_toArray, List.map_cons, List.map_nil, hx, hrun, Sem.run_bind, Result.andThen_ok, Sem.run_pure]
 exact hK _ _ (h _ (Blk.new w e _) ((Below.refl _ _).alloc (Nat.le_refl _) _))
theorem wpList_appN {base : Nat} (hg : o.guard = none) (s x : Operand) (t : TypeId)
  (ho : o.op = .call { callee := .builtin .append, args := #[s, x], argTypes := #[t, t] })
  (e : TypeId) (i : TypeInfo) (z : List Value) (ht : P.underlying t = some (.slice e)) (hi : P.info? e = some i) (hz6 : z.length = 6) (hz : i.zero = some (.agg z.toArray)) (hsize : i.size = 6) (hby : i.bytes = 64)
  (v : Value) (n : Nat) (xs : List Value) (hs : a.eval s = v) (hown : w.ownsRow base e 6 v n xs)
  (g cap : Nat) (tg : TypeId) (c : List Value) (hc6 : c.length = 6) (hc1 : ∀ u ∈ c, u.oneCell' = true) (hx : a.eval x = .slice (some ⟨g, 0, none⟩) 1 cap) (hr : Blk w g tg c)
  (hlen : n + 1 ≤ 1048576) (hb : base ≤ w.heap.size)
  (h : ∀ v' w', w'.ownsRow base e 6 v' (n + 1) (xs ++ c) → w.grownBy w' v.ownBlock → (∀ k, v'.ownBlock = some k → v.ownBlock = some k ∨ w.heap.size ≤ k) → wpList P ops Q rest (a.put o.dst v') w') : wpList P ops Q (o :: rest) a w := by
 have hnews : ∀ j u, c[j]? = some u → w.cell? ((⟨g, 0, none⟩ : Addr).add j) = some u := fun j u hj => by
  rw [Addr.add_lit, Nat.zero_add, hr.cell j]
  exact hj
 obtain ⟨v', w', hrun, hown', hgr, _⟩ := run_append_own (P := P) w base t o.type e i _ 6 64 ht hi hz hsize hby (by simp [Value.cells, hz6]) (by omega) v n xs hown ⟨g, 0, none⟩ 1 cap c (by omega) hnews hc1 (by unfold maxLen; omega) (by omega) hb
 have hwh := append_where (P := P) (w := w) base t o.type e i _ 6 64 ht hi hz hsize hby (by omega) v n xs hown ⟨g, 0, none⟩ 1 cap c (by omega) hnews hc1 (by unfold maxLen; omega) (by omega) hrun
 refine wpList_plain hg fun K hK => ?_
 unfold Oper.wp execOp
 simp only [ho, resolve, invoke, builtin, Sem.run_bind, Sem.run_pure, Result.andThen_ok, List.map_toArray, List.map_cons, List.map_nil, hs, hx, hrun]
 exact hK _ _ (h v' w' hown' hgr hwh)
end
theorem upd_old {fv : Nat → Value} {n i : Nat} {u : Value} (h : i < n) : updV fv n u i = fv i := by unfold updV; rw [if_neg (by omega)]
theorem upd_at (fv : Nat → Value) (n : Nat) (u : Value) : updV fv n u n = u := by unfold updV; rw [if_pos rfl]
theorem bState_end {w w1 w2 : World} {B g : Nat} {D : Nat → Prop} {S : List St} {lv v' : Value} {fv : Nat → Value} (x : Bld w B g lv fv S) (hD : ∀ k, Bd g lv fv S.length k → D k) (hdB : ∀ k, D k → B ≤ k) (hdl : ∀ k, D k → k < w.heap.size) (hB : B ≤ w.heap.size)
  (b1 : Below w.heap.size w w1) (ho : w2.ownsRow B 55 6 v' (S.length + 1) ((cellsN S fv).flatten ++ stc st0 (.slice none 0 0))) (hg : w1.grownBy w2 lv.ownBlock) (hw : ∀ k, v'.ownBlock = some k → lv.ownBlock = some k ∨ w1.heap.size ≤ k) :
  w2.cell? ⟨g, 0, none⟩ = some lv ∧ w2.frozen? ⟨g, 0, none⟩ = false ∧ BPost w B g D (S ++ [st0]) (w2.setCell ⟨g, 0, none⟩ v') := by
 have hs1 := b1.size
 have hs2 := hg.size
 have hgl := x.blk.lt
 have g2 : Blk w2 g 83 [lv] := (x.blk.below b1 hgl).grown hg fun e => x.lg e.symm
 have ng : v'.ownBlock ≠ some g := fun e => by
  rcases hw g e with e | e
  ·exact x.lg e
  ·omega
 have hother : ∀ k, k ≠ g → (w2.setCell ⟨g, 0, none⟩ v').heap[k]? = w2.heap[k]? := fun k hk => Below.heap_setCell w2 ⟨g, 0, none⟩ v' k hk
 have hsz3 : (w2.setCell ⟨g, 0, none⟩ v').heap.size = w2.heap.size := by simp
 refine ⟨g2.cell 0, g2.frozen 0, ⟨⟨⟨v', updV fv S.length (.slice none 0 0), ⟨g2.set 0 v', ?_, fun i s hs => ?_, ng, fun i hi e => ?_, fun i k hi e e' => ?_, fun i j k hi hj hij e e' => ?_⟩, fun k hk => ?_⟩, fun k hk => ?_, fun k hk => ?_⟩, ?_, hB⟩⟩
 ·rw [List.length_append, List.length_singleton, cellsN_app, List.flatten_append]
  refine own6_stay ?_ fun j hj => hother j (by rintro rfl; exact ng hj)
  simpa using ho
 ·by_cases hi : i < S.length
  ·rw [List.getElem?_append_left hi] at hs
   have h0 := x.free i s hs
   rw [upd_old hi]
   have h1 : w1.ownsRow B 3 1 (fv i) s.free.length (nums .i64 s.free) := ownBelow h0 b1 (Nat.le_refl _)
   have h2 : w2.ownsRow B 3 1 (fv i) s.free.length (nums .i64 s.free) := own6_stay h1 fun j hj => hg.block j (own6_lt h1 j hj).1 fun e => x.fl i j hi hj e.symm
   exact own6_stay h2 fun j hj => hother j (by rintro rfl; exact x.fg i hi hj)
  ·have hil : i = S.length := by
    have := (List.getElem?_eq_some_iff.1 hs).1
    simp at this
    omega
   subst hil
   have : s = st0 := by simpa using hs.symm
   subst this
   rw [upd_at]
   exact ownN _ _ _
 ·rw [List.length_append, List.length_singleton] at hi
  by_cases h : i < S.length
  ·rw [upd_old h] at e; exact x.fg i h e
  ·obtain rfl : i = S.length := by omega
   rw [upd_at] at e; cases e
 ·rw [List.length_append, List.length_singleton] at hi
  by_cases h : i < S.length
  ·rw [upd_old h] at e
   rcases hw k e' with e' | e'
   ·exact x.fl i k h e e'
   ·have := x.lt (.inr (.inr ⟨i, h, e⟩)); omega
  ·obtain rfl : i = S.length := by omega
   rw [upd_at] at e; cases e
 ·rw [List.length_append, List.length_singleton] at hi hj
  by_cases h : i < S.length
  ·rw [upd_old h] at e
   by_cases h' : j < S.length
   ·rw [upd_old h'] at e'
    exact x.ff i j k h h' hij e e'
   ·obtain rfl : j = S.length := by omega
    rw [upd_at] at e'; cases e'
  ·obtain rfl : i = S.length := by omega
   rw [upd_at] at e; cases e
 ·rcases hk with rfl | hk | ⟨i, hi, hk⟩
  ·exact .inl (hD _ (.inl rfl))
  ·rcases hw k hk with h | h
   ·exact .inl (hD _ (.inr (.inl h)))
   ·exact .inr ⟨by omega, by rw [hsz3]; exact (own6_lt ho k hk).1⟩
  ·rw [List.length_append, List.length_singleton] at hi
   by_cases h : i < S.length
   ·rw [upd_old h] at hk
    exact .inl (hD _ (.inr (.inr ⟨i, h, hk⟩)))
   ·obtain rfl : i = S.length := by omega
    rw [upd_at] at hk; cases hk
 ·rcases hk with hk | hk
  ·exact hdB k hk
  ·exact Nat.le_trans hB hk.1
 ·rcases hk with hk | hk
  ·have := hdl k hk; rw [hsz3]; omega
  ·exact hk.2
 ·exact ((Off.new D b1).trans (Off.grown hg fun k hk => .inr (hD k (.inr (.inl hk))))).trans (Off.set w2 0 v' (hD g (.inl rfl)))
theorem own_form6 {w : World} {base n k : Nat} {e : TypeId} {v : Value} {xs : List Value} (h : w.ownsRow base e k v n xs) : ∃ A c, v = .slice A n c := by
 rcases h.2 with ⟨rfl, rfl⟩ | ⟨g, cap, cur, rfl, _⟩
 ·exact ⟨_, _, rfl⟩
 ·exact ⟨_, _, rfl⟩
theorem sub_len {n : Nat} (h : n ≤ 2000) : IntKind.i64.wrap (((n + 1 : Nat) : Int) - 1) = (n : Int) := by
 rw [IntWalk.i64_in _ (by omega)]
 omega
theorem sub_len' {n : Nat} (h : n ≤ 2000) : wrap64 (((n + 1 : Nat) : Int) - 1) = (n : Int) := by
 rw [IntWalk.wrap64_in _ (by omega)]
 omega
set_option maxHeartbeats 4000000 in
set_option maxRecDepth 1000000 in
theorem bState_any {B g : Nat} {D : Nat → Prop} {S : List St} (w : World) (h : BldV w B g D S) (hS : S.length ≤ 2000) :
  Calls Tryz.prog 57 #[.pointer (some ⟨g, 0, none⟩)] w fun e w' => e = .returned (.int .i64 (S.length : Int)) ∧ BPost w B g D (S ++ [st0]) w' := by
 have HB := qH h.size
 obtain ⟨⟨lv, fv, hb, hd⟩, hdB, hdl⟩ := h
 obtain ⟨A0, c0, rfl⟩ := own_form6 hb.own
 have X := qH hb
 have HD := qH hd
 have HDB := qH hdB
 have HDL := qH hdl
 have HS := qH hS
 have d0 := hb.blk.cell 0
 simp only [List.getElem?_cons_zero] at d0
 obtain ⟨i0, hi0, hz0, hs0, hy0⟩ := infoP inf_nst
 obtain ⟨zz, hzz⟩ : ∃ z : List Value, z = stc ⟨fun _ => false, 0, []⟩ (.slice none 0 0) := ⟨_, rfl⟩
 have HZL := qH (show zz.length = 6 by rw [hzz]; rfl)
 have HZ0 := qH (show i0.zero = some (.agg zz.toArray) by rw [hzz]; exact hz0)
 obtain ⟨cc, hcc⟩ : ∃ c : List Value, c = stc st0 (.slice none 0 0) := ⟨_, rfl⟩
 have HC := qH hcc
 have HC6 := qH (show cc.length = 6 by rw [hcc]; rfl)
 have HC1 := qH (show ∀ u ∈ cc, u.oneCell' = true by rw [hcc]; exact List.all_eq_true.1 (stc_one _ _ _ _))
 have HBN := qH (show Tryz.prog.built 55 [(1, .int .i64 (-1))] = some cc.toArray by rw [hcc]; exact builtN)
 have s1 := sub_len hS
 have s2 := sub_len' hS
 obtain ⟨m, hm⟩ : ∃ m, m = S.length + 1 := ⟨_, rfl⟩
 rw [← hm] at s1 s2
 have HM := qH hm
 clear hb hd hdB hdl hS hzz hz0 hcc hm
 go_enter Tryz.func57, Tryz.ntmps57
 go_wp2_with (first
  | ((with_reducible refine atDst 8 ?_); refine wpList_bld rfl 55 _ rfl cc HBN.out ?_; (try simp only [Act.put, qA, qB, qC]))
  | ((with_reducible refine atDst 9 ?_); refine wpList_bldN rfl 22 55 (.tmp 8) rfl i0 Tryz.underlying22 hi0 zz HZL.out HZ0.out hs0 cc HC6.out rfl ?_; intro w1 hk1 hb1; have K1 := qH hk1; have B1 := qH hb1; clear hk1 hb1; (try simp only [Act.put, qA, qB, qC]))
  | ((with_reducible refine atDst 10 ?_); refine wpList_appN rfl (.tmp 7) (.tmp 9) 22 rfl 55 i0 zz Tryz.underlying22 hi0 HZL.out HZ0.out hs0 hy0 (.slice A0 S.length c0) S.length (cellsN S fv).flatten rfl (own6_stay X.out.own fun j hj => B1.out.block j (own6_lt X.out.own j hj).1) w.heap.size 1 55 cc HC6.out HC1.out rfl K1.out (by have := HS.out; omega) (Nat.le_trans HB.out B1.out.size) ?_; intro v2 w2 ho2 hg2 hw2; obtain ⟨A2, c2, rfl⟩ : ∃ A c, v2 = .slice A m c := (by rw [HM.out]; exact own_form6 ho2); have O2 := qH (bState_end X.out HD.out HDB.out HDL.out HB.out B1.out (by rw [HC.out] at ho2; exact ho2) hg2 hw2); have e2 := O2.out.1; have f2 := O2.out.2.1; have L2 := qH (World.block_lt_of_cell? _ _ e2); have n2 := World.cell?_setCell_same' w2 _ (.slice A2 m c2) (by rw [e2]; rfl); clear ho2 hg2 hw2; (try simp only [Act.put, qA, qB, qC])))
 go_ret
 exact ⟨rfl, O2.out.2.2⟩
theorem bLink_end {w w4 w5 : World} {B g gl c0 f t : Nat} {D : Nat → Prop} {S : List St} {v5 : Value} {fv : Nat → Value} {s : St} (x : Bld w B g (.slice (some ⟨gl, 0, none⟩) S.length c0) fv S) (hD : ∀ k, Bd g (.slice (some ⟨gl, 0, none⟩) S.length c0) fv S.length k → D k) (hdB : ∀ k, D k → B ≤ k) (hdl : ∀ k, D k → k < w.heap.size)
  (hB : B ≤ w.heap.size) (hs : S[f]? = some s) (b4 : Below w.heap.size w w4) (ho : w5.ownsRow B 3 1 v5 (s.free.length + (nums .i64 [(t : Int)]).length) (nums .i64 s.free ++ nums .i64 [(t : Int)])) (hg : w4.grownBy w5 (fv f).ownBlock) (hw : ∀ k, v5.ownBlock = some k → (fv f).ownBlock = some k ∨ w4.heap.size ≤ k) :
  w5.cell? ⟨gl, f * 6 + 5, none⟩ = some (fv f) ∧ w5.frozen? ⟨gl, f * 6 + 5, none⟩ = false ∧ BPost w B g D (linkI S f [(t : Int)]) (w5.setCell ⟨gl, f * 6 + 5, none⟩ v5) := by
 have hs4 := b4.size
 have hs5 := hg.size
 have hf := (List.getElem?_eq_some_iff.1 hs).1
 have hgl : gl < w.heap.size := x.lt (.inr (.inl rfl))
 have hng : gl ≠ g := fun e => x.lg (by rw [← e]; rfl)
 have nfl : ∀ i, i < S.length → (fv i).ownBlock ≠ some gl := fun i hi e => x.fl i gl hi e rfl
 have hsz : (w5.setCell ⟨gl, f * 6 + 5, none⟩ v5).heap.size = w5.heap.size := by simp
 have hkeep : ∀ k, k < w.heap.size → (fv f).ownBlock ≠ some k → w5.heap[k]? = w.heap[k]? := fun k hk hn => (hg.block k (by omega) fun e => hn e.symm).trans (b4.block k hk)
 have hother : ∀ k, k ≠ gl → (w5.setCell ⟨gl, f * 6 + 5, none⟩ v5).heap[k]? = w5.heap[k]? := fun k hk => Below.heap_setCell w5 ⟨gl, f * 6 + 5, none⟩ v5 k hk
 have n5 : v5.ownBlock ≠ some gl := fun e => by
  rcases hw gl e with e | e
  ·exact nfl f hf e
  ·omega
 have own5 : w5.ownsRow B 55 6 (.slice (some ⟨gl, 0, none⟩) S.length c0) S.length (cellsN S fv).flatten := own6_stay x.own fun j hj => hkeep j (own6_lt x.own j hj).1 fun e => x.fl f j hf e hj
 have hcell : (cellsN S fv).flatten[f * 6 + 5]? = some (fv f) := by rw [cellsN_flat S fv hs (by omega)]; rfl
 have hset : (cellsN S fv).flatten.set (f * 6 + 5) v5 = (cellsN (linkI S f [(t : Int)]) (updV fv f v5)).flatten := by
  have hc : (cellsN S fv)[f]? = some (stc s (fv f)) := by rw [cellsN_get, hs]; rfl
  rw [flat6_set (cellsN_six S fv) v5 hc (by omega)]
  unfold linkI
  rw [cellsN_mod hs _ v5]
  rfl
 have hlen : (linkI S f [(t : Int)]).length = S.length := linkI_len _ _ _
 have hfrees : ∀ i s', (linkI S f [(t : Int)])[i]? = some s' → if i = f then s'.free = s.free ++ [(t : Int)] else S[i]? = some s' := fun i s' h => by
  unfold linkI at h
  rw [List.getElem?_modify] at h
  by_cases hi : f = i
  ·subst hi
   rw [hs] at h
   rw [if_pos rfl]
   simp at h
   rw [← h]
  ·rw [if_neg fun e => hi e.symm]
   cases h0 : S[i]? with
   | none => rw [h0] at h; cases h
   | some a => rw [h0] at h; simp [hi] at h; rw [h]
 have hu : ∀ i, i ≠ f → updV fv f v5 i = fv i := fun i hi => by unfold updV; rw [if_neg hi]
 refine ⟨(own_cell own5 hcell).1, (own_cell own5 hcell).2, ⟨⟨⟨.slice (some ⟨gl, 0, none⟩) S.length c0, updV fv f v5, ⟨?_, ?_, fun i s' hs' => ?_, x.lg, fun i hi e => ?_, fun i k hi e e' => ?_, fun i j k hi hj hij e e' => ?_⟩, fun k hk => ?_⟩, fun k hk => ?_, fun k hk => ?_⟩, ?_, hB⟩⟩
 ·exact (hother g hng.symm).trans ((hkeep g x.blk.lt (x.fg f hf)).trans x.blk)
 ·rw [hlen, ← hset]
  exact own_set own5 (List.getElem?_eq_some_iff.1 hcell).1 v5
 ·have hi : i < S.length := by rw [← hlen]; exact (List.getElem?_eq_some_iff.1 hs').1
  have h1 := hfrees i s' hs'
  by_cases hif : i = f
  ·subst hif
   rw [if_pos rfl] at h1
   rw [upd_at, h1, List.length_append, nums_append]
   exact own6_stay ho fun j hj => hother j (by rintro rfl; exact n5 hj)
  ·rw [if_neg hif] at h1
   rw [hu i hif]
   have h2 := x.free i s' h1
   refine own6_stay h2 fun j hj => (hother j (by rintro rfl; exact nfl i hi hj)).trans (hkeep j (own6_lt h2 j hj).1 fun e => x.ff i f j hi hf hif hj e)
 ·rw [hlen] at hi
  by_cases hif : i = f
  ·subst hif
   rw [upd_at] at e
   rcases hw g e with e | e
   ·exact x.fg i hi e
   ·have := x.blk.lt; omega
  ·rw [hu i hif] at e
   exact x.fg i hi e
 ·rw [hlen] at hi
  by_cases hif : i = f
  ·subst hif
   rw [upd_at] at e
   have : k = gl := by
    have h3 : some gl = some k := e'
    exact (Option.some.inj h3).symm
   rw [this] at e
   exact n5 e
  ·rw [hu i hif] at e
   exact x.fl i k hi e e'
 ·rw [hlen] at hi hj
  by_cases hif : i = f
  ·subst hif
   have hjf : j ≠ i := fun h => hij h.symm
   rw [upd_at] at e
   rw [hu j hjf] at e'
   rcases hw k e with e | e
   ·exact x.ff i j k hi hj hij e e'
   ·have := x.lt (.inr (.inr ⟨j, hj, e'⟩)); omega
  ·rw [hu i hif] at e
   by_cases hjf : j = f
   ·subst hjf
    rw [upd_at] at e'
    rcases hw k e' with e' | e'
    ·exact x.ff i j k hi hj hij e e'
    ·have := x.lt (.inr (.inr ⟨i, hi, e⟩)); omega
   ·rw [hu j hjf] at e'
    exact x.ff i j k hi hj hij e e'
 ·rcases hk with rfl | hk | ⟨i, hi, hk⟩
  ·exact .inl (hD _ (.inl rfl))
  ·exact .inl (hD _ (.inr (.inl hk)))
  ·rw [hlen] at hi
   by_cases hif : i = f
   ·subst hif
    rw [upd_at] at hk
    rcases hw k hk with h | h
    ·exact .inl (hD _ (.inr (.inr ⟨i, hi, h⟩)))
    ·exact .inr ⟨by omega, by rw [hsz]; exact (own6_lt ho k hk).1⟩
   ·rw [hu i hif] at hk
    exact .inl (hD _ (.inr (.inr ⟨i, hi, hk⟩)))
 ·rcases hk with hk | hk
  ·exact hdB k hk
  ·exact Nat.le_trans hB hk.1
 ·rcases hk with hk | hk
  ·have := hdl k hk; rw [hsz]; omega
  ·exact hk.2
 ·exact ((Off.new D b4).trans (Off.grown hg fun k hk => .inr (hD k (.inr (.inr ⟨f, hf, hk⟩))))).trans (Off.set w5 _ v5 (hD gl (.inr (.inl rfl))))
theorem wp_stL {o : Oper} {a : Act} {w : World} {K : Act → World → Prop} {Q : Exit → Act → World → Prop} (x y : Operand) (ho : o.op = .store 53 x y) (g q : Nat) (hx : a.eval x = .pointer (some ⟨g, q, none⟩)) (A : Option Addr) (n c : Nat) (hy : a.eval y = .slice A n c)
  (u : Value) (hc : w.cell? ⟨g, q, none⟩ = some u) (hf : w.frozen? ⟨g, q, none⟩ = false) (h : K (a.put o.dst undef) (w.setCell ⟨g, q, none⟩ (.slice A n c))) : o.wp Tryz.prog a w K Q := by
 unfold Oper.wp execOp
 simp only [ho, hx, hy]
 have hrun : (Instr.storeAt 53 (.pointer (some ⟨g, q, none⟩)) (.slice A n c)).run Tryz.prog w = .ok () (w.setCell ⟨g, q, none⟩ (.slice A n c)) := by
  go_simp
 simp only [Sem.run_bind, hrun, Result.andThen_ok, Sem.run_pure]
 exact h
theorem ld_ints9 {ev : Operand → Value} {o : Oper} (x : Operand) (ho : o.op = .load 53 x) {p : Addr} (hx : ev x = .pointer (some p)) {A : Option Addr} {n c : Nat} {W : World} (hc : W.cell? p = some (.slice A n c)) : (execOp ev o).run Tryz.prog W = .ok (.value (.slice A n c)) W := by
 simp only [execOp, ho, hx]
 go_simp
set_option maxHeartbeats 4000000 in
set_option maxRecDepth 1000000 in
theorem bLink_any {B g : Nat} {D : Nat → Prop} {S : List St} {s : St} (f t : Nat) (w : World) (h : BldV w B g D S) (hs : S[f]? = some s) (hS : S.length ≤ 2000) (hfr : s.free.length ≤ 8) :
  Calls Tryz.prog 59 #[.pointer (some ⟨g, 0, none⟩), .int .i64 (f : Int), .int .i64 (t : Int)] w fun e w' => e = .returned (.tuple #[]) ∧ BPost w B g D (linkS S f t) w' := by
 have HB := qH h.size
 obtain ⟨⟨lv, fv, hb, hd⟩, hdB, hdl⟩ := h
 have hf := (List.getElem?_eq_some_iff.1 hs).1
 obtain ⟨gl, c0, rfl, _⟩ : ∃ gl c0, lv = .slice (some ⟨gl, 0, none⟩) S.length c0 ∧ True := by
  rcases hb.own.2 with ⟨_, h0⟩ | ⟨g', cap, cur, he, _⟩
  ·omega
  ·exact ⟨g', cap, he, trivial⟩
 obtain ⟨nf, hnf⟩ : ∃ n, n = s.free.length := ⟨_, rfl⟩
 obtain ⟨Af, cf, hfv⟩ : ∃ A c, fv f = .slice A nf c := by rw [hnf]; exact own_form6 (hb.free f s hs)
 have X := qH hb
 have HD := qH hd
 have HDB := qH hdB
 have HDL := qH hdl
 have HNS := qH hS
 have HSF := qH hs
 have HNF := qH hnf
 have HF8 := qH (show nf ≤ 8 by omega)
 have HFV := qH hfv
 have f1 : (f : Int) < (S.length : Int) := by omega
 have HGL := qH (show gl < w.heap.size from hb.lt (.inr (.inl rfl)))
 have HG0 := qH hb.blk.lt
 have HD0 := qH (hb.blk.cell 0)
 simp only [List.getElem?_cons_zero] at HD0
 have HCF := qH (show w.cell? ⟨gl, f * 6 + 5, none⟩ = some (.slice Af nf cf) from (own_cell hb.own (by rw [cellsN_flat S fv hs (by omega), ← hfv]; rfl)).1)
 obtain ⟨i1, hi1, hy0, hy1, hy2⟩ := infoP inf_int
 obtain ⟨Dl, hDl⟩ : ∃ P : Nat → Prop, P = fun k => k = gl ∨ (fv f).ownBlock = some k := ⟨_, rfl⟩
 have HNG := qH (show ¬ Dl g by
  rw [hDl]
  rintro (e | e)
  ·exact hb.lg (by rw [e]; rfl)
  ·exact hb.fg f hf e)
 have HDF := qH (show ∀ k, (fv f).ownBlock = some k → Dl k by rw [hDl]; exact fun k hk => .inr hk)
 have HDG := qH (show Dl gl by rw [hDl]; exact .inl rfl)
 clear hb hd hdB hdl hS hs hf hnf hfv hDl hfr
 go_enter Tryz.func59, Tryz.ntmps59
 go_wp2_with fail
 refine sg_start (S := Off Dl w) (by kernel_rfl) (Off.start _ _) (fun wd hwd => ?_)
 have hX : Off Dl w wd := by rw [hwd]; exact Off.start _ _
 have BD := qH (show Below w.heap.size w wd by rw [hwd]; exact (Below.refl _ _).drew)
 clear hwd
 have HCF2 := qH ((BD.out.cell (p := ⟨gl, f * 6 + 5, none⟩) HGL.out).trans HCF.out)
 refine sg_take (i := 0) (oi := ⟨some 6, _, _, _, _, _⟩) (v := ?_) rfl (by kernel_rfl) (by kernel_rfl) (by kernel_rfl) (fun _ _ _ h => h) rfl hX ?_ ?_; rotate_left; (intro W hW; go_simp; try with_reducible rfl); simp only [Act.put, qA, qB, qC]
 refine sg_take (i := 1) (oi := ⟨some 7, _, _, _, _, _⟩) (v := ?_) rfl (by kernel_rfl) (by kernel_rfl) (by kernel_rfl) (fun _ _ _ h => h) rfl hX ?_ ?_; rotate_left; (intro W hW; go_simp; try with_reducible rfl); simp only [Act.put, qA, qB, qC]
 refine sg_take (i := 2) (oi := ⟨some 8, _, _, _, _, _⟩) (v := ?_) rfl (by kernel_rfl) (by kernel_rfl) (by kernel_rfl) (fun _ _ _ h => h) rfl hX ?_ ?_; rotate_left; (intro W hW; go_simp; try with_reducible rfl); simp only [Act.put, qA, qB, qC]
 refine sg_take (i := 3) (oi := ⟨some 9, _, _, _, _, _⟩) (v := .slice (some ⟨gl, 0, none⟩) S.length c0) rfl (by kernel_rfl) (by kernel_rfl) (by kernel_rfl) (fun _ _ _ h => h) rfl hX (fun W hW => ld_sts (.tmp 8) rfl rfl (hW.cell HG0.out HNG.out HD0.out)) ?_; simp only [Act.put, qA, qB, qC]
 refine sg_take (i := 4) (oi := ⟨some 10, _, _, _, _, _⟩) (v := ?_) rfl (by kernel_rfl) (by kernel_rfl) (by kernel_rfl) (fun _ _ _ h => h) rfl hX ?_ ?_; rotate_left; (intro W hW; go_simp; try with_reducible rfl); simp only [Act.put, qA, qB, qC]
 refine sg_take (i := 5) (oi := ⟨some 11, _, _, _, _, _⟩) (v := ?_) rfl (by kernel_rfl) (by kernel_rfl) (by kernel_rfl) (fun _ _ _ h => h) rfl hX ?_ ?_; rotate_left; (intro W hW; go_simp; try with_reducible rfl); simp only [Act.put, qA, qB, qC]
 refine sg_take (i := 6) (oi := ⟨some 12, _, _, _, _, _⟩) (v := ?_) rfl (by kernel_rfl) (by kernel_rfl) (by kernel_rfl) (fun _ _ _ h => h) rfl hX ?_ ?_; rotate_left; (intro W hW; go_simp; try with_reducible rfl); simp only [Act.put, qA, qB, qC]
 refine sg_take (i := 7) (oi := ⟨some 13, _, _, _, _, _⟩) (v := ?_) rfl (by kernel_rfl) (by kernel_rfl) (by kernel_rfl) (fun _ _ _ h => h) rfl hX ?_ ?_; rotate_left; (intro W hW; go_simp; try with_reducible rfl); simp only [Act.put, qA, qB, qC]
 refine sg_take (i := 8) (oi := ⟨some 14, _, _, _, _, _⟩) (v := .slice (some ⟨gl, 0, none⟩) S.length c0) rfl (by kernel_rfl) (by kernel_rfl) (by kernel_rfl) (fun _ _ _ h => h) rfl hX (fun W hW => ld_sts (.tmp 13) rfl rfl (hW.cell HG0.out HNG.out HD0.out)) ?_; simp only [Act.put, qA, qB, qC]
 refine sg_take (i := 9) (oi := ⟨some 15, _, _, _, _, _⟩) (v := ?_) rfl (by kernel_rfl) (by kernel_rfl) (by kernel_rfl) (fun _ _ _ h => h) rfl hX ?_ ?_; rotate_left; (intro W hW; go_simp; try with_reducible rfl); simp only [Act.put, qA, qB, qC]
 refine sg_take (i := 10) (oi := ⟨some 16, _, _, _, _, _⟩) (v := ?_) rfl (by kernel_rfl) (by kernel_rfl) (by kernel_rfl) (fun _ _ _ h => h) rfl hX ?_ ?_; rotate_left; (intro W hW; go_simp; try with_reducible rfl); simp only [Act.put, qA, qB, qC]
 refine sg_take (i := 11) (oi := ⟨some 17, _, _, _, _, _⟩) (v := ?_) rfl (by kernel_rfl) (by kernel_rfl) (by kernel_rfl) (fun _ _ _ h => h) rfl hX ?_ ?_; rotate_left; (intro W hW; go_simp; try with_reducible rfl); simp only [Act.put, qA, qB, qC]
 refine sg_take (i := 13) (oi := ⟨some 19, _, _, _, _, _⟩) (v := ?_) rfl (by kernel_rfl) (by kernel_rfl) (by kernel_rfl) (fun _ _ _ h => h) rfl hX ?_ ?_; rotate_left; (intro W hW; go_simp; try with_reducible rfl); simp only [Act.put, qA, qB, qC]
 refine sg_two (i := 12) (j := 14) (oi := ⟨some 18, _, _, _, _, _⟩) (oj := ⟨some 20, _, _, _, _, _⟩) rfl rfl (by kernel_rfl) rfl rfl hX (fun K hK => ?_) (fun K hK => ?_)
 focus
  refine wp_of_run (ld_ints9 (.tmp 17) rfl rfl HCF2.out) ?_
  refine hK _ _ hX ?_
  clear hK K
  (try simp only [Act.put, qA, qB, qC])
  refine sg_actB (i := 14) (o := ⟨some 20, _, _, _, _, _⟩) rfl (by kernel_rfl) rfl hX (fun K hK => ?_)
  refine wp_bldI 53 3 (.tmp 19) rfl i1 Tryz.underlying53 hi1 0 hy0 hy1 (t : Int) rfl ?_
  intro w4 hr4 hb4
  have R4 := qH hr4
  have B4 := qH (BD.out.trans (hb4.mono BD.out.size))
  refine hK _ _ (hX.trans (Off.new _ hb4)) ?_
  clear hK K
  (try simp only [Act.put, qA, qB, qC])
  replace hX := hX.trans (Off.new _ hb4)
  clear hr4 hb4
 rotate_left
 focus
  refine wp_bldI 53 3 (.tmp 19) rfl i1 Tryz.underlying53 hi1 0 hy0 hy1 (t : Int) rfl ?_
  intro w4 hr4 hb4
  have R4 := qH hr4
  have B4 := qH (BD.out.trans (hb4.mono BD.out.size))
  refine hK _ _ (hX.trans (Off.new _ hb4)) ?_
  clear hK K
  (try simp only [Act.put, qA, qB, qC])
  replace hX := hX.trans (Off.new _ hb4)
  clear hr4 hb4
  have HCF4 := qH ((B4.out.cell (p := ⟨gl, f * 6 + 5, none⟩) HGL.out).trans HCF.out)
  refine sg_actB (i := 12) (o := ⟨some 18, _, _, _, _, _⟩) rfl (by kernel_rfl) rfl hX (fun K hK => ?_)
  refine wp_of_run (ld_ints9 (.tmp 17) rfl rfl HCF4.out) ?_
  refine hK _ _ hX ?_
  clear hK K
  (try simp only [Act.put, qA, qB, qC])
  clear HCF4
 rotate_left
 all_goals
  refine sg_actB (i := 15) (o := ⟨some 21, _, _, _, _, _⟩) rfl (by kernel_rfl) rfl hX (fun K hK => ?_)
  have OF := qH (show w4.ownsRow B 3 1 (fv f) s.free.length (nums .i64 s.free) from ownBelow (X.out.free f s HSF.out) B4.out (Nat.le_refl _))
  refine wp_appW (.tmp 18) (.tmp 20) 53 rfl 3 i1 (.int .i64 0) 8 Tryz.underlying53 hi1 hy0 hy1 hy2 rfl (fv f) s.free.length (nums .i64 s.free) HFV.out.symm OF.out _ (nums .i64 [(t : Int)]) rfl R4.out (nums_one _ _) (by have := HF8.out; rw [HNF.out] at this; rw [nums_length .i64 [(t : Int)]]; simp only [List.length_singleton]; omega) (by omega) (Nat.le_trans HB.out B4.out.size) ?_
  intro v5 w5 ho5 hg5 hw5
  obtain ⟨A5, c5, rfl⟩ := own_form6 ho5
  have hE := bLink_end X.out HD.out HDB.out HDL.out HB.out HSF.out B4.out ho5 hg5 hw5
  have hoff : Off Dl w4 w5 := Off.grown hg5 fun k hk => .inr (HDF.out k hk)
  clear ho5 hg5 hw5
  generalize s.free.length + (nums .i64 [(t : Int)]).length = n5 at hE ⊢
  have E5 := qH hE
  clear hE
  refine hK _ _ (hX.trans hoff) ?_
  clear hK K
  (try simp only [Act.put, qA, qB, qC])
  replace hX := hX.trans hoff
  clear hoff
  refine sg_take (i := 16) (oi := ⟨some 22, _, _, _, _, _⟩) (v := ?_) rfl (by kernel_rfl) (by kernel_rfl) (by kernel_rfl) (fun _ _ _ h => h) rfl hX ?_ ?_; rotate_left; (intro W hW; go_simp; try with_reducible rfl); simp only [Act.put, qA, qB, qC]
  refine sg_take (i := 17) (oi := ⟨some 23, _, _, _, _, _⟩) (v := ?_) rfl (by kernel_rfl) (by kernel_rfl) (by kernel_rfl) (fun _ _ _ h => h) rfl hX ?_ ?_; rotate_left; (intro W hW; go_simp; try with_reducible rfl); simp only [Act.put, qA, qB, qC]
  refine sg_actB (i := 18) (o := ⟨none, _, _, _, _, _⟩) rfl (by kernel_rfl) rfl hX (fun K hK => ?_)
  refine wp_stL (.tmp 23) (.tmp 21) rfl gl (f * 6 + 5) rfl A5 n5 c5 rfl _ E5.out.1 E5.out.2.1 ?_
  refine hK _ _ (hX.trans (Off.set _ _ _ HDG.out)) ?_
  clear hK K
  refine wpAnyH_done (by kernel_rfl) ?_ _
  clear hX
  go_wp2_with fail
  go_end0
  exact ⟨rfl, E5.out.2.2⟩
end Go.Proofs.YteadghoojeehlaaGreatDoor
