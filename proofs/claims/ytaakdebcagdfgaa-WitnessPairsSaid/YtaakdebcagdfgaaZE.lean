/-
  Texts of this proof, put together: TbA, TbB, TbC, TbD, TbF, RmD, TbG, TbH, RmE, TbJ, SbW, SbY, LsA, FlD, LsB, WiA. No statement is proved here.
-/
import Derived.Test.YtaakdebcagdfgaaZB
import Derived.Test.YtaakdebcagdfgaaZA
import Derived.Test.YtaakdebcagdfgaaZC
import Derived.Shelf.Spec.TrailingZeros
import Derived.Test.YtaakdebcagdfgaaZD
import Derived.Lib.SlBytesConst
namespace Go.Proofs.Ytaakdebcagdfgaa
open Go.RowKit
set_option linter.unusedSimpArgs false
set_option linter.unusedVariables false
def st0 : St := ⟨fun _ => false, -1, []⟩
def stF (l : List Int) : St := ⟨fun _ => false, -1, l⟩
def linkS (S : List St) (f t : Nat) : List St := S.modify f fun s => { s with free := s.free ++ [(t : Int)] }
def setS (S : List St) (i : Nat) (p : Nat → Bool) (z : Nat) : List St := S.modify i fun s => { s with set := p, to := (z : Int) }
mutual
def bldT : T → List St → List St
 | .node k s l, S =>
  if k = 3 then setS (S ++ [st0] ++ [st0]) S.length s (S.length + 1)
  else if k = 4 then linkS (bldC l (S ++ [st0] ++ [st0]) S.length).1 (bldC l (S ++ [st0] ++ [st0]) S.length).2 (S.length + 1)
  else if k = 5 then bldA l (S ++ [st0] ++ [st0]) S.length (S.length + 1) true
  else if k = 6 then linkS (bldO l (S ++ [st0] ++ [st0]) S.length) S.length (S.length + 1)
  else if k = 2 then linkS (S ++ [st0] ++ [st0]) S.length (S.length + 1)
  else S ++ [st0] ++ [st0]
def bldC : List T → List St → Nat → List St × Nat
 | [], S, at' => (S, at')
 | x :: r, S, at' => bldC r (linkS (bldT x S) at' S.length) (S.length + 1)
def bldA : List T → List St → Nat → Nat → Bool → List St
 | [], S, _, _, _ => S
 | x :: r, S, f, z, first =>
  if first then bldA r (linkS (linkS (bldT x S) f S.length) (S.length + 1) z) f z false
  else bldA r (linkS (linkS (bldT x (linkS (S ++ [st0]) f S.length)) S.length (S.length + 1)) (S.length + 2) z) S.length z false
def bldO : List T → List St → Nat → List St
 | [], S, _ => S
 | x :: r, S, a => linkS (linkS (bldT x S) a S.length) (S.length + 1) a
end
/-! ### the same as one piece behind what was there -/
mutual
def szT : T → Nat
 | .node k _ l => 2 + if k = 4 then szC l else if k = 5 then szA l else if k = 6 then szO l else 0
def szC : List T → Nat
 | [] => 0
 | x :: r => szT x + szC r
def szA : List T → Nat
 | [] => 0
 | x :: r => szT x + if r.length = 0 then 0 else 1 + szA r
def szO : List T → Nat
 | [] => 0
 | x :: _ => szT x
end
def altL : List T → Nat → List Int
 | [], _ => []
 | x :: r, p => (p : Int) :: if r.length = 0 then [] else [((p + szT x : Nat) : Int)]
theorem altL_cons (x : T) (r : List T) (p : Nat) : altL (x :: r) p = (p : Int) :: if r.length = 0 then [] else [((p + szT x : Nat) : Int)] := rfl
mutual
def fragT : T → Nat → List Int → List St
 | .node k s l, n, c =>
  if k = 3 then [⟨s, ((n + 1 : Nat) : Int), []⟩, stF c]
  else if k = 4 then stF [if l.length = 0 then ((n + 1 : Nat) : Int) else ((n + 2 : Nat) : Int)] :: stF c :: fragC l (n + 2) (n + 1)
  else if k = 5 then stF (altL l (n + 2)) :: stF c :: fragA l (n + 2) (n + 1)
  else if k = 6 then stF ((if l.length = 0 then [] else [((n + 2 : Nat) : Int)]) ++ [((n + 1 : Nat) : Int)]) :: stF c :: fragO l (n + 2) n
  else if k = 2 then [stF [((n + 1 : Nat) : Int)], stF c]
  else [stF [], stF c]
def fragC : List T → Nat → Nat → List St
 | [], _, _ => []
 | x :: r, p, z => fragT x p [if r.length = 0 then (z : Int) else ((p + szT x : Nat) : Int)] ++ fragC r (p + szT x) z
def fragA : List T → Nat → Nat → List St
 | [], _, _ => []
 | x :: r, p, z => fragT x p [(z : Int)] ++ if r.length = 0 then [] else stF (altL r (p + szT x + 1)) :: fragA r (p + szT x + 1) z
def fragO : List T → Nat → Nat → List St
 | [], _, _ => []
 | x :: _, p, z => fragT x p [(z : Int)]
end
mutual
theorem fragT_len : ∀ (t : T) (n : Nat) (c : List Int), (fragT t n c).length = szT t
 | .node k s l, n, c => by
  have h1 := fragC_len l (n + 2) (n + 1)
  have h2 := fragA_len l (n + 2) (n + 1)
  have h3 := fragO_len l (n + 2) n
  simp only [fragT, szT]
  split
  ·next h => rw [if_neg (by omega), if_neg (by omega), if_neg (by omega)]; rfl
  ·split
   ·simp [h1]; omega
   ·split
    ·simp [h2]; omega
    ·split
     ·simp [h3]; omega
     ·split <;> rfl
theorem fragC_len : ∀ (l : List T) (p z : Nat), (fragC l p z).length = szC l
 | [], _, _ => rfl
 | x :: r, p, z => by
  simp only [fragC, szC, List.length_append]
  rw [fragT_len x, fragC_len r]
theorem fragA_len : ∀ (l : List T) (p z : Nat), (fragA l p z).length = szA l
 | [], _, _ => rfl
 | x :: r, p, z => by
  simp only [fragA, szA, List.length_append]
  rw [fragT_len x]
  split
  ·rfl
  ·rw [List.length_cons, fragA_len r]; omega
theorem fragO_len : ∀ (l : List T) (p z : Nat), (fragO l p z).length = szO l
 | [], _, _ => rfl
 | x :: r, p, z => by
  simp only [fragO, szO]
  exact fragT_len x _ _
end
theorem szT_two (t : T) : 2 ≤ szT t := by
 cases t with
 | node k s l => simp only [szT]; omega
theorem fragT_ends (t : T) (n : Nat) : ∃ (s : St) (r : List St), ∀ c, fragT t n c = s :: stF c :: r := by
 cases t with
 | node k s l =>
  simp only [fragT]
  by_cases h3 : k = 3
  ·exact ⟨_, [], fun c => by rw [if_pos h3]⟩
  ·by_cases h4 : k = 4
   ·exact ⟨_, _, fun c => by rw [if_neg h3, if_pos h4]⟩
   ·by_cases h5 : k = 5
    ·exact ⟨_, _, fun c => by rw [if_neg h3, if_neg h4, if_pos h5]⟩
    ·by_cases h6 : k = 6
     ·exact ⟨_, _, fun c => by rw [if_neg h3, if_neg h4, if_neg h5, if_pos h6]⟩
     ·by_cases h2 : k = 2
      ·exact ⟨_, [], fun c => by rw [if_neg h3, if_neg h4, if_neg h5, if_neg h6, if_pos h2]⟩
      ·exact ⟨_, [], fun c => by rw [if_neg h3, if_neg h4, if_neg h5, if_neg h6, if_neg h2]⟩
def linkI (S : List St) (f : Nat) (l : List Int) : List St := S.modify f fun s => { s with free := s.free ++ l }
theorem linkS_is (S : List St) (f t : Nat) : linkS S f t = linkI S f [(t : Int)] := rfl
theorem linkI_len (S : List St) (f : Nat) (l : List Int) : (linkI S f l).length = S.length := by simp [linkI]
theorem linkI_left {S X : List St} {f : Nat} {l : List Int} (h : f < S.length) : linkI (S ++ X) f l = linkI S f l ++ X := by
 unfold linkI
 apply List.ext_getElem?
 intro i
 rw [List.getElem?_modify, List.getElem?_append, List.getElem?_append, List.length_modify, List.getElem?_modify]
 by_cases hi : i < S.length
 ·rw [if_pos hi, if_pos hi]
 ·rw [if_neg hi, if_neg hi]
  have : f ≠ i := by omega
  simp [this]
theorem linkI_right {S X : List St} {f : Nat} {l : List Int} (h : S.length ≤ f) : linkI (S ++ X) f l = S ++ linkI X (f - S.length) l := by
 unfold linkI
 apply List.ext_getElem?
 intro i
 rw [List.getElem?_modify, List.getElem?_append, List.getElem?_append, List.getElem?_modify]
 by_cases hi : i < S.length
 ·rw [if_pos hi, if_pos hi]
  have : f ≠ i := by omega
  simp [this]
 ·rw [if_neg hi, if_neg hi]
  by_cases hfi : f = i
  ·subst hfi; simp
  ·have : ¬ (f - S.length = i - S.length) := by omega
   simp [hfi, this]
theorem linkI_two (S : List St) (f : Nat) (l m : List Int) : linkI (linkI S f l) f m = linkI S f (l ++ m) := by
 unfold linkI
 apply List.ext_getElem?
 intro i
 simp only [List.getElem?_modify]
 cases S[i]? with
 | none => rfl
 | some s =>
  by_cases h : f = i
  ·simp [h]
  ·simp [h]
theorem linkI_nil (S : List St) (f : Nat) : linkI S f [] = S := by
 unfold linkI
 apply List.ext_getElem?
 intro i
 rw [List.getElem?_modify]
 cases S[i]? with
 | none => rfl
 | some s => simp
theorem linkI_cons (s : St) (r : List St) (l : List Int) : linkI (s :: r) 0 l = { s with free := s.free ++ l } :: r := by simp [linkI]
theorem frag_link (P : List St) (x : T) (c d : List Int) (X : List St) : linkI (P ++ fragT x P.length c ++ X) (P.length + 1) d = P ++ fragT x P.length (c ++ d) ++ X := by
 obtain ⟨s, r, he⟩ := fragT_ends x P.length
 rw [linkI_left (by rw [List.length_append, fragT_len]; have := szT_two x; omega), linkI_right (by omega), he, he, show P.length + 1 - P.length = 1 from by omega]
 simp [linkI, stF]
theorem frag_link' {P : List St} {n f : Nat} (hn : P.length = n) (hf : f = n + 1) (x : T) (c d : List Int) : linkI (P ++ fragT x n c) f d = P ++ fragT x n (c ++ d) := by
 subst hn
 subst hf
 have := frag_link P x c d []
 simpa using this
theorem setS_end (S : List St) (p : Nat → Bool) (z : Nat) : setS (S ++ [st0] ++ [st0]) S.length p z = S ++ [⟨p, (z : Int), []⟩, stF []] := by
 rw [show S ++ [st0] ++ [st0] = S ++ [st0, st0] from by simp]
 apply List.ext_getElem?
 intro i
 unfold setS
 rw [List.getElem?_modify, List.getElem?_append, List.getElem?_append]
 by_cases hi : i < S.length
 ·rw [if_pos hi, if_pos hi]
  have : S.length ≠ i := by omega
  simp [this]
 ·rw [if_neg hi, if_neg hi]
  obtain ⟨j, rfl⟩ : ∃ j, i = S.length + j := ⟨i - S.length, by omega⟩
  rw [Nat.add_sub_cancel_left]
  match j with
  | 0 => simp [st0]
  | 1 => simp [st0, stF]
  | k + 2 => simp
theorem two_end (S : List St) : S ++ [st0] ++ [st0] = S ++ [stF [], stF []] := by simp [st0, stF]
theorem link_in (S X : List St) (c l m : List Int) : linkI (S ++ (stF c :: X)) S.length l = S ++ (stF (c ++ l) :: X) := by
 rw [linkI_right (Nat.le_refl _), Nat.sub_self, linkI_cons]
 rfl
mutual
theorem bldT_frag : ∀ (t : T) (S : List St), bldT t S = S ++ fragT t S.length []
 | .node k s l, S => by
  have hl : (S ++ [stF [], stF []]).length = S.length + 2 := by simp
  simp only [bldT, fragT]
  by_cases h3 : k = 3
  ·rw [if_pos h3, if_pos h3, setS_end]
  rw [if_neg h3, if_neg h3]
  by_cases h4 : k = 4
  ·rw [if_pos h4, if_pos h4, two_end, bldC_frag l (S ++ [stF [], stF []]) S.length (S.length + 1) (by rw [hl]; omega)]
   split
   ·next h0 =>
    have : l = [] := List.eq_nil_of_length_eq_zero h0
    subst this
    rw [linkS_is, link_in S _ [] _ []]
    simp [fragC]
   ·rw [hl, linkS_is, link_in S _ [] _ []]
    simp
  rw [if_neg h4, if_neg h4]
  by_cases h5 : k = 5
  ·rw [if_pos h5, if_pos h5, two_end]
   rw [bldA_first l (S ++ [stF [], stF []]) S.length (S.length + 1) (by rw [hl]; omega), hl, link_in S _ [] _ []]
   simp
  rw [if_neg h5, if_neg h5]
  by_cases h6 : k = 6
  ·rw [if_pos h6, if_pos h6, two_end]
   cases l with
   | nil => simp only [bldO, fragO]; rw [linkS_is, link_in S _ [] _ []]; simp
   | cons x r =>
    simp only [bldO, fragO]
    rw [bldT_frag x, hl, linkS_is, linkS_is, linkS_is, List.append_assoc, List.cons_append, List.cons_append, List.nil_append, link_in S _ [] _ []]
    rw [show S ++ (stF ([] ++ [((S.length + 2 : Nat) : Int)]) :: stF [] :: fragT x (S.length + 2) []) = (S ++ [stF ([] ++ [((S.length + 2 : Nat) : Int)]), stF []]) ++ fragT x (S.length + 2) [] from by simp]
    rw [frag_link' (by simp) (by omega), List.append_assoc, List.cons_append, List.cons_append, List.nil_append, link_in S _ _ _ []]
    simp
  rw [if_neg h6, if_neg h6]
  by_cases h2 : k = 2
  ·rw [if_pos h2, if_pos h2, two_end, linkS_is, link_in S _ [] _ []]
   simp
  rw [if_neg h2, if_neg h2, two_end]
theorem bldC_frag : ∀ (l : List T) (S : List St) (f z : Nat), f < S.length → linkS (bldC l S f).1 (bldC l S f).2 z = if l.length = 0 then linkS S f z else linkS S f S.length ++ fragC l S.length z
 | [], S, f, z, _ => by simp [bldC]
 | x :: r, S, f, z, hf => by
  have hlen : (linkI S f [(S.length : Int)]).length = S.length := linkI_len _ _ _
  simp only [bldC]
  rw [bldT_frag x, linkS_is (S ++ fragT x S.length []) f S.length, linkI_left hf, bldC_frag r _ (S.length + 1) z (by rw [List.length_append, hlen, fragT_len]; have := szT_two x; omega)]
  rw [if_neg (show ¬ (x :: r).length = 0 by simp)]
  simp only [fragC]
  by_cases h0 : r.length = 0
  ·have : r = [] := List.eq_nil_of_length_eq_zero h0
   subst this
   simp only [List.length_nil, if_true]
   rw [linkS_is, linkS_is, frag_link' hlen rfl]
   simp [fragC]
  ·simp only [if_neg h0]
   rw [linkS_is, linkS_is, frag_link' hlen rfl, List.length_append, hlen, fragT_len, List.append_assoc]
   simp
theorem bldA_first : ∀ (l : List T) (S : List St) (f z : Nat), f < S.length → bldA l S f z true = linkI S f (altL l S.length) ++ fragA l S.length z
 | [], S, f, z, _ => by simp [bldA, altL, fragA, linkI_nil]
 | x :: r, S, f, z, hf => by
  have hlen : (linkI S f [(S.length : Int)]).length = S.length := linkI_len _ _ _
  simp only [bldA, if_true, fragA]
  rw [altL_cons]
  rw [bldT_frag x, linkS_is, linkS_is, linkI_left hf, frag_link' hlen rfl]
  by_cases h0 : r.length = 0
  ·have : r = [] := List.eq_nil_of_length_eq_zero h0
   subst this
   simp [bldA]
  ·rw [if_neg h0, if_neg h0, bldA_more r _ f z h0 (by rw [List.length_append, hlen]; omega), List.length_append, hlen, fragT_len, linkI_left (by rw [hlen]; exact hf), linkI_two, List.append_assoc]
   simp
theorem bldA_more : ∀ (r : List T) (S : List St) (f z : Nat), ¬ r.length = 0 → f < S.length → bldA r S f z false = linkI S f [(S.length : Int)] ++ (stF (altL r (S.length + 1)) :: fragA r (S.length + 1) z)
 | [], S, f, z, h, _ => absurd rfl h
 | x :: r, S, f, z, _, hf => by
  have hlen : (linkI S f [(S.length : Int)]).length = S.length := linkI_len _ _ _
  obtain ⟨P, hP⟩ : ∃ P, P = linkI S f [(S.length : Int)] := ⟨_, rfl⟩
  simp only [bldA, Bool.false_eq_true, if_false, fragA]
  rw [altL_cons]
  rw [linkS_is, linkS_is, linkS_is, linkI_left (X := [st0]) hf, ← hP, bldT_frag x]
  rw [← hP] at hlen
  have h1 : (P ++ [st0]).length = S.length + 1 := by simp [hlen]
  rw [h1]
  have e1 : linkI (P ++ [st0] ++ fragT x (S.length + 1) []) S.length [((S.length + 1 : Nat) : Int)] = (P ++ [stF [((S.length + 1 : Nat) : Int)]]) ++ fragT x (S.length + 1) [] := by
   rw [List.append_assoc, ← hlen]
   have := link_in P (fragT x (P.length + 1) []) [] [((P.length + 1 : Nat) : Int)] []
   simpa [st0, stF] using this
  have h2 : (P ++ [stF [((S.length + 1 : Nat) : Int)]]).length = S.length + 1 := by simp [hlen]
  rw [e1, frag_link' h2 (by omega)]
  by_cases h0 : r.length = 0
  ·have : r = [] := List.eq_nil_of_length_eq_zero h0
   subst this
   simp [bldA]
  ·have h3 : (P ++ [stF [((S.length + 1 : Nat) : Int)]] ++ fragT x (S.length + 1) ([] ++ [(z : Int)])).length = S.length + 1 + szT x := by rw [List.length_append, h2, fragT_len]
   rw [if_neg h0, if_neg h0, bldA_more r _ S.length z h0 (by rw [h3]; omega), h3]
   have e2 := link_in P (fragT x (P.length + 1) [(z : Int)]) [((P.length + 1 : Nat) : Int)] [((P.length + 1 + szT x : Nat) : Int)] []
   rw [hlen] at e2
   rw [List.append_assoc P, List.cons_append, List.nil_append, List.nil_append, e2, List.append_assoc]
   simp
end
inductive WayN (S : List St) : Nat → Nat → List UInt8 → Nat → Prop
 | here {i : Nat} : WayN S 0 i [] i
 | free {m i j k : Nat} {s : St} {w : List UInt8} : S[i]? = some s → (j : Int) ∈ s.free → WayN S m j w k → WayN S (m + 1) i w k
 | byte {m i j k : Nat} {s : St} {b : UInt8} {w : List UInt8} : S[i]? = some s → s.set b.toNat = true → s.to = (j : Int) → WayN S m j w k → WayN S (m + 1) i (b :: w) k
def At (M : List St) (p : Nat) (L : List St) : Prop := ∀ i s, L[i]? = some s → M[p + i]? = some s
theorem At.left {M A B : List St} {p : Nat} (h : At M p (A ++ B)) : At M p A := fun i s hs => h i s (by rw [List.getElem?_append_left (List.getElem?_eq_some_iff.1 hs).1]; exact hs)
theorem At.right {M A B : List St} {p : Nat} (h : At M p (A ++ B)) : At M (p + A.length) B := fun i s hs => by
 rw [Nat.add_assoc]
 refine h (A.length + i) s ?_
 rw [List.getElem?_append_right (by omega), Nat.add_sub_cancel_left]
 exact hs
theorem WayN.out {M : List St} {m i k : Nat} {w : List UInt8} {l : List Int} (h : WayN M m i w k) (hi : M[i]? = some (stF l)) (hk : k ≠ i) : ∃ (j m' : Nat), (j : Int) ∈ l ∧ m = m' + 1 ∧ WayN M m' j w k := by
 cases h with
 | here => exact absurd rfl hk
 | free a b c =>
  rw [hi] at a
  injection a with a
  subst a
  exact ⟨_, _, b, rfl, c⟩
 | byte a b c d =>
  rw [hi] at a
  injection a with a
  subst a
  cases b
def OkF (hi : Nat) (L : List St) : Prop := ∀ s ∈ L, s.to < (hi : Int) ∧ s.free.length ≤ 2 ∧ ∀ f ∈ s.free, 0 ≤ f ∧ f < (hi : Int)
theorem OkF.cons {hi : Nat} {a : St} {L : List St} (h1 : a.to < (hi : Int) ∧ a.free.length ≤ 2 ∧ ∀ f ∈ a.free, 0 ≤ f ∧ f < (hi : Int)) (h2 : OkF hi L) : OkF hi (a :: L) := fun s hs => by
 rcases List.mem_cons.1 hs with rfl | hs
 ·exact h1
 ·exact h2 s hs
theorem OkF.nil (hi : Nat) : OkF hi [] := fun s hs => by cases hs
/-! ### cells of states -/
/-! ### rows of the call's own, one cell turned -/
theorem own_set {w : World} {base n k cap g : Nat} {e : TypeId} {xs : List Value} (h : w.ownsRow base e k (.slice (some ⟨g, 0, none⟩) n cap) n xs) {j : Nat} (hj : j < xs.length) (u : Value) : (w.setCell ⟨g, j, none⟩ u).ownsRow base e k (.slice (some ⟨g, 0, none⟩) n cap) n (xs.set j u) := by
 refine ⟨by rw [List.length_set]; exact h.1, ?_⟩
 rcases h.2 with ⟨he, h0⟩ | ⟨g', cap', cur, he, hb, hg, hnc, hcm, hcs, ht⟩
 ·cases he
 ·injection he with h1 h2 h3
  injection h1 with h1
  injection h1 with h1
  subst h1
  subst h3
  refine .inr ⟨g, cap, cur.setIfInBounds j u, rfl, hb, ?_, hnc, hcm, by simp [hcs], ?_⟩
  ·have : Blk w g e cur.toList := by unfold Blk; simpa using hg
   have h2 := this.set j u
   unfold Blk at h2
   rw [h2]
   congr 2
   apply Array.ext'
   simp
  ·rw [Array.toList_setIfInBounds, ← ht, List.take_set]
theorem own_cell {w : World} {base n k cap g : Nat} {e : TypeId} {xs : List Value} (h : w.ownsRow base e k (.slice (some ⟨g, 0, none⟩) n cap) n xs) {j : Nat} {u : Value} (hj : xs[j]? = some u) : w.cell? ⟨g, j, none⟩ = some u ∧ w.frozen? ⟨g, j, none⟩ = false := by
 refine ⟨by have := h.cells (g := g) rfl j u hj; rwa [Addr.add_lit, Nat.zero_add] at this, ?_⟩
 rcases h.2 with ⟨he, h0⟩ | ⟨g', cap', cur, he, hb, hg, hnc, hcm, hcs, ht⟩
 ·cases he
 ·injection he with h1 h2 h3
  injection h1 with h1
  injection h1 with h1
  subst h1
  simp [World.frozen?, hg]
/-! ### a builder -/
def up (D : Nat → Prop) (w w' : World) (k : Nat) : Prop := D k ∨ (w.heap.size ≤ k ∧ k < w'.heap.size)
section
variable {w w' w'' : World} {B g : Nat} {D D' : Nat → Prop} {S : List St} {lv : Value} {fv : Nat → Value}
end
/-! ### laws of rows of states -/
section
variable {P : Program} {w : World} {ops : Array Oper} {rest : List Oper} {o : Oper} {a : Act} {K : Act → World → Prop} {Q : Exit → Act → World → Prop}
end
theorem ld_ints9 {ev : Operand → Value} {o : Oper} (x : Operand) (ho : o.op = .load 47 x) {p : Addr} (hx : ev x = .pointer (some p)) {A : Option Addr} {n c : Nat} {W : World} (hc : W.cell? p = some (.slice A n c)) : (execOp ev o).run Try.prog W = .ok (.value (.slice A n c)) W := by
 simp only [execOp, ho, hx]
 go_simp
theorem ascF_at : ∀ {l : List T}, ascF l = true ↔ ∀ (i : Nat) (a b : T), l[i]? = some a → l[i + 1]? = some b → folT b a = true
 | [] => by simp [ascF]
 | [a] => by simp [ascF]
 | a :: b :: r => by
  simp only [ascF, Bool.and_eq_true, @ascF_at (b :: r)]
  constructor
  ·rintro ⟨h1, h2⟩ i x y hx hy
   cases i with
   | zero =>
    simp at hx hy
    rw [← hx, ← hy]
    exact h1
   | succ i => exact h2 i x y (by simpa using hx) (by simpa using hy)
  ·intro h
   exact ⟨h 0 a b rfl rfl, fun i x y hx hy => h (i + 1) x y (by simpa using hx) (by simpa using hy)⟩
structure Pj (k : Int) (l : List T) (j : Nat) : Prop where
 fit : ∀ i t, i < j → l[i]? = some t → fitsT t.kind k = true ∧ plainT t = true
 asc : k = 5 → ∀ i a b, i + 1 < j → l[i]? = some a → l[i + 1]? = some b → folT b a = true
theorem Pj.start (k : Int) (l : List T) : Pj k l 0 := ⟨fun i t h => absurd h (Nat.not_lt_zero i), fun _ i a b h => absurd h (Nat.not_lt_zero _)⟩
theorem Pj.next {k : Int} {l : List T} {j : Nat} (h : Pj k l j) {x : T} (hx : l[j]? = some x) (h1 : fitsT x.kind k = true) (h2 : plainT x = true) (h3 : k = 5 → ∀ p y, j = p + 1 → l[p]? = some y → folT x y = true) : Pj k l (j + 1) := by
 refine ⟨fun i t hi ht => ?_, fun hk i a b hi ha hb => ?_⟩
 ·rcases Nat.lt_or_ge i j with hlt | hge
  ·exact h.fit i t hlt ht
  ·obtain rfl : i = j := by omega
   rw [hx] at ht
   injection ht with ht
   subst ht
   exact ⟨h1, h2⟩
 ·rcases Nat.lt_or_ge (i + 1) j with hlt | hge
  ·exact h.asc hk i a b hlt ha hb
  ·obtain rfl : j = i + 1 := by omega
   rw [hx] at hb
   injection hb with hb
   subst hb
   exact h3 hk i a rfl ha
theorem Pj.all {k : Int} {s : Nat → Bool} {l : List T} (h : Pj k l l.length) (h1 : k = 3 ∨ eqS s zeroS = true) (h2 : countT k s l.length = true) : plainT (.node k s l) = true := by
 simp only [plainT, Bool.and_eq_true, Bool.or_eq_true, decide_eq_true_eq]
 refine ⟨⟨⟨h1, h2⟩, plainL_iff.2 fun t ht => ?_⟩, ?_⟩
 ·obtain ⟨i, hi, rfl⟩ := List.getElem_of_mem ht
  exact h.fit i _ hi (List.getElem?_eq_getElem hi)
 ·by_cases hk : k = 5
  ·right
   exact ascF_at.2 fun i a b ha hb => h.asc hk i a b (List.getElem?_eq_some_iff.1 hb).1 ha hb
  ·exact .inl hk
theorem bldT_len (x : T) (S : List St) : (bldT x S).length = S.length + szT x := by rw [bldT_frag, List.length_append, fragT_len]
theorem bldT_old {x : T} {S : List St} {i : Nat} {s : St} (h : S[i]? = some s) : (bldT x S)[i]? = some s := by
 rw [bldT_frag, List.getElem?_append_left (List.getElem?_eq_some_iff.1 h).1]
 exact h
theorem bldT_out (x : T) (S : List St) : (bldT x S)[S.length + 1]? = some (stF []) := by
 obtain ⟨s, r, he⟩ := fragT_ends x S.length
 rw [bldT_frag, he, List.getElem?_append_right (by omega), show S.length + 1 - S.length = 1 from by omega]
 rfl
theorem linkS_other {S : List St} {f t i : Nat} (h : i ≠ f) : (linkS S f t)[i]? = S[i]? := by
 unfold linkS
 rw [List.getElem?_modify]
 have : ¬ f = i := fun e => h e.symm
 simp [this]
theorem linkS_at {S : List St} {f t : Nat} {s : St} (h : S[f]? = some s) : (linkS S f t)[f]? = some { s with free := s.free ++ [(t : Int)] } := by
 unfold linkS
 rw [List.getElem?_modify, h]
 simp
def restA (l : List T) (j : Nat) : Nat := if l.length = 0 then 0 else szA l + (if j = 0 then 0 else 1)
theorem restA_cons {x : T} {r : List T} {j : Nat} : restA (x :: r) j = szT x + restA r 1 + (if j = 0 then 0 else 1) := by
 unfold restA
 rw [if_neg (by simp)]
 simp only [szA]
 by_cases h : r.length = 0
 ·rw [if_pos h, if_pos h]
 ·rw [if_neg h, if_neg h, if_neg (by omega : ¬ (1 : Nat) = 0)]; omega
structure Wj (l : List T) (S : List St) (f0 z j f : Nat) (S' : List St) : Prop where
 same : bldA l S f0 z true = bldA (l.drop j) S' f z (decide (j = 0))
 fork : ∃ s, S'[f]? = some s ∧ s.free.length ≤ if j = 0 then 0 else 1
 size : S'.length + restA (l.drop j) j ≤ 2000
theorem Wj.first {l : List T} {S S' : List St} {f0 z j f : Nat} {x : T} (h : Wj l S f0 z j f S') (hx : l[j]? = some x) (hj : j = 0) : ∃ s, S'[f]? = some s ∧ s.free.length ≤ 8 ∧ S'.length + szT x ≤ 2000 ∧
  (linkS (bldT x S') f S'.length)[S'.length + 1]? = some (stF []) ∧ (linkS (bldT x S') f S'.length).length ≤ 2000 ∧ Wj l S f0 z (j + 1) f (linkS (linkS (bldT x S') f S'.length) (S'.length + 1) z) := by
 subst hj
 obtain ⟨s, hs, hl⟩ := h.fork
 have hd : l.drop 0 = x :: l.drop 1 := by
  cases l with
  | nil => simp at hx
  | cons a r => simp at hx; simp [hx]
 have hz := h.size
 have hsame := h.same
 rw [hd] at hz hsame
 rw [restA_cons, if_pos rfl] at hz
 rw [if_pos rfl] at hl
 have hf := (List.getElem?_eq_some_iff.1 hs).1
 have hne : S'.length + 1 ≠ f := by omega
 refine ⟨s, hs, by omega, by omega, ?_, ?_, ⟨hsame.trans ?_, ?_, ?_⟩⟩
 ·rw [linkS_other hne]; exact bldT_out x S'
 ·rw [linkS_is, linkI_len, bldT_len]; omega
 ·rfl
 ·refine ⟨{ s with free := s.free ++ [(S'.length : Int)] }, ?_, ?_⟩
  ·rw [linkS_other (fun e => hne e.symm), linkS_at (bldT_old hs)]
  ·show (s.free ++ [(S'.length : Int)]).length ≤ 1
   rw [List.length_append, List.length_singleton]; omega
 ·change _ + restA (l.drop 1) 1 ≤ 2000
  rw [linkS_is, linkI_len, linkS_is, linkI_len, bldT_len]; omega
theorem Wj.next {l : List T} {S S' : List St} {f0 z q f : Nat} {x : T} (h : Wj l S f0 z q f S') (hx : l[q]? = some x) (hq : q ≠ 0) :
  ∃ s, (S' ++ [st0])[f]? = some s ∧ s.free.length ≤ 8 ∧ (S' ++ [st0]).length + szT x ≤ 2000 ∧
  (linkS (S' ++ [st0]) f S'.length)[S'.length]? = some st0 ∧ (linkS (S' ++ [st0]) f S'.length).length = S'.length + 1 ∧
  (linkS (bldT x (linkS (S' ++ [st0]) f S'.length)) S'.length (S'.length + 1))[S'.length + 2]? = some (stF []) ∧ (linkS (bldT x (linkS (S' ++ [st0]) f S'.length)) S'.length (S'.length + 1)).length ≤ 2000 ∧
   Wj l S f0 z (q + 1) S'.length (linkS (linkS (bldT x (linkS (S' ++ [st0]) f S'.length)) S'.length (S'.length + 1)) (S'.length + 2) z) := by
 obtain ⟨j, rfl⟩ : ∃ j, q = j + 1 := ⟨q - 1, by omega⟩
 obtain ⟨s, hs, hl⟩ := h.fork
 have hd : l.drop (j + 1) = x :: l.drop (j + 2) := by
  obtain ⟨hj, rfl⟩ := List.getElem?_eq_some_iff.1 hx
  exact List.drop_eq_getElem_cons hj
 have hz := h.size
 have hsame := h.same
 rw [hd] at hz hsame
 rw [restA_cons, if_neg (by omega)] at hz
 rw [if_neg (by omega)] at hl
 have hf := (List.getElem?_eq_some_iff.1 hs).1
 have h1 : (linkS (S' ++ [st0]) f S'.length).length = S'.length + 1 := by rw [linkS_is, linkI_len]; simp
 have h2 : (linkS (S' ++ [st0]) f S'.length)[S'.length]? = some st0 := by rw [linkS_other (by omega)]; simp
 have ho := bldT_out x (linkS (S' ++ [st0]) f S'.length)
 rw [h1] at ho
 refine ⟨s, by rw [List.getElem?_append_left hf]; exact hs, by omega, by simp; omega, h2, h1, ?_, ?_, ⟨hsame.trans ?_, ?_, ?_⟩⟩
 ·rw [linkS_other (by omega)]; exact ho
 ·rw [linkS_is, linkI_len, bldT_len, h1]; omega
 ·rw [decide_eq_false (by omega : ¬ j + 1 = 0), decide_eq_false (by omega : ¬ j + 2 = 0)]
  rfl
 ·refine ⟨{ st0 with free := st0.free ++ [((S'.length + 1 : Nat) : Int)] }, ?_, ?_⟩
  ·rw [linkS_other (by omega), linkS_at (bldT_old h2)]
  ·rw [if_neg (by omega)]
   exact Nat.le_refl _
 ·change _ + restA (l.drop (j + 2)) (j + 2) ≤ 2000
  rw [linkS_is, linkI_len, linkS_is, linkI_len, bldT_len, h1]
  have : restA (l.drop (j + 2)) (j + 2) = restA (l.drop (j + 2)) 1 := by unfold restA; rw [if_neg (by omega : ¬ j + 2 = 0), if_neg (by omega : ¬ (1 : Nat) = 0)]
  omega
theorem Wj.end_ {l : List T} {S S' : List St} {f0 z f : Nat} (h : Wj l S f0 z l.length f S') : bldA l S f0 z true = S' := by
 rw [h.same, List.drop_length]
 rfl
/-! ### sequences -/
structure Cj (l : List T) (S : List St) (f0 j f : Nat) (S' : List St) : Prop where
 same : bldC l S f0 = bldC (l.drop j) S' f
 at_ : ∃ s, S'[f]? = some s ∧ s.free = []
 size : S'.length + szC (l.drop j) ≤ 2000
theorem Cj.next {l : List T} {S S' : List St} {f0 j f : Nat} {x : T} (h : Cj l S f0 j f S') (hx : l[j]? = some x) : ∃ s, S'[f]? = some s ∧ s.free.length ≤ 8 ∧ S'.length + szT x ≤ 2000 ∧ Cj l S f0 (j + 1) (S'.length + 1) (linkS (bldT x S') f S'.length) := by
 obtain ⟨s, hs, hl⟩ := h.at_
 have hd : l.drop j = x :: l.drop (j + 1) := by
  obtain ⟨hj, rfl⟩ := List.getElem?_eq_some_iff.1 hx
  exact List.drop_eq_getElem_cons hj
 have hz := h.size
 have hsame := h.same
 rw [hd] at hz hsame
 simp only [szC] at hz
 have hf := (List.getElem?_eq_some_iff.1 hs).1
 refine ⟨s, hs, by rw [hl]; exact Nat.zero_le _, by omega, ⟨hsame, ⟨stF [], ?_, rfl⟩, ?_⟩⟩
 ·rw [linkS_other (by omega)]; exact bldT_out x S'
 ·rw [linkS_is, linkI_len, bldT_len]; omega
theorem Cj.end_ {l : List T} {S S' : List St} {f0 f : Nat} (h : Cj l S f0 l.length f S') : bldC l S f0 = (S', f) := by
 rw [h.same, List.drop_length]
 rfl
def mayE (t : T) : Int := if 400 < t.nodes then 4 else if 30 < t.depth then 5 else if plainT t then 0 else 3
def Built (w : World) (ns : List Value) (t : T) : Prop := (mayE t = 0 → NfaV w ns (fragT t 0 []) 0 1) ∧ (mayE t ≠ 0 → ns = [.slice none 0 0, .int .i64 0, .int .i64 0])
theorem Built.len {w : World} {ns : List Value} {t : T} (h : Built w ns t) : ns.length = 3 := by
 by_cases hm : mayE t = 0
 ·exact (h.1 hm).length
 ·rw [h.2 hm]; rfl
theorem Built.one {w : World} {ns : List Value} {t : T} (h : Built w ns t) : ns.all (·.oneCell') = true := by
 by_cases hm : mayE t = 0
 ·exact (h.1 hm).one
 ·rw [h.2 hm]; rfl
theorem Built.below {w w' : World} {ns : List Value} {t : T} (h : Built w ns t) (hb : Below w.heap.size w w') : Built w' ns t := ⟨fun hm => (h.1 hm).below hb, h.2⟩
theorem DfaV.one {w : World} {cs : List Value} {D : Dm} (h : DfaV w cs D) : cs.all (·.oneCell') = true := by
 obtain ⟨An, Ae, cn, ce, vf, _, hcs, _⟩ := h.form
 rw [hcs]
 exact dcl_one
theorem DfaV.length {w : World} {cs : List Value} {D : Dm} (h : DfaV w cs D) : cs.length = 258 := by
 obtain ⟨hl, vn, ve, vf, hcs, _⟩ := h
 rw [hcs]
 exact dcl_len hl
theorem clsD_up {cl : List UInt8} {K : Nat} (h : ∀ c ∈ cl, c.toNat + 1 ≤ K) : ∀ i, clsD cl i ≤ K
 | 0 => Nat.zero_le _
 | i + 1 => by
  rcases Nat.lt_or_ge i cl.length with hi | hi
  ·rw [clsD_next (List.getElem?_eq_getElem hi)]
   have h1 := clsD_up h i
   have h2 := h _ (List.getElem_mem hi)
   omega
  ·have : clsD cl (i + 1) = clsD cl i := by
    unfold clsD
    rw [List.take_of_length_le hi, List.take_of_length_le (by omega)]
   rw [this]
   exact clsD_up h i
theorem ofNat_toNat {n : Nat} (h : n < 256) : (UInt8.ofNat n).toNat = n := by
 rw [UInt8.toNat_ofNat']
 exact Nat.mod_eq_of_lt h
def stD (D : Dm) (s : Nat) (b : UInt8) : Nat := ((D.next[s]?.getD []).getD (D.cl.getD b.toNat 0).toNat 0).toNat
def toD (D : Dm) : Nat → List UInt8 → Nat
 | s, [] => s
 | s, b :: w => toD D (stD D s b) w
theorem toD_snoc (D : Dm) : ∀ (w : List UInt8) (s : Nat) (b : UInt8), toD D s (w ++ [b]) = stD D (toD D s w) b
 | [], _, _ => rfl
 | c :: w, s, b => toD_snoc D w (stD D s c) b
theorem toD_take {D : Dm} {s j : Nat} {w : List UInt8} {b : UInt8} (h : w[j]? = some b) : toD D s (w.take (j + 1)) = stD D (toD D s (w.take j)) b := by
 obtain ⟨hj, rfl⟩ := List.getElem?_eq_some_iff.1 h
 rw [List.take_succ_eq_append_getElem hj, toD_snoc]
/-! ### finding comes to an end -/
theorem least_nat {P : Nat → Prop} : ∀ N, (∃ r, r ≤ N ∧ P r) → ∃ r, r ≤ N ∧ P r ∧ ∀ i, i < r → ¬ P i
 | 0, ⟨r, hr, hp⟩ => by
  obtain rfl : r = 0 := by omega
  exact ⟨0, Nat.le_refl _, hp, fun i h => absurd h (Nat.not_lt_zero i)⟩
 | N + 1, ⟨r, hr, hp⟩ => by
  by_cases h : ∃ q, q ≤ N ∧ P q
  ·obtain ⟨q, h1, h2, h3⟩ := least_nat N h
   exact ⟨q, by omega, h2, h3⟩
  ·have e : r = N + 1 := by
    refine Nat.le_antisymm hr (Nat.lt_of_not_le fun hle => h ⟨r, hle, hp⟩)
   exact ⟨r, hr, hp, fun i hi hpi => h ⟨i, by omega, hpi⟩⟩
theorem fit_ex {α : Type} [DecidableEq α] {f : α → List α} {x0 : α} {N : Nat} (h : ∀ r, (Lq f x0 r).length ≤ N) : ∃ n, n ≤ N ∧ Fit f x0 n := by
 obtain ⟨r, h1, h2, h3⟩ := least_nat (P := fun r => (Lq f x0 r).length ≤ r) N ⟨N, Nat.le_refl _, h N⟩
 exact ⟨r, h1, Nat.le_antisymm h2 (Lq_turn fun i hi => Nat.lt_of_not_le (h3 i hi))⟩
theorem nodup_sub {α : Type} [DecidableEq α] : ∀ (L M : List α), L.Nodup → (∀ x ∈ L, x ∈ M) → L.length ≤ M.length
 | [], M, _, _ => Nat.zero_le _
 | x :: r, M, hn, hs => by
  have hx : x ∈ M := hs x (by simp)
  have hn2 := List.nodup_cons.1 hn
  have h1 := nodup_sub r (M.erase x) hn2.2 fun y hy => (List.mem_erase_of_ne (fun e => hn2.1 (by rw [← e]; exact hy))).2 (hs y (List.mem_cons_of_mem _ hy))
  rw [List.length_erase_of_mem hx] at h1
  have h2 : 0 < M.length := List.length_pos_of_mem hx
  simp only [List.length_cons]
  omega
/-! ### classes by a relation -/
theorem clsA_ctabN (ps : List (Nat → Bool)) (N : Nat) (hN : N = 256) : clsA (ctab ps N) = (firstJ ps N).length := by
 have hat : ∀ {j : Nat}, j < N → (ctab ps N)[j]? = some (UInt8.ofNat (clsOf ps j)) := fun {j} hj => by
  have := ctab_at ps (j := j) (by omega)
  rw [← hN] at this
  exact this
 have hlt : ∀ {j : Nat}, j < N → clsOf ps j < (firstJ ps N).length := fun hj => clsOf_ltN ps hj
 have h256 : ∀ {j : Nat}, j < N → clsOf ps j < 256 := fun {j} hj => clsOf_256 ps (by omega)
 apply Nat.le_antisymm
 ·refine clsD_up (fun c hc => ?_) 256
  obtain ⟨j, hj, rfl⟩ := List.getElem_of_mem hc
  have hj' : j < N := by rw [ctab_length] at hj; omega
  have h1 := hat hj'
  rw [List.getElem?_eq_getElem hj] at h1
  injection h1 with h1
  rw [h1, ofNat_toNat (h256 hj')]
  exact hlt hj'
 ·have hp : 0 < (firstJ ps N).length := Nat.lt_of_le_of_lt (Nat.zero_le _) (hlt (j := 0) (by omega))
  obtain ⟨c, hc⟩ : ∃ c, (firstJ ps N)[(firstJ ps N).length - 1]? = some c := ⟨_, List.getElem?_eq_getElem (by omega)⟩
  have hcN := firstJ_lt ps N c (List.mem_of_getElem? hc)
  obtain ⟨hk, hce⟩ := List.getElem?_eq_some_iff.1 hc
  have h1 : clsOf ps c = (firstJ ps N).length - 1 := (clsOf_is ps N c hcN _ hk).2 (by rw [hce]; exact alikeS_refl _ _)
  have h3 := clsA_lt (by rw [ctab_length]) (hat hcN)
  rw [ofNat_toNat (h256 hcN), h1] at h3
  omega
/-! ### languages -/
abbrev Lang := List UInt8 → Bool
noncomputable instance langDec : DecidableEq Lang := fun _ _ => Classical.propDecidable _
def resW (l : Lang) (u : List UInt8) : Lang := fun w => l (u ++ w)
section
variable {L : Lang} {n : Nat}
def accD (D : Dm) (s : Nat) : Lang := fun w => D.ends.getD (toD D s w) false
end
/-! ### the least machine of a machine -/
theorem toD_app (D : Dm) : ∀ (u v : List UInt8) (s : Nat), toD D s (u ++ v) = toD D (toD D s u) v
 | [], _, _ => rfl
 | b :: u, v, s => toD_app D u v (stD D s b)
theorem resW_acc (D : Dm) (s : Nat) (u : List UInt8) : resW (accD D s) u = accD D (toD D s u) := by
 funext w
 unfold resW accD
 rw [toD_app]
theorem toD_ltA {D : Dm} (h : MayD D) (hl : D.cl.length = 256) : ∀ (w : List UInt8) (s : Nat), s < D.next.length → toD D s w < D.next.length
 | [], _, hs => hs
 | b :: w, s, hs => by
  refine toD_ltA h hl w _ ?_
  obtain ⟨r, hr⟩ : ∃ r, D.next[s]? = some r := ⟨_, List.getElem?_eq_getElem hs⟩
  obtain ⟨c, hc⟩ : ∃ c, D.cl[b.toNat]? = some c := ⟨_, List.getElem?_eq_getElem (by rw [hl]; exact b.toNat_lt)⟩
  have hm := List.mem_of_getElem? hr
  have hk : c.toNat < r.length := by rw [h.rows r hm]; exact clsA_lt hl hc
  obtain ⟨x, hx⟩ : ∃ x, r[c.toNat]? = some x := ⟨_, List.getElem?_eq_getElem hk⟩
  have h2 := h.to r hm x (List.mem_of_getElem? hx)
  have e : stD D s b = x.toNat := by
   unfold stD
   rw [hr, List.getD_eq_getElem?_getD, List.getD_eq_getElem?_getD, hc]
   show (r[c.toNat]?.getD 0).toNat = _
   rw [hx]
   rfl
  rw [e]
  omega
def flipD (D : Dm) : Dm := ⟨D.cl, D.next, D.ends.map fun b => !b⟩
theorem flipD_may {D : Dm} (h : MayD D) : MayD (flipD D) := ⟨h.pos, h.few, by
 show (D.ends.map _).length = D.next.length
 rw [List.length_map]
 exact h.ends, h.rows, h.to⟩
/-! ### finding, under another name for each thing -/
section
variable {α β : Type} [DecidableEq α] [DecidableEq β] {φ : α → β}
end
/-! ### flipped -/
def notL (l : Lang) : Lang := fun w => !l w
theorem toD_flip (D : Dm) : ∀ (w : List UInt8) (s : Nat), toD (flipD D) s w = toD D s w
 | [], _ => rfl
 | b :: w, s => toD_flip D w (stD D s b)
theorem accD_flip {D : Dm} (h : MayD D) (hl : D.cl.length = 256) {s : Nat} (hs : s < D.next.length) : accD (flipD D) s = notL (accD D s) := by
 funext w
 have h1 := toD_ltA h hl w s hs
 rw [← h.ends] at h1
 unfold accD notL
 rw [toD_flip]
 show (D.ends.map fun b => !b).getD (toD D s w) false = !(D.ends.getD (toD D s w) false)
 rw [List.getD_eq_getElem?_getD, List.getD_eq_getElem?_getD, List.getElem?_map, List.getElem?_eq_getElem h1]
 rfl
/-! ### numbered otherwise -/
/-! ### parts -/
def byts : List UInt8 := (List.range 256).map UInt8.ofNat
theorem byts_len : byts.length = 256 := by simp [byts]
theorem byts_mem (b : UInt8) : b ∈ byts := List.mem_map.2 ⟨b.toNat, List.mem_range.2 b.toNat_lt, UInt8.ofNat_toNat⟩
def allW : Nat → List (List UInt8)
 | 0 => [[]]
 | n + 1 => byts.flatMap fun b => (allW n).map fun w => b :: w
theorem allW_len : ∀ n, (allW n).length = 256 ^ n
 | 0 => rfl
 | n + 1 => by
  have ih := allW_len n
  have key : ∀ l : List UInt8, (l.flatMap fun b => (allW n).map fun w => b :: w).length = l.length * 256 ^ n := by
   intro l
   induction l with
   | nil => simp
   | cons b l ih2 => rw [List.flatMap_cons, List.length_append, ih2, List.length_map, ih, List.length_cons, Nat.add_mul, Nat.one_mul, Nat.add_comm]
  show (byts.flatMap fun b => (allW n).map fun w => b :: w).length = _
  rw [key, byts_len, Nat.pow_succ, Nat.mul_comm]
theorem allW_mem : ∀ (n : Nat) (w : List UInt8), w ∈ allW n ↔ w.length = n
 | 0, w => by
  show w ∈ [[]] ↔ _
  rw [List.mem_singleton, List.length_eq_zero_iff]
 | n + 1, w => by
  show w ∈ byts.flatMap _ ↔ _
  rw [List.mem_flatMap]
  constructor
  ·rintro ⟨b, _, hb⟩
   obtain ⟨v, hv, rfl⟩ := List.mem_map.1 hb
   rw [List.length_cons, (allW_mem n v).1 hv]
  ·intro h
   cases w with
   | nil => simp at h
   | cons b v =>
    refine ⟨b, byts_mem b, List.mem_map.2 ⟨v, (allW_mem n v).2 ?_, rfl⟩⟩
    simpa using h
def wrds (L : Lang) (n : Nat) : List (List UInt8) := (allW n).filter L
def cntL (L : Lang) (n : Nat) : Nat := (wrds L n).length
theorem wrds_mem {L : Lang} {n : Nat} {w : List UInt8} : w ∈ wrds L n ↔ w.length = n ∧ L w = true := by
 unfold wrds
 rw [List.mem_filter, allW_mem]
theorem wrds_zero (L : Lang) : wrds L 0 = if L [] = true then [[]] else [] := by
 unfold wrds allW
 rw [List.filter_cons]
 rfl
theorem filter_flat {α β : Type} (p : β → Bool) (f : α → List β) : ∀ l : List α, (l.flatMap f).filter p = l.flatMap fun x => (f x).filter p
 | [] => rfl
 | x :: l => by rw [List.flatMap_cons, List.filter_append, filter_flat p f l, List.flatMap_cons]
theorem wrds_succ (L : Lang) (n : Nat) : wrds L (n + 1) = byts.flatMap fun b => (wrds (resW L [b]) n).map fun w => b :: w := by
 show (byts.flatMap fun b => (allW n).map fun w => b :: w).filter L = _
 rw [filter_flat]
 congr 1
 funext b
 rw [List.filter_map]
 rfl
theorem wrds_acc (D : Dm) (s n : Nat) : wrds (accD D s) (n + 1) = byts.flatMap fun b => (wrds (accD D (stD D s b)) n).map fun w => b :: w := by
 rw [wrds_succ]
 have e : ∀ b : UInt8, resW (accD D s) [b] = accD D (stD D s b) := fun b => resW_acc D s [b]
 simp only [e]
theorem cntL_zero (L : Lang) : cntL L 0 = if L [] = true then 1 else 0 := by
 unfold cntL
 rw [wrds_zero]
 split <;> rfl
theorem len_flat {α β : Type} (f : α → List β) : ∀ l : List α, (l.flatMap f).length = (l.map fun x => (f x).length).sum
 | [] => rfl
 | x :: l => by rw [List.flatMap_cons, List.length_append, len_flat f l, List.map_cons, List.sum_cons]
theorem cntL_acc (D : Dm) (s n : Nat) : cntL (accD D s) (n + 1) = (byts.map fun b => cntL (accD D (stD D s b)) n).sum := by
 unfold cntL
 rw [wrds_acc, len_flat]
 congr 1
 refine List.map_congr_left fun b _ => ?_
 rw [List.length_map]
theorem cntL_not (L : Lang) (n : Nat) : cntL L n + cntL (notL L) n = 256 ^ n := by
 rw [← allW_len]
 unfold cntL wrds
 have key : ∀ l : List (List UInt8), (l.filter L).length + (l.filter (notL L)).length = l.length := by
  intro l
  induction l with
  | nil => rfl
  | cons w l ih =>
   rw [List.filter_cons, List.filter_cons]
   unfold notL at ih ⊢
   cases L w
   ·simp only [Bool.false_eq_true, if_false, Bool.not_false, if_true, List.length_cons]
    omega
   ·simp only [if_true, Bool.not_true, Bool.false_eq_true, if_false, List.length_cons]
    omega
 exact key _
theorem cntL_two (L M : Lang) (n : Nat) : cntL L n + cntL M n = cntL (fun w => L w && M w) n + cntL (fun w => L w || M w) n := by
 unfold cntL wrds
 have key : ∀ l : List (List UInt8), (l.filter L).length + (l.filter M).length = (l.filter fun w => L w && M w).length + (l.filter fun w => L w || M w).length := by
  intro l
  induction l with
  | nil => rfl
  | cons w l ih =>
   rw [List.filter_cons, List.filter_cons, List.filter_cons, List.filter_cons]
   cases L w <;> cases M w
   all_goals
    simp only [Bool.false_and, Bool.true_and, Bool.false_or, Bool.true_or, Bool.and_false, Bool.or_false, Bool.or_true, Bool.false_eq_true, if_false, if_true, List.length_cons]
    omega
 exact key _
/-! ### words in their order -/
def ltW : List UInt8 → List UInt8 → Prop
 | _, [] => False
 | [], _ :: _ => True
 | b :: u, c :: v => b < c ∨ (b = c ∧ ltW u v)
theorem byts_rise : byts.Pairwise (· < ·) := by
 unfold byts
 rw [List.pairwise_map]
 refine (List.Pairwise.and_mem.1 List.pairwise_lt_range).imp fun {a b} h => ?_
 have ha := List.mem_range.1 h.1
 have hb := List.mem_range.1 h.2.1
 rw [UInt8.lt_iff_toNat_lt, UInt8.toNat_ofNat', UInt8.toNat_ofNat', Nat.mod_eq_of_lt ha, Nat.mod_eq_of_lt hb]
 exact h.2.2
theorem allW_rise : ∀ n, (allW n).Pairwise ltW
 | 0 => List.pairwise_singleton _ _
 | n + 1 => by
  have ih := allW_rise n
  have key : ∀ l : List UInt8, l.Pairwise (· < ·) → (l.flatMap fun b => (allW n).map fun w => b :: w).Pairwise ltW := by
   intro l
   induction l with
   | nil => exact fun _ => .nil
   | cons b l ih2 =>
    intro hl
    obtain ⟨h1, h2⟩ := List.pairwise_cons.1 hl
    rw [List.flatMap_cons, List.pairwise_append]
    refine ⟨?_, ih2 h2, ?_⟩
    ·rw [List.pairwise_map]
     exact ih.imp fun {u v} h => .inr ⟨rfl, h⟩
    ·intro x hx y hy
     obtain ⟨u, _, rfl⟩ := List.mem_map.1 hx
     obtain ⟨c, hc, hy⟩ := List.mem_flatMap.1 hy
     obtain ⟨v, _, rfl⟩ := List.mem_map.1 hy
     exact .inl (h1 c hc)
  exact key byts byts_rise
theorem wrds_rise (L : Lang) (n : Nat) : (wrds L n).Pairwise ltW := (allW_rise n).filter _
/-! ### the shortest word -/
theorem wrds_ne {L : Lang} {n : Nat} : wrds L n ≠ [] ↔ ∃ w, w.length = n ∧ L w = true := by
 constructor
 ·intro h
  cases hw : wrds L n with
  | nil => exact absurd hw h
  | cons w r => exact ⟨w, wrds_mem.1 (by rw [hw]; simp)⟩
 ·rintro ⟨w, h1, h2⟩ he
  have := wrds_mem.2 ⟨h1, h2⟩
  rw [he] at this
  cases this
theorem short_few {D : Dm} (h : MayD D) (hl : D.cl.length = 256) {s n : Nat} (hs : s < D.next.length) (hn : wrds (accD D s) n ≠ []) (hno : ∀ m, m < n → wrds (accD D s) m = []) : n < D.next.length := by
 obtain ⟨w, hw, hacc⟩ := wrds_ne.1 hn
 refine Nat.lt_of_not_le fun hle => ?_
 have hno2 : ∀ v, v.length < n → accD D s v = false := fun v hv => by
  cases hc : accD D s v with
  | false => rfl
  | true => exact absurd (hno v.length hv) (wrds_ne.2 ⟨v, rfl, hc⟩)
 -- the states on the way are all unlike
 have hnd : ((List.range (n + 1)).map fun i => toD D s (w.take i)).Nodup := by
  rw [List.Nodup, List.pairwise_map]
  refine (List.Pairwise.and_mem.1 List.pairwise_lt_range).imp fun {i j} hij he => ?_
  have hi := List.mem_range.1 hij.1
  have hj := List.mem_range.1 hij.2.1
  have hlt := hij.2.2
  have h1 : accD D s (w.take i ++ w.drop j) = accD D s w := by
   unfold accD
   rw [toD_app, he, ← toD_app, List.take_append_drop]
  rw [hacc] at h1
  rw [hno2 _ (by rw [List.length_append, List.length_take, List.length_drop]; omega)] at h1
  cases h1
 have h1 := nodup_sub _ (List.range D.next.length) hnd fun q hq => by
  obtain ⟨i, _, rfl⟩ := List.mem_map.1 hq
  exact List.mem_range.2 (toD_ltA h hl _ s hs)
 rw [List.length_map, List.length_range, List.length_range] at h1
 omega
end Go.Proofs.Ytaakdebcagdfgaa
