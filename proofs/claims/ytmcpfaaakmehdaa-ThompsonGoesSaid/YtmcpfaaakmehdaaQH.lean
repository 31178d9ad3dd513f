/-
  Texts of this proof, put together: TbA, TbB, TbC, Off, AppW. No statement is proved here.
-/
import Derived.Test.YtmcpfaaakmehdaaQC
import Derived.Test.YtmcpfaaakmehdaaQA
import Derived.Test.YtmcpfaaakmehdaaQB
namespace Go.Proofs.Ytmcpfaaakmehdaa
open Go.RowKit
set_option linter.unusedSimpArgs false
set_option linter.unusedVariables false
def st0 : St := ⟨fun _ => false, -1, []⟩
def stF (l : List Int) : St := ⟨fun _ => false, -1, l⟩
def linkS (S : List St) (f t : Nat) : List St := S.modify f fun s => { s with free := s.free ++ [(t : Int)] }
def setS (S : List St) (i : Nat) (p : Nat → Bool) (z : Nat) : List St := S.modify i fun s => { s with set := p, to := (z : Int) }
mutual
def bldT : T → List St → List St
 | .node k s l, S =>
  if k = 3 then setS (S ++ [st0] ++ [st0]) S.length s (S.length + 1)
  else if k = 4 then linkS (bldC l (S ++ [st0] ++ [st0]) S.length).1 (bldC l (S ++ [st0] ++ [st0]) S.length).2 (S.length + 1)
  else if k = 5 then bldA l (S ++ [st0] ++ [st0]) S.length (S.length + 1) true
  else if k = 6 then linkS (bldO l (S ++ [st0] ++ [st0]) S.length) S.length (S.length + 1)
  else if k = 2 then linkS (S ++ [st0] ++ [st0]) S.length (S.length + 1)
  else S ++ [st0] ++ [st0]
def bldC : List T → List St → Nat → List St × Nat
 | [], S, at' => (S, at')
 | x :: r, S, at' => bldC r (linkS (bldT x S) at' S.length) (S.length + 1)
def bldA : List T → List St → Nat → Nat → Bool → List St
 | [], S, _, _, _ => S
 | x :: r, S, f, z, first =>
  if first then bldA r (linkS (linkS (bldT x S) f S.length) (S.length + 1) z) f z false
  else bldA r (linkS (linkS (bldT x (linkS (S ++ [st0]) f S.length)) S.length (S.length + 1)) (S.length + 2) z) S.length z false
def bldO : List T → List St → Nat → List St
 | [], S, _ => S
 | x :: r, S, a => linkS (linkS (bldT x S) a S.length) (S.length + 1) a
end
/-! ### the same as one piece behind what was there -/
mutual
def szT : T → Nat
 | .node k _ l => 2 + if k = 4 then szC l else if k = 5 then szA l else if k = 6 then szO l else 0
def szC : List T → Nat
 | [] => 0
 | x :: r => szT x + szC r
def szA : List T → Nat
 | [] => 0
 | x :: r => szT x + if r.length = 0 then 0 else 1 + szA r
def szO : List T → Nat
 | [] => 0
 | x :: _ => szT x
end
def altL : List T → Nat → List Int
 | [], _ => []
 | x :: r, p => (p : Int) :: if r.length = 0 then [] else [((p + szT x : Nat) : Int)]
theorem altL_cons (x : T) (r : List T) (p : Nat) : altL (x :: r) p = (p : Int) :: if r.length = 0 then [] else [((p + szT x : Nat) : Int)] := rfl
mutual
def fragT : T → Nat → List Int → List St
 | .node k s l, n, c =>
  if k = 3 then [⟨s, ((n + 1 : Nat) : Int), []⟩, stF c]
  else if k = 4 then stF [if l.length = 0 then ((n + 1 : Nat) : Int) else ((n + 2 : Nat) : Int)] :: stF c :: fragC l (n + 2) (n + 1)
  else if k = 5 then stF (altL l (n + 2)) :: stF c :: fragA l (n + 2) (n + 1)
  else if k = 6 then stF ((if l.length = 0 then [] else [((n + 2 : Nat) : Int)]) ++ [((n + 1 : Nat) : Int)]) :: stF c :: fragO l (n + 2) n
  else if k = 2 then [stF [((n + 1 : Nat) : Int)], stF c]
  else [stF [], stF c]
def fragC : List T → Nat → Nat → List St
 | [], _, _ => []
 | x :: r, p, z => fragT x p [if r.length = 0 then (z : Int) else ((p + szT x : Nat) : Int)] ++ fragC r (p + szT x) z
def fragA : List T → Nat → Nat → List St
 | [], _, _ => []
 | x :: r, p, z => fragT x p [(z : Int)] ++ if r.length = 0 then [] else stF (altL r (p + szT x + 1)) :: fragA r (p + szT x + 1) z
def fragO : List T → Nat → Nat → List St
 | [], _, _ => []
 | x :: _, p, z => fragT x p [(z : Int)]
end
mutual
theorem fragT_len : ∀ (t : T) (n : Nat) (c : List Int), (fragT t n c).length = szT t
 | .node k s l, n, c => by
  have h1 := fragC_len l (n + 2) (n + 1)
  have h2 := fragA_len l (n + 2) (n + 1)
  have h3 := fragO_len l (n + 2) n
  simp only [fragT, szT]
  split
  ·next h => rw [if_neg (by omega), if_neg (by omega), if_neg (by omega)]; rfl
  ·split
   ·simp [h1]; omega
   ·split
    ·simp [h2]; omega
    ·split
     ·simp [h3]; omega
     ·split <;> rfl
theorem fragC_len : ∀ (l : List T) (p z : Nat), (fragC l p z).length = szC l
 | [], _, _ => rfl
 | x :: r, p, z => by
  simp only [fragC, szC, List.length_append]
  rw [fragT_len x, fragC_len r]
theorem fragA_len : ∀ (l : List T) (p z : Nat), (fragA l p z).length = szA l
 | [], _, _ => rfl
 | x :: r, p, z => by
  simp only [fragA, szA, List.length_append]
  rw [fragT_len x]
  split
  ·rfl
  ·rw [List.length_cons, fragA_len r]; omega
theorem fragO_len : ∀ (l : List T) (p z : Nat), (fragO l p z).length = szO l
 | [], _, _ => rfl
 | x :: r, p, z => by
  simp only [fragO, szO]
  exact fragT_len x _ _
end
theorem szT_two (t : T) : 2 ≤ szT t := by
 cases t with
 | node k s l => simp only [szT]; omega
theorem fragT_ends (t : T) (n : Nat) : ∃ (s : St) (r : List St), ∀ c, fragT t n c = s :: stF c :: r := by
 cases t with
 | node k s l =>
  simp only [fragT]
  by_cases h3 : k = 3
  ·exact ⟨_, [], fun c => by rw [if_pos h3]⟩
  ·by_cases h4 : k = 4
   ·exact ⟨_, _, fun c => by rw [if_neg h3, if_pos h4]⟩
   ·by_cases h5 : k = 5
    ·exact ⟨_, _, fun c => by rw [if_neg h3, if_neg h4, if_pos h5]⟩
    ·by_cases h6 : k = 6
     ·exact ⟨_, _, fun c => by rw [if_neg h3, if_neg h4, if_neg h5, if_pos h6]⟩
     ·by_cases h2 : k = 2
      ·exact ⟨_, [], fun c => by rw [if_neg h3, if_neg h4, if_neg h5, if_neg h6, if_pos h2]⟩
      ·exact ⟨_, [], fun c => by rw [if_neg h3, if_neg h4, if_neg h5, if_neg h6, if_neg h2]⟩
def linkI (S : List St) (f : Nat) (l : List Int) : List St := S.modify f fun s => { s with free := s.free ++ l }
theorem linkS_is (S : List St) (f t : Nat) : linkS S f t = linkI S f [(t : Int)] := rfl
theorem linkI_len (S : List St) (f : Nat) (l : List Int) : (linkI S f l).length = S.length := by simp [linkI]
theorem linkI_left {S X : List St} {f : Nat} {l : List Int} (h : f < S.length) : linkI (S ++ X) f l = linkI S f l ++ X := by
 unfold linkI
 apply List.ext_getElem?
 intro i
 rw [List.getElem?_modify, List.getElem?_append, List.getElem?_append, List.length_modify, List.getElem?_modify]
 by_cases hi : i < S.length
 ·rw [if_pos hi, if_pos hi]
 ·rw [if_neg hi, if_neg hi]
  have : f ≠ i := by omega
  simp [this]
theorem linkI_right {S X : List St} {f : Nat} {l : List Int} (h : S.length ≤ f) : linkI (S ++ X) f l = S ++ linkI X (f - S.length) l := by
 unfold linkI
 apply List.ext_getElem?
 intro i
 rw [List.getElem?_modify, List.getElem?_append, List.getElem?_append, List.getElem?_modify]
 by_cases hi : i < S.length
 ·rw [if_pos hi, if_pos hi]
  have : f ≠ i := by omega
  simp [this]
 ·rw [if_neg hi, if_neg hi]
  by_cases hfi : f = i
  ·subst hfi; simp
  ·have : ¬ (f - S.length = i - S.length) := by omega
   simp [hfi, this]
theorem linkI_two (S : List St) (f : Nat) (l m : List Int) : linkI (linkI S f l) f m = linkI S f (l ++ m) := by
 unfold linkI
 apply List.ext_getElem?
 intro i
 simp only [List.getElem?_modify]
 cases S[i]? with
 | none => rfl
 | some s =>
  by_cases h : f = i
  ·simp [h]
  ·simp [h]
theorem linkI_nil (S : List St) (f : Nat) : linkI S f [] = S := by
 unfold linkI
 apply List.ext_getElem?
 intro i
 rw [List.getElem?_modify]
 cases S[i]? with
 | none => rfl
 | some s => simp
theorem linkI_cons (s : St) (r : List St) (l : List Int) : linkI (s :: r) 0 l = { s with free := s.free ++ l } :: r := by simp [linkI]
theorem frag_link (P : List St) (x : T) (c d : List Int) (X : List St) : linkI (P ++ fragT x P.length c ++ X) (P.length + 1) d = P ++ fragT x P.length (c ++ d) ++ X := by
 obtain ⟨s, r, he⟩ := fragT_ends x P.length
 rw [linkI_left (by rw [List.length_append, fragT_len]; have := szT_two x; omega), linkI_right (by omega), he, he, show P.length + 1 - P.length = 1 from by omega]
 simp [linkI, stF]
theorem frag_link' {P : List St} {n f : Nat} (hn : P.length = n) (hf : f = n + 1) (x : T) (c d : List Int) : linkI (P ++ fragT x n c) f d = P ++ fragT x n (c ++ d) := by
 subst hn
 subst hf
 have := frag_link P x c d []
 simpa using this
theorem setS_end (S : List St) (p : Nat → Bool) (z : Nat) : setS (S ++ [st0] ++ [st0]) S.length p z = S ++ [⟨p, (z : Int), []⟩, stF []] := by
 rw [show S ++ [st0] ++ [st0] = S ++ [st0, st0] from by simp]
 apply List.ext_getElem?
 intro i
 unfold setS
 rw [List.getElem?_modify, List.getElem?_append, List.getElem?_append]
 by_cases hi : i < S.length
 ·rw [if_pos hi, if_pos hi]
  have : S.length ≠ i := by omega
  simp [this]
 ·rw [if_neg hi, if_neg hi]
  obtain ⟨j, rfl⟩ : ∃ j, i = S.length + j := ⟨i - S.length, by omega⟩
  rw [Nat.add_sub_cancel_left]
  match j with
  | 0 => simp [st0]
  | 1 => simp [st0, stF]
  | k + 2 => simp
theorem two_end (S : List St) : S ++ [st0] ++ [st0] = S ++ [stF [], stF []] := by simp [st0, stF]
theorem link_in (S X : List St) (c l m : List Int) : linkI (S ++ (stF c :: X)) S.length l = S ++ (stF (c ++ l) :: X) := by
 rw [linkI_right (Nat.le_refl _), Nat.sub_self, linkI_cons]
 rfl
mutual
theorem bldT_frag : ∀ (t : T) (S : List St), bldT t S = S ++ fragT t S.length []
 | .node k s l, S => by
  have hl : (S ++ [stF [], stF []]).length = S.length + 2 := by simp
  simp only [bldT, fragT]
  by_cases h3 : k = 3
  ·rw [if_pos h3, if_pos h3, setS_end]
  rw [if_neg h3, if_neg h3]
  by_cases h4 : k = 4
  ·rw [if_pos h4, if_pos h4, two_end, bldC_frag l (S ++ [stF [], stF []]) S.length (S.length + 1) (by rw [hl]; omega)]
   split
   ·next h0 =>
    have : l = [] := List.eq_nil_of_length_eq_zero h0
    subst this
    rw [linkS_is, link_in S _ [] _ []]
    simp [fragC]
   ·rw [hl, linkS_is, link_in S _ [] _ []]
    simp
  rw [if_neg h4, if_neg h4]
  by_cases h5 : k = 5
  ·rw [if_pos h5, if_pos h5, two_end]
   rw [bldA_first l (S ++ [stF [], stF []]) S.length (S.length + 1) (by rw [hl]; omega), hl, link_in S _ [] _ []]
   simp
  rw [if_neg h5, if_neg h5]
  by_cases h6 : k = 6
  ·rw [if_pos h6, if_pos h6, two_end]
   cases l with
   | nil => simp only [bldO, fragO]; rw [linkS_is, link_in S _ [] _ []]; simp
   | cons x r =>
    simp only [bldO, fragO]
    rw [bldT_frag x, hl, linkS_is, linkS_is, linkS_is, List.append_assoc, List.cons_append, List.cons_append, List.nil_append, link_in S _ [] _ []]
    rw [show S ++ (stF ([] ++ [((S.length + 2 : Nat) : Int)]) :: stF [] :: fragT x (S.length + 2) []) = (S ++ [stF ([] ++ [((S.length + 2 : Nat) : Int)]), stF []]) ++ fragT x (S.length + 2) [] from by simp]
    rw [frag_link' (by simp) (by omega), List.append_assoc, List.cons_append, List.cons_append, List.nil_append, link_in S _ _ _ []]
    simp
  rw [if_neg h6, if_neg h6]
  by_cases h2 : k = 2
  ·rw [if_pos h2, if_pos h2, two_end, linkS_is, link_in S _ [] _ []]
   simp
  rw [if_neg h2, if_neg h2, two_end]
theorem bldC_frag : ∀ (l : List T) (S : List St) (f z : Nat), f < S.length → linkS (bldC l S f).1 (bldC l S f).2 z = if l.length = 0 then linkS S f z else linkS S f S.length ++ fragC l S.length z
 | [], S, f, z, _ => by simp [bldC]
 | x :: r, S, f, z, hf => by
  have hlen : (linkI S f [(S.length : Int)]).length = S.length := linkI_len _ _ _
  simp only [bldC]
  rw [bldT_frag x, linkS_is (S ++ fragT x S.length []) f S.length, linkI_left hf, bldC_frag r _ (S.length + 1) z (by rw [List.length_append, hlen, fragT_len]; have := szT_two x; omega)]
  rw [if_neg (show ¬ (x :: r).length = 0 by simp)]
  simp only [fragC]
  by_cases h0 : r.length = 0
  ·have : r = [] := List.eq_nil_of_length_eq_zero h0
   subst this
   simp only [List.length_nil, if_true]
   rw [linkS_is, linkS_is, frag_link' hlen rfl]
   simp [fragC]
  ·simp only [if_neg h0]
   rw [linkS_is, linkS_is, frag_link' hlen rfl, List.length_append, hlen, fragT_len, List.append_assoc]
   simp
theorem bldA_first : ∀ (l : List T) (S : List St) (f z : Nat), f < S.length → bldA l S f z true = linkI S f (altL l S.length) ++ fragA l S.length z
 | [], S, f, z, _ => by simp [bldA, altL, fragA, linkI_nil]
 | x :: r, S, f, z, hf => by
  have hlen : (linkI S f [(S.length : Int)]).length = S.length := linkI_len _ _ _
  simp only [bldA, if_true, fragA]
  rw [altL_cons]
  rw [bldT_frag x, linkS_is, linkS_is, linkI_left hf, frag_link' hlen rfl]
  by_cases h0 : r.length = 0
  ·have : r = [] := List.eq_nil_of_length_eq_zero h0
   subst this
   simp [bldA]
  ·rw [if_neg h0, if_neg h0, bldA_more r _ f z h0 (by rw [List.length_append, hlen]; omega), List.length_append, hlen, fragT_len, linkI_left (by rw [hlen]; exact hf), linkI_two, List.append_assoc]
   simp
theorem bldA_more : ∀ (r : List T) (S : List St) (f z : Nat), ¬ r.length = 0 → f < S.length → bldA r S f z false = linkI S f [(S.length : Int)] ++ (stF (altL r (S.length + 1)) :: fragA r (S.length + 1) z)
 | [], S, f, z, h, _ => absurd rfl h
 | x :: r, S, f, z, _, hf => by
  have hlen : (linkI S f [(S.length : Int)]).length = S.length := linkI_len _ _ _
  obtain ⟨P, hP⟩ : ∃ P, P = linkI S f [(S.length : Int)] := ⟨_, rfl⟩
  simp only [bldA, Bool.false_eq_true, if_false, fragA]
  rw [altL_cons]
  rw [linkS_is, linkS_is, linkS_is, linkI_left (X := [st0]) hf, ← hP, bldT_frag x]
  rw [← hP] at hlen
  have h1 : (P ++ [st0]).length = S.length + 1 := by simp [hlen]
  rw [h1]
  have e1 : linkI (P ++ [st0] ++ fragT x (S.length + 1) []) S.length [((S.length + 1 : Nat) : Int)] = (P ++ [stF [((S.length + 1 : Nat) : Int)]]) ++ fragT x (S.length + 1) [] := by
   rw [List.append_assoc, ← hlen]
   have := link_in P (fragT x (P.length + 1) []) [] [((P.length + 1 : Nat) : Int)] []
   simpa [st0, stF] using this
  have h2 : (P ++ [stF [((S.length + 1 : Nat) : Int)]]).length = S.length + 1 := by simp [hlen]
  rw [e1, frag_link' h2 (by omega)]
  by_cases h0 : r.length = 0
  ·have : r = [] := List.eq_nil_of_length_eq_zero h0
   subst this
   simp [bldA]
  ·have h3 : (P ++ [stF [((S.length + 1 : Nat) : Int)]] ++ fragT x (S.length + 1) ([] ++ [(z : Int)])).length = S.length + 1 + szT x := by rw [List.length_append, h2, fragT_len]
   rw [if_neg h0, if_neg h0, bldA_more r _ S.length z h0 (by rw [h3]; omega), h3]
   have e2 := link_in P (fragT x (P.length + 1) [(z : Int)]) [((P.length + 1 : Nat) : Int)] [((P.length + 1 + szT x : Nat) : Int)] []
   rw [hlen] at e2
   rw [List.append_assoc P, List.cons_append, List.nil_append, List.nil_append, e2, List.append_assoc]
   simp
end
inductive WayN (S : List St) : Nat → Nat → List UInt8 → Nat → Prop
 | here {i : Nat} : WayN S 0 i [] i
 | free {m i j k : Nat} {s : St} {w : List UInt8} : S[i]? = some s → (j : Int) ∈ s.free → WayN S m j w k → WayN S (m + 1) i w k
 | byte {m i j k : Nat} {s : St} {b : UInt8} {w : List UInt8} : S[i]? = some s → s.set b.toNat = true → s.to = (j : Int) → WayN S m j w k → WayN S (m + 1) i (b :: w) k
theorem way_n {S : List St} {i k : Nat} {w : List UInt8} (h : Way S i w k) : ∃ m, WayN S m i w k := by
 induction h with
 | here _ => exact ⟨0, .here⟩
 | free a b _ ih => obtain ⟨m, h⟩ := ih; exact ⟨m + 1, .free a b h⟩
 | byte a b c _ ih => obtain ⟨m, h⟩ := ih; exact ⟨m + 1, .byte a b c h⟩
def At (M : List St) (p : Nat) (L : List St) : Prop := ∀ i s, L[i]? = some s → M[p + i]? = some s
theorem At.left {M A B : List St} {p : Nat} (h : At M p (A ++ B)) : At M p A := fun i s hs => h i s (by rw [List.getElem?_append_left (List.getElem?_eq_some_iff.1 hs).1]; exact hs)
theorem At.right {M A B : List St} {p : Nat} (h : At M p (A ++ B)) : At M (p + A.length) B := fun i s hs => by
 rw [Nat.add_assoc]
 refine h (A.length + i) s ?_
 rw [List.getElem?_append_right (by omega), Nat.add_sub_cancel_left]
 exact hs
theorem At.head {M B : List St} {a : St} {p : Nat} (h : At M p (a :: B)) : M[p]? = some a := h 0 a rfl
theorem At.tail {M B : List St} {a : St} {p : Nat} (h : At M p (a :: B)) : At M (p + 1) B := fun i s hs => by
 have := h (i + 1) s (by simpa using hs)
 rwa [show p + (i + 1) = p + 1 + i from by omega] at this
theorem WayN.out {M : List St} {m i k : Nat} {w : List UInt8} {l : List Int} (h : WayN M m i w k) (hi : M[i]? = some (stF l)) (hk : k ≠ i) : ∃ (j m' : Nat), (j : Int) ∈ l ∧ m = m' + 1 ∧ WayN M m' j w k := by
 cases h with
 | here => exact absurd rfl hk
 | free a b c =>
  rw [hi] at a
  injection a with a
  subst a
  exact ⟨_, _, b, rfl, c⟩
 | byte a b c d =>
  rw [hi] at a
  injection a with a
  subst a
  cases b
theorem fragT_end {M : List St} {t : T} {n : Nat} {c : List Int} (h : At M n (fragT t n c)) : M[n + 1]? = some (stF c) := by
 obtain ⟨s, r, he⟩ := fragT_ends t n
 rw [he] at h
 exact h 1 _ rfl
theorem plainT_parts {k : Int} {s : Nat → Bool} {l : List T} (h : plainT (.node k s l) = true) : ∀ x ∈ l, plainT x = true := by
 simp only [plainT, Bool.and_eq_true] at h
 exact fun x hx => (plainL_iff.1 h.1.2 x hx).2
theorem plainT_star {s : Nat → Bool} {l : List T} (h : plainT (.node 6 s l) = true) : ∃ x, l = [x] := by
 simp only [plainT, Bool.and_eq_true, countT] at h
 have : l.length = 1 := by
  have h2 := h.1.1.2
  simpa using h2
 match l, this with
 | [x], _ => exact ⟨x, rfl⟩
theorem plainT_kind {k : Int} {s : Nat → Bool} {l : List T} (h : plainT (.node k s l) = true) : k = 1 ∨ k = 2 ∨ k = 3 ∨ k = 4 ∨ k = 5 ∨ k = 6 := by
 simp only [plainT, Bool.and_eq_true, countT] at h
 have h2 := h.1.1.2
 by_cases h3 : k = 3
 ·omega
 ·by_cases h1 : k = 1 ∨ k = 2
  ·omega
  ·by_cases h4 : k = 4 ∨ k = 5
   ·omega
   ·rw [if_neg h3, if_neg h1, if_neg h4] at h2
    have : k = 6 := by
     simp at h2
     exact h2.1
    omega
mutual
theorem snd_T (M : List St) : ∀ (t : T) (n : Nat) (c : List Int), plainT t = true → At M n (fragT t n c) → ∀ (m : Nat) (w : List UInt8) (k : Nat), WayN M m n w k → (k < n ∨ n + szT t ≤ k ∨ k = n + 1) →
  ∃ (u v : List UInt8) (m' : Nat), m' < m ∧ w = u ++ v ∧ Lg t u ∧ WayN M m' (n + 1) v k
 | .node k s l, n, c, hp, hM, m, w, q, hw, hq => by
  have hsz := szT_two (.node k s l)
  have hqn : q ≠ n := by omega
  have hpp := plainT_parts hp
  have hkk := plainT_kind hp
  simp only [fragT] at hM
  by_cases h3 : k = 3
  ·rw [if_pos h3] at hM
   have h0 := hM.head
   cases hw with
   | here => exact absurd rfl hqn
   | free a b d => rw [h0] at a; injection a with a; subst a; cases b
   | byte a b d e =>
    rw [h0] at a
    injection a with a
    subst a
    refine ⟨[_], _, _, Nat.lt_succ_self _, rfl, ?_, ?_⟩
    ·exact (lg_k3 (t := .node k s l) h3 _).2 ⟨_, rfl, b⟩
    ·have : n + 1 = _ := Int.ofNat.inj d
     rw [this]
     exact e
  rw [if_neg h3] at hM
  by_cases h4 : k = 4
  ·subst h4
   rw [if_pos rfl] at hM
   obtain ⟨j, m', hj, rfl, hw'⟩ := hw.out hM.head hqn
   have hj := List.mem_singleton.1 hj
   cases l with
   | nil =>
    simp only [List.length_nil, if_true] at hj
    have : j = n + 1 := by omega
    subst this
    exact ⟨[], w, m', by omega, rfl, lg_cat.2 (by simp [LgC]), hw'⟩
   | cons x r =>
    simp only [List.length_cons, Nat.succ_ne_zero, if_false] at hj
    have : j = n + 2 := by omega
    subst this
    obtain ⟨u, v, m2, h1, h2, h5, h6⟩ := snd_C M (x :: r) (n + 2) (n + 1) hpp (by simp) hM.tail.tail m' w q hw' (by simp only [szT, if_pos] at hq; omega)
    exact ⟨u, v, m2, by omega, h2, lg_cat.2 h5, h6⟩
  rw [if_neg h4] at hM
  by_cases h5 : k = 5
  ·subst h5
   rw [if_pos rfl] at hM
   obtain ⟨u, v, m2, h1, h2, h7, h6⟩ := snd_A M l (n + 2) (n + 1) n hpp hM.head hM.tail.tail m w q hw hqn (by simp [szT] at hq; omega)
   exact ⟨u, v, m2, by omega, h2, lg_alt.2 h7, h6⟩
  rw [if_neg h5] at hM
  by_cases h6 : k = 6
  ·subst h6
   rw [if_pos rfl] at hM
   obtain ⟨x, rfl⟩ := plainT_star hp
   have hx := hpp x (by simp)
   simp only [List.length_cons, List.length_nil, fragO] at hM
   have h0 : M[n]? = some (stF [((n + 2 : Nat) : Int), ((n + 1 : Nat) : Int)]) := by simpa using hM.head
   have hB := hM.tail.tail
   have hend := fragT_end hB
   have hsx : szT (.node 6 s [x]) = 2 + szT x := by simp [szT, szO]
   have key : ∀ (N m : Nat) (w : List UInt8), m ≤ N → WayN M m n w q → ∃ (u v : List UInt8) (m' : Nat), m' < m ∧ w = u ++ v ∧ StarL (LgO [x]) u ∧ WayN M m' (n + 1) v q := by
    intro N
    induction N with
    | zero =>
     intro m w hm hw
     obtain ⟨j, m', _, rfl, _⟩ := hw.out h0 hqn
     omega
    | succ N ih =>
     intro m w hm hw
     obtain ⟨j, m', hj, rfl, hw'⟩ := hw.out h0 hqn
     simp only [List.mem_cons, List.mem_nil_iff, or_false] at hj
     rcases hj with hj | hj
     ·have : j = n + 2 := by omega
      subst this
      obtain ⟨u, v, m2, a1, a2, a3, a4⟩ := snd_T M x (n + 2) _ hx hB m' w q hw' (by rw [hsx] at hq; omega)
      obtain ⟨j2, m3, b1, rfl, b2⟩ := a4.out hend (by have := szT_two x; rw [hsx] at hq; omega)
      have b1 := List.mem_singleton.1 b1
      have : j2 = n := by omega
      subst this
      obtain ⟨u2, v2, m4, c1, c2, c3, c4⟩ := ih m3 v (by omega) b2
      exact ⟨u ++ u2, v2, m4, by omega, by rw [a2, c2, List.append_assoc], .app (by simp [LgO]; exact a3) c3, c4⟩
     ·have : j = n + 1 := by omega
      subst this
      exact ⟨[], w, m', by omega, rfl, .nil, hw'⟩
   obtain ⟨u, v, m', a1, a2, a3, a4⟩ := key m m w (Nat.le_refl _) hw
   exact ⟨u, v, m', a1, a2, lg_star.2 a3, a4⟩
  rw [if_neg h6] at hM
  by_cases h2 : k = 2
  ·subst h2
   rw [if_pos rfl] at hM
   obtain ⟨j, m', hj, rfl, hw'⟩ := hw.out hM.head hqn
   have hj := List.mem_singleton.1 hj
   have : j = n + 1 := by omega
   subst this
   exact ⟨[], w, m', by omega, rfl, (lg_k2 rfl _).2 rfl, hw'⟩
  ·rw [if_neg h2] at hM
   obtain ⟨j, m', hj, _, _⟩ := hw.out hM.head hqn
   cases hj
theorem snd_C (M : List St) : ∀ (l : List T) (p z : Nat), (∀ x ∈ l, plainT x = true) → l ≠ [] → At M p (fragC l p z) → ∀ (m : Nat) (w : List UInt8) (k : Nat), WayN M m p w k → (k < p ∨ p + szC l ≤ k) →
  ∃ (u v : List UInt8) (m' : Nat), m' < m ∧ w = u ++ v ∧ LgC l u ∧ WayN M m' z v k
 | [], _, _, _, h, _, _, _, _, _, _ => absurd rfl h
 | x :: r, p, z, hp, _, hM, m, w, k, hw, hk => by
  simp only [fragC] at hM
  simp only [szC] at hk
  have hA := hM.left
  have hend := fragT_end hA
  obtain ⟨u, v, m2, a1, a2, a3, a4⟩ := snd_T M x p _ (hp x (by simp)) hA m w k hw (by omega)
  obtain ⟨j, m3, b1, rfl, b2⟩ := a4.out hend (by have := szT_two x; omega)
  have b1 := List.mem_singleton.1 b1
  by_cases h0 : r.length = 0
  ·have hr : r = [] := List.eq_nil_of_length_eq_zero h0
   subst hr
   simp only [List.length_nil, if_true] at b1
   have : j = z := by omega
   subst this
   exact ⟨u, v, m3, by omega, a2, (lgC_one x u).2 a3, b2⟩
  ·rw [if_neg h0] at b1
   have : j = p + szT x := by omega
   subst this
   have hB := hM.right
   rw [fragT_len] at hB
   obtain ⟨u2, v2, m4, c1, c2, c3, c4⟩ := snd_C M r (p + szT x) z (fun y hy => hp y (by simp [hy])) (fun h => h0 (by rw [h]; rfl)) hB m3 v k b2 (by omega)
   exact ⟨u ++ u2, v2, m4, by omega, by rw [a2, c2, List.append_assoc], ⟨u, u2, rfl, a3, c3⟩, c4⟩
theorem snd_A (M : List St) : ∀ (l : List T) (p z q : Nat), (∀ x ∈ l, plainT x = true) → M[q]? = some (stF (altL l p)) → At M p (fragA l p z) → ∀ (m : Nat) (w : List UInt8) (k : Nat), WayN M m q w k → k ≠ q → (k < p ∨ p + szA l ≤ k) →
  ∃ (u v : List UInt8) (m' : Nat), m' < m ∧ w = u ++ v ∧ LgA l u ∧ WayN M m' z v k
 | [], p, z, q, _, hq, _, m, w, k, hw, hkq, _ => by
  obtain ⟨j, m', hj, _, _⟩ := hw.out hq hkq
  cases hj
 | x :: r, p, z, q, hp, hq, hM, m, w, k, hw, hkq, hk => by
  simp only [fragA] at hM
  simp only [szA] at hk
  rw [altL_cons] at hq
  have hA := hM.left
  have hend := fragT_end hA
  obtain ⟨j, m1, hj, rfl, hw1⟩ := hw.out hq hkq
  rcases List.mem_cons.1 hj with hj | hj
  ·have : j = p := by omega
   subst this
   obtain ⟨u, v, m2, a1, a2, a3, a4⟩ := snd_T M x j _ (hp x (by simp)) hA m1 w k hw1 (by omega)
   obtain ⟨j2, m3, b1, rfl, b2⟩ := a4.out hend (by have := szT_two x; omega)
   have b1 := List.mem_singleton.1 b1
   have : j2 = z := by omega
   subst this
   exact ⟨u, v, m3, by omega, a2, .inl a3, b2⟩
  ·by_cases h0 : r.length = 0
   ·rw [if_pos h0] at hj; cases hj
   ·rw [if_neg h0] at hj hM hk
    have hj := List.mem_singleton.1 hj
    have : j = p + szT x := by omega
    subst this
    have hB := hM.right
    rw [fragT_len] at hB
    obtain ⟨u2, v2, m4, c1, c2, c3, c4⟩ := snd_A M r (p + szT x + 1) z (p + szT x) (fun y hy => hp y (by simp [hy])) hB.head hB.tail m1 w k hw1 (by omega) (by omega)
    exact ⟨u2, v2, m4, by omega, c2, .inr c3, c4⟩
end
mutual
theorem cmp_T (M : List St) : ∀ (t : T) (n : Nat) (c : List Int), plainT t = true → At M n (fragT t n c) → ∀ (u : List UInt8), Lg t u → Way M n u (n + 1)
 | .node k s l, n, c, hp, hM, u, hu => by
  have hE := fragT_end hM
  have hn1 : n + 1 < M.length := (List.getElem?_eq_some_iff.1 hE).1
  have hpp := plainT_parts hp
  have hkk := plainT_kind hp
  simp only [fragT] at hM
  by_cases h3 : k = 3
  ·rw [if_pos h3] at hM
   obtain ⟨b, rfl, hb⟩ := (lg_k3 (t := .node k s l) h3 _).1 hu
   exact .byte hM.head hb rfl (.here hn1)
  rw [if_neg h3] at hM
  by_cases h4 : k = 4
  ·subst h4
   rw [if_pos rfl] at hM
   have hu := lg_cat.1 hu
   cases l with
   | nil =>
    simp only [LgC] at hu
    subst hu
    exact .free (j := n + 1) hM.head (by simp [stF]) (.here hn1)
   | cons x r =>
    exact .free (j := n + 2) hM.head (by simp [stF]) (cmp_C M (x :: r) (n + 2) (n + 1) hpp (by simp) hn1 hM.tail.tail u hu)
  rw [if_neg h4] at hM
  by_cases h5 : k = 5
  ·subst h5
   rw [if_pos rfl] at hM
   exact cmp_A M l (n + 2) (n + 1) n hpp hM.head hn1 hM.tail.tail u (lg_alt.1 hu)
  rw [if_neg h5] at hM
  by_cases h6 : k = 6
  ·subst h6
   rw [if_pos rfl] at hM
   obtain ⟨x, rfl⟩ := plainT_star hp
   have hx := hpp x (by simp)
   simp only [List.length_cons, List.length_nil, fragO] at hM
   have h0 : M[n]? = some (stF [((n + 2 : Nat) : Int), ((n + 1 : Nat) : Int)]) := by simpa using hM.head
   have hn : n < M.length := (List.getElem?_eq_some_iff.1 h0).1
   have hB := hM.tail.tail
   have hend := fragT_end hB
   have hu2 := lg_star.1 hu
   clear hu
   induction hu2 with
   | nil => exact .free (j := n + 1) h0 (by simp [stF]) (.here hn1)
   | @app a b ha _ ih =>
    have ha : Lg x a := by simpa [LgO] using ha
    have hw := cmp_T M x (n + 2) _ hx hB a ha
    have h1 := hw.app (.free (j := n) hend (by simp [stF]) ih)
    exact .free (j := n + 2) h0 (by simp [stF]) h1
  rw [if_neg h6] at hM
  by_cases h2 : k = 2
  ·subst h2
   rw [if_pos rfl] at hM
   have hu := (lg_k2 rfl _).1 hu
   subst hu
   exact .free (j := n + 1) hM.head (by simp [stF]) (.here hn1)
  ·have : k = 1 := by omega
   exact absurd hu (lg_k1 (t := .node k s l) this _)
theorem cmp_C (M : List St) : ∀ (l : List T) (p z : Nat), (∀ x ∈ l, plainT x = true) → l ≠ [] → z < M.length → At M p (fragC l p z) → ∀ (u : List UInt8), LgC l u → Way M p u z
 | [], _, _, _, h, _, _, _, _ => absurd rfl h
 | x :: r, p, z, hp, _, hz, hM, w, hw => by
  simp only [fragC] at hM
  have hA := hM.left
  have hend := fragT_end hA
  obtain ⟨u, v, rfl, h1, h2⟩ := hw
  have hwx := cmp_T M x p _ (hp x (by simp)) hA u h1
  by_cases h0 : r.length = 0
  ·have hr : r = [] := List.eq_nil_of_length_eq_zero h0
   subst hr
   simp only [LgC] at h2
   subst h2
   simp only [List.length_nil, if_true] at hend
   exact hwx.app (.free (j := z) hend (by simp [stF]) (.here hz))
  ·rw [if_neg h0] at hend
   have hB := hM.right
   rw [fragT_len] at hB
   exact hwx.app (.free (j := p + szT x) hend (by simp [stF]) (cmp_C M r (p + szT x) z (fun y hy => hp y (by simp [hy])) (fun h => h0 (by rw [h]; rfl)) hz hB v h2))
theorem cmp_A (M : List St) : ∀ (l : List T) (p z q : Nat), (∀ x ∈ l, plainT x = true) → M[q]? = some (stF (altL l p)) → z < M.length → At M p (fragA l p z) → ∀ (u : List UInt8), LgA l u → Way M q u z
 | [], _, _, _, _, _, _, _, _, hu => by cases hu
 | x :: r, p, z, q, hp, hq, hz, hM, u, hu => by
  simp only [fragA] at hM
  rw [altL_cons] at hq
  have hA := hM.left
  have hend := fragT_end hA
  rcases hu with hu | hu
  ·have hwx := cmp_T M x p _ (hp x (by simp)) hA u hu
   have h1 := hwx.app (.free (j := z) hend (by simp [stF]) (.here hz))
   rw [List.append_nil] at h1
   exact .free (j := p) hq (by simp [stF]) h1
  ·have h0 : ¬ r.length = 0 := fun h => by
    have : r = [] := List.eq_nil_of_length_eq_zero h
    subst this
    exact hu
   rw [if_neg h0] at hq hM
   have hB := hM.right
   rw [fragT_len] at hB
   exact .free (j := p + szT x) hq (by simp [stF]) (cmp_A M r (p + szT x + 1) z (p + szT x) (fun y hy => hp y (by simp [hy])) hB.head hz hB.tail u hu)
end
theorem frag_run {t : T} (hp : plainT t = true) (w : List UInt8) : Way (fragT t 0 []) 0 w 1 ↔ Lg t w := by
 have hM : At (fragT t 0 []) 0 (fragT t 0 []) := fun i s h => by rw [Nat.zero_add]; exact h
 constructor
 ·intro h
  obtain ⟨m, h⟩ := way_n h
  obtain ⟨u, v, m', _, rfl, h2, h3⟩ := snd_T _ t 0 [] hp hM m w 1 h (.inr (.inr rfl))
  have hE := fragT_end hM
  have : v = [] := by
   cases h3 with
   | here => rfl
   | free a b _ => rw [hE] at a; injection a with a; subst a; cases b
   | byte a b _ _ => rw [hE] at a; injection a with a; subst a; cases b
  subst this
  rw [List.append_nil]
  exact h2
 ·exact cmp_T _ t 0 [] hp hM w
mutual
theorem szT_nodes : ∀ t : T, szT t + 1 ≤ 3 * t.nodes
 | .node k s l => by
  have h1 := szC_nodes l
  have h2 := szA_nodes l
  have h3 := szO_nodes l
  simp only [szT, T.nodes]
  split
  ·omega
  ·split
   ·omega
   ·split <;> omega
theorem szC_nodes : ∀ l : List T, szC l ≤ 3 * nodesL l
 | [] => Nat.le_refl _
 | x :: r => by
  have h1 := szT_nodes x
  have h2 := szC_nodes r
  simp only [szC, nodesL]
  omega
theorem szA_nodes : ∀ l : List T, szA l ≤ 3 * nodesL l ∧ (l.length ≠ 0 → szA l + 1 ≤ 3 * nodesL l)
 | [] => ⟨Nat.le_refl _, fun h => absurd rfl h⟩
 | x :: r => by
  have h1 := szT_nodes x
  have h2 := szA_nodes r
  simp only [szA, nodesL]
  split
  ·omega
  ·next h => have := h2.2 h; omega
theorem szO_nodes : ∀ l : List T, szO l ≤ 3 * nodesL l
 | [] => Nat.le_refl _
 | x :: r => by
  have h1 := szT_nodes x
  simp only [szO, nodesL]
  omega
end
def OkF (hi : Nat) (L : List St) : Prop := ∀ s ∈ L, s.to < (hi : Int) ∧ s.free.length ≤ 2 ∧ ∀ f ∈ s.free, 0 ≤ f ∧ f < (hi : Int)
theorem OkF.cons {hi : Nat} {a : St} {L : List St} (h1 : a.to < (hi : Int) ∧ a.free.length ≤ 2 ∧ ∀ f ∈ a.free, 0 ≤ f ∧ f < (hi : Int)) (h2 : OkF hi L) : OkF hi (a :: L) := fun s hs => by
 rcases List.mem_cons.1 hs with rfl | hs
 ·exact h1
 ·exact h2 s hs
theorem OkF.nil (hi : Nat) : OkF hi [] := fun s hs => by cases hs
theorem OkF.app {hi : Nat} {A B : List St} (h1 : OkF hi A) (h2 : OkF hi B) : OkF hi (A ++ B) := fun s hs => by
 rcases List.mem_append.1 hs with hs | hs
 ·exact h1 s hs
 ·exact h2 s hs
theorem ok_stF {hi : Nat} {l : List Int} (h1 : l.length ≤ 2) (h2 : ∀ f ∈ l, 0 ≤ f ∧ f < (hi : Int)) : (stF l).to < (hi : Int) ∧ (stF l).free.length ≤ 2 ∧ ∀ f ∈ (stF l).free, 0 ≤ f ∧ f < (hi : Int) := ⟨by show (-1 : Int) < hi; omega, h1, h2⟩
theorem altL_ok {hi : Nat} : ∀ {l : List T} {p : Nat}, p + szA l ≤ hi → (altL l p).length ≤ 2 ∧ ∀ f ∈ altL l p, 0 ≤ f ∧ f < (hi : Int)
 | [], p, _ => ⟨Nat.zero_le _, fun f hf => by cases hf⟩
 | x :: r, p, h => by
  have h2 := szT_two x
  rw [altL_cons]
  simp only [szA] at h
  split
  ·refine ⟨by simp, fun f hf => ?_⟩
   obtain rfl := List.mem_singleton.1 hf
   omega
  ·next h0 =>
   rw [if_neg h0] at h
   refine ⟨by simp, fun f hf => ?_⟩
   rcases List.mem_cons.1 hf with rfl | hf
   ·omega
   ·obtain rfl := List.mem_singleton.1 hf
    omega
mutual
theorem fragT_ok (hi : Nat) : ∀ (t : T) (n : Nat) (c : List Int), n + szT t ≤ hi → c.length ≤ 2 → (∀ f ∈ c, 0 ≤ f ∧ f < (hi : Int)) → OkF hi (fragT t n c)
 | .node k s l, n, c, h, hc1, hc2 => by
  have hsz := szT_two (.node k s l)
  have hc := ok_stF hc1 hc2
  have one : ∀ x : Nat, x < hi → ((stF [(x : Int)]).to < (hi : Int) ∧ (stF [(x : Int)]).free.length ≤ 2 ∧ ∀ f ∈ (stF [(x : Int)]).free, 0 ≤ f ∧ f < (hi : Int)) := fun x hx => ok_stF (by simp) fun f hf => by
   obtain rfl := List.mem_singleton.1 hf
   omega
  simp only [fragT]
  by_cases h3 : k = 3
  ·rw [if_pos h3]
   exact OkF.cons ⟨by show ((n + 1 : Nat) : Int) < hi; omega, Nat.zero_le _, fun f hf => by cases hf⟩ (OkF.cons hc (OkF.nil hi))
  rw [if_neg h3]
  by_cases h4 : k = 4
  ·subst h4
   simp only [szT, if_true] at h
   rw [if_pos rfl]
   refine OkF.cons ?_ (OkF.cons hc (fragC_ok hi l (n + 2) (n + 1) (by omega) (by omega)))
   split
   ·exact one (n + 1) (by omega)
   ·next h0 =>
    refine one (n + 2) ?_
    cases l with
    | nil => exact absurd rfl h0
    | cons x r => have := szT_two x; simp only [szC] at h; omega
  rw [if_neg h4]
  by_cases h5 : k = 5
  ·subst h5
   rw [if_pos rfl]
   have h' : n + 2 + szA l ≤ hi := by simp [szT] at h; omega
   have ha := altL_ok h'
   exact OkF.cons (ok_stF ha.1 ha.2) (OkF.cons hc (fragA_ok hi l (n + 2) (n + 1) h' (by omega)))
  rw [if_neg h5]
  by_cases h6 : k = 6
  ·subst h6
   rw [if_pos rfl]
   have h' : n + 2 + szO l ≤ hi := by simp [szT] at h; omega
   refine OkF.cons (ok_stF ?_ fun f hf => ?_) (OkF.cons hc (fragO_ok hi l (n + 2) n h' (by omega)))
   ·split <;> simp
   ·rcases List.mem_append.1 hf with hf | hf
    ·split at hf
     ·cases hf
     ·next h0 =>
      obtain rfl := List.mem_singleton.1 hf
      cases l with
      | nil => exact absurd rfl h0
      | cons x r => have := szT_two x; simp only [szO] at h'; omega
    ·obtain rfl := List.mem_singleton.1 hf
     omega
  rw [if_neg h6]
  by_cases h2 : k = 2
  ·rw [if_pos h2]
   exact OkF.cons (one (n + 1) (by omega)) (OkF.cons hc (OkF.nil hi))
  ·rw [if_neg h2]
   exact OkF.cons (ok_stF (by simp) fun f hf => by cases hf) (OkF.cons hc (OkF.nil hi))
theorem fragC_ok (hi : Nat) : ∀ (l : List T) (p z : Nat), p + szC l ≤ hi → z < hi → OkF hi (fragC l p z)
 | [], _, _, _, _ => OkF.nil hi
 | x :: r, p, z, h, hz => by
  simp only [szC] at h
  simp only [fragC]
  refine (fragT_ok hi x p _ (by omega) (by simp) fun f hf => ?_).app (fragC_ok hi r (p + szT x) z (by omega) hz)
  obtain rfl := List.mem_singleton.1 hf
  split
  ·omega
  ·next h0 =>
   cases r with
   | nil => exact absurd rfl h0
   | cons y q => have := szT_two y; simp only [szC] at h; omega
theorem fragA_ok (hi : Nat) : ∀ (l : List T) (p z : Nat), p + szA l ≤ hi → z < hi → OkF hi (fragA l p z)
 | [], _, _, _, _ => OkF.nil hi
 | x :: r, p, z, h, hz => by
  simp only [szA] at h
  simp only [fragA]
  refine (fragT_ok hi x p _ (by omega) (by simp) fun f hf => ?_).app ?_
  ·obtain rfl := List.mem_singleton.1 hf
   omega
  ·split
   ·exact OkF.nil hi
   ·next h0 =>
    rw [if_neg h0] at h
    have ha := altL_ok (hi := hi) (l := r) (p := p + szT x + 1) (by omega)
    exact OkF.cons (ok_stF ha.1 ha.2) (fragA_ok hi r (p + szT x + 1) z (by omega) hz)
theorem fragO_ok (hi : Nat) : ∀ (l : List T) (p z : Nat), p + szO l ≤ hi → z < hi → OkF hi (fragO l p z)
 | [], _, _, _, _ => OkF.nil hi
 | x :: r, p, z, h, hz => by
  simp only [szO] at h
  simp only [fragO]
  refine fragT_ok hi x p _ (by omega) (by simp) fun f hf => ?_
  obtain rfl := List.mem_singleton.1 hf
  omega
end
theorem frag_may {t : T} (h : t.nodes ≤ 400) : MayN (fragT t 0 []) 0 1 := by
 have hl := fragT_len t 0 []
 have h2 := szT_two t
 have h3 := szT_nodes t
 have hok := fragT_ok (fragT t 0 []).length t 0 [] (by rw [hl]; omega) (by simp) (fun f hf => by cases hf)
 exact ⟨by omega, by omega, by omega, by omega, by omega, fun s hs => (hok s hs).1, fun s hs => by have := (hok s hs).2.1; omega, fun s hs => (hok s hs).2.2⟩
theorem frag_runB {t : T} (h : t.nodes ≤ 400) (hp : plainT t = true) (w : List UInt8) : runN (fragT t 0 []) 0 1 w = true ↔ Lg t w := by
 have := runN_iff (S := fragT t 0 []) (a := 0) (z := 1) (w := w)
 rw [← frag_run hp w]
 exact this
structure Off (D : Nat → Prop) (w w' : World) : Prop where
 os : w'.os = w.os
 tape : w'.tape = w.tape
 output : w'.output = w.output
 size : w.heap.size ≤ w'.heap.size
 block : ∀ k, k < w.heap.size → ¬ D k → w'.heap[k]? = w.heap[k]?
section
variable {D D' : Nat → Prop} {w w1 w2 w' : World} {B b o : Nat}
theorem Off.refl (D : Nat → Prop) (w : World) : Off D w w := ⟨rfl, rfl, rfl, Nat.le_refl _, fun _ _ _ => rfl⟩
theorem Off.start (D : Nat → Prop) (w : World) : Off D w w.drew := ⟨rfl, rfl, rfl, Nat.le_refl _, fun _ _ _ => rfl⟩
theorem Off.trans (h : Off D w w1) (k : Off D w1 w2) : Off D w w2 :=
 ⟨k.os.trans h.os, k.tape.trans h.tape, k.output.trans h.output, Nat.le_trans h.size k.size, fun i hi hn => (k.block i (Nat.lt_of_lt_of_le hi h.size) hn).trans (h.block i hi hn)⟩
theorem Off.mono (h : Off D w w') (hD : ∀ k, k < w.heap.size → D k → D' k) : Off D' w w' := ⟨h.os, h.tape, h.output, h.size, fun k hk hn => h.block k hk fun hd => hn (hD k hk hd)⟩
theorem Off.of (h : Below B w w') (hB : ∀ k, k < w.heap.size → ¬ D k → k < B) : Off D w w' := ⟨h.os, h.tape, h.output, h.size, fun k hk hn => h.block k (hB k hk hn)⟩
theorem Off.new (D : Nat → Prop) (h : Below w.heap.size w w') : Off D w w' := .of h fun k hk _ => hk
theorem Off.put {g : Nat} (h : Below B w w') (ho : ∀ k, k ≠ g → w'.heap[k]? = w.heap[k]?) (hD : w.heap.size ≤ g ∨ D g) : Off D w w' :=
 ⟨h.os, h.tape, h.output, h.size, fun k hk hn => ho k (by rintro rfl; rcases hD with h1 | h1; exact absurd hk (Nat.not_lt.2 h1); exact hn h1)⟩
theorem Off.grown {r : Option Nat} (h : w.grownBy w' r) (hD : ∀ k, r = some k → w.heap.size ≤ k ∨ D k) : Off D w w' :=
 ⟨h.os, h.tape, h.output, h.size, fun k hk hn => h.block k hk fun e => by rcases hD k e.symm with h1 | h1; exact absurd hk (Nat.not_lt.2 h1); exact hn h1⟩
theorem Off.set (w : World) {g : Nat} (i : Nat) (u : Value) (hD : D g) : Off D w (w.setCell ⟨g, i, none⟩ u) :=
 ⟨rfl, rfl, rfl, by simp [World.setCell], fun k hk hn => Below.heap_setCell w ⟨g, i, none⟩ u k (by rintro rfl; exact hn hD)⟩
theorem Off.setCells {g : Nat} (hD : D g) : ∀ (vs : List Value) (o : Nat) (w : World), Off D w (w.setCells g o vs)
 | [], _, w => Off.refl D w
 | v :: r, o, w => (Off.set w o v hD).trans (Off.setCells hD r (o + 1) _)
theorem Off.below (h : Off D w w') (hD : ∀ k, D k → B ≤ k) (hB : B ≤ w.heap.size) : Below B w w' := ⟨h.os, h.tape, h.output, h.size, fun k hk => h.block k (Nat.lt_of_lt_of_le hk hB) fun hd => absurd hk (Nat.not_lt.2 (hD k hd))⟩
theorem Off.cell (h : Off D w w') {v : Value} (hb : b < w.heap.size) (hn : ¬ D b) (hc : w.cell? ⟨b, o, none⟩ = some v) : w'.cell? ⟨b, o, none⟩ = some v := by
 have := h.block b hb hn
 unfold World.cell? at hc ⊢
 simp only [this]
 exact hc
theorem Off.range (h : Off D w w') {cs : List Value} (hb : b < w.heap.size) (hn : ¬ D b) (hc : w.rangeAt b o cs) : w'.rangeAt b o cs := fun j v hv => h.cell hb hn (hc j v hv)
theorem Off.blk (h : Off D w w') {t : TypeId} {cs : List Value} (hn : ¬ D b) (hc : Blk w b t cs) : Blk w' b t cs := (h.block b hc.lt hn).trans hc
theorem Off.then (h : Off D w w1) (hb : Below w1.heap.size w1 w2) : Off D w w2 := h.trans (Off.new D hb)
end
section
variable {P : Program} {w : World} {ops : Array Oper} {rest : List Oper} {o : Oper} {a : Act} {Q : Exit → Act → World → Prop}
theorem wp_appW {base : Nat} {K : Act → World → Prop} (s x : Operand) (t : TypeId)
  (ho : o.op = .call { callee := .builtin .append, args := #[s, x], argTypes := #[t, t] })
  (e : TypeId) (i : TypeInfo) (z : Value) (bytes : Nat) (ht : P.underlying t = some (.slice e)) (hi : P.info? e = some i) (hz : i.zero = some z)
  (hsize : i.size = 1) (hby : i.bytes = bytes) (hzs : z.cells.size = 1)
  (v : Value) (n : Nat) (xs : List Value) (hs : a.eval s = v) (hown : w.ownsRow base e 1 v n xs)
  (u : Value) (news : List Value) (hx : a.eval x = u) (hr : Row w u news) (h1 : ∀ u ∈ news, u.oneCell' = true)
  (hlen : n + news.length ≤ 2097152) (hby2 : bytes ≤ 1000) (hb : base ≤ w.heap.size)
  (h : ∀ v' w', w'.ownsRow base e 1 v' (n + news.length) (xs ++ news) → w.grownBy w' v.ownBlock → (∀ k, v'.ownBlock = some k → v.ownBlock = some k ∨ w.heap.size ≤ k) → K (a.put o.dst v') w') : o.wp P a w K Q := by
 have hm : (n + news.length) * bytes ≤ 2097152 * 1000 := Nat.mul_le_mul hlen hby2
 obtain ⟨A, cap, rfl, hl, hmx, h0, hc⟩ := hr
 cases A with
 | none =>
  have hcap : cap = 0 := h0 rfl
  subst hcap
  have hn : news = [] := List.eq_nil_of_length_eq_zero (by omega)
  subst hn
  have hrun := run_append_owned_none (P := P) (w := w) base t o.type e i 1 ht hi v n xs hown
  unfold Oper.wp
  simp at hx
  simp [execOp, ho, resolve, invoke, builtin, hs, hx, hrun, Result.andThen]
  exact h v w (by simpa using hown) (World.grownBy.refl _ _) fun k hk => .inl hk
 | some ad =>
  have hnews : ∀ j u, news[j]? = some u → w.cell? (ad.add j) = some u := by
   intro j u hj
   obtain ⟨b, off, hA, _, hcell⟩ := hc (by intro e; rw [e] at hj; simp at hj)
   injection hA with hA
   subst hA
   rw [Addr.add_lit]
   exact hcell j u hj
  obtain ⟨v', w', hrun, hown', hgr, _⟩ := run_append_own (P := P) w base t o.type e i z 1 bytes ht hi hz hsize hby hzs (by omega) v n xs hown ad news.length cap news (by omega) hnews h1 (by unfold maxLen; omega) (by omega) hb
  have hwh := append_where (P := P) (w := w) base t o.type e i z 1 bytes ht hi hz hsize hby (by omega) v n xs hown ad news.length cap news (by omega) hnews h1 (by unfold maxLen; omega) (by omega) hrun
  unfold Oper.wp execOp
  simp only [ho, resolve, invoke, builtin, Sem.run_bind, Sem.run_pure, Result.andThen_ok, List.map_toArray, List.map_cons, List.map_nil, hs, hx, hrun]
  exact h v' w' hown' hgr hwh
theorem wpList_appW {base : Nat} (hgd : o.guard = none) (s x : Operand) (t : TypeId)
  (ho : o.op = .call { callee := .builtin .append, args := #[s, x], argTypes := #[t, t] })
  (e : TypeId) (i : TypeInfo) (z : Value) (bytes : Nat) (ht : P.underlying t = some (.slice e)) (hi : P.info? e = some i) (hz : i.zero = some z)
  (hsize : i.size = 1) (hby : i.bytes = bytes) (hzs : z.cells.size = 1)
  (v : Value) (n : Nat) (xs : List Value) (hs : a.eval s = v) (hown : w.ownsRow base e 1 v n xs)
  (u : Value) (news : List Value) (hx : a.eval x = u) (hr : Row w u news) (h1 : ∀ u ∈ news, u.oneCell' = true)
  (hlen : n + news.length ≤ 2097152) (hby2 : bytes ≤ 1000) (hb : base ≤ w.heap.size)
  (h : ∀ v' w', w'.ownsRow base e 1 v' (n + news.length) (xs ++ news) → w.grownBy w' v.ownBlock → (∀ k, v'.ownBlock = some k → v.ownBlock = some k ∨ w.heap.size ≤ k) → wpList P ops Q rest (a.put o.dst v') w') : wpList P ops Q (o :: rest) a w :=
 wpList_plain hgd fun _ hK => wp_appW s x t ho e i z bytes ht hi hz hsize hby hzs v n xs hs hown u news hx hr h1 hlen hby2 hb fun v' w' h2 h3 h4 => hK _ _ (h v' w' h2 h3 h4)
end
end Go.Proofs.Ytmcpfaaakmehdaa
