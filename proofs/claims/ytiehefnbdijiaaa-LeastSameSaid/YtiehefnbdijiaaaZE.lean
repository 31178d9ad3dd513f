/-
  Texts of this proof, put together: SbV, TbA, TbB, TbC, TbD, TbF, RmD, TbG, TbH, RmE, TbJ, SbW, SbY, LsA. No statement is proved here.
-/
import Derived.Test.YtiehefnbdijiaaaZD
import Derived.Test.YtiehefnbdijiaaaZB
import Derived.Test.YtiehefnbdijiaaaZA
import Derived.Test.YtiehefnbdijiaaaZC
import Derived.Shelf.Spec.TrailingZeros
import Derived.Lib.SlBytesConst
namespace Go.Proofs.Ytiehefnbdijiaaa
open Go.RowKit
set_option linter.unusedSimpArgs false
set_option linter.unusedVariables false
theorem guard_cls : Try.prog.eqGuardType Try.prog.depth 24 = false := by kernel_rfl
theorem inf_byte : (Try.prog.info? 5).map (·.size) = some 1 := by kernel_rfl
theorem size_byte : ∀ w, (sizeOf 5).run Try.prog w = .ok 1 w := by
 intro w
 have h := inf_byte
 cases hi : Try.prog.info? 5 with
 | none => rw [hi] at h; cases h
 | some i =>
  rw [hi] at h
  have h' : i.size = 1 := by simpa using h
  simp [sizeOf, typeInfo, hi, h']
theorem ld_boolQ {ev : Operand → Value} {o : Oper} (x : Operand) (ho : o.op = .load 4 x) {p : Addr} (hx : ev x = .pointer (some p)) {k : Bool} {W : World} (hc : W.cell? p = some (.bool k)) : (execOp ev o).run Try.prog W = .ok (.value (.bool k)) W := by
 simp only [execOp, ho, hx]
 go_simp
def st0 : St := ⟨fun _ => false, -1, []⟩
def stF (l : List Int) : St := ⟨fun _ => false, -1, l⟩
def linkS (S : List St) (f t : Nat) : List St := S.modify f fun s => { s with free := s.free ++ [(t : Int)] }
def setS (S : List St) (i : Nat) (p : Nat → Bool) (z : Nat) : List St := S.modify i fun s => { s with set := p, to := (z : Int) }
mutual
def bldT : T → List St → List St
 | .node k s l, S =>
  if k = 3 then setS (S ++ [st0] ++ [st0]) S.length s (S.length + 1)
  else if k = 4 then linkS (bldC l (S ++ [st0] ++ [st0]) S.length).1 (bldC l (S ++ [st0] ++ [st0]) S.length).2 (S.length + 1)
  else if k = 5 then bldA l (S ++ [st0] ++ [st0]) S.length (S.length + 1) true
  else if k = 6 then linkS (bldO l (S ++ [st0] ++ [st0]) S.length) S.length (S.length + 1)
  else if k = 2 then linkS (S ++ [st0] ++ [st0]) S.length (S.length + 1)
  else S ++ [st0] ++ [st0]
def bldC : List T → List St → Nat → List St × Nat
 | [], S, at' => (S, at')
 | x :: r, S, at' => bldC r (linkS (bldT x S) at' S.length) (S.length + 1)
def bldA : List T → List St → Nat → Nat → Bool → List St
 | [], S, _, _, _ => S
 | x :: r, S, f, z, first =>
  if first then bldA r (linkS (linkS (bldT x S) f S.length) (S.length + 1) z) f z false
  else bldA r (linkS (linkS (bldT x (linkS (S ++ [st0]) f S.length)) S.length (S.length + 1)) (S.length + 2) z) S.length z false
def bldO : List T → List St → Nat → List St
 | [], S, _ => S
 | x :: r, S, a => linkS (linkS (bldT x S) a S.length) (S.length + 1) a
end
/-! ### the same as one piece behind what was there -/
mutual
def szT : T → Nat
 | .node k _ l => 2 + if k = 4 then szC l else if k = 5 then szA l else if k = 6 then szO l else 0
def szC : List T → Nat
 | [] => 0
 | x :: r => szT x + szC r
def szA : List T → Nat
 | [] => 0
 | x :: r => szT x + if r.length = 0 then 0 else 1 + szA r
def szO : List T → Nat
 | [] => 0
 | x :: _ => szT x
end
def altL : List T → Nat → List Int
 | [], _ => []
 | x :: r, p => (p : Int) :: if r.length = 0 then [] else [((p + szT x : Nat) : Int)]
theorem altL_cons (x : T) (r : List T) (p : Nat) : altL (x :: r) p = (p : Int) :: if r.length = 0 then [] else [((p + szT x : Nat) : Int)] := rfl
mutual
def fragT : T → Nat → List Int → List St
 | .node k s l, n, c =>
  if k = 3 then [⟨s, ((n + 1 : Nat) : Int), []⟩, stF c]
  else if k = 4 then stF [if l.length = 0 then ((n + 1 : Nat) : Int) else ((n + 2 : Nat) : Int)] :: stF c :: fragC l (n + 2) (n + 1)
  else if k = 5 then stF (altL l (n + 2)) :: stF c :: fragA l (n + 2) (n + 1)
  else if k = 6 then stF ((if l.length = 0 then [] else [((n + 2 : Nat) : Int)]) ++ [((n + 1 : Nat) : Int)]) :: stF c :: fragO l (n + 2) n
  else if k = 2 then [stF [((n + 1 : Nat) : Int)], stF c]
  else [stF [], stF c]
def fragC : List T → Nat → Nat → List St
 | [], _, _ => []
 | x :: r, p, z => fragT x p [if r.length = 0 then (z : Int) else ((p + szT x : Nat) : Int)] ++ fragC r (p + szT x) z
def fragA : List T → Nat → Nat → List St
 | [], _, _ => []
 | x :: r, p, z => fragT x p [(z : Int)] ++ if r.length = 0 then [] else stF (altL r (p + szT x + 1)) :: fragA r (p + szT x + 1) z
def fragO : List T → Nat → Nat → List St
 | [], _, _ => []
 | x :: _, p, z => fragT x p [(z : Int)]
end
mutual
theorem fragT_len : ∀ (t : T) (n : Nat) (c : List Int), (fragT t n c).length = szT t
 | .node k s l, n, c => by
  have h1 := fragC_len l (n + 2) (n + 1)
  have h2 := fragA_len l (n + 2) (n + 1)
  have h3 := fragO_len l (n + 2) n
  simp only [fragT, szT]
  split
  ·next h => rw [if_neg (by omega), if_neg (by omega), if_neg (by omega)]; rfl
  ·split
   ·simp [h1]; omega
   ·split
    ·simp [h2]; omega
    ·split
     ·simp [h3]; omega
     ·split <;> rfl
theorem fragC_len : ∀ (l : List T) (p z : Nat), (fragC l p z).length = szC l
 | [], _, _ => rfl
 | x :: r, p, z => by
  simp only [fragC, szC, List.length_append]
  rw [fragT_len x, fragC_len r]
theorem fragA_len : ∀ (l : List T) (p z : Nat), (fragA l p z).length = szA l
 | [], _, _ => rfl
 | x :: r, p, z => by
  simp only [fragA, szA, List.length_append]
  rw [fragT_len x]
  split
  ·rfl
  ·rw [List.length_cons, fragA_len r]; omega
theorem fragO_len : ∀ (l : List T) (p z : Nat), (fragO l p z).length = szO l
 | [], _, _ => rfl
 | x :: r, p, z => by
  simp only [fragO, szO]
  exact fragT_len x _ _
end
theorem szT_two (t : T) : 2 ≤ szT t := by
 cases t with
 | node k s l => simp only [szT]; omega
theorem fragT_ends (t : T) (n : Nat) : ∃ (s : St) (r : List St), ∀ c, fragT t n c = s :: stF c :: r := by
 cases t with
 | node k s l =>
  simp only [fragT]
  by_cases h3 : k = 3
  ·exact ⟨_, [], fun c => by rw [if_pos h3]⟩
  ·by_cases h4 : k = 4
   ·exact ⟨_, _, fun c => by rw [if_neg h3, if_pos h4]⟩
   ·by_cases h5 : k = 5
    ·exact ⟨_, _, fun c => by rw [if_neg h3, if_neg h4, if_pos h5]⟩
    ·by_cases h6 : k = 6
     ·exact ⟨_, _, fun c => by rw [if_neg h3, if_neg h4, if_neg h5, if_pos h6]⟩
     ·by_cases h2 : k = 2
      ·exact ⟨_, [], fun c => by rw [if_neg h3, if_neg h4, if_neg h5, if_neg h6, if_pos h2]⟩
      ·exact ⟨_, [], fun c => by rw [if_neg h3, if_neg h4, if_neg h5, if_neg h6, if_neg h2]⟩
def linkI (S : List St) (f : Nat) (l : List Int) : List St := S.modify f fun s => { s with free := s.free ++ l }
theorem linkS_is (S : List St) (f t : Nat) : linkS S f t = linkI S f [(t : Int)] := rfl
theorem linkI_len (S : List St) (f : Nat) (l : List Int) : (linkI S f l).length = S.length := by simp [linkI]
theorem linkI_left {S X : List St} {f : Nat} {l : List Int} (h : f < S.length) : linkI (S ++ X) f l = linkI S f l ++ X := by
 unfold linkI
 apply List.ext_getElem?
 intro i
 rw [List.getElem?_modify, List.getElem?_append, List.getElem?_append, List.length_modify, List.getElem?_modify]
 by_cases hi : i < S.length
 ·rw [if_pos hi, if_pos hi]
 ·rw [if_neg hi, if_neg hi]
  have : f ≠ i := by omega
  simp [this]
theorem linkI_right {S X : List St} {f : Nat} {l : List Int} (h : S.length ≤ f) : linkI (S ++ X) f l = S ++ linkI X (f - S.length) l := by
 unfold linkI
 apply List.ext_getElem?
 intro i
 rw [List.getElem?_modify, List.getElem?_append, List.getElem?_append, List.getElem?_modify]
 by_cases hi : i < S.length
 ·rw [if_pos hi, if_pos hi]
  have : f ≠ i := by omega
  simp [this]
 ·rw [if_neg hi, if_neg hi]
  by_cases hfi : f = i
  ·subst hfi; simp
  ·have : ¬ (f - S.length = i - S.length) := by omega
   simp [hfi, this]
theorem linkI_two (S : List St) (f : Nat) (l m : List Int) : linkI (linkI S f l) f m = linkI S f (l ++ m) := by
 unfold linkI
 apply List.ext_getElem?
 intro i
 simp only [List.getElem?_modify]
 cases S[i]? with
 | none => rfl
 | some s =>
  by_cases h : f = i
  ·simp [h]
  ·simp [h]
theorem linkI_nil (S : List St) (f : Nat) : linkI S f [] = S := by
 unfold linkI
 apply List.ext_getElem?
 intro i
 rw [List.getElem?_modify]
 cases S[i]? with
 | none => rfl
 | some s => simp
theorem linkI_cons (s : St) (r : List St) (l : List Int) : linkI (s :: r) 0 l = { s with free := s.free ++ l } :: r := by simp [linkI]
theorem frag_link (P : List St) (x : T) (c d : List Int) (X : List St) : linkI (P ++ fragT x P.length c ++ X) (P.length + 1) d = P ++ fragT x P.length (c ++ d) ++ X := by
 obtain ⟨s, r, he⟩ := fragT_ends x P.length
 rw [linkI_left (by rw [List.length_append, fragT_len]; have := szT_two x; omega), linkI_right (by omega), he, he, show P.length + 1 - P.length = 1 from by omega]
 simp [linkI, stF]
theorem frag_link' {P : List St} {n f : Nat} (hn : P.length = n) (hf : f = n + 1) (x : T) (c d : List Int) : linkI (P ++ fragT x n c) f d = P ++ fragT x n (c ++ d) := by
 subst hn
 subst hf
 have := frag_link P x c d []
 simpa using this
theorem setS_end (S : List St) (p : Nat → Bool) (z : Nat) : setS (S ++ [st0] ++ [st0]) S.length p z = S ++ [⟨p, (z : Int), []⟩, stF []] := by
 rw [show S ++ [st0] ++ [st0] = S ++ [st0, st0] from by simp]
 apply List.ext_getElem?
 intro i
 unfold setS
 rw [List.getElem?_modify, List.getElem?_append, List.getElem?_append]
 by_cases hi : i < S.length
 ·rw [if_pos hi, if_pos hi]
  have : S.length ≠ i := by omega
  simp [this]
 ·rw [if_neg hi, if_neg hi]
  obtain ⟨j, rfl⟩ : ∃ j, i = S.length + j := ⟨i - S.length, by omega⟩
  rw [Nat.add_sub_cancel_left]
  match j with
  | 0 => simp [st0]
  | 1 => simp [st0, stF]
  | k + 2 => simp
theorem two_end (S : List St) : S ++ [st0] ++ [st0] = S ++ [stF [], stF []] := by simp [st0, stF]
theorem link_in (S X : List St) (c l m : List Int) : linkI (S ++ (stF c :: X)) S.length l = S ++ (stF (c ++ l) :: X) := by
 rw [linkI_right (Nat.le_refl _), Nat.sub_self, linkI_cons]
 rfl
mutual
theorem bldT_frag : ∀ (t : T) (S : List St), bldT t S = S ++ fragT t S.length []
 | .node k s l, S => by
  have hl : (S ++ [stF [], stF []]).length = S.length + 2 := by simp
  simp only [bldT, fragT]
  by_cases h3 : k = 3
  ·rw [if_pos h3, if_pos h3, setS_end]
  rw [if_neg h3, if_neg h3]
  by_cases h4 : k = 4
  ·rw [if_pos h4, if_pos h4, two_end, bldC_frag l (S ++ [stF [], stF []]) S.length (S.length + 1) (by rw [hl]; omega)]
   split
   ·next h0 =>
    have : l = [] := List.eq_nil_of_length_eq_zero h0
    subst this
    rw [linkS_is, link_in S _ [] _ []]
    simp [fragC]
   ·rw [hl, linkS_is, link_in S _ [] _ []]
    simp
  rw [if_neg h4, if_neg h4]
  by_cases h5 : k = 5
  ·rw [if_pos h5, if_pos h5, two_end]
   rw [bldA_first l (S ++ [stF [], stF []]) S.length (S.length + 1) (by rw [hl]; omega), hl, link_in S _ [] _ []]
   simp
  rw [if_neg h5, if_neg h5]
  by_cases h6 : k = 6
  ·rw [if_pos h6, if_pos h6, two_end]
   cases l with
   | nil => simp only [bldO, fragO]; rw [linkS_is, link_in S _ [] _ []]; simp
   | cons x r =>
    simp only [bldO, fragO]
    rw [bldT_frag x, hl, linkS_is, linkS_is, linkS_is, List.append_assoc, List.cons_append, List.cons_append, List.nil_append, link_in S _ [] _ []]
    rw [show S ++ (stF ([] ++ [((S.length + 2 : Nat) : Int)]) :: stF [] :: fragT x (S.length + 2) []) = (S ++ [stF ([] ++ [((S.length + 2 : Nat) : Int)]), stF []]) ++ fragT x (S.length + 2) [] from by simp]
    rw [frag_link' (by simp) (by omega), List.append_assoc, List.cons_append, List.cons_append, List.nil_append, link_in S _ _ _ []]
    simp
  rw [if_neg h6, if_neg h6]
  by_cases h2 : k = 2
  ·rw [if_pos h2, if_pos h2, two_end, linkS_is, link_in S _ [] _ []]
   simp
  rw [if_neg h2, if_neg h2, two_end]
theorem bldC_frag : ∀ (l : List T) (S : List St) (f z : Nat), f < S.length → linkS (bldC l S f).1 (bldC l S f).2 z = if l.length = 0 then linkS S f z else linkS S f S.length ++ fragC l S.length z
 | [], S, f, z, _ => by simp [bldC]
 | x :: r, S, f, z, hf => by
  have hlen : (linkI S f [(S.length : Int)]).length = S.length := linkI_len _ _ _
  simp only [bldC]
  rw [bldT_frag x, linkS_is (S ++ fragT x S.length []) f S.length, linkI_left hf, bldC_frag r _ (S.length + 1) z (by rw [List.length_append, hlen, fragT_len]; have := szT_two x; omega)]
  rw [if_neg (show ¬ (x :: r).length = 0 by simp)]
  simp only [fragC]
  by_cases h0 : r.length = 0
  ·have : r = [] := List.eq_nil_of_length_eq_zero h0
   subst this
   simp only [List.length_nil, if_true]
   rw [linkS_is, linkS_is, frag_link' hlen rfl]
   simp [fragC]
  ·simp only [if_neg h0]
   rw [linkS_is, linkS_is, frag_link' hlen rfl, List.length_append, hlen, fragT_len, List.append_assoc]
   simp
theorem bldA_first : ∀ (l : List T) (S : List St) (f z : Nat), f < S.length → bldA l S f z true = linkI S f (altL l S.length) ++ fragA l S.length z
 | [], S, f, z, _ => by simp [bldA, altL, fragA, linkI_nil]
 | x :: r, S, f, z, hf => by
  have hlen : (linkI S f [(S.length : Int)]).length = S.length := linkI_len _ _ _
  simp only [bldA, if_true, fragA]
  rw [altL_cons]
  rw [bldT_frag x, linkS_is, linkS_is, linkI_left hf, frag_link' hlen rfl]
  by_cases h0 : r.length = 0
  ·have : r = [] := List.eq_nil_of_length_eq_zero h0
   subst this
   simp [bldA]
  ·rw [if_neg h0, if_neg h0, bldA_more r _ f z h0 (by rw [List.length_append, hlen]; omega), List.length_append, hlen, fragT_len, linkI_left (by rw [hlen]; exact hf), linkI_two, List.append_assoc]
   simp
theorem bldA_more : ∀ (r : List T) (S : List St) (f z : Nat), ¬ r.length = 0 → f < S.length → bldA r S f z false = linkI S f [(S.length : Int)] ++ (stF (altL r (S.length + 1)) :: fragA r (S.length + 1) z)
 | [], S, f, z, h, _ => absurd rfl h
 | x :: r, S, f, z, _, hf => by
  have hlen : (linkI S f [(S.length : Int)]).length = S.length := linkI_len _ _ _
  obtain ⟨P, hP⟩ : ∃ P, P = linkI S f [(S.length : Int)] := ⟨_, rfl⟩
  simp only [bldA, Bool.false_eq_true, if_false, fragA]
  rw [altL_cons]
  rw [linkS_is, linkS_is, linkS_is, linkI_left (X := [st0]) hf, ← hP, bldT_frag x]
  rw [← hP] at hlen
  have h1 : (P ++ [st0]).length = S.length + 1 := by simp [hlen]
  rw [h1]
  have e1 : linkI (P ++ [st0] ++ fragT x (S.length + 1) []) S.length [((S.length + 1 : Nat) : Int)] = (P ++ [stF [((S.length + 1 : Nat) : Int)]]) ++ fragT x (S.length + 1) [] := by
   rw [List.append_assoc, ← hlen]
   have := link_in P (fragT x (P.length + 1) []) [] [((P.length + 1 : Nat) : Int)] []
   simpa [st0, stF] using this
  have h2 : (P ++ [stF [((S.length + 1 : Nat) : Int)]]).length = S.length + 1 := by simp [hlen]
  rw [e1, frag_link' h2 (by omega)]
  by_cases h0 : r.length = 0
  ·have : r = [] := List.eq_nil_of_length_eq_zero h0
   subst this
   simp [bldA]
  ·have h3 : (P ++ [stF [((S.length + 1 : Nat) : Int)]] ++ fragT x (S.length + 1) ([] ++ [(z : Int)])).length = S.length + 1 + szT x := by rw [List.length_append, h2, fragT_len]
   rw [if_neg h0, if_neg h0, bldA_more r _ S.length z h0 (by rw [h3]; omega), h3]
   have e2 := link_in P (fragT x (P.length + 1) [(z : Int)]) [((P.length + 1 : Nat) : Int)] [((P.length + 1 + szT x : Nat) : Int)] []
   rw [hlen] at e2
   rw [List.append_assoc P, List.cons_append, List.nil_append, List.nil_append, e2, List.append_assoc]
   simp
end
inductive WayN (S : List St) : Nat → Nat → List UInt8 → Nat → Prop
 | here {i : Nat} : WayN S 0 i [] i
 | free {m i j k : Nat} {s : St} {w : List UInt8} : S[i]? = some s → (j : Int) ∈ s.free → WayN S m j w k → WayN S (m + 1) i w k
 | byte {m i j k : Nat} {s : St} {b : UInt8} {w : List UInt8} : S[i]? = some s → s.set b.toNat = true → s.to = (j : Int) → WayN S m j w k → WayN S (m + 1) i (b :: w) k
def At (M : List St) (p : Nat) (L : List St) : Prop := ∀ i s, L[i]? = some s → M[p + i]? = some s
theorem At.left {M A B : List St} {p : Nat} (h : At M p (A ++ B)) : At M p A := fun i s hs => h i s (by rw [List.getElem?_append_left (List.getElem?_eq_some_iff.1 hs).1]; exact hs)
theorem At.right {M A B : List St} {p : Nat} (h : At M p (A ++ B)) : At M (p + A.length) B := fun i s hs => by
 rw [Nat.add_assoc]
 refine h (A.length + i) s ?_
 rw [List.getElem?_append_right (by omega), Nat.add_sub_cancel_left]
 exact hs
theorem WayN.out {M : List St} {m i k : Nat} {w : List UInt8} {l : List Int} (h : WayN M m i w k) (hi : M[i]? = some (stF l)) (hk : k ≠ i) : ∃ (j m' : Nat), (j : Int) ∈ l ∧ m = m' + 1 ∧ WayN M m' j w k := by
 cases h with
 | here => exact absurd rfl hk
 | free a b c =>
  rw [hi] at a
  injection a with a
  subst a
  exact ⟨_, _, b, rfl, c⟩
 | byte a b c d =>
  rw [hi] at a
  injection a with a
  subst a
  cases b
def OkF (hi : Nat) (L : List St) : Prop := ∀ s ∈ L, s.to < (hi : Int) ∧ s.free.length ≤ 2 ∧ ∀ f ∈ s.free, 0 ≤ f ∧ f < (hi : Int)
theorem OkF.cons {hi : Nat} {a : St} {L : List St} (h1 : a.to < (hi : Int) ∧ a.free.length ≤ 2 ∧ ∀ f ∈ a.free, 0 ≤ f ∧ f < (hi : Int)) (h2 : OkF hi L) : OkF hi (a :: L) := fun s hs => by
 rcases List.mem_cons.1 hs with rfl | hs
 ·exact h1
 ·exact h2 s hs
theorem OkF.nil (hi : Nat) : OkF hi [] := fun s hs => by cases hs
/-! ### cells of states -/
/-! ### rows of the call's own, one cell turned -/
theorem own_set {w : World} {base n k cap g : Nat} {e : TypeId} {xs : List Value} (h : w.ownsRow base e k (.slice (some ⟨g, 0, none⟩) n cap) n xs) {j : Nat} (hj : j < xs.length) (u : Value) : (w.setCell ⟨g, j, none⟩ u).ownsRow base e k (.slice (some ⟨g, 0, none⟩) n cap) n (xs.set j u) := by
 refine ⟨by rw [List.length_set]; exact h.1, ?_⟩
 rcases h.2 with ⟨he, h0⟩ | ⟨g', cap', cur, he, hb, hg, hnc, hcm, hcs, ht⟩
 ·cases he
 ·injection he with h1 h2 h3
  injection h1 with h1
  injection h1 with h1
  subst h1
  subst h3
  refine .inr ⟨g, cap, cur.setIfInBounds j u, rfl, hb, ?_, hnc, hcm, by simp [hcs], ?_⟩
  ·have : Blk w g e cur.toList := by unfold Blk; simpa using hg
   have h2 := this.set j u
   unfold Blk at h2
   rw [h2]
   congr 2
   apply Array.ext'
   simp
  ·rw [Array.toList_setIfInBounds, ← ht, List.take_set]
theorem own_cell {w : World} {base n k cap g : Nat} {e : TypeId} {xs : List Value} (h : w.ownsRow base e k (.slice (some ⟨g, 0, none⟩) n cap) n xs) {j : Nat} {u : Value} (hj : xs[j]? = some u) : w.cell? ⟨g, j, none⟩ = some u ∧ w.frozen? ⟨g, j, none⟩ = false := by
 refine ⟨by have := h.cells (g := g) rfl j u hj; rwa [Addr.add_lit, Nat.zero_add] at this, ?_⟩
 rcases h.2 with ⟨he, h0⟩ | ⟨g', cap', cur, he, hb, hg, hnc, hcm, hcs, ht⟩
 ·cases he
 ·injection he with h1 h2 h3
  injection h1 with h1
  injection h1 with h1
  subst h1
  simp [World.frozen?, hg]
/-! ### a builder -/
def up (D : Nat → Prop) (w w' : World) (k : Nat) : Prop := D k ∨ (w.heap.size ≤ k ∧ k < w'.heap.size)
section
variable {w w' w'' : World} {B g : Nat} {D D' : Nat → Prop} {S : List St} {lv : Value} {fv : Nat → Value}
theorem up_trans (h1 : w.heap.size ≤ w'.heap.size) (h2 : w'.heap.size ≤ w''.heap.size) : ∀ k, up (up D w w') w' w'' k → up D w w'' k := fun k hk => by
 rcases hk with (hk | hk) | hk
 ·exact .inl hk
 ·exact .inr ⟨hk.1, Nat.lt_of_lt_of_le hk.2 h2⟩
 ·exact .inr ⟨Nat.le_trans h1 hk.1, hk.2⟩
theorem off_trans (x : Off D w w') (y : Off (up D w w') w' w'') : Off D w w'' := by
 refine ⟨y.os.trans x.os, y.tape.trans x.tape, y.output.trans x.output, Nat.le_trans x.size y.size, fun k hk hn => ?_⟩
 refine (y.block k (Nat.lt_of_lt_of_le hk x.size) fun hd => ?_).trans (x.block k hk hn)
 rcases hd with e | e
 ·exact hn e
 ·omega
end
/-! ### laws of rows of states -/
section
variable {P : Program} {w : World} {ops : Array Oper} {rest : List Oper} {o : Oper} {a : Act} {K : Act → World → Prop} {Q : Exit → Act → World → Prop}
end
theorem wp_stL {o : Oper} {a : Act} {w : World} {K : Act → World → Prop} {Q : Exit → Act → World → Prop} (x y : Operand) (ho : o.op = .store 38 x y) (g q : Nat) (hx : a.eval x = .pointer (some ⟨g, q, none⟩)) (A : Option Addr) (n c : Nat) (hy : a.eval y = .slice A n c)
  (u : Value) (hc : w.cell? ⟨g, q, none⟩ = some u) (hf : w.frozen? ⟨g, q, none⟩ = false) (h : K (a.put o.dst undef) (w.setCell ⟨g, q, none⟩ (.slice A n c))) : o.wp Try.prog a w K Q := by
 unfold Oper.wp execOp
 simp only [ho, hx, hy]
 have hrun : (Instr.storeAt 38 (.pointer (some ⟨g, q, none⟩)) (.slice A n c)).run Try.prog w = .ok () (w.setCell ⟨g, q, none⟩ (.slice A n c)) := by
  go_simp
 simp only [Sem.run_bind, hrun, Result.andThen_ok, Sem.run_pure]
 exact h
theorem ascF_at : ∀ {l : List T}, ascF l = true ↔ ∀ (i : Nat) (a b : T), l[i]? = some a → l[i + 1]? = some b → folT b a = true
 | [] => by simp [ascF]
 | [a] => by simp [ascF]
 | a :: b :: r => by
  simp only [ascF, Bool.and_eq_true, @ascF_at (b :: r)]
  constructor
  ·rintro ⟨h1, h2⟩ i x y hx hy
   cases i with
   | zero =>
    simp at hx hy
    rw [← hx, ← hy]
    exact h1
   | succ i => exact h2 i x y (by simpa using hx) (by simpa using hy)
  ·intro h
   exact ⟨h 0 a b rfl rfl, fun i x y hx hy => h (i + 1) x y (by simpa using hx) (by simpa using hy)⟩
structure Pj (k : Int) (l : List T) (j : Nat) : Prop where
 fit : ∀ i t, i < j → l[i]? = some t → fitsT t.kind k = true ∧ plainT t = true
 asc : k = 5 → ∀ i a b, i + 1 < j → l[i]? = some a → l[i + 1]? = some b → folT b a = true
theorem Pj.start (k : Int) (l : List T) : Pj k l 0 := ⟨fun i t h => absurd h (Nat.not_lt_zero i), fun _ i a b h => absurd h (Nat.not_lt_zero _)⟩
theorem Pj.next {k : Int} {l : List T} {j : Nat} (h : Pj k l j) {x : T} (hx : l[j]? = some x) (h1 : fitsT x.kind k = true) (h2 : plainT x = true) (h3 : k = 5 → ∀ p y, j = p + 1 → l[p]? = some y → folT x y = true) : Pj k l (j + 1) := by
 refine ⟨fun i t hi ht => ?_, fun hk i a b hi ha hb => ?_⟩
 ·rcases Nat.lt_or_ge i j with hlt | hge
  ·exact h.fit i t hlt ht
  ·obtain rfl : i = j := by omega
   rw [hx] at ht
   injection ht with ht
   subst ht
   exact ⟨h1, h2⟩
 ·rcases Nat.lt_or_ge (i + 1) j with hlt | hge
  ·exact h.asc hk i a b hlt ha hb
  ·obtain rfl : j = i + 1 := by omega
   rw [hx] at hb
   injection hb with hb
   subst hb
   exact h3 hk i a rfl ha
theorem Pj.all {k : Int} {s : Nat → Bool} {l : List T} (h : Pj k l l.length) (h1 : k = 3 ∨ eqS s zeroS = true) (h2 : countT k s l.length = true) : plainT (.node k s l) = true := by
 simp only [plainT, Bool.and_eq_true, Bool.or_eq_true, decide_eq_true_eq]
 refine ⟨⟨⟨h1, h2⟩, plainL_iff.2 fun t ht => ?_⟩, ?_⟩
 ·obtain ⟨i, hi, rfl⟩ := List.getElem_of_mem ht
  exact h.fit i _ hi (List.getElem?_eq_getElem hi)
 ·by_cases hk : k = 5
  ·right
   exact ascF_at.2 fun i a b ha hb => h.asc hk i a b (List.getElem?_eq_some_iff.1 hb).1 ha hb
  ·exact .inl hk
theorem bldT_len (x : T) (S : List St) : (bldT x S).length = S.length + szT x := by rw [bldT_frag, List.length_append, fragT_len]
theorem bldT_old {x : T} {S : List St} {i : Nat} {s : St} (h : S[i]? = some s) : (bldT x S)[i]? = some s := by
 rw [bldT_frag, List.getElem?_append_left (List.getElem?_eq_some_iff.1 h).1]
 exact h
theorem bldT_out (x : T) (S : List St) : (bldT x S)[S.length + 1]? = some (stF []) := by
 obtain ⟨s, r, he⟩ := fragT_ends x S.length
 rw [bldT_frag, he, List.getElem?_append_right (by omega), show S.length + 1 - S.length = 1 from by omega]
 rfl
theorem linkS_other {S : List St} {f t i : Nat} (h : i ≠ f) : (linkS S f t)[i]? = S[i]? := by
 unfold linkS
 rw [List.getElem?_modify]
 have : ¬ f = i := fun e => h e.symm
 simp [this]
theorem linkS_at {S : List St} {f t : Nat} {s : St} (h : S[f]? = some s) : (linkS S f t)[f]? = some { s with free := s.free ++ [(t : Int)] } := by
 unfold linkS
 rw [List.getElem?_modify, h]
 simp
def restA (l : List T) (j : Nat) : Nat := if l.length = 0 then 0 else szA l + (if j = 0 then 0 else 1)
theorem restA_cons {x : T} {r : List T} {j : Nat} : restA (x :: r) j = szT x + restA r 1 + (if j = 0 then 0 else 1) := by
 unfold restA
 rw [if_neg (by simp)]
 simp only [szA]
 by_cases h : r.length = 0
 ·rw [if_pos h, if_pos h]
 ·rw [if_neg h, if_neg h, if_neg (by omega : ¬ (1 : Nat) = 0)]; omega
structure Wj (l : List T) (S : List St) (f0 z j f : Nat) (S' : List St) : Prop where
 same : bldA l S f0 z true = bldA (l.drop j) S' f z (decide (j = 0))
 fork : ∃ s, S'[f]? = some s ∧ s.free.length ≤ if j = 0 then 0 else 1
 size : S'.length + restA (l.drop j) j ≤ 2000
theorem Wj.first {l : List T} {S S' : List St} {f0 z j f : Nat} {x : T} (h : Wj l S f0 z j f S') (hx : l[j]? = some x) (hj : j = 0) : ∃ s, S'[f]? = some s ∧ s.free.length ≤ 8 ∧ S'.length + szT x ≤ 2000 ∧
  (linkS (bldT x S') f S'.length)[S'.length + 1]? = some (stF []) ∧ (linkS (bldT x S') f S'.length).length ≤ 2000 ∧ Wj l S f0 z (j + 1) f (linkS (linkS (bldT x S') f S'.length) (S'.length + 1) z) := by
 subst hj
 obtain ⟨s, hs, hl⟩ := h.fork
 have hd : l.drop 0 = x :: l.drop 1 := by
  cases l with
  | nil => simp at hx
  | cons a r => simp at hx; simp [hx]
 have hz := h.size
 have hsame := h.same
 rw [hd] at hz hsame
 rw [restA_cons, if_pos rfl] at hz
 rw [if_pos rfl] at hl
 have hf := (List.getElem?_eq_some_iff.1 hs).1
 have hne : S'.length + 1 ≠ f := by omega
 refine ⟨s, hs, by omega, by omega, ?_, ?_, ⟨hsame.trans ?_, ?_, ?_⟩⟩
 ·rw [linkS_other hne]; exact bldT_out x S'
 ·rw [linkS_is, linkI_len, bldT_len]; omega
 ·rfl
 ·refine ⟨{ s with free := s.free ++ [(S'.length : Int)] }, ?_, ?_⟩
  ·rw [linkS_other (fun e => hne e.symm), linkS_at (bldT_old hs)]
  ·show (s.free ++ [(S'.length : Int)]).length ≤ 1
   rw [List.length_append, List.length_singleton]; omega
 ·change _ + restA (l.drop 1) 1 ≤ 2000
  rw [linkS_is, linkI_len, linkS_is, linkI_len, bldT_len]; omega
theorem Wj.next {l : List T} {S S' : List St} {f0 z q f : Nat} {x : T} (h : Wj l S f0 z q f S') (hx : l[q]? = some x) (hq : q ≠ 0) :
  ∃ s, (S' ++ [st0])[f]? = some s ∧ s.free.length ≤ 8 ∧ (S' ++ [st0]).length + szT x ≤ 2000 ∧
  (linkS (S' ++ [st0]) f S'.length)[S'.length]? = some st0 ∧ (linkS (S' ++ [st0]) f S'.length).length = S'.length + 1 ∧
  (linkS (bldT x (linkS (S' ++ [st0]) f S'.length)) S'.length (S'.length + 1))[S'.length + 2]? = some (stF []) ∧ (linkS (bldT x (linkS (S' ++ [st0]) f S'.length)) S'.length (S'.length + 1)).length ≤ 2000 ∧
   Wj l S f0 z (q + 1) S'.length (linkS (linkS (bldT x (linkS (S' ++ [st0]) f S'.length)) S'.length (S'.length + 1)) (S'.length + 2) z) := by
 obtain ⟨j, rfl⟩ : ∃ j, q = j + 1 := ⟨q - 1, by omega⟩
 obtain ⟨s, hs, hl⟩ := h.fork
 have hd : l.drop (j + 1) = x :: l.drop (j + 2) := by
  obtain ⟨hj, rfl⟩ := List.getElem?_eq_some_iff.1 hx
  exact List.drop_eq_getElem_cons hj
 have hz := h.size
 have hsame := h.same
 rw [hd] at hz hsame
 rw [restA_cons, if_neg (by omega)] at hz
 rw [if_neg (by omega)] at hl
 have hf := (List.getElem?_eq_some_iff.1 hs).1
 have h1 : (linkS (S' ++ [st0]) f S'.length).length = S'.length + 1 := by rw [linkS_is, linkI_len]; simp
 have h2 : (linkS (S' ++ [st0]) f S'.length)[S'.length]? = some st0 := by rw [linkS_other (by omega)]; simp
 have ho := bldT_out x (linkS (S' ++ [st0]) f S'.length)
 rw [h1] at ho
 refine ⟨s, by rw [List.getElem?_append_left hf]; exact hs, by omega, by simp; omega, h2, h1, ?_, ?_, ⟨hsame.trans ?_, ?_, ?_⟩⟩
 ·rw [linkS_other (by omega)]; exact ho
 ·rw [linkS_is, linkI_len, bldT_len, h1]; omega
 ·rw [decide_eq_false (by omega : ¬ j + 1 = 0), decide_eq_false (by omega : ¬ j + 2 = 0)]
  rfl
 ·refine ⟨{ st0 with free := st0.free ++ [((S'.length + 1 : Nat) : Int)] }, ?_, ?_⟩
  ·rw [linkS_other (by omega), linkS_at (bldT_old h2)]
  ·rw [if_neg (by omega)]
   exact Nat.le_refl _
 ·change _ + restA (l.drop (j + 2)) (j + 2) ≤ 2000
  rw [linkS_is, linkI_len, linkS_is, linkI_len, bldT_len, h1]
  have : restA (l.drop (j + 2)) (j + 2) = restA (l.drop (j + 2)) 1 := by unfold restA; rw [if_neg (by omega : ¬ j + 2 = 0), if_neg (by omega : ¬ (1 : Nat) = 0)]
  omega
theorem Wj.end_ {l : List T} {S S' : List St} {f0 z f : Nat} (h : Wj l S f0 z l.length f S') : bldA l S f0 z true = S' := by
 rw [h.same, List.drop_length]
 rfl
theorem wp_stI {o : Oper} {a : Act} {w : World} {K : Act → World → Prop} {Q : Exit → Act → World → Prop} (x y : Operand) (ho : o.op = .store 3 x y) (g q : Nat) (hx : a.eval x = .pointer (some ⟨g, q, none⟩)) (k : Int) (hy : a.eval y = .int .i64 k)
  (u : Value) (hc : w.cell? ⟨g, q, none⟩ = some u) (hf : w.frozen? ⟨g, q, none⟩ = false) (h : K (a.put o.dst undef) (w.setCell ⟨g, q, none⟩ (.int .i64 k))) : o.wp Try.prog a w K Q := by
 unfold Oper.wp execOp
 simp only [ho, hx, hy]
 have hrun : (Instr.storeAt 3 (.pointer (some ⟨g, q, none⟩)) (.int .i64 k)).run Try.prog w = .ok () (w.setCell ⟨g, q, none⟩ (.int .i64 k)) := by
  go_simp
 simp only [Sem.run_bind, hrun, Result.andThen_ok, Sem.run_pure]
 exact h
/-! ### sequences -/
structure Cj (l : List T) (S : List St) (f0 j f : Nat) (S' : List St) : Prop where
 same : bldC l S f0 = bldC (l.drop j) S' f
 at_ : ∃ s, S'[f]? = some s ∧ s.free = []
 size : S'.length + szC (l.drop j) ≤ 2000
theorem Cj.next {l : List T} {S S' : List St} {f0 j f : Nat} {x : T} (h : Cj l S f0 j f S') (hx : l[j]? = some x) : ∃ s, S'[f]? = some s ∧ s.free.length ≤ 8 ∧ S'.length + szT x ≤ 2000 ∧ Cj l S f0 (j + 1) (S'.length + 1) (linkS (bldT x S') f S'.length) := by
 obtain ⟨s, hs, hl⟩ := h.at_
 have hd : l.drop j = x :: l.drop (j + 1) := by
  obtain ⟨hj, rfl⟩ := List.getElem?_eq_some_iff.1 hx
  exact List.drop_eq_getElem_cons hj
 have hz := h.size
 have hsame := h.same
 rw [hd] at hz hsame
 simp only [szC] at hz
 have hf := (List.getElem?_eq_some_iff.1 hs).1
 refine ⟨s, hs, by rw [hl]; exact Nat.zero_le _, by omega, ⟨hsame, ⟨stF [], ?_, rfl⟩, ?_⟩⟩
 ·rw [linkS_other (by omega)]; exact bldT_out x S'
 ·rw [linkS_is, linkI_len, bldT_len]; omega
theorem Cj.end_ {l : List T} {S S' : List St} {f0 f : Nat} (h : Cj l S f0 l.length f S') : bldC l S f0 = (S', f) := by
 rw [h.same, List.drop_length]
 rfl
def mayE (t : T) : Int := if 400 < t.nodes then 4 else if 30 < t.depth then 5 else if plainT t then 0 else 3
def Built (w : World) (ns : List Value) (t : T) : Prop := (mayE t = 0 → NfaV w ns (fragT t 0 []) 0 1) ∧ (mayE t ≠ 0 → ns = [.slice none 0 0, .int .i64 0, .int .i64 0])
theorem Built.len {w : World} {ns : List Value} {t : T} (h : Built w ns t) : ns.length = 3 := by
 by_cases hm : mayE t = 0
 ·exact (h.1 hm).length
 ·rw [h.2 hm]; rfl
theorem Built.one {w : World} {ns : List Value} {t : T} (h : Built w ns t) : ns.all (·.oneCell') = true := by
 by_cases hm : mayE t = 0
 ·exact (h.1 hm).one
 ·rw [h.2 hm]; rfl
theorem Built.below {w w' : World} {ns : List Value} {t : T} (h : Built w ns t) (hb : Below w.heap.size w w') : Built w' ns t := ⟨fun hm => (h.1 hm).below hb, h.2⟩
theorem DfaV.one {w : World} {cs : List Value} {D : Dm} (h : DfaV w cs D) : cs.all (·.oneCell') = true := by
 obtain ⟨An, Ae, cn, ce, vf, _, hcs, _⟩ := h.form
 rw [hcs]
 exact dcl_one
theorem DfaV.length {w : World} {cs : List Value} {D : Dm} (h : DfaV w cs D) : cs.length = 258 := by
 obtain ⟨hl, vn, ve, vf, hcs, _⟩ := h
 rw [hcs]
 exact dcl_len hl
theorem clsD_up {cl : List UInt8} {K : Nat} (h : ∀ c ∈ cl, c.toNat + 1 ≤ K) : ∀ i, clsD cl i ≤ K
 | 0 => Nat.zero_le _
 | i + 1 => by
  rcases Nat.lt_or_ge i cl.length with hi | hi
  ·rw [clsD_next (List.getElem?_eq_getElem hi)]
   have h1 := clsD_up h i
   have h2 := h _ (List.getElem_mem hi)
   omega
  ·have : clsD cl (i + 1) = clsD cl i := by
    unfold clsD
    rw [List.take_of_length_le hi, List.take_of_length_le (by omega)]
   rw [this]
   exact clsD_up h i
theorem ofNat_toNat {n : Nat} (h : n < 256) : (UInt8.ofNat n).toNat = n := by
 rw [UInt8.toNat_ofNat']
 exact Nat.mod_eq_of_lt h
def stD (D : Dm) (s : Nat) (b : UInt8) : Nat := ((D.next[s]?.getD []).getD (D.cl.getD b.toNat 0).toNat 0).toNat
def toD (D : Dm) : Nat → List UInt8 → Nat
 | s, [] => s
 | s, b :: w => toD D (stD D s b) w
theorem toD_snoc (D : Dm) : ∀ (w : List UInt8) (s : Nat) (b : UInt8), toD D s (w ++ [b]) = stD D (toD D s w) b
 | [], _, _ => rfl
 | c :: w, s, b => toD_snoc D w (stD D s c) b
/-! ### finding comes to an end -/
theorem least_nat {P : Nat → Prop} : ∀ N, (∃ r, r ≤ N ∧ P r) → ∃ r, r ≤ N ∧ P r ∧ ∀ i, i < r → ¬ P i
 | 0, ⟨r, hr, hp⟩ => by
  obtain rfl : r = 0 := by omega
  exact ⟨0, Nat.le_refl _, hp, fun i h => absurd h (Nat.not_lt_zero i)⟩
 | N + 1, ⟨r, hr, hp⟩ => by
  by_cases h : ∃ q, q ≤ N ∧ P q
  ·obtain ⟨q, h1, h2, h3⟩ := least_nat N h
   exact ⟨q, by omega, h2, h3⟩
  ·have e : r = N + 1 := by
    refine Nat.le_antisymm hr (Nat.lt_of_not_le fun hle => h ⟨r, hle, hp⟩)
   exact ⟨r, hr, hp, fun i hi hpi => h ⟨i, by omega, hpi⟩⟩
theorem fit_ex {α : Type} [DecidableEq α] {f : α → List α} {x0 : α} {N : Nat} (h : ∀ r, (Lq f x0 r).length ≤ N) : ∃ n, n ≤ N ∧ Fit f x0 n := by
 obtain ⟨r, h1, h2, h3⟩ := least_nat (P := fun r => (Lq f x0 r).length ≤ r) N ⟨N, Nat.le_refl _, h N⟩
 exact ⟨r, h1, Nat.le_antisymm h2 (Lq_turn fun i hi => Nat.lt_of_not_le (h3 i hi))⟩
theorem nodup_sub {α : Type} [DecidableEq α] : ∀ (L M : List α), L.Nodup → (∀ x ∈ L, x ∈ M) → L.length ≤ M.length
 | [], M, _, _ => Nat.zero_le _
 | x :: r, M, hn, hs => by
  have hx : x ∈ M := hs x (by simp)
  have hn2 := List.nodup_cons.1 hn
  have h1 := nodup_sub r (M.erase x) hn2.2 fun y hy => (List.mem_erase_of_ne (fun e => hn2.1 (by rw [← e]; exact hy))).2 (hs y (List.mem_cons_of_mem _ hy))
  rw [List.length_erase_of_mem hx] at h1
  have h2 : 0 < M.length := List.length_pos_of_mem hx
  simp only [List.length_cons]
  omega
/-! ### classes by a relation -/
noncomputable def psR (R : Nat → Nat → Prop) (N : Nat) : List (Nat → Bool) := (List.range N).map fun c b => @decide (R b c) (Classical.propDecidable _)
theorem psR_alike {R : Nat → Nat → Prop} {N a b : Nat} (ha : a < N) (hb : b < N) (hr : ∀ a, R a a) (hs : ∀ a b, R a b → R b a) (ht : ∀ a b c, R a b → R b c → R a c) : alikeS (psR R N) a b = true ↔ R a b := by
 rw [alikeS_iff]
 constructor
 ·intro h
  have h1 := h _ (List.mem_map.2 ⟨b, List.mem_range.2 hb, rfl⟩)
  have h2 : @decide (R a b) (Classical.propDecidable _) = true := by
   rw [h1]
   exact @decide_eq_true _ (Classical.propDecidable _) (hr b)
  exact @of_decide_eq_true _ (Classical.propDecidable _) h2
 ·intro h p hp
  obtain ⟨c, _, rfl⟩ := List.mem_map.1 hp
  have e : R a c = R b c := propext ⟨fun k => ht _ _ _ (hs _ _ h) k, fun k => ht _ _ _ h k⟩
  show @decide (R a c) (Classical.propDecidable _) = @decide (R b c) (Classical.propDecidable _)
  rw [Bool.eq_iff_iff, @decide_eq_true_iff _ (Classical.propDecidable _), @decide_eq_true_iff _ (Classical.propDecidable _), e]
theorem clsA_ctabN (ps : List (Nat → Bool)) (N : Nat) (hN : N = 256) : clsA (ctab ps N) = (firstJ ps N).length := by
 have hat : ∀ {j : Nat}, j < N → (ctab ps N)[j]? = some (UInt8.ofNat (clsOf ps j)) := fun {j} hj => by
  have := ctab_at ps (j := j) (by omega)
  rw [← hN] at this
  exact this
 have hlt : ∀ {j : Nat}, j < N → clsOf ps j < (firstJ ps N).length := fun hj => clsOf_ltN ps hj
 have h256 : ∀ {j : Nat}, j < N → clsOf ps j < 256 := fun {j} hj => clsOf_256 ps (by omega)
 apply Nat.le_antisymm
 ·refine clsD_up (fun c hc => ?_) 256
  obtain ⟨j, hj, rfl⟩ := List.getElem_of_mem hc
  have hj' : j < N := by rw [ctab_length] at hj; omega
  have h1 := hat hj'
  rw [List.getElem?_eq_getElem hj] at h1
  injection h1 with h1
  rw [h1, ofNat_toNat (h256 hj')]
  exact hlt hj'
 ·have hp : 0 < (firstJ ps N).length := Nat.lt_of_le_of_lt (Nat.zero_le _) (hlt (j := 0) (by omega))
  obtain ⟨c, hc⟩ : ∃ c, (firstJ ps N)[(firstJ ps N).length - 1]? = some c := ⟨_, List.getElem?_eq_getElem (by omega)⟩
  have hcN := firstJ_lt ps N c (List.mem_of_getElem? hc)
  obtain ⟨hk, hce⟩ := List.getElem?_eq_some_iff.1 hc
  have h1 : clsOf ps c = (firstJ ps N).length - 1 := (clsOf_is ps N c hcN _ hk).2 (by rw [hce]; exact alikeS_refl _ _)
  have h3 := clsA_lt (by rw [ctab_length]) (hat hcN)
  rw [ofNat_toNat (h256 hcN), h1] at h3
  omega
/-! ### languages -/
abbrev Lang := List UInt8 → Bool
noncomputable instance langDec : DecidableEq Lang := fun _ _ => Classical.propDecidable _
def res (l : Lang) (b : Nat) : Lang := fun w => l (UInt8.ofNat b :: w)
def resW (l : Lang) (u : List UInt8) : Lang := fun w => l (u ++ w)
theorem res_resW (l : Lang) (u : List UInt8) (b : Nat) : res (resW l u) b = resW l (u ++ [UInt8.ofNat b]) := by
 funext w
 unfold res resW
 rw [List.append_assoc]
 rfl
def alL (L : Lang) (b c : Nat) : Prop := ∀ u w, L (u ++ UInt8.ofNat b :: w) = L (u ++ UInt8.ofNat c :: w)
noncomputable def psL (L : Lang) : List (Nat → Bool) := psR (alL L) 256
theorem psL_alike {L : Lang} {a b : Nat} (ha : a < 256) (hb : b < 256) : alikeS (psL L) a b = true ↔ alL L a b :=
 psR_alike ha hb (fun _ _ _ => rfl) (fun _ _ h u w => (h u w).symm) (fun _ _ _ h k u w => (h u w).trans (k u w))
noncomputable def fbL (L : Lang) : List Nat := firstJ (psL L) 256
noncomputable def sucL (L : Lang) (l : Lang) : List Lang := (fbL L).map fun b => res l b
theorem sucL_len (L l : Lang) : (sucL L l).length = (fbL L).length := by simp [sucL]
noncomputable def QL (L : Lang) (r : Nat) : List Lang := Lq (sucL L) L r
def FitL (L : Lang) (n : Nat) : Prop := Fit (sucL L) L n
theorem QL_zero (L : Lang) (n : Nat) : (QL L n)[0]? = some L := Lq_zero n
theorem QL_res (L : Lang) (r : Nat) : ∀ l ∈ QL L r, ∃ u, l = resW L u :=
 Lq_all (p := fun l => ∃ u, l = resW L u) ⟨[], rfl⟩ (fun l hl m hm => by
  obtain ⟨u, rfl⟩ := hl
  obtain ⟨b, _, rfl⟩ := List.mem_map.1 hm
  exact ⟨u ++ [UInt8.ofNat b], res_resW L u b⟩) r
noncomputable def canN (L : Lang) (n : Nat) : Dm := ⟨ctab (psL L) 256, rowsI (sucL L) (QL L n) n, endsI (fun l => l []) (QL L n) n⟩
noncomputable def canD (L : Lang) : Dm := by
 classical exact if h : ∃ n, FitL L n then canN L h.choose else noDm
theorem canD_is {L : Lang} {n : Nat} (h : FitL L n) : canD L = canN L n := by
 have he : ∃ n, FitL L n := ⟨n, h⟩
 unfold canD
 rw [dif_pos he]
 rw [fit_one he.choose_spec h]
theorem clL_first (L : Lang) {b : Nat} (hb : b < 256) : ∃ c, (fbL L)[clsOf (psL L) b]? = some c ∧ c < 256 ∧ alL L c b := by
 have h := clsOf_lt (psL L) hb
 have h1 := (clsOf_is (psL L) 256 b hb (clsOf (psL L) b) h).1 rfl
 have hc := firstJ_lt (psL L) 256 _ (List.getElem_mem h)
 exact ⟨_, List.getElem?_eq_getElem h, hc, (psL_alike hc hb).1 h1⟩
theorem res_alike {L : Lang} {b c : Nat} (h : alL L b c) (u : List UInt8) : res (resW L u) b = res (resW L u) c := by
 funext w
 exact h u w
theorem sucL_cls {L l : Lang} {u : List UInt8} (hl : l = resW L u) {b : Nat} (hb : b < 256) : (sucL L l)[clsOf (psL L) b]? = some (res l b) := by
 obtain ⟨c, h1, _, h2⟩ := clL_first L hb
 unfold sucL
 rw [List.getElem?_map, h1, Option.map_some, hl, res_alike h2]
section
variable {L : Lang} {n : Nat}
theorem canN_len (h : FitL L n) : (canN L n).next.length = n := rowsI_len (Nat.le_of_eq (show (QL L n).length = n from h).symm)
theorem canN_ends (h : FitL L n) : (canN L n).ends.length = n := endsI_len (Nat.le_of_eq (show (QL L n).length = n from h).symm)
theorem canN_clE (L : Lang) (n : Nat) : (canN L n).cl = ctab (psL L) 256 := rfl
theorem canN_cls (L : Lang) (n : Nat) : clsA (canN L n).cl = (fbL L).length := by
 rw [canN_clE]
 exact clsA_ctabN (psL L) 256 rfl
theorem canN_at {i : Nat} {l : Lang} (hl : (QL L n)[i]? = some l) (hi : i < n) : (canN L n).next[i]? = some (rowI (QL L n) (sucL L l)) := by
 show (((QL L n).take n).map fun x => rowI (QL L n) (sucL L x))[i]? = _
 rw [List.getElem?_map, List.getElem?_take_of_lt hi, hl]
 rfl
theorem canN_end {i : Nat} {l : Lang} (hl : (QL L n)[i]? = some l) (hi : i < n) : (canN L n).ends[i]? = some (l []) := by
 show (((QL L n).take n).map fun l : Lang => l [])[i]? = _
 rw [List.getElem?_map, List.getElem?_take_of_lt hi, hl]
 rfl
theorem canN_key {r : List Int} (hr : r ∈ (canN L n).next) : ∃ l ∈ QL L n, r = rowI (QL L n) (sucL L l) := by
 obtain ⟨l, hl, he⟩ := List.mem_map.1 (show r ∈ ((QL L n).take n).map (fun x => rowI (QL L n) (sucL L x)) from hr)
 exact ⟨l, List.mem_of_mem_take hl, he.symm⟩
theorem fitL_pos (h : FitL L n) : 1 ≤ n := by
 have h1 := Lq_pos (f := sucL L) (x0 := L) n
 have h2 : (Lq (sucL L) L n).length = n := h
 omega
theorem canN_may (h : FitL L n) (hn : n ≤ 2000) : MayD (canN L n) := by
 have hl := canN_len h
 refine ⟨by rw [hl]; exact fitL_pos h, by rw [hl]; exact hn, by rw [hl]; exact canN_ends h, fun r hr => ?_, fun r hr x hx => ?_⟩
 ·obtain ⟨l, _, he⟩ := canN_key hr
  rw [he, rowI_len, sucL_len, canN_cls]
 ·obtain ⟨l, hm, he⟩ := canN_key hr
  rw [he] at hx
  obtain ⟨y, hy, he2⟩ := List.mem_map.1 (show x ∈ (sucL L l).map (fun y => (ixOf (QL L n) y : Int)) from hx)
  have h1 := idx_lt (fit_closed (f := sucL L) (x0 := L) h hm y hy)
  rw [hl, ← he2]
  have h2 : (QL L n).length = n := h
  unfold QL at h2 ⊢
  omega
theorem stD_canN (h : FitL L n) {i : Nat} {l : Lang} (hl : (QL L n)[i]? = some l) (b : UInt8) :
  (QL L n)[stD (canN L n) i b]? = some (res l b.toNat) := by
 have hi : i < n := by have h1 := (List.getElem?_eq_some_iff.1 hl).1; rw [show (QL L n).length = n from h] at h1; exact h1
 have hb := b.toNat_lt
 obtain ⟨u, hu⟩ := QL_res L n l (List.mem_of_getElem? hl)
 have hs := sucL_cls hu hb
 have hm : res l b.toNat ∈ QL L n := fit_closed (f := sucL L) (x0 := L) h (List.mem_of_getElem? hl) _ (List.mem_of_getElem? hs)
 have hc : (ctab (psL L) 256).getD b.toNat 0 = UInt8.ofNat (clsOf (psL L) b.toNat) := by
  rw [List.getD_eq_getElem?_getD, ctab_at (psL L) hb]
  rfl
 have e : stD (canN L n) i b = ixOf (QL L n) (res l b.toNat) := by
  unfold stD
  rw [canN_at hl hi, canN_clE, Option.getD_some, hc, ofNat_toNat (clsOf_256 _ hb), List.getD_eq_getElem?_getD]
  have h2 : (rowI (QL L n) (sucL L l))[clsOf (psL L) b.toNat]? = some ((ixOf (QL L n) (res l b.toNat) : Nat) : Int) := by
   unfold rowI
   rw [List.getElem?_map, hs, Option.map_some]
  rw [h2]
  rfl
 rw [e]
 exact idx_get hm
theorem toD_canN (h : FitL L n) : ∀ (w : List UInt8) (i : Nat) (l : Lang), (QL L n)[i]? = some l → (QL L n)[toD (canN L n) i w]? = some (resW l w)
 | [], i, l, hl => hl
 | b :: w, i, l, hl => by
  have h1 := toD_canN h w _ _ (stD_canN h hl b)
  have e : resW (res l b.toNat) w = resW l (b :: w) := by
   funext v
   unfold resW res
   rw [UInt8.ofNat_toNat]
   rfl
  rw [e] at h1
  exact h1
def accD (D : Dm) (s : Nat) : Lang := fun w => D.ends.getD (toD D s w) false
theorem accD_canN (h : FitL L n) {i : Nat} {l : Lang} (hl : (QL L n)[i]? = some l) : accD (canN L n) i = l := by
 funext w
 have h1 := toD_canN h w i l hl
 have hi : toD (canN L n) i w < n := by have h2 := (List.getElem?_eq_some_iff.1 h1).1; rw [show (QL L n).length = n from h] at h2; exact h2
 unfold accD
 rw [List.getD_eq_getElem?_getD, canN_end h1 hi]
 show l (w ++ []) = l w
 rw [List.append_nil]
end
/-! ### the least machine of a machine -/
theorem toD_app (D : Dm) : ∀ (u v : List UInt8) (s : Nat), toD D s (u ++ v) = toD D (toD D s u) v
 | [], _, _ => rfl
 | b :: u, v, s => toD_app D u v (stD D s b)
theorem resW_acc (D : Dm) (s : Nat) (u : List UInt8) : resW (accD D s) u = accD D (toD D s u) := by
 funext w
 unfold resW accD
 rw [toD_app]
noncomputable def lstD (D : Dm) : Dm := canD (accD D 0)
theorem toD_ltA {D : Dm} (h : MayD D) (hl : D.cl.length = 256) : ∀ (w : List UInt8) (s : Nat), s < D.next.length → toD D s w < D.next.length
 | [], _, hs => hs
 | b :: w, s, hs => by
  refine toD_ltA h hl w _ ?_
  obtain ⟨r, hr⟩ : ∃ r, D.next[s]? = some r := ⟨_, List.getElem?_eq_getElem hs⟩
  obtain ⟨c, hc⟩ : ∃ c, D.cl[b.toNat]? = some c := ⟨_, List.getElem?_eq_getElem (by rw [hl]; exact b.toNat_lt)⟩
  have hm := List.mem_of_getElem? hr
  have hk : c.toNat < r.length := by rw [h.rows r hm]; exact clsA_lt hl hc
  obtain ⟨x, hx⟩ : ∃ x, r[c.toNat]? = some x := ⟨_, List.getElem?_eq_getElem hk⟩
  have h2 := h.to r hm x (List.mem_of_getElem? hx)
  have e : stD D s b = x.toNat := by
   unfold stD
   rw [hr, List.getD_eq_getElem?_getD, List.getD_eq_getElem?_getD, hc]
   show (r[c.toNat]?.getD 0).toNat = _
   rw [hx]
   rfl
  rw [e]
  omega
theorem lst_fit {D : Dm} (h : MayD D) (hl : D.cl.length = 256) : ∃ n, n ≤ D.next.length ∧ FitL (accD D 0) n := by
 refine fit_ex fun r => ?_
 have h1 := nodup_sub (Lq (sucL (accD D 0)) (accD D 0) r) ((List.range D.next.length).map fun i => accD D i) (Lq_nodup r) fun l hm => by
  obtain ⟨u, hu⟩ := QL_res (accD D 0) r l hm
  rw [hu, resW_acc]
  exact List.mem_map.2 ⟨_, List.mem_range.2 (toD_ltA h hl u 0 (by have := h.pos; omega)), rfl⟩
 rw [List.length_map, List.length_range] at h1
 exact h1
theorem lst_is {D : Dm} (h : MayD D) (hl : D.cl.length = 256) : ∃ n, n ≤ D.next.length ∧ FitL (accD D 0) n ∧ lstD D = canN (accD D 0) n := by
 obtain ⟨n, h1, h2⟩ := lst_fit h hl
 exact ⟨n, h1, h2, canD_is h2⟩
theorem lst_may {D : Dm} (h : MayD D) (hl : D.cl.length = 256) : MayD (lstD D) := by
 obtain ⟨n, h1, h2, h3⟩ := lst_is h hl
 rw [h3]
 exact canN_may h2 (Nat.le_trans h1 h.few)
theorem lst_acc {D : Dm} (h : MayD D) (hl : D.cl.length = 256) : accD (lstD D) 0 = accD D 0 := by
 obtain ⟨n, _, h2, h3⟩ := lst_is h hl
 rw [h3]
 exact accD_canN h2 (QL_zero _ n)
theorem lst_twice {D : Dm} (h : MayD D) (hl : D.cl.length = 256) : lstD (lstD D) = lstD D := by
 show canD (accD (lstD D) 0) = canD (accD D 0)
 rw [lst_acc h hl]
theorem lst_len {D : Dm} (h : MayD D) (hl : D.cl.length = 256) : (lstD D).next.length ≤ D.next.length := by
 obtain ⟨n, h1, h2, h3⟩ := lst_is h hl
 rw [h3, canN_len h2]
 exact h1
theorem lst_same {D E : Dm} (h : MayD D) (hl : D.cl.length = 256) (h' : MayD E) (hl' : E.cl.length = 256) : lstD D = lstD E ↔ accD D 0 = accD E 0 := by
 constructor
 ·intro e
  rw [← lst_acc h hl, e, lst_acc h' hl']
 ·intro e
  show canD (accD D 0) = canD (accD E 0)
  rw [e]
end Go.Proofs.Ytiehefnbdijiaaa
