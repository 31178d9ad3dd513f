/-
  Texts of this proof, put together: TbB, TbC, RegG, RegT, ThB, PlBa, LgD, LgE. No statement is proved here.
-/
import Derived.Test.YtmcpfaaakmehdaaRM
import Derived.Test.YtmcpfaaakmehdaaRA
import Derived.Test.YtmcpfaaakmehdaaRI
import Derived.Test.YtmcpfaaakmehdaaRL
import Derived.Test.YtmcpfaaakmehdaaRJ
import Derived.Test.YtmcpfaaakmehdaaRK
namespace Go.Proofs.Ytmcpfaaakmehdaa
open Go.RowKit
set_option linter.unusedSimpArgs false
set_option linter.unusedVariables false
inductive WayN (S : List St) : Nat → Nat → List UInt8 → Nat → Prop
 | here {i : Nat} : WayN S 0 i [] i
 | free {m i j k : Nat} {s : St} {w : List UInt8} : S[i]? = some s → (j : Int) ∈ s.free → WayN S m j w k → WayN S (m + 1) i w k
 | byte {m i j k : Nat} {s : St} {b : UInt8} {w : List UInt8} : S[i]? = some s → s.set b.toNat = true → s.to = (j : Int) → WayN S m j w k → WayN S (m + 1) i (b :: w) k
theorem way_n {S : List St} {i k : Nat} {w : List UInt8} (h : Way S i w k) : ∃ m, WayN S m i w k := by
 induction h with
 | here _ => exact ⟨0, .here⟩
 | free a b _ ih => obtain ⟨m, h⟩ := ih; exact ⟨m + 1, .free a b h⟩
 | byte a b c _ ih => obtain ⟨m, h⟩ := ih; exact ⟨m + 1, .byte a b c h⟩
def At (M : List St) (p : Nat) (L : List St) : Prop := ∀ i s, L[i]? = some s → M[p + i]? = some s
theorem At.left {M A B : List St} {p : Nat} (h : At M p (A ++ B)) : At M p A := fun i s hs => h i s (by rw [List.getElem?_append_left (List.getElem?_eq_some_iff.1 hs).1]; exact hs)
theorem At.right {M A B : List St} {p : Nat} (h : At M p (A ++ B)) : At M (p + A.length) B := fun i s hs => by
 rw [Nat.add_assoc]
 refine h (A.length + i) s ?_
 rw [List.getElem?_append_right (by omega), Nat.add_sub_cancel_left]
 exact hs
theorem At.head {M B : List St} {a : St} {p : Nat} (h : At M p (a :: B)) : M[p]? = some a := h 0 a rfl
theorem At.tail {M B : List St} {a : St} {p : Nat} (h : At M p (a :: B)) : At M (p + 1) B := fun i s hs => by
 have := h (i + 1) s (by simpa using hs)
 rwa [show p + (i + 1) = p + 1 + i from by omega] at this
theorem WayN.out {M : List St} {m i k : Nat} {w : List UInt8} {l : List Int} (h : WayN M m i w k) (hi : M[i]? = some (stF l)) (hk : k ≠ i) : ∃ (j m' : Nat), (j : Int) ∈ l ∧ m = m' + 1 ∧ WayN M m' j w k := by
 cases h with
 | here => exact absurd rfl hk
 | free a b c =>
  rw [hi] at a
  injection a with a
  subst a
  exact ⟨_, _, b, rfl, c⟩
 | byte a b c d =>
  rw [hi] at a
  injection a with a
  subst a
  cases b
theorem fragT_end {M : List St} {t : T} {n : Nat} {c : List Int} (h : At M n (fragT t n c)) : M[n + 1]? = some (stF c) := by
 obtain ⟨s, r, he⟩ := fragT_ends t n
 rw [he] at h
 exact h 1 _ rfl
theorem plainT_parts {k : Int} {s : Nat → Bool} {l : List T} (h : plainT (.node k s l) = true) : ∀ x ∈ l, plainT x = true := by
 simp only [plainT, Bool.and_eq_true] at h
 exact fun x hx => (plainL_iff.1 h.1.2 x hx).2
theorem plainT_star {s : Nat → Bool} {l : List T} (h : plainT (.node 6 s l) = true) : ∃ x, l = [x] := by
 simp only [plainT, Bool.and_eq_true, countT] at h
 have : l.length = 1 := by
  have h2 := h.1.1.2
  simpa using h2
 match l, this with
 | [x], _ => exact ⟨x, rfl⟩
theorem plainT_kind {k : Int} {s : Nat → Bool} {l : List T} (h : plainT (.node k s l) = true) : k = 1 ∨ k = 2 ∨ k = 3 ∨ k = 4 ∨ k = 5 ∨ k = 6 := by
 simp only [plainT, Bool.and_eq_true, countT] at h
 have h2 := h.1.1.2
 by_cases h3 : k = 3
 ·omega
 ·by_cases h1 : k = 1 ∨ k = 2
  ·omega
  ·by_cases h4 : k = 4 ∨ k = 5
   ·omega
   ·rw [if_neg h3, if_neg h1, if_neg h4] at h2
    have : k = 6 := by
     simp at h2
     exact h2.1
    omega
mutual
theorem snd_T (M : List St) : ∀ (t : T) (n : Nat) (c : List Int), plainT t = true → At M n (fragT t n c) → ∀ (m : Nat) (w : List UInt8) (k : Nat), WayN M m n w k → (k < n ∨ n + szT t ≤ k ∨ k = n + 1) →
  ∃ (u v : List UInt8) (m' : Nat), m' < m ∧ w = u ++ v ∧ Lg t u ∧ WayN M m' (n + 1) v k
 | .node k s l, n, c, hp, hM, m, w, q, hw, hq => by
  have hsz := szT_two (.node k s l)
  have hqn : q ≠ n := by omega
  have hpp := plainT_parts hp
  have hkk := plainT_kind hp
  simp only [fragT] at hM
  by_cases h3 : k = 3
  ·rw [if_pos h3] at hM
   have h0 := hM.head
   cases hw with
   | here => exact absurd rfl hqn
   | free a b d => rw [h0] at a; injection a with a; subst a; cases b
   | byte a b d e =>
    rw [h0] at a
    injection a with a
    subst a
    refine ⟨[_], _, _, Nat.lt_succ_self _, rfl, ?_, ?_⟩
    ·exact (lg_k3 (t := .node k s l) h3 _).2 ⟨_, rfl, b⟩
    ·have : n + 1 = _ := Int.ofNat.inj d
     rw [this]
     exact e
  rw [if_neg h3] at hM
  by_cases h4 : k = 4
  ·subst h4
   rw [if_pos rfl] at hM
   obtain ⟨j, m', hj, rfl, hw'⟩ := hw.out hM.head hqn
   have hj := List.mem_singleton.1 hj
   cases l with
   | nil =>
    simp only [List.length_nil, if_true] at hj
    have : j = n + 1 := by omega
    subst this
    exact ⟨[], w, m', by omega, rfl, lg_cat.2 (by simp [LgC]), hw'⟩
   | cons x r =>
    simp only [List.length_cons, Nat.succ_ne_zero, if_false] at hj
    have : j = n + 2 := by omega
    subst this
    obtain ⟨u, v, m2, h1, h2, h5, h6⟩ := snd_C M (x :: r) (n + 2) (n + 1) hpp (by simp) hM.tail.tail m' w q hw' (by simp only [szT, if_pos] at hq; omega)
    exact ⟨u, v, m2, by omega, h2, lg_cat.2 h5, h6⟩
  rw [if_neg h4] at hM
  by_cases h5 : k = 5
  ·subst h5
   rw [if_pos rfl] at hM
   obtain ⟨u, v, m2, h1, h2, h7, h6⟩ := snd_A M l (n + 2) (n + 1) n hpp hM.head hM.tail.tail m w q hw hqn (by simp [szT] at hq; omega)
   exact ⟨u, v, m2, by omega, h2, lg_alt.2 h7, h6⟩
  rw [if_neg h5] at hM
  by_cases h6 : k = 6
  ·subst h6
   rw [if_pos rfl] at hM
   obtain ⟨x, rfl⟩ := plainT_star hp
   have hx := hpp x (by simp)
   simp only [List.length_cons, List.length_nil, fragO] at hM
   have h0 : M[n]? = some (stF [((n + 2 : Nat) : Int), ((n + 1 : Nat) : Int)]) := by simpa using hM.head
   have hB := hM.tail.tail
   have hend := fragT_end hB
   have hsx : szT (.node 6 s [x]) = 2 + szT x := by simp [szT, szO]
   have key : ∀ (N m : Nat) (w : List UInt8), m ≤ N → WayN M m n w q → ∃ (u v : List UInt8) (m' : Nat), m' < m ∧ w = u ++ v ∧ StarL (LgO [x]) u ∧ WayN M m' (n + 1) v q := by
    intro N
    induction N with
    | zero =>
     intro m w hm hw
     obtain ⟨j, m', _, rfl, _⟩ := hw.out h0 hqn
     omega
    | succ N ih =>
     intro m w hm hw
     obtain ⟨j, m', hj, rfl, hw'⟩ := hw.out h0 hqn
     simp only [List.mem_cons, List.mem_nil_iff, or_false] at hj
     rcases hj with hj | hj
     ·have : j = n + 2 := by omega
      subst this
      obtain ⟨u, v, m2, a1, a2, a3, a4⟩ := snd_T M x (n + 2) _ hx hB m' w q hw' (by rw [hsx] at hq; omega)
      obtain ⟨j2, m3, b1, rfl, b2⟩ := a4.out hend (by have := szT_two x; rw [hsx] at hq; omega)
      have b1 := List.mem_singleton.1 b1
      have : j2 = n := by omega
      subst this
      obtain ⟨u2, v2, m4, c1, c2, c3, c4⟩ := ih m3 v (by omega) b2
      exact ⟨u ++ u2, v2, m4, by omega, by rw [a2, c2, List.append_assoc], .app (by simp [LgO]; exact a3) c3, c4⟩
     ·have : j = n + 1 := by omega
      subst this
      exact ⟨[], w, m', by omega, rfl, .nil, hw'⟩
   obtain ⟨u, v, m', a1, a2, a3, a4⟩ := key m m w (Nat.le_refl _) hw
   exact ⟨u, v, m', a1, a2, lg_star.2 a3, a4⟩
  rw [if_neg h6] at hM
  by_cases h2 : k = 2
  ·subst h2
   rw [if_pos rfl] at hM
   obtain ⟨j, m', hj, rfl, hw'⟩ := hw.out hM.head hqn
   have hj := List.mem_singleton.1 hj
   have : j = n + 1 := by omega
   subst this
   exact ⟨[], w, m', by omega, rfl, (lg_k2 rfl _).2 rfl, hw'⟩
  ·rw [if_neg h2] at hM
   obtain ⟨j, m', hj, _, _⟩ := hw.out hM.head hqn
   cases hj
theorem snd_C (M : List St) : ∀ (l : List T) (p z : Nat), (∀ x ∈ l, plainT x = true) → l ≠ [] → At M p (fragC l p z) → ∀ (m : Nat) (w : List UInt8) (k : Nat), WayN M m p w k → (k < p ∨ p + szC l ≤ k) →
  ∃ (u v : List UInt8) (m' : Nat), m' < m ∧ w = u ++ v ∧ LgC l u ∧ WayN M m' z v k
 | [], _, _, _, h, _, _, _, _, _, _ => absurd rfl h
 | x :: r, p, z, hp, _, hM, m, w, k, hw, hk => by
  simp only [fragC] at hM
  simp only [szC] at hk
  have hA := hM.left
  have hend := fragT_end hA
  obtain ⟨u, v, m2, a1, a2, a3, a4⟩ := snd_T M x p _ (hp x (by simp)) hA m w k hw (by omega)
  obtain ⟨j, m3, b1, rfl, b2⟩ := a4.out hend (by have := szT_two x; omega)
  have b1 := List.mem_singleton.1 b1
  by_cases h0 : r.length = 0
  ·have hr : r = [] := List.eq_nil_of_length_eq_zero h0
   subst hr
   simp only [List.length_nil, if_true] at b1
   have : j = z := by omega
   subst this
   exact ⟨u, v, m3, by omega, a2, (lgC_one x u).2 a3, b2⟩
  ·rw [if_neg h0] at b1
   have : j = p + szT x := by omega
   subst this
   have hB := hM.right
   rw [fragT_len] at hB
   obtain ⟨u2, v2, m4, c1, c2, c3, c4⟩ := snd_C M r (p + szT x) z (fun y hy => hp y (by simp [hy])) (fun h => h0 (by rw [h]; rfl)) hB m3 v k b2 (by omega)
   exact ⟨u ++ u2, v2, m4, by omega, by rw [a2, c2, List.append_assoc], ⟨u, u2, rfl, a3, c3⟩, c4⟩
theorem snd_A (M : List St) : ∀ (l : List T) (p z q : Nat), (∀ x ∈ l, plainT x = true) → M[q]? = some (stF (altL l p)) → At M p (fragA l p z) → ∀ (m : Nat) (w : List UInt8) (k : Nat), WayN M m q w k → k ≠ q → (k < p ∨ p + szA l ≤ k) →
  ∃ (u v : List UInt8) (m' : Nat), m' < m ∧ w = u ++ v ∧ LgA l u ∧ WayN M m' z v k
 | [], p, z, q, _, hq, _, m, w, k, hw, hkq, _ => by
  obtain ⟨j, m', hj, _, _⟩ := hw.out hq hkq
  cases hj
 | x :: r, p, z, q, hp, hq, hM, m, w, k, hw, hkq, hk => by
  simp only [fragA] at hM
  simp only [szA] at hk
  rw [altL_cons] at hq
  have hA := hM.left
  have hend := fragT_end hA
  obtain ⟨j, m1, hj, rfl, hw1⟩ := hw.out hq hkq
  rcases List.mem_cons.1 hj with hj | hj
  ·have : j = p := by omega
   subst this
   obtain ⟨u, v, m2, a1, a2, a3, a4⟩ := snd_T M x j _ (hp x (by simp)) hA m1 w k hw1 (by omega)
   obtain ⟨j2, m3, b1, rfl, b2⟩ := a4.out hend (by have := szT_two x; omega)
   have b1 := List.mem_singleton.1 b1
   have : j2 = z := by omega
   subst this
   exact ⟨u, v, m3, by omega, a2, .inl a3, b2⟩
  ·by_cases h0 : r.length = 0
   ·rw [if_pos h0] at hj; cases hj
   ·rw [if_neg h0] at hj hM hk
    have hj := List.mem_singleton.1 hj
    have : j = p + szT x := by omega
    subst this
    have hB := hM.right
    rw [fragT_len] at hB
    obtain ⟨u2, v2, m4, c1, c2, c3, c4⟩ := snd_A M r (p + szT x + 1) z (p + szT x) (fun y hy => hp y (by simp [hy])) hB.head hB.tail m1 w k hw1 (by omega) (by omega)
    exact ⟨u2, v2, m4, by omega, c2, .inr c3, c4⟩
end
mutual
theorem cmp_T (M : List St) : ∀ (t : T) (n : Nat) (c : List Int), plainT t = true → At M n (fragT t n c) → ∀ (u : List UInt8), Lg t u → Way M n u (n + 1)
 | .node k s l, n, c, hp, hM, u, hu => by
  have hE := fragT_end hM
  have hn1 : n + 1 < M.length := (List.getElem?_eq_some_iff.1 hE).1
  have hpp := plainT_parts hp
  have hkk := plainT_kind hp
  simp only [fragT] at hM
  by_cases h3 : k = 3
  ·rw [if_pos h3] at hM
   obtain ⟨b, rfl, hb⟩ := (lg_k3 (t := .node k s l) h3 _).1 hu
   exact .byte hM.head hb rfl (.here hn1)
  rw [if_neg h3] at hM
  by_cases h4 : k = 4
  ·subst h4
   rw [if_pos rfl] at hM
   have hu := lg_cat.1 hu
   cases l with
   | nil =>
    simp only [LgC] at hu
    subst hu
    exact .free (j := n + 1) hM.head (by simp [stF]) (.here hn1)
   | cons x r =>
    exact .free (j := n + 2) hM.head (by simp [stF]) (cmp_C M (x :: r) (n + 2) (n + 1) hpp (by simp) hn1 hM.tail.tail u hu)
  rw [if_neg h4] at hM
  by_cases h5 : k = 5
  ·subst h5
   rw [if_pos rfl] at hM
   exact cmp_A M l (n + 2) (n + 1) n hpp hM.head hn1 hM.tail.tail u (lg_alt.1 hu)
  rw [if_neg h5] at hM
  by_cases h6 : k = 6
  ·subst h6
   rw [if_pos rfl] at hM
   obtain ⟨x, rfl⟩ := plainT_star hp
   have hx := hpp x (by simp)
   simp only [List.length_cons, List.length_nil, fragO] at hM
   have h0 : M[n]? = some (stF [((n + 2 : Nat) : Int), ((n + 1 : Nat) : Int)]) := by simpa using hM.head
   have hn : n < M.length := (List.getElem?_eq_some_iff.1 h0).1
   have hB := hM.tail.tail
   have hend := fragT_end hB
   have hu2 := lg_star.1 hu
   clear hu
   induction hu2 with
   | nil => exact .free (j := n + 1) h0 (by simp [stF]) (.here hn1)
   | @app a b ha _ ih =>
    have ha : Lg x a := by simpa [LgO] using ha
    have hw := cmp_T M x (n + 2) _ hx hB a ha
    have h1 := hw.app (.free (j := n) hend (by simp [stF]) ih)
    exact .free (j := n + 2) h0 (by simp [stF]) h1
  rw [if_neg h6] at hM
  by_cases h2 : k = 2
  ·subst h2
   rw [if_pos rfl] at hM
   have hu := (lg_k2 rfl _).1 hu
   subst hu
   exact .free (j := n + 1) hM.head (by simp [stF]) (.here hn1)
  ·have : k = 1 := by omega
   exact absurd hu (lg_k1 (t := .node k s l) this _)
theorem cmp_C (M : List St) : ∀ (l : List T) (p z : Nat), (∀ x ∈ l, plainT x = true) → l ≠ [] → z < M.length → At M p (fragC l p z) → ∀ (u : List UInt8), LgC l u → Way M p u z
 | [], _, _, _, h, _, _, _, _ => absurd rfl h
 | x :: r, p, z, hp, _, hz, hM, w, hw => by
  simp only [fragC] at hM
  have hA := hM.left
  have hend := fragT_end hA
  obtain ⟨u, v, rfl, h1, h2⟩ := hw
  have hwx := cmp_T M x p _ (hp x (by simp)) hA u h1
  by_cases h0 : r.length = 0
  ·have hr : r = [] := List.eq_nil_of_length_eq_zero h0
   subst hr
   simp only [LgC] at h2
   subst h2
   simp only [List.length_nil, if_true] at hend
   exact hwx.app (.free (j := z) hend (by simp [stF]) (.here hz))
  ·rw [if_neg h0] at hend
   have hB := hM.right
   rw [fragT_len] at hB
   exact hwx.app (.free (j := p + szT x) hend (by simp [stF]) (cmp_C M r (p + szT x) z (fun y hy => hp y (by simp [hy])) (fun h => h0 (by rw [h]; rfl)) hz hB v h2))
theorem cmp_A (M : List St) : ∀ (l : List T) (p z q : Nat), (∀ x ∈ l, plainT x = true) → M[q]? = some (stF (altL l p)) → z < M.length → At M p (fragA l p z) → ∀ (u : List UInt8), LgA l u → Way M q u z
 | [], _, _, _, _, _, _, _, _, hu => by cases hu
 | x :: r, p, z, q, hp, hq, hz, hM, u, hu => by
  simp only [fragA] at hM
  rw [altL_cons] at hq
  have hA := hM.left
  have hend := fragT_end hA
  rcases hu with hu | hu
  ·have hwx := cmp_T M x p _ (hp x (by simp)) hA u hu
   have h1 := hwx.app (.free (j := z) hend (by simp [stF]) (.here hz))
   rw [List.append_nil] at h1
   exact .free (j := p) hq (by simp [stF]) h1
  ·have h0 : ¬ r.length = 0 := fun h => by
    have : r = [] := List.eq_nil_of_length_eq_zero h
    subst this
    exact hu
   rw [if_neg h0] at hq hM
   have hB := hM.right
   rw [fragT_len] at hB
   exact .free (j := p + szT x) hq (by simp [stF]) (cmp_A M r (p + szT x + 1) z (p + szT x) (fun y hy => hp y (by simp [hy])) hB.head hz hB.tail u hu)
end
theorem frag_run {t : T} (hp : plainT t = true) (w : List UInt8) : Way (fragT t 0 []) 0 w 1 ↔ Lg t w := by
 have hM : At (fragT t 0 []) 0 (fragT t 0 []) := fun i s h => by rw [Nat.zero_add]; exact h
 constructor
 ·intro h
  obtain ⟨m, h⟩ := way_n h
  obtain ⟨u, v, m', _, rfl, h2, h3⟩ := snd_T _ t 0 [] hp hM m w 1 h (.inr (.inr rfl))
  have hE := fragT_end hM
  have : v = [] := by
   cases h3 with
   | here => rfl
   | free a b _ => rw [hE] at a; injection a with a; subst a; cases b
   | byte a b _ _ => rw [hE] at a; injection a with a; subst a; cases b
  subst this
  rw [List.append_nil]
  exact h2
 ·exact cmp_T _ t 0 [] hp hM w
mutual
theorem szT_nodes : ∀ t : T, szT t + 1 ≤ 3 * t.nodes
 | .node k s l => by
  have h1 := szC_nodes l
  have h2 := szA_nodes l
  have h3 := szO_nodes l
  simp only [szT, T.nodes]
  split
  ·omega
  ·split
   ·omega
   ·split <;> omega
theorem szC_nodes : ∀ l : List T, szC l ≤ 3 * nodesL l
 | [] => Nat.le_refl _
 | x :: r => by
  have h1 := szT_nodes x
  have h2 := szC_nodes r
  simp only [szC, nodesL]
  omega
theorem szA_nodes : ∀ l : List T, szA l ≤ 3 * nodesL l ∧ (l.length ≠ 0 → szA l + 1 ≤ 3 * nodesL l)
 | [] => ⟨Nat.le_refl _, fun h => absurd rfl h⟩
 | x :: r => by
  have h1 := szT_nodes x
  have h2 := szA_nodes r
  simp only [szA, nodesL]
  split
  ·omega
  ·next h => have := h2.2 h; omega
theorem szO_nodes : ∀ l : List T, szO l ≤ 3 * nodesL l
 | [] => Nat.le_refl _
 | x :: r => by
  have h1 := szT_nodes x
  simp only [szO, nodesL]
  omega
end
def OkF (hi : Nat) (L : List St) : Prop := ∀ s ∈ L, s.to < (hi : Int) ∧ s.free.length ≤ 2 ∧ ∀ f ∈ s.free, 0 ≤ f ∧ f < (hi : Int)
theorem OkF.cons {hi : Nat} {a : St} {L : List St} (h1 : a.to < (hi : Int) ∧ a.free.length ≤ 2 ∧ ∀ f ∈ a.free, 0 ≤ f ∧ f < (hi : Int)) (h2 : OkF hi L) : OkF hi (a :: L) := fun s hs => by
 rcases List.mem_cons.1 hs with rfl | hs
 ·exact h1
 ·exact h2 s hs
theorem OkF.nil (hi : Nat) : OkF hi [] := fun s hs => by cases hs
theorem OkF.app {hi : Nat} {A B : List St} (h1 : OkF hi A) (h2 : OkF hi B) : OkF hi (A ++ B) := fun s hs => by
 rcases List.mem_append.1 hs with hs | hs
 ·exact h1 s hs
 ·exact h2 s hs
theorem ok_stF {hi : Nat} {l : List Int} (h1 : l.length ≤ 2) (h2 : ∀ f ∈ l, 0 ≤ f ∧ f < (hi : Int)) : (stF l).to < (hi : Int) ∧ (stF l).free.length ≤ 2 ∧ ∀ f ∈ (stF l).free, 0 ≤ f ∧ f < (hi : Int) := ⟨by show (-1 : Int) < hi; omega, h1, h2⟩
theorem altL_ok {hi : Nat} : ∀ {l : List T} {p : Nat}, p + szA l ≤ hi → (altL l p).length ≤ 2 ∧ ∀ f ∈ altL l p, 0 ≤ f ∧ f < (hi : Int)
 | [], p, _ => ⟨Nat.zero_le _, fun f hf => by cases hf⟩
 | x :: r, p, h => by
  have h2 := szT_two x
  rw [altL_cons]
  simp only [szA] at h
  split
  ·refine ⟨by simp, fun f hf => ?_⟩
   obtain rfl := List.mem_singleton.1 hf
   omega
  ·next h0 =>
   rw [if_neg h0] at h
   refine ⟨by simp, fun f hf => ?_⟩
   rcases List.mem_cons.1 hf with rfl | hf
   ·omega
   ·obtain rfl := List.mem_singleton.1 hf
    omega
mutual
theorem fragT_ok (hi : Nat) : ∀ (t : T) (n : Nat) (c : List Int), n + szT t ≤ hi → c.length ≤ 2 → (∀ f ∈ c, 0 ≤ f ∧ f < (hi : Int)) → OkF hi (fragT t n c)
 | .node k s l, n, c, h, hc1, hc2 => by
  have hsz := szT_two (.node k s l)
  have hc := ok_stF hc1 hc2
  have one : ∀ x : Nat, x < hi → ((stF [(x : Int)]).to < (hi : Int) ∧ (stF [(x : Int)]).free.length ≤ 2 ∧ ∀ f ∈ (stF [(x : Int)]).free, 0 ≤ f ∧ f < (hi : Int)) := fun x hx => ok_stF (by simp) fun f hf => by
   obtain rfl := List.mem_singleton.1 hf
   omega
  simp only [fragT]
  by_cases h3 : k = 3
  ·rw [if_pos h3]
   exact OkF.cons ⟨by show ((n + 1 : Nat) : Int) < hi; omega, Nat.zero_le _, fun f hf => by cases hf⟩ (OkF.cons hc (OkF.nil hi))
  rw [if_neg h3]
  by_cases h4 : k = 4
  ·subst h4
   simp only [szT, if_true] at h
   rw [if_pos rfl]
   refine OkF.cons ?_ (OkF.cons hc (fragC_ok hi l (n + 2) (n + 1) (by omega) (by omega)))
   split
   ·exact one (n + 1) (by omega)
   ·next h0 =>
    refine one (n + 2) ?_
    cases l with
    | nil => exact absurd rfl h0
    | cons x r => have := szT_two x; simp only [szC] at h; omega
  rw [if_neg h4]
  by_cases h5 : k = 5
  ·subst h5
   rw [if_pos rfl]
   have h' : n + 2 + szA l ≤ hi := by simp [szT] at h; omega
   have ha := altL_ok h'
   exact OkF.cons (ok_stF ha.1 ha.2) (OkF.cons hc (fragA_ok hi l (n + 2) (n + 1) h' (by omega)))
  rw [if_neg h5]
  by_cases h6 : k = 6
  ·subst h6
   rw [if_pos rfl]
   have h' : n + 2 + szO l ≤ hi := by simp [szT] at h; omega
   refine OkF.cons (ok_stF ?_ fun f hf => ?_) (OkF.cons hc (fragO_ok hi l (n + 2) n h' (by omega)))
   ·split <;> simp
   ·rcases List.mem_append.1 hf with hf | hf
    ·split at hf
     ·cases hf
     ·next h0 =>
      obtain rfl := List.mem_singleton.1 hf
      cases l with
      | nil => exact absurd rfl h0
      | cons x r => have := szT_two x; simp only [szO] at h'; omega
    ·obtain rfl := List.mem_singleton.1 hf
     omega
  rw [if_neg h6]
  by_cases h2 : k = 2
  ·rw [if_pos h2]
   exact OkF.cons (one (n + 1) (by omega)) (OkF.cons hc (OkF.nil hi))
  ·rw [if_neg h2]
   exact OkF.cons (ok_stF (by simp) fun f hf => by cases hf) (OkF.cons hc (OkF.nil hi))
theorem fragC_ok (hi : Nat) : ∀ (l : List T) (p z : Nat), p + szC l ≤ hi → z < hi → OkF hi (fragC l p z)
 | [], _, _, _, _ => OkF.nil hi
 | x :: r, p, z, h, hz => by
  simp only [szC] at h
  simp only [fragC]
  refine (fragT_ok hi x p _ (by omega) (by simp) fun f hf => ?_).app (fragC_ok hi r (p + szT x) z (by omega) hz)
  obtain rfl := List.mem_singleton.1 hf
  split
  ·omega
  ·next h0 =>
   cases r with
   | nil => exact absurd rfl h0
   | cons y q => have := szT_two y; simp only [szC] at h; omega
theorem fragA_ok (hi : Nat) : ∀ (l : List T) (p z : Nat), p + szA l ≤ hi → z < hi → OkF hi (fragA l p z)
 | [], _, _, _, _ => OkF.nil hi
 | x :: r, p, z, h, hz => by
  simp only [szA] at h
  simp only [fragA]
  refine (fragT_ok hi x p _ (by omega) (by simp) fun f hf => ?_).app ?_
  ·obtain rfl := List.mem_singleton.1 hf
   omega
  ·split
   ·exact OkF.nil hi
   ·next h0 =>
    rw [if_neg h0] at h
    have ha := altL_ok (hi := hi) (l := r) (p := p + szT x + 1) (by omega)
    exact OkF.cons (ok_stF ha.1 ha.2) (fragA_ok hi r (p + szT x + 1) z (by omega) hz)
theorem fragO_ok (hi : Nat) : ∀ (l : List T) (p z : Nat), p + szO l ≤ hi → z < hi → OkF hi (fragO l p z)
 | [], _, _, _, _ => OkF.nil hi
 | x :: r, p, z, h, hz => by
  simp only [szO] at h
  simp only [fragO]
  refine fragT_ok hi x p _ (by omega) (by simp) fun f hf => ?_
  obtain rfl := List.mem_singleton.1 hf
  omega
end
theorem frag_may {t : T} (h : t.nodes ≤ 400) : MayN (fragT t 0 []) 0 1 := by
 have hl := fragT_len t 0 []
 have h2 := szT_two t
 have h3 := szT_nodes t
 have hok := fragT_ok (fragT t 0 []).length t 0 [] (by rw [hl]; omega) (by simp) (fun f hf => by cases hf)
 exact ⟨by omega, by omega, by omega, by omega, by omega, fun s hs => (hok s hs).1, fun s hs => by have := (hok s hs).2.1; omega, fun s hs => (hok s hs).2.2⟩
theorem frag_runB {t : T} (h : t.nodes ≤ 400) (hp : plainT t = true) (w : List UInt8) : runN (fragT t 0 []) 0 1 w = true ↔ Lg t w := by
 have := runN_iff (S := fragT t 0 []) (a := 0) (z := 1) (w := w)
 rw [← frag_run hp w]
 exact this
section
variable {P : Program} {ops : Array Oper} {Q : Exit → Act → World → Prop} {md : Region.Mode} {S : World → Prop}
theorem sg_take {i : Nat} {oi : Oper} {v : Value} {fuel : Nat} {listed : Array Bool} {a : Act} {w : World} (hi : ops[i]? = some oi)
  (hs : Region.noSelect ops = true) (hf : Region.free md ops listed i = true) (hr : (Region.ready md ops listed).contains i = true)
  (hQ : ∀ c a w, Q (.panic c) (a.put oi.dst v) w → Q (.panic c) a w) (hw : Region.wanted oi (yielded ops a.tmps) = true) (hS : S w)
  (hy : ∀ W, S W → (execOp a.eval oi).run P W = .ok (.value v) W)
  (h : wpAnyH P md ops Q S fuel (listed.setIfInBounds i true) (a.put oi.dst v) w) : wpAnyH P md ops Q S (fuel + 1) listed a w :=
 wpAnyH_take hi hs hf hr hQ (.inl ⟨hw, hy⟩) hS h
theorem sg_skip {i : Nat} {oi : Oper} {fuel : Nat} {listed : Array Bool} {a : Act} {w : World} (hi : ops[i]? = some oi)
  (hs : Region.noSelect ops = true) (hf : Region.free md ops listed i = true) (hr : (Region.ready md ops listed).contains i = true)
  (hQ : ∀ c a w, Q (.panic c) (a.put oi.dst undef) w → Q (.panic c) a w) (hw : Region.wanted oi (yielded ops a.tmps) = false) (hS : S w)
  (h : wpAnyH P md ops Q S fuel (listed.setIfInBounds i true) (a.put oi.dst undef) w) : wpAnyH P md ops Q S (fuel + 1) listed a w :=
 wpAnyH_take hi hs hf hr hQ (.inr ⟨hw, rfl⟩) hS h
theorem sg_actB {i : Nat} {o : Oper} {fuel : Nat} {listed : Array Bool} {a : Act} {w : World} (hi : ops[i]? = some o) (hr : Region.ready md ops listed = [i])
  (hw : Region.wanted o (yielded ops a.tmps) = true) (hS : S w)
  (h : ∀ K : Act → World → Prop, (∀ a' w', S w' → wpAnyH P md ops Q S fuel (listed.setIfInBounds i true) a' w' → K a' w') → o.wp P a w K Q) :
  wpAnyH P md ops Q S (fuel + 1) listed a w := by
 refine wpAnyH_all hr (by simp) (fun j hj => ?_)
 have hji : j = i := by simpa using hj
 subst hji
 unfold wpOp
 rw [hi]
 simp only [hw, if_true]
 exact .inl (h _ fun a' w' hx hk => ⟨hx, hk⟩)
theorem sg_start {id : Nat} {a : Act} {w : World} (S : World → Prop) (hm : P.follows .mixedOrders = true) (hS : S w.drew)
  (h : ∀ wd, wd = w.drew → wpAnyH P .any ops Q S ops.size (Array.replicate ops.size false) a wd) : (Code.region id ops true).wp P Q a w :=
 wp_region_held_drew hm hS (fun _ => h _ rfl)
end
section
variable {P : Program} {ops : Array Oper} {Q : Exit → Act → World → Prop} {md : Region.Mode} {S : World → Prop}
theorem sg_two {i j : Nat} {oi oj : Oper} {fuel : Nat} {listed : Array Bool} {a : Act} {w : World} (hi : ops[i]? = some oi) (hj : ops[j]? = some oj) (hr : Region.ready md ops listed = [i, j])
  (hwi : Region.wanted oi (yielded ops a.tmps) = true) (hwj : Region.wanted oj (yielded ops a.tmps) = true) (hS : S w)
  (h1 : ∀ K : Act → World → Prop, (∀ a' w', S w' → wpAnyH P md ops Q S fuel (listed.setIfInBounds i true) a' w' → K a' w') → oi.wp P a w K Q)
  (h2 : ∀ K : Act → World → Prop, (∀ a' w', S w' → wpAnyH P md ops Q S fuel (listed.setIfInBounds j true) a' w' → K a' w') → oj.wp P a w K Q) :
  wpAnyH P md ops Q S (fuel + 1) listed a w := by
 refine wpAnyH_all hr (by simp) (fun k hk => ?_)
 have hk2 : k = i ∨ k = j := by simpa using hk
 unfold wpOp
 rcases hk2 with rfl | rfl
 ·rw [hi]
  simp only [hwi, if_true]
  exact .inl (h1 _ fun a' w' hx hk => ⟨hx, hk⟩)
 ·rw [hj]
  simp only [hwj, if_true]
  exact .inl (h2 _ fun a' w' hx hk => ⟨hx, hk⟩)
end
theorem grown_start (w : World) (r : Option Nat) : w.grownBy w.drew r := ⟨rfl, rfl, rfl, Nat.le_refl _, fun _ _ _ => rfl⟩
theorem grown_cell {w W : World} {r : Option Nat} (h : w.grownBy W r) {b o : Nat} {v : Value} (hb : b < w.heap.size) (hr : some b ≠ r) (hc : w.cell? ⟨b, o, none⟩ = some v) : W.cell? ⟨b, o, none⟩ = some v := by
 have := h.block b hb hr
 unfold World.cell? at hc ⊢
 simp only [this]
 exact hc
theorem grown_then {w W W' : World} {r : Option Nat} (h : w.grownBy W r) (hb : Below W.heap.size W W') : w.grownBy W' r :=
 ⟨hb.os.trans h.os, hb.tape.trans h.tape, hb.output.trans h.output, Nat.le_trans h.size hb.size, fun k hk hne => (hb.block k (Nat.lt_of_lt_of_le hk h.size)).trans (h.block k hk hne)⟩
def stc (s : St) (v : Value) : List Value := wds s.set ++ [.int .i64 s.to, v]
theorem stc_len (s : St) (v : Value) : (stc s v).length = 6 := rfl
theorem stc_one (s : St) (A : Option Addr) (n c : Nat) : (stc s (.slice A n c)).all (·.oneCell') = true := rfl
def NfaV (w : World) (cs : List Value) (S : List St) (a z : Int) : Prop :=
 ∃ (A : Option Addr) (cap : Nat) (vf : Nat → Value), cs = [.slice A S.length cap, .int .i64 a, .int .i64 z] ∧ S.length ≤ cap ∧ cap ≤ maxLen ∧ (A = none → cap = 0) ∧
  (S ≠ [] → ∃ b off, A = some ⟨b, off, none⟩ ∧ b < w.heap.size ∧ ∀ i s, S[i]? = some s → w.rangeAt b (off + i * 6) (stc s (vf i))) ∧
  ∀ i s, S[i]? = some s → Row w (vf i) (ints s.free)
theorem NfaV.length {w : World} {cs : List Value} {S : List St} {a z : Int} (h : NfaV w cs S a z) : cs.length = 3 := by
 obtain ⟨_, _, _, rfl, _⟩ := h
 rfl
theorem NfaV.one {w : World} {cs : List Value} {S : List St} {a z : Int} (h : NfaV w cs S a z) : cs.all (·.oneCell') = true := by
 obtain ⟨_, _, _, rfl, _⟩ := h
 rfl
theorem NfaV.below {w w' : World} {cs : List Value} {S : List St} {a z : Int} (h : NfaV w cs S a z) (hb : Below w.heap.size w w') : NfaV w' cs S a z := by
 obtain ⟨A, cap, vf, h1, h2, h3, h0, h4, h5⟩ := h
 refine ⟨A, cap, vf, h1, h2, h3, h0, fun hne => ?_, fun i s hs => (h5 i s hs).below hb⟩
 obtain ⟨b, off, hA, hlt, hr⟩ := h4 hne
 exact ⟨b, off, hA, Nat.lt_of_lt_of_le hlt hb.size, fun i s hs => range_below (hr i s hs) hb hlt⟩
theorem NfaV.at_ {w : World} {A : Option Addr} {cap n : Nat} {a z : Int} {S : List St} (h : NfaV w [.slice A n cap, .int .i64 a, .int .i64 z] S a z) {i : Nat} {s : St} (hs : S[i]? = some s) :
  ∃ b off, A = some ⟨b, off, none⟩ ∧ b < w.heap.size ∧ w.rangeAt b (off + i * 6) (wds s.set) ∧ w.cell? ⟨b, off + i * 6 + 4, none⟩ = some (.int .i64 s.to) ∧
   ∃ Af cf, w.cell? ⟨b, off + i * 6 + 5, none⟩ = some (.slice Af s.free.length cf) ∧ Row w (.slice Af s.free.length cf) (ints s.free) := by
 obtain ⟨A', cap', vf, he, h2, h3, h0, h4, h5⟩ := h
 injection he with he _
 injection he with hA hn hc
 subst hA
 obtain ⟨b, off, rfl, hlt, hr⟩ := h4 (by rintro rfl; simp at hs)
 have h6 := hr i s hs
 have h7 := h5 i s hs
 refine ⟨b, off, rfl, hlt, fun j v hv => ?_, h6 4 _ rfl, ?_⟩
 ·have hj : j < 4 := by have := (List.getElem?_eq_some_iff.1 hv).1; rwa [wds_length] at this
  refine h6 j v ?_
  unfold stc
  rw [List.getElem?_append_left (by rw [wds_length]; exact hj)]
  exact hv
 ·obtain ⟨Af, cf, hvf, _⟩ := h7
  have hl : (ints s.free).length = s.free.length := nums_length _ _
  rw [hl] at hvf
  exact ⟨Af, cf, by rw [← hvf]; exact h6 5 _ rfl, by rw [← hvf]; exact h5 i s hs⟩
theorem NfaV.whole {w : World} {A : Option Addr} {cap n : Nat} {a z : Int} {S : List St} (h : NfaV w [.slice A n cap, .int .i64 a, .int .i64 z] S a z) {i : Nat} {s : St} (hs : S[i]? = some s) :
  ∃ b off Af cf, A = some ⟨b, off, none⟩ ∧ b < w.heap.size ∧ w.rangeAt b (off + i * 6) (stc s (.slice Af s.free.length cf)) ∧ Row w (.slice Af s.free.length cf) (ints s.free) := by
 obtain ⟨A', cap', vf, he, h2, h3, h0, h4, h5⟩ := h
 injection he with he _
 injection he with hA hn hc
 subst hA
 obtain ⟨b, off, rfl, hlt, hr⟩ := h4 (by rintro rfl; simp at hs)
 obtain ⟨Af, cf, hvf, _⟩ := h5 i s hs
 have hl : (ints s.free).length = s.free.length := nums_length _ _
 rw [hl] at hvf
 exact ⟨b, off, Af, cf, rfl, hlt, by rw [← hvf]; exact hr i s hs, by rw [← hvf]; exact h5 i s hs⟩
theorem NfaV.len {w : World} {cs : List Value} {S : List St} {a z : Int} (h : NfaV w cs S a z) : ∃ A cap, cs = [.slice A S.length cap, .int .i64 a, .int .i64 z] ∧ S.length ≤ cap ∧ cap ≤ maxLen ∧ (A = none → cap = 0) := by
 obtain ⟨A, cap, _, h1, h2, h3, h0, _⟩ := h
 exact ⟨A, cap, h1, h2, h3, h0⟩
theorem RowT.monoX {B B' : Nat} {w : World} {v : Value} {l : List T} (h : RowT B w v l) (hB : B ≤ B') : RowT B' w v l := RowD.mono (D := fun k => k < B) (D' := fun k => k < B') h fun k hk => Nat.lt_of_lt_of_le hk hB
theorem ld_rxs {ev : Operand → Value} {o : Oper} (x : Operand) (ho : o.op = .load 38 x) {p : Addr} (hx : ev x = .pointer (some p)) {A : Option Addr} {n c : Nat} {W : World} (hc : W.cell? p = some (.slice A n c)) : (execOp ev o).run Try.prog W = .ok (.value (.slice A n c)) W := by
 simp only [execOp, ho, hx]
 go_simp
theorem ex_build0 {P : Program} {ev : Operand → Value} {o : Oper} (t : TypeId) (ho : o.op = .build t #[]) {c : Array Value} (hb : P.built t [] = some c) (W : World) : (execOp ev o).run P W = .ok (.value (.agg c)) W := by
 have h := run_build (P := P) W t #[] c (by simpa using hb)
 simp only [execOp, ho, Sem.run_bind, List.map_toArray, List.map_nil, h, Result.andThen_ok, Sem.run_pure]
theorem count12 {k : Int} (hk : k = 1 ∨ k = 2) (s : Nat → Bool) (n : Nat) : countT k s n = decide (n = 0) := by
 unfold countT
 rw [if_neg (by omega), if_pos hk]
theorem count3 (s : Nat → Bool) (n : Nat) : countT 3 s n = (!eqS s zeroS && decide (n = 0)) := by
 unfold countT
 rw [if_pos rfl]
theorem count45 {k : Int} (hk : k = 4 ∨ k = 5) (s : Nat → Bool) (n : Nat) : countT k s n = decide (2 ≤ n) := by
 unfold countT
 rw [if_neg (by omega), if_neg (by omega), if_pos hk]
theorem count6 (s : Nat → Bool) (n : Nat) : countT 6 s n = decide (n = 1) := by
 unfold countT
 simp
theorem count_no {k : Int} (h1 : k ≠ 1) (h2 : k ≠ 2) (h3 : k ≠ 3) (h4 : k ≠ 4) (h5 : k ≠ 5) (h6 : k ≠ 6) (s : Nat → Bool) (n : Nat) : countT k s n = false := by
 unfold countT
 rw [if_neg h3, if_neg (by omega), if_neg (by omega)]
 simp [h6]
def seg (w : List UInt8) (i j : Nat) : List UInt8 := (w.take j).drop i
theorem seg_len (w : List UInt8) (i j : Nat) (hj : j ≤ w.length) : (seg w i j).length = j - i := by
 simp [seg]; omega
theorem seg_same (w : List UInt8) (i : Nat) : seg w i i = [] := by
 apply List.eq_nil_of_length_eq_zero
 simp [seg]
theorem seg_nil {w : List UInt8} {i j : Nat} (hi : i ≤ j) (hj : j ≤ w.length) (h : seg w i j = []) : i = j := by
 have := seg_len w i j hj
 rw [h] at this
 simp at this
 omega
theorem seg_all (w : List UInt8) : seg w 0 w.length = w := by simp [seg]
theorem seg_app {w : List UInt8} {i k j : Nat} (h1 : i ≤ k) (h2 : k ≤ j) : seg w i j = seg w i k ++ seg w k j := by
 apply List.ext_getElem?
 intro n
 simp only [seg]
 rw [List.getElem?_append]
 simp only [List.getElem?_drop, List.getElem?_take, List.length_drop, List.length_take]
 by_cases hw : k ≤ w.length
 ·rw [Nat.min_eq_left hw]
  by_cases hn : n < k - i
  ·rw [if_pos hn, if_pos (by omega), if_pos (by omega)]
  ·rw [if_neg hn, show k + (n - (k - i)) = i + n from by omega]
 ·rw [Nat.min_eq_right (by omega)]
  by_cases hn : n < w.length - i
  ·rw [if_pos hn, if_pos (by omega), if_pos (by omega)]
  ·rw [if_neg hn]
   have e1 : w[i + n]? = none := List.getElem?_eq_none (by omega)
   have e2 : w[k + (n - (w.length - i))]? = none := List.getElem?_eq_none (by omega)
   rw [e1, e2]
   split <;> split <;> rfl
theorem seg_split {w u v : List UInt8} {i j : Nat} (hi : i ≤ j) (hj : j ≤ w.length) (h : seg w i j = u ++ v) : i + u.length ≤ j ∧ u = seg w i (i + u.length) ∧ v = seg w (i + u.length) j := by
 have hl := seg_len w i j hj
 rw [h, List.length_append] at hl
 have h1 : i + u.length ≤ j := by omega
 have h2 := seg_app (w := w) (show i ≤ i + u.length by omega) h1
 rw [h] at h2
 have h3 := seg_len w i (i + u.length) (by omega)
 obtain ⟨a, b⟩ := List.append_inj h2 (by omega)
 exact ⟨h1, a, b⟩
theorem seg_two {w : List UInt8} {i j : Nat} {P Q : List UInt8 → Prop} (hi : i ≤ j) (hj : j ≤ w.length) :
  (∃ u v, seg w i j = u ++ v ∧ P u ∧ Q v) ↔ ∃ k, i ≤ k ∧ k ≤ j ∧ P (seg w i k) ∧ Q (seg w k j) := by
 constructor
 ·rintro ⟨u, v, h, hp, hq⟩
  obtain ⟨h1, h2, h3⟩ := seg_split hi hj h
  exact ⟨i + u.length, by omega, h1, h2 ▸ hp, h3 ▸ hq⟩
 ·rintro ⟨k, h1, h2, hp, hq⟩
  exact ⟨_, _, seg_app h1 h2, hp, hq⟩
theorem seg_one {w : List UInt8} {i j : Nat} {s : Nat → Bool} (hi : i ≤ j) (hj : j ≤ w.length) :
  (∃ b : UInt8, seg w i j = [b] ∧ s b.toNat = true) ↔ j = i + 1 ∧ ∃ b, w[i]? = some b ∧ s b.toNat = true := by
 have e : ∀ (h : i < w.length), seg w i (i + 1) = [w[i]] := fun h => by
  apply List.ext_getElem?
  intro n
  simp only [seg, List.getElem?_drop, List.getElem?_take]
  rcases Nat.eq_zero_or_pos n with rfl | hn
  ·simp [h]
  ·rw [if_neg (by omega)]
   symm
   exact List.getElem?_eq_none (by simp; omega)
 constructor
 ·rintro ⟨b, h, hs⟩
  have hl := seg_len w i j hj
  rw [h] at hl
  simp at hl
  obtain rfl : j = i + 1 := by omega
  rw [e (by omega)] at h
  injection h with h
  exact ⟨rfl, b, by rw [← h]; simp, hs⟩
 ·rintro ⟨rfl, b, h, hs⟩
  obtain ⟨h1, rfl⟩ := List.getElem?_eq_some_iff.1 h
  exact ⟨_, e h1, hs⟩
/-! ### any number -/
theorem starL_snoc {P : List UInt8 → Prop} {a b : List UInt8} (ha : StarL P a) (hb : P b) : StarL P (a ++ b) := by
 induction ha with
 | nil =>
  have := StarL.app hb (StarL.nil (P := P))
  rwa [List.append_nil] at this
 | app hu _ ih => rw [List.append_assoc]; exact .app hu ih
theorem starL_last {P : List UInt8 → Prop} {w : List UInt8} (h : StarL P w) : w = [] ∨ ∃ a b, w = a ++ b ∧ b ≠ [] ∧ StarL P a ∧ P b := by
 induction h with
 | nil => exact .inl rfl
 | @app u v hu hv ih =>
  rcases ih with rfl | ⟨a, b, rfl, hb, ha, hp⟩
  ·cases u with
   | nil => exact .inl rfl
   | cons c u => exact .inr ⟨[], c :: u, by simp, by simp, .nil, hu⟩
  ·exact .inr ⟨u ++ a, b, by rw [List.append_assoc], hb, .app hu ha, hp⟩
theorem star_seg {P : List UInt8 → Prop} {w : List UInt8} {i m : Nat} (hi : i ≤ m) (hm : m ≤ w.length) :
  StarL P (seg w i m) ↔ i = m ∨ ∃ j, i ≤ j ∧ j < m ∧ StarL P (seg w i j) ∧ P (seg w j m) := by
 constructor
 ·intro h
  rcases starL_last h with h | ⟨a, b, h, hb, ha, hp⟩
  ·exact .inl (seg_nil hi hm h)
  ·obtain ⟨h1, h2, h3⟩ := seg_split hi hm h
   refine .inr ⟨i + a.length, by omega, ?_, h2 ▸ ha, h3 ▸ hp⟩
   rcases Nat.lt_or_ge (i + a.length) m with h4 | h4
   ·exact h4
   ·have : i + a.length = m := by omega
    rw [this, seg_same] at h3
    exact absurd h3 hb
 ·rintro (rfl | ⟨j, h1, h2, h3, h4⟩)
  ·rw [seg_same]; exact .nil
  ·rw [seg_app h1 (Nat.le_of_lt h2)]
   exact starL_snoc h3 h4
/-! ### where words end that begin at one of these places -/
def Ends (P : List UInt8 → Prop) (w : List UInt8) (f : Nat → Bool) (p : Nat) : Prop := p ≤ w.length ∧ ∃ q, q ≤ p ∧ f q = true ∧ P (seg w q p)
noncomputable def endsB (P : List UInt8 → Prop) (w : List UInt8) (f : Nat → Bool) (p : Nat) : Bool := @decide (Ends P w f p) (Classical.propDecidable _)
theorem endsB_iff {P : List UInt8 → Prop} {w : List UInt8} {f : Nat → Bool} {p : Nat} : endsB P w f p = true ↔ Ends P w f p := by
 unfold endsB
 exact @decide_eq_true_iff _ (Classical.propDecidable _)
def hitP (s : Nat → Bool) (l : List UInt8) (j : Nat) : Bool := match l[j]? with
 | some b => s b.toNat
 | none => false
theorem hitP_at {s : Nat → Bool} {l : List UInt8} {j : Nat} {b : UInt8} (h : l[j]? = some b) : hitP s l j = s b.toNat := by unfold hitP; rw [h]
theorem hitP_iff {s : Nat → Bool} {l : List UInt8} {j : Nat} : hitP s l j = true ↔ ∃ b, l[j]? = some b ∧ s b.toNat = true := by
 unfold hitP
 cases l[j]? <;> simp
noncomputable def lgB (t : T) (W : List UInt8) : Bool := endsB (Lg t) W (fun q => decide (q = 0)) W.length
theorem lgB_iff {t : T} {W : List UInt8} : lgB t W = true ↔ Lg t W := by
 unfold lgB
 rw [endsB_iff]
 constructor
 ·rintro ⟨_, q, _, c, d⟩
  obtain rfl : q = 0 := by simpa using c
  rwa [seg_all] at d
 ·intro h
  exact ⟨Nat.le_refl _, 0, Nat.zero_le _, by simp, by rwa [seg_all]⟩
theorem lgB_of {t : T} {W : List UInt8} {b : Bool} (h : b = true ↔ Lg t W) : lgB t W = b := by
 rw [Bool.eq_iff_iff, lgB_iff, h]
end Go.Proofs.Ytmcpfaaakmehdaa
