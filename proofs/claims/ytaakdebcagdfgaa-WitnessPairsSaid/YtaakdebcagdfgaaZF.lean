/-
  Texts of this proof, put together: WiB, LsC, MdA, WjP, LsD. No statement is proved here.
-/
import Derived.Test.YtaakdebcagdfgaaZE
import Derived.Test.YtaakdebcagdfgaaZD
import Derived.Test.YtaakdebcagdfgaaZB
import Derived.Test.YtaakdebcagdfgaaZC
namespace Go.Proofs.Ytaakdebcagdfgaa
open Go.RowKit
set_option linter.unusedSimpArgs false
set_option linter.unusedVariables false
/-! ### the order of words -/
def leW (u v : List UInt8) : Prop := u = v ∨ ltW u v
theorem ltW_trans : ∀ {u v x : List UInt8}, ltW u v → ltW v x → ltW u x
 | _, [], _, h, _ => absurd h (by simp [ltW])
 | _, _ :: _, [], _, h => absurd h (by simp [ltW])
 | [], _ :: _, _ :: _, _, _ => by simp [ltW]
 | b :: u, c :: v, d :: x, h1, h2 => by
  simp only [ltW] at h1 h2 ⊢
  rcases h1 with h1 | ⟨rfl, h1⟩
  ·rcases h2 with h2 | ⟨rfl, h2⟩
   ·exact .inl (UInt8.lt_trans h1 h2)
   ·exact .inl h1
  ·rcases h2 with h2 | ⟨rfl, h2⟩
   ·exact .inl h2
   ·exact .inr ⟨rfl, ltW_trans h1 h2⟩
theorem ltW_no : ∀ u : List UInt8, ¬ ltW u u
 | [] => by simp [ltW]
 | b :: u => by
  simp only [ltW]
  rintro (h | ⟨_, h⟩)
  ·exact absurd h (UInt8.lt_irrefl b)
  ·exact ltW_no u h
theorem ltW_snoc : ∀ {u v : List UInt8} (a b : UInt8), u.length = v.length → ltW u v → ltW (u ++ [a]) (v ++ [b])
 | [], [], _, _, _, h => absurd h (by simp [ltW])
 | [], _ :: _, _, _, h, _ => absurd h (by simp)
 | _ :: _, [], _, _, h, _ => absurd h (by simp)
 | c :: u, d :: v, a, b, h1, h2 => by
  simp only [ltW, List.cons_append] at h2 ⊢
  rcases h2 with h2 | ⟨rfl, h2⟩
  ·exact .inl h2
  ·exact .inr ⟨rfl, ltW_snoc a b (by simpa using h1) h2⟩
theorem ltW_end : ∀ (u : List UInt8) {a b : UInt8}, a < b → ltW (u ++ [a]) (u ++ [b])
 | [], a, b, h => by
  simp only [ltW, List.nil_append]
  exact .inl h
 | c :: u, a, b, h => by
  show c < c ∨ (c = c ∧ ltW (u ++ [a]) (u ++ [b]))
  exact .inr ⟨rfl, ltW_end u h⟩
theorem leW_trans {u v x : List UInt8} (h1 : leW u v) (h2 : leW v x) : leW u x := by
 rcases h1 with rfl | h1
 ·exact h2
 ·rcases h2 with rfl | h2
  ·exact .inr h1
  ·exact .inr (ltW_trans h1 h2)
theorem leW_snoc {u v : List UInt8} {a b : UInt8} (hl : u.length = v.length) (h : leW u v) (hab : a ≤ b) : leW (u ++ [a]) (v ++ [b]) := by
 rcases h with rfl | h
 ·by_cases e : a = b
  ·exact .inl (by rw [e])
  ·exact .inr (ltW_end u (UInt8.lt_of_le_of_ne hab e))
 ·exact .inr (ltW_snoc a b hl h)
theorem leW_anti {u v : List UInt8} (h1 : leW u v) (h2 : leW v u) : u = v := by
 rcases h1 with h1 | h1
 ·exact h1
 ·rcases h2 with h2 | h2
  ·exact h2.symm
  ·exact absurd (ltW_trans h1 h2) (ltW_no u)
/-! ### what is new is kept -/
abbrev SW := Nat × List UInt8
def ddS : (Nat → Bool) → List SW → List SW × (Nat → Bool)
 | sn, [] => ([], sn)
 | sn, p :: r => bif sn p.1 then ddS sn r else (p :: (ddS (fun s => sn s || s == p.1) r).1, (ddS (fun s => sn s || s == p.1) r).2)
theorem ddS_old {sn : Nat → Bool} {p : SW} {r : List SW} (h : sn p.1 = true) : ddS sn (p :: r) = ddS sn r := by
 rw [ddS, h]
 rfl
theorem ddS_cons {sn : Nat → Bool} {p : SW} {r : List SW} (h : sn p.1 = false) : ddS sn (p :: r) = (p :: (ddS (fun s => sn s || s == p.1) r).1, (ddS (fun s => sn s || s == p.1) r).2) := by
 rw [ddS, h]
 rfl
theorem ddS_app : ∀ (a b : List SW) (sn : Nat → Bool), ddS sn (a ++ b) = ((ddS sn a).1 ++ (ddS (ddS sn a).2 b).1, (ddS (ddS sn a).2 b).2)
 | [], b, sn => rfl
 | p :: a, b, sn => by
  rw [List.cons_append]
  cases h : sn p.1 with
  | true => rw [ddS_old h, ddS_old h, ddS_app a b sn]
  | false => rw [ddS_cons h, ddS_cons h, ddS_app a b]; rfl
theorem ddS_sub : ∀ (c : List SW) (sn : Nat → Bool), (ddS sn c).1.Sublist c
 | [], _ => .slnil
 | p :: r, sn => by
  cases h : sn p.1 with
  | true => rw [ddS_old h]; exact (ddS_sub r sn).cons p
  | false => rw [ddS_cons h]; exact (ddS_sub r _).cons_cons p
theorem ddS_seen : ∀ (c : List SW) (sn : Nat → Bool) (s : Nat), (ddS sn c).2 s = true ↔ sn s = true ∨ ∃ p ∈ c, p.1 = s
 | [], sn, s => by simp [ddS]
 | p :: r, sn, s => by
  cases h : sn p.1 with
  | true =>
   rw [ddS_old h, ddS_seen r sn s]
   constructor
   ·rintro (h1 | ⟨q, hq, e⟩)
    ·exact .inl h1
    ·exact .inr ⟨q, List.mem_cons_of_mem _ hq, e⟩
   ·rintro (h1 | ⟨q, hq, e⟩)
    ·exact .inl h1
    ·rcases List.mem_cons.1 hq with rfl | hq
     ·exact .inl (by rw [← e]; exact h)
     ·exact .inr ⟨q, hq, e⟩
  | false =>
   rw [ddS_cons h]
   show (ddS _ r).2 s = true ↔ _
   rw [ddS_seen r _ s]
   constructor
   ·rintro (h1 | ⟨q, hq, e⟩)
    ·rcases Bool.or_eq_true _ _ ▸ h1 with h1 | h1
     ·exact .inl h1
     ·exact .inr ⟨p, by simp, (by simpa using h1 : s = p.1).symm⟩
    ·exact .inr ⟨q, List.mem_cons_of_mem _ hq, e⟩
   ·rintro (h1 | ⟨q, hq, e⟩)
    ·exact .inl (by show (sn s || s == p.1) = true; rw [h1, Bool.true_or])
    ·rcases List.mem_cons.1 hq with rfl | hq
     ·exact .inl (by show (sn s || s == q.1) = true; rw [e]; simp)
     ·exact .inr ⟨q, hq, e⟩
theorem ddS_new : ∀ (c : List SW) (sn : Nat → Bool) (p : SW), p ∈ (ddS sn c).1 → sn p.1 = false
 | [], sn, p, h => by cases h
 | q :: r, sn, p, h => by
  cases hq : sn q.1 with
  | true =>
   rw [ddS_old hq] at h
   exact ddS_new r sn p h
  | false =>
   rw [ddS_cons hq] at h
   rcases List.mem_cons.1 h with rfl | h
   ·exact hq
   ·have h1 := ddS_new r _ p h
    exact (Bool.or_eq_false_iff.1 h1).1
theorem ddS_first : ∀ (c : List SW) (sn : Nat → Bool), c.Pairwise (fun x y => ltW x.2 y.2) → ∀ p ∈ c, sn p.1 = false → ∃ q, (p.1, q) ∈ (ddS sn c).1 ∧ leW q p.2
 | [], _, _, p, hp, _ => by cases hp
 | x :: r, sn, hw, p, hp, hn => by
  obtain ⟨hw1, hw2⟩ := List.pairwise_cons.1 hw
  cases hx : sn x.1 with
  | true =>
   rw [ddS_old hx]
   rcases List.mem_cons.1 hp with rfl | hp
   ·rw [hx] at hn; cases hn
   ·exact ddS_first r sn hw2 p hp hn
  | false =>
   rw [ddS_cons hx]
   by_cases e : p.1 = x.1
   ·refine ⟨x.2, List.mem_cons.2 (.inl (by rw [e])), ?_⟩
    rcases List.mem_cons.1 hp with rfl | hp
    ·exact .inl rfl
    ·exact .inr (hw1 p hp)
   ·rcases List.mem_cons.1 hp with rfl | hp
    ·exact absurd rfl e
    ·obtain ⟨q, h1, h2⟩ := ddS_first r (fun s => sn s || s == x.1) hw2 p hp (by
      show (sn p.1 || p.1 == x.1) = false
      rw [hn, Bool.false_or]
      exact beq_eq_false_iff_ne.2 e)
     exact ⟨q, List.mem_cons_of_mem _ h1, h2⟩
/-! ### a layer -/
def cndS (D : Dm) (f : UInt8 → Bool) (L : List SW) : List SW := L.flatMap fun p => (byts.filter f).map fun b => (stD D p.1 b, p.2 ++ [b])
theorem cndS_mem {D : Dm} {f : UInt8 → Bool} {L : List SW} {x : SW} : x ∈ cndS D f L ↔ ∃ p ∈ L, ∃ b, f b = true ∧ x = (stD D p.1 b, p.2 ++ [b]) := by
 unfold cndS
 rw [List.mem_flatMap]
 constructor
 ·rintro ⟨p, hp, h⟩
  obtain ⟨b, hb, rfl⟩ := List.mem_map.1 h
  exact ⟨p, hp, b, (List.mem_filter.1 hb).2, rfl⟩
 ·rintro ⟨p, hp, b, hb, rfl⟩
  exact ⟨p, hp, List.mem_map.2 ⟨b, List.mem_filter.2 ⟨byts_mem b, hb⟩, rfl⟩⟩
theorem cndS_rise (D : Dm) (f : UInt8 → Bool) {k : Nat} : ∀ L : List SW, L.Pairwise (fun x y => ltW x.2 y.2) → (∀ p ∈ L, p.2.length = k) → (cndS D f L).Pairwise fun x y => ltW x.2 y.2
 | [], _, _ => .nil
 | p :: r, hw, hk => by
  obtain ⟨h1, h2⟩ := List.pairwise_cons.1 hw
  have ih := cndS_rise D f r h2 fun q hq => hk q (List.mem_cons_of_mem _ hq)
  show (((byts.filter f).map fun b => (stD D p.1 b, p.2 ++ [b])) ++ cndS D f r).Pairwise _
  rw [List.pairwise_append]
  refine ⟨?_, ih, ?_⟩
  ·rw [List.pairwise_map]
   exact (byts_rise.filter _).imp fun {a b} h => ltW_end p.2 h
  ·intro x hx y hy
   obtain ⟨b, _, rfl⟩ := List.mem_map.1 hx
   obtain ⟨q, hq, c, _, rfl⟩ := cndS_mem.1 hy
   exact ltW_snoc b c (by rw [hk p (by simp), hk q (List.mem_cons_of_mem _ hq)]) (h1 q hq)
structure ShL (D : Dm) (k : Nat) (L : List SW) (sn : Nat → Bool) : Prop where
 rise : L.Pairwise fun x y => ltW x.2 y.2
 is : ∀ p ∈ L, p.2.length = k ∧ toD D 0 p.2 = p.1
 new : ∀ p ∈ L, ∀ v : List UInt8, v.length < k → toD D 0 v ≠ p.1
 all : ∀ w : List UInt8, w.length = k → (∃ v : List UInt8, v.length < k ∧ toD D 0 v = toD D 0 w) ∨ ∃ q, (toD D 0 w, q) ∈ L ∧ leW q w
 seen : ∀ s, sn s = true ↔ ∃ v : List UInt8, v.length ≤ k ∧ toD D 0 v = s
theorem snoc_ex {w : List UInt8} {k : Nat} (h : w.length = k + 1) : ∃ u b, w = u ++ [b] ∧ u.length = k := by
 have hne : w ≠ [] := by intro e; rw [e] at h; cases h
 refine ⟨w.dropLast, w.getLast hne, (List.dropLast_concat_getLast hne).symm, ?_⟩
 rw [List.length_dropLast, h]
 rfl
theorem shL_zero (D : Dm) : ShL D 0 [(0, [])] (fun s => s == 0) where
 rise := List.pairwise_singleton _ _
 is := fun p hp => by
  rw [List.mem_singleton.1 hp]
  exact ⟨rfl, rfl⟩
 new := fun p hp v hv => absurd hv (Nat.not_lt_zero _)
 all := fun w hw => by
  rw [List.length_eq_zero_iff.1 hw]
  exact .inr ⟨[], List.mem_singleton.2 rfl, .inl rfl⟩
 seen := fun s => by
  constructor
  ·intro h
   have h1 : s = 0 := by simpa using h
   exact ⟨[], Nat.le_refl _, h1.symm⟩
  ·rintro ⟨v, hv, e⟩
   rw [List.length_eq_zero_iff.1 (Nat.le_zero.1 hv)] at e
   rw [← e]
   rfl
theorem shL_next {D : Dm} {f : UInt8 → Bool} (hf : ∀ b, ∃ c, f c = true ∧ c ≤ b ∧ ∀ s, stD D s c = stD D s b) {k : Nat} {L : List SW} {sn : Nat → Bool} (h : ShL D k L sn) :
  ShL D (k + 1) (ddS sn (cndS D f L)).1 (ddS sn (cndS D f L)).2 := by
 have hcr := cndS_rise D f L h.rise fun p hp => (h.is p hp).1
 have hsub := ddS_sub (cndS D f L) sn
 have hcm : ∀ x ∈ cndS D f L, x.2.length = k + 1 ∧ toD D 0 x.2 = x.1 := by
  intro x hx
  obtain ⟨p, hp, b, _, rfl⟩ := cndS_mem.1 hx
  obtain ⟨h1, h2⟩ := h.is p hp
  refine ⟨by rw [List.length_append, h1]; rfl, ?_⟩
  show toD D 0 (p.2 ++ [b]) = stD D p.1 b
  rw [toD_snoc, h2]
 -- a word that is longer by one: seen already, or a pair leads there
 have hex : ∀ w : List UInt8, w.length = k + 1 → sn (toD D 0 w) = true ∨ ∃ q, (toD D 0 w, q) ∈ cndS D f L ∧ leW q w := by
  intro w hw
  obtain ⟨u, b, rfl, hu⟩ := snoc_ex hw
  rcases h.all u hu with ⟨v, hv, e⟩ | ⟨q, hq, hle⟩
  ·refine .inl ((h.seen _).2 ⟨v ++ [b], by rw [List.length_append]; exact hv, ?_⟩)
   rw [toD_snoc, toD_snoc, e]
  ·obtain ⟨c, hc, hcb, hst⟩ := hf b
   refine .inr ⟨q ++ [c], cndS_mem.2 ⟨_, hq, c, hc, ?_⟩, leW_snoc (by rw [(h.is _ hq).1, hu]) hle hcb⟩
   rw [toD_snoc, hst]
 refine ⟨hcr.sublist hsub, fun p hp => hcm p (hsub.subset hp), ?_, ?_, ?_⟩
 ·intro p hp v hv e
  have h1 := ddS_new _ _ p hp
  rw [(h.seen p.1).2 ⟨v, Nat.le_of_lt_succ hv, e⟩] at h1
  cases h1
 ·intro w hw
  cases hs : sn (toD D 0 w) with
  | true =>
   obtain ⟨v, hv, e⟩ := (h.seen _).1 hs
   exact .inl ⟨v, Nat.lt_succ_of_le hv, e⟩
  | false =>
   rcases hex w hw with h1 | ⟨q, hq, hle⟩
   ·rw [hs] at h1; cases h1
   ·obtain ⟨q2, h1, h2⟩ := ddS_first _ sn hcr _ hq hs
    exact .inr ⟨q2, h1, leW_trans h2 hle⟩
 ·intro s
  rw [ddS_seen]
  constructor
  ·rintro (h1 | ⟨p, hp, rfl⟩)
   ·obtain ⟨v, hv, e⟩ := (h.seen s).1 h1
    exact ⟨v, Nat.le_succ_of_le hv, e⟩
   ·exact ⟨p.2, Nat.le_of_eq (hcm p hp).1, (hcm p hp).2⟩
  ·rintro ⟨v, hv, e⟩
   by_cases hvk : v.length ≤ k
   ·exact .inl ((h.seen s).2 ⟨v, hvk, e⟩)
   ·rcases hex v (by omega) with h1 | ⟨q, hq, _⟩
    ·exact .inl (by rw [← e]; exact h1)
    ·exact .inr ⟨_, hq, e⟩
/-! ### what is found -/
structure Sho (L : Lang) (w : List UInt8) : Prop where
 is : L w = true
 low : ∀ v, L v = true → w.length < v.length ∨ (w.length = v.length ∧ leW w v)
theorem sho_one {L : Lang} {u w : List UInt8} (h1 : Sho L u) (h2 : Sho L w) : u = w := by
 rcases h1.low w h2.is with a | ⟨a1, a2⟩ <;> rcases h2.low u h1.is with b | ⟨b1, b2⟩
 ·omega
 ·omega
 ·omega
 ·exact leW_anti a2 b2
theorem accD_to {D : Dm} {u v : List UInt8} (h : toD D 0 u = toD D 0 v) : accD D 0 u = accD D 0 v := by
 unfold accD
 rw [h]
theorem sh_hit {D : Dm} {k i : Nat} {L : List SW} {sn : Nat → Bool} {p : SW} (h : ShL D k L sn) (hno : ∀ v : List UInt8, v.length < k → accD D 0 v = false)
  (hp : L[i]? = some p) (he : D.ends.getD p.1 false = true) (hlow : ∀ j q, j < i → L[j]? = some q → D.ends.getD q.1 false = false) : Sho (accD D 0) p.2 := by
 obtain ⟨hpl, hpt⟩ := h.is p (List.mem_of_getElem? hp)
 refine ⟨?_, ?_⟩
 ·unfold accD
  rw [hpt]
  exact he
 ·intro v hv
  by_cases hlt : v.length < k
  ·rw [hno v hlt] at hv; cases hv
  ·by_cases hk : v.length = k
   ·refine .inr ⟨by omega, ?_⟩
    rcases h.all v hk with ⟨x, hx, e⟩ | ⟨q, hq, hle⟩
    ·rw [← accD_to e, hno x hx] at hv
     cases hv
    ·obtain ⟨j, hj⟩ := List.getElem?_of_mem hq
     have hev : D.ends.getD (toD D 0 v) false = true := hv
     have hji : ¬ j < i := fun hc => by
      have h1 := hlow j _ hc hj
      rw [hev] at h1
      cases h1
     refine leW_trans ?_ hle
     by_cases hij : i = j
     ·rw [← hij, hp] at hj
      injection hj with hj
      exact .inl (by rw [hj])
     ·obtain ⟨hi1, hi2⟩ := List.getElem?_eq_some_iff.1 hp
      obtain ⟨hj1, hj2⟩ := List.getElem?_eq_some_iff.1 hj
      have h1 := List.pairwise_iff_getElem.1 h.rise i j hi1 hj1 (by omega)
      rw [hi2, hj2] at h1
      exact .inr h1
   ·exact .inl (by omega)
theorem sh_miss {D : Dm} {k : Nat} {L : List SW} {sn : Nat → Bool} (h : ShL D k L sn) (hno : ∀ v : List UInt8, v.length < k → accD D 0 v = false)
  (hall : ∀ p ∈ L, D.ends.getD p.1 false = false) : ∀ v : List UInt8, v.length < k + 1 → accD D 0 v = false := by
 intro v hv
 by_cases hlt : v.length < k
 ·exact hno v hlt
 ·rcases h.all v (by omega) with ⟨x, hx, e⟩ | ⟨q, hq, _⟩
  ·rw [← accD_to e]
   exact hno x hx
  ·exact hall _ hq
theorem sh_nil {D : Dm} {k : Nat} {sn : Nat → Bool} (h : ShL D k [] sn) (hno : ∀ v : List UInt8, v.length < k → accD D 0 v = false) : ∀ v, accD D 0 v = false := by
 have key : ∀ n (v : List UInt8), v.length = n → accD D 0 v = false := by
  intro n
  induction n using Nat.strongRecOn with
  | ind n ih =>
   intro v hv
   by_cases hlt : v.length < k
   ·exact hno v hlt
   ·have hk : (v.take k).length = k := by rw [List.length_take]; omega
    rcases h.all (v.take k) hk with ⟨x, hx, e⟩ | ⟨q, hq, _⟩
    ·have h1 : accD D 0 (x ++ v.drop k) = accD D 0 v := by
      unfold accD
      rw [toD_app, e, ← toD_app, List.take_append_drop]
     rw [← h1]
     refine ih (x ++ v.drop k).length ?_ _ rfl
     rw [List.length_append, List.length_drop]
     omega
    ·cases hq
 exact fun v => key _ v rfl
theorem sh_few {D : Dm} (h : MayD D) (hl : D.cl.length = 256) (h0 : 0 < D.next.length) {k : Nat} {L : List SW} {sn : Nat → Bool} (hs : ShL D k L sn) (hne : L ≠ []) : k < D.next.length := by
 obtain ⟨p, hp⟩ : ∃ p, p ∈ L := List.exists_mem_of_ne_nil L hne
 obtain ⟨hw, ht⟩ := hs.is p hp
 refine Nat.lt_of_not_le fun hle => ?_
 have hnd : ((List.range (k + 1)).map fun i => toD D 0 (p.2.take i)).Nodup := by
  rw [List.Nodup, List.pairwise_map]
  refine (List.Pairwise.and_mem.1 List.pairwise_lt_range).imp fun {i j} hij he => ?_
  have hi := List.mem_range.1 hij.1
  have hj := List.mem_range.1 hij.2.1
  have hlt := hij.2.2
  refine hs.new p hp (p.2.take i ++ p.2.drop j) (by rw [List.length_append, List.length_take, List.length_drop]; omega) ?_
  rw [toD_app, he, ← toD_app, List.take_append_drop]
  exact ht
 have h1 := nodup_sub _ (List.range D.next.length) hnd fun q hq => by
  obtain ⟨i, _, rfl⟩ := List.mem_map.1 hq
  exact List.mem_range.2 (toD_ltA h hl _ 0 h0)
 rw [List.length_map, List.length_range, List.length_range] at h1
 omega
def stC (D : Dm) (s k : Nat) : Nat := ((D.next[s]?.getD []).getD k 0).toNat
def toC (D : Dm) : Nat → List Nat → Nat
 | s, [] => s
 | s, k :: v => toC D (stC D s k) v
def accC (D : Dm) (s : Nat) (v : List Nat) : Bool := D.ends.getD (toC D s v) false
theorem stC_lt {D : Dm} (h : MayD D) {s : Nat} (hs : s < D.next.length) (k : Nat) (hk : k < clsA D.cl) : stC D s k < D.next.length := by
 obtain ⟨r, hr⟩ : ∃ r, D.next[s]? = some r := ⟨_, List.getElem?_eq_getElem hs⟩
 have hm := List.mem_of_getElem? hr
 obtain ⟨x, hx⟩ : ∃ x, r[k]? = some x := ⟨_, List.getElem?_eq_getElem (by rw [h.rows r hm]; exact hk)⟩
 have h2 := h.to r hm x (List.mem_of_getElem? hx)
 unfold stC
 rw [hr, Option.getD_some, List.getD_eq_getElem?_getD, hx, Option.getD_some]
 omega
def eqC (D : Dm) (r i j : Nat) : Prop := ∀ v : List Nat, v.length ≤ r → (∀ k ∈ v, k < clsA D.cl) → accC D i v = accC D j v
section
variable {D : Dm} {r i j : Nat}
theorem eqC.refl (D : Dm) (r i : Nat) : eqC D r i i := fun _ _ _ => rfl
theorem eqC.symm (h : eqC D r i j) : eqC D r j i := fun v hv hk => (h v hv hk).symm
theorem eqC.trans {k : Nat} (h : eqC D r i j) (h2 : eqC D r j k) : eqC D r i k := fun v hv hk => (h v hv hk).trans (h2 v hv hk)
theorem eqC.less {q : Nat} (h : eqC D r i j) (hq : q ≤ r) : eqC D q i j := fun v hv hk => h v (Nat.le_trans hv hq) hk
theorem eqC.step (h : eqC D (r + 1) i j) {k : Nat} (hk : k < clsA D.cl) : eqC D r (stC D i k) (stC D j k) := fun v hv hks =>
 h (k :: v) (by simp only [List.length_cons]; omega) fun q hq => by
  rcases List.mem_cons.1 hq with rfl | hq
  ·exact hk
  ·exact hks q hq
end
/-! ### words of bytes and words of classes -/
theorem stD_stC (D : Dm) (s : Nat) (b : UInt8) : stD D s b = stC D s (D.cl.getD b.toNat 0).toNat := rfl
def clsW (D : Dm) (w : List UInt8) : List Nat := w.map fun b => (D.cl.getD b.toNat 0).toNat
def AllC (D : Dm) : Prop := ∀ k, k < clsA D.cl → ∃ b : UInt8, (D.cl.getD b.toNat 0).toNat = k
theorem clsW_lt {D : Dm} (hl : D.cl.length = 256) (w : List UInt8) : ∀ k ∈ clsW D w, k < clsA D.cl := fun k hk => by
 obtain ⟨b, _, rfl⟩ := List.mem_map.1 hk
 obtain ⟨c, hc⟩ : ∃ c, D.cl[b.toNat]? = some c := ⟨_, List.getElem?_eq_getElem (by rw [hl]; exact b.toNat_lt)⟩
 rw [List.getD_eq_getElem?_getD, hc]
 exact clsA_lt hl hc
theorem clsOf_first {ps : List (Nat → Bool)} {N k c : Nat} (h : (firstJ ps N)[k]? = some c) : clsOf ps c = k := by
 obtain ⟨hk, rfl⟩ := List.getElem?_eq_some_iff.1 h
 exact (clsOf_is ps N _ (firstJ_lt ps N _ (List.getElem_mem hk)) k hk).2 (alikeS_refl _ _)
/-! ### the machine that numbers make -/
def clsQ (m i : Nat) : Nat := if 97 ≤ i ∧ i < 97 + m then i - 97 else i % 7 % m
theorem clsQ_lt {m : Nat} (hm : 0 < m) (i : Nat) : clsQ m i < m := by
 unfold clsQ
 split
 ·omega
 ·exact Nat.mod_lt _ hm
def tabQ (m N : Nat) : List UInt8 := (List.range 256).map fun i => if i < N then UInt8.ofNat (clsQ m i) else 0
theorem tabQ_len (m N : Nat) : (tabQ m N).length = 256 := by simp [tabQ]
theorem tabQ_zero (m : Nat) : tabQ m 0 = ctab [] 0 := by
 unfold tabQ ctab
 refine List.map_congr_left fun i _ => ?_
 rw [if_neg (Nat.not_lt_zero _), if_neg (Nat.not_lt_zero _)]
theorem tabQ_set {m N : Nat} (hN : N < 256) : (tabQ m N).set N (UInt8.ofNat (clsQ m N)) = tabQ m (N + 1) := by
 apply List.ext_getElem?
 intro i
 unfold tabQ
 by_cases hi : i < 256
 ·by_cases he : N = i
  ·subst he
   rw [List.getElem?_set_self (by simp [hi])]
   simp only [List.getElem?_map, List.getElem?_range hi, Option.map_some]
   rw [if_pos (Nat.lt_succ_self _)]
  ·rw [List.getElem?_set_ne he]
   simp only [List.getElem?_map, List.getElem?_range hi, Option.map_some]
   by_cases h : i < N
   ·rw [if_pos h, if_pos (by omega)]
   ·rw [if_neg h, if_neg (by omega)]
 ·rw [List.getElem?_eq_none (by rw [List.length_set]; simp; omega), List.getElem?_eq_none (by simp; omega)]
theorem tabQ_at {m N i : Nat} (h : i < N) (hi : i < 256) : (tabQ m N)[i]? = some (UInt8.ofNat (clsQ m i)) := by
 unfold tabQ
 rw [List.getElem?_map, List.getElem?_range hi, Option.map_some, if_pos h]
theorem toNat_ofNatQ {n : Nat} (h : n < 256) : (UInt8.ofNat n).toNat = n := by
 rw [UInt8.toNat_ofNat']
 exact Nat.mod_eq_of_lt h
theorem clsD_upQ {cl : List UInt8} {K : Nat} (h : ∀ c ∈ cl, c.toNat + 1 ≤ K) : ∀ i, clsD cl i ≤ K
 | 0 => Nat.zero_le _
 | i + 1 => by
  rcases Nat.lt_or_ge i cl.length with hi | hi
  ·rw [clsD_next (List.getElem?_eq_getElem hi)]
   have h1 := clsD_upQ h i
   have h2 := h _ (List.getElem_mem hi)
   omega
  ·have : clsD cl (i + 1) = clsD cl i := by
    unfold clsD
    rw [List.take_of_length_le hi, List.take_of_length_le (by omega)]
   rw [this]
   exact clsD_upQ h i
theorem clsA_upQ {cl : List UInt8} {K : Nat} (h : ∀ c ∈ cl, c.toNat + 1 ≤ K) : clsA cl ≤ K := clsD_upQ h 256
theorem clsA_tab {m N : Nat} (hm : 0 < m) (hm2 : m ≤ 100) (hN : N = 256) : clsA (tabQ m N) = m := by
 apply Nat.le_antisymm
 ·refine clsA_upQ fun c hc => ?_
  obtain ⟨j, hj, rfl⟩ := List.getElem_of_mem hc
  have hj' : j < 256 := by rwa [tabQ_len] at hj
  have h1 := tabQ_at (m := m) (N := N) (i := j) (by omega) hj'
  rw [List.getElem?_eq_getElem hj] at h1
  injection h1 with h1
  have h2 := clsQ_lt hm j
  rw [h1, toNat_ofNatQ (by omega)]
  exact h2
 ·have h1 := tabQ_at (m := m) (N := N) (i := 97 + (m - 1)) (by omega) (by omega)
  have h2 := clsA_lt (tabQ_len m N) h1
  have h3 : clsQ m (97 + (m - 1)) = m - 1 := by
   unfold clsQ
   rw [if_pos (by omega)]
   omega
  rw [h3, toNat_ofNatQ (by omega)] at h2
  omega
def rowQ (ps : List UInt8) (k q : Nat) : Nat → List Int × Nat
 | 0 => ([], q)
 | j + 1 => ((rowQ ps k q j).1 ++ [(numV ps (rowQ ps k q j).2 k : Int)], numN ps (rowQ ps k q j).2)
theorem rowQ_len (ps : List UInt8) (k q : Nat) : ∀ j, (rowQ ps k q j).1.length = j
 | 0 => rfl
 | j + 1 => by
  show ((rowQ ps k q j).1 ++ [_]).length = j + 1
  rw [List.length_append, rowQ_len ps k q j]
  rfl
theorem rowQ_rng (ps : List UInt8) {k : Nat} (hk : 0 < k) (q : Nat) : ∀ j, ∀ x ∈ (rowQ ps k q j).1, 0 ≤ x ∧ x < (k : Int)
 | 0, x, hx => by cases hx
 | j + 1, x, hx => by
  have hx : x ∈ (rowQ ps k q j).1 ++ [(numV ps (rowQ ps k q j).2 k : Int)] := hx
  rcases List.mem_append.1 hx with hx | hx
  ·exact rowQ_rng ps hk q j x hx
  ·have e := List.mem_singleton.1 hx
   have := numV_lt ps (rowQ ps k q j).2 hk
   omega
def stQ (ps : List UInt8) (k m : Nat) : Nat → List (List Int) × List Bool × Nat
 | 0 => ([], [], 0)
 | i + 1 => ((stQ ps k m i).1 ++ [(rowQ ps k (stQ ps k m i).2.2 m).1], (stQ ps k m i).2.1 ++ [decide ((numV ps (rowQ ps k (stQ ps k m i).2.2 m).2 2 : Int) = 1)], numN ps (rowQ ps k (stQ ps k m i).2.2 m).2)
theorem stQ_len (ps : List UInt8) (k m : Nat) : ∀ i, (stQ ps k m i).1.length = i ∧ (stQ ps k m i).2.1.length = i
 | 0 => ⟨rfl, rfl⟩
 | i + 1 => by
  have h := stQ_len ps k m i
  constructor
  ·show ((stQ ps k m i).1 ++ [_]).length = i + 1
   rw [List.length_append, h.1]; rfl
  ·show ((stQ ps k m i).2.1 ++ [_]).length = i + 1
   rw [List.length_append, h.2]; rfl
theorem stQ_rows (ps : List UInt8) {k : Nat} (hk : 0 < k) (m : Nat) : ∀ i, ∀ r ∈ (stQ ps k m i).1, r.length = m ∧ ∀ x ∈ r, 0 ≤ x ∧ x < (k : Int)
 | 0, r, hr => by cases hr
 | i + 1, r, hr => by
  have hr : r ∈ (stQ ps k m i).1 ++ [(rowQ ps k (stQ ps k m i).2.2 m).1] := hr
  rcases List.mem_append.1 hr with hr | hr
  ·exact stQ_rows ps hk m i r hr
  ·rw [List.mem_singleton.1 hr]
   exact ⟨rowQ_len _ _ _ _, rowQ_rng ps hk _ m⟩
def dfaQ (n c : Nat) (ps : List UInt8) : Dm := ⟨tabQ (1 + c % 4) 256, (stQ ps (1 + n % 8) (1 + c % 4) (1 + n % 8)).1, (stQ ps (1 + n % 8) (1 + c % 4) (1 + n % 8)).2.1⟩
theorem dfaQ_len (n c : Nat) (ps : List UInt8) : (dfaQ n c ps).next.length = 1 + n % 8 := (stQ_len _ _ _ _).1
theorem dfaQ_ends (n c : Nat) (ps : List UInt8) : (dfaQ n c ps).ends.length = 1 + n % 8 := (stQ_len _ _ _ _).2
theorem dfaQ_cls (n c : Nat) (ps : List UInt8) : clsA (dfaQ n c ps).cl = 1 + c % 4 := clsA_tab (by omega) (by omega) rfl
theorem dfaQ_may (n c : Nat) (ps : List UInt8) : MayD (dfaQ n c ps) := by
 have h1 := dfaQ_len n c ps
 have h2 := dfaQ_cls n c ps
 have h3 := stQ_rows ps (k := 1 + n % 8) (by omega) (1 + c % 4) (1 + n % 8)
 refine ⟨by omega, by omega, by rw [dfaQ_ends, h1], fun r hr => ?_, fun r hr x hx => ?_⟩
 ·rw [h2]
  exact (h3 r hr).1
 ·rw [h1]
  exact (h3 r hr).2 x hx
/-! ### which states are live -/
inductive LvD (D : Dm) : Nat → Prop
 | base {i : Nat} : D.ends[i]? = some true → LvD D i
 | go {i j : Nat} {r : List Int} : D.next[i]? = some r → (j : Int) ∈ r → LvD D j → LvD D i
noncomputable def livB (D : Dm) (i : Nat) : Bool := @decide (LvD D i) (Classical.propDecidable _)
theorem livB_iff {D : Dm} {i : Nat} : livB D i = true ↔ LvD D i := by
 unfold livB
 exact @decide_eq_true_iff _ (Classical.propDecidable _)
structure Pv (D : Dm) (n : Nat) (t0 : Nat → Bool) (ag : Bool) (i kk : Nat) (t : Nat → Bool) : Prop where
 seeds : ∀ q, q < n → D.ends[q]? = some true → t q = true
 sound : ∀ q, q < n → t q = true → LvD D q
 more : ∀ q, t0 q = true → t q = true
 still : ag = false → ∀ q, q < n → t q = t0 q
 new : ag = true → ∃ q, q < n ∧ t0 q = false ∧ t q = true
 done : ag = false → ∀ i' r, i' < i → D.next[i']? = some r → t i' = false → ∀ x ∈ r, t x.toNat = false
 part : ag = false → ∀ r, D.next[i]? = some r → t i = false → ∀ m x, m < kk → r[m]? = some x → t x.toNat = false
section
variable {D : Dm} {n : Nat} {t0 t : Nat → Bool} {ag : Bool} {i kk : Nat}
theorem Pv.start (h1 : ∀ q, q < n → D.ends[q]? = some true → t q = true) (h2 : ∀ q, q < n → t q = true → LvD D q) : Pv D n t false 0 0 t :=
 ⟨h1, h2, fun _ h => h, fun _ _ _ => rfl, fun h => (by cases h), fun _ i' r h => absurd h (Nat.not_lt_zero i'), fun _ r _ _ m x h => absurd h (Nat.not_lt_zero m)⟩
theorem Pv.mark (h : Pv D n t0 ag i kk t) {r : List Int} (hr : D.next[i]? = some r) (hi : i < n) (ht : t i = false) {x : Int} (hx : r[kk]? = some x) (h0 : 0 ≤ x) (hxn : x < (n : Int)) (htx : t x.toNat = true) : Pv D n t0 true i (kk + 1) (updB t i true) := by
 have hup : ∀ q, t q = true → updB t i true q = true := fun q hq => by unfold updB; split; rfl; exact hq
 refine ⟨fun q hq he => hup q (h.seeds q hq he), fun q hq hu => ?_, fun q hq => hup q (h.more q hq), fun h => (by cases h), fun _ => ⟨i, hi, ?_, by unfold updB; rw [if_pos rfl]⟩, fun h => (by cases h), fun h => (by cases h)⟩
 ·unfold updB at hu
  by_cases hqi : q = i
  ·rw [hqi]
   exact .go hr (by rw [Int.toNat_of_nonneg h0]; exact List.mem_of_getElem? hx) (h.sound x.toNat (by omega) htx)
  ·rw [if_neg hqi] at hu
   exact h.sound q hq hu
 ·cases h0 : t0 i with
  | false => rfl
  | true => rw [h.more i h0] at ht; cases ht
theorem Pv.skip (h : Pv D n t0 ag i kk t) {r : List Int} (hr : D.next[i]? = some r) {x : Int} (hx : r[kk]? = some x) (htx : t x.toNat = false) : Pv D n t0 ag i (kk + 1) t := by
 refine ⟨h.seeds, h.sound, h.more, h.still, h.new, h.done, fun ha r' hr' ht m y hm hy => ?_⟩
 rw [hr] at hr'
 injection hr' with hr'
 subst hr'
 rcases Nat.lt_or_ge m kk with hlt | hge
 ·exact h.part ha r hr ht m y hlt hy
 ·obtain rfl : m = kk := by omega
  rw [hx] at hy
  injection hy with hy
  rw [← hy]
  exact htx
theorem Pv.next (h : Pv D n t0 ag i kk t) {r : List Int} (hr : D.next[i]? = some r) (hk : kk = r.length ∨ t i = true) : Pv D n t0 ag (i + 1) 0 t := by
 refine ⟨h.seeds, h.sound, h.more, h.still, h.new, fun ha i' r' hi hr' ht x hx => ?_, fun _ r _ _ m x h => absurd h (Nat.not_lt_zero m)⟩
 rcases Nat.lt_or_ge i' i with hlt | hge
 ·exact h.done ha i' r' hlt hr' ht x hx
 ·obtain rfl : i' = i := by omega
  rw [hr] at hr'
  injection hr' with hr'
  subst hr'
  rcases hk with hk | hk
  ·obtain ⟨m, hm, hmx⟩ := List.getElem_of_mem hx
   exact h.part ha r hr ht m x (by omega) (by rw [List.getElem?_eq_getElem hm, hmx])
  ·rw [hk] at ht; cases ht
structure Pw (D : Dm) (n : Nat) (ag : Bool) (t : Nat → Bool) : Prop where
 seeds : ∀ q, q < n → D.ends[q]? = some true → t q = true
 sound : ∀ q, q < n → t q = true → LvD D q
 done : ag = false → ∀ q, q < n → (t q = true ↔ LvD D q)
theorem Pv.all (h : Pv D n t0 ag n kk t) (hn : n = D.next.length) (he : D.ends.length = n) (hto : ∀ r ∈ D.next, ∀ x ∈ r, 0 ≤ x ∧ x < (n : Int)) : Pw D n ag t := by
 refine ⟨h.seeds, h.sound, fun ha q hq => ⟨h.sound q hq, fun hl => ?_⟩⟩
 subst ha
 revert hq
 induction hl with
 | base h1 => exact fun hq => h.seeds _ hq h1
 | @go i j r h1 h2 h3 ih =>
  intro hq
  have hj := (hto r (List.mem_of_getElem? h1) _ h2).2
  have ihj := ih (by omega)
  cases ht : t i with
  | true => rfl
  | false =>
   have h4 := h.done rfl i r hq h1 ht _ h2
   rw [Int.toNat_natCast, ihj] at h4
   cases h4
theorem Pv.less (h : Pv D n t0 true i kk t) : unm n t < unm n t0 := unm_less h.more (h.new rfl)
end
def fsB (ps : List (Nat → Bool)) (b : UInt8) : Bool := decide (b.toNat ∈ firstJ ps 256)
theorem cl_same {ps : List (Nat → Bool)} {b c : Nat} (hb : b < 256) (hc : c < 256) (h : clsOf ps b = clsOf ps c) : (ctab ps 256).getD b 0 = (ctab ps 256).getD c 0 := by
 rw [List.getD_eq_getElem?_getD, List.getD_eq_getElem?_getD, ctab_at ps hb, ctab_at ps hc, h]
theorem fsB_ok {D : Dm} {ps : List (Nat → Bool)} (hc : D.cl = ctab ps 256) (b : UInt8) : ∃ c, fsB ps c = true ∧ c ≤ b ∧ ∀ s, stD D s c = stD D s b := by
 obtain ⟨f, hf, ha⟩ := (firstJ_facts ps 256).2.2 b.toNat b.toNat_lt
 have hfl := firstJ_lt _ _ _ hf
 have hle : f ≤ b.toNat := Nat.le_of_not_lt fun h => by
  have h1 := (firstJ_facts ps 256).2.1 f hf b.toNat h
  rw [ha] at h1
  cases h1
 have hfn : (UInt8.ofNat f).toNat = f := toNat_ofNatQ hfl
 refine ⟨UInt8.ofNat f, ?_, ?_, fun s => ?_⟩
 ·unfold fsB
  rw [hfn]
  exact decide_eq_true hf
 ·rw [UInt8.le_iff_toNat_le, hfn]
  exact hle
 ·obtain ⟨k, hk⟩ := List.getElem?_of_mem hf
  have h1 := clsOf_first hk
  have h2 : clsOf ps b.toNat = k := (clsOf_is ps 256 b.toNat b.toNat_lt k (List.getElem?_eq_some_iff.1 hk).1).2 (by rw [(List.getElem?_eq_some_iff.1 hk).2]; exact ha)
  unfold stD
  rw [hfn, hc, cl_same hfl b.toNat_lt (h1.trans h2.symm)]
theorem fsB_is (ps : List (Nat → Bool)) {b : Nat} (hb : b < 256) : ∃ f, f < 256 ∧ (fbB ps 256)[clsOf ps b]? = some (UInt8.ofNat f) ∧ fsB ps (UInt8.ofNat b) = decide (f = b) := by
 have hk := clsOf_lt ps hb
 obtain ⟨f, hf⟩ : ∃ f, (firstJ ps 256)[clsOf ps b]? = some f := ⟨_, List.getElem?_eq_getElem hk⟩
 refine ⟨f, firstJ_lt _ _ _ (List.mem_of_getElem? hf), by unfold fbB; rw [List.getElem?_map, hf]; rfl, ?_⟩
 unfold fsB
 rw [toNat_ofNatQ hb, decide_eq_decide]
 constructor
 ·intro h
  obtain ⟨k, hk2⟩ := List.getElem?_of_mem h
  have h1 := clsOf_first hk2
  rw [h1, hk2] at hf
  exact (Option.some.inj hf).symm
 ·intro h
  rw [← h]
  exact List.mem_of_getElem? hf
/-! ### what is found so far -/
theorem ddS_snoc_old {sn : Nat → Bool} {c : List SW} {x : SW} (h : (ddS sn c).2 x.1 = true) : ddS sn (c ++ [x]) = ddS sn c := by
 rw [ddS_app, ddS_old h]
 show ((ddS sn c).1 ++ [], (ddS sn c).2) = _
 rw [List.append_nil]
theorem ddS_snoc_new {sn : Nat → Bool} {c : List SW} {x : SW} (h : (ddS sn c).2 x.1 = false) : ddS sn (c ++ [x]) = ((ddS sn c).1 ++ [x], fun s => (ddS sn c).2 s || s == x.1) := by
 rw [ddS_app, ddS_cons h]
 rfl
def cpre (D : Dm) (f : UInt8 → Bool) (L : List SW) (i b : Nat) (p : SW) : List SW := cndS D f (L.take i) ++ ((byts.take b).filter f).map fun c => (stD D p.1 c, p.2 ++ [c])
section
variable {D : Dm} {f : UInt8 → Bool} {L : List SW} {i b : Nat} {p : SW}
theorem cpre_zero : cpre D f L i 0 p = cndS D f (L.take i) := by simp [cpre]
theorem byts_at (hb : b < 256) : byts[b]? = some (UInt8.ofNat b) := by
 unfold byts
 rw [List.getElem?_map, List.getElem?_range hb]
 rfl
theorem cpre_no (hb : b < 256) (hf : f (UInt8.ofNat b) = false) : cpre D f L i (b + 1) p = cpre D f L i b p := by
 unfold cpre
 rw [List.take_add_one, byts_at hb, Option.toList_some, List.filter_append, List.filter_cons_of_neg (by rw [hf]; decide), List.filter_nil, List.append_nil]
theorem cpre_yes (hb : b < 256) (hf : f (UInt8.ofNat b) = true) : cpre D f L i (b + 1) p = cpre D f L i b p ++ [(stD D p.1 (UInt8.ofNat b), p.2 ++ [UInt8.ofNat b])] := by
 unfold cpre
 rw [List.take_add_one, byts_at hb, Option.toList_some, List.filter_append, List.filter_cons_of_pos hf, List.filter_nil, List.map_append, List.append_assoc]
 rfl
theorem cpre_all (hp : L[i]? = some p) : cpre D f L i 256 p = cndS D f (L.take (i + 1)) := by
 unfold cpre
 rw [List.take_of_length_le (Nat.le_of_eq byts_len), List.take_add_one, hp, Option.toList_some]
 show _ = cndS D f (L.take i ++ [p])
 unfold cndS
 rw [List.flatMap_append]
 simp
theorem cnd_all (h : L.length ≤ i) : cndS D f (L.take i) = cndS D f L := by rw [List.take_of_length_le h]
end
def farSw (g n : Nat) (v : Value) (w : World) : Nat := 2 * unm n (cellB w g) + (match v with | .slice _ m _ => if m = 0 then 0 else 1 | _ => 0)
structure FndS (n : Nat) (sn t : Nat → Bool) (M : List SW) : Prop where
 cnt : M.length + unm n t ≤ unm n sn
 rng : ∀ p ∈ M, p.1 < n
theorem FndS.start (n : Nat) (sn : Nat → Bool) : FndS n sn sn [] := ⟨by simp, fun p h => by cases h⟩
theorem FndS.add {n : Nat} {sn t t' : Nat → Bool} {M : List SW} (h : FndS n sn t M) {x : SW} (hx : x.1 < n) (ht : t x.1 = false) (he : ∀ s, t' s = (t s || s == x.1)) : FndS n sn t' (M ++ [x]) := by
 have h1 : unm n t' < unm n t := unm_less (fun q hq => by rw [he, hq]; rfl) ⟨x.1, hx, ht, by rw [he]; simp⟩
 refine ⟨by rw [List.length_append, List.length_singleton]; have := h.cnt; omega, fun p hp => ?_⟩
 rcases List.mem_append.1 hp with hp | hp
 ·exact h.rng p hp
 ·rw [List.mem_singleton.1 hp]
  exact hx
theorem FndS.few {n : Nat} {sn t : Nat → Bool} {M : List SW} (h : FndS n sn t M) : M.length ≤ n := by
 have h1 := h.cnt
 have h2 := unm_le n sn
 omega
theorem upd_or {t : Nat → Bool} {q : Nat} : ∀ s, updB t q true s = (t s || s == q) := fun s => by
 unfold updB
 by_cases h : s = q
 ·subst h
  simp
 ·rw [if_neg h, beq_eq_false_iff_ne.2 h, Bool.or_false]
/-! ### finding, under another name for each thing of a kind -/
section
variable {α β : Type} [DecidableEq α] [DecidableEq β] {φ : α → β} {p : α → Prop}
end
/-! ### parts in the place of languages -/
/-! ### what is come to -/
/-! ### parts, round by round -/
noncomputable def leR (R : Nat → Nat → Prop) (i : Nat) : Nat := ((List.range (i + 1)).find? fun j => @decide (R j i) (Classical.propDecidable _)).getD i
theorem leR_spec {R : Nat → Nat → Prop} (hr : ∀ i, R i i) (i : Nat) : R (leR R i) i ∧ leR R i ≤ i ∧ ∀ j, j < leR R i → ¬ R j i := by
 unfold leR
 cases h : (List.range (i + 1)).find? fun j => @decide (R j i) (Classical.propDecidable _) with
 | none =>
  rw [List.find?_eq_none] at h
  have := h i (List.mem_range.2 (Nat.lt_succ_self i))
  exact absurd (@decide_eq_true _ (Classical.propDecidable _) (hr i)) this
 | some k =>
  have h6 := List.find?_some h
  have h2 : R k i := @of_decide_eq_true _ (Classical.propDecidable _) h6
  have h3 := List.mem_range.1 (List.mem_of_find?_eq_some h)
  refine ⟨h2, by show k ≤ i; omega, fun j hj he => ?_⟩
  have hj : j < k := hj
  obtain ⟨_, l1, l2, hab, hno⟩ := List.find?_eq_some_iff_append.1 h
  have hlen : l1.length = k := by
   have h4 : (List.range (i + 1))[l1.length]? = some k := by rw [hab]; simp
   rw [List.getElem?_range (by
    have := congrArg List.length hab
    simp at this
    omega)] at h4
   simpa using h4
  have hj2 : j ∈ l1 := by
   have h4 : (List.range (i + 1))[j]? = some j := List.getElem?_range (by omega)
   rw [hab, List.getElem?_append_left (by omega)] at h4
   exact List.mem_of_getElem? h4
  have h5 := hno j hj2
  rw [@decide_eq_true _ (Classical.propDecidable _) he] at h5
  cases h5
theorem leR_is {R : Nat → Nat → Prop} (hr : ∀ i, R i i) {i k : Nat} (hk : R k i) (hki : k ≤ i) (hno : ∀ j, j < k → ¬ R j i) : leR R i = k := by
 obtain ⟨h1, h2, h3⟩ := leR_spec hr i
 rcases Nat.lt_trichotomy (leR R i) k with h | h | h
 ·exact absurd h1 (hno _ h)
 ·exact h
 ·exact absurd hk (h3 _ h)
end Go.Proofs.Ytaakdebcagdfgaa
