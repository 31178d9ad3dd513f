/-
  Texts of this proof, put together: WiA, WiB, WjP, LvA, WjA. No statement is proved here.
-/
import Derived.Test.YtiehefnbdijiaaaZF
import Derived.Test.YtiehefnbdijiaaaZC
import Derived.Test.YtiehefnbdijiaaaZG
import Derived.Test.YtiehefnbdijiaaaZB
import Derived.Test.YtiehefnbdijiaaaZE
import Derived.Test.YtiehefnbdijiaaaZX
import Derived.Test.YtiehefnbdijiaaaZN
import Derived.Test.YtiehefnbdijiaaaZP
import Derived.Test.YtiehefnbdijiaaaZL
namespace Go.Proofs.Ytiehefnbdijiaaa
open Go.RowKit
set_option linter.unusedSimpArgs false
set_option linter.unusedVariables false
def byts : List UInt8 := (List.range 256).map UInt8.ofNat
theorem byts_len : byts.length = 256 := by simp [byts]
theorem byts_mem (b : UInt8) : b ∈ byts := List.mem_map.2 ⟨b.toNat, List.mem_range.2 b.toNat_lt, UInt8.ofNat_toNat⟩
/-! ### words in their order -/
def ltW : List UInt8 → List UInt8 → Prop
 | _, [] => False
 | [], _ :: _ => True
 | b :: u, c :: v => b < c ∨ (b = c ∧ ltW u v)
theorem byts_rise : byts.Pairwise (· < ·) := by
 unfold byts
 rw [List.pairwise_map]
 refine (List.Pairwise.and_mem.1 List.pairwise_lt_range).imp fun {a b} h => ?_
 have ha := List.mem_range.1 h.1
 have hb := List.mem_range.1 h.2.1
 rw [UInt8.lt_iff_toNat_lt, UInt8.toNat_ofNat', UInt8.toNat_ofNat', Nat.mod_eq_of_lt ha, Nat.mod_eq_of_lt hb]
 exact h.2.2
/-! ### the shortest word -/
/-! ### the order of words -/
def leW (u v : List UInt8) : Prop := u = v ∨ ltW u v
theorem ltW_trans : ∀ {u v x : List UInt8}, ltW u v → ltW v x → ltW u x
 | _, [], _, h, _ => absurd h (by simp [ltW])
 | _, _ :: _, [], _, h => absurd h (by simp [ltW])
 | [], _ :: _, _ :: _, _, _ => by simp [ltW]
 | b :: u, c :: v, d :: x, h1, h2 => by
  simp only [ltW] at h1 h2 ⊢
  rcases h1 with h1 | ⟨rfl, h1⟩
  ·rcases h2 with h2 | ⟨rfl, h2⟩
   ·exact .inl (UInt8.lt_trans h1 h2)
   ·exact .inl h1
  ·rcases h2 with h2 | ⟨rfl, h2⟩
   ·exact .inl h2
   ·exact .inr ⟨rfl, ltW_trans h1 h2⟩
theorem ltW_snoc : ∀ {u v : List UInt8} (a b : UInt8), u.length = v.length → ltW u v → ltW (u ++ [a]) (v ++ [b])
 | [], [], _, _, _, h => absurd h (by simp [ltW])
 | [], _ :: _, _, _, h, _ => absurd h (by simp)
 | _ :: _, [], _, _, h, _ => absurd h (by simp)
 | c :: u, d :: v, a, b, h1, h2 => by
  simp only [ltW, List.cons_append] at h2 ⊢
  rcases h2 with h2 | ⟨rfl, h2⟩
  ·exact .inl h2
  ·exact .inr ⟨rfl, ltW_snoc a b (by simpa using h1) h2⟩
theorem ltW_end : ∀ (u : List UInt8) {a b : UInt8}, a < b → ltW (u ++ [a]) (u ++ [b])
 | [], a, b, h => by
  simp only [ltW, List.nil_append]
  exact .inl h
 | c :: u, a, b, h => by
  show c < c ∨ (c = c ∧ ltW (u ++ [a]) (u ++ [b]))
  exact .inr ⟨rfl, ltW_end u h⟩
theorem leW_trans {u v x : List UInt8} (h1 : leW u v) (h2 : leW v x) : leW u x := by
 rcases h1 with rfl | h1
 ·exact h2
 ·rcases h2 with rfl | h2
  ·exact .inr h1
  ·exact .inr (ltW_trans h1 h2)
theorem leW_snoc {u v : List UInt8} {a b : UInt8} (hl : u.length = v.length) (h : leW u v) (hab : a ≤ b) : leW (u ++ [a]) (v ++ [b]) := by
 rcases h with rfl | h
 ·by_cases e : a = b
  ·exact .inl (by rw [e])
  ·exact .inr (ltW_end u (UInt8.lt_of_le_of_ne hab e))
 ·exact .inr (ltW_snoc a b hl h)
/-! ### what is new is kept -/
abbrev SW := Nat × List UInt8
def ddS : (Nat → Bool) → List SW → List SW × (Nat → Bool)
 | sn, [] => ([], sn)
 | sn, p :: r => bif sn p.1 then ddS sn r else (p :: (ddS (fun s => sn s || s == p.1) r).1, (ddS (fun s => sn s || s == p.1) r).2)
theorem ddS_old {sn : Nat → Bool} {p : SW} {r : List SW} (h : sn p.1 = true) : ddS sn (p :: r) = ddS sn r := by
 rw [ddS, h]
 rfl
theorem ddS_cons {sn : Nat → Bool} {p : SW} {r : List SW} (h : sn p.1 = false) : ddS sn (p :: r) = (p :: (ddS (fun s => sn s || s == p.1) r).1, (ddS (fun s => sn s || s == p.1) r).2) := by
 rw [ddS, h]
 rfl
theorem ddS_app : ∀ (a b : List SW) (sn : Nat → Bool), ddS sn (a ++ b) = ((ddS sn a).1 ++ (ddS (ddS sn a).2 b).1, (ddS (ddS sn a).2 b).2)
 | [], b, sn => rfl
 | p :: a, b, sn => by
  rw [List.cons_append]
  cases h : sn p.1 with
  | true => rw [ddS_old h, ddS_old h, ddS_app a b sn]
  | false => rw [ddS_cons h, ddS_cons h, ddS_app a b]; rfl
theorem ddS_sub : ∀ (c : List SW) (sn : Nat → Bool), (ddS sn c).1.Sublist c
 | [], _ => .slnil
 | p :: r, sn => by
  cases h : sn p.1 with
  | true => rw [ddS_old h]; exact (ddS_sub r sn).cons p
  | false => rw [ddS_cons h]; exact (ddS_sub r _).cons_cons p
theorem ddS_seen : ∀ (c : List SW) (sn : Nat → Bool) (s : Nat), (ddS sn c).2 s = true ↔ sn s = true ∨ ∃ p ∈ c, p.1 = s
 | [], sn, s => by simp [ddS]
 | p :: r, sn, s => by
  cases h : sn p.1 with
  | true =>
   rw [ddS_old h, ddS_seen r sn s]
   constructor
   ·rintro (h1 | ⟨q, hq, e⟩)
    ·exact .inl h1
    ·exact .inr ⟨q, List.mem_cons_of_mem _ hq, e⟩
   ·rintro (h1 | ⟨q, hq, e⟩)
    ·exact .inl h1
    ·rcases List.mem_cons.1 hq with rfl | hq
     ·exact .inl (by rw [← e]; exact h)
     ·exact .inr ⟨q, hq, e⟩
  | false =>
   rw [ddS_cons h]
   show (ddS _ r).2 s = true ↔ _
   rw [ddS_seen r _ s]
   constructor
   ·rintro (h1 | ⟨q, hq, e⟩)
    ·rcases Bool.or_eq_true _ _ ▸ h1 with h1 | h1
     ·exact .inl h1
     ·exact .inr ⟨p, by simp, (by simpa using h1 : s = p.1).symm⟩
    ·exact .inr ⟨q, List.mem_cons_of_mem _ hq, e⟩
   ·rintro (h1 | ⟨q, hq, e⟩)
    ·exact .inl (by show (sn s || s == p.1) = true; rw [h1, Bool.true_or])
    ·rcases List.mem_cons.1 hq with rfl | hq
     ·exact .inl (by show (sn s || s == q.1) = true; rw [e]; simp)
     ·exact .inr ⟨q, hq, e⟩
theorem ddS_new : ∀ (c : List SW) (sn : Nat → Bool) (p : SW), p ∈ (ddS sn c).1 → sn p.1 = false
 | [], sn, p, h => by cases h
 | q :: r, sn, p, h => by
  cases hq : sn q.1 with
  | true =>
   rw [ddS_old hq] at h
   exact ddS_new r sn p h
  | false =>
   rw [ddS_cons hq] at h
   rcases List.mem_cons.1 h with rfl | h
   ·exact hq
   ·have h1 := ddS_new r _ p h
    exact (Bool.or_eq_false_iff.1 h1).1
theorem ddS_first : ∀ (c : List SW) (sn : Nat → Bool), c.Pairwise (fun x y => ltW x.2 y.2) → ∀ p ∈ c, sn p.1 = false → ∃ q, (p.1, q) ∈ (ddS sn c).1 ∧ leW q p.2
 | [], _, _, p, hp, _ => by cases hp
 | x :: r, sn, hw, p, hp, hn => by
  obtain ⟨hw1, hw2⟩ := List.pairwise_cons.1 hw
  cases hx : sn x.1 with
  | true =>
   rw [ddS_old hx]
   rcases List.mem_cons.1 hp with rfl | hp
   ·rw [hx] at hn; cases hn
   ·exact ddS_first r sn hw2 p hp hn
  | false =>
   rw [ddS_cons hx]
   by_cases e : p.1 = x.1
   ·refine ⟨x.2, List.mem_cons.2 (.inl (by rw [e])), ?_⟩
    rcases List.mem_cons.1 hp with rfl | hp
    ·exact .inl rfl
    ·exact .inr (hw1 p hp)
   ·rcases List.mem_cons.1 hp with rfl | hp
    ·exact absurd rfl e
    ·obtain ⟨q, h1, h2⟩ := ddS_first r (fun s => sn s || s == x.1) hw2 p hp (by
      show (sn p.1 || p.1 == x.1) = false
      rw [hn, Bool.false_or]
      exact beq_eq_false_iff_ne.2 e)
     exact ⟨q, List.mem_cons_of_mem _ h1, h2⟩
/-! ### a layer -/
def cndS (D : Dm) (f : UInt8 → Bool) (L : List SW) : List SW := L.flatMap fun p => (byts.filter f).map fun b => (stD D p.1 b, p.2 ++ [b])
theorem cndS_mem {D : Dm} {f : UInt8 → Bool} {L : List SW} {x : SW} : x ∈ cndS D f L ↔ ∃ p ∈ L, ∃ b, f b = true ∧ x = (stD D p.1 b, p.2 ++ [b]) := by
 unfold cndS
 rw [List.mem_flatMap]
 constructor
 ·rintro ⟨p, hp, h⟩
  obtain ⟨b, hb, rfl⟩ := List.mem_map.1 h
  exact ⟨p, hp, b, (List.mem_filter.1 hb).2, rfl⟩
 ·rintro ⟨p, hp, b, hb, rfl⟩
  exact ⟨p, hp, List.mem_map.2 ⟨b, List.mem_filter.2 ⟨byts_mem b, hb⟩, rfl⟩⟩
theorem cndS_rise (D : Dm) (f : UInt8 → Bool) {k : Nat} : ∀ L : List SW, L.Pairwise (fun x y => ltW x.2 y.2) → (∀ p ∈ L, p.2.length = k) → (cndS D f L).Pairwise fun x y => ltW x.2 y.2
 | [], _, _ => .nil
 | p :: r, hw, hk => by
  obtain ⟨h1, h2⟩ := List.pairwise_cons.1 hw
  have ih := cndS_rise D f r h2 fun q hq => hk q (List.mem_cons_of_mem _ hq)
  show (((byts.filter f).map fun b => (stD D p.1 b, p.2 ++ [b])) ++ cndS D f r).Pairwise _
  rw [List.pairwise_append]
  refine ⟨?_, ih, ?_⟩
  ·rw [List.pairwise_map]
   exact (byts_rise.filter _).imp fun {a b} h => ltW_end p.2 h
  ·intro x hx y hy
   obtain ⟨b, _, rfl⟩ := List.mem_map.1 hx
   obtain ⟨q, hq, c, _, rfl⟩ := cndS_mem.1 hy
   exact ltW_snoc b c (by rw [hk p (by simp), hk q (List.mem_cons_of_mem _ hq)]) (h1 q hq)
structure ShL (D : Dm) (k : Nat) (L : List SW) (sn : Nat → Bool) : Prop where
 rise : L.Pairwise fun x y => ltW x.2 y.2
 is : ∀ p ∈ L, p.2.length = k ∧ toD D 0 p.2 = p.1
 new : ∀ p ∈ L, ∀ v : List UInt8, v.length < k → toD D 0 v ≠ p.1
 all : ∀ w : List UInt8, w.length = k → (∃ v : List UInt8, v.length < k ∧ toD D 0 v = toD D 0 w) ∨ ∃ q, (toD D 0 w, q) ∈ L ∧ leW q w
 seen : ∀ s, sn s = true ↔ ∃ v : List UInt8, v.length ≤ k ∧ toD D 0 v = s
theorem snoc_ex {w : List UInt8} {k : Nat} (h : w.length = k + 1) : ∃ u b, w = u ++ [b] ∧ u.length = k := by
 have hne : w ≠ [] := by intro e; rw [e] at h; cases h
 refine ⟨w.dropLast, w.getLast hne, (List.dropLast_concat_getLast hne).symm, ?_⟩
 rw [List.length_dropLast, h]
 rfl
theorem shL_zero (D : Dm) : ShL D 0 [(0, [])] (fun s => s == 0) where
 rise := List.pairwise_singleton _ _
 is := fun p hp => by
  rw [List.mem_singleton.1 hp]
  exact ⟨rfl, rfl⟩
 new := fun p hp v hv => absurd hv (Nat.not_lt_zero _)
 all := fun w hw => by
  rw [List.length_eq_zero_iff.1 hw]
  exact .inr ⟨[], List.mem_singleton.2 rfl, .inl rfl⟩
 seen := fun s => by
  constructor
  ·intro h
   have h1 : s = 0 := by simpa using h
   exact ⟨[], Nat.le_refl _, h1.symm⟩
  ·rintro ⟨v, hv, e⟩
   rw [List.length_eq_zero_iff.1 (Nat.le_zero.1 hv)] at e
   rw [← e]
   rfl
theorem shL_next {D : Dm} {f : UInt8 → Bool} (hf : ∀ b, ∃ c, f c = true ∧ c ≤ b ∧ ∀ s, stD D s c = stD D s b) {k : Nat} {L : List SW} {sn : Nat → Bool} (h : ShL D k L sn) :
  ShL D (k + 1) (ddS sn (cndS D f L)).1 (ddS sn (cndS D f L)).2 := by
 have hcr := cndS_rise D f L h.rise fun p hp => (h.is p hp).1
 have hsub := ddS_sub (cndS D f L) sn
 have hcm : ∀ x ∈ cndS D f L, x.2.length = k + 1 ∧ toD D 0 x.2 = x.1 := by
  intro x hx
  obtain ⟨p, hp, b, _, rfl⟩ := cndS_mem.1 hx
  obtain ⟨h1, h2⟩ := h.is p hp
  refine ⟨by rw [List.length_append, h1]; rfl, ?_⟩
  show toD D 0 (p.2 ++ [b]) = stD D p.1 b
  rw [toD_snoc, h2]
 -- a word that is longer by one: seen already, or a pair leads there
 have hex : ∀ w : List UInt8, w.length = k + 1 → sn (toD D 0 w) = true ∨ ∃ q, (toD D 0 w, q) ∈ cndS D f L ∧ leW q w := by
  intro w hw
  obtain ⟨u, b, rfl, hu⟩ := snoc_ex hw
  rcases h.all u hu with ⟨v, hv, e⟩ | ⟨q, hq, hle⟩
  ·refine .inl ((h.seen _).2 ⟨v ++ [b], by rw [List.length_append]; exact hv, ?_⟩)
   rw [toD_snoc, toD_snoc, e]
  ·obtain ⟨c, hc, hcb, hst⟩ := hf b
   refine .inr ⟨q ++ [c], cndS_mem.2 ⟨_, hq, c, hc, ?_⟩, leW_snoc (by rw [(h.is _ hq).1, hu]) hle hcb⟩
   rw [toD_snoc, hst]
 refine ⟨hcr.sublist hsub, fun p hp => hcm p (hsub.subset hp), ?_, ?_, ?_⟩
 ·intro p hp v hv e
  have h1 := ddS_new _ _ p hp
  rw [(h.seen p.1).2 ⟨v, Nat.le_of_lt_succ hv, e⟩] at h1
  cases h1
 ·intro w hw
  cases hs : sn (toD D 0 w) with
  | true =>
   obtain ⟨v, hv, e⟩ := (h.seen _).1 hs
   exact .inl ⟨v, Nat.lt_succ_of_le hv, e⟩
  | false =>
   rcases hex w hw with h1 | ⟨q, hq, hle⟩
   ·rw [hs] at h1; cases h1
   ·obtain ⟨q2, h1, h2⟩ := ddS_first _ sn hcr _ hq hs
    exact .inr ⟨q2, h1, leW_trans h2 hle⟩
 ·intro s
  rw [ddS_seen]
  constructor
  ·rintro (h1 | ⟨p, hp, rfl⟩)
   ·obtain ⟨v, hv, e⟩ := (h.seen s).1 h1
    exact ⟨v, Nat.le_succ_of_le hv, e⟩
   ·exact ⟨p.2, Nat.le_of_eq (hcm p hp).1, (hcm p hp).2⟩
  ·rintro ⟨v, hv, e⟩
   by_cases hvk : v.length ≤ k
   ·exact .inl ((h.seen s).2 ⟨v, hvk, e⟩)
   ·rcases hex v (by omega) with h1 | ⟨q, hq, _⟩
    ·exact .inl (by rw [← e]; exact h1)
    ·exact .inr ⟨_, hq, e⟩
/-! ### what is found -/
theorem accD_to {D : Dm} {u v : List UInt8} (h : toD D 0 u = toD D 0 v) : accD D 0 u = accD D 0 v := by
 unfold accD
 rw [h]
theorem sh_miss {D : Dm} {k : Nat} {L : List SW} {sn : Nat → Bool} (h : ShL D k L sn) (hno : ∀ v : List UInt8, v.length < k → accD D 0 v = false)
  (hall : ∀ p ∈ L, D.ends.getD p.1 false = false) : ∀ v : List UInt8, v.length < k + 1 → accD D 0 v = false := by
 intro v hv
 by_cases hlt : v.length < k
 ·exact hno v hlt
 ·rcases h.all v (by omega) with ⟨x, hx, e⟩ | ⟨q, hq, _⟩
  ·rw [← accD_to e]
   exact hno x hx
  ·exact hall _ hq
theorem sh_nil {D : Dm} {k : Nat} {sn : Nat → Bool} (h : ShL D k [] sn) (hno : ∀ v : List UInt8, v.length < k → accD D 0 v = false) : ∀ v, accD D 0 v = false := by
 have key : ∀ n (v : List UInt8), v.length = n → accD D 0 v = false := by
  intro n
  induction n using Nat.strongRecOn with
  | ind n ih =>
   intro v hv
   by_cases hlt : v.length < k
   ·exact hno v hlt
   ·have hk : (v.take k).length = k := by rw [List.length_take]; omega
    rcases h.all (v.take k) hk with ⟨x, hx, e⟩ | ⟨q, hq, _⟩
    ·have h1 : accD D 0 (x ++ v.drop k) = accD D 0 v := by
      unfold accD
      rw [toD_app, e, ← toD_app, List.take_append_drop]
     rw [← h1]
     refine ih (x ++ v.drop k).length ?_ _ rfl
     rw [List.length_append, List.length_drop]
     omega
    ·cases hq
 exact fun v => key _ v rfl
theorem sh_few {D : Dm} (h : MayD D) (hl : D.cl.length = 256) (h0 : 0 < D.next.length) {k : Nat} {L : List SW} {sn : Nat → Bool} (hs : ShL D k L sn) (hne : L ≠ []) : k < D.next.length := by
 obtain ⟨p, hp⟩ : ∃ p, p ∈ L := List.exists_mem_of_ne_nil L hne
 obtain ⟨hw, ht⟩ := hs.is p hp
 refine Nat.lt_of_not_le fun hle => ?_
 have hnd : ((List.range (k + 1)).map fun i => toD D 0 (p.2.take i)).Nodup := by
  rw [List.Nodup, List.pairwise_map]
  refine (List.Pairwise.and_mem.1 List.pairwise_lt_range).imp fun {i j} hij he => ?_
  have hi := List.mem_range.1 hij.1
  have hj := List.mem_range.1 hij.2.1
  have hlt := hij.2.2
  refine hs.new p hp (p.2.take i ++ p.2.drop j) (by rw [List.length_append, List.length_take, List.length_drop]; omega) ?_
  rw [toD_app, he, ← toD_app, List.take_append_drop]
  exact ht
 have h1 := nodup_sub _ (List.range D.next.length) hnd fun q hq => by
  obtain ⟨i, _, rfl⟩ := List.mem_map.1 hq
  exact List.mem_range.2 (toD_ltA h hl _ 0 h0)
 rw [List.length_map, List.length_range, List.length_range] at h1
 omega
def fsB (ps : List (Nat → Bool)) (b : UInt8) : Bool := decide (b.toNat ∈ firstJ ps 256)
theorem cl_same {ps : List (Nat → Bool)} {b c : Nat} (hb : b < 256) (hc : c < 256) (h : clsOf ps b = clsOf ps c) : (ctab ps 256).getD b 0 = (ctab ps 256).getD c 0 := by
 rw [List.getD_eq_getElem?_getD, List.getD_eq_getElem?_getD, ctab_at ps hb, ctab_at ps hc, h]
theorem fsB_ok {D : Dm} {ps : List (Nat → Bool)} (hc : D.cl = ctab ps 256) (b : UInt8) : ∃ c, fsB ps c = true ∧ c ≤ b ∧ ∀ s, stD D s c = stD D s b := by
 obtain ⟨f, hf, ha⟩ := (firstJ_facts ps 256).2.2 b.toNat b.toNat_lt
 have hfl := firstJ_lt _ _ _ hf
 have hle : f ≤ b.toNat := Nat.le_of_not_lt fun h => by
  have h1 := (firstJ_facts ps 256).2.1 f hf b.toNat h
  rw [ha] at h1
  cases h1
 have hfn : (UInt8.ofNat f).toNat = f := toNat_ofNatQ hfl
 refine ⟨UInt8.ofNat f, ?_, ?_, fun s => ?_⟩
 ·unfold fsB
  rw [hfn]
  exact decide_eq_true hf
 ·rw [UInt8.le_iff_toNat_le, hfn]
  exact hle
 ·obtain ⟨k, hk⟩ := List.getElem?_of_mem hf
  have h1 := clsOf_first hk
  have h2 : clsOf ps b.toNat = k := (clsOf_is ps 256 b.toNat b.toNat_lt k (List.getElem?_eq_some_iff.1 hk).1).2 (by rw [(List.getElem?_eq_some_iff.1 hk).2]; exact ha)
  unfold stD
  rw [hfn, hc, cl_same hfl b.toNat_lt (h1.trans h2.symm)]
theorem fsB_is (ps : List (Nat → Bool)) {b : Nat} (hb : b < 256) : ∃ f, f < 256 ∧ (fbB ps 256)[clsOf ps b]? = some (UInt8.ofNat f) ∧ fsB ps (UInt8.ofNat b) = decide (f = b) := by
 have hk := clsOf_lt ps hb
 obtain ⟨f, hf⟩ : ∃ f, (firstJ ps 256)[clsOf ps b]? = some f := ⟨_, List.getElem?_eq_getElem hk⟩
 refine ⟨f, firstJ_lt _ _ _ (List.mem_of_getElem? hf), by unfold fbB; rw [List.getElem?_map, hf]; rfl, ?_⟩
 unfold fsB
 rw [toNat_ofNatQ hb, decide_eq_decide]
 constructor
 ·intro h
  obtain ⟨k, hk2⟩ := List.getElem?_of_mem h
  have h1 := clsOf_first hk2
  rw [h1, hk2] at hf
  exact (Option.some.inj hf).symm
 ·intro h
  rw [← h]
  exact List.mem_of_getElem? hf
/-! ### what is found so far -/
theorem ddS_snoc_old {sn : Nat → Bool} {c : List SW} {x : SW} (h : (ddS sn c).2 x.1 = true) : ddS sn (c ++ [x]) = ddS sn c := by
 rw [ddS_app, ddS_old h]
 show ((ddS sn c).1 ++ [], (ddS sn c).2) = _
 rw [List.append_nil]
theorem ddS_snoc_new {sn : Nat → Bool} {c : List SW} {x : SW} (h : (ddS sn c).2 x.1 = false) : ddS sn (c ++ [x]) = ((ddS sn c).1 ++ [x], fun s => (ddS sn c).2 s || s == x.1) := by
 rw [ddS_app, ddS_cons h]
 rfl
def cpre (D : Dm) (f : UInt8 → Bool) (L : List SW) (i b : Nat) (p : SW) : List SW := cndS D f (L.take i) ++ ((byts.take b).filter f).map fun c => (stD D p.1 c, p.2 ++ [c])
section
variable {D : Dm} {f : UInt8 → Bool} {L : List SW} {i b : Nat} {p : SW}
theorem cpre_zero : cpre D f L i 0 p = cndS D f (L.take i) := by simp [cpre]
theorem byts_at (hb : b < 256) : byts[b]? = some (UInt8.ofNat b) := by
 unfold byts
 rw [List.getElem?_map, List.getElem?_range hb]
 rfl
theorem cpre_no (hb : b < 256) (hf : f (UInt8.ofNat b) = false) : cpre D f L i (b + 1) p = cpre D f L i b p := by
 unfold cpre
 rw [List.take_add_one, byts_at hb, Option.toList_some, List.filter_append, List.filter_cons_of_neg (by rw [hf]; decide), List.filter_nil, List.append_nil]
theorem cpre_yes (hb : b < 256) (hf : f (UInt8.ofNat b) = true) : cpre D f L i (b + 1) p = cpre D f L i b p ++ [(stD D p.1 (UInt8.ofNat b), p.2 ++ [UInt8.ofNat b])] := by
 unfold cpre
 rw [List.take_add_one, byts_at hb, Option.toList_some, List.filter_append, List.filter_cons_of_pos hf, List.filter_nil, List.map_append, List.append_assoc]
 rfl
theorem cpre_all (hp : L[i]? = some p) : cpre D f L i 256 p = cndS D f (L.take (i + 1)) := by
 unfold cpre
 rw [List.take_of_length_le (Nat.le_of_eq byts_len), List.take_add_one, hp, Option.toList_some]
 show _ = cndS D f (L.take i ++ [p])
 unfold cndS
 rw [List.flatMap_append]
 simp
theorem cnd_all (h : L.length ≤ i) : cndS D f (L.take i) = cndS D f L := by rw [List.take_of_length_le h]
end
def farSw (g n : Nat) (v : Value) (w : World) : Nat := 2 * unm n (cellB w g) + (match v with | .slice _ m _ => if m = 0 then 0 else 1 | _ => 0)
structure FndS (n : Nat) (sn t : Nat → Bool) (M : List SW) : Prop where
 cnt : M.length + unm n t ≤ unm n sn
 rng : ∀ p ∈ M, p.1 < n
theorem FndS.start (n : Nat) (sn : Nat → Bool) : FndS n sn sn [] := ⟨by simp, fun p h => by cases h⟩
theorem FndS.add {n : Nat} {sn t t' : Nat → Bool} {M : List SW} (h : FndS n sn t M) {x : SW} (hx : x.1 < n) (ht : t x.1 = false) (he : ∀ s, t' s = (t s || s == x.1)) : FndS n sn t' (M ++ [x]) := by
 have h1 : unm n t' < unm n t := unm_less (fun q hq => by rw [he, hq]; rfl) ⟨x.1, hx, ht, by rw [he]; simp⟩
 refine ⟨by rw [List.length_append, List.length_singleton]; have := h.cnt; omega, fun p hp => ?_⟩
 rcases List.mem_append.1 hp with hp | hp
 ·exact h.rng p hp
 ·rw [List.mem_singleton.1 hp]
  exact hx
theorem FndS.few {n : Nat} {sn t : Nat → Bool} {M : List SW} (h : FndS n sn t M) : M.length ≤ n := by
 have h1 := h.cnt
 have h2 := unm_le n sn
 omega
theorem upd_or {t : Nat → Bool} {q : Nat} : ∀ s, updB t q true s = (t s || s == q) := fun s => by
 unfold updB
 by_cases h : s = q
 ·subst h
  simp
 ·rw [if_neg h, beq_eq_false_iff_ne.2 h, Bool.or_false]
theorem unm_own {w : World} {B g n cap : Nat} {t : Nat → Bool} (h : w.ownsRow B 4 1 (.slice (some ⟨g, 0, none⟩) n cap) n (bcs n t)) : unm n (cellB w g) = unm n t :=
 unm_congr fun q hq => by
  unfold cellB
  rw [(own_cell h (bcs_get t hq)).1]
def tyW : Nat → TypeId
 | 0 => 4
 | 1 => 3
 | 2 => 22
 | 4 => 3
 | _ => 5
def szW : Nat → Nat := fun _ => 1
def tb6 {α : Type} (a b c d e f : α) : Nat → α
 | 0 => a
 | 1 => b
 | 2 => c
 | 3 => d
 | 4 => e
 | _ => f
def XU (U : Nat → Value) (k : Nat) : Prop := ∃ i, i < 3 ∧ (U i).ownBlock = some k
def RO (w : World) (U : Nat → Value) (v : Value) (xs : List Value) : Prop := Row w v xs ∧ ∀ k, v.ownBlock = some k → k < w.heap.size ∧ ¬ XU U k
def RW (w : World) (U : Nat → Value) (kk : Nat) (vs : List Value) : Prop := ∀ v ∈ vs, ∃ l : List UInt8, l.length ≤ kk ∧ RO w U v (bvs l)
section
variable {w w' w'' : World} {H kk n : Nat} {U U' : Nat → Value} {X : Nat → List Value} {v : Value} {xs vs : List Value} {t : Nat → Bool}
theorem RO.step (h : RO w U v xs) (ho : Off (XU U) w w') (hx : ∀ k, XU U' k → XU U k ∨ w.heap.size ≤ k) : RO w' U' v xs :=
 ⟨h.1.off ho fun k hk => (h.2 k hk).2, fun k hk => ⟨Nat.lt_of_lt_of_le (h.2 k hk).1 ho.size, fun h2 => (hx k h2).elim (h.2 k hk).2 fun h3 => absurd (h.2 k hk).1 (Nat.not_lt.2 h3)⟩⟩
theorem RW.step (h : RW w U kk vs) (ho : Off (XU U) w w') (hx : ∀ k, XU U' k → XU U k ∨ w.heap.size ≤ k) : RW w' U' kk vs := fun v hv => by
 obtain ⟨l, hl, hr⟩ := h v hv
 exact ⟨l, hl, hr.step ho hx⟩
theorem RW.more (h : RW w U kk vs) {k2 : Nat} (hk : kk ≤ k2) : RW w U k2 vs := fun v hv => by
 obtain ⟨l, hl, hr⟩ := h v hv
 exact ⟨l, Nat.le_trans hl hk, hr⟩
theorem own_low {B n : Nat} {e : TypeId} (h : w.ownsRow B e 1 v n xs) (hb : H ≤ B) : w.ownsRow H e 1 v n xs := by
 refine ⟨h.1, ?_⟩
 rcases h.2 with h0 | ⟨g, cap, cur, rfl, hb2, h3⟩
 ·exact .inl h0
 ·exact .inr ⟨g, cap, cur, rfl, Nat.le_trans hb hb2, h3⟩
theorem own_cellsW {B n : Nat} {e : TypeId} (h : w.ownsRow B e 1 v n xs) : v.cells = #[v] ∧ v.oneCell' = true := by
 obtain ⟨A, c, rfl⟩ := ownC_slice h
 exact ⟨rfl, rfl⟩
structure ShS (w : World) (H n kk : Nat) (t : Nat → Bool) (U : Nat → Value) (X : Nat → List Value) (sv wv : Value) (vs xs : List Value) (L M : List Nat) : Prop where
 ap : ApS tyW szW w H 3 U X
 x0 : X 0 = bcs n t
 x1 : X 1 = nums .i64 (M.map fun (q : Nat) => (q : Int))
 x2 : X 2 = xs
 lx : xs.length = M.length
 rx : RW w U (kk + 1) xs
 st : RO w U sv (nums .i64 (L.map fun (q : Nat) => (q : Int)))
 wd : RO w U wv vs
 lw : vs.length = L.length
 rw : RW w U kk vs
 hs : H ≤ w.heap.size
section
variable {sv wv : Value} {L M : List Nat}
theorem ShS.new (h : ShS w H n kk t U X sv wv vs xs L M) (hb : Below w.heap.size w w') : ShS w' H n kk t U X sv wv vs xs L M :=
 have ho := Off.new (XU U) hb
 have hx : ∀ k, XU U k → XU U k ∨ w.heap.size ≤ k := fun k hk => .inl hk
 {h with ap := h.ap.below hb, rx := h.rx.step ho hx, st := h.st.step ho hx, wd := h.wd.step ho hx, rw := h.rw.step ho hx, hs := Nat.le_trans h.hs hb.size }
theorem ShS.seen (h : ShS w H n kk t U X sv wv vs xs L M) : w.ownsRow H 4 1 (U 0) n (bcs n t) := by
 have h1 := h.ap.own1 (i := 0) (by omega) rfl
 rw [h.x0, bcs_len] at h1
 exact h1
theorem ShS.own1 (h : ShS w H n kk t U X sv wv vs xs L M) : w.ownsRow H 3 1 (U 1) M.length (nums .i64 (M.map fun (q : Nat) => (q : Int))) := by
 have h1 := h.ap.own1 (i := 1) (by omega) rfl
 rw [h.x1, nums_length, List.length_map] at h1
 exact h1
theorem ShS.own2 (h : ShS w H n kk t U X sv wv vs xs L M) : w.ownsRow H 22 1 (U 2) M.length xs := by
 have h1 := h.ap.own1 (i := 2) (by omega) rfl
 rw [h.x2, h.lx] at h1
 exact h1
theorem ShS.mark (h : ShS w H n kk t U X sv wv vs xs L M) {g cg s : Nat} (hu : U 0 = .slice (some ⟨g, 0, none⟩) n cg) (hs : s < n) : ShS (w.setCell ⟨g, s, none⟩ (.bool true)) H n kk (updB t s true) U (putX X 0 (bcs n (updB t s true))) sv wv vs xs L M := by
 have hg : XU U g := ⟨0, by omega, by rw [hu]; rfl⟩
 have ho : Off (XU U) w (w.setCell ⟨g, s, none⟩ (.bool true)) := Off.set w s _ hg
 have hx : ∀ k, XU U k → XU U k ∨ w.heap.size ≤ k := fun k hk => .inl hk
 refine ⟨⟨fun i hi => ?_, h.ap.inj⟩, putX_at _ _ _, by rw [putX_ne (by decide)]; exact h.x1, by rw [putX_ne (by decide)]; exact h.x2, h.lx, h.rx.step ho hx, h.st.step ho hx, h.wd.step ho hx, h.lw, h.rw.step ho hx, by simpa using h.hs⟩
 by_cases h0 : i = 0
 ·subst h0
  refine ⟨n, ?_⟩
  rw [putX_at, hu]
  have h1 := h.seen
  rw [hu] at h1
  have h2 := own_set h1 (j := s) (by rw [bcs_len]; exact hs) (.bool true)
  rw [bcs_set] at h2
  exact h2
 ·rw [putX_ne h0]
  obtain ⟨m, hm⟩ := h.ap.own i hi
  exact ⟨m, own6_stay hm fun j hj => Below.heap_setCell w ⟨g, s, none⟩ _ j fun e => h.ap.inj 0 i (by omega) hi (Ne.symm h0) g (by rw [hu]; rfl) (by rw [← show j = g from e]; exact hj)⟩
theorem xu_nil (hk : XU (putV (putV U 1 (.slice none 0 0)) 2 (.slice none 0 0)) n) : (U 0).ownBlock = some n := by
 obtain ⟨i, hi, hb⟩ := hk
 have : i = 0 ∨ i = 1 ∨ i = 2 := by omega
 rcases this with rfl | rfl | rfl
 ·exact hb
 ·cases hb
 ·cases hb
theorem ShS.turn (h : ShS w H n kk t U X sv wv vs xs L M) : ShS w H n (kk + 1) t (putV (putV U 1 (.slice none 0 0)) 2 (.slice none 0 0)) (putX (putX X 1 []) 2 []) (U 1) (U 2) xs [] M [] := by
 have hx : ∀ k, XU (putV (putV U 1 (.slice none 0 0)) 2 (.slice none 0 0)) k → XU U k ∨ w.heap.size ≤ k := fun k hk => .inl ⟨0, by omega, xu_nil hk⟩
 have ro : ∀ i, i < 3 → i ≠ 0 → ∀ {m : Nat} {e : TypeId} {l : List Value}, w.ownsRow H e 1 (U i) m l → RO w (putV (putV U 1 (.slice none 0 0)) 2 (.slice none 0 0)) (U i) l := fun i hi h0 m e l ho =>
  ⟨Row.of_own ho, fun k hk => ⟨(own6_lt ho k hk).1, fun h2 => h.ap.inj 0 i (by omega) hi (Ne.symm h0) k (xu_nil h2) hk⟩⟩
 refine ⟨⟨fun i hi => ?_, fun i j hi hj hij k hk => ?_⟩, h.x0, rfl, rfl, rfl, fun v hv => (by cases hv), ro 1 (by omega) (by omega) h.own1, ro 2 (by omega) (by omega) h.own2, h.lx, h.rx.step (Off.refl _ _) hx, h.hs⟩
 ·have : i = 0 ∨ i = 1 ∨ i = 2 := by omega
  rcases this with rfl | rfl | rfl
  ·exact h.ap.own 0 hi
  ·exact ⟨0, by simp [putX, szW], .inl ⟨rfl, rfl⟩⟩
  ·exact ⟨0, by simp [putX, szW], .inl ⟨rfl, rfl⟩⟩
 ·have : i = 0 ∨ i = 1 ∨ i = 2 := by omega
  rcases this with rfl | rfl | rfl
  ·have : j = 1 ∨ j = 2 := by omega
   rcases this with rfl | rfl
   ·intro e; cases e
   ·intro e; cases e
  ·cases hk
  ·cases hk
end
structure Wk (wd w : World) (H : Nat) (v0 v1 v2 v3 v4 v5 : Value) (u1 u2 : Value) (l0 l1 l2 l3 l4 l5 : List Value) : Prop where
 ap : ApS tyW szW w H 6 (tb6 v0 v1 v2 v3 v4 v5) (tb6 l0 l1 l2 l3 l4 l5)
 off : Off (fun k => v0.ownBlock = some k ∨ u1.ownBlock = some k ∨ u2.ownBlock = some k) wd w
 n1 : ∀ k, v1.ownBlock = some k → u1.ownBlock = some k ∨ wd.heap.size ≤ k
 n2 : ∀ k, v2.ownBlock = some k → u2.ownBlock = some k ∨ wd.heap.size ≤ k
 n3 : ∀ k, v3.ownBlock = some k → wd.heap.size ≤ k
 hs : H ≤ w.heap.size
theorem grownB {r : Option Nat} (h : Below w.heap.size w w') : w.grownBy w' r := ⟨h.os, h.tape, h.output, h.size, fun k hk _ => h.block k hk⟩
theorem off_growW {D : Nat → Prop} {r : Option Nat} (h : Off D w w') (hg : w'.grownBy w'' r) (hr : ∀ k, r = some k → D k ∨ w.heap.size ≤ k) : Off D w w'' :=
 ⟨hg.os.trans h.os, hg.tape.trans h.tape, hg.output.trans h.output, Nat.le_trans h.size hg.size, fun k hk hn => (hg.block k (Nat.lt_of_lt_of_le hk h.size) fun e => (hr k e.symm).elim hn fun h2 => absurd hk (Nat.not_lt.2 h2)).trans (h.block k hk hn)⟩
theorem tb_put {α : Type} {a b c d e f x : α} : (fun i => if i = 1 then x else tb6 a b c d e f i) = tb6 a x c d e f ∧ (fun i => if i = 2 then x else tb6 a b c d e f i) = tb6 a b x d e f ∧ (fun i => if i = 3 then x else tb6 a b c d e f i) = tb6 a b c x e f ∧ (fun i => if i = 4 then x else tb6 a b c d e f i) = tb6 a b c d x f := by
 refine ⟨?_, ?_, ?_, ?_⟩ <;> funext i <;> match i with
  | 0 => rfl
  | 1 => rfl
  | 2 => rfl
  | 3 => rfl
  | 4 => rfl
  | i + 5 => rfl
section
variable {wd : World} {v0 v1 v2 v3 v4 v5 u1 u2 : Value} {l0 l1 l2 l3 l4 l5 l : List Value} {m : Nat}
theorem ap_5 (h : ApS tyW szW w H 6 (tb6 v0 v1 v2 v3 v4 v5) (tb6 l0 l1 l2 l3 l4 l5)) (ho : w'.ownsRow H 5 1 v m l) (hg : Below w.heap.size w w') (hw : ∀ k, v.ownBlock = some k → w.heap.size ≤ k) : ApS tyW szW w' H 6 (tb6 v0 v1 v2 v3 v4 v) (tb6 l0 l1 l2 l3 l4 l) := by
 have h1 := h.grow (s := 5) (by omega) (n := m) ho (grownB hg) fun k hk => .inr (hw k hk)
 refine ⟨fun i hi => ?_, fun i j hi hj => ?_⟩
 ·have h2 := h1.own i hi
  have : i = 0 ∨ i = 1 ∨ i = 2 ∨ i = 3 ∨ i = 4 ∨ i = 5 := by omega
  rcases this with rfl | rfl | rfl | rfl | rfl | rfl <;> exact h2
 ·have h2 := h1.inj i j hi hj
  have a1 : i = 0 ∨ i = 1 ∨ i = 2 ∨ i = 3 ∨ i = 4 ∨ i = 5 := by omega
  have a2 : j = 0 ∨ j = 1 ∨ j = 2 ∨ j = 3 ∨ j = 4 ∨ j = 5 := by omega
  rcases a1 with rfl | rfl | rfl | rfl | rfl | rfl <;> rcases a2 with rfl | rfl | rfl | rfl | rfl | rfl <;> exact h2
theorem Wk.bel (h : Wk wd w H v0 v1 v2 v3 v4 v5 u1 u2 l0 l1 l2 l3 l4 l5) (hb : Below w.heap.size w w') : Wk wd w' H v0 v1 v2 v3 v4 v5 u1 u2 l0 l1 l2 l3 l4 l5 :=
 {h with ap := h.ap.below hb, off := h.off.then hb, hs := Nat.le_trans h.hs hb.size }
theorem Wk.fresh3 (h : Wk wd w H v0 v1 v2 v3 v4 v5 u1 u2 l0 l1 l2 l3 l4 l5) (ho : w'.ownsRow w.heap.size 5 1 v m l) (hb : Below w.heap.size w w') : Wk wd w' H v0 v1 v2 v v4 v5 u1 u2 l0 l1 l2 l l4 l5 := by
 have h1 := h.ap.grow (s := 3) (by omega) (n := m) (own_low ho h.hs) (grownB hb) fun k hk => .inr (own6_lt ho k hk).2
 unfold putV putX at h1
 rw [tb_put.2.2.1, tb_put.2.2.1] at h1
 exact ⟨h1, h.off.then hb, h.n1, h.n2, fun k hk => Nat.le_trans h.off.size (own6_lt ho k hk).2, Nat.le_trans h.hs hb.size⟩
theorem Wk.fresh4 (h : Wk wd w H v0 v1 v2 v3 v4 v5 u1 u2 l0 l1 l2 l3 l4 l5) (ho : w'.ownsRow w.heap.size 3 1 v m l) (hb : Below w.heap.size w w') : Wk wd w' H v0 v1 v2 v3 v v5 u1 u2 l0 l1 l2 l3 l l5 := by
 have h1 := h.ap.grow (s := 4) (by omega) (n := m) (own_low ho h.hs) (grownB hb) fun k hk => .inr (own6_lt ho k hk).2
 unfold putV putX at h1
 rw [tb_put.2.2.2, tb_put.2.2.2] at h1
 exact ⟨h1, h.off.then hb, h.n1, h.n2, h.n3, Nat.le_trans h.hs hb.size⟩
theorem Wk.fresh5 (h : Wk wd w H v0 v1 v2 v3 v4 v5 u1 u2 l0 l1 l2 l3 l4 l5) (ho : w'.ownsRow w.heap.size 5 1 v m l) (hb : Below w.heap.size w w') : Wk wd w' H v0 v1 v2 v3 v4 v u1 u2 l0 l1 l2 l3 l4 l :=
 ⟨ap_5 h.ap (own_low ho h.hs) hb fun k hk => (own6_lt ho k hk).2, h.off.then hb, h.n1, h.n2, h.n3, Nat.le_trans h.hs hb.size⟩
theorem Wk.grow1 (h : Wk wd w H v0 v1 v2 v3 v4 v5 u1 u2 l0 l1 l2 l3 l4 l5) (ho : w'.ownsRow H 3 1 v m l) (hg : w.grownBy w' v1.ownBlock) (hw : ∀ k, v.ownBlock = some k → v1.ownBlock = some k ∨ w.heap.size ≤ k) : Wk wd w' H v0 v v2 v3 v4 v5 u1 u2 l0 l l2 l3 l4 l5 := by
 have h1 := h.ap.grow (s := 1) (by omega) (n := m) ho hg hw
 unfold putV putX at h1
 rw [tb_put.1, tb_put.1] at h1
 exact ⟨h1, off_growW h.off hg fun k hk => (h.n1 k hk).imp (fun e => .inr (.inl e)) id, fun k hk => (hw k hk).elim (h.n1 k) fun e => .inr (Nat.le_trans h.off.size e), h.n2, h.n3, Nat.le_trans h.hs hg.size⟩
theorem Wk.grow2 (h : Wk wd w H v0 v1 v2 v3 v4 v5 u1 u2 l0 l1 l2 l3 l4 l5) (ho : w'.ownsRow H 22 1 v m l) (hg : w.grownBy w' v2.ownBlock) (hw : ∀ k, v.ownBlock = some k → v2.ownBlock = some k ∨ w.heap.size ≤ k) : Wk wd w' H v0 v1 v v3 v4 v5 u1 u2 l0 l1 l l3 l4 l5 := by
 have h1 := h.ap.grow (s := 2) (by omega) (n := m) ho hg hw
 unfold putV putX at h1
 rw [tb_put.2.1, tb_put.2.1] at h1
 exact ⟨h1, off_growW h.off hg fun k hk => (h.n2 k hk).imp (fun e => .inr (.inr e)) id, h.n1, fun k hk => (hw k hk).elim (h.n2 k) fun e => .inr (Nat.le_trans h.off.size e), h.n3, Nat.le_trans h.hs hg.size⟩
theorem Wk.grow3 (h : Wk wd w H v0 v1 v2 v3 v4 v5 u1 u2 l0 l1 l2 l3 l4 l5) (ho : w'.ownsRow H 5 1 v m l) (hg : w.grownBy w' v3.ownBlock) (hw : ∀ k, v.ownBlock = some k → v3.ownBlock = some k ∨ w.heap.size ≤ k) : Wk wd w' H v0 v1 v2 v v4 v5 u1 u2 l0 l1 l2 l l4 l5 := by
 have h1 := h.ap.grow (s := 3) (by omega) (n := m) ho hg hw
 unfold putV putX at h1
 rw [tb_put.2.2.1, tb_put.2.2.1] at h1
 exact ⟨h1, off_growW h.off hg fun k hk => .inr (h.n3 k hk), h.n1, h.n2, fun k hk => (hw k hk).elim (h.n3 k) fun e => Nat.le_trans h.off.size e, Nat.le_trans h.hs hg.size⟩
theorem Wk.at1 (h : Wk wd w H v0 v1 v2 v3 v4 v5 u1 u2 l0 l1 l2 l3 l4 l5) : w.ownsRow H 3 1 v1 l1.length l1 := h.ap.own1 (i := 1) (by omega) rfl
theorem Wk.at2 (h : Wk wd w H v0 v1 v2 v3 v4 v5 u1 u2 l0 l1 l2 l3 l4 l5) : w.ownsRow H 22 1 v2 l2.length l2 := h.ap.own1 (i := 2) (by omega) rfl
theorem Wk.at3 (h : Wk wd w H v0 v1 v2 v3 v4 v5 u1 u2 l0 l1 l2 l3 l4 l5) : w.ownsRow H 5 1 v3 l3.length l3 := h.ap.own1 (i := 3) (by omega) rfl
theorem Wk.at4 (h : Wk wd w H v0 v1 v2 v3 v4 v5 u1 u2 l0 l1 l2 l3 l4 l5) : Row w v4 l4 := Row.of_own (h.ap.own1 (i := 4) (by omega) rfl)
theorem Wk.at5 (h : Wk wd w H v0 v1 v2 v3 v4 v5 u1 u2 l0 l1 l2 l3 l4 l5) : Row w v5 l5 := Row.of_own (h.ap.own1 (i := 5) (by omega) rfl)
variable {sv wv : Value} {L M : List Nat}
theorem ShS.wk (h : ShS wd H n kk t U X sv wv vs xs L M) (hb : Below wd.heap.size wd w) : Wk wd w H (U 0) (U 1) (U 2) (.slice none 0 0) (.slice none 0 0) (.slice none 0 0) (U 1) (U 2) (bcs n t) (nums .i64 (M.map fun (q : Nat) => (q : Int))) xs [] [] [] := by
 have h2 := h.new hb
 refine ⟨⟨fun i hi => ?_, fun i j hi hj hij k hk => ?_⟩, Off.new _ hb, fun k hk => .inl hk, fun k hk => .inl hk, fun k hk => (by cases hk), h2.hs⟩
 ·have : i = 0 ∨ i = 1 ∨ i = 2 ∨ i = 3 ∨ i = 4 ∨ i = 5 := by omega
  rcases this with rfl | rfl | rfl | rfl | rfl | rfl
  ·exact ⟨_, h2.seen⟩
  ·exact ⟨_, h2.own1⟩
  ·exact ⟨_, h2.own2⟩
  ·exact ⟨0, rfl, .inl ⟨rfl, rfl⟩⟩
  ·exact ⟨0, rfl, .inl ⟨rfl, rfl⟩⟩
  ·exact ⟨0, rfl, .inl ⟨rfl, rfl⟩⟩
 ·have a1 : i = 0 ∨ i = 1 ∨ i = 2 ∨ i = 3 ∨ i = 4 ∨ i = 5 := by omega
  have a2 : j = 0 ∨ j = 1 ∨ j = 2 ∨ j = 3 ∨ j = 4 ∨ j = 5 := by omega
  rcases a1 with rfl | rfl | rfl | rfl | rfl | rfl <;> first | (cases hk; done) | (rcases a2 with rfl | rfl | rfl | rfl | rfl | rfl <;> first | exact absurd rfl hij | exact h.ap.inj _ _ (by omega) (by omega) hij k hk | (intro e; cases e))
theorem ShS.push (h : ShS wd H n kk t U X sv wv vs xs L M) {q : Nat} {bs : List UInt8} (hl : bs.length ≤ kk + 1) (hw : Wk wd w H (U 0) v1 v2 v3 v4 v5 (U 1) (U 2) (bcs n t) (nums .i64 ((M ++ [q]).map fun (q : Nat) => (q : Int))) (xs ++ [v3]) (bvs bs) l4 l5) :
  ShS w H n kk t (tb6 (U 0) v1 v2 v3 v4 v5) (tb6 (bcs n t) (nums .i64 ((M ++ [q]).map fun (q : Nat) => (q : Int))) (xs ++ [v3]) (bvs bs) l4 l5) sv wv vs (xs ++ [v3]) L (M ++ [q]) := by
 have ho : Off (XU U) wd w := hw.off.mono fun k _ hk => by
  rcases hk with e | e | e
  ·exact ⟨0, by omega, e⟩
  ·exact ⟨1, by omega, e⟩
  ·exact ⟨2, by omega, e⟩
 have hx : ∀ k, XU (tb6 (U 0) v1 v2 v3 v4 v5) k → XU U k ∨ wd.heap.size ≤ k := fun k ⟨i, hi, hk⟩ => by
  have : i = 0 ∨ i = 1 ∨ i = 2 := by omega
  rcases this with rfl | rfl | rfl
  ·exact .inl ⟨0, by omega, hk⟩
  ·exact (hw.n1 k hk).imp (fun e => ⟨1, by omega, e⟩) id
  ·exact (hw.n2 k hk).imp (fun e => ⟨2, by omega, e⟩) id
 refine ⟨hw.ap.fewer.fewer.fewer, rfl, rfl, rfl, by rw [List.length_append, List.length_append, h.lx]; rfl, fun v hv => ?_, h.st.step ho hx, h.wd.step ho hx, h.lw, h.rw.step ho hx, hw.hs⟩
 rcases List.mem_append.1 hv with hv | hv
 ·exact h.rx.step ho hx v hv
 ·rw [List.mem_singleton.1 hv]
  exact ⟨bs, hl, Row.of_own hw.at3, fun k hk => ⟨(own6_lt hw.at3 k hk).1, fun ⟨i, hi, h2⟩ => hw.ap.inj 3 i (by omega) (by omega) (by omega) k hk h2⟩⟩
end
end
theorem shS_start {w : World} {H n g : Nat} {t : Nat → Bool} {sv wv : Value} (hg : w.ownsRow H 4 1 (.slice (some ⟨g, 0, none⟩) n n) n (bcs n t)) (hs : Row w sv (nums .i64 [0])) (hsb : ∀ k, sv.ownBlock = some k → k < w.heap.size ∧ k ≠ g) (hw : Row w wv [.slice none 0 0]) (hwb : ∀ k, wv.ownBlock = some k → k < w.heap.size ∧ k ≠ g) (hH : H ≤ w.heap.size) :
  ShS w H n 0 t (tb6 (.slice (some ⟨g, 0, none⟩) n n) (.slice none 0 0) (.slice none 0 0) undef undef undef) (tb6 (bcs n t) [] [] [] [] []) sv wv [.slice none 0 0] [] [0] [] := by
 have xu : ∀ k, XU (tb6 (.slice (some ⟨g, 0, none⟩) n n) (.slice none 0 0) (.slice none 0 0) undef undef undef) k → k = g := fun k ⟨i, hi, hk⟩ => by
  have : i = 0 ∨ i = 1 ∨ i = 2 := by omega
  rcases this with rfl | rfl | rfl
  ·exact (Option.some.inj hk).symm
  ·cases hk
  ·cases hk
 refine ⟨⟨fun i hi => ?_, fun i j hi hj hij k hk => ?_⟩, rfl, rfl, rfl, rfl, fun v hv => (by cases hv), ⟨hs, fun k hk => ⟨(hsb k hk).1, fun h => (hsb k hk).2 (xu k h)⟩⟩, ⟨hw, fun k hk => ⟨(hwb k hk).1, fun h => (hwb k hk).2 (xu k h)⟩⟩, rfl, fun v hv => ?_, hH⟩
 ·have : i = 0 ∨ i = 1 ∨ i = 2 := by omega
  rcases this with rfl | rfl | rfl
  ·exact ⟨n, hg⟩
  ·exact ⟨0, rfl, .inl ⟨rfl, rfl⟩⟩
  ·exact ⟨0, rfl, .inl ⟨rfl, rfl⟩⟩
 ·have a1 : i = 0 ∨ i = 1 ∨ i = 2 := by omega
  have a2 : j = 0 ∨ j = 1 ∨ j = 2 := by omega
  rcases a1 with rfl | rfl | rfl <;> first | (cases hk; done) | (rcases a2 with rfl | rfl | rfl <;> first | exact absurd rfl hij | (intro e; cases e))
 ·rw [List.mem_singleton.1 hv]
  exact ⟨[], Nat.le_refl _, Row.nil w, fun k hk => by cases hk⟩
theorem one_maxW {v : Value} : [v].length ≤ maxLen := by
 show 1 ≤ maxLen
 decide
theorem one_iW (q : Nat) : ∀ u ∈ [Value.int .i64 (q : Int)], u.oneCell' = true := fun u hu => by
 rw [List.mem_singleton.1 hu]
 rfl
theorem one_uW (q : Nat) : ∀ u ∈ [Value.int .u8 (q : Int)], u.oneCell' = true := fun u hu => by
 rw [List.mem_singleton.1 hu]
 rfl
theorem bvs_oneW (l : List UInt8) : ∀ u ∈ bvs l, u.oneCell' = true := List.all_eq_true.1 (bvs_all' l)
section
variable {ev : Operand → Value} {o : Oper} {p : Addr} {W : World} {A : Option Addr} {n c : Nat}
theorem wj_ldR (x : Operand) (ho : o.op = .load 22 x) (hx : ev x = .pointer (some p)) (hc : W.cell? p = some (.slice A n c)) : (execOp ev o).run Try.prog W = .ok (.value (.slice A n c)) W := by
 simp only [execOp, ho, hx]
 go_simp
theorem wj_ixR (x i : Operand) (ho : o.op = .indexAddr 48 x i) {b off q : Nat} (hx : ev x = .slice (some ⟨b, off, none⟩) n c) (hi : ev i = .int .i64 (q : Int)) (hq : q < n) (W : World) : (execOp ev o).run Try.prog W = .ok (.value (.pointer (some ⟨b, off + q, none⟩))) W := by
 have h1 : (q : Int) < (n : Int) := Int.ofNat_lt.2 hq
 simp only [execOp, ho, hx, hi]
 go_simp
end
section
variable {P : Program} {ops : Array Oper} {Q : Exit → Act → World → Prop} {md : Region.Mode} {T S : World → Prop} {n : Nat}
theorem mc_threeW {i j k : Nat} {oi oj ok : Oper} {fuel : Nat} {listed : Array Bool} {a : Act} {w : World} (hi : ops[i]? = some oi) (hj : ops[j]? = some oj) (hk : ops[k]? = some ok) (hr : Region.ready md ops listed = [i, j, k])
  (hwi : Region.wanted oi (yielded ops a.tmps) = true) (hwj : Region.wanted oj (yielded ops a.tmps) = true) (hwk : Region.wanted ok (yielded ops a.tmps) = true)
  (h1 : ∀ K : Act → World → Prop, (∀ a' w', T w' → S w' → wpAnyC P md ops Q T S n fuel (listed.setIfInBounds i true) a' w' → K a' w') → oi.wp P a w K Q)
  (h2 : ∀ K : Act → World → Prop, (∀ a' w', T w' → S w' → wpAnyC P md ops Q T S n fuel (listed.setIfInBounds j true) a' w' → K a' w') → oj.wp P a w K Q)
  (h3 : ∀ K : Act → World → Prop, (∀ a' w', T w' → S w' → wpAnyC P md ops Q T S n fuel (listed.setIfInBounds k true) a' w' → K a' w') → ok.wp P a w K Q) :
  wpAnyC P md ops Q T S n (fuel + 1) listed a w := by
 refine ⟨fun h0 => (by rw [hr] at h0; cases h0), fun x hx => ?_⟩
 rw [hr] at hx
 have hx2 : x = i ∨ x = j ∨ x = k := by simpa using hx
 unfold wpOp
 rcases hx2 with rfl | rfl | rfl
 ·rw [hi]
  simp only [hwi, if_true]
  exact .inl (h1 _ fun a' w' ht hs hk => ⟨ht, fun _ _ => hs, hk⟩)
 ·rw [hj]
  simp only [hwj, if_true]
  exact .inl (h2 _ fun a' w' ht hs hk => ⟨ht, fun _ _ => hs, hk⟩)
 ·rw [hk]
  simp only [hwk, if_true]
  exact .inl (h3 _ fun a' w' ht hs hk => ⟨ht, fun _ _ => hs, hk⟩)
end
theorem inf_rowW : (Try.prog.info? 22).map (fun i => (i.zero, i.size, i.bytes)) = some (some (.slice none 0 0), 1, 24) := by kernel_rfl
theorem bvs_appendW (l : List UInt8) (c : UInt8) : bvs (l ++ [c]) = bvs l ++ [bv c] := by simp [bvs]
theorem cell_ltW {w : World} {b o : Nat} {v : Value} (h : w.cell? ⟨b, o, none⟩ = some v) : b < w.heap.size := by
 refine Nat.lt_of_not_le fun hle => ?_
 unfold World.cell? at h
 simp [Array.getElem?_eq_none hle] at h
theorem grown_belowO {w w' : World} {B n : Nat} {e : TypeId} {v : Value} {xs : List Value} (h : w.ownsRow B e 1 v n xs) (hg : w.grownBy w' v.ownBlock) (hB : B ≤ w.heap.size) : Below B w w' :=
 below_own (Below.refl B w) hB hg fun k hk => (own6_lt h k hk).2
def ShoE (D : Dm) (w : World) (e : Ending) (w' : World) : Prop := ∃ v b, e = .returned (.tuple #[v, .bool b]) ∧ (b = true ↔ ∃ u, accD D 0 u = true) ∧ Below w.heap.size w w'
end Go.Proofs.Ytiehefnbdijiaaa
