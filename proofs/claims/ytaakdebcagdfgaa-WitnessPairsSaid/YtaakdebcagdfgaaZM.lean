/-
  Texts of this proof, put together: WjA, WiC, WiD, WmA. No statement is proved here.
-/
import Derived.Test.YtaakdebcagdfgaaZF
import Derived.Test.YtaakdebcagdfgaaZL
import Derived.Test.YtaakdebcagdfgaaZJ
import Derived.Test.YtaakdebcagdfgaaZH
namespace Go.Proofs.Ytaakdebcagdfgaa
open Go.RowKit
set_option linter.unusedSimpArgs false
set_option linter.unusedVariables false
def tyW : Nat → TypeId
 | 0 => 4
 | 1 => 3
 | 2 => 22
 | 4 => 3
 | _ => 5
def szW : Nat → Nat := fun _ => 1
def tb6 {α : Type} (a b c d e f : α) : Nat → α
 | 0 => a
 | 1 => b
 | 2 => c
 | 3 => d
 | 4 => e
 | _ => f
def XU (U : Nat → Value) (k : Nat) : Prop := ∃ i, i < 3 ∧ (U i).ownBlock = some k
def RO (w : World) (U : Nat → Value) (v : Value) (xs : List Value) : Prop := Row w v xs ∧ ∀ k, v.ownBlock = some k → k < w.heap.size ∧ ¬ XU U k
def RW (w : World) (U : Nat → Value) (vs : List Value) (ls : List (List UInt8)) : Prop := vs.length = ls.length ∧ ∀ (i : Nat) (l : List UInt8), ls[i]? = some l → ∃ v, vs[i]? = some v ∧ RO w U v (bvs l)
section
variable {w w' w'' : World} {H n : Nat} {U U' : Nat → Value} {X : Nat → List Value} {v : Value} {xs vs : List Value} {t : Nat → Bool}
theorem RO.step (h : RO w U v xs) (ho : Off (XU U) w w') (hx : ∀ k, XU U' k → XU U k ∨ w.heap.size ≤ k) : RO w' U' v xs :=
 ⟨h.1.off ho fun k hk => (h.2 k hk).2, fun k hk => ⟨Nat.lt_of_lt_of_le (h.2 k hk).1 ho.size, fun h2 => (hx k h2).elim (h.2 k hk).2 fun h3 => absurd (h.2 k hk).1 (Nat.not_lt.2 h3)⟩⟩
theorem RW.step {ls : List (List UInt8)} (h : RW w U vs ls) (ho : Off (XU U) w w') (hx : ∀ k, XU U' k → XU U k ∨ w.heap.size ≤ k) : RW w' U' vs ls := ⟨h.1, fun i l hl => by
  obtain ⟨v, hv, hr⟩ := h.2 i l hl
  exact ⟨v, hv, hr.step ho hx⟩⟩
theorem RW.snoc {ls : List (List UInt8)} (h : RW w U vs ls) {l : List UInt8} (hr : RO w U v (bvs l)) : RW w U (vs ++ [v]) (ls ++ [l]) := by
 refine ⟨by rw [List.length_append, List.length_append, h.1]; rfl, fun i x hx => ?_⟩
 by_cases hi : i < ls.length
 ·rw [List.getElem?_append_left hi] at hx
  obtain ⟨u, hu, h2⟩ := h.2 i x hx
  exact ⟨u, by rw [List.getElem?_append_left (by rw [h.1]; exact hi)]; exact hu, h2⟩
 ·have h3 := (List.getElem?_eq_some_iff.1 hx).1
  rw [List.length_append, List.length_singleton] at h3
  obtain rfl : i = ls.length := by omega
  rw [List.getElem?_append_right (Nat.le_refl _), Nat.sub_self] at hx
  have e : l = x := Option.some.inj hx
  subst e
  exact ⟨v, by rw [List.getElem?_append_right (by rw [h.1]; exact Nat.le_refl _), h.1, Nat.sub_self]; rfl, hr⟩
theorem own_low {B n : Nat} {e : TypeId} (h : w.ownsRow B e 1 v n xs) (hb : H ≤ B) : w.ownsRow H e 1 v n xs := by
 refine ⟨h.1, ?_⟩
 rcases h.2 with h0 | ⟨g, cap, cur, rfl, hb2, h3⟩
 ·exact .inl h0
 ·exact .inr ⟨g, cap, cur, rfl, Nat.le_trans hb hb2, h3⟩
theorem own_cellsW {B n : Nat} {e : TypeId} (h : w.ownsRow B e 1 v n xs) : v.cells = #[v] ∧ v.oneCell' = true := by
 obtain ⟨A, c, rfl⟩ := ownC_slice h
 exact ⟨rfl, rfl⟩
structure ShS (w : World) (H n : Nat) (t : Nat → Bool) (U : Nat → Value) (X : Nat → List Value) (sv wv : Value) (vs xs : List Value) (L M : List Nat) (vl xl : List (List UInt8)) : Prop where
 ap : ApS tyW szW w H 3 U X
 x0 : X 0 = bcs n t
 x1 : X 1 = nums .i64 (M.map fun (q : Nat) => (q : Int))
 x2 : X 2 = xs
 lx : xs.length = M.length
 rx : RW w U xs xl
 st : RO w U sv (nums .i64 (L.map fun (q : Nat) => (q : Int)))
 wd : RO w U wv vs
 lw : vs.length = L.length
 rw : RW w U vs vl
 hs : H ≤ w.heap.size
section
variable {sv wv : Value} {L M : List Nat} {vl xl : List (List UInt8)}
theorem ShS.new (h : ShS w H n t U X sv wv vs xs L M vl xl) (hb : Below w.heap.size w w') : ShS w' H n t U X sv wv vs xs L M vl xl :=
 have ho := Off.new (XU U) hb
 have hx : ∀ k, XU U k → XU U k ∨ w.heap.size ≤ k := fun k hk => .inl hk
 {h with ap := h.ap.below hb, rx := h.rx.step ho hx, st := h.st.step ho hx, wd := h.wd.step ho hx, rw := h.rw.step ho hx, hs := Nat.le_trans h.hs hb.size }
theorem ShS.seen (h : ShS w H n t U X sv wv vs xs L M vl xl) : w.ownsRow H 4 1 (U 0) n (bcs n t) := by
 have h1 := h.ap.own1 (i := 0) (by omega) rfl
 rw [h.x0, bcs_len] at h1
 exact h1
theorem ShS.own1 (h : ShS w H n t U X sv wv vs xs L M vl xl) : w.ownsRow H 3 1 (U 1) M.length (nums .i64 (M.map fun (q : Nat) => (q : Int))) := by
 have h1 := h.ap.own1 (i := 1) (by omega) rfl
 rw [h.x1, nums_length, List.length_map] at h1
 exact h1
theorem ShS.own2 (h : ShS w H n t U X sv wv vs xs L M vl xl) : w.ownsRow H 22 1 (U 2) M.length xs := by
 have h1 := h.ap.own1 (i := 2) (by omega) rfl
 rw [h.x2, h.lx] at h1
 exact h1
theorem ShS.mark (h : ShS w H n t U X sv wv vs xs L M vl xl) {g cg s : Nat} (hu : U 0 = .slice (some ⟨g, 0, none⟩) n cg) (hs : s < n) : ShS (w.setCell ⟨g, s, none⟩ (.bool true)) H n (updB t s true) U (putX X 0 (bcs n (updB t s true))) sv wv vs xs L M vl xl := by
 have hg : XU U g := ⟨0, by omega, by rw [hu]; rfl⟩
 have ho : Off (XU U) w (w.setCell ⟨g, s, none⟩ (.bool true)) := Off.set w s _ hg
 have hx : ∀ k, XU U k → XU U k ∨ w.heap.size ≤ k := fun k hk => .inl hk
 refine ⟨⟨fun i hi => ?_, h.ap.inj⟩, putX_at _ _ _, by rw [putX_ne (by decide)]; exact h.x1, by rw [putX_ne (by decide)]; exact h.x2, h.lx, h.rx.step ho hx, h.st.step ho hx, h.wd.step ho hx, h.lw, h.rw.step ho hx, by simpa using h.hs⟩
 by_cases h0 : i = 0
 ·subst h0
  refine ⟨n, ?_⟩
  rw [putX_at, hu]
  have h1 := h.seen
  rw [hu] at h1
  have h2 := own_set h1 (j := s) (by rw [bcs_len]; exact hs) (.bool true)
  rw [bcs_set] at h2
  exact h2
 ·rw [putX_ne h0]
  obtain ⟨m, hm⟩ := h.ap.own i hi
  exact ⟨m, own6_stay hm fun j hj => Below.heap_setCell w ⟨g, s, none⟩ _ j fun e => h.ap.inj 0 i (by omega) hi (Ne.symm h0) g (by rw [hu]; rfl) (by rw [← show j = g from e]; exact hj)⟩
theorem xu_nil (hk : XU (putV (putV U 1 (.slice none 0 0)) 2 (.slice none 0 0)) n) : (U 0).ownBlock = some n := by
 obtain ⟨i, hi, hb⟩ := hk
 have : i = 0 ∨ i = 1 ∨ i = 2 := by omega
 rcases this with rfl | rfl | rfl
 ·exact hb
 ·cases hb
 ·cases hb
theorem ShS.turn (h : ShS w H n t U X sv wv vs xs L M vl xl) : ShS w H n t (putV (putV U 1 (.slice none 0 0)) 2 (.slice none 0 0)) (putX (putX X 1 []) 2 []) (U 1) (U 2) xs [] M [] xl [] := by
 have hx : ∀ k, XU (putV (putV U 1 (.slice none 0 0)) 2 (.slice none 0 0)) k → XU U k ∨ w.heap.size ≤ k := fun k hk => .inl ⟨0, by omega, xu_nil hk⟩
 have ro : ∀ i, i < 3 → i ≠ 0 → ∀ {m : Nat} {e : TypeId} {l : List Value}, w.ownsRow H e 1 (U i) m l → RO w (putV (putV U 1 (.slice none 0 0)) 2 (.slice none 0 0)) (U i) l := fun i hi h0 m e l ho =>
  ⟨Row.of_own ho, fun k hk => ⟨(own6_lt ho k hk).1, fun h2 => h.ap.inj 0 i (by omega) hi (Ne.symm h0) k (xu_nil h2) hk⟩⟩
 refine ⟨⟨fun i hi => ?_, fun i j hi hj hij k hk => ?_⟩, h.x0, rfl, rfl, rfl, ⟨rfl, fun i l hl => (by cases hl)⟩, ro 1 (by omega) (by omega) h.own1, ro 2 (by omega) (by omega) h.own2, h.lx, h.rx.step (Off.refl _ _) hx, h.hs⟩
 ·have : i = 0 ∨ i = 1 ∨ i = 2 := by omega
  rcases this with rfl | rfl | rfl
  ·exact h.ap.own 0 hi
  ·exact ⟨0, by simp [putX, szW], .inl ⟨rfl, rfl⟩⟩
  ·exact ⟨0, by simp [putX, szW], .inl ⟨rfl, rfl⟩⟩
 ·have : i = 0 ∨ i = 1 ∨ i = 2 := by omega
  rcases this with rfl | rfl | rfl
  ·have : j = 1 ∨ j = 2 := by omega
   rcases this with rfl | rfl
   ·intro e; cases e
   ·intro e; cases e
  ·cases hk
  ·cases hk
end
structure Wk (wd w : World) (H : Nat) (v0 v1 v2 v3 v4 v5 : Value) (u1 u2 : Value) (l0 l1 l2 l3 l4 l5 : List Value) : Prop where
 ap : ApS tyW szW w H 6 (tb6 v0 v1 v2 v3 v4 v5) (tb6 l0 l1 l2 l3 l4 l5)
 off : Off (fun k => v0.ownBlock = some k ∨ u1.ownBlock = some k ∨ u2.ownBlock = some k) wd w
 n1 : ∀ k, v1.ownBlock = some k → u1.ownBlock = some k ∨ wd.heap.size ≤ k
 n2 : ∀ k, v2.ownBlock = some k → u2.ownBlock = some k ∨ wd.heap.size ≤ k
 n3 : ∀ k, v3.ownBlock = some k → wd.heap.size ≤ k
 hs : H ≤ w.heap.size
theorem grownB {r : Option Nat} (h : Below w.heap.size w w') : w.grownBy w' r := ⟨h.os, h.tape, h.output, h.size, fun k hk _ => h.block k hk⟩
theorem off_growW {D : Nat → Prop} {r : Option Nat} (h : Off D w w') (hg : w'.grownBy w'' r) (hr : ∀ k, r = some k → D k ∨ w.heap.size ≤ k) : Off D w w'' :=
 ⟨hg.os.trans h.os, hg.tape.trans h.tape, hg.output.trans h.output, Nat.le_trans h.size hg.size, fun k hk hn => (hg.block k (Nat.lt_of_lt_of_le hk h.size) fun e => (hr k e.symm).elim hn fun h2 => absurd hk (Nat.not_lt.2 h2)).trans (h.block k hk hn)⟩
theorem tb_put {α : Type} {a b c d e f x : α} : (fun i => if i = 1 then x else tb6 a b c d e f i) = tb6 a x c d e f ∧ (fun i => if i = 2 then x else tb6 a b c d e f i) = tb6 a b x d e f ∧ (fun i => if i = 3 then x else tb6 a b c d e f i) = tb6 a b c x e f ∧ (fun i => if i = 4 then x else tb6 a b c d e f i) = tb6 a b c d x f := by
 refine ⟨?_, ?_, ?_, ?_⟩ <;> funext i <;> match i with
  | 0 => rfl
  | 1 => rfl
  | 2 => rfl
  | 3 => rfl
  | 4 => rfl
  | i + 5 => rfl
section
variable {wd : World} {v0 v1 v2 v3 v4 v5 u1 u2 : Value} {l0 l1 l2 l3 l4 l5 l : List Value} {m : Nat}
theorem ap_5 (h : ApS tyW szW w H 6 (tb6 v0 v1 v2 v3 v4 v5) (tb6 l0 l1 l2 l3 l4 l5)) (ho : w'.ownsRow H 5 1 v m l) (hg : Below w.heap.size w w') (hw : ∀ k, v.ownBlock = some k → w.heap.size ≤ k) : ApS tyW szW w' H 6 (tb6 v0 v1 v2 v3 v4 v) (tb6 l0 l1 l2 l3 l4 l) := by
 have h1 := h.grow (s := 5) (by omega) (n := m) ho (grownB hg) fun k hk => .inr (hw k hk)
 refine ⟨fun i hi => ?_, fun i j hi hj => ?_⟩
 ·have h2 := h1.own i hi
  have : i = 0 ∨ i = 1 ∨ i = 2 ∨ i = 3 ∨ i = 4 ∨ i = 5 := by omega
  rcases this with rfl | rfl | rfl | rfl | rfl | rfl <;> exact h2
 ·have h2 := h1.inj i j hi hj
  have a1 : i = 0 ∨ i = 1 ∨ i = 2 ∨ i = 3 ∨ i = 4 ∨ i = 5 := by omega
  have a2 : j = 0 ∨ j = 1 ∨ j = 2 ∨ j = 3 ∨ j = 4 ∨ j = 5 := by omega
  rcases a1 with rfl | rfl | rfl | rfl | rfl | rfl <;> rcases a2 with rfl | rfl | rfl | rfl | rfl | rfl <;> exact h2
theorem Wk.bel (h : Wk wd w H v0 v1 v2 v3 v4 v5 u1 u2 l0 l1 l2 l3 l4 l5) (hb : Below w.heap.size w w') : Wk wd w' H v0 v1 v2 v3 v4 v5 u1 u2 l0 l1 l2 l3 l4 l5 :=
 {h with ap := h.ap.below hb, off := h.off.then hb, hs := Nat.le_trans h.hs hb.size }
theorem Wk.fresh3 (h : Wk wd w H v0 v1 v2 v3 v4 v5 u1 u2 l0 l1 l2 l3 l4 l5) (ho : w'.ownsRow w.heap.size 5 1 v m l) (hb : Below w.heap.size w w') : Wk wd w' H v0 v1 v2 v v4 v5 u1 u2 l0 l1 l2 l l4 l5 := by
 have h1 := h.ap.grow (s := 3) (by omega) (n := m) (own_low ho h.hs) (grownB hb) fun k hk => .inr (own6_lt ho k hk).2
 unfold putV putX at h1
 rw [tb_put.2.2.1, tb_put.2.2.1] at h1
 exact ⟨h1, h.off.then hb, h.n1, h.n2, fun k hk => Nat.le_trans h.off.size (own6_lt ho k hk).2, Nat.le_trans h.hs hb.size⟩
theorem Wk.fresh4 (h : Wk wd w H v0 v1 v2 v3 v4 v5 u1 u2 l0 l1 l2 l3 l4 l5) (ho : w'.ownsRow w.heap.size 3 1 v m l) (hb : Below w.heap.size w w') : Wk wd w' H v0 v1 v2 v3 v v5 u1 u2 l0 l1 l2 l3 l l5 := by
 have h1 := h.ap.grow (s := 4) (by omega) (n := m) (own_low ho h.hs) (grownB hb) fun k hk => .inr (own6_lt ho k hk).2
 unfold putV putX at h1
 rw [tb_put.2.2.2, tb_put.2.2.2] at h1
 exact ⟨h1, h.off.then hb, h.n1, h.n2, h.n3, Nat.le_trans h.hs hb.size⟩
theorem Wk.fresh5 (h : Wk wd w H v0 v1 v2 v3 v4 v5 u1 u2 l0 l1 l2 l3 l4 l5) (ho : w'.ownsRow w.heap.size 5 1 v m l) (hb : Below w.heap.size w w') : Wk wd w' H v0 v1 v2 v3 v4 v u1 u2 l0 l1 l2 l3 l4 l :=
 ⟨ap_5 h.ap (own_low ho h.hs) hb fun k hk => (own6_lt ho k hk).2, h.off.then hb, h.n1, h.n2, h.n3, Nat.le_trans h.hs hb.size⟩
theorem Wk.grow1 (h : Wk wd w H v0 v1 v2 v3 v4 v5 u1 u2 l0 l1 l2 l3 l4 l5) (ho : w'.ownsRow H 3 1 v m l) (hg : w.grownBy w' v1.ownBlock) (hw : ∀ k, v.ownBlock = some k → v1.ownBlock = some k ∨ w.heap.size ≤ k) : Wk wd w' H v0 v v2 v3 v4 v5 u1 u2 l0 l l2 l3 l4 l5 := by
 have h1 := h.ap.grow (s := 1) (by omega) (n := m) ho hg hw
 unfold putV putX at h1
 rw [tb_put.1, tb_put.1] at h1
 exact ⟨h1, off_growW h.off hg fun k hk => (h.n1 k hk).imp (fun e => .inr (.inl e)) id, fun k hk => (hw k hk).elim (h.n1 k) fun e => .inr (Nat.le_trans h.off.size e), h.n2, h.n3, Nat.le_trans h.hs hg.size⟩
theorem Wk.grow2 (h : Wk wd w H v0 v1 v2 v3 v4 v5 u1 u2 l0 l1 l2 l3 l4 l5) (ho : w'.ownsRow H 22 1 v m l) (hg : w.grownBy w' v2.ownBlock) (hw : ∀ k, v.ownBlock = some k → v2.ownBlock = some k ∨ w.heap.size ≤ k) : Wk wd w' H v0 v1 v v3 v4 v5 u1 u2 l0 l1 l l3 l4 l5 := by
 have h1 := h.ap.grow (s := 2) (by omega) (n := m) ho hg hw
 unfold putV putX at h1
 rw [tb_put.2.1, tb_put.2.1] at h1
 exact ⟨h1, off_growW h.off hg fun k hk => (h.n2 k hk).imp (fun e => .inr (.inr e)) id, h.n1, fun k hk => (hw k hk).elim (h.n2 k) fun e => .inr (Nat.le_trans h.off.size e), h.n3, Nat.le_trans h.hs hg.size⟩
theorem Wk.grow3 (h : Wk wd w H v0 v1 v2 v3 v4 v5 u1 u2 l0 l1 l2 l3 l4 l5) (ho : w'.ownsRow H 5 1 v m l) (hg : w.grownBy w' v3.ownBlock) (hw : ∀ k, v.ownBlock = some k → v3.ownBlock = some k ∨ w.heap.size ≤ k) : Wk wd w' H v0 v1 v2 v v4 v5 u1 u2 l0 l1 l2 l l4 l5 := by
 have h1 := h.ap.grow (s := 3) (by omega) (n := m) ho hg hw
 unfold putV putX at h1
 rw [tb_put.2.2.1, tb_put.2.2.1] at h1
 exact ⟨h1, off_growW h.off hg fun k hk => .inr (h.n3 k hk), h.n1, h.n2, fun k hk => (hw k hk).elim (h.n3 k) fun e => Nat.le_trans h.off.size e, Nat.le_trans h.hs hg.size⟩
theorem Wk.at1 (h : Wk wd w H v0 v1 v2 v3 v4 v5 u1 u2 l0 l1 l2 l3 l4 l5) : w.ownsRow H 3 1 v1 l1.length l1 := h.ap.own1 (i := 1) (by omega) rfl
theorem Wk.at2 (h : Wk wd w H v0 v1 v2 v3 v4 v5 u1 u2 l0 l1 l2 l3 l4 l5) : w.ownsRow H 22 1 v2 l2.length l2 := h.ap.own1 (i := 2) (by omega) rfl
theorem Wk.at3 (h : Wk wd w H v0 v1 v2 v3 v4 v5 u1 u2 l0 l1 l2 l3 l4 l5) : w.ownsRow H 5 1 v3 l3.length l3 := h.ap.own1 (i := 3) (by omega) rfl
theorem Wk.at4 (h : Wk wd w H v0 v1 v2 v3 v4 v5 u1 u2 l0 l1 l2 l3 l4 l5) : Row w v4 l4 := Row.of_own (h.ap.own1 (i := 4) (by omega) rfl)
theorem Wk.at5 (h : Wk wd w H v0 v1 v2 v3 v4 v5 u1 u2 l0 l1 l2 l3 l4 l5) : Row w v5 l5 := Row.of_own (h.ap.own1 (i := 5) (by omega) rfl)
variable {sv wv : Value} {L M : List Nat} {vl xl : List (List UInt8)}
theorem ShS.wk (h : ShS wd H n t U X sv wv vs xs L M vl xl) (hb : Below wd.heap.size wd w) : Wk wd w H (U 0) (U 1) (U 2) (.slice none 0 0) (.slice none 0 0) (.slice none 0 0) (U 1) (U 2) (bcs n t) (nums .i64 (M.map fun (q : Nat) => (q : Int))) xs [] [] [] := by
 have h2 := h.new hb
 refine ⟨⟨fun i hi => ?_, fun i j hi hj hij k hk => ?_⟩, Off.new _ hb, fun k hk => .inl hk, fun k hk => .inl hk, fun k hk => (by cases hk), h2.hs⟩
 ·have : i = 0 ∨ i = 1 ∨ i = 2 ∨ i = 3 ∨ i = 4 ∨ i = 5 := by omega
  rcases this with rfl | rfl | rfl | rfl | rfl | rfl
  ·exact ⟨_, h2.seen⟩
  ·exact ⟨_, h2.own1⟩
  ·exact ⟨_, h2.own2⟩
  ·exact ⟨0, rfl, .inl ⟨rfl, rfl⟩⟩
  ·exact ⟨0, rfl, .inl ⟨rfl, rfl⟩⟩
  ·exact ⟨0, rfl, .inl ⟨rfl, rfl⟩⟩
 ·have a1 : i = 0 ∨ i = 1 ∨ i = 2 ∨ i = 3 ∨ i = 4 ∨ i = 5 := by omega
  have a2 : j = 0 ∨ j = 1 ∨ j = 2 ∨ j = 3 ∨ j = 4 ∨ j = 5 := by omega
  rcases a1 with rfl | rfl | rfl | rfl | rfl | rfl <;> first | (cases hk; done) | (rcases a2 with rfl | rfl | rfl | rfl | rfl | rfl <;> first | exact absurd rfl hij | exact h.ap.inj _ _ (by omega) (by omega) hij k hk | (intro e; cases e))
theorem ShS.push (h : ShS wd H n t U X sv wv vs xs L M vl xl) {q : Nat} {bs : List UInt8} (hw : Wk wd w H (U 0) v1 v2 v3 v4 v5 (U 1) (U 2) (bcs n t) (nums .i64 ((M ++ [q]).map fun (q : Nat) => (q : Int))) (xs ++ [v3]) (bvs bs) l4 l5) :
  ShS w H n t (tb6 (U 0) v1 v2 v3 v4 v5) (tb6 (bcs n t) (nums .i64 ((M ++ [q]).map fun (q : Nat) => (q : Int))) (xs ++ [v3]) (bvs bs) l4 l5) sv wv vs (xs ++ [v3]) L (M ++ [q]) vl (xl ++ [bs]) := by
 have ho : Off (XU U) wd w := hw.off.mono fun k _ hk => by
  rcases hk with e | e | e
  ·exact ⟨0, by omega, e⟩
  ·exact ⟨1, by omega, e⟩
  ·exact ⟨2, by omega, e⟩
 have hx : ∀ k, XU (tb6 (U 0) v1 v2 v3 v4 v5) k → XU U k ∨ wd.heap.size ≤ k := fun k ⟨i, hi, hk⟩ => by
  have : i = 0 ∨ i = 1 ∨ i = 2 := by omega
  rcases this with rfl | rfl | rfl
  ·exact .inl ⟨0, by omega, hk⟩
  ·exact (hw.n1 k hk).imp (fun e => ⟨1, by omega, e⟩) id
  ·exact (hw.n2 k hk).imp (fun e => ⟨2, by omega, e⟩) id
 refine ⟨hw.ap.fewer.fewer.fewer, rfl, rfl, rfl, by rw [List.length_append, List.length_append, h.lx]; rfl, (h.rx.step ho hx).snoc ⟨Row.of_own hw.at3, fun k hk => ⟨(own6_lt hw.at3 k hk).1, fun ⟨i, hi, h2⟩ => hw.ap.inj 3 i (by omega) (by omega) (by omega) k hk h2⟩⟩, h.st.step ho hx, h.wd.step ho hx, h.lw, h.rw.step ho hx, hw.hs⟩
end
end
theorem shS_start {w : World} {H n g : Nat} {t : Nat → Bool} {sv wv : Value} (hg : w.ownsRow H 4 1 (.slice (some ⟨g, 0, none⟩) n n) n (bcs n t)) (hs : Row w sv (nums .i64 [0])) (hsb : ∀ k, sv.ownBlock = some k → k < w.heap.size ∧ k ≠ g) (hw : Row w wv [.slice none 0 0]) (hwb : ∀ k, wv.ownBlock = some k → k < w.heap.size ∧ k ≠ g) (hH : H ≤ w.heap.size) :
  ShS w H n t (tb6 (.slice (some ⟨g, 0, none⟩) n n) (.slice none 0 0) (.slice none 0 0) undef undef undef) (tb6 (bcs n t) [] [] [] [] []) sv wv [.slice none 0 0] [] [0] [] [[]] [] := by
 have xu : ∀ k, XU (tb6 (.slice (some ⟨g, 0, none⟩) n n) (.slice none 0 0) (.slice none 0 0) undef undef undef) k → k = g := fun k ⟨i, hi, hk⟩ => by
  have : i = 0 ∨ i = 1 ∨ i = 2 := by omega
  rcases this with rfl | rfl | rfl
  ·exact (Option.some.inj hk).symm
  ·cases hk
  ·cases hk
 refine ⟨⟨fun i hi => ?_, fun i j hi hj hij k hk => ?_⟩, rfl, rfl, rfl, rfl, ⟨rfl, fun i l hl => (by cases hl)⟩, ⟨hs, fun k hk => ⟨(hsb k hk).1, fun h => (hsb k hk).2 (xu k h)⟩⟩, ⟨hw, fun k hk => ⟨(hwb k hk).1, fun h => (hwb k hk).2 (xu k h)⟩⟩, rfl, ⟨rfl, fun i l hl => ?_⟩, hH⟩
 ·have : i = 0 ∨ i = 1 ∨ i = 2 := by omega
  rcases this with rfl | rfl | rfl
  ·exact ⟨n, hg⟩
  ·exact ⟨0, rfl, .inl ⟨rfl, rfl⟩⟩
  ·exact ⟨0, rfl, .inl ⟨rfl, rfl⟩⟩
 ·have a1 : i = 0 ∨ i = 1 ∨ i = 2 := by omega
  have a2 : j = 0 ∨ j = 1 ∨ j = 2 := by omega
  rcases a1 with rfl | rfl | rfl <;> first | (cases hk; done) | (rcases a2 with rfl | rfl | rfl <;> first | exact absurd rfl hij | (intro e; cases e))
 ·have hi := (List.getElem?_eq_some_iff.1 hl).1
  obtain rfl : i = 0 := by simpa using hi
  rw [← Option.some.inj hl]
  exact ⟨.slice none 0 0, rfl, Row.nil w, fun k hk => by cases hk⟩
theorem one_maxW {v : Value} : [v].length ≤ maxLen := by
 show 1 ≤ maxLen
 decide
theorem one_iW (q : Nat) : ∀ u ∈ [Value.int .i64 (q : Int)], u.oneCell' = true := fun u hu => by
 rw [List.mem_singleton.1 hu]
 rfl
theorem one_uW (q : Nat) : ∀ u ∈ [Value.int .u8 (q : Int)], u.oneCell' = true := fun u hu => by
 rw [List.mem_singleton.1 hu]
 rfl
theorem bvs_oneW (l : List UInt8) : ∀ u ∈ bvs l, u.oneCell' = true := List.all_eq_true.1 (bvs_all' l)
section
variable {ev : Operand → Value} {o : Oper} {p : Addr} {W : World} {A : Option Addr} {n c : Nat}
theorem wj_ldR (x : Operand) (ho : o.op = .load 22 x) (hx : ev x = .pointer (some p)) (hc : W.cell? p = some (.slice A n c)) : (execOp ev o).run Try.prog W = .ok (.value (.slice A n c)) W := by
 simp only [execOp, ho, hx]
 go_simp
theorem wj_ixR (x i : Operand) (ho : o.op = .indexAddr 35 x i) {b off q : Nat} (hx : ev x = .slice (some ⟨b, off, none⟩) n c) (hi : ev i = .int .i64 (q : Int)) (hq : q < n) (W : World) : (execOp ev o).run Try.prog W = .ok (.value (.pointer (some ⟨b, off + q, none⟩))) W := by
 have h1 : (q : Int) < (n : Int) := Int.ofNat_lt.2 hq
 simp only [execOp, ho, hx, hi]
 go_simp
end
section
variable {P : Program} {ops : Array Oper} {Q : Exit → Act → World → Prop} {md : Region.Mode} {T S : World → Prop} {n : Nat}
theorem mc_threeW {i j k : Nat} {oi oj ok : Oper} {fuel : Nat} {listed : Array Bool} {a : Act} {w : World} (hi : ops[i]? = some oi) (hj : ops[j]? = some oj) (hk : ops[k]? = some ok) (hr : Region.ready md ops listed = [i, j, k])
  (hwi : Region.wanted oi (yielded ops a.tmps) = true) (hwj : Region.wanted oj (yielded ops a.tmps) = true) (hwk : Region.wanted ok (yielded ops a.tmps) = true)
  (h1 : ∀ K : Act → World → Prop, (∀ a' w', T w' → S w' → wpAnyC P md ops Q T S n fuel (listed.setIfInBounds i true) a' w' → K a' w') → oi.wp P a w K Q)
  (h2 : ∀ K : Act → World → Prop, (∀ a' w', T w' → S w' → wpAnyC P md ops Q T S n fuel (listed.setIfInBounds j true) a' w' → K a' w') → oj.wp P a w K Q)
  (h3 : ∀ K : Act → World → Prop, (∀ a' w', T w' → S w' → wpAnyC P md ops Q T S n fuel (listed.setIfInBounds k true) a' w' → K a' w') → ok.wp P a w K Q) :
  wpAnyC P md ops Q T S n (fuel + 1) listed a w := by
 refine ⟨fun h0 => (by rw [hr] at h0; cases h0), fun x hx => ?_⟩
 rw [hr] at hx
 have hx2 : x = i ∨ x = j ∨ x = k := by simpa using hx
 unfold wpOp
 rcases hx2 with rfl | rfl | rfl
 ·rw [hi]
  simp only [hwi, if_true]
  exact .inl (h1 _ fun a' w' ht hs hk => ⟨ht, fun _ _ => hs, hk⟩)
 ·rw [hj]
  simp only [hwj, if_true]
  exact .inl (h2 _ fun a' w' ht hs hk => ⟨ht, fun _ _ => hs, hk⟩)
 ·rw [hk]
  simp only [hwk, if_true]
  exact .inl (h3 _ fun a' w' ht hs hk => ⟨ht, fun _ _ => hs, hk⟩)
end
theorem inf_rowW : (Try.prog.info? 22).map (fun i => (i.zero, i.size, i.bytes)) = some (some (.slice none 0 0), 1, 24) := by kernel_rfl
theorem bvs_appendW (l : List UInt8) (c : UInt8) : bvs (l ++ [c]) = bvs l ++ [bv c] := by simp [bvs]
theorem cell_ltW {w : World} {b o : Nat} {v : Value} (h : w.cell? ⟨b, o, none⟩ = some v) : b < w.heap.size := by
 refine Nat.lt_of_not_le fun hle => ?_
 unfold World.cell? at h
 simp [Array.getElem?_eq_none hle] at h
theorem grown_belowO {w w' : World} {B n : Nat} {e : TypeId} {v : Value} {xs : List Value} (h : w.ownsRow B e 1 v n xs) (hg : w.grownBy w' v.ownBlock) (hB : B ≤ w.heap.size) : Below B w w' :=
 below_own (Below.refl B w) hB hg fun k hk => (own6_lt h k hk).2
def ShoE (D : Dm) (w : World) (e : Ending) (w' : World) : Prop := ∃ v b, e = .returned (.tuple #[v, .bool b]) ∧ (b = true → ∃ u, Row w' v (bvs u) ∧ Sho (accD D 0) u) ∧ (b = false → v = .slice none 0 0 ∧ ∀ u, accD D 0 u = false) ∧ Below w.heap.size w w'
/-! ### sums -/
def sumN (f : Nat → Nat) : Nat → Nat
 | 0 => 0
 | n + 1 => sumN f n + f n
theorem sumN_succ (f : Nat → Nat) (n : Nat) : sumN f (n + 1) = sumN f n + f n := rfl
theorem sumN_congr {f g : Nat → Nat} : ∀ {n : Nat}, (∀ i, i < n → f i = g i) → sumN f n = sumN g n
 | 0, _ => rfl
 | n + 1, h => by
  show sumN f n + f n = sumN g n + g n
  rw [sumN_congr fun i hi => h i (by omega), h n (by omega)]
theorem sumN_zero {f : Nat → Nat} : ∀ {n : Nat}, (∀ i, i < n → f i = 0) → sumN f n = 0
 | 0, _ => rfl
 | n + 1, h => by
  show sumN f n + f n = 0
  rw [sumN_zero fun i hi => h i (by omega), h n (by omega)]
theorem sumN_add (f g : Nat → Nat) : ∀ n, sumN (fun i => f i + g i) n = sumN f n + sumN g n
 | 0 => rfl
 | n + 1 => by
  show sumN (fun i => f i + g i) n + (f n + g n) = (sumN f n + f n) + (sumN g n + g n)
  rw [sumN_add f g n]
  omega
theorem sumN_mul (c : Nat) (f : Nat → Nat) : ∀ n, sumN (fun i => c * f i) n = c * sumN f n
 | 0 => rfl
 | n + 1 => by
  show sumN (fun i => c * f i) n + c * f n = c * (sumN f n + f n)
  rw [sumN_mul c f n, Nat.mul_add]
theorem mul_sumN (c : Nat) (f : Nat → Nat) (n : Nat) : sumN (fun i => f i * c) n = sumN f n * c := by
 rw [Nat.mul_comm, ← sumN_mul]
 exact sumN_congr fun i _ => Nat.mul_comm _ _
theorem sumN_swap (f : Nat → Nat → Nat) (m : Nat) : ∀ n, sumN (fun i => sumN (f i) m) n = sumN (fun j => sumN (fun i => f i j) n) m
 | 0 => (sumN_zero fun _ _ => rfl).symm
 | n + 1 => by
  show sumN (fun i => sumN (f i) m) n + sumN (f n) m = sumN (fun j => sumN (fun i => f i j) n + f n j) m
  rw [sumN_swap f m n, sumN_add]
theorem sumN_one (f : Nat → Nat) {a : Nat} : ∀ {n : Nat}, a < n → sumN (fun t => if t = a then f t else 0) n = f a
 | 0, h => absurd h (Nat.not_lt_zero a)
 | n + 1, h => by
  show sumN (fun t => if t = a then f t else 0) n + (if n = a then f n else 0) = f a
  by_cases e : n = a
  ·rw [if_pos e, sumN_zero, e, Nat.zero_add]
   intro i hi
   rw [if_neg (by omega)]
  ·rw [if_neg e, sumN_one f (by omega), Nat.add_zero]
theorem sum_range (h : Nat → Nat) : ∀ n, ((List.range n).map h).sum = sumN h n
 | 0 => rfl
 | n + 1 => by
  rw [List.range_succ, List.map_append, List.sum_append, sum_range h n]
  show sumN h n + (h n + 0) = sumN h n + h n
  omega
theorem sum_byts (g : UInt8 → Nat) : (byts.map g).sum = sumN (fun i => g (UInt8.ofNat i)) 256 := by
 unfold byts
 rw [List.map_map]
 exact sum_range _ 256
/-! ### state by state -/
def szK (D : Dm) (k : Nat) : Nat := sumN (fun b => if clB D b = k then 1 else 0) 256
theorem szK_sum {D : Dm} (hl : D.cl.length = 256) (g : Nat → Nat) : sumN (fun k => szK D k * g k) (clsA D.cl) = sumN (fun b => g (clB D b)) 256 := by
 have e1 : sumN (fun k => szK D k * g k) (clsA D.cl) = sumN (fun k => sumN (fun b => if k = clB D b then g k else 0) 256) (clsA D.cl) := by
  refine sumN_congr fun k _ => ?_
  unfold szK
  rw [← mul_sumN]
  refine sumN_congr fun b _ => ?_
  by_cases e : clB D b = k
  ·rw [if_pos e, if_pos e.symm, Nat.one_mul]
  ·rw [if_neg e, if_neg (fun h => e h.symm), Nat.zero_mul]
 rw [e1, sumN_swap]
 exact sumN_congr fun b hb => sumN_one g (clB_lt hl hb)
def cnS (D : Dm) : Nat → Nat → Nat
 | 0, t => if t = 0 then 1 else 0
 | i + 1, t => sumN (fun s => sumN (fun k => if t = stC D s k then cnS D i s * szK D k else 0) (clsA D.cl)) D.next.length
theorem cnS_sum {D : Dm} (h : MayD D) (hl : D.cl.length = 256) : ∀ (i m : Nat), sumN (fun t => cnS D i t * cntL (accD D t) m) D.next.length = cntL (accD D 0) (i + m)
 | 0, m => by
  rw [Nat.zero_add]
  have e : sumN (fun t => cnS D 0 t * cntL (accD D t) m) D.next.length = sumN (fun t => if t = 0 then cntL (accD D t) m else 0) D.next.length := by
   refine sumN_congr fun t _ => ?_
   show (if t = 0 then 1 else 0) * _ = _
   by_cases e : t = 0
   ·rw [if_pos e, if_pos e, Nat.one_mul]
   ·rw [if_neg e, if_neg e, Nat.zero_mul]
  rw [e]
  exact sumN_one (fun t => cntL (accD D t) m) h.pos
 | i + 1, m => by
  have e1 : sumN (fun t => cnS D (i + 1) t * cntL (accD D t) m) D.next.length =
    sumN (fun t => sumN (fun s => sumN (fun k => if t = stC D s k then cnS D i s * szK D k * cntL (accD D t) m else 0) (clsA D.cl)) D.next.length) D.next.length := by
   refine sumN_congr fun t _ => ?_
   show sumN _ _ * _ = _
   rw [← mul_sumN]
   refine sumN_congr fun s _ => ?_
   rw [← mul_sumN]
   refine sumN_congr fun k _ => ?_
   by_cases e : t = stC D s k
   ·rw [if_pos e, if_pos e]
   ·rw [if_neg e, if_neg e, Nat.zero_mul]
  rw [e1, sumN_swap]
  have e2 : ∀ s, s < D.next.length → sumN (fun t => sumN (fun k => if t = stC D s k then cnS D i s * szK D k * cntL (accD D t) m else 0) (clsA D.cl)) D.next.length = cnS D i s * cntL (accD D s) (m + 1) := by
   intro s hs
   rw [sumN_swap]
   have e3 : sumN (fun k => sumN (fun t => if t = stC D s k then cnS D i s * szK D k * cntL (accD D t) m else 0) D.next.length) (clsA D.cl) = sumN (fun k => cnS D i s * (szK D k * cntL (accD D (stC D s k)) m)) (clsA D.cl) := by
    refine sumN_congr fun k hk => ?_
    rw [← Nat.mul_assoc]
    exact sumN_one (fun t => cnS D i s * szK D k * cntL (accD D t) m) (stC_lt h hs k hk)
   have e4 : ∀ b, b < 256 → cntL (accD D (stC D s (clB D b))) m = cntL (accD D (stD D s (UInt8.ofNat b))) m := by
    intro b hb
    rw [stD_stC]
    unfold clB
    rw [UInt8.toNat_ofNat', Nat.mod_eq_of_lt hb]
   rw [e3, sumN_mul, szK_sum hl (fun k => cntL (accD D (stC D s k)) m), cntL_acc, sum_byts, sumN_congr e4]
  rw [sumN_congr e2, cnS_sum h hl i (m + 1)]
  congr 1
  omega
theorem cnS_ends {D : Dm} (h : MayD D) (hl : D.cl.length = 256) (i : Nat) : sumN (fun t => if D.ends.getD t false = true then cnS D i t else 0) D.next.length = cntL (accD D 0) i := by
 have h1 := cnS_sum h hl i 0
 rw [Nat.add_zero] at h1
 rw [← h1]
 refine sumN_congr fun t _ => ?_
 rw [cntL_zero]
 show _ = _ * (if D.ends.getD t false = true then 1 else 0)
 by_cases e : D.ends.getD t false = true
 ·rw [if_pos e, if_pos e, Nat.mul_one]
 ·rw [if_neg e, if_neg e, Nat.mul_zero]
/-! ### as it is counted: one class of one state at a time, in words of 64 bits -/
def cnP (D : Dm) (f : Nat → Nat) (s k t : Nat) : Nat := sumN (fun q => sumN (fun j => if t = stC D q j then f q * szK D j else 0) (clsA D.cl)) s + sumN (fun j => if t = stC D s j then f s * szK D j else 0) k
theorem cnP_class (D : Dm) (f : Nat → Nat) (s k t : Nat) : cnP D f s (k + 1) t = cnP D f s k t + (if t = stC D s k then f s * szK D k else 0) := by
 unfold cnP
 rw [sumN_succ, Nat.add_assoc]
theorem cnP_state (D : Dm) (f : Nat → Nat) (s t : Nat) : cnP D f s (clsA D.cl) t = cnP D f (s + 1) 0 t := rfl
theorem cnP_skip {D : Dm} {f : Nat → Nat} {s : Nat} (N t : Nat) (h : f s % N = 0) (k : Nat) : cnP D f s k t % N = cnP D f s 0 t % N := by
 unfold cnP
 have h1 : sumN (fun j => if t = stC D s j then f s * szK D j else 0) k % N = 0 := by
  induction k with
  | zero => exact Nat.zero_mod N
  | succ k ih =>
   rw [sumN_succ, Nat.add_mod, ih, Nat.zero_add, Nat.mod_mod]
   by_cases e : t = stC D s k
   ·rw [if_pos e, Nat.mul_mod, h, Nat.zero_mul, Nat.zero_mod]
   ·rw [if_neg e, Nat.zero_mod]
 rw [Nat.add_mod, h1, Nat.add_zero, Nat.mod_mod]
 rfl
theorem cnP_all (D : Dm) (i t : Nat) : cnP D (cnS D i) D.next.length 0 t = cnS D (i + 1) t := rfl
/-! ### from where a word of a length may end, by classes -/
def canC (D : Dm) : Nat → Nat → Bool
 | 0, s => D.ends.getD s false
 | i + 1, s => (List.range (clsA D.cl)).any fun k => canC D i (stC D s k)
def canP (D : Dm) (i s k : Nat) : Bool := (List.range k).any fun j => canC D i (stC D s j)
theorem canP_zero (D : Dm) (i s : Nat) : canP D i s 0 = false := rfl
theorem canP_succ (D : Dm) (i s k : Nat) : canP D i s (k + 1) = (canP D i s k || canC D i (stC D s k)) := by
 unfold canP
 rw [List.range_succ, List.any_append]
 simp
theorem canP_all (D : Dm) (i s : Nat) : canP D i s (clsA D.cl) = canC D (i + 1) s := rfl
theorem canC_wrds {D : Dm} (hl : D.cl.length = 256) : ∀ (i s : Nat), canC D i s = false → wrds (accD D s) i = []
 | 0, s, h => by
  rw [wrds_zero]
  have e : accD D s [] = false := h
  rw [e]
  rfl
 | i + 1, s, h => by
  rw [wrds_acc, List.flatMap_eq_nil_iff]
  intro b _
  have h1 : canC D i (stC D s (clB D b.toNat)) = false := by
   cases hc : canC D i (stC D s (clB D b.toNat)) with
   | false => rfl
   | true =>
    have : canC D (i + 1) s = true := List.any_eq_true.2 ⟨_, List.mem_range.2 (clB_lt hl b.toNat_lt), hc⟩
    rw [h] at this
    cases this
  have h2 := canC_wrds hl i _ h1
  rw [stD_stC]
  show List.map _ (wrds (accD D (stC D s (clB D b.toNat))) i) = []
  rw [h2]
  rfl
/-! ### one behind the other -/
def moreW (m : Nat) (o a : List (List UInt8)) : List (List UInt8) := o ++ a.take (m - o.length)
theorem moreW_nil (m : Nat) (o : List (List UInt8)) : moreW m o [] = o := by
 unfold moreW
 rw [List.take_nil, List.append_nil]
theorem moreW_full {m : Nat} {o : List (List UInt8)} (h : m ≤ o.length) (a : List (List UInt8)) : moreW m o a = o := by
 unfold moreW
 rw [show m - o.length = 0 from by omega, List.take_zero, List.append_nil]
theorem moreW_one {m : Nat} {o : List (List UInt8)} (h : o.length < m) (w : List UInt8) : moreW m o [w] = o ++ [w] := by
 unfold moreW
 obtain ⟨k, hk⟩ : ∃ k, m - o.length = k + 1 := ⟨m - o.length - 1, by omega⟩
 rw [hk, List.take_succ_cons, List.take_nil]
theorem moreW_len (m : Nat) (o a : List (List UInt8)) (h : o.length ≤ m) : (moreW m o a).length ≤ m := by
 unfold moreW
 rw [List.length_append, List.length_take]
 omega
theorem moreW_app (m : Nat) (o a b : List (List UInt8)) : moreW m (moreW m o a) b = moreW m o (a ++ b) := by
 unfold moreW
 rw [List.append_assoc, List.take_append]
 congr 2
 congr 1
 rw [List.length_append, List.length_take]
 omega
def wrdB (D : Dm) (i s : Nat) (w : List UInt8) : List (List UInt8) := (wrds (accD D s) i).map fun v => w ++ v
def wrdP (D : Dm) (i s : Nat) (w : List UInt8) (b : Nat) : List (List UInt8) := (List.range b).flatMap fun c => wrdB D i (stD D s (UInt8.ofNat c)) (w ++ [UInt8.ofNat c])
theorem wrdP_zero (D : Dm) (i s : Nat) (w : List UInt8) : wrdP D i s w 0 = [] := rfl
theorem wrdP_succ (D : Dm) (i s : Nat) (w : List UInt8) (b : Nat) : wrdP D i s w (b + 1) = wrdP D i s w b ++ wrdB D i (stD D s (UInt8.ofNat b)) (w ++ [UInt8.ofNat b]) := by
 unfold wrdP
 rw [List.range_succ, List.flatMap_append]
 simp
theorem wrdP_all (D : Dm) (i s : Nat) (w : List UInt8) : wrdP D i s w 256 = wrdB D (i + 1) s w := by
 have key : ∀ l : List Nat, (l.flatMap fun c => wrdB D i (stD D s (UInt8.ofNat c)) (w ++ [UInt8.ofNat c])) = ((l.map UInt8.ofNat).flatMap fun b => (wrds (accD D (stD D s b)) i).map fun v => b :: v).map fun v => w ++ v := by
  intro l
  induction l with
  | nil => rfl
  | cons c l ih =>
   rw [List.flatMap_cons, ih, List.map_cons, List.flatMap_cons, List.map_append]
   congr 1
   unfold wrdB
   rw [List.map_map]
   refine List.map_congr_left fun v _ => ?_
   show (w ++ [UInt8.ofNat c]) ++ v = w ++ (UInt8.ofNat c :: v)
   rw [List.append_assoc]
   rfl
 have h1 := key (List.range 256)
 unfold wrdP
 rw [h1]
 unfold wrdB
 rw [wrds_acc]
 rfl
theorem wrdB_zero (D : Dm) (s : Nat) (w : List UInt8) (h : D.ends.getD s false = true) : wrdB D 0 s w = [w] := by
 unfold wrdB
 rw [wrds_zero, if_pos (show accD D s [] = true from h)]
 show [w ++ []] = [w]
 rw [List.append_nil]
theorem wrdB_none {D : Dm} (hl : D.cl.length = 256) {i s : Nat} (w : List UInt8) (h : canC D i s = false) : wrdB D i s w = [] := by
 unfold wrdB
 rw [canC_wrds hl i s h]
 rfl
theorem wrdB_top (D : Dm) (i : Nat) : wrdB D i 0 [] = wrds (accD D 0) i := by
 unfold wrdB
 exact List.map_id' _
theorem moreW_top (D : Dm) (m i : Nat) : moreW m [] (wrdB D i 0 []) = (wrds (accD D 0) i).take m := by
 rw [wrdB_top]
 rfl
def uO (g : Nat) (ov : Value) : Nat → Value := tb6 (.slice (some ⟨g, 0, none⟩) 1 1) ov (.slice none 0 0) undef undef undef
theorem xuO {g k : Nat} {ov : Value} : XU (uO g ov) k ↔ k = g ∨ ov.ownBlock = some k := by
 constructor
 ·rintro ⟨i, hi, hk⟩
  have : i = 0 ∨ i = 1 ∨ i = 2 := by omega
  rcases this with rfl | rfl | rfl
  ·exact .inl (Option.some.inj hk).symm
  ·exact .inr hk
  ·cases hk
 ·rintro (rfl | h)
  ·exact ⟨0, by omega, rfl⟩
  ·exact ⟨1, by omega, h⟩
structure OutV (w : World) (B H g : Nat) (ov : Value) (os : List Value) (o : List (List UInt8)) : Prop where
 blk : Blk w g 35 [ov]
 own : w.ownsRow H 22 1 ov os.length os
 rows : RW w (uO g ov) os o
 gB : B ≤ g
 gH : g < H
 hs : H ≤ w.heap.size
structure OStp (w w' : World) (g : Nat) (ov ov' : Value) : Prop where
 off : Off (XU (uO g ov)) w w'
 new : ∀ k, XU (uO g ov') k → XU (uO g ov) k ∨ w.heap.size ≤ k
section
variable {w w' w'' wd : World} {B H g : Nat} {ov ov' ov'' : Value} {os : List Value} {o : List (List UInt8)}
theorem OStp.of (hb : Below w.heap.size w w') (g : Nat) (ov : Value) : OStp w w' g ov ov := ⟨Off.new _ hb, fun k hk => .inl hk⟩
theorem OStp.trans (x : OStp w w' g ov ov') (y : OStp w' w'' g ov' ov'') : OStp w w'' g ov ov'' := by
 refine ⟨⟨y.off.os.trans x.off.os, y.off.tape.trans x.off.tape, y.off.output.trans x.off.output, Nat.le_trans x.off.size y.off.size, fun k hk hn => ?_⟩, fun k hk => ?_⟩
 ·refine (y.off.block k (Nat.lt_of_lt_of_le hk x.off.size) fun hd => ?_).trans (x.off.block k hk hn)
  rcases x.new k hd with e | e
  ·exact hn e
  ·omega
 ·rcases y.new k hk with e | e
  ·exact x.new k e
  ·exact .inr (Nat.le_trans x.off.size e)
theorem OutV.above (h : OutV w B H g ov os o) {k : Nat} (hk : XU (uO g ov) k) : B ≤ k := by
 rcases xuO.1 hk with rfl | h1
 ·exact h.gB
 ·exact Nat.le_trans (Nat.le_of_lt (Nat.lt_of_le_of_lt h.gB h.gH)) (own6_lt h.own k h1).2
theorem OutV.new (h : OutV w B H g ov os o) (hb : Below w.heap.size w w') : OutV w' B H g ov os o :=
 ⟨h.blk.below hb h.blk.lt, own6_stay h.own fun j hj => hb.block j (own6_lt h.own j hj).1, h.rows.step (Off.new _ hb) fun k hk => .inl hk, h.gB, h.gH, Nat.le_trans h.hs hb.size⟩
theorem OutV.gne (h : OutV w B H g ov os o) : ov.ownBlock ≠ some g := fun e => by
 have h1 := (own6_lt h.own g e).2
 have h2 := h.gH
 omega
theorem OutV.below (h : OutV w B H g ov os o) (st : OStp w w' g ov ov') : Below B w w' := st.off.below (fun k hk => h.above hk) (Nat.le_trans (Nat.le_of_lt (Nat.lt_of_le_of_lt h.gB h.gH)) h.hs)
theorem OutV.wk (h : OutV wd B H g ov os o) (hb : Below wd.heap.size wd w) : Wk wd w H (.slice none 0 0) (.slice none 0 0) ov (.slice none 0 0) (.slice none 0 0) (.slice none 0 0) (.slice none 0 0) ov [] [] os [] [] [] := by
 have h2 := h.new hb
 refine ⟨⟨fun i hi => ?_, fun i j hi hj hij k hk => ?_⟩, Off.new _ hb, fun k hk => .inl hk, fun k hk => .inl hk, fun k hk => (by cases hk), h2.hs⟩
 ·have : i = 0 ∨ i = 1 ∨ i = 2 ∨ i = 3 ∨ i = 4 ∨ i = 5 := by omega
  rcases this with rfl | rfl | rfl | rfl | rfl | rfl
  ·exact ⟨0, rfl, .inl ⟨rfl, rfl⟩⟩
  ·exact ⟨0, rfl, .inl ⟨rfl, rfl⟩⟩
  ·exact ⟨_, h2.own⟩
  ·exact ⟨0, rfl, .inl ⟨rfl, rfl⟩⟩
  ·exact ⟨0, rfl, .inl ⟨rfl, rfl⟩⟩
  ·exact ⟨0, rfl, .inl ⟨rfl, rfl⟩⟩
 ·have a1 : i = 0 ∨ i = 1 ∨ i = 2 ∨ i = 3 ∨ i = 4 ∨ i = 5 := by omega
  have a2 : j = 0 ∨ j = 1 ∨ j = 2 ∨ j = 3 ∨ j = 4 ∨ j = 5 := by omega
  rcases a1 with rfl | rfl | rfl | rfl | rfl | rfl <;> first | (cases hk; done) | (rcases a2 with rfl | rfl | rfl | rfl | rfl | rfl <;> first | exact absurd rfl hij | (intro e; cases e))
section
variable {v2 v3 v4 v5 : Value} {l4 l5 : List Value} {u : List UInt8}
theorem wk_off (h : OutV wd B H g ov os o) {l2 l3 : List Value} (x : Wk wd w H (.slice none 0 0) (.slice none 0 0) v2 v3 v4 v5 (.slice none 0 0) ov [] [] l2 l3 l4 l5) : Off (XU (uO g ov)) wd w ∧ Blk w g 35 [ov] ∧ v2.ownBlock ≠ some g ∧ (∀ k, v3.ownBlock = some k → k < w.heap.size ∧ ¬ XU (uO g ov) k) := by
 have hg : ¬ ((Value.slice none 0 0).ownBlock = some g ∨ (Value.slice none 0 0).ownBlock = some g ∨ ov.ownBlock = some g) := by
  rintro (e | e | e)
  ·cases e
  ·cases e
  ·exact h.gne e
 refine ⟨x.off.mono fun k _ hk => ?_, Off.blk x.off hg h.blk, fun e => ?_, fun k hk => ⟨(own6_lt x.at3 k hk).1, fun h2 => ?_⟩⟩
 ·rcases hk with e | e | e
  ·cases e
  ·cases e
  ·exact xuO.2 (.inr e)
 ·rcases x.n2 g e with e | e
  ·exact h.gne e
  ·have := h.blk.lt
   omega
 ·have h3 := x.n3 k hk
  rcases xuO.1 h2 with rfl | e
  ·have := h.blk.lt
   omega
  ·have := (own6_lt h.own k e).1
   omega
theorem OutV.made (h : OutV wd B H g ov os o) (x : Wk wd w H (.slice none 0 0) (.slice none 0 0) ov v3 v4 v5 (.slice none 0 0) ov [] [] os (bvs u) l4 l5) : OutV w B H g ov os o ∧ OStp wd w g ov ov ∧ RO w (uO g ov) v3 (bvs u) := by
 obtain ⟨h1, h2, h3, h4⟩ := wk_off h x
 have ow : w.ownsRow H 22 1 ov os.length os := x.at2
 exact ⟨⟨h2, ow, h.rows.step h1 fun k hk => .inl hk, h.gB, h.gH, x.hs⟩, ⟨h1, fun k hk => .inl hk⟩, Row.of_own x.at3, h4⟩
theorem OutV.push (h : OutV wd B H g ov os o) (x : Wk wd w H (.slice none 0 0) (.slice none 0 0) v2 v3 v4 v5 (.slice none 0 0) ov [] [] (os ++ [v3]) (bvs u) l4 l5) :
  OutV (w.setCell ⟨g, 0, none⟩ v2) B H g v2 (os ++ [v3]) (o ++ [u]) ∧ OStp wd (w.setCell ⟨g, 0, none⟩ v2) g ov v2 := by
 obtain ⟨h1, h2, h3, h4⟩ := wk_off h x
 have ho : Off (XU (uO g ov)) wd (w.setCell ⟨g, 0, none⟩ v2) := h1.trans (Off.set w 0 v2 (xuO.2 (.inl rfl)))
 have hx : ∀ k, XU (uO g v2) k → XU (uO g ov) k ∨ wd.heap.size ≤ k := fun k hk => by
  rcases xuO.1 hk with e | e
  ·exact .inl (xuO.2 (.inl e))
  ·exact (x.n2 k e).imp (fun e => xuO.2 (.inr e)) id
 have hr : RO (w.setCell ⟨g, 0, none⟩ v2) (uO g v2) v3 (bvs u) := by
  refine ⟨(Row.of_own x.at3).off (Off.set (D := fun k => k = g) w 0 v2 rfl) fun k hk e => (h4 k hk).2 (xuO.2 (.inl e)), fun k hk => ⟨by simpa using (h4 k hk).1, fun e => ?_⟩⟩
  rcases xuO.1 e with e | e
  ·exact (h4 k hk).2 (xuO.2 (.inl e))
  ·exact x.ap.inj 3 2 (by omega) (by omega) (by omega) k hk e
 exact ⟨⟨h2.set 0 v2, own6_stay x.at2 fun j hj => Below.heap_setCell w ⟨g, 0, none⟩ v2 j fun e => h3 (by rw [← show j = g from e]; exact hj), (h.rows.step ho hx).snoc hr, h.gB, h.gH, by simpa using x.hs⟩, ho, hx⟩
end
end
def CanV (w : World) (D : Dm) (n N bc oc : Nat) : Prop := bc < w.heap.size ∧ ∀ j, j < N → ∃ b o c, w.cell? ⟨bc, oc + j, none⟩ = some (.slice (some ⟨b, o, none⟩) n c) ∧ b < w.heap.size ∧ ∀ t, t < n → w.cell? ⟨b, o + t, none⟩ = some (.bool (canC D j t))
end Go.Proofs.Ytaakdebcagdfgaa
