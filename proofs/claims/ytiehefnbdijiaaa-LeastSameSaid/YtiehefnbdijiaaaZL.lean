/-
  Texts of this proof, put together: LkB, LkO, McJp, McIp, LkI. No statement is proved here.
-/
import Derived.Test.YtiehefnbdijiaaaZK
import Derived.Test.YtiehefnbdijiaaaZF
import Derived.Test.YtiehefnbdijiaaaZG
import Derived.Test.YtiehefnbdijiaaaZE
import Derived.Test.YtiehefnbdijiaaaZI
import Derived.Test.YtiehefnbdijiaaaZC
namespace Go.Proofs.Ytiehefnbdijiaaa
open Go.RowKit
set_option linter.unusedSimpArgs false
set_option linter.unusedVariables false
def nat64 (l : List Nat) : List Value := nums .i64 (l.map fun (q : Nat) => (q : Int))
theorem nat64_len (l : List Nat) : (nat64 l).length = l.length := by unfold nat64; rw [nums_length, List.length_map]
theorem nat64_get {l : List Nat} {i s : Nat} (h : l[i]? = some s) : (nat64 l)[i]? = some (.int .i64 (s : Int)) := by
 unfold nat64 nums
 rw [List.getElem?_map, List.getElem?_map, h]
 rfl
theorem nat64_snoc (l : List Nat) (s : Nat) : nat64 (l ++ [s]) = nat64 l ++ nums .i64 [(s : Int)] := by
 unfold nat64
 rw [List.map_append, nums_append]
 rfl
theorem nat64_app (l r : List Nat) : nat64 (l ++ r) = nat64 l ++ nat64 r := by
 unfold nat64
 rw [List.map_append, nums_append]
theorem nat64_one (l : List Nat) : ∀ u ∈ nat64 l, u.oneCell' = true := nums_one _ _
def prV (m : Nat) (U : Nat → Value) : List Value := (List.range m).map fun k => U (k + 4)
theorem prV_len (m : Nat) (U : Nat → Value) : (prV m U).length = m := by simp [prV]
theorem prV_get {m k : Nat} (U : Nat → Value) (h : k < m) : (prV m U)[k]? = some (U (k + 4)) := by simp [prV, h]
structure PtU (w : World) (H p n m : Nat) (U : Nat → Value) (X : Nat → List Value) (P : Nat → List Nat) (a : Nat → Nat) (I : Nat → Bool) (c : Nat → Nat) : Prop where
 blk : Blk w p 67 [U 0, U 2, U 1, U 3]
 apt : Apt w H (4 + m) U X
 ne : ∀ i, i < 4 + m → (U i).ownBlock ≠ some p
 hp : H ≤ p
 x0 : X 0 = prV m U
 x1 : X 1 = bcs n I
 x2 : X 2 = ncs n a
 x3 : X 3 = ncs n c
 xr : ∀ k, k < m → X (k + 4) = nat64 (P k)
def Pf (p M : Nat) (U : Nat → Value) (k : Nat) : Prop := k = p ∨ ∃ i, i < M ∧ (U i).ownBlock = some k
structure PtV (w : World) (H p : Nat) (D : Nat → Prop) (n m : Nat) (a : Nat → Nat) (I : Nat → Bool) (c : Nat → Nat) : Prop where
 is : ∃ U X, PtU w H p n m U X (prt n a) a I c ∧ ∀ k, Pf p (4 + m) U k → D k
 dB : ∀ k, D k → H ≤ k
 dl : ∀ k, D k → k < w.heap.size
theorem Apt.pick {w : World} {H m m' : Nat} {U U' : Nat → Value} {X X' : Nat → List Value} (h : Apt w H m U X) (σ : Nat → Nat) (hs : ∀ i, i < m' → σ i < m) (hi : ∀ i j, i < m' → j < m' → σ i = σ j → i = j) (ht : ∀ i, i < m' → tyU (σ i) = tyU i) (hU : ∀ i, i < m' → U' i = U (σ i)) (hX : ∀ i, i < m' → X' i = X (σ i)) : Apt w H m' U' X' := by
 refine ⟨fun i h1 => ?_, fun i j h1 h2 hne k hk => ?_⟩
 ·have := h.own (σ i) (hs i h1)
  rw [ht i h1] at this
  rw [hU i h1, hX i h1]
  exact this
 ·rw [hU i h1] at hk
  rw [hU j h2]
  exact h.inj (σ i) (σ j) (hs i h1) (hs j h2) (fun e => hne (hi i j h1 h2 e)) k hk
theorem Apt.congr {w : World} {H m : Nat} {U U' : Nat → Value} {X X' : Nat → List Value} (h : Apt w H m U X) (hU : ∀ i, i < m → U' i = U i) (hX : ∀ i, i < m → X' i = X i) : Apt w H m U' X' :=
 h.pick id (fun i h => h) (fun i j _ _ e => e) (fun i _ => rfl) hU hX
theorem Apt.offs {w w' : World} {H m : Nat} {U : Nat → Value} {X : Nat → List Value} {D : Nat → Prop} (h : Apt w H m U X) (ho : Off D w w') (hd : ∀ i, i < m → ∀ k, (U i).ownBlock = some k → ¬ D k) : Apt w' H m U X :=
 ⟨fun i hi => own6_stay (h.own i hi) fun j hj => ho.block j (h.lt hi j hj).1 (hd i hi j hj), h.inj⟩
section
variable {w w' w'' : World} {H p n m : Nat} {U : Nat → Value} {X : Nat → List Value} {P : Nat → List Nat} {a : Nat → Nat} {I : Nat → Bool} {c : Nat → Nat} {D D' : Nat → Prop}
theorem PtU.lt (h : PtU w H p n m U X P a I c) {k : Nat} (hk : Pf p (4 + m) U k) : k < w.heap.size ∧ H ≤ k := by
 rcases hk with rfl | ⟨i, hi, hk⟩
 ·exact ⟨h.blk.lt, h.hp⟩
 ·exact h.apt.lt hi k hk
theorem PtU.stay (h : PtU w H p n m U X P a I c) (hb : ∀ k, Pf p (4 + m) U k → w'.heap[k]? = w.heap[k]?) : PtU w' H p n m U X P a I c :=
 {h with blk := (hb p (.inl rfl)).trans h.blk, apt := ⟨fun i hi => own6_stay (h.apt.own i hi) fun j hj => hb j (.inr ⟨i, hi, hj⟩), h.apt.inj⟩ }
theorem PtU.below (h : PtU w H p n m U X P a I c) (hb : Below w.heap.size w w') : PtU w' H p n m U X P a I c := h.stay fun k hk => hb.block k (h.lt hk).1
theorem PtU.off (h : PtU w H p n m U X P a I c) (hb : Off D w w') (hd : ∀ k, Pf p (4 + m) U k → ¬ D k) : PtU w' H p n m U X P a I c := h.stay fun k hk => hb.block k (h.lt hk).1 (hd k hk)
theorem PtU.congr {a' : Nat → Nat} {I' : Nat → Bool} {c' : Nat → Nat} (h : PtU w H p n m U X P a I c) (ha : ∀ s, s < n → a s = a' s) (hI : ∀ s, s < n → I s = I' s) (hc : ∀ s, s < n → c s = c' s) : PtU w H p n m U X P a' I' c' :=
 {h with x1 := by rw [h.x1]; exact bcs_congr hI, x2 := by rw [h.x2]; exact ncs_congr ha, x3 := by rw [h.x3]; exact ncs_congr hc }
theorem PtU.congrC {c' : Nat → Nat} (h : PtU w H p n m U X P a I c) (hc : ∀ s, s < n → c s = c' s) : PtU w H p n m U X P a I c' := h.congr (fun _ _ => rfl) (fun _ _ => rfl) hc
theorem PtU.congrI {I' : Nat → Bool} (h : PtU w H p n m U X P a I c) (hc : ∀ s, s < n → I s = I' s) : PtU w H p n m U X P a I' c := h.congr (fun _ _ => rfl) hc (fun _ _ => rfl)
theorem PtV.below (h : PtV w H p D n m a I c) (hb : Below w.heap.size w w') : PtV w' H p D n m a I c := by
 obtain ⟨U, X, h1, h2⟩ := h.is
 exact ⟨⟨U, X, h1.below hb, h2⟩, h.dB, fun k hk => Nat.lt_of_lt_of_le (h.dl k hk) hb.size⟩
theorem PtV.mono (h : PtV w H p D n m a I c) (hD : ∀ k, D k → D' k) (hB : ∀ k, D' k → H ≤ k) (hl : ∀ k, D' k → k < w.heap.size) : PtV w H p D' n m a I c := by
 obtain ⟨U, X, h1, h2⟩ := h.is
 exact ⟨⟨U, X, h1, fun k hk => hD k (h2 k hk)⟩, hB, hl⟩
theorem PtV.size (h : PtV w H p D n m a I c) : H ≤ w.heap.size := by
 obtain ⟨U, X, h1, h2⟩ := h.is
 exact Nat.le_of_lt (Nat.lt_of_le_of_lt h1.hp h1.blk.lt)
theorem PtU.val (h : PtU w H p n m U X P a I c) {i l : Nat} (hi : i < 4 + m) (hl : (X i).length = l) (h0 : 0 < l) : ∃ g cp, U i = .slice (some ⟨g, 0, none⟩) l cp ∧ g < w.heap.size ∧ H ≤ g ∧ l ≤ cp := by
 have h1 := h.apt.own i hi
 rw [hl] at h1
 obtain ⟨g, cp, e, h2, h3, h4, h5⟩ := own_in h1 h0
 exact ⟨g, cp, e, h4, h5, h2⟩
theorem PtU.l0 (h : PtU w H p n m U X P a I c) : (X 0).length = m := by rw [h.x0, prV_len]
theorem PtU.l1 (h : PtU w H p n m U X P a I c) : (X 1).length = n := by rw [h.x1, bcs_len]
theorem PtU.l2 (h : PtU w H p n m U X P a I c) : (X 2).length = n := by rw [h.x2, ncs_len]
theorem PtU.l3 (h : PtU w H p n m U X P a I c) : (X 3).length = n := by rw [h.x3, ncs_len]
theorem PtU.lr (h : PtU w H p n m U X P a I c) {k : Nat} (hk : k < m) : (X (k + 4)).length = (P k).length := by rw [h.xr k hk, nat64_len]
theorem PtU.cell (h : PtU w H p n m U X P a I c) {i g l cp q : Nat} {v : Value} (hi : i < 4 + m) (hU : U i = .slice (some ⟨g, 0, none⟩) l cp) (hx : (X i)[q]? = some v) : w.cell? ⟨g, q, none⟩ = some v ∧ w.frozen? ⟨g, q, none⟩ = false := by
 have h1 := h.apt.own i hi
 rw [hU] at h1
 have h2 : l = (X i).length := by
  rcases h1.2 with ⟨e, _⟩ | ⟨g', cap', cur, e, _⟩
  ·cases e
  ·injection e
 rw [← h2] at h1
 exact own_cell h1 hx
theorem PtU.at_ (h : PtU w H p n m U X P a I c) {g l cp s : Nat} (hU : U 2 = .slice (some ⟨g, 0, none⟩) l cp) (hs : s < n) : w.cell? ⟨g, s, none⟩ = some (.int .i64 (a s : Int)) := (h.cell (by omega) hU (by rw [h.x2]; exact ncs_get a hs)).1
theorem PtU.in_ (h : PtU w H p n m U X P a I c) {g l cp s : Nat} (hU : U 1 = .slice (some ⟨g, 0, none⟩) l cp) (hs : s < n) : w.cell? ⟨g, s, none⟩ = some (.bool (I s)) := (h.cell (by omega) hU (by rw [h.x1]; exact bcs_get I hs)).1
theorem PtU.cnt (h : PtU w H p n m U X P a I c) {g l cp s : Nat} (hU : U 3 = .slice (some ⟨g, 0, none⟩) l cp) (hs : s < n) : w.cell? ⟨g, s, none⟩ = some (.int .i64 (c s : Int)) := (h.cell (by omega) hU (by rw [h.x3]; exact ncs_get c hs)).1
theorem PtU.top (h : PtU w H p n m U X P a I c) {g l cp k : Nat} (hU : U 0 = .slice (some ⟨g, 0, none⟩) l cp) (hk : k < m) : w.cell? ⟨g, k, none⟩ = some (U (k + 4)) := (h.cell (by omega) hU (by rw [h.x0]; exact prV_get U hk)).1
theorem PtU.part (h : PtU w H p n m U X P a I c) {k : Nat} (hk : k < m) : w.ownsRow H 3 1 (U (k + 4)) (P k).length (nat64 (P k)) := by
 have h1 := h.apt.own (k + 4) (by omega)
 rw [h.xr k hk, nat64_len] at h1
 exact h1
theorem PtU.setI (h : PtU w H p n m U X P a I c) {g l cp s : Nat} (hU : U 1 = .slice (some ⟨g, 0, none⟩) l cp) (hs : s < n) (b : Bool) : PtU (w.setCell ⟨g, s, none⟩ (.bool b)) H p n m U (putX X 1 (bcs n (updB I s b))) P a (updB I s b) c := by
 have hg : p ≠ g := fun e => h.ne 1 (by omega) (by rw [hU, e]; rfl)
 refine ⟨h.blk.far (p := ⟨g, s, none⟩) hg _, ?_, h.ne, h.hp, by rw [putX_ne (by decide)]; exact h.x0, putX_at _ _ _, by rw [putX_ne (by decide)]; exact h.x2, by rw [putX_ne (by decide)]; exact h.x3, fun k hk => by rw [putX_ne (by omega)]; exact h.xr k hk⟩
 have h1 := h.apt.set (s := 1) (by omega) hU (q := s) (by rw [h.l1]; exact hs) (.bool b)
 rw [h.x1, bcs_set] at h1
 exact h1
theorem PtU.setC (h : PtU w H p n m U X P a I c) {g l cp s : Nat} (hU : U 3 = .slice (some ⟨g, 0, none⟩) l cp) (hs : s < n) (x : Nat) : PtU (w.setCell ⟨g, s, none⟩ (.int .i64 (x : Int))) H p n m U (putX X 3 (ncs n (updN c s x))) P a I (updN c s x) := by
 have hg : p ≠ g := fun e => h.ne 3 (by omega) (by rw [hU, e]; rfl)
 refine ⟨h.blk.far (p := ⟨g, s, none⟩) hg _, ?_, h.ne, h.hp, by rw [putX_ne (by decide)]; exact h.x0, by rw [putX_ne (by decide)]; exact h.x1, by rw [putX_ne (by decide)]; exact h.x2, putX_at _ _ _, fun k hk => by rw [putX_ne (by omega)]; exact h.xr k hk⟩
 have h1 := h.apt.set (s := 3) (by omega) hU (q := s) (by rw [h.l3]; exact hs) (.int .i64 (x : Int))
 rw [h.x3, ncs_set] at h1
 exact h1
theorem PtU.setA (h : PtU w H p n m U X P a I c) {g l cp s : Nat} (hU : U 2 = .slice (some ⟨g, 0, none⟩) l cp) (hs : s < n) (x : Nat) : PtU (w.setCell ⟨g, s, none⟩ (.int .i64 (x : Int))) H p n m U (putX X 2 (ncs n (updN a s x))) P (updN a s x) I c := by
 have hg : p ≠ g := fun e => h.ne 2 (by omega) (by rw [hU, e]; rfl)
 refine ⟨h.blk.far (p := ⟨g, s, none⟩) hg _, ?_, h.ne, h.hp, by rw [putX_ne (by decide)]; exact h.x0, by rw [putX_ne (by decide)]; exact h.x1, putX_at _ _ _, by rw [putX_ne (by decide)]; exact h.x3, fun k hk => by rw [putX_ne (by omega)]; exact h.xr k hk⟩
 have h1 := h.apt.set (s := 2) (by omega) hU (q := s) (by rw [h.l2]; exact hs) (.int .i64 (x : Int))
 rw [h.x2, ncs_set] at h1
 exact h1
end
structure PPost (w : World) (H p : Nat) (D : Nat → Prop) (n m : Nat) (a : Nat → Nat) (I : Nat → Bool) (c : Nat → Nat) (w' : World) : Prop where
 pt : PtV w' H p (up D w w') n m a I c
 off : Off D w w'
 sz : H ≤ w.heap.size
section
variable {w w' w'' : World} {H p n m m' : Nat} {a a' : Nat → Nat} {I I' : Nat → Bool} {c c' : Nat → Nat} {D : Nat → Prop}
theorem PPost.trans (x : PPost w H p D n m a I c w') (y : PPost w' H p (up D w w') n m' a' I' c' w'') : PPost w H p D n m' a' I' c' w'' := by
 refine ⟨y.pt.mono (up_trans x.off.size y.off.size) (fun k hk => ?_) (fun k hk => ?_), off_trans x.off y.off, x.sz⟩
 ·rcases hk with hk | hk
  ·exact x.pt.dB k (.inl hk)
  ·exact Nat.le_trans x.sz hk.1
 ·rcases hk with hk | hk
  ·exact y.pt.dl k (.inl (.inl hk))
  ·exact hk.2
theorem PPost.then_ (x : PPost w H p D n m a I c w') (hb : Below w'.heap.size w' w'') : PPost w H p D n m a I c w'' := by
 refine ⟨(x.pt.below hb).mono (fun k hk => ?_) (fun k hk => ?_) fun k hk => ?_, x.off.then hb, x.sz⟩
 ·rcases hk with hk | hk
  ·exact .inl hk
  ·exact .inr ⟨hk.1, Nat.lt_of_lt_of_le hk.2 hb.size⟩
 ·rcases hk with hk | hk
  ·exact x.pt.dB k (.inl hk)
  ·exact Nat.le_trans x.sz hk.1
 ·rcases hk with hk | hk
  ·exact Nat.lt_of_lt_of_le (x.pt.dl k (.inl hk)) hb.size
  ·exact hk.2
theorem PPost.below (x : PPost w H p D n m a I c w') {w0 : World} {B : Nat} (hB : B ≤ H) (hD : ∀ k, D k → H ≤ k) (hb : Below B w0 w) : Below B w0 w' := hb.trans ((x.off.below hD x.sz).mono hB)
end
theorem PtU.as {w : World} {H p n m : Nat} {U : Nat → Value} {X : Nat → List Value} {P : Nat → List Nat} {a : Nat → Nat} {I : Nat → Bool} {c : Nat → Nat} (h : PtU w H p n m U X P a I c) {P' : Nat → List Nat} (hP : ∀ k, k < m → P k = P' k) : PtU w H p n m U X P' a I c := { h with xr := fun k hk => by rw [h.xr k hk, hP k hk] }
theorem Apt.add {w : World} {H M : Nat} {U : Nat → Value} {X : Nat → List Value} {v : Value} {l : List Value} (h : Apt w H M U X) (ho : w.ownsRow H (tyU M) 1 v l.length l) (hd : ∀ i, i < M → ∀ k, (U i).ownBlock = some k → v.ownBlock ≠ some k) : Apt w H (M + 1) (putV U M v) (putX X M l) := by
 refine ⟨fun i hi => ?_, fun i j hi hj hij k hk => ?_⟩
 ·by_cases e : i = M
  ·subst e
   rw [putV_at, putX_at]
   exact ho
  ·rw [putV_ne e, putX_ne e]
   exact h.own i (by omega)
 ·by_cases e : i = M
  ·subst e
   rw [putV_at] at hk
   rw [putV_ne (by omega)]
   exact fun hk2 => hd j (by omega) k hk2 hk
  ·rw [putV_ne e] at hk
   by_cases e2 : j = M
   ·subst e2
    rw [putV_at]
    exact hd i (by omega) k hk
   ·rw [putV_ne e2]
    exact h.inj i j (by omega) (by omega) hij k hk
theorem ptV_of {w w' : World} {H p n m : Nat} {D : Nat → Prop} {U : Nat → Value} {X : Nat → List Value} {a : Nat → Nat} {I : Nat → Bool} {c : Nat → Nat} (h : PtU w' H p n m U X (prt n a) a I c) (hf : ∀ k, Pf p (4 + m) U k → D k ∨ w.heap.size ≤ k) (hD : ∀ k, D k → H ≤ k) (hl : ∀ k, D k → k < w.heap.size) (ho : Off D w w') (hs : H ≤ w.heap.size) : PPost w H p D n m a I c w' := by
 refine ⟨⟨⟨U, X, h, fun k hk => ?_⟩, fun k hk => ?_, fun k hk => ?_⟩, ho, hs⟩
 ·rcases hf k hk with e | e
  ·exact .inl e
  ·exact .inr ⟨e, (h.lt hk).1⟩
 ·rcases hk with e | e
  ·exact hD k e
  ·exact Nat.le_trans hs e.1
 ·rcases hk with e | e
  ·exact Nat.lt_of_lt_of_le (hl k e) ho.size
  ·exact e.2
section
variable {ev : Operand → Value} {o : Oper} {p : Addr} {W : World} {A : Option Addr} {n c : Nat}
theorem lk_ldI (x : Operand) (ho : o.op = .load 3 x) (hx : ev x = .pointer (some p)) {k : Int} (hc : W.cell? p = some (.int .i64 k)) : (execOp ev o).run Try.prog W = .ok (.value (.int .i64 k)) W := by
 simp only [execOp, ho, hx]
 go_simp
theorem lk_ldB (x : Operand) (ho : o.op = .load 4 x) (hx : ev x = .pointer (some p)) {k : Bool} (hc : W.cell? p = some (.bool k)) : (execOp ev o).run Try.prog W = .ok (.value (.bool k)) W := by
 simp only [execOp, ho, hx]
 go_simp
theorem lk_ldU (x : Operand) (ho : o.op = .load 5 x) (hx : ev x = .pointer (some p)) {k : Int} (hc : W.cell? p = some (.int .u8 k)) : (execOp ev o).run Try.prog W = .ok (.value (.int .u8 k)) W := by
 simp only [execOp, ho, hx]
 go_simp
theorem lk_ldIs (x : Operand) (ho : o.op = .load 38 x) (hx : ev x = .pointer (some p)) (hc : W.cell? p = some (.slice A n c)) : (execOp ev o).run Try.prog W = .ok (.value (.slice A n c)) W := by
 simp only [execOp, ho, hx]
 go_simp
theorem lk_ldBs (x : Operand) (ho : o.op = .load 26 x) (hx : ev x = .pointer (some p)) (hc : W.cell? p = some (.slice A n c)) : (execOp ev o).run Try.prog W = .ok (.value (.slice A n c)) W := by
 simp only [execOp, ho, hx]
 go_simp
theorem lk_ldIss (x : Operand) (ho : o.op = .load 25 x) (hx : ev x = .pointer (some p)) (hc : W.cell? p = some (.slice A n c)) : (execOp ev o).run Try.prog W = .ok (.value (.slice A n c)) W := by
 simp only [execOp, ho, hx]
 go_simp
theorem lk_ixI (x i : Operand) (ho : o.op = .indexAddr 38 x i) {b off q : Nat} (hx : ev x = .slice (some ⟨b, off, none⟩) n c) (hi : ev i = .int .i64 (q : Int)) (hq : q < n) (W : World) : (execOp ev o).run Try.prog W = .ok (.value (.pointer (some ⟨b, off + q, none⟩))) W := by
 have h1 : (q : Int) < (n : Int) := Int.ofNat_lt.2 hq
 simp only [execOp, ho, hx, hi]
 go_simp
theorem lk_ixB (x i : Operand) (ho : o.op = .indexAddr 26 x i) {b off q : Nat} (hx : ev x = .slice (some ⟨b, off, none⟩) n c) (hi : ev i = .int .i64 (q : Int)) (hq : q < n) (W : World) : (execOp ev o).run Try.prog W = .ok (.value (.pointer (some ⟨b, off + q, none⟩))) W := by
 have h1 : (q : Int) < (n : Int) := Int.ofNat_lt.2 hq
 simp only [execOp, ho, hx, hi]
 go_simp
theorem lk_ixIs (x i : Operand) (ho : o.op = .indexAddr 25 x i) {b off q : Nat} (hx : ev x = .slice (some ⟨b, off, none⟩) n c) (hi : ev i = .int .i64 (q : Int)) (hq : q < n) (W : World) : (execOp ev o).run Try.prog W = .ok (.value (.pointer (some ⟨b, off + q, none⟩))) W := by
 have h1 : (q : Int) < (n : Int) := Int.ofNat_lt.2 hq
 simp only [execOp, ho, hx, hi]
 go_simp
theorem lk_ixIu (x i : Operand) (ho : o.op = .indexAddr 38 x i) {b off q : Nat} (hx : ev x = .slice (some ⟨b, off, none⟩) n c) (hi : ev i = .int .u8 (q : Int)) (hq : q < n) (W : World) : (execOp ev o).run Try.prog W = .ok (.value (.pointer (some ⟨b, off + q, none⟩))) W := by
 have h1 : (q : Int) < (n : Int) := Int.ofNat_lt.2 hq
 simp only [execOp, ho, hx, hi]
 go_simp
theorem lk_ixI0 (x i : Operand) (ho : o.op = .indexAddr 38 x i) {b q : Nat} (hx : ev x = .slice (some ⟨b, 0, none⟩) n c) (hi : ev i = .int .i64 (q : Int)) (hq : q < n) (W : World) : (execOp ev o).run Try.prog W = .ok (.value (.pointer (some ⟨b, q, none⟩))) W := by
 have := lk_ixI x i ho hx hi hq W
 rwa [Nat.zero_add] at this
theorem lk_ixB0 (x i : Operand) (ho : o.op = .indexAddr 26 x i) {b q : Nat} (hx : ev x = .slice (some ⟨b, 0, none⟩) n c) (hi : ev i = .int .i64 (q : Int)) (hq : q < n) (W : World) : (execOp ev o).run Try.prog W = .ok (.value (.pointer (some ⟨b, q, none⟩))) W := by
 have := lk_ixB x i ho hx hi hq W
 rwa [Nat.zero_add] at this
theorem lk_ixIs0 (x i : Operand) (ho : o.op = .indexAddr 25 x i) {b q : Nat} (hx : ev x = .slice (some ⟨b, 0, none⟩) n c) (hi : ev i = .int .i64 (q : Int)) (hq : q < n) (W : World) : (execOp ev o).run Try.prog W = .ok (.value (.pointer (some ⟨b, q, none⟩))) W := by
 have := lk_ixIs x i ho hx hi hq W
 rwa [Nat.zero_add] at this
theorem lk_isb {w V : World} (h : IsW w.drew V) : Below w.heap.size w V := by
 have e : V = w.drew := h
 rw [e]
 exact (Below.refl _ _).drew
theorem lk_isc {w V : World} (h : IsW w.drew V) {p : Addr} {v : Value} (hc : w.cell? p = some v) : V.cell? p = some v := by
 have e : V = w.drew := h
 rw [e]
 exact hc
theorem lk_isf {w V : World} (h : IsW w.drew V) {p : Addr} {v : Bool} (hc : w.frozen? p = v) : V.frozen? p = v := by
 have e : V = w.drew := h
 rw [e]
 exact hc
end
def endI (E : List Bool) (i : Nat) : List Int := ((List.range i).filter fun j => E[j]?.getD false).map Int.ofNat
theorem endI_yes {E : List Bool} {i : Nat} (h : E[i]? = some true) : endI E (i + 1) = endI E i ++ [(i : Int)] := by
 unfold endI
 rw [List.range_succ, List.filter_append, List.map_append]
 simp [h]
theorem endI_no {E : List Bool} {i : Nat} (h : E[i]? = some false) : endI E (i + 1) = endI E i := by
 unfold endI
 rw [List.range_succ, List.filter_append, List.map_append]
 simp [h]
theorem endI_len (E : List Bool) (i : Nat) : (endI E i).length ≤ i := by
 unfold endI
 rw [List.length_map]
 exact Nat.le_trans (List.length_filter_le _ _) (Nat.le_of_eq List.length_range)
theorem bnd_en {i n a : Nat} (h1 : i < n) (h2 : n ≤ 2000) (h3 : a ≤ i) : a + 1 ≤ 2097152 := by omega
theorem fam_app {w w' : World} {Bt Br g cap n : Nat} {vf : Nat → Value} {L : Nat → List Int} (h : Fam w Bt Br g cap n n vf L) {t : Nat} (ht : t < n) {v : Value} (hv : vf t = v) (hg : w.grownBy w' v.ownBlock) : w'.cell? ⟨g, t, none⟩ = some (vf t) ∧ w'.frozen? ⟨g, t, none⟩ = false := by
 have h1 : Fam w' Bt Br g cap n 0 vf L := ⟨own6_stay h.top fun j hj => by
  have e := Option.some.inj (show some g = some j from hj)
  subst e
  exact hg.block g h.glt.1 fun e => h.ng t ht (by rw [hv]; first | exact e | exact e.symm), fun i hi => absurd hi (Nat.not_lt_zero _), fun i hi => absurd hi (Nat.not_lt_zero _), fun i j hi => absurd hi (Nat.not_lt_zero _)⟩
 exact ⟨h1.cell ht, h1.frozen ht⟩
structure Dr (w : World) (cs : List Value) (D : Dm) (n kd bn on cn be oe ce : Nat) : Prop where
 cs : cs = dcl D.cl (.slice (some ⟨bn, on, none⟩) n cn) (.slice (some ⟨be, oe, none⟩) n ce)
 hl : D.cl.length = 256
 hbn : bn < w.heap.size
 hbe : be < w.heap.size
 row : ∀ s, s < n → ∃ b o cr, w.cell? ⟨bn, on + s, none⟩ = some (.slice (some ⟨b, o, none⟩) kd cr) ∧ b < w.heap.size ∧ Row w (.slice (some ⟨b, o, none⟩) kd cr) (ncs kd fun c => stC D s c)
 ends : ∀ s, s < n → w.cell? ⟨be, oe + s, none⟩ = some (.bool (D.ends.getD s false))
theorem row_stC {D : Dm} (h : MayD D) {s : Nat} {r : List Int} (hr : D.next[s]? = some r) {kd : Nat} (hk : kd = clsA D.cl) : nums .i64 r = ncs kd fun c => stC D s c := by
 have hm := List.mem_of_getElem? hr
 have hl : r.length = kd := by rw [hk]; exact h.rows r hm
 apply List.ext_getElem?
 intro c
 by_cases hc : c < kd
 ·obtain ⟨x, hx⟩ : ∃ x, r[c]? = some x := ⟨_, List.getElem?_eq_getElem (by omega)⟩
  have h2 := h.to r hm x (List.mem_of_getElem? hx)
  rw [ncs_get _ hc, nums, List.getElem?_map, hx, Option.map_some]
  unfold stC
  rw [hr, Option.getD_some, List.getD_eq_getElem?_getD, hx, Option.getD_some, Int.toNat_of_nonneg h2.1]
 ·rw [List.getElem?_eq_none (by rw [nums_length]; omega), List.getElem?_eq_none (by rw [ncs_len]; omega)]
theorem cls_pos {D : Dm} (hl : D.cl.length = 256) : 0 < clsA D.cl := Nat.lt_of_le_of_lt (Nat.zero_le _) (clsA_lt hl (j := 0) (List.getElem?_eq_getElem (by rw [hl]; decide)))
theorem dr_of {w : World} {cs : List Value} {D : Dm} {n kd : Nat} (hv : DfaV w cs D) (hm : MayD D) (hn : n = D.next.length) (hk : kd = clsA D.cl) : ∃ bn on cn be oe ce, Dr w cs D n kd bn on cn be oe ce := by
 obtain ⟨An, Ae, cn, ce, vf, hl, hcs, hx, hr, he⟩ := hv.form
 have hp : 0 < n := by rw [hn]; exact hm.pos
 rw [hm.ends, ← hn] at hcs he
 rw [← hn] at hx
 obtain ⟨be, oe, rfl, hbe, hce⟩ := he.at_ (by rw [bools_length, hm.ends, ← hn]; exact hp)
 obtain ⟨bn, on, rfl, hbn, hcn⟩ := hx.at_ (by rw [List.length_map, List.length_range]; exact hp)
 refine ⟨bn, on, cn, be, oe, ce, hcs, hl, hbn, hbe, fun s hs => ?_, fun s hs => hce s _ (by
  rw [bools, List.getElem?_map, List.getElem?_eq_getElem (by rw [hm.ends, ← hn]; exact hs), List.getD_eq_getElem?_getD, List.getElem?_eq_getElem (by rw [hm.ends, ← hn]; exact hs)]; rfl)⟩
 obtain ⟨r, h1⟩ : ∃ r, D.next[s]? = some r := ⟨_, List.getElem?_eq_getElem (by rw [← hn]; exact hs)⟩
 have h2 : r.length = kd := by rw [hk]; exact hm.rows r (List.mem_of_getElem? h1)
 have h3 := hr s r h1
 obtain ⟨Ar, cr, hvr, _⟩ := id h3
 rw [nums_length, h2] at hvr
 rw [hvr] at h3
 obtain ⟨b, o, rfl, hb, _⟩ := h3.at_ (by rw [nums_length, h2, hk]; exact cls_pos hl)
 rw [row_stC hm h1 hk] at h3
 exact ⟨b, o, cr, hcn s _ (by simp [hs, hvr]), hb, h3⟩
theorem Dr.below {w w' : World} {cs : List Value} {D : Dm} {n kd bn on cn be oe ce : Nat} (h : Dr w cs D n kd bn on cn be oe ce) (hb : Below w.heap.size w w') : Dr w' cs D n kd bn on cn be oe ce :=
 ⟨h.cs, h.hl, Nat.lt_of_lt_of_le h.hbn hb.size, Nat.lt_of_lt_of_le h.hbe hb.size, fun s hs => by
  obtain ⟨b, o, cr, h1, h2, h3⟩ := h.row s hs
  exact ⟨b, o, cr, (hb.cell (p := ⟨bn, on + s, none⟩) h.hbn).trans h1, Nat.lt_of_lt_of_le h2 hb.size, h3.below hb⟩, fun s hs => (hb.cell (p := ⟨be, oe + s, none⟩) h.hbe).trans (h.ends s hs)⟩
theorem Dr.at_ {w : World} {cs : List Value} {D : Dm} {n kd bn on cn be oe ce : Nat} (h : Dr w cs D n kd bn on cn be oe ce) {s c : Nat} (hs : s < n) (hc : c < kd) : ∃ b o cr, w.cell? ⟨bn, on + s, none⟩ = some (.slice (some ⟨b, o, none⟩) kd cr) ∧ b < w.heap.size ∧ w.cell? ⟨b, o + c, none⟩ = some (.int .i64 (stC D s c : Int)) := by
 obtain ⟨b, o, cr, h1, h2, h3⟩ := h.row s hs
 obtain ⟨b', o', e, hb, hcell⟩ := h3.at_ (by rw [ncs_len]; omega)
 injection e with e
 injection e with e1 e2
 subst e1 e2
 exact ⟨b, o, cr, h1, h2, hcell c _ (ncs_get _ hc)⟩
theorem preP_cells {P : Nat → Nat} {i n : Nat} : ncs n (updN (preP P i 0) i (P i)) = ncs n (preP P (i + 1) 0) := by rw [preP_set, preP_next P i n rfl]
set_option maxHeartbeats 8000000 in
set_option maxRecDepth 1000000 in
theorem lColD_any {D : Dm} {cs : List Value} {n kd bn on cn be oe ce c : Nat} (w : World) (hsz : (Try.prog.info? 28).map (·.size) = some cs.length) (hdr : Dr w cs D n kd bn on cn be oe ce) (hn : n ≤ 2000) (hc : c < kd) :
  Calls Try.prog 24 #[.agg cs.toArray, .int .i64 (c : Int)] w fun e w' => ∃ g, e = .returned (.slice (some ⟨g, 0, none⟩) n n) ∧ Blk w' g 3 (ncs n fun s => stC D s c) ∧ w.heap.size ≤ g ∧ Below w.heap.size w w' := by
 have HDS := qH hsz
 have HNF := qH hn
 have HR := qH hdr
 have HC := qH hc
 have HCS := qH hdr.cs
 have HL := qH hdr.hl
 obtain ⟨P, hP⟩ : ∃ P : Nat → Nat, P = fun s => stC D s c := ⟨_, rfl⟩
 have HP := qH hP
 rw [← hP]
 obtain ⟨i1, hi1, hy0, hy1, hy2⟩ := infoP inf_int
 have HYI := qH (show i1.bytes * n ≤ 281474976710656 by have := HNF.out; rw [hy2]; omega)
 have HN3 := qH (show n ≤ 9223372036854775807 by have := HNF.out; omega)
 have k1 : (c : Int) < (kd : Int) := Int.ofNat_lt.2 hc
 clear hsz hn hc hdr hP
 go_enter Try.func24, Try.ntmps24
 go_wp2_with (first
  | ((with_reducible refine atDst 2 ?_); refine wpList_box rfl 28 _ rfl cs rfl (Below.refl w.heap.size w) (Nat.le_refl _) ?_; intro w1 hk1 hb1 hs1 _; have K1 := qH hk1; have B1 := qH hb1; have c256 : w1.cell? ⟨w.heap.size, 256, none⟩ = some (.slice (some ⟨bn, on, none⟩) n cn) := (by rw [hk1.cell 256, HCS.out]; exact dcl_n HL.out); clear hk1 hb1 hs1; (try simp only [Act.put, qA, qB, qC]))
  | ((with_reducible refine atDst 11 ?_); refine wpList_mk _ rfl _ _ 38 rfl 3 i1 (.int .i64 0) Try.underlying38 hi1 hy0 hy1 rfl n _ _ _ _ rfl rfl rfl rfl HYI.out HN3.out ?_; intro w2 hk hb hs; have T2 := qH hk; have B2 := qH hb; have d256 : w2.cell? ⟨w.heap.size, 256, none⟩ = some (.slice (some ⟨bn, on, none⟩) n cn) := (by rw [(K1.out.below hb K1.out.lt).cell 256, HCS.out]; exact dcl_n HL.out); clear hk hb hs; (try simp only [Act.put, qA, qB, qC])))
 obtain ⟨g, hg⟩ : ∃ g, g = w1.heap.size := ⟨_, rfl⟩
 rw [← hg] at T2
 have HG := qH (show w.heap.size ≤ g by rw [hg]; exact B1.out.size)
 have BG := qH (show Below g w1 w2 by rw [hg]; exact B2.out)
 rw [← hg]
 have K0 := qH (show Blk w2 g 3 (ncs n (preP P 0 0)) by rw [← preP_zero, ← ncs_no]; exact T2.out)
 clear hg T2 c256 d256
 go_wp2_with fail
 go_loopw [15] (fun iv wl => ∃ i : Nat, i ≤ n ∧ iv = .int .i64 (i : Int) ∧ Blk wl g 3 (ncs n (preP P i 0)) ∧ Below g w1 wl) (fun iv _ => n - (intOf iv).toNat)
 case atStart => exact ⟨0, Nat.zero_le _, rfl, K0.out, BG.out⟩
 clear K0 BG
 obtain ⟨i, hi, rfl, hk, hb⟩ := hrel
 obtain ⟨wl, hwl⟩ : ∃ v : World, v = wr := ⟨_, rfl⟩
 subst hwl
 have HI := qH hi
 have KI := qH hk
 have BI := qH hb
 have BW := qH (show Below w.heap.size w wl from B1.out.trans (hb.mono HG.out))
 clear hi hk hb
 by_cases hin : i < n
 ·have x1 : (i : Int) < (n : Int) := Int.ofNat_lt.2 hin
  have HIN := qH hin
  have HMI := qH (sub_next hin)
  have e3 := wrap_one i (lt_bigN hin HNF.out)
  have e4 := wrap_one' i (lt_bigN hin HNF.out)
  obtain ⟨b, o, cr, h1, h2, h3⟩ := (HR.out.below BW.out).at_ hin HC.out
  have hpi : ((stC D i c : Nat) : Int) = (P i : Int) := by rw [HP.out]
  rw [hpi] at h3
  have c0 := (KI.out.cell i).trans (ncs_get _ hin)
  have f0 := KI.out.frozen i
  have KZ := qH (show Blk (wl.setCell ⟨g, i, none⟩ (.int .i64 (P i : Int))) g 3 (ncs n (preP P (i + 1) 0)) by
   have h1 := KI.out.set i (.int .i64 (P i : Int))
   rw [ncs_set, preP_cells] at h1
   exact h1)
  clear hin hpi h2
  go_wp2_with fail
  exact ⟨⟨i + 1, HIN.out, rfl, KZ.out, BI.out.setCell (p := ⟨g, i, none⟩) (Nat.le_refl _) _⟩, by simpa [intOf] using HMI.out⟩
 ·obtain rfl : i = n := Nat.le_antisymm HI.out (Nat.le_of_not_lt hin)
  have x1 : ¬ ((i : Int) < (i : Int)) := Int.lt_irrefl _
  clear hin
  go_wp2_with fail
  go_ret
  exact ⟨g, rfl, by have := KI.out; rw [preP_all] at this; exact this, HG.out, BW.out⟩
theorem lCol_any (D : Dm) (cs : List Value) (c : Nat) (w : World) (hv : DfaV w cs D) (hm : MayD D) (hc : c < clsA D.cl) :
  Calls Try.prog 24 #[.agg cs.toArray, .int .i64 (c : Int)] w fun e w' => ∃ g, e = .returned (.slice (some ⟨g, 0, none⟩) D.next.length D.next.length) ∧ Blk w' g 3 (ncs D.next.length fun s => stC D s c) ∧ w.heap.size ≤ g ∧ Below w.heap.size w w' := by
 obtain ⟨bn, on, cn, be, oe, ce, hdr⟩ := dr_of hv hm rfl rfl
 exact lColD_any w hv.size hdr hm.few hc
def endN (E : List Bool) (i : Nat) : List Nat := (List.range i).filter fun j => E[j]?.getD false
theorem endN_I (E : List Bool) (i : Nat) : nums .i64 (endI E i) = nat64 (endN E i) := rfl
theorem endN_len (E : List Bool) (i : Nat) : (endI E i).length = (endN E i).length := by unfold endI endN; rw [List.length_map]
theorem endN_nodup (E : List Bool) (i : Nat) : (endN E i).Nodup := List.nodup_range.filter _
theorem endN_mem {E : List Bool} {n s : Nat} : s ∈ endN E n ↔ s < n ∧ E.getD s false = true := by
 unfold endN
 rw [List.mem_filter, List.mem_range, List.getD_eq_getElem?_getD]
set_option maxHeartbeats 8000000 in
set_option maxRecDepth 1000000 in
theorem lEnds_any (D : Dm) (cs : List Value) (w : World) (hv : DfaV w cs D) (hE : D.ends.length ≤ 2000) :
  Calls Try.prog 33 #[.agg cs.toArray] w fun e w' => ∃ v : Value, e = .returned v ∧ w'.ownsRow w.heap.size 3 1 v (endI D.ends D.ends.length).length (nums .i64 (endI D.ends D.ends.length)) ∧ Below w.heap.size w w' := by
 have V0 := qH hv
 have HDS := qH hv.size
 obtain ⟨An, Ae, cn, ce, vf, hl, hcs, hn, hr, he⟩ := hv.form
 have HL := qH hl
 obtain ⟨n, hnn⟩ : ∃ n, n = D.ends.length := ⟨_, rfl⟩
 have HN := qH hnn
 rw [← hnn] at hcs he hE ⊢
 have HCS := qH hcs
 have HE := qH he
 have HNF := qH hE
 obtain ⟨i1, hi1, hy0, hy1, hy2⟩ := infoC (show (Try.prog.info? 3).map (fun i => (i.zero, i.size, i.bytes)) = some (some (.int .i64 0), 1, 8) by kernel_rfl)
 clear hv hl hcs hn hr he hnn hE
 go_enter Try.func33, Try.ntmps33
 go_wp2_with ((with_reducible refine atDst 1 ?_); refine wpList_box rfl 28 _ rfl cs rfl (Below.refl w.heap.size w) (Nat.le_refl _) ?_; intro w1 hk1 hb1 hs1 _; have K1 := qH hk1; have B1 := qH hb1; have c257 : w1.cell? ⟨w.heap.size, 257, none⟩ = some (.slice Ae n ce) := (by rw [hk1.cell 257, HCS.out]; exact dcl_e HL.out); clear hk1 hb1 hs1; (try simp only [Act.put, qA, qB, qC]))
 clear c257
 go_loopw [2, 8] (fun v iv wl => ∃ i : Nat, i ≤ n ∧ iv = .int .i64 (i : Int) ∧ wl.ownsRow w1.heap.size 3 1 v (endI D.ends i).length (nums .i64 (endI D.ends i)) ∧ Below w1.heap.size w1 wl) (fun _ iv _ => n - (intOf iv).toNat)
 case atStart => exact ⟨0, Nat.zero_le _, rfl, ownC_nil _ _ _, Below.refl _ _⟩
 obtain ⟨i, hi, rfl, ho, hb⟩ := hrel
 obtain ⟨A, c, rfl⟩ := ownC_slice ho
 have HO := qH ho
 have HB := qH hb
 have HI := qH hi
 have BL := qH (B1.out.trans (hb.mono B1.out.size))
 clear ho hb hi
 by_cases hin : i < n
 ·have x1 : (i : Int) < (n : Int) := Int.ofNat_lt.2 hin
  have HIN := qH hin
  have HMI := qH (sub_next hin)
  have e3 := wrap_one i (lt_bigN hin HNF.out)
  have e4 := wrap_one' i (lt_bigN hin HNF.out)
  obtain ⟨b, hb⟩ : ∃ b, D.ends[i]? = some b := ⟨_, List.getElem?_eq_getElem (by rw [← HN.out]; exact hin)⟩
  obtain ⟨be, oe, rfl, _, hce⟩ := (HE.out.below BL.out).at_ (by rw [bools_length, ← HN.out]; exact Nat.lt_of_le_of_lt (Nat.zero_le _) hin)
  have hci : wr.cell? ⟨be, oe + i, none⟩ = some (.bool b) := hce i _ (by rw [bools, List.getElem?_map, hb]; rfl)
  have HBB := qH hb
  clear hin hb hce
  cases b with
  | false =>
   go_wp2_with fail
   exact ⟨⟨i + 1, HIN.out, rfl, by rw [endI_no HBB.out]; exact HO.out, HB.out⟩, by simpa [intOf] using HMI.out⟩
  | true =>
   go_wp2_with (first
    | ((with_reducible refine atDst 16 ?_); refine wpList_plain rfl fun K hK => wp_bldI 38 3 (.tmp 15) rfl i1 Try.underlying38 hi1 0 hy0 hy1 (i : Int) rfl ?_; intro wb hr hb; have RB := qH hr; have BB := qH hb; have OB := qH (own6_stay HO.out fun j hj => hb.block j (own6_lt HO.out j hj).1); clear hr hb; refine hK _ _ ?_; clear hK K; (try simp only [Act.put, qA, qB, qC]))
    | ((with_reducible refine atDst 17 ?_); refine wpList_appW (base := w1.heap.size) rfl (.tmp 14) (.tmp 16) 38 rfl 3 i1 (.int .i64 0) 8 Try.underlying38 hi1 hy0 hy1 hy2 rfl _ _ (nums .i64 (endI D.ends i)) rfl OB.out _ (nums .i64 [(i : Int)]) rfl RB.out (fun u hu => by obtain rfl := List.mem_singleton.1 hu; rfl) (by rw [nums_length]; exact bnd_en HIN.out HNF.out (endI_len _ _)) (by decide) (Nat.le_trans HB.out.size BB.out.size) ?_; intro v2 wc ho hgr hwr; have HO2 := qH (show wc.ownsRow w1.heap.size 3 1 v2 (endI D.ends (i + 1)).length (nums .i64 (endI D.ends (i + 1))) by (rw [endI_yes HBB.out, List.length_append, nums, List.map_append]; exact ho)); have HGR := qH hgr; clear ho hgr hwr; (try simp only [Act.put, qA, qB, qC])))
   exact ⟨⟨i + 1, HIN.out, rfl, HO2.out, below_own (HB.out.trans (BB.out.mono HB.out.size)) (Nat.le_trans HB.out.size BB.out.size) HGR.out fun q hq => (own6_lt OB.out q hq).2⟩, by simpa [intOf] using HMI.out⟩
 ·obtain rfl : i = n := Nat.le_antisymm HI.out (Nat.le_of_not_lt hin)
  have x1 : ¬ ((i : Int) < (i : Int)) := Int.lt_irrefl _
  clear hin
  go_wp2_with fail
  go_ret
  exact ⟨_, rfl, own_mono HO.out B1.out.size, BL.out⟩
def srcL (L : Nat → List Nat) (l : List Nat) : List Nat := l.flatMap L
theorem srcL_take {L : Nat → List Nat} {l : List Nat} {i s : Nat} (h : l[i]? = some s) : srcL L (l.take (i + 1)) = srcL L (l.take i) ++ L s := by
 obtain ⟨hi, he⟩ := List.getElem?_eq_some_iff.1 h
 unfold srcL
 rw [List.take_succ_eq_append_getElem hi, he, List.flatMap_append]
 simp
theorem srcL_pre {L : Nat → List Nat} {l : List Nat} (i : Nat) : (srcL L (l.take i)).length ≤ (srcL L l).length := by
 unfold srcL
 have : l.flatMap L = (l.take i).flatMap L ++ (l.drop i).flatMap L := by rw [← List.flatMap_append, List.take_append_drop]
 rw [this, List.length_append]
 omega
def LnkN (w : World) (v : Value) (n : Nat) (L : Nat → List Nat) : Prop := ∃ F : Nat → Value, Row w v ((List.range n).map F) ∧ ∀ j, j < n → Row w (F j) (nat64 (L j))
theorem LnkN.below {w w' : World} {v : Value} {n : Nat} {L : Nat → List Nat} (h : LnkN w v n L) (hb : Below w.heap.size w w') : LnkN w' v n L := by
 obtain ⟨F, h1, h2⟩ := h
 exact ⟨F, h1.below hb, fun j hj => (h2 j hj).below hb⟩
set_option maxHeartbeats 8000000 in
set_option maxRecDepth 1000000 in
theorem lSources_any (L : Nat → List Nat) (l : List Nat) (n : Nat) (fv tv : Value) (w : World) (hf : LnkN w fv n L) (ht : Row w tv (nat64 l)) (hl : ∀ s ∈ l, s < n) (hn : l.length ≤ 2000) (hs : (srcL L l).length ≤ 2000) :
  Calls Try.prog 35 #[fv, tv] w fun e w' => ∃ v, e = .returned v ∧ w'.ownsRow w.heap.size 3 1 v (srcL L l).length (nat64 (srcL L l)) ∧ Below w.heap.size w w' := by
 obtain ⟨F, hf1, hf2⟩ := hf
 have HF1 := qH hf1
 have HF2 := qH hf2
 have HT := qH ht
 have HL := qH hl
 have HNF := qH hn
 have HSF := qH hs
 obtain ⟨Af, cf, rfl, _⟩ := hf1
 obtain ⟨At, ct, rfl, _⟩ := ht
 obtain ⟨len, hlen⟩ : ∃ x, x = l.length := ⟨_, rfl⟩
 rw [nat64_len, ← hlen] at HT ⊢
 rw [List.length_map, List.length_range] at HF1 ⊢
 have HLEN := qH hlen
 rw [← hlen] at HNF
 obtain ⟨i1, hi1, hy0, hy1, hy2⟩ := infoP inf_int
 clear hf2 hl hn hs hlen
 go_enter Try.func35, Try.ntmps35
 go_wp2_with fail
 go_loopw [4, 9] (fun v iv wl => ∃ i : Nat, i ≤ len ∧ iv = .int .i64 (i : Int) ∧ wl.ownsRow w.heap.size 3 1 v (srcL L (l.take i)).length (nat64 (srcL L (l.take i))) ∧ Below w.heap.size w wl) (fun _ iv _ => len - (intOf iv).toNat)
 case atStart => exact ⟨0, Nat.zero_le _, rfl, ownC_nil _ _ _, Below.refl _ _⟩
 obtain ⟨i, hi, rfl, ho, hb⟩ := hrel
 obtain ⟨wl, hwl⟩ : ∃ v : World, v = wr := ⟨_, rfl⟩
 subst hwl
 obtain ⟨k, hk⟩ : ∃ k, k = (srcL L (l.take i)).length := ⟨_, rfl⟩
 have HK := qH hk
 rw [← hk] at ho
 obtain ⟨A, c, rfl⟩ := ownC_slice ho
 have HO := qH ho
 have HB := qH hb
 have HI := qH hi
 clear ho hb hi hk
 by_cases hin : i < len
 ·have x1 : (i : Int) < (len : Int) := Int.ofNat_lt.2 hin
  have HIN := qH hin
  have HMI := qH (sub_next hin)
  have e3 := wrap_one i (Nat.le_trans (Nat.le_of_lt hin) (Nat.le_trans HNF.out (by decide)))
  have e4 := wrap_one' i (Nat.le_trans (Nat.le_of_lt hin) (Nat.le_trans HNF.out (by decide)))
  obtain ⟨s, hs⟩ : ∃ s, l[i]? = some s := ⟨_, List.getElem?_eq_getElem (by rw [← HLEN.out]; exact hin)⟩
  have HS := qH hs
  have HSN := qH (HL.out s (List.mem_of_getElem? hs))
  have s1 : (s : Int) < (n : Int) := Int.ofNat_lt.2 HSN.out
  obtain ⟨bt, ot, rfl, _, hct⟩ := (HT.out.below HB.out).at_ (by rw [nat64_len, ← HLEN.out]; exact Nat.lt_of_le_of_lt (Nat.zero_le _) hin)
  have c12 : wl.cell? ⟨bt, ot + i, none⟩ = some (.int .i64 (s : Int)) := hct i _ (nat64_get hs)
  obtain ⟨bf, of, rfl, _, hcf⟩ := (HF1.out.below HB.out).at_ (by rw [List.length_map, List.length_range]; exact Nat.lt_of_le_of_lt (Nat.zero_le _) HSN.out)
  have hrs := (HF2.out s HSN.out).below HB.out
  have HRS := qH hrs
  obtain ⟨As, cq, hvs, _⟩ := hrs
  rw [nat64_len] at hvs
  obtain ⟨ls, hls⟩ : ∃ x, x = (L s).length := ⟨_, rfl⟩
  have HLS := qH hls
  rw [← hls] at hvs
  have c17 : wl.cell? ⟨bf, of + s, none⟩ = some (.slice As ls cq) := hcf s _ (by simp [HSN.out, hvs])
  rw [hvs] at HRS
  have HAPP := qH (srcL_take (L := L) hs)
  have HLM := qH (show k + (nat64 (L s)).length ≤ 2097152 by
   have h1 := srcL_pre (L := L) (l := l) (i + 1)
   rw [HAPP.out, List.length_append, ← HK.out] at h1
   rw [nat64_len]
   have := HSF.out
   omega)
  clear hin hs hct hcf hvs hls
  go_wp2_with ((with_reducible refine atDst 18 ?_); refine wpList_appW (base := w.heap.size) rfl (.tmp 13) (.tmp 17) 38 rfl 3 i1 (.int .i64 0) 8 Try.underlying38 hi1 hy0 hy1 hy2 rfl _ _ _ rfl HO.out _ (nat64 (L s)) rfl HRS.out (nat64_one _) HLM.out (by decide) HB.out.size ?_; intro v2 wc ho hgr hwr; have HO2 := qH (show wc.ownsRow w.heap.size 3 1 v2 (srcL L (l.take (i + 1))).length (nat64 (srcL L (l.take (i + 1)))) by (rw [HAPP.out, List.length_append, nat64_app, ← HK.out, ← nat64_len (L s)]; exact ho)); have HGR := qH hgr; clear ho hgr hwr; (try simp only [Act.put, qA, qB, qC]))
  exact ⟨⟨i + 1, HIN.out, rfl, HO2.out, below_own HB.out HB.out.size HGR.out fun q hq => (own6_lt HO.out q hq).2⟩, by simpa [intOf] using HMI.out⟩
 ·obtain rfl : i = len := Nat.le_antisymm HI.out (Nat.le_of_not_lt hin)
  have x1 : ¬ ((i : Int) < (i : Int)) := Int.lt_irrefl _
  have HE := qH (show l.take i = l by rw [HLEN.out, List.take_length])
  clear hin
  go_wp2_with fail
  go_ret
  refine ⟨_, rfl, ?_, HB.out⟩
  have h1 := HO.out
  rw [HE.out] at h1
  have h2 := HK.out
  rw [HE.out] at h2
  rw [h2] at h1 ⊢
  exact h1
end Go.Proofs.Ytiehefnbdijiaaa
