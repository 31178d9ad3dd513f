/-
  A slice of sets of bytes: how it reads. No statement is proved here.
-/
import Derived.Test.YtaobeconjdeenaaDoorOwnS
import Derived.Deep.MidRow
import Derived.Deep.Slices
import Derived.ProofKit
import Derived.OpenShut
import Derived.ChangeOld
import Derived.DataReads
namespace Go.Proofs.YtaobeconjdeenaaDoor
open Go.RowKit Go.ChangeShapes Go.WideShapes
set_option linter.unusedSimpArgs false
set_option linter.unusedVariables false

/-- A slice value v that can be read as the sets ps. -/
def RowS (w : World) (v : Value) (ps : List (Nat → Bool)) : Prop :=
  ∃ A cap, v = .slice A ps.length cap ∧ ps.length ≤ cap ∧ cap ≤ maxLen ∧ (A = none → cap = 0) ∧
    (ps ≠ [] → ∃ b off, A = some ⟨b, off, none⟩ ∧ b < w.heap.size ∧ ∀ i p, ps[i]? = some p → w.rangeAt b (off + i * 4) (wds p))
theorem RowS.nil (w : World) : RowS w (.slice none 0 0) [] := ⟨none, 0, rfl, Nat.le_refl _, Nat.zero_le _, fun _ => rfl, fun h => absurd rfl h⟩
theorem range_below {w w' : World} {B b o : Nat} {cs : List Value} (h : w.rangeAt b o cs) (hb : Below B w w') (hB : b < B) : w'.rangeAt b o cs :=
  fun j v hv => (hb.cell (p := ⟨b, o + j, none⟩) hB).trans (h j v hv)
theorem RowS.below {w w' : World} {v : Value} {ps : List (Nat → Bool)} (h : RowS w v ps) (hb : Below w.heap.size w w') : RowS w' v ps := by
  obtain ⟨A, cap, hv, h1, h2, h0, h3⟩ := h
  refine ⟨A, cap, hv, h1, h2, h0, fun hne => ?_⟩
  obtain ⟨b, off, hA, hlt, hc⟩ := h3 hne
  exact ⟨b, off, hA, Nat.lt_of_lt_of_le hlt hb.size, fun i p hp => range_below (hc i p hp) hb hlt⟩
theorem RowS.at_ {w : World} {A : Option Addr} {n cap : Nat} {ps : List (Nat → Bool)} (h : RowS w (.slice A n cap) ps) (hne : 0 < ps.length) : ∃ b off, A = some ⟨b, off, none⟩ ∧ b < w.heap.size ∧ ∀ i p, ps[i]? = some p → w.rangeAt b (off + i * 4) (wds p) := by
  obtain ⟨A', cap', he, _, _, _, h3⟩ := h
  injection he with hA _ _
  subst hA
  exact h3 (by rintro rfl; simp at hne)
theorem RowS.len {w : World} {A : Option Addr} {n cap : Nat} {ps : List (Nat → Bool)} (h : RowS w (.slice A n cap) ps) : n = ps.length ∧ n ≤ cap ∧ cap ≤ maxLen := by
  obtain ⟨A', cap', he, h1, h2, h0, _⟩ := h
  injection he with hA hn hc
  subst hn
  subst hc
  exact ⟨rfl, h1, h2⟩
/-- A set in the midst of a block, loaded in whatever world extends the one at hand. -/
theorem ld_mid {P : Program} {a : Act} {oi : Oper} {B : Nat} {w0 : World} (ty : TypeId) (x : Operand) (ho : oi.op = .load ty x) (b o : Nat) (hx : a.eval x = .pointer (some ⟨b, o, none⟩)) (cs : List Value) (d : TypeDesc)
    (hg : w0.rangeAt b o cs) (hB : b < B) (hu : P.underlying ty = some d) (hd : d.isRow = true) (hi : (P.info? ty).map (·.size) = some cs.length) :
    ∀ W, Below B w0 W → (execOp a.eval oi).run P W = .ok (.value (.agg cs.toArray)) W := by
  intro W hW
  have hl := run_loadAt_mid (P := P) W b o ty cs d (range_below hg hW hB) hu hd hi
  simp only [execOp, ho, hx, Sem.run_bind, hl, Result.andThen_ok, Sem.run_pure]

theorem cells_range {w : World} {base b o n : Nat} {cs : List Value} (h : w.cells? base ⟨b, o, none⟩ n = some cs) : cs.length = n ∧ w.rangeAt b o cs := by
  obtain ⟨_, h2, h3⟩ := World.cells?_some h
  refine ⟨h2, fun j v hv => ?_⟩
  have hj : j < n := by rw [← h2]; exact (List.getElem?_eq_some_iff.1 hv).1
  have := h3 j hj
  rw [Addr.add_mid] at this
  rw [this, hv]
/-- Four cells that read as an array of four words are a set. -/
theorem set_of_trod {H : Type} {enc : TypeId × Value → H} {P : Program} {W : World} {base : Nat} {spare : Nat → Bool} {held : Bool} {e u : TypeId} {fuel : Nat} {cs : List Value} {x : DataW H × List MemPlace}
    (he : P.underlying e = some (.array 4 u)) (hu : P.underlying u = some (.int .u64)) (hcu : P.cellsOf u = 1) (hce : P.cellsOf e = 4)
    (h : DataW.trod enc P W base spare held fuel e cs = some x) : ∃ p : Nat → Bool, cs = wds p := by
  obtain ⟨xs, m, rfl, hx, hl, hxl, hall⟩ := DataW.trod_array he h
  rw [hce] at hl
  match cs, hl with
  | [c0, c1, c2, c3], _ =>
    have key : ∀ i (hi : i < 4), ∃ n : Int, [c0, c1, c2, c3][i] = .int .u64 n ∧ (Lit.int .u64 n).wf = true := by
      intro i hi
      have h1 := hall i hi
      rw [hcu, Nat.mul_one, List.getElem?_eq_getElem (by omega)] at h1
      have hd : ([c0, c1, c2, c3].drop i).take 1 = [[c0, c1, c2, c3][i]] := by
        rw [List.drop_eq_getElem_cons (by simpa using hi)]
        rfl
      rw [hd] at h1
      obtain ⟨a, ha, _, hwf⟩ := DataW.trod_int hu h1
      exact ⟨a, by simpa using ha, hwf⟩
    obtain ⟨n0, e0, w0⟩ := key 0 (by omega)
    obtain ⟨n1, e1, w1⟩ := key 1 (by omega)
    obtain ⟨n2, e2, w2⟩ := key 2 (by omega)
    obtain ⟨n3, e3, w3⟩ := key 3 (by omega)
    have b0 := bounds_u64 w0
    have b1 := bounds_u64 w1
    have b2 := bounds_u64 w2
    have b3 := bounds_u64 w3
    obtain ⟨m0, rfl⟩ := Int.eq_ofNat_of_zero_le b0.1
    obtain ⟨m1, rfl⟩ := Int.eq_ofNat_of_zero_le b1.1
    obtain ⟨m2, rfl⟩ := Int.eq_ofNat_of_zero_le b2.1
    obtain ⟨m3, rfl⟩ := Int.eq_ofNat_of_zero_le b3.1
    obtain ⟨p, hp⟩ := wds_of m0 m1 m2 m3 (by omega) (by omega) (by omega) (by omega)
    refine ⟨p, ?_⟩
    rw [hp]
    simp only [List.getElem_cons_zero, List.getElem_cons_succ] at e0 e1 e2 e3
    rw [e0, e1, e2, e3]
/-- An argument that is a slice of sets. -/
theorem open_sets {H : Type} {enc : TypeId × Value → H} {P : Program} {t e u : TypeId} (ht : P.underlying t = some (.slice e)) (he : P.underlying e = some (.array 4 u)) (hu : P.underlying u = some (.int .u64)) (hcu : P.cellsOf u = 1) (hce : P.cellsOf e = 4)
    {W : World} {a : Option Addr} {len cap : Nat} {d : DataW H} {p : List MemPlace}
    (h : DataW.Trod enc P W 0 (fun _ => true) true t (.slice a len cap) d p) : ∃ ps : List (Nat → Bool), RowS W (.slice a len cap) ps := by
  obtain ⟨fuel, hf⟩ := h
  rcases Deep.open_slice ht hf with ⟨hcs, _⟩ | ⟨x, l, c, m, n, D, Pl, hcs, _, hl, hm, hmm, _, hall⟩
  · simp [Value.cells] at hcs
    obtain ⟨rfl, rfl, rfl⟩ := hcs
    exact ⟨[], RowS.nil W⟩
  · simp [Value.cells] at hcs
    obtain ⟨rfl, rfl, rfl⟩ := hcs
    have hml : len ≤ m := by rw [hmm]; simpa using hl
    obtain ⟨b, off, spot⟩ := x
    rcases Nat.eq_zero_or_pos len with h0 | hpos
    · subst h0
      exact ⟨[], some ⟨b, off, spot⟩, cap, rfl, Nat.zero_le _, hm, (fun h => by cases h), fun h => absurd rfl h⟩
    have hspot : spot = none := by
      obtain ⟨cs', h1, _⟩ := hall 0 (by omega)
      rw [hce] at h1
      obtain ⟨_, h2, h3⟩ := World.cells?_some h1
      have h4 := h3 0 (by omega)
      rw [List.getElem?_eq_getElem (by omega)] at h4
      simpa [Addr.add] using World.cell?_spot h4
    subst hspot
    have key : ∀ i, i < len → ∃ q : Nat → Bool, W.rangeAt b (off + i * 4) (wds q) ∧ b < W.heap.size := by
      intro i hi
      obtain ⟨cs', h1, h2⟩ := hall i (by omega)
      obtain ⟨q, rfl⟩ := set_of_trod he hu hcu hce h2
      rw [hce, Addr.add_mid] at h1
      exact ⟨q, (cells_range h1).2, by have := World.cells?_block h1 (by omega); exact this⟩
    obtain ⟨f, hf2⟩ := Deep.choose_lt key
    refine ⟨(List.range len).map f, some ⟨b, off, none⟩, cap, by simp, by simpa using hl, hm, (fun h => by cases h), fun _ => ⟨b, off, rfl, (hf2 0 hpos).2, fun i q hq => ?_⟩⟩
    have hi : i < len := by have := (List.getElem?_eq_some_iff.1 hq).1; simpa using this
    have : q = f i := by simpa [hi] using hq.symm
    rw [this]
    exact (hf2 i hi).1
end Go.Proofs.YtaobeconjdeenaaDoor
