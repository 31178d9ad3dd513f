/-
  Texts of this proof, put together: (Open) How an argument of type []byte reads, in the words of this seat's walks. No conditions. (OpenR) How an argument that is an expression reads, in the words of the walks; how great it is, by how much is read. No conditions; no statement is proved here. (DoorS) What the rows' condition on the listed package-level variable (the table of bits) gives a walk, and a world that meets it. No statement is proved here.
-/
import Derived.Test.YtmlojjgddmnbmaaDoorRows
import Derived.Test.YtmlojjgddmnbmaaDoorMA
import Derived.ProofKit
import Derived.OpenShut
import Derived.ShutString
import Derived.ChangeOld
import Derived.Test.YtmlojjgddmnbmaaDoorMB
import Derived.Deep.Strs
import Derived.ChangeSame
import Derived.ChangeVars
import Derived.JoinedOf
import Derived.RowKit
import Derived.RowKitTokens
import Derived.LaidLaws
import Derived.LaidHandle
import Derived.LaidMore
import Derived.LaidOnce
import Derived.Stop.Joined
import Derived.Lib.LaidTab
namespace Go.Proofs.YtmlojjgddmnbmaaDoor
open Go.ChangeShapes Go.WideShapes Go.ChangeAt Go.RowKit
set_option linter.unusedVariables false

theorem own : ownKnob Tryd.prog.godebug = none := by kernel_rfl
theorem laidOut : laidOutB Tryd.prog = true := by kernel_rfl

theorem u8_of_wf {x : Int} (h : (Lit.int .u8 x).wf = true) : 0 ≤ x ∧ x < 256 := by
  have h1 : IntKind.u8.min = 0 := rfl
  have h2 : IntKind.u8.max = 255 := rfl
  simp only [Lit.wf, Bool.and_eq_true, decide_eq_true_eq] at h
  omega

theorem u8_nat {n : Nat} (h : n < 256) : (UInt8.ofNat n).toNat = n := by
  rw [UInt8.toNat_ofNat']
  exact Nat.mod_eq_of_lt h

theorem open_bytes {H : Type} {enc : TypeId × Value → H} {P : Program} {t e : TypeId} (ht : P.underlying t = some (.slice e)) (he : P.underlying e = some (.int .u8)) (hc : P.cellsOf e = 1) {W : World} {a : Option Addr} {len cap : Nat} {d : DataW H} {p : List MemPlace}
    (h : DataW.Trod enc P W 0 (fun _ => true) true t (.slice a len cap) d p) : ∃ l : List UInt8, Row W (.slice a len cap) (bvs l) := by
  obtain ⟨fuel, hf⟩ := h
  rcases open_ints ht he hc hf with ⟨hcs, _⟩ | ⟨x, l, c, zs, hcs, _, hl, hm, hz, _, hcell, hwz⟩
  · simp [Value.cells] at hcs
    obtain ⟨rfl, rfl, rfl⟩ := hcs
    exact ⟨[], Row.nil W⟩
  · simp [Value.cells] at hcs
    obtain ⟨rfl, rfl, rfl⟩ := hcs
    have hz' : zs.length = cap := by simpa using hz
    have hlen : (bvs ((zs.take len).map fun n => UInt8.ofNat n.toNat)).length = len := by simp [bvs]; omega
    refine ⟨(zs.take len).map fun n => UInt8.ofNat n.toNat, some x, cap, by rw [hlen], by omega, hm, (fun h => by cases h), fun hne => ?_⟩
    have hpos : 0 < len := by
      rcases Nat.eq_zero_or_pos len with h0 | h0
      · subst h0; exact absurd rfl hne
      · exact h0
    obtain ⟨b, off, spot⟩ := x
    have hc0 := hcell 0 (by omega)
    have hspot : spot = none := by simpa [Addr.add] using World.cell?_spot hc0
    subst hspot
    refine ⟨b, off, rfl, by have := World.block_lt_of_cell? _ _ hc0; rwa [Addr.add_lit] at this, fun i u hu => ?_⟩
    have hi : i < len := by
      have := (List.getElem?_eq_some_iff.1 hu).1
      rwa [hlen] at this
    have := hcell i (by omega)
    rw [Addr.add_lit] at this
    rw [this, ← hu]
    have hiz : i < zs.length := by omega
    have hw := u8_of_wf (hwz zs[i] (List.getElem_mem hiz))
    simp only [bvs, List.map_map, List.getElem?_map, List.getElem?_take, hi, if_true, List.getElem?_eq_getElem hiz, Option.map_some, List.getD, Option.getD_some, Function.comp, bv, Option.some.injEq, Value.int.injEq, true_and]
    have : (UInt8.ofNat (zs[i]).toNat).toNat = (zs[i]).toNat := by
      rw [UInt8.toNat_ofNat']
      exact Nat.mod_eq_of_lt (by omega)
    rw [this]
    omega

end Go.Proofs.YtmlojjgddmnbmaaDoor
namespace Go.Proofs.YtmlojjgddmnbmaaDoor
open Go.RowKit
set_option linter.unusedSimpArgs false
set_option linter.unusedVariables false

theorem bulkR_one {H : Type} (d : DataW H) : 1 ≤ Rows.uptoBulk d := by
  cases d with
  | lit l => cases l <;> simp [Rows.uptoBulk]
  | _ => simp [Rows.uptoBulk]
theorem bulkR_part {H : Type} {d : DataW H} {l : List (DataW H)} (h : d ∈ l) : Rows.uptoBulk d ≤ Rows.uptoBulkAll l := by
  induction l with
  | nil => cases h
  | cons a l ih =>
    simp only [Rows.uptoBulkAll]
    rcases List.mem_cons.1 h with rfl | h
    · omega
    · have := ih h
      omega
theorem nodes_bulk {H : Type} (D : Nat → DataW H) (f : Nat → T) : ∀ n, (∀ i, i < n → (f i).nodes ≤ Rows.uptoBulk (D i)) → nodesL ((List.range n).map f) ≤ Rows.uptoBulkAll ((List.range n).map D)
  | 0, _ => by simp [nodesL]
  | n + 1, h => by
    have ih := nodes_bulk D f n fun i hi => h i (by omega)
    have hap : ∀ l r : List (DataW H), Rows.uptoBulkAll (l ++ r) = Rows.uptoBulkAll l + Rows.uptoBulkAll r := by
      intro l r
      induction l with
      | nil => simp [Rows.uptoBulkAll]
      | cons a l ih => simp only [List.cons_append, Rows.uptoBulkAll, ih]; omega
    rw [List.range_succ, List.map_append, List.map_append, nodesL_append, hap]
    have h1 := h n (by omega)
    simp only [List.map_cons, List.map_nil, nodesL, Rows.uptoBulkAll]
    omega
/-- A set whose words are the same, of bytes alone. -/
def canonS (p : Nat → Bool) : Nat → Bool := fun b => decide (b < 256) && p b
theorem canon_can (p : Nat → Bool) : canS (canonS p) := fun b hb => by
  unfold canonS
  rw [decide_eq_false (by omega)]
  rfl
theorem canon_wds (p : Nat → Bool) : wds (canonS p) = wds p := wds_congr fun b hb => by
  unfold canonS
  rw [decide_eq_true hb]
  rfl
theorem open_rxN {H : Type} {enc : TypeId × Value → H} {W : World} {base : Nat} {spare : Nat → Bool} {held : Bool} : ∀ (n : Nat) (d : DataW H), Rows.uptoBulk d ≤ n → ∀ (fuel : Nat) (cs : List Value) (p : List MemPlace),
    DataW.trod enc Tryd.prog W base spare held fuel 27 cs = some (d, p) → ∃ t : T, canT t ∧ RxD (fun k => k < W.heap.size) W cs t ∧ t.nodes ≤ Rows.uptoBulk d := by
  intro n
  induction n with
  | zero =>
    intro d hd
    have := bulkR_one d
    omega
  | succ n ih =>
    intro d hd fuel cs p h
    obtain ⟨y0, y1, y2, m, hx, hl, h0, h1, h2⟩ := Deep.trod_struct3 Tryd.underlying27 h
    have hl6 : cs.length = 6 := by rw [hl]; kernel_rfl
    match cs, hl6 with
    | [c0, c1, c2, c3, c4, c5], _ =>
      have h0' : DataW.trod enc Tryd.prog W base spare held m 3 [c0] = some y0 := h0
      have h1' : DataW.trod enc Tryd.prog W base spare held m 24 [c1, c2, c3, c4] = some y1 := h1
      have h2' : DataW.trod enc Tryd.prog W base spare held m 25 [c5] = some y2 := h2
      obtain ⟨k, hk, _, _⟩ := DataW.trod_int Tryd.underlying3 h0'
      obtain ⟨s, hs⟩ := set_of_trod Tryd.underlying24 Tryd.underlying22 (by kernel_rfl) (by kernel_rfl) h1'
      have hc0 : c0 = .int .i64 k := by simpa using hk
      have hcs : [c0, c1, c2, c3, c4, c5] = rxc k (canonS s) c5 := by
        unfold rxc
        rw [canon_wds, ← hs, hc0]
        rfl
      have hd' : d = .agg [y0.1, y1.1, y2.1] := congrArg Prod.fst hx
      have hbd : Rows.uptoBulk d = Rows.uptoBulk y0.1 + (Rows.uptoBulk y1.1 + (Rows.uptoBulk y2.1 + 0)) + 1 := by rw [hd']; rfl
      rw [hcs]
      rcases Deep.open_slice Tryd.underlying25 h2' with ⟨he, _⟩ | ⟨a, len, cap, m2, n2, D, Pl, he, _, hlc, hcm, hmm, hx2, hall⟩
      · have hc5 : c5 = .slice none 0 0 := by simpa using he
        refine ⟨.node k (canonS s) [], ⟨canon_can s, trivial⟩, by rw [hc5]; exact rx_leaf _ _ _ _, ?_⟩
        simp only [T.nodes, nodesL]
        rw [hbd]
        omega
      · have hc5 : c5 = .slice (some a) len cap := by simpa using he
        have hy2 : y2.1 = .slice ((List.range len).map D) ((List.range (m2 - len)).map fun j => D (len + j)) := congrArg Prod.fst hx2
        have hml : len ≤ m2 := by rw [hmm]; split <;> omega
        have hsz : ∀ i, i < len → Rows.uptoBulk (D i) ≤ n := fun i hi => by
          have e1 : D i ∈ (List.range len).map D := List.mem_map.2 ⟨i, List.mem_range.2 hi, rfl⟩
          have e2 := bulkR_part e1
          have hb2 : Rows.uptoBulk y2.1 = Rows.uptoBulkAll ((List.range len).map D) + Rows.uptoBulkAll ((List.range (m2 - len)).map fun j => D (len + j)) + 1 := by rw [hy2]; rfl
          omega
        obtain ⟨b, off, spot⟩ := a
        have hce : Tryd.prog.cellsOf 27 = 6 := by kernel_rfl
        rcases Nat.eq_zero_or_pos len with hz | hpos
        · subst hz
          refine ⟨.node k (canonS s) [], ⟨canon_can s, trivial⟩, ?_, ?_⟩
          · rw [hc5]
            exact RxD.node (l := []) (fun _ => []) (Nat.zero_le _) hcm (fun h => by cases h) (fun h => absurd rfl h) (fun i t h => by simp at h)
          · simp only [T.nodes, nodesL]
            rw [hbd]
            omega
        have hspot : spot = none := by
          obtain ⟨cs', g1, _⟩ := hall 0 (by omega)
          rw [hce] at g1
          obtain ⟨_, g2, g3⟩ := World.cells?_some g1
          have g4 := g3 0 (by omega)
          rw [List.getElem?_eq_getElem (by omega)] at g4
          simpa [Addr.add] using World.cell?_spot g4
        subst hspot
        have key : ∀ i, i < len → ∃ q : List Value × T, canT q.2 ∧ RxD (fun k => k < W.heap.size) W q.1 q.2 ∧ q.2.nodes ≤ Rows.uptoBulk (D i) ∧ W.rangeAt b (off + i * 6) q.1 ∧ b < W.heap.size := by
          intro i hi
          obtain ⟨cs', g1, g2⟩ := hall i (by omega)
          obtain ⟨t, t1, t2, t3⟩ := ih (D i) (hsz i hi) _ _ _ g2
          rw [hce, Addr.add_mid] at g1
          exact ⟨(cs', t), t1, t2, t3, (cells_range g1).2, by have := World.cells?_block g1 (by omega); exact this⟩
        haveI : Inhabited (List Value × T) := ⟨([], noneT)⟩
        obtain ⟨f, hf⟩ := Deep.choose_lt key
        refine ⟨.node k (canonS s) ((List.range len).map fun i => (f i).2), ⟨canon_can s, canL_iff.2 fun t ht => ?_⟩, ?_, ?_⟩
        · obtain ⟨i, hi, rfl⟩ := List.mem_map.1 ht
          exact (hf i (List.mem_range.1 hi)).1
        · rw [hc5]
          have hll : ((List.range len).map fun i => (f i).2).length = len := by simp
          have hr := RxD.node (D := fun k => k < W.heap.size) (w := W) (k := k) (s := canonS s) (l := (List.range len).map fun i => (f i).2) (A := some ⟨b, off, none⟩) (cap := cap) (fun i => (f i).1) (by rw [hll]; exact hlc) hcm (fun h => by cases h)
            (fun _ => ⟨b, off, rfl, (hf 0 hpos).2.2.2.2, fun i hi => (hf i (by rw [hll] at hi; exact hi)).2.2.2.1⟩)
            (fun i t ht => by
              have hi : i < len := by have := (List.getElem?_eq_some_iff.1 ht).1; simpa using this
              have : t = (f i).2 := by simpa [hi] using ht.symm
              rw [this]
              exact (hf i hi).2.1)
          rw [hll] at hr
          exact hr
        · have hn := nodes_bulk D (fun i => (f i).2) len fun i hi => (hf i hi).2.2.1
          have hb2 : Rows.uptoBulk y2.1 = Rows.uptoBulkAll ((List.range len).map D) + Rows.uptoBulkAll ((List.range (m2 - len)).map fun j => D (len + j)) + 1 := by rw [hy2]; rfl
          simp only [T.nodes]
          rw [hbd, hb2]
          omega
/-- An argument that is an expression. -/
theorem open_rx {H : Type} {enc : TypeId × Value → H} {W : World} {base : Nat} {spare : Nat → Bool} {held : Bool} {v : Value} {d : DataW H} {p : List MemPlace} (h : DataW.Trod enc Tryd.prog W base spare held 27 v d p) :
    ∃ t : T, canT t ∧ RxV W.heap.size W v.cells.toList t ∧ t.nodes ≤ Rows.uptoBulk d := by
  obtain ⟨fuel, hf⟩ := h
  exact open_rxN _ d (Nat.le_refl _) _ _ _ hf
end Go.Proofs.YtmlojjgddmnbmaaDoor
namespace Go.Proofs.YtmlojjgddmnbmaaDoor
open Go.ChangeShapes Go.WideShapes Go.ChangeAt Go.RowKit
set_option linter.unusedVariables false

/-- An argument that is a set. -/
theorem open_set {H : Type} {enc : TypeId × Value → H} {P : Program} {W : World} {base : Nat} {spare : Nat → Bool} {held : Bool} {r : Reach} {b0 : Nat} {t e : TypeId} {v : Value} {d : DataW H} {p : List MemPlace} (ht : P.underlying t = some (.array 4 e)) (he : P.underlying e = some (.int .u64)) (hc : P.cellsOf e = 1) (hct : P.cellsOf t = 4)
    (hval : Value.okWide P W r b0 t v) (h : DataW.Trod enc P W base spare held t v d p) : ∃ q : Nat → Bool, v = .agg (wds q).toArray := by
  have h0 : ∃ cs : Array Value, v = .agg cs ∧ cs.size = P.cellsOf t := by
    simp only [Value.okWide, ht] at hval
    obtain ⟨cs, h1, h2, _⟩ := hval
    exact ⟨cs, h1, h2⟩
  obtain ⟨cs, rfl, hsz⟩ := h0
  obtain ⟨fuel, hf⟩ := h
  obtain ⟨q, hq⟩ := set_of_trod ht he hc hct hf
  refine ⟨q, ?_⟩
  have : cs.toList = wds q := hq
  rw [← this]
/-- The listed variable, with what it reads as. -/
def laidL : List (String × DataW Unit) := [("math/bits.deBruijn64tab", Rows.laid_math_bits_deBruijn64tab)]

/-- How many steps the run takes that lays the variables (the given tie has it). -/
abbrev doorSteps : Nat := 14
theorem gT : Tryd.prog.globalNamed "math/bits.deBruijn64tab" = some 0 := by kernel_rfl
theorem gTType : (Tryd.prog.globals[0]?).map (·.type) = some 87 := by kernel_rfl
/-- The table's numbers. -/
def tabZ : List Int := Lib.deBruijn64tab.map fun (n : Nat) => (n : Int)
theorem tab_same : (Rows.laid_math_bits_deBruijn64tab : DataW Unit) = Lib.tabData .u8 tabZ := by kernel_rfl
theorem of_laid {W : World} (h : laidMetH Tryd.prog laidL W) : Tb W := by
  have h' : laidMet Tryd.prog [("math/bits.deBruijn64tab", Rows.laid_math_bits_deBruijn64tab)] W := h
  rw [tab_same] at h'
  have ht := Lib.tabIs_of_head gT gTType Tryd.underlying87 Tryd.underlying5 (by kernel_rfl) (by kernel_rfl) h'
  intro j hj
  have := ht.cell gT j (by unfold tabZ; rw [List.length_map]; exact hj)
  rw [this]
  congr 2
  unfold tabZ
  rw [List.getD_eq_getElem?_getD, List.getElem?_map, List.getD_eq_getElem?_getD, List.getElem?_eq_getElem hj]
  rfl
theorem door_met (os : Os) (args : Array Value) : laidMetH Tryd.prog laidL ((World.doorLaid Tryd.prog doorSteps os).forCall (fun _ _ => 0) ⟨#[], args, []⟩).memory :=
  laidMetH_of_parts3 (fuel := 8) (laidMet_of_run' 8 (by kernel_rfl) (by kernel_rfl)) (by kernel_rfl) (by kernel_rfl)
end Go.Proofs.YtmlojjgddmnbmaaDoor
