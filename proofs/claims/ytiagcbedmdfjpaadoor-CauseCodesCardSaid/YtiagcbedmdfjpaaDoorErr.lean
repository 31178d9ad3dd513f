/-
  What errors.Is, errors.As and errors.Unwrap answer of the chains that package cause builds. No statement is proved here.
-/
import Derived.Test.YtiagcbedmdfjpaaDoorChecked
import Derived.Test.YtiagcbedmdfjpaaDoorBase
import Derived.LaidEql
import Derived.Stop.Asserts
import Derived.RowKitTokens
namespace Go.Proofs.YtiagcbedmdfjpaaDoor
open Go.RowKit Go.Extern.Stop Go.Stop Go.Extern
set_option linter.unusedSimpArgs false
set_option linter.unusedVariables false

/-! ### closed facts on the target of errors.Is -/
theorem isTypeOf (v : Value) (w : World) : (Extern.ReflectliteType.typeOf #[.iface 48 v]).run Tryd.prog w = .ok (.iface 82 (.agg #[.pointer (some ⟨2, 48, none⟩)])) w := by kernel_rfl
theorem isComparable (w : World) : ((Extern.ReflectliteType.method fun t => do Extern.Rtype.noPackHeld "Comparable" t; (fun a => Value.bool a.comparable) <$> typeInfo t) #[.agg #[.pointer (some ⟨2, 48, none⟩)]]).run Tryd.prog w = .ok (.bool true) w := by kernel_rfl
theorem isMethodComparable (v : Value) (w : World) : (Go.method 226 82 v "Comparable").run Tryd.prog w = .ok (57, v) w := by kernel_rfl

/-! ### closed facts on method sets -/
theorem hasIsF (v : Value) (xT : TypeId) (w : World) : (Instr.typeAssert (.iface 53 v) xT 84 true).run Tryd.prog w = .ok (.tuple #[.iface 53 v, .bool true]) w := run_typeAssert_hasB Tryd.underlying84 (by kernel_rfl) v xT w
theorem hasIsP (v : Value) (xT : TypeId) (w : World) : (Instr.typeAssert (.iface 47 v) xT 84 true).run Tryd.prog w = .ok (.tuple #[.iface 47 v, .bool true]) w := run_typeAssert_hasB Tryd.underlying84 (by kernel_rfl) v xT w
theorem hasUnwrapF (v : Value) (xT : TypeId) (w : World) : (Instr.typeAssert (.iface 53 v) xT 78 true).run Tryd.prog w = .ok (.tuple #[.iface 53 v, .bool true]) w := run_typeAssert_hasB Tryd.underlying78 (by kernel_rfl) v xT w
theorem hasUnwrapP (v : Value) (xT : TypeId) (w : World) : (Instr.typeAssert (.iface 47 v) xT 78 true).run Tryd.prog w = .ok (.tuple #[.iface 47 v, .bool true]) w := run_typeAssert_hasB Tryd.underlying78 (by kernel_rfl) v xT w
theorem noAsF (v : Value) (xT : TypeId) (w : World) : (Instr.typeAssert (.iface 53 v) xT 92 true).run Tryd.prog w = .ok (.tuple #[.nilIface, .bool false]) w := run_typeAssert_lacksB Tryd.underlying92 (by kernel_rfl) (by kernel_rfl) v xT w
theorem noAsP (v : Value) (xT : TypeId) (w : World) : (Instr.typeAssert (.iface 47 v) xT 92 true).run Tryd.prog w = .ok (.tuple #[.nilIface, .bool false]) w := run_typeAssert_lacksB Tryd.underlying92 (by kernel_rfl) (by kernel_rfl) v xT w
theorem methodIsF (v : Value) (w : World) : (Go.method 226 53 v "Is").run Tryd.prog w = .ok (49, v) w := by kernel_rfl
theorem methodIsP (a : Addr) (w : World) : (Go.method 226 47 (.pointer (some a)) "Is").run Tryd.prog w = .ok (49, .pointer (some a)) w := by kernel_rfl
theorem methodUnwrapF (v : Value) (w : World) : (Go.method 226 53 v "Unwrap").run Tryd.prog w = .ok (50, v) w := by kernel_rfl
theorem methodUnwrapP (a : Addr) (w : World) : (Go.method 226 47 (.pointer (some a)) "Unwrap").run Tryd.prog w = .ok (50, .pointer (some a)) w := by kernel_rfl

theorem assertKind (v : Value) (w : World) : (Instr.typeAssert (.iface 48 v) 39 48 true).run Tryd.prog w = .ok (.tuple #[v, .bool true]) w := by kernel_rfl

/-! ### chains -/
/-- What the address of an error's block is. -/
abbrev at0 (b : Nat) : Addr := ⟨b, 0, none⟩
/-- The value E is a chain of errors in w: its kinds, the outermost one first; the place of its ErrParse. -/
inductive Ch (w : World) : Value → List Int → Option Int → Prop
  | nil : Ch w .nilIface [] none
  | placed (b : Nat) (at_ : Int) : w.cell? ⟨b, 0, none⟩ = some (.int .i64 6) → w.cell? ⟨b, 1, none⟩ = some .nilIface → w.cell? ⟨b, 2, none⟩ = some (.int .i64 at_) →
      Ch w (.iface 47 (.pointer (some ⟨b, 0, none⟩))) [6] (some at_)
  | fault (b : Nat) (k : Int) (E : Value) (l : List Int) (p : Option Int) : w.cell? ⟨b, 0, none⟩ = some (.int .i64 k) → w.cell? ⟨b, 1, none⟩ = some E → Ch w E l p →
      Ch w (.iface 53 (.pointer (some ⟨b, 0, none⟩))) (k :: l) p

theorem Ch.unique {w : World} {E : Value} {l l' : List Int} {p p' : Option Int} (h : Ch w E l p) (h' : Ch w E l' p') : l = l' ∧ p = p' := by
  induction h generalizing l' p' with
  | nil => cases h'; exact ⟨rfl, rfl⟩
  | placed b a _ _ h2 =>
    cases h' with
    | placed _ a' _ _ h2' => rw [h2] at h2'; cases h2'; exact ⟨rfl, rfl⟩
  | fault b k E l p h0 h1 hc ih =>
    cases h' with
    | fault _ k' E' l' p' h0' h1' hc' =>
      rw [h0] at h0'; cases h0'
      rw [h1] at h1'; cases h1'
      obtain ⟨rfl, rfl⟩ := ih hc'
      exact ⟨rfl, rfl⟩
theorem Ch.iface {w : World} {E : Value} {l : List Int} {p : Option Int} (h : Ch w E l p) (hn : l ≠ []) : ∃ u b, E = .iface u (.pointer (some ⟨b, 0, none⟩)) := by
  cases h with
  | nil => exact absurd rfl hn
  | placed b => exact ⟨_, _, rfl⟩
  | fault b => exact ⟨_, _, rfl⟩
theorem lt_of_cell {w : World} {a : Addr} {v : Value} (h : w.cell? a = some v) : a.block < w.heap.size := by
  rcases Nat.lt_or_ge a.block w.heap.size with h1 | h1
  · exact h1
  · simp [World.cell?, Array.getElem?_eq_none h1] at h
theorem Ch.keep {w w' : World} {E : Value} {l : List Int} {p : Option Int} (h : Ch w E l p) (hk : ∀ a : Addr, a.block < w.heap.size → w'.cell? a = w.cell? a) : Ch w' E l p := by
  induction h with
  | nil => exact .nil
  | placed b a h0 h1 h2 => exact .placed b a ((hk _ (lt_of_cell h0)).trans h0) ((hk _ (lt_of_cell h1)).trans h1) ((hk _ (lt_of_cell h2)).trans h2)
  | fault b k E l p h0 h1 _ ih => exact .fault b k E l p ((hk _ (lt_of_cell h0)).trans h0) ((hk _ (lt_of_cell h1)).trans h1) ih
theorem Ch.stay {w w' : World} {E : Value} {l : List Int} {p : Option Int} (h : Ch w E l p) (hb : Below w.heap.size w w') : Ch w' E l p :=
  h.keep fun _ hp => hb.cell hp

open Classical in
/-- How many errors are left: a loop's measure. -/
noncomputable def chLen (w : World) (E : Value) : Nat := if h : ∃ l p, Ch w E l p then h.choose.length else 0
theorem chLen_eq {w : World} {E : Value} {l : List Int} {p : Option Int} (h : Ch w E l p) : chLen w E = l.length := by
  have hx : ∃ l p, Ch w E l p := ⟨l, p, h⟩
  unfold chLen
  rw [dif_pos hx]
  obtain ⟨p', hp'⟩ := hx.choose_spec
  rw [(hp'.unique h).1]

set_option maxRecDepth 1000000 in
/-- (*fault).Is. -/
theorem faultIs (b : Nat) (k t : Int) (w : World) (h0 : w.cell? ⟨b, 0, none⟩ = some (.int .i64 k)) :
    Calls Tryd.prog 49 #[.pointer (some ⟨b, 0, none⟩), .iface 48 (.int .i64 t)] w fun e w' => e = .returned (.bool (decide (t = k))) ∧ w' = w := by
  have aK := assertKind
  go_enter Tryd.func49, Tryd.ntmps49
  go_wp2
  go_ret
  exact ⟨by congr 2, rfl⟩

set_option maxRecDepth 1000000 in
/-- (*fault).Unwrap. -/
theorem faultUnwrap (b : Nat) (E : Value) (w : World) (h0 : w.cell? ⟨b, 1, none⟩ = some E) :
    Calls Tryd.prog 50 #[.pointer (some ⟨b, 0, none⟩)] w fun e w' => e = .returned E ∧ w' = w := by
  go_enter Tryd.func50, Tryd.ntmps50
  go_wp2
  go_ret
  exact ⟨rfl, rfl⟩

/-- What a chain's outermost error is: nil, or one of two types, with its kind and what it wraps. -/
theorem Ch.top {w : World} {E : Value} {l : List Int} {p : Option Int} (h : Ch w E l p) :
    (E = .nilIface ∧ l = [] ∧ p = none) ∨ ∃ u b k E' l', E = .iface u (.pointer (some ⟨b, 0, none⟩)) ∧ (u = 53 ∨ u = 47) ∧ l = k :: l' ∧
      w.cell? ⟨b, 0, none⟩ = some (.int .i64 k) ∧ w.cell? ⟨b, 1, none⟩ = some E' ∧ (∃ p', Ch w E' l' p') := by
  cases h with
  | nil => exact .inl ⟨rfl, rfl, rfl⟩
  | placed b a h0 h1 h2 => exact .inr ⟨_, b, 6, _, [], rfl, .inr rfl, rfl, h0, h1, none, .nil⟩
  | fault b k E' l' p h0 h1 hc => exact .inr ⟨_, b, k, E', l', rfl, .inl rfl, rfl, h0, h1, p, hc⟩

end Go.Proofs.YtiagcbedmdfjpaaDoor
