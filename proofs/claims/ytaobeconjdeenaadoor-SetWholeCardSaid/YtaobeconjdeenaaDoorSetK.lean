/-
  What the statements of the fourth stage take of package byteset, as premises (each is proved of the program elsewhere), and what begun answers then. No statement is proved here.
-/
import Derived.Test.YtaobeconjdeenaaDoorSetE
import Derived.Test.YtaobeconjdeenaaDoorSetQ
import Derived.Test.YtaobeconjdeenaaDoorBsE
namespace Go.Proofs.YtaobeconjdeenaaDoor
open Go.RowKit
set_option linter.unusedSimpArgs false
set_option linter.unusedVariables false

/-- The parts, in the order of their least bytes. -/
def parts (ps : List (Nat → Bool)) : List (Nat → Bool) := outs ps (firstJ ps 256).length 256
/-- The contracts of package byteset. -/
structure BySet : Prop where
  has : ∀ (p : Nat → Bool) (b : Nat) (w : World), b < 256 → Calls Tryd.prog 26 #[.agg (wds p).toArray, .int .u8 (b : Int)] w fun e w' => e = .returned (.bool (p b)) ∧ Below w.heap.size w w'
  of : ∀ (v : Value) (l : List UInt8) (w : World), Row w v (bvs l) → l.length ≤ 1048576 → Calls Tryd.prog 11 #[v] w fun e w' => e = .returned (.agg (wds fun b => decide (UInt8.ofNat b ∈ l)).toArray) ∧ Below w.heap.size w w'
  range : ∀ (f t : Nat) (w : World), f < 256 → t < 256 → Calls Tryd.prog 13 #[.int .u8 (f : Int), .int .u8 (t : Int)] w fun e w' => e = .returned (.agg (wds fun b => decide (f ≤ b ∧ b ≤ t)).toArray) ∧ Below w.heap.size w w'
  or_ : ∀ (p q : Nat → Bool) (w : World), Calls Tryd.prog 15 #[.agg (wds p).toArray, .agg (wds q).toArray] w fun e w' => e = .returned (.agg (wds fun b => p b || q b).toArray) ∧ Below w.heap.size w w'
  and_ : ∀ (p q : Nat → Bool) (w : World), Calls Tryd.prog 17 #[.agg (wds p).toArray, .agg (wds q).toArray] w fun e w' => e = .returned (.agg (wds fun b => p b && q b).toArray) ∧ Below w.heap.size w w'
  not_ : ∀ (p : Nat → Bool) (w : World), Calls Tryd.prog 19 #[.agg (wds p).toArray] w fun e w' => e = .returned (.agg (wds fun b => !p b).toArray) ∧ Below w.heap.size w w'
  len : ∀ (p : Nat → Bool) (w : World), Calls Tryd.prog 23 #[.agg (wds p).toArray] w fun e w' => e = .returned (.int .i64 ((memJ p 256).length : Int)) ∧ Below w.heap.size w w'
  list : ∀ (p : Nat → Bool) (w : World), Tb w → Calls Tryd.prog 21 #[.agg (wds p).toArray] w fun e w' => ∃ v, e = .returned v ∧ Row w' v (bvs (memJ p 256)) ∧ Below w.heap.size w w'
  less : ∀ (p q : Nat → Bool) (w : World), Calls Tryd.prog 24 #[.agg (wds p).toArray, .agg (wds q).toArray] w fun e w' => e = .returned (.bool (lessS p q)) ∧ Below w.heap.size w w'
  parts : ∀ (v : Value) (ps : List (Nat → Bool)) (w : World), RowS w v ps → ps.length ≤ 2000 → Calls Tryd.prog 28 #[v] w fun e w' => ∃ v', e = .returned v' ∧ RowS w' v' (parts ps) ∧ Below w.heap.size w w'

theorem guard_set : Tryd.prog.eqGuardType Tryd.prog.depth 24 = false := by kernel_rfl
theorem size_u64 : ∀ w, (sizeOf 22).run Tryd.prog w = .ok 1 w := by
  intro w
  have h : (Tryd.prog.info? 22).map (·.size) = some 1 := by kernel_rfl
  cases hi : Tryd.prog.info? 22 with
  | none => rw [hi] at h; cases h
  | some i =>
    rw [hi] at h
    have h' : i.size = 1 := by simpa using h
    simp [sizeOf, typeInfo, hi, h']
/-- A slice of sets that a block holds. -/
theorem rowS_blk {w : World} {g : Nat} {t : TypeId} {qs : List (Nat → Bool)} (h : Blk w g t (sets qs)) (hl : qs.length ≤ 1048576) : RowS w (.slice (some ⟨g, 0, none⟩) qs.length qs.length) qs :=
  ⟨_, _, rfl, Nat.le_refl _, by unfold maxLen; omega, (fun h => by cases h), fun _ => ⟨g, 0, rfl, h.lt, fun i p hp => by rw [Nat.zero_add]; exact h.range hp⟩⟩
section
variable {P : Program} {w : World} {ops : Array Oper} {rest : List Oper} {o : Oper} {a : Act} {Q : Exit → Act → World → Prop} {K : Act → World → Prop}
theorem run_bldSet1 (t e : TypeId) (i : TypeInfo) (ht : P.underlying t = some (.slice e)) (hi : P.info? e = some i) (hz : i.zero = some (.agg (wds fun _ => false).toArray)) (hs : i.size = 4) (q : Nat → Bool) :
    (Instr.buildSlice t 1 #[(0, .agg (wds q).toArray)]).run P w = .ok (.slice (some ⟨w.heap.size, 0, none⟩) 1 1) (w.alloc (.cells (sets [q]).toArray e)) := by
  have hzv : (zeroValue e).run P w = .ok (.agg (wds fun _ => false).toArray) w := by simp [zeroValue, typeInfo, hi, hz]
  simp [Instr.buildSlice, run_underlying ht, sizeOf, typeInfo, hi, hs, hzv, Value.cells, Instr.fill, wds, Array.range_succ, Array.range_zero', newRow, sets]
theorem wp_bldSet1 (t e : TypeId) (x : Operand) (ho : o.op = .buildSlice t 1 #[(0, x)]) (i : TypeInfo) (ht : P.underlying t = some (.slice e)) (hi : P.info? e = some i) (hz : i.zero = some (.agg (wds fun _ => false).toArray)) (hs : i.size = 4) (q : Nat → Bool)
    (hx : a.eval x = .agg (wds q).toArray) (h : K (a.put o.dst (.slice (some ⟨w.heap.size, 0, none⟩) 1 1)) (w.alloc (.cells (sets [q]).toArray e))) : o.wp P a w K Q := by
  have hrun := run_bldSet1 (P := P) (w := w) t e i ht hi hz hs q
  unfold Oper.wp
  simp only [execOp, ho, List.map_toArray, List.map_cons, List.map_nil, hx, hrun, Sem.run_bind, Result.andThen_ok, Sem.run_pure]
  exact h
theorem wpList_bldSet1 (hg : o.guard = none) (t e : TypeId) (x : Operand) (ho : o.op = .buildSlice t 1 #[(0, x)]) (i : TypeInfo) (ht : P.underlying t = some (.slice e)) (hi : P.info? e = some i) (hz : i.zero = some (.agg (wds fun _ => false).toArray)) (hs : i.size = 4) (q : Nat → Bool)
    (hx : a.eval x = .agg (wds q).toArray)
    (h : ∀ w', Blk w' w.heap.size e (sets [q]) → Below w.heap.size w w' → wpList P ops Q rest (a.put o.dst (.slice (some ⟨w.heap.size, 0, none⟩) 1 1)) w') : wpList P ops Q (o :: rest) a w :=
  wpList_plain hg fun _ hK => wp_bldSet1 t e x ho i ht hi hz hs q hx (hK _ _ (h _ (Blk.new w e _) ((Below.refl _ _).alloc (Nat.le_refl _) _)))
end

/-! ### begun -/
theorem begun_parts : (parts [fun b => decide (97 ≤ b ∧ b ≤ 99)]).length = 2 := by decide +kernel
theorem begun_len : (memJ (fun b => decide (97 ≤ b ∧ b ≤ 99)) 256).length = 3 := by decide +kernel
theorem begun_less : lessS (fun b => decide (97 ≤ b ∧ b ≤ 99)) (fun _ => false) = true := by decide +kernel
theorem begun_of : eqS (fun b => decide (UInt8.ofNat b ∈ [97, 98, 99])) (fun b => decide (97 ≤ b ∧ b ≤ 99)) = true := by decide +kernel
end Go.Proofs.YtaobeconjdeenaaDoor
