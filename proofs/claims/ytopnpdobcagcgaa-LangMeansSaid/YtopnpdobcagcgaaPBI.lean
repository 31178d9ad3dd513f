/-
  Rows of two and three expressions; parts of a row of bytes. No statement is proved here.
-/
import Derived.Test.YtopnpdobcagcgaaPBH
namespace Go.Proofs.Ytopnpdobcagcgaa
open Go.RowKit
set_option linter.unusedSimpArgs false
set_option linter.unusedVariables false
section
variable {P : Program} {w : World} {ops : Array Oper} {rest : List Oper} {o : Oper} {a : Act} {Q : Exit → Act → World → Prop} {K : Act → World → Prop}
theorem wpList_bldT2 (hg : o.guard = none) (t e : TypeId) (x y : Operand) (ho : o.op = .buildSlice t 2 #[(0, x), (1, y)]) (i : TypeInfo) (ht : P.underlying t = some (.slice e)) (hi : P.info? e = some i) (hz : i.zero = some (.agg (Value.int .i64 0 :: (wds (fun _ => false) ++ [.slice none 0 0])).toArray)) (hs : i.size = 6) (cs ds : List Value) (hc : cs.length = 6) (hl : ds.length = 6)
  (hx : a.eval x = .agg cs.toArray) (hy : a.eval y = .agg ds.toArray)
  (h : ∀ w', Blk w' w.heap.size e (cs ++ ds) → Below w.heap.size w w' → w'.heap.size = w.heap.size + 1 → wpList P ops Q rest (a.put o.dst (.slice (some ⟨w.heap.size, 0, none⟩) 2 2)) w') : wpList P ops Q (o :: rest) a w := by
 refine wpList_plain hg fun K hK => ?_
 exact wp_bldT2 t e x y ho i ht hi hz hs cs ds hc hl hx hy fun w' h1 h2 h3 => hK _ _ (h w' h1 h2 h3)
end
def slF (A : Option Addr) (n c k : Nat) : Value := .slice (if c = k then A else A.map fun x => x.add (k * 1)) (n - k) (c - k)
def slT (A : Option Addr) (c k : Nat) : Value := .slice (if c = 0 then A else A.map fun x => x.add (0 * 1)) (k - 0) (c - 0)
theorem slF_row {w : World} {A : Option Addr} {c : Nat} {W : List UInt8} (h : Row w (.slice A W.length c) (bvs W)) (k : Nat) (hk : k ≤ W.length) : Row w (slF A W.length c k) (bvs (W.drop k)) := by
 have h' : Row w (.slice A (bvs W).length c) (bvs W) := by rw [bvs_length]; exact h
 obtain ⟨_, h1, h2, h0⟩ := h.len
 unfold slF
 rcases Nat.lt_or_ge k W.length with hlt | hge
 ·obtain ⟨b, off, rfl, hr⟩ := Row.drop h' k (by rw [bvs_length]; exact hlt)
  rw [if_neg (by omega), bvs_length] at *
  rw [show bvs (W.drop k) = (bvs W).drop k by unfold bvs; rw [List.map_drop]]
  simpa [Addr.add_lit] using hr
 ·obtain rfl : k = W.length := by omega
  rw [List.drop_length, Nat.sub_self]
  refine ⟨_, _, rfl, Nat.zero_le _, by omega, fun he => ?_, fun hne => absurd rfl hne⟩
  by_cases hc : c = W.length
  ·omega
  ·rw [if_neg hc] at he
   have : A = none := by cases A with
    | none => rfl
    | some x => cases he
   have := h0 this
   omega
theorem slT_row {w : World} {A : Option Addr} {c : Nat} {W : List UInt8} (h : Row w (.slice A W.length c) (bvs W)) (k : Nat) (hk : k ≤ W.length) : Row w (slT A c k) (bvs (W.take k)) := by
 have h' : Row w (.slice A (bvs W).length c) (bvs W) := by rw [bvs_length]; exact h
 have ht := Row.take h' k (by rw [bvs_length]; exact hk)
 rw [show (bvs W).take k = bvs (W.take k) by unfold bvs; rw [List.map_take]] at ht
 unfold slT
 have he : (if c = 0 then A else A.map fun x => x.add (0 * 1)) = A := by
  split
  ·rfl
  ·cases A with
   | none => rfl
   | some x => obtain ⟨b, o, s⟩ := x; simp [Addr.add]
 rw [he]
 exact ht
theorem size_u8B : ∀ w, (sizeOf 5).run Try.prog w = .ok 1 w := by
 intro w
 have h : (Try.prog.info? 5).map (·.size) = some 1 := by kernel_rfl
 cases hi : Try.prog.info? 5 with
 | none => rw [hi] at h; cases h
 | some i =>
  rw [hi] at h
  have h' : i.size = 1 := by simpa using h
  simp [sizeOf, typeInfo, hi, h']
theorem sl_from {a : Act} {o : Oper} (x i : Operand) (ho : o.op = .slice 28 x (some i) none none) {A : Option Addr} {n c k : Nat} (hx : a.eval x = .slice A n c) (hi : a.eval i = .int .i64 (k : Int)) (hk : k ≤ n) (W : World) : (execOp a.eval o).run Try.prog W = .ok (.value (slF A n c k)) W := by
 have h1 : (0 : Int) ≤ (k : Int) ∧ (k : Int) ≤ (n : Int) := by omega
 simp [execOp, ho, hx, hi, Instr.sliceAt, Instr.slice, run_underlying Try.underlying28, Instr.sliceBounds, Instr.sliceBound, asIntOf, h1, size_u8B, slF]
 intro h
 omega
theorem sl_to {a : Act} {o : Oper} (x i : Operand) (ho : o.op = .slice 28 x none (some i) none) {A : Option Addr} {n c k : Nat} (hx : a.eval x = .slice A n c) (hi : a.eval i = .int .i64 (k : Int)) (hk : k ≤ c) (W : World) : (execOp a.eval o).run Try.prog W = .ok (.value (slT A c k)) W := by
 have h1 : (0 : Int) ≤ (k : Int) ∧ (k : Int) ≤ (c : Int) := by omega
 simp [execOp, ho, hx, hi, Instr.sliceAt, Instr.slice, run_underlying Try.underlying28, Instr.sliceBounds, Instr.sliceBound, asIntOf, h1, size_u8B, slT]
 intro h
 omega
end Go.Proofs.Ytopnpdobcagcgaa
