/-
  Rows of the call's own, and lists of bytes that fulfil a condition. No statement is proved here.
-/
import Derived.Test.YtaobeconjdeenaaDoorSetP
namespace Go.Proofs.YtaobeconjdeenaaDoor
open Go.RowKit
set_option linter.unusedSimpArgs false
set_option linter.unusedVariables false

theorem infoP {P : Program} {e : TypeId} {z : Value} {s b : Nat} (h : (P.info? e).map (fun i => (i.zero, i.size, i.bytes)) = some (some z, s, b)) : ∃ i, P.info? e = some i ∧ i.zero = some z ∧ i.size = s ∧ i.bytes = b := by
  obtain ⟨i, hi, h2⟩ := Option.map_eq_some_iff.1 h
  simp only [Prod.mk.injEq] at h2
  exact ⟨i, hi, h2.1, h2.2.1, h2.2.2⟩
theorem ownN (w : World) (B : Nat) (e : TypeId) : w.ownsRow B e 1 (.slice none 0 0) 0 [] := ⟨by simp, .inl ⟨rfl, rfl⟩⟩
theorem ownBelow {w w' : World} {base B : Nat} {e : TypeId} {v : Value} {n : Nat} {xs : List Value} (h : w.ownsRow base e 1 v n xs) (hb : Below B w w') (hB : w.heap.size ≤ B) : w'.ownsRow base e 1 v n xs := by
  refine ⟨h.1, ?_⟩
  rcases h.2 with h0 | ⟨g, cap, cur, rfl, hb2, hg, h3⟩
  · exact .inl h0
  · exact .inr ⟨g, cap, cur, rfl, hb2, (hb.block g (Nat.lt_of_lt_of_le (Array.getElem?_eq_some_iff.1 hg).1 hB)).trans hg, h3⟩
theorem ownMono {w : World} {base base' : Nat} {e : TypeId} {v : Value} {n : Nat} {xs : List Value} (h : w.ownsRow base e 1 v n xs) (hb : base' ≤ base) : w.ownsRow base' e 1 v n xs := by
  refine ⟨h.1, ?_⟩
  rcases h.2 with h0 | ⟨g, cap, cur, rfl, hb2, h3⟩
  · exact .inl h0
  · exact .inr ⟨g, cap, cur, rfl, Nat.le_trans hb hb2, h3⟩
theorem rowB {w : World} {g n : Nat} {t : TypeId} {cs : List Value} (h : Blk w g t cs) (hn : cs.length = n) (hl : n ≤ 1048576) : Row w (.slice (some ⟨g, 0, none⟩) n n) cs := by
  subst hn
  refine ⟨_, _, rfl, Nat.le_refl _, by unfold maxLen; omega, (fun h => by cases h), fun _ => ⟨g, 0, rfl, h.lt, fun i u hu => ?_⟩⟩
  rw [Nat.zero_add, h.cell i]
  exact hu
/-- The bytes below j that fulfil p, rising. -/
def memJ (p : Nat → Bool) (j : Nat) : List UInt8 := ((List.range j).filter p).map UInt8.ofNat
theorem memJ_zero (p : Nat → Bool) : memJ p 0 = [] := rfl
theorem memJ_succ (p : Nat → Bool) (j : Nat) : memJ p (j + 1) = if p j then memJ p j ++ [UInt8.ofNat j] else memJ p j := by
  unfold memJ
  rw [List.range_succ, List.filter_append, List.map_append]
  cases h : p j <;> simp [h]
theorem memJ_len (p : Nat → Bool) (j : Nat) : (memJ p j).length ≤ j := by
  unfold memJ
  rw [List.length_map]
  refine Nat.le_trans (List.length_filter_le _ _) ?_
  simp
theorem memJ_mem (p : Nat → Bool) (b : Nat) (hb : b < 256) : decide (UInt8.ofNat b ∈ memJ p 256) = p b := by
  rw [Bool.eq_iff_iff, decide_eq_true_iff]
  unfold memJ
  simp only [List.mem_map, List.mem_filter, List.mem_range]
  constructor
  · rintro ⟨a, ⟨ha, hp⟩, he⟩
    have := congrArg UInt8.toNat he
    rw [UInt8.toNat_ofNat', UInt8.toNat_ofNat', Nat.mod_eq_of_lt (by omega), Nat.mod_eq_of_lt (by omega)] at this
    rw [← this]
    exact hp
  · intro h
    exact ⟨b, ⟨hb, h⟩, rfl⟩
theorem memJ_congr {p q : Nat → Bool} {j : Nat} (h : ∀ b, b < j → p b = q b) : memJ p j = memJ q j := by
  unfold memJ
  congr 1
  apply List.filter_congr
  intro b hb
  exact h b (List.mem_range.1 hb)
theorem bv_ofNat {j : Nat} (h : j < 256) : bv (UInt8.ofNat j) = .int .u8 (j : Int) := by
  unfold bv
  rw [UInt8.toNat_ofNat', Nat.mod_eq_of_lt h]
/-- The set that a list of its bytes is. -/
theorem wds_mem (p : Nat → Bool) : (wds fun b => decide (UInt8.ofNat b ∈ memJ p 256)) = wds p := wds_congr fun b hb => memJ_mem p b hb
end Go.Proofs.YtaobeconjdeenaaDoor
