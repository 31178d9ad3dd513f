/-
  What package names' fits, May and Less answer and leave. No statement is proved here.
-/
import Derived.Test.YtfhhojhflpokaaaProg
import Derived.Test.YtfhhojhflpokaaaArr
namespace Go.Proofs.Ytfhhojhflpokaaa
open Go.RowKit
set_option linter.unusedSimpArgs false
set_option linter.unusedVariables false

/-- A string of these bytes. -/
abbrev str (l : List UInt8) : Value := .string ⟨l.toArray⟩
theorem str_size (l : List UInt8) : (⟨l.toArray⟩ : ByteArray).size = l.length := by simp [ByteArray.size]

/-- A sign that a name may have. -/
def low (c : Nat) : Bool := decide (97 ≤ c) && decide (c ≤ 122)
def oth (c : Nat) : Bool := c == 45 || c == 46 || (decide (48 ≤ c) && decide (c ≤ 57))
def sign (c : Nat) (first : Bool) : Bool := low c || (!first && oth c)
/-- A name. -/
def Nm (l : List UInt8) : Prop := 1 ≤ l.length ∧ l.length ≤ 14 ∧ ∀ i (h : i < l.length), sign l[i].toNat (decide (i = 0)) = true
instance (l : List UInt8) : Decidable (Nm l) := by unfold Nm; exact inferInstance

set_option maxHeartbeats 1000000 in
theorem fits_any (c : Nat) (hc : c < 256) (b : Bool) (w : World) :
    Calls Try.prog 20 #[.int .u8 c, .bool b] w fun e w' => e = .returned (.bool (sign c b)) ∧ w' = w := by
  by_cases h1 : c = 45
  · subst h1
    cases b <;> (go_enter Try.func20, Try.ntmps20; go_wp2; go_ret; exact ⟨rfl, rfl⟩)
  by_cases h2 : c = 46
  · subst h2
    cases b <;> (go_enter Try.func20, Try.ntmps20; go_wp2; go_ret; exact ⟨rfl, rfl⟩)
  have n1 : ((c : Int) == 45) = false := by rw [beq_eq_false_iff_ne]; omega
  have n2 : ((c : Int) == 46) = false := by rw [beq_eq_false_iff_ne]; omega
  have m1 : ¬ ((c : Int) = 45) := by omega
  have m2 : ¬ ((c : Int) = 46) := by omega
  by_cases h3 : 48 ≤ c ∧ c ≤ 57
  · have e3 : (48 : Int) ≤ (c : Int) := by omega
    have e4 : (c : Int) ≤ 57 := by omega
    have hs : sign c b = !b := by
      have : low c = false := by unfold low; rw [Bool.and_eq_false_iff]; left; exact decide_eq_false (by omega)
      have h' : oth c = true := by unfold oth; simp [h3]
      simp [sign, this, h']
    rw [hs]
    cases b <;> (go_enter Try.func20, Try.ntmps20; go_wp2; go_ret; exact ⟨rfl, rfl⟩)
  · have ho : oth c = false := by
      unfold oth
      have a1 : (c == 45) = false := by simpa using h1
      have a2 : (c == 46) = false := by simpa using h2
      rw [a1, a2]
      simp
      intro h
      omega
    by_cases h5 : 97 ≤ c ∧ c ≤ 122
    · have e3 : (48 : Int) ≤ (c : Int) := by omega
      have e4 : ¬ ((c : Int) ≤ 57) := by omega
      have e5 : (97 : Int) ≤ (c : Int) := by omega
      have e6 : (c : Int) ≤ 122 := by omega
      have hs : sign c b = true := by simp [sign, low, h5]
      rw [hs]
      go_enter Try.func20, Try.ntmps20; go_wp2; go_ret; exact ⟨rfl, rfl⟩
    · have hs : sign c b = false := by
        have : low c = false := by unfold low; simp; omega
        simp [sign, this, ho]
      rw [hs]
      by_cases h6 : 48 ≤ c
      · have e3 : (48 : Int) ≤ (c : Int) := by omega
        have e4 : ¬ ((c : Int) ≤ 57) := by omega
        by_cases h7 : 97 ≤ c
        · have e5 : (97 : Int) ≤ (c : Int) := by omega
          have e6 : ¬ ((c : Int) ≤ 122) := by omega
          go_enter Try.func20, Try.ntmps20; go_wp2; go_ret; exact ⟨rfl, rfl⟩
        · have e5 : ¬ ((97 : Int) ≤ (c : Int)) := by omega
          go_enter Try.func20, Try.ntmps20; go_wp2; go_ret; exact ⟨rfl, rfl⟩
      · have e3 : ¬ ((48 : Int) ≤ (c : Int)) := by omega
        have e5 : ¬ ((97 : Int) ≤ (c : Int)) := by omega
        go_enter Try.func20, Try.ntmps20; go_wp2; go_ret; exact ⟨rfl, rfl⟩

theorem less_any (l m : List UInt8) (w : World) :
    Calls Try.prog 14 #[str l, str m] w fun e w' => e = .returned (.bool (Op.bytesLess l m)) ∧ w' = w := by
  go_enter Try.func14, Try.ntmps14
  go_wp2
  go_ret
  exact ⟨rfl, rfl⟩

theorem nm_not {l : List UInt8} {j : Nat} (hj : j < l.length) (h : sign l[j].toNat (decide (j = 0)) = false) : decide (Nm l) = false := by
  refine decide_eq_false fun hn => ?_
  have := hn.2.2 j hj
  rw [h] at this
  cases this

set_option maxHeartbeats 1000000 in
theorem may_any (l : List UInt8) (w : World) (hl : l.length ≤ 1048576) :
    Calls Try.prog 12 #[str l] w fun e w' => e = .returned (.bool (decide (Nm l))) ∧ Below w.heap.size w w' := by
  obtain ⟨S, hS⟩ : ∃ S : ByteArray, S = ⟨l.toArray⟩ := ⟨_, rfl⟩
  have hsz : S.size = l.length := by rw [hS, str_size]
  show Calls _ _ #[.string ⟨l.toArray⟩] _ _
  rw [← hS]
  have HS := Lib.hid hS
  have hsz' : (S.size : Int) = (l.length : Int) := by omega
  clear hS
  by_cases h0 : l.length < 1
  · have e1 : (l.length : Int) < 1 := by omega
    have hr : decide (Nm l) = false := decide_eq_false fun h => by have := h.1; omega
    rw [hr]
    clear hr
    have HZ := Lib.hid hsz
    have e2 : (S.size : Int) < 1 := by omega
    clear hsz hsz' e1
    go_enter Try.func12, Try.ntmps12; go_wp2; go_ret; exact ⟨rfl, Below.refl _ _⟩
  by_cases h14 : 14 < l.length
  · have hr : decide (Nm l) = false := decide_eq_false fun h => by have := h.2.1; omega
    rw [hr]
    clear hr
    have e1 : ¬ ((S.size : Int) < 1) := by omega
    have e2 : 14 < (S.size : Int) := by omega
    clear hsz hsz' 
    go_enter Try.func12, Try.ntmps12; go_wp2; go_ret; exact ⟨rfl, Below.refl _ _⟩
  have e1 : ¬ ((S.size : Int) < 1) := by omega
  have e2 : ¬ (14 < (S.size : Int)) := by omega
  clear hsz hsz'
  go_enter Try.func12, Try.ntmps12
  go_wp2_with ((with_reducible refine atDst 14 ?_); refine wpList_toBytes rfl 9 38 5 (.tmp 13) rfl l (congrArg Value.string HS.out) Try.underlying9 Try.underlying38 Try.underlying5 hl (Below.refl w.heap.size w) (Nat.le_refl _) ?_; intro cap w1 hr1 hb1 hs1 _; have R1 := Lib.hid hr1; have B1 := Lib.hid hb1; clear hr1 hb1)
  go_loopw [16] (fun i wl => ∃ j : Nat, j ≤ l.length ∧ i = .int .i64 (j : Int) ∧ wl = w1 ∧ ∀ k (h : k < l.length), k < j → sign l[k].toNat (decide (k = 0)) = true) (fun i _ => l.length - (intOf i).toNat)
  case atStart => exact ⟨0, by omega, by simp, rfl, fun k _ h => by omega⟩
  case round =>
    obtain ⟨j, hj, rfl, hwl, hrel⟩ := hrel
    subst hwl
    have HREL := Lib.hid hrel
    clear hrel
    by_cases hjl : j < l.length
    · have hcj := (R1.out.at_ (by rw [bvs_length]; omega))
      obtain ⟨b0, off, hA, hb0, hcell⟩ := hcj
      injection hA with hA
      injection hA with hA1 hA2
      subst hA1
      subst hA2
      have hc1 := hcell j _ (bvs_get l j l[j] (List.getElem?_eq_getElem hjl))
      rw [Nat.zero_add] at hc1
      obtain ⟨c, hc⟩ : ∃ c : UInt8, c = l[j] := ⟨_, rfl⟩
      rw [← hc] at hc1
      have HC := Lib.hid hc
      have hlt := c.toNat_lt
      clear hcell hc
      have i1 : (j : Int) < (l.length : Int) := by omega
      obtain ⟨b, hb⟩ : ∃ b : Bool, b = decide (j = 0) := ⟨_, rfl⟩
      have hb' : ((j : Int) == 0) = b := by rw [hb, Bool.eq_iff_iff]; simp
      have HB := Lib.hid hb
      clear hb
      cases hsg : sign c.toNat b with
      | true =>
        have HSG := Lib.hid hsg
        clear hsg
        go_wp2_with fail
        refine (fits_any c.toNat hlt b wr).mono ?_
        rintro e w' ⟨rfl, rfl⟩
        rw [HSG.out]
        go_wp2_with fail
        refine ⟨⟨j + 1, by omega, by congr 1, trivial, fun k hk hkj => ?_⟩, by simp [intOf] <;> omega⟩
        rcases Nat.lt_or_ge k j with h | h
        · exact HREL.out k hk h
        · obtain rfl : k = j := by omega
          rw [← HC.out, ← HB.out]
          exact HSG.out
      | false =>
        have hr : decide (Nm l) = false := nm_not hjl (by rw [← HC.out, ← HB.out]; exact hsg)
        have HSG := Lib.hid hsg
        have HR := Lib.hid hr
        clear hsg hr
        go_wp2_with fail
        refine (fits_any c.toNat hlt b wr).mono ?_
        rintro e w' ⟨rfl, rfl⟩
        rw [HSG.out]
        go_wp2_with fail
        go_ret
        rw [HR.out]
        exact ⟨rfl, B1.out⟩
    · obtain rfl : j = l.length := by omega
      have i1 : ¬ ((l.length : Int) < (l.length : Int)) := by omega
      have hr : decide (Nm l) = true := decide_eq_true ⟨by omega, by omega, fun k hk => HREL.out k hk hk⟩
      have HR := Lib.hid hr
      clear hr
      go_wp2_with fail
      go_ret
      rw [HR.out]
      exact ⟨rfl, B1.out⟩
end Go.Proofs.Ytfhhojhflpokaaa
