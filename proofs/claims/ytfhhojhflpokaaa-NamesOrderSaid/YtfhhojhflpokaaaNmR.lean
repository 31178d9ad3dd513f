/-
  What the document's answer to names (Name, Less, Key, text, TakeKey) answers and leaves. No statement is proved here.
-/
import Derived.Test.YtfhhojhflpokaaaNmE
namespace Go.Proofs.Ytfhhojhflpokaaa
open Go.RowKit
set_option linter.unusedSimpArgs false
set_option linter.unusedVariables false

theorem ix_str {P : Program} (t : TypeId) (ht : P.underlying t = some .string) (l : List UInt8) (S : ByteArray) (hS : S = ⟨l.toArray⟩) (j : Nat) (hj : j < l.length) (W : World) :
    (Instr.index t (.string S) (.int .i64 (j : Int))).run P W = .ok (.int .u8 (l[j].toNat : Int)) W := by
  subst hS
  rw [run_index_string W t _ .i64 (j : Int) ht, dif_pos ⟨by omega, by rw [str_size]; omega⟩]
  rfl

set_option maxHeartbeats 4000000 in
set_option maxRecDepth 1000000 in
theorem refName_any (l : List UInt8) (w : World) (hl : l.length ≤ 1048576) :
    Calls Try.prog 13 #[str l] w fun e w' => e = .returned (.bool (decide (Nm l))) ∧ w' = w := by
  obtain ⟨S, hS⟩ : ∃ S : ByteArray, S = ⟨l.toArray⟩ := ⟨_, rfl⟩
  have hsz : S.size = l.length := by rw [hS, str_size]
  show Calls _ _ #[.string ⟨l.toArray⟩] _ _
  rw [← hS]
  have HS := Lib.hid hS
  have HZ := Lib.hid hsz
  clear hS hsz
  by_cases h0 : l.length < 1
  · have hr : decide (Nm l) = false := decide_eq_false fun h => by have := h.1; omega
    have e2 : (S.size : Int) < 1 := by have := HZ.out; omega
    rw [hr]
    clear hr
    go_enter Try.func13, Try.ntmps13; go_wp2; go_ret; exact ⟨rfl, rfl⟩
  by_cases h14 : 14 < l.length
  · have hr : decide (Nm l) = false := decide_eq_false fun h => by have := h.2.1; omega
    have e1 : ¬ ((S.size : Int) < 1) := by have := HZ.out; omega
    have e2 : 14 < (S.size : Int) := by have := HZ.out; omega
    rw [hr]
    clear hr
    go_enter Try.func13, Try.ntmps13; go_wp2; go_ret; exact ⟨rfl, rfl⟩
  have e1 : ¬ ((S.size : Int) < 1) := by have := HZ.out; omega
  have e2 : ¬ (14 < (S.size : Int)) := by have := HZ.out; omega
  go_enter Try.func13, Try.ntmps13
  go_wp2_with fail
  go_loopw [3] (fun i wl => ∃ j : Nat, j ≤ l.length ∧ i = .int .i64 (j : Int) ∧ wl = w ∧ ∀ k (h : k < l.length), k < j → sign l[k].toNat (decide (k = 0)) = true) (fun i _ => l.length - (intOf i).toNat)
  case atStart => exact ⟨0, by omega, by simp, rfl, fun k _ h => by omega⟩
  case round =>
    obtain ⟨j, hj, rfl, hwl, hrel⟩ := hrel
    subst hwl
    have HREL := Lib.hid hrel
    clear hrel
    by_cases hjl : j < l.length
    · have i1 : (j : Int) < (S.size : Int) := by have := HZ.out; omega
      have hix := ix_str (P := Try.prog) 9 Try.underlying9 l S HS.out j hjl
      obtain ⟨c, hc⟩ : ∃ c : Nat, c = l[j].toNat := ⟨_, rfl⟩
      rw [← hc] at hix
      have hlt : c < 256 := by rw [hc]; exact UInt8.toNat_lt _
      have HC := Lib.hid hc
      clear hc
      obtain ⟨b, hb⟩ : ∃ b : Bool, b = decide (j = 0) := ⟨_, rfl⟩
      have hb' : ((j : Int) == 0) = b := by rw [hb, Bool.eq_iff_iff]; simp
      have HB := Lib.hid hb
      clear hb
      by_cases hA : 97 ≤ c ∧ c ≤ 122
      · have f1 : (97 : Int) ≤ (c : Int) := by omega
        have f2 : (c : Int) ≤ 122 := by omega
        have f3 : (48 : Int) ≤ (c : Int) := by omega
        have f4 : ¬ ((c : Int) ≤ 57) := by omega
        have f5 : ((c : Int) == 45) = false := by rw [beq_eq_false_iff_ne]; omega
        have f6 : ((c : Int) == 46) = false := by rw [beq_eq_false_iff_ne]; omega
        have hs : sign c b = true := by simp [sign, low, hA]
        have HSG := Lib.hid hs
        clear hs
        go_wp2_with fail
        refine ⟨⟨j + 1, by omega, by congr 1, trivial, fun k hk hkj => ?_⟩, by simp [intOf] <;> omega⟩
        rcases Nat.lt_or_ge k j with h | h
        · exact HREL.out k hk h
        · obtain rfl : k = j := by omega
          rw [← HC.out, ← HB.out]
          exact HSG.out
      have hlow : low c = false := by unfold low; simp; omega
      have HL := Lib.hid hlow
      clear hlow
      by_cases hD : 48 ≤ c ∧ c ≤ 57
      · have f1 : ¬ ((97 : Int) ≤ (c : Int)) := by omega
        have f3 : (48 : Int) ≤ (c : Int) := by omega
        have f4 : (c : Int) ≤ 57 := by omega
        cases b with
        | true =>
          have hs : sign c true = false := by simp [sign, HL.out]
          have hr : decide (Nm l) = false := nm_not hjl (by rw [← HC.out, ← HB.out]; exact hs)
          have HR := Lib.hid hr
          clear hs hr
          go_wp2_with fail
          go_ret
          rw [HR.out]
          exact ⟨rfl, rfl⟩
        | false =>
          have hs : sign c false = true := by simp [sign, oth, hD]
          have HSG := Lib.hid hs
          clear hs
          go_wp2_with fail
          refine ⟨⟨j + 1, by omega, by congr 1, trivial, fun k hk hkj => ?_⟩, by simp [intOf] <;> omega⟩
          rcases Nat.lt_or_ge k j with h | h
          · exact HREL.out k hk h
          · obtain rfl : k = j := by omega
            rw [← HC.out, ← HB.out]
            exact HSG.out
      by_cases hB1 : c = 45
      · subst hB1
        cases b with
        | true =>
          have hs : sign 45 true = false := by decide
          have hr : decide (Nm l) = false := nm_not hjl (by rw [← HC.out, ← HB.out]; exact hs)
          have HR := Lib.hid hr
          clear hs hr
          go_wp2_with fail
          go_ret
          rw [HR.out]
          exact ⟨rfl, rfl⟩
        | false =>
          have hs : sign 45 false = true := by decide
          have HSG := Lib.hid hs
          clear hs
          go_wp2_with fail
          refine ⟨⟨j + 1, by omega, by congr 1, trivial, fun k hk hkj => ?_⟩, by simp [intOf] <;> omega⟩
          rcases Nat.lt_or_ge k j with h | h
          · exact HREL.out k hk h
          · obtain rfl : k = j := by omega
            rw [← HC.out, ← HB.out]
            exact HSG.out
      by_cases hB2 : c = 46
      · subst hB2
        cases b with
        | true =>
          have hs : sign 46 true = false := by decide
          have hr : decide (Nm l) = false := nm_not hjl (by rw [← HC.out, ← HB.out]; exact hs)
          have HR := Lib.hid hr
          clear hs hr
          go_wp2_with fail
          go_ret
          rw [HR.out]
          exact ⟨rfl, rfl⟩
        | false =>
          have hs : sign 46 false = true := by decide
          have HSG := Lib.hid hs
          clear hs
          go_wp2_with fail
          refine ⟨⟨j + 1, by omega, by congr 1, trivial, fun k hk hkj => ?_⟩, by simp [intOf] <;> omega⟩
          rcases Nat.lt_or_ge k j with h | h
          · exact HREL.out k hk h
          · obtain rfl : k = j := by omega
            rw [← HC.out, ← HB.out]
            exact HSG.out
      have f5 : ((c : Int) == 45) = false := by rw [beq_eq_false_iff_ne]; omega
      have f6 : ((c : Int) == 46) = false := by rw [beq_eq_false_iff_ne]; omega
      have hoth : oth c = false := by
        unfold oth
        have a1 : (c == 45) = false := by simpa using hB1
        have a2 : (c == 46) = false := by simpa using hB2
        rw [a1, a2]
        simp
        omega
      have HO := Lib.hid hoth
      clear hoth hB1 hB2
      by_cases hE : c < 48
      · have f1 : ¬ ((97 : Int) ≤ (c : Int)) := by omega
        have f3 : ¬ ((48 : Int) ≤ (c : Int)) := by omega
        cases b with
        | true =>
          have hs : sign c true = false := by simp [sign, HL.out]
          have hr : decide (Nm l) = false := nm_not hjl (by rw [← HC.out, ← HB.out]; exact hs)
          have HR := Lib.hid hr
          clear hs hr
          go_wp2_with fail
          go_ret
          rw [HR.out]
          exact ⟨rfl, rfl⟩
        | false =>
          have hs : sign c false = false := by simp [sign, HL.out, HO.out]
          have hr : decide (Nm l) = false := nm_not hjl (by rw [← HC.out, ← HB.out]; exact hs)
          have HR := Lib.hid hr
          clear hs hr
          go_wp2_with fail
          go_ret
          rw [HR.out]
          exact ⟨rfl, rfl⟩
      have f3 : (48 : Int) ≤ (c : Int) := by omega
      have f4 : ¬ ((c : Int) ≤ 57) := by omega
      by_cases hF : c < 97
      · have f1 : ¬ ((97 : Int) ≤ (c : Int)) := by omega
        cases b with
        | true =>
          have hs : sign c true = false := by simp [sign, HL.out]
          have hr : decide (Nm l) = false := nm_not hjl (by rw [← HC.out, ← HB.out]; exact hs)
          have HR := Lib.hid hr
          clear hs hr
          go_wp2_with fail
          go_ret
          rw [HR.out]
          exact ⟨rfl, rfl⟩
        | false =>
          have hs : sign c false = false := by simp [sign, HL.out, HO.out]
          have hr : decide (Nm l) = false := nm_not hjl (by rw [← HC.out, ← HB.out]; exact hs)
          have HR := Lib.hid hr
          clear hs hr
          go_wp2_with fail
          go_ret
          rw [HR.out]
          exact ⟨rfl, rfl⟩
      · have f1 : (97 : Int) ≤ (c : Int) := by omega
        have f2 : ¬ ((c : Int) ≤ 122) := by omega
        cases b with
        | true =>
          have hs : sign c true = false := by simp [sign, HL.out]
          have hr : decide (Nm l) = false := nm_not hjl (by rw [← HC.out, ← HB.out]; exact hs)
          have HR := Lib.hid hr
          clear hs hr
          go_wp2_with fail
          go_ret
          rw [HR.out]
          exact ⟨rfl, rfl⟩
        | false =>
          have hs : sign c false = false := by simp [sign, HL.out, HO.out]
          have hr : decide (Nm l) = false := nm_not hjl (by rw [← HC.out, ← HB.out]; exact hs)
          have HR := Lib.hid hr
          clear hs hr
          go_wp2_with fail
          go_ret
          rw [HR.out]
          exact ⟨rfl, rfl⟩
    · obtain rfl : j = l.length := by omega
      have i1 : ¬ ((l.length : Int) < (S.size : Int)) := by have := HZ.out; omega
      have hr : decide (Nm l) = true := decide_eq_true ⟨by omega, by omega, fun k hk => HREL.out k hk hk⟩
      have HR := Lib.hid hr
      clear hr
      go_wp2_with fail
      go_ret
      rw [HR.out]
      exact ⟨rfl, rfl⟩
end Go.Proofs.Ytfhhojhflpokaaa
