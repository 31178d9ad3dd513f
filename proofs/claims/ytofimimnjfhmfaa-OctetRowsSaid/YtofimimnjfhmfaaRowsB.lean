/-
  The walk of the statement OctetRows: the Go text returns true and turns nothing that was there. Conditions: the slices read as numbers and as lists of bytes; the numbers fit their kind.
-/
import Derived.Test.YtofimimnjfhmfaaRowsA
import Derived.BigQuiet
import Derived.Deep.QuietTactic
namespace Go.Proofs.Ytofimimnjfhmfaa
open Go.RowKit
set_option linter.unusedSimpArgs false
set_option linter.unusedVariables false

set_option maxRecDepth 100000 in
set_option maxHeartbeats 4000000 in
theorem rows_walk (vv vt : Value) (vs : List Nat) (ts : List (List UInt8)) (w : World) (hv : Row w vv (u64s vs)) (ht : RowsB w vt ts) (hvb : ∀ n ∈ vs, n < 18446744073709551616) (l1 : vs.length ≤ 20) (l2 : ts.length ≤ 20) :
    Calls Try.prog 6 #[vv, vt] w fun e w' => e = .returned (.bool true) ∧ Below w.heap.size w w' := by
  have HV := Lib.hid hv
  have HT := Lib.hid ht
  obtain ⟨A, cap, rfl, a1, a2, a0, a3⟩ := hv
  obtain ⟨vals, e1, ⟨A', cap', rfl, b1, b2, b0, b3⟩, e3⟩ := ht
  clear a3 b3 a0 b0 e3
  rw [u64s_length] at a1 HV
  rw [e1] at b1 HT
  rw [u64s_length, e1]
  have HVB := Lib.hid hvb
  clear hvb e1 vals
  unfold maxLen at a2 b2
  have n1 : ¬ (20 < (vs.length : Int)) := by omega
  have n2 : ¬ (20 < (ts.length : Int)) := by omega
  go_enter Try.func6, Try.ntmps6
  go_wp2_with fail
  refine (begun_any w).mono ?_
  rintro e w1 ⟨rfl, hB1⟩
  go_wp2_with fail
  go_loopw [5, 6] (fun b i wr => ∃ j : Nat, j ≤ vs.length ∧ i = .int .i64 (j : Int) ∧ Row wr b (bvs (pre vs j)) ∧ Below w.heap.size w wr) (fun _ i _ => vs.length - (intOf i).toNat)
  case atStart => exact ⟨0, by omega, by simp, Row.nil _, hB1⟩
  case round =>
    clear hB1
    obtain ⟨j, hj, rfl, hR, hB⟩ := hrel
    have HR := Lib.hid hR
    clear hR
    by_cases hjl : j < vs.length
    · obtain ⟨b0, off, rfl, hb0, hcell⟩ := (HV.out.below hB).at_ (by rw [u64s_length]; omega)
      have hcj := hcell j _ (u64s_get vs j hjl)
      have hxb := HVB.out (vs.getD j 0) (by simp [List.getD, hjl])
      obtain ⟨x, hx⟩ : ∃ x, x = vs.getD j 0 := ⟨_, rfl⟩
      rw [← hx] at hcj hxb
      have HX := Lib.hid hx
      obtain ⟨q, hq⟩ : ∃ q, q = j % 8 := ⟨_, rfl⟩
      have hmod : (j : Int) % 8 = (q : Int) := by omega
      have hq8 : q < 8 := by omega
      have HQ := Lib.hid hq
      have i1 : (j : Int) < (vs.length : Int) := by omega
      have hpl := pre_length vs j
      clear hcell hx hq
      go_wp2_with fail
      refine (put_any u5 (pre vs j) x (1 + q) _ wr HR.out (by omega) hxb (.inr (.inr ⟨by omega, by omega⟩))).mono ?_
      rintro e w2 ⟨g2, hg2, rfl, hb2, hB2⟩
      have R2 := Lib.hid (show Row w2 (.slice (some ⟨g2, 0, none⟩) ((pre vs j).length + (1 + q)) ((pre vs j).length + (1 + q))) (bvs (pre vs (j + 1))) by
        have := blk_row (n := (pre vs j).length + (1 + q)) hb2 (by simp [le_length]) (by omega)
        rw [pre, ← HX.out, ← HQ.out]
        exact this)
      replace hB2 := hB.trans (hB2.mono hB.size)
      clear hb2 hg2
      go_wp2_with fail
      exact ⟨⟨j + 1, by omega, by congr 1, R2.out, hB2⟩, by simp [intOf] <;> omega⟩
    · obtain rfl : j = vs.length := by omega
      have i1 : ¬ ((vs.length : Int) < (vs.length : Int)) := by omega
      have hpl := pre_length vs vs.length
      obtain ⟨P, hP⟩ : ∃ P, P = pre vs vs.length := ⟨_, rfl⟩
      obtain ⟨pl, hpl'⟩ : ∃ pl, pl = P.length := ⟨_, rfl⟩
      rw [← hP] at HR hpl
      have HP := Lib.hid hP
      have HPL := Lib.hid hpl'
      obtain ⟨A5, c5, hu5, a5, m5, z5, _⟩ := HR.out
      rw [bvs_length, ← hpl'] at hu5
      have hpl8 : pl ≤ 160 := by omega
      subst hu5
      clear hP hpl' a5 m5 z5 hpl
      go_wp2_with fail
      go_loopw [5, 8] (fun b i wr => ∃ k : Nat, k ≤ ts.length ∧ i = .int .i64 (k : Int) ∧ Row wr b (bvs (P ++ tx ts k)) ∧ (∀ i, i < k → (ts.getD i []).length ≤ 100) ∧ Below w.heap.size w wr) (fun _ i _ => ts.length - (intOf i).toNat)
      case atStart => exact ⟨0, by omega, by simp, by rw [tx, List.append_nil]; exact HR.out, fun i hi => by omega, hB⟩
      case round =>
        clear hB HR
        clear i1
        obtain ⟨k, hk, rfl, hR, hall, hB⟩ := hrel
        have HR := Lib.hid hR
        have HALL := Lib.hid hall
        clear hR hall
        by_cases hkl : k < ts.length
        · obtain ⟨vals, e1, hvals, hx⟩ := HT.out.below hB
          obtain ⟨b1, off1, rfl, hb1, hcell⟩ := hvals.at_ (by omega)
          obtain ⟨x, hxk, hrx⟩ := hx k hkl
          have hck := hcell k x hxk
          have hall1 := HALL.out
          have htl := tx_length ts k hall1
          obtain ⟨t, ht⟩ : ∃ t, t = ts.getD k [] := ⟨_, rfl⟩
          rw [← ht] at hrx
          have HTX := Lib.hid ht
          have HRX := Lib.hid hrx
          obtain ⟨A6, c6, rfl, _, _, _, _⟩ := hrx
          rw [bvs_length] at hck HRX
          have HPA := Lib.hid (show (P ++ tx ts k).length ≤ 2200 by rw [List.length_append, ← HPL.out]; omega)
          have i1 : (k : Int) < (ts.length : Int) := by omega
          clear hcell hxk hx hvals e1 ht hall1 htl vals
          by_cases h100 : t.length ≤ 100
          · have i2 : ¬ (100 < (t.length : Int)) := by omega
            go_wp2_with fail
            refine (text_any _ _ (P ++ tx ts k) t _ HR.out HRX.out (by have := HPA.out; omega) (by omega)).mono ?_
            rintro e w2 ⟨v2, rfl, ho2, hB2⟩
            have R2 := Lib.hid (show Row w2 v2 (bvs (P ++ tx ts (k + 1))) by
              have := Row.of_own ho2
              rw [tx, ← HTX.out]
              rw [List.append_assoc, List.append_assoc] at this
              exact this)
            replace hB2 := hB.trans (hB2.mono hB.size)
            have HA2 := Lib.hid (show ∀ i, i < k + 1 → (ts.getD i []).length ≤ 100 from fun i hi => by
              rcases Nat.lt_or_ge i k with h | h
              · exact HALL.out i h
              · obtain rfl : i = k := by omega
                rw [← HTX.out]
                exact h100)
            clear ho2
            go_wp2_with fail
            exact ⟨⟨k + 1, by omega, by congr 1, R2.out, HA2.out, hB2⟩, by simp [intOf] <;> omega⟩
          · have i2 : 100 < (t.length : Int) := by omega
            go_wp2_with fail
            go_ret
            exact ⟨rfl, hB⟩
        · obtain rfl : k = ts.length := by omega
          have i1 : ¬ ((ts.length : Int) < (ts.length : Int)) := by omega
          have htl := tx_length ts ts.length HALL.out
          obtain ⟨Q, hQ⟩ : ∃ Q, Q = P ++ tx ts ts.length := ⟨_, rfl⟩
          obtain ⟨ql, hql⟩ : ∃ ql, ql = Q.length := ⟨_, rfl⟩
          have hql2 : ql ≤ 2200 := by rw [hql, hQ, List.length_append, ← HPL.out]; omega
          rw [← hQ] at HR
          obtain ⟨A7, c7, hu5, a7, m7, z7, _⟩ := HR.out
          rw [bvs_length] at hu5 a7
          rw [← hql] at hu5 a7
          have HQ := Lib.hid hQ
          have HQL := Lib.hid hql
          subst hu5
          unfold maxLen at m7
          clear hQ hql htl z7
          go_wp2_with fail
          go_loop [9, 10] (fun fr i => ∃ j : Nat, j ≤ vs.length ∧ i = .int .i64 (j : Int) ∧ fr = .int .i64 ((pre vs j).length : Int)) (fun _ i => vs.length - (intOf i).toNat)
          case atStart => exact ⟨0, by omega, by simp, by simp [pre]⟩
          case round =>
            clear i1
            obtain ⟨j, hj, rfl, rfl⟩ := hrel
            by_cases hjl : j < vs.length
            · obtain ⟨b0, off, rfl, hb0, hcell⟩ := (HV.out.below hB).at_ (by rw [u64s_length]; omega)
              have hcj := hcell j _ (u64s_get vs j hjl)
              have hxb := HVB.out (vs.getD j 0) (by simp [List.getD, hjl])
              have hrn := rows_num vs j vs.length hjl (tx ts ts.length)
              rw [← HP.out, ← HQ.out] at hrn
              have hpl := pre_length vs j
              have hps : (pre vs (j + 1)).length = (pre vs j).length + (1 + j % 8) := by rw [pre, List.length_append, le_length]
              obtain ⟨x, hx⟩ : ∃ x, x = vs.getD j 0 := ⟨_, rfl⟩
              obtain ⟨p, hp⟩ : ∃ p, p = (pre vs j).length := ⟨_, rfl⟩
              obtain ⟨kk, hkk⟩ : ∃ kk, kk = 1 + j % 8 := ⟨_, rfl⟩
              obtain ⟨q, hq⟩ : ∃ q, q = j % 8 := ⟨_, rfl⟩
              rw [← hx, ← hp, ← hkk] at hrn
              rw [← hp, ← hkk] at hps
              rw [← hx] at hcj hxb
              rw [← hp]
              have hmod : (j : Int) % 8 = (q : Int) := by omega
              have h1q : 1 + (q : Int) = (kk : Int) := by omega
              have hq8 : kk ≤ 8 := by omega
              have hk0 : 0 < kk := by omega
              have i1 : (j : Int) < (vs.length : Int) := by omega
              have hp2 : p ≤ 160 := by omega
              have HT3 := Lib.hid (take_ok (.slice A7 ql c7) Q (p : Int) (kk : Int) p kk wr HR.out (by rw [← HQL.out]; omega) rfl rfl hq8 hrn.2)
              rw [hrn.1] at HT3
              have HPS := Lib.hid hps
              clear hcell hx hq hkk hp hrn hps hpl
              by_cases h8 : kk < 8
              case' pos =>
                have n4 : (kk : Int) < 8 := by omega
                have hw : IntKind.u64.wrap (2 ^ (8 * kk)) = (256 : Int) ^ kk := pow_wrap kk h8
                have hz : ¬ ((256 : Int) ^ kk = 0) := by
                  have : (0 : Int) < 256 ^ kk := Int.pow_pos (by omega)
                  omega
              case' neg =>
                have n4 : ¬ ((kk : Int) < 8) := by omega
                have he : (x : Int) % 256 ^ kk = (x : Int) := by
                  obtain rfl : kk = 8 := by omega
                  omega
              all_goals
                go_wp2_with fail
                refine HT3.out.mono ?_
                rintro e w2 ⟨rfl, rfl⟩
                go_wp2_with fail
                exact ⟨⟨j + 1, by omega, by congr 1, by rw [HPS.out, Int.natCast_add]⟩, by simp [intOf] <;> omega⟩
            · obtain rfl : j = vs.length := by omega
              have i1 : ¬ ((vs.length : Int) < (vs.length : Int)) := by omega
              go_wp2_with fail
              obtain ⟨wo, hwo⟩ : ∃ wo : World, wo = wr := ⟨_, rfl⟩
              subst hwo
              go_loopw [7, 15] (fun at_ i wx => ∃ k : Nat, k ≤ ts.length ∧ i = .int .i64 (k : Int) ∧ at_ = .int .i64 ((pl + (tx ts k).length : Nat) : Int) ∧ Below wo.heap.size wo wx) (fun _ i _ => ts.length - (intOf i).toNat)
              case atStart => exact ⟨0, by omega, by simp, by simp [tx], Below.refl _ _⟩
              case round =>
                clear i1
                obtain ⟨k, hk, rfl, rfl, hB4⟩ := hrel
                have hBw := hB.trans (hB4.mono hB.size)
                by_cases hkl : k < ts.length
                · obtain ⟨vals, e1, hvals, hx⟩ := HT.out.below hBw
                  obtain ⟨b1, off1, rfl, hb1, hcell⟩ := hvals.at_ (by omega)
                  obtain ⟨x, hxk, hrx⟩ := hx k hkl
                  have hck := hcell k x hxk
                  have hall1 := HALL.out k hkl
                  have hrt := rows_text ts k ts.length hkl hall1 P _ rfl
                  rw [← HQ.out, ← HPL.out] at hrt
                  have hts : (tx ts (k + 1)).length = (tx ts k).length + (2 + (ts.getD k []).length) := by rw [tx, List.length_append, List.length_append, le_length]
                  obtain ⟨t, ht⟩ : ∃ t, t = ts.getD k [] := ⟨_, rfl⟩
                  obtain ⟨a, ha⟩ : ∃ a, a = pl + (tx ts k).length := ⟨_, rfl⟩
                  rw [← ht] at hrx hall1 hrt hts
                  rw [← ha] at hrt ⊢
                  have hal : a + 2 ≤ ql := by
                    have := hrt.2.2
                    rw [List.length_drop, ← HQL.out] at this
                    omega
                  have HRX := Lib.hid hrx
                  obtain ⟨A6, c6, rfl, _, _, _, _⟩ := hrx
                  rw [bvs_length] at hck HRX
                  have LQ : (bvs Q).length = ql := by rw [bvs_length, HQL.out]
                  obtain ⟨b7, off7, rfl, hR7⟩ := Row.drop (w := wr) (A := A7) (cap := c7) (xs := bvs Q) (by rw [LQ]; exact HR.out.below hB4) a (by rw [LQ]; omega)
                  rw [LQ, show (bvs Q).drop a = bvs (Q.drop a) by simp [bvs]] at hR7
                  have HT4 := Lib.hid (takeText_ok _ (Q.drop a) 100 wr hR7 (by rw [List.length_drop, ← HQL.out]; omega) (by rw [List.length_drop, ← HQL.out]; omega) (by rw [hrt.1]; omega) (by rw [hrt.1]; exact hrt.2.2))
                  rw [hrt.1, hrt.2.1] at HT4
                  have i1 : (k : Int) < (ts.length : Int) := by omega
                  have i2 : (a : Int) ≤ (ql : Int) := by omega
                  have i3 : ¬ (c7 = a) := by omega
                  have HTS := Lib.hid hts
                  have HA := Lib.hid ha
                  clear hcell hxk hx hvals e1 ht hrt hts ha LQ hR7 vals
                  go_wp2_with fail
                  refine HT4.out.mono ?_
                  rintro e w2 ⟨v3, rfl, ho3, hB2⟩
                  have R3 := Lib.hid (Row.of_own ho3)
                  have hck2 := (hB2.cell (p := ⟨b1, off1 + k, none⟩) hb1).trans hck
                  have HRX2 := Lib.hid (HRX.out.below hB2)
                  replace hB2 := hB4.trans (hB2.mono hB4.size)
                  clear hck ho3 HRX
                  have q3 := fun n => cvt (R3.out.drewN n)
                  have qt := fun n => cvt (HRX2.out.drewN n)
                  go_wp2_with fail
                  go_quiet (fail)
                  go_wp2_with fail
                  exact ⟨⟨k + 1, by omega, by congr 1, by congr 1; rw [HTS.out, HA.out]; omega, below_drewN hB2 _⟩, by simp [intOf] <;> omega⟩
                · obtain rfl : k = ts.length := by omega
                  have i1 : ¬ ((ts.length : Int) < (ts.length : Int)) := by omega
                  have hq : (((pl : Nat) : Int) + ((tx ts ts.length).length : Int) == (ql : Int)) = true := by
                    rw [beq_iff_eq, HQL.out, HQ.out, List.length_append, ← HPL.out, Int.natCast_add]
                  go_wp2
                  go_ret
                  exact ⟨rfl, hBw⟩

set_option maxRecDepth 100000 in
set_option maxHeartbeats 400000 in
theorem rows_early (vv vt : Value) (vs : List Nat) (ts : List (List UInt8)) (w : World) (hv : Row w vv (u64s vs)) (ht : RowsB w vt ts) (hl : 20 < vs.length ∨ 20 < ts.length) :
    Calls Try.prog 6 #[vv, vt] w fun e w' => e = .returned (.bool true) ∧ Below w.heap.size w w' := by
  obtain ⟨A, cap, rfl, a1, a2, a0, a3⟩ := hv
  obtain ⟨vals, e1, ⟨A', cap', rfl, b1, b2, b0, b3⟩, e3⟩ := ht
  clear a3 b3 a0 b0 e3 b1 a1
  rw [u64s_length, e1]
  clear e1
  by_cases m1 : 20 < (vs.length : Int)
  · clear hl
    go_enter Try.func6, Try.ntmps6
    go_wp2_with fail
    refine (begun_any w).mono ?_
    rintro e w1 ⟨rfl, hB1⟩
    go_wp2_with fail
    go_ret
    exact ⟨rfl, hB1⟩
  have m2 : 20 < (ts.length : Int) := by omega
  clear hl
  · go_enter Try.func6, Try.ntmps6
    go_wp2_with fail
    refine (begun_any w).mono ?_
    rintro e w1 ⟨rfl, hB1⟩
    go_wp2_with fail
    go_ret
    exact ⟨rfl, hB1⟩

theorem rows_all (vv vt : Value) (vs : List Nat) (ts : List (List UInt8)) (w : World) (hv : Row w vv (u64s vs)) (ht : RowsB w vt ts) (hvb : ∀ n ∈ vs, n < 18446744073709551616) :
    Calls Try.prog 6 #[vv, vt] w fun e w' => e = .returned (.bool true) ∧ Below w.heap.size w w' := by
  by_cases h : 20 < vs.length ∨ 20 < ts.length
  · exact rows_early vv vt vs ts w hv ht h
  · exact rows_walk vv vt vs ts w hv ht hvb (by omega) (by omega)
end Go.Proofs.Ytofimimnjfhmfaa
