/-
  Texts of this proof, put together: SoQ, FmA, McG. No statement is proved here.
-/
import Derived.Test.YtbbodfpnneifgaaYG
import Derived.Laws.IdiomCopy
import Derived.Lib.SliceRun
import Derived.Test.YtbbodfpnneifgaaYH
import Derived.Test.YtbbodfpnneifgaaYC
import Derived.Test.YtbbodfpnneifgaaYE
import Derived.Test.YtbbodfpnneifgaaYB
import Derived.Test.YtbbodfpnneifgaaYQ
namespace Go.Proofs.Ytbbodfpnneifgaa
open Go.RowKit
set_option linter.unusedSimpArgs false
set_option linter.unusedVariables false
theorem ex_eqY {P : Program} {ev : Operand → Value} {o : Oper} (x y : Operand) {t r : TypeId} (ht : P.underlying t = some (.int .u8)) (ho : o.op = .binOp .eql t x y r) {p q : UInt8} (hx : ev x = bv p) (hy : ev y = bv q) {c : Bool} (hc : decide (p = q) = c) (W : World) : (execOp ev o).run P W = .ok (.value (.bool c)) W := by
 have h1 : decide ((p.toNat : Int) = (q.toNat : Int)) = c := by
  rw [← hc]
  exact decide_eq_decide.2 ⟨fun h => UInt8.toNat_inj.1 (by omega), fun h => by rw [h]⟩
 have h2 : ((p.toNat : Int) == (q.toNat : Int)) = c := by rw [← h1]; exact Bool.eq_iff_iff.2 (by simp)
 simp only [execOp, ho, hx, hy]
 rw [← h2]
 go_simp
theorem ex_neY {P : Program} {ev : Operand → Value} {o : Oper} (x y : Operand) {t r : TypeId} (ht : P.underlying t = some (.int .u8)) (ho : o.op = .binOp .neq t x y r) {p q : UInt8} (hx : ev x = bv p) (hy : ev y = bv q) {c : Bool} (hc : decide (p = q) = c) (W : World) : (execOp ev o).run P W = .ok (.value (.bool (!c))) W := by
 have h1 : decide ((p.toNat : Int) = (q.toNat : Int)) = c := by
  rw [← hc]
  exact decide_eq_decide.2 ⟨fun h => UInt8.toNat_inj.1 (by omega), fun h => by rw [h]⟩
 have h2 : ((p.toNat : Int) != (q.toNat : Int)) = !c := by rw [← h1, bne]; congr 1
 simp only [execOp, ho, hx, hy]
 rw [← h2]
 go_simp
theorem ix_yo {ev : Operand → Value} {o : Oper} (x i : Operand) (ho : o.op = .indexAddr 22 x i) {b off n c q : Nat} (hx : ev x = .slice (some ⟨b, off, none⟩) n c) (hi : ev i = .int .i64 (q : Int)) (hq : q < n) (W : World) : (execOp ev o).run Try.prog W = .ok (.value (.pointer (some ⟨b, off + q, none⟩))) W := by
 have h1 : (q : Int) < (n : Int) := Int.ofNat_lt.2 hq
 simp only [execOp, ho, hx, hi]
 go_simp
structure Cpt (l l1 : List UInt8) (k m : Nat) : Prop where
 len : l1.length = l.length
 far : ∀ j, k ≤ j → l1[j]? = l[j]?
 same : ∀ c, c ∈ l1.take k ↔ c ∈ l.take m
theorem mem_take_succ {l : List UInt8} {m : Nat} {x : UInt8} (h : l[m]? = some x) (c : UInt8) : c ∈ l.take (m + 1) ↔ c ∈ l.take m ∨ c = x := by
 have hi := (List.getElem?_eq_some_iff.1 h).1
 rw [List.take_succ_eq_append_getElem hi, List.mem_append, (List.getElem?_eq_some_iff.1 h).2]
 simp
theorem mem_take_at {l : List UInt8} {m j : Nat} {x : UInt8} (h : l[j]? = some x) (hj : j < m) : x ∈ l.take m := by
 refine List.mem_of_getElem? (i := j) ?_
 rw [List.getElem?_take_of_lt hj]
 exact h
theorem Cpt.skip {l l1 : List UInt8} {k m j : Nat} {x : UInt8} (h : Cpt l l1 k m) (hm : l[m]? = some x) (hj : l[j]? = some x) (hjm : j < m) : Cpt l l1 k (m + 1) :=
 ⟨h.len, h.far, fun c => by
  rw [h.same, mem_take_succ hm]
  exact ⟨.inl, fun h => by rcases h with h | h; exact h; rw [h]; exact mem_take_at hj hjm⟩⟩
theorem Cpt.put {l l1 : List UInt8} {k m : Nat} {x : UInt8} (h : Cpt l l1 k m) (hm : l[m]? = some x) (hk : k < l1.length) : Cpt l (l1.set k x) (k + 1) (m + 1) :=
 ⟨by rw [List.length_set]; exact h.len, fun j hj => by rw [List.getElem?_set_ne (by omega)]; exact h.far j (by omega), fun c => by
  rw [mem_take_succ hm, mem_take_succ (l := l1.set k x) (x := x) (List.getElem?_set_self hk), List.take_set_of_le (Nat.le_refl _), h.same]⟩
def CmpP (g : Nat) (l : List UInt8) (w : World) (e : Ending) (w' : World) : Prop := ∃ (v : Value) (l' : List UInt8), e = .returned v ∧ Row w' v (bvs l') ∧ (∀ c, c ∈ l' ↔ c ∈ l) ∧ w.grownBy w' (some g) ∧ v.ownBlock = some g ∧ l'.length ≤ l.length
theorem Dat.row {w : World} {g n cap k : Nat} {zs : List Value} {l : List UInt8} (h : Dat w g zs l) (hk : k ≤ l.length) (hcap : k ≤ cap) (hm : cap ≤ maxLen) : Row w (.slice (some ⟨g, 0, none⟩) k cap) (bvs (l.take k)) := by
 have hl : (bvs (l.take k)).length = k := by rw [bvs_length, List.length_take, Nat.min_eq_left hk]
 refine ⟨some ⟨g, 0, none⟩, cap, by rw [hl], by rw [hl]; exact hcap, hm, (fun h => by cases h), fun _ => ⟨g, 0, rfl, h.lt, fun i u hu => ?_⟩⟩
 have hi : i < k := by rw [← hl]; exact (List.getElem?_eq_some_iff.1 hu).1
 rw [Nat.zero_add]
 rw [bvs, List.getElem?_map, List.getElem?_take_of_lt hi] at hu
 cases hc : l[i]? with
 | none => rw [hc] at hu; cases hu
 | some c =>
  rw [hc] at hu
  injection hu with hu
  rw [← hu]
  exact h.cell hc
theorem row_cleared {w : World} {g n cap k : Nat} {zs : List Value} {l : List UInt8} (h : Dat w g zs l) (hk : k ≤ l.length) (hcap : k ≤ cap) (hm : cap ≤ maxLen) (us : List Value) : Row (w.setCells g k us) (.slice (some ⟨g, 0, none⟩) k cap) (bvs (l.take k)) := by
 obtain ⟨A, c, he, h1, h2, h3, h4⟩ := h.row (n := n) hk hcap hm
 refine ⟨A, c, he, h1, h2, h3, fun hne => ?_⟩
 obtain ⟨b, off, hA, hb, hcell⟩ := h4 hne
 injection he with e1 e2 e3
 rw [hA] at e1
 injection e1 with e1
 injection e1 with e4 e5 _
 subst e4
 subst e5
 refine ⟨g, 0, hA, Nat.lt_of_lt_of_le hb (grown_setCells (World.grownBy.refl w (some g)) k us).size, fun i u hu => ?_⟩
 rw [World.cell?_setCells_out g us k w ⟨g, 0 + i, none⟩ (fun _ _ => .inl ?_)]
 ·exact hcell i u hu
 ·have hl : (bvs (l.take k)).length = k := by rw [bvs_length, List.length_take, Nat.min_eq_left hk]
  have := (List.getElem?_eq_some_iff.1 hu).1
  show 0 + i < k
  omega
set_option maxHeartbeats 8000000 in
set_option maxRecDepth 1000000 in
theorem cmpY_any (g n cap : Nat) (zs : List Value) (l : List UInt8) (w : World) (hl : l.length = n) (hn : n ≤ 1048576) (h2 : 2 ≤ n) (hd : Dat w g zs l) (hcap : n ≤ cap) (hm : cap ≤ maxLen) :
  Calls Try.prog 44 #[.slice (some ⟨g, 0, none⟩) n cap] w fun e w' => CmpP g l w e w' := by
 have SL := qH hl
 have HN := qH hn
 have HD0 := qH hd
 have HCAP := qH hcap
 have HM := qH hm
 have x1 : ¬ ((n : Int) < 2) := by omega
 have HN1 := qH (show 1 ≤ n by omega)
 clear hl hn h2 hd hcap hm
 go_enter Try.func44, Try.ntmps44
 go_wp2_with fail
 go_loopw [3] (fun kv wl => ∃ k : Nat, kv = .int .i64 (k : Int) ∧ 1 ≤ k ∧ k ≤ n ∧ Dat wl g zs l ∧ w.grownBy wl (some g)) (fun kv _ => n - (intOf kv).toNat)
 case atStart => exact ⟨1, rfl, Nat.le_refl _, HN1.out, HD0.out, ⟨rfl, rfl, rfl, Nat.le_refl _, fun _ _ _ => rfl⟩⟩
 obtain ⟨k, rfl, hk1, hkn, hd, hg⟩ := hrel
 have SD := qH hd
 have GD := qH hg
 have HK1 := qH hk1
 have HKN := qH hkn
 rename_i wr
 clear hd hg hk1 hkn
 by_cases hlt : k < n
 ·have y1 : (k : Int) < (n : Int) := Int.ofNat_lt.2 hlt
  obtain ⟨j, hj⟩ := pre_ex HK1.out
  have HKE := qH hj
  have HKL := qH hlt
  have HJN := qH (show j < n from Nat.lt_of_succ_lt (by rw [Nat.succ_eq_add_one, hj]; exact hlt))
  have HJK := qH (show j ≤ 1048576 from Nat.le_trans (Nat.le_of_lt HJN.out) HN.out)
  have HMK := qH (sub_next hlt)
  have f1 := wrap_one k (Nat.le_trans (Nat.le_of_lt hlt) (Nat.le_trans HN.out (by decide)))
  have f2 := wrap_one' k (Nat.le_trans (Nat.le_of_lt hlt) (Nat.le_trans HN.out (by decide)))
  clear hlt hj
  obtain ⟨u, hu⟩ : ∃ q, l[k]? = some q := ⟨_, List.getElem?_eq_getElem (by rw [SL.out]; exact HKL.out)⟩
  have HU := qH hu
  clear hu
  obtain ⟨v, hv⟩ : ∃ q, l[j]? = some q := ⟨_, List.getElem?_eq_getElem (by rw [SL.out]; exact HJN.out)⟩
  have HV := qH hv
  clear hv
  obtain ⟨c, hc⟩ : ∃ c, c = decide (u = v) := ⟨_, rfl⟩
  have HC := qH hc.symm
  have HCE := qH hc
  clear hc
  go_wp2_with fail
  refine sg_start (S := IsW wr.drew) (by kernel_rfl) rfl (fun wd hwd => ?_)
  have hX : IsW _ wd := hwd
  clear hwd
  refine sg_take (i := 0) (oi := ⟨some 16, _, _, _, _, _⟩) (v := ?_) rfl (by kernel_rfl) (by kernel_rfl) (by kernel_rfl) (fun _ _ _ h => h) rfl hX ?_ ?_; rotate_left; (intro W hW; go_simp; try with_reducible rfl); simp only [Act.put, qA, qB, qC]
  refine sg_take (i := 1) (oi := ⟨some 17, _, _, _, _, _⟩) (v := ?_) rfl (by kernel_rfl) (by kernel_rfl) (by kernel_rfl) (fun _ _ _ h => h) rfl hX ?_ ?_; rotate_left; (intro W hW; go_simp; try with_reducible rfl); simp only [Act.put, qA, qB, qC]
  refine sg_take (i := 2) (oi := ⟨some 18, _, _, _, _, _⟩) (v := .pointer (some ⟨g, k, none⟩)) rfl (by kernel_rfl) (by kernel_rfl) (by kernel_rfl) (fun _ _ _ h => h) rfl hX (fun V _ => ix_y (.tmp 16) (.tmp 17) rfl rfl rfl HKL.out V) ?_; simp only [Act.put, qA, qB, qC]
  refine sg_take (i := 3) (oi := ⟨some 19, _, _, _, _, _⟩) (v := bv u) rfl (by kernel_rfl) (by kernel_rfl) (by kernel_rfl) (fun _ _ _ h => h) rfl hX (fun V hV => ld_yt (.tmp 18) rfl rfl ((SD.out.is hV).cell HU.out)) ?_; simp only [Act.put, qA, qB, qC]
  refine sg_take (i := 4) (oi := ⟨some 20, _, _, _, _, _⟩) (v := ?_) rfl (by kernel_rfl) (by kernel_rfl) (by kernel_rfl) (fun _ _ _ h => h) rfl hX ?_ ?_; rotate_left; (intro W hW; go_simp; try with_reducible rfl); simp only [Act.put, qA, qB, qC]
  refine sg_take (i := 5) (oi := ⟨some 21, _, _, _, _, _⟩) (v := ?_) rfl (by kernel_rfl) (by kernel_rfl) (by kernel_rfl) (fun _ _ _ h => h) rfl hX ?_ ?_; rotate_left; (intro W hW; go_simp; try with_reducible rfl); simp only [Act.put, qA, qB, qC]
  refine sg_take (i := 6) (oi := ⟨some 22, _, _, _, _, _⟩) (v := .int .i64 ((j : Nat) : Int)) rfl (by kernel_rfl) (by kernel_rfl) (by kernel_rfl) (fun _ _ _ h => h) rfl hX (fun V _ => ex_subV (.tmp 21) rfl rfl rfl HKE.out HJK.out V) ?_; simp only [Act.put, qA, qB, qC]
  refine sg_take (i := 7) (oi := ⟨some 23, _, _, _, _, _⟩) (v := .pointer (some ⟨g, j, none⟩)) rfl (by kernel_rfl) (by kernel_rfl) (by kernel_rfl) (fun _ _ _ h => h) rfl hX (fun V _ => ix_y (.tmp 20) (.tmp 22) rfl rfl rfl HJN.out V) ?_; simp only [Act.put, qA, qB, qC]
  refine sg_take (i := 8) (oi := ⟨some 24, _, _, _, _, _⟩) (v := bv v) rfl (by kernel_rfl) (by kernel_rfl) (by kernel_rfl) (fun _ _ _ h => h) rfl hX (fun V hV => ld_yt (.tmp 23) rfl rfl ((SD.out.is hV).cell HV.out)) ?_; simp only [Act.put, qA, qB, qC]
  refine sg_take (i := 9) (oi := ⟨some 25, _, _, _, _, _⟩) (v := .bool c) rfl (by kernel_rfl) (by kernel_rfl) (by kernel_rfl) (fun _ _ _ h => h) rfl hX (fun V _ => ex_eqY (.tmp 19) (.tmp 24) Try.underlying5 rfl rfl rfl HC.out V) ?_; simp only [Act.put, qA, qB, qC]
  refine wpAnyH_done (by kernel_rfl) ?_ _
  have SE := qH (SD.out.is hX)
  have GE := qH (grownS_is GD.out hX)
  clear hX SD GD HC
  have SD := SE
  have GD := GE
  clear SE GE
  cases c with
  | false =>
   clear HCE
   go_wp2_with fail
   exact ⟨⟨k + 1, by simp, Nat.le_succ_of_le HK1.out, HKL.out, SD.out, GD.out⟩, by simpa [intOf] using HMK.out⟩
  | true =>
   have HKC := qH (show k < cap from Nat.lt_of_lt_of_le HKL.out HCAP.out)
   have s1 : ¬ (k = cap) := Nat.ne_of_lt HKC.out
   have HUV := qH (show u = v from of_decide_eq_true HCE.out.symm)
   have HCP := qH (show Cpt l l k (k + 1) from ⟨rfl, fun _ _ => rfl, fun c => by
    rw [mem_take_succ HU.out]
    exact ⟨.inl, fun h => by rcases h with h | h; exact h; rw [h, HUV.out]; exact mem_take_at HV.out (by have := HKE.out; omega)⟩⟩)
   obtain ⟨m, hm⟩ : ∃ m, k + m = n := ⟨n - k, Nat.add_sub_cancel' HKN.out⟩
   have HME := qH hm
   have hm2 : n - k = m := by omega
   obtain ⟨cm, hcm⟩ : ∃ x, x = cap - k := ⟨_, rfl⟩
   have HM2 := qH hm2
   have HCM := qH hcm
   have HM1 := qH (show 1 ≤ m by have := HKL.out; omega)
   have HMB := qH (show m ≤ 1048576 from Nat.le_trans (by rw [← hm]; exact Nat.le_add_left m k) HN.out)
   clear hm hm2 hcm HCE
   go_wp2_with fail
   rw [HM2.out, ← HCM.out]
   go_loopw [3, 5] (fun kv iv wl => ∃ (q i : Nat) (l1 : List UInt8), kv = .int .i64 (q : Int) ∧ iv = .int .i64 (i : Int) ∧ 1 ≤ i ∧ i ≤ m ∧ k ≤ q ∧ q + 1 ≤ k + i ∧ Cpt l l1 q (k + i) ∧ Dat wl g zs l1 ∧ w.grownBy wl (some g)) (fun _ iv _ => m - (intOf iv).toNat)
   case atStart => exact ⟨k, 1, l, rfl, rfl, Nat.le_refl _, HM1.out, Nat.le_refl _, Nat.le_refl _, HCP.out, SD.out, GD.out⟩
   clear SD GD HCP
   obtain ⟨q, i, l1, rfl, rfl, hi1, him, hkq, hqi, hcp, hd, hg⟩ := hrel
   have SD := qH hd
   have GD := qH hg
   have HI1 := qH hi1
   have HIM := qH him
   have HKQ := qH hkq
   have HQI := qH hqi
   have CP := qH hcp
   have SL1 := qH (show l1.length = n by rw [hcp.len]; exact SL.out)
   have HQN := qH (show q < n by have := HME.out; omega)
   rename_i wr
   clear hd hg hi1 him hkq hqi hcp
   by_cases hlt : i < m
   ·have z1 : (i : Int) < (m : Int) := Int.ofNat_lt.2 hlt
    obtain ⟨i1, hi1⟩ := pre_ex HI1.out
    have HIE := qH hi1
    have HIL := qH hlt
    have HIN := qH (show k + i < n by have := HME.out; omega)
    have HI1N := qH (show k + i1 < n by have := HME.out; omega)
    have HI1M := qH (show i1 < m by omega)
    have HIK := qH (show i1 ≤ 1048576 from Nat.le_trans (Nat.le_of_lt HI1M.out) HMB.out)
    have HMI := qH (sub_next hlt)
    have g1 := wrap_one i (Nat.le_trans (Nat.le_of_lt hlt) (Nat.le_trans HMB.out (by decide)))
    have g2 := wrap_one' i (Nat.le_trans (Nat.le_of_lt hlt) (Nat.le_trans HMB.out (by decide)))
    have g3 := wrap_one q (Nat.le_trans (Nat.le_of_lt HQN.out) (Nat.le_trans HN.out (by decide)))
    have g4 := wrap_one' q (Nat.le_trans (Nat.le_of_lt HQN.out) (Nat.le_trans HN.out (by decide)))
    have HQ1 := qH (show q + 1 + 1 ≤ k + (i + 1) by have := HQI.out; clear g1 g2 g3 g4 f1 f2; omega)
    have HQ2 := qH (show q + 1 ≤ k + (i + 1) by have := HQI.out; clear g1 g2 g3 g4 f1 f2; omega)
    clear hlt hi1
    obtain ⟨a, ha⟩ : ∃ x, l[k + i]? = some x := ⟨_, List.getElem?_eq_getElem (by rw [SL.out]; exact HIN.out)⟩
    obtain ⟨b, hb⟩ : ∃ x, l[k + i1]? = some x := ⟨_, List.getElem?_eq_getElem (by rw [SL.out]; exact HI1N.out)⟩
    have HA := qH (show l1[k + i]? = some a by rw [CP.out.far _ (by have := HQI.out; clear g1 g2 g3 g4 f1 f2; omega)]; exact ha)
    have HB := qH (show l1[k + i1]? = some b by rw [CP.out.far _ (by have := HQI.out; have := HIE.out; clear g1 g2 g3 g4 f1 f2; omega)]; exact hb)
    have HA0 := qH ha
    have HB0 := qH hb
    obtain ⟨c, hc⟩ : ∃ c, c = decide (a = b) := ⟨_, rfl⟩
    have HC := qH hc.symm
    have HCE := qH hc
    clear ha hb hc
    go_wp2_with fail
    refine sg_start (S := IsW wr.drew) (by kernel_rfl) rfl (fun wd hwd => ?_)
    have hX : IsW _ wd := hwd
    clear hwd
    refine sg_take (i := 0) (oi := ⟨some 35, _, _, _, _, _⟩) (v := ?_) rfl (by kernel_rfl) (by kernel_rfl) (by kernel_rfl) (fun _ _ _ h => h) rfl hX ?_ ?_; rotate_left; (intro W hW; go_simp; try with_reducible rfl); simp only [Act.put, qA, qB, qC]
    refine sg_take (i := 1) (oi := ⟨some 36, _, _, _, _, _⟩) (v := ?_) rfl (by kernel_rfl) (by kernel_rfl) (by kernel_rfl) (fun _ _ _ h => h) rfl hX ?_ ?_; rotate_left; (intro W hW; go_simp; try with_reducible rfl); simp only [Act.put, qA, qB, qC]
    refine sg_take (i := 2) (oi := ⟨some 37, _, _, _, _, _⟩) (v := .pointer (some ⟨g, (k + i), none⟩)) rfl (by kernel_rfl) (by kernel_rfl) (by kernel_rfl) (fun _ _ _ h => h) rfl hX (fun V _ => ix_yo (.tmp 35) (.tmp 36) rfl rfl rfl HIL.out V) ?_; simp only [Act.put, qA, qB, qC]
    refine sg_take (i := 3) (oi := ⟨some 38, _, _, _, _, _⟩) (v := bv a) rfl (by kernel_rfl) (by kernel_rfl) (by kernel_rfl) (fun _ _ _ h => h) rfl hX (fun V hV => ld_yt (.tmp 37) rfl rfl ((SD.out.is hV).cell HA.out)) ?_; simp only [Act.put, qA, qB, qC]
    refine sg_take (i := 4) (oi := ⟨some 39, _, _, _, _, _⟩) (v := ?_) rfl (by kernel_rfl) (by kernel_rfl) (by kernel_rfl) (fun _ _ _ h => h) rfl hX ?_ ?_; rotate_left; (intro W hW; go_simp; try with_reducible rfl); simp only [Act.put, qA, qB, qC]
    refine sg_take (i := 5) (oi := ⟨some 40, _, _, _, _, _⟩) (v := ?_) rfl (by kernel_rfl) (by kernel_rfl) (by kernel_rfl) (fun _ _ _ h => h) rfl hX ?_ ?_; rotate_left; (intro W hW; go_simp; try with_reducible rfl); simp only [Act.put, qA, qB, qC]
    refine sg_take (i := 6) (oi := ⟨some 41, _, _, _, _, _⟩) (v := .int .i64 ((i1 : Nat) : Int)) rfl (by kernel_rfl) (by kernel_rfl) (by kernel_rfl) (fun _ _ _ h => h) rfl hX (fun V _ => ex_subV (.tmp 40) rfl rfl rfl HIE.out HIK.out V) ?_; simp only [Act.put, qA, qB, qC]
    refine sg_take (i := 7) (oi := ⟨some 42, _, _, _, _, _⟩) (v := .pointer (some ⟨g, (k + i1), none⟩)) rfl (by kernel_rfl) (by kernel_rfl) (by kernel_rfl) (fun _ _ _ h => h) rfl hX (fun V _ => ix_yo (.tmp 39) (.tmp 41) rfl rfl rfl HI1M.out V) ?_; simp only [Act.put, qA, qB, qC]
    refine sg_take (i := 8) (oi := ⟨some 43, _, _, _, _, _⟩) (v := bv b) rfl (by kernel_rfl) (by kernel_rfl) (by kernel_rfl) (fun _ _ _ h => h) rfl hX (fun V hV => ld_yt (.tmp 42) rfl rfl ((SD.out.is hV).cell HB.out)) ?_; simp only [Act.put, qA, qB, qC]
    refine sg_take (i := 9) (oi := ⟨some 44, _, _, _, _, _⟩) (v := .bool (!c)) rfl (by kernel_rfl) (by kernel_rfl) (by kernel_rfl) (fun _ _ _ h => h) rfl hX (fun V _ => ex_neY (.tmp 38) (.tmp 43) Try.underlying5 rfl rfl rfl HC.out V) ?_; simp only [Act.put, qA, qB, qC]
    refine wpAnyH_done (by kernel_rfl) ?_ _
    have SE := qH (SD.out.is hX)
    have GE := qH (grownS_is GD.out hX)
    clear hX SD GD HC
    have SD := SE
    have GD := GE
    clear SE GE
    cases c with
    | true =>
     have HAB := qH (show a = b from of_decide_eq_true HCE.out.symm)
     have CP2 := qH (CP.out.skip HA0.out (by rw [HAB.out]; exact HB0.out) (by have := HIE.out; clear g1 g2 g3 g4 f1 f2; omega))
     clear HCE
     go_wp2_with fail
     exact ⟨⟨q, i + 1, l1, rfl, by simp, Nat.le_succ_of_le HI1.out, HIL.out, HKQ.out, HQ2.out, CP2.out, SD.out, GD.out⟩, by simpa [intOf] using HMI.out⟩
    | false =>
     have CP2 := qH (CP.out.put HA0.out (by rw [SL1.out]; exact HQN.out))
     have SD2 := qH (SD.out.set (by rw [SL1.out]; exact HQN.out) a)
     have GD2 := qH (grownS_set GD.out q (bv a))
     clear HCE
     have c1 := SD.out.cell HA.out
     have c2 := dat_hit SD.out (i := q) (by rw [SL1.out]; exact HQN.out)
     have c3 := SD.out.frozen q
     have y5 : (q : Int) < (n : Int) := Int.ofNat_lt.2 HQN.out
     go_wp2_with fail
     exact ⟨⟨q + 1, i + 1, l1.set q a, by simp, by simp, Nat.le_succ_of_le HI1.out, HIL.out, Nat.le_succ_of_le HKQ.out, HQ1.out, CP2.out, SD2.out, GD2.out⟩, by simpa [intOf] using HMI.out⟩
   ·obtain rfl : i = m := Nat.le_antisymm HIM.out (Nat.le_of_not_lt hlt)
    have z1 : ¬ ((i : Int) < (i : Int)) := Int.lt_irrefl _
    have s2 : ¬ (q = cap) := Nat.ne_of_lt (Nat.lt_of_lt_of_le HQN.out HCAP.out)
    have y5 : (q : Int) < (n : Int) := Int.ofNat_lt.2 HQN.out
    clear hlt
    have y6 : q ≤ cap := Nat.le_of_lt (Nat.lt_of_lt_of_le HQN.out HCAP.out)
    have y7 : (q : Int) ≤ (cap : Int) := Int.ofNat_le.2 y6
    have hclr := Lib.run_clear_slice (P := Try.prog) wr 22 5 0 (.int .u8 0) Try.underlying22 Try.zeroValue5 rfl rfl g q (n - q) (cap - q) (by have := HQN.out; omega) (fun j hj => by rw [dat_hit SD.out (i := q + j) (by rw [SL1.out]; omega)]; rfl) (fun j _ => SD.out.frozen (q + j))
    have HROW := qH (row_cleared (n := n) SD.out (k := q) (cap := cap) (by rw [SL1.out]; exact Nat.le_of_lt HQN.out) (Nat.le_of_lt (Nat.lt_of_lt_of_le HQN.out HCAP.out)) HM.out (List.replicate (n - q) (Value.int .u8 0)))
    have HGR := qH (grown_setCells GD.out q (List.replicate (n - q) (Value.int .u8 0)))
    go_wp2_with fail
    go_ret
    refine ⟨_, l1.take q, rfl, HROW.out, fun c => ?_, HGR.out, rfl, by rw [List.length_take, CP.out.len]; exact Nat.min_le_right _ _⟩
    rw [CP.out.same c, HME.out, List.take_of_length_le (Nat.le_of_eq SL.out)]
 ·obtain rfl : k = n := Nat.le_antisymm HKN.out (Nat.le_of_not_lt hlt)
  have y1 : ¬ ((k : Int) < (k : Int)) := Int.lt_irrefl _
  have HROW := qH (SD.out.row (n := k) (k := k) (Nat.le_of_eq SL.out.symm) HCAP.out HM.out)
  clear hlt
  go_wp2_with fail
  go_ret
  refine ⟨_, l.take k, rfl, HROW.out, fun c => by rw [List.take_of_length_le (Nat.le_of_eq SL.out)], GD.out, rfl, by rw [List.length_take]; exact Nat.min_le_right _ _⟩
def putV (vf : Nat → Value) (s : Nat) (v : Value) : Nat → Value := fun i => if i = s then v else vf i
theorem putV_at (vf : Nat → Value) (s : Nat) (v : Value) : putV vf s v s = v := if_pos rfl
theorem putV_ne {vf : Nat → Value} {s i : Nat} {v : Value} (h : i ≠ s) : putV vf s v i = vf i := if_neg h
theorem map_putV (vf : Nat → Value) (s : Nat) (v : Value) (n : Nat) : ((List.range n).map vf).set s v = (List.range n).map (putV vf s v) := by
 apply List.ext_getElem?
 intro i
 by_cases hi : i < n
 ·by_cases he : s = i
  ·subst he
   rw [List.getElem?_set_self (by simp [hi])]
   simp [hi, putV_at]
  ·rw [List.getElem?_set_ne he]
   simp [hi, putV_ne (Ne.symm he)]
 ·rw [List.getElem?_eq_none (by simp; omega), List.getElem?_eq_none (by simp; omega)]
def putL (L : Nat → List Int) (s : Nat) (l : List Int) : Nat → List Int := fun i => if i = s then l else L i
theorem putL_at (L : Nat → List Int) (s : Nat) (l : List Int) : putL L s l s = l := if_pos rfl
theorem putL_ne {L : Nat → List Int} {s i : Nat} {l : List Int} (h : i ≠ s) : putL L s l i = L i := if_neg h
theorem own_mono {w : World} {B B' : Nat} {e : TypeId} {v : Value} {n k : Nat} {xs : List Value} (h : w.ownsRow B' e k v n xs) (hB : B ≤ B') : w.ownsRow B e k v n xs := by
 refine ⟨h.1, ?_⟩
 rcases h.2 with h0 | ⟨g, cap, cur, rfl, hb, h3⟩
 ·exact .inl h0
 ·exact .inr ⟨g, cap, cur, rfl, Nat.le_trans hB hb, h3⟩
theorem ownC_slice {w : World} {base : Nat} {e : TypeId} {v : Value} {n : Nat} {xs : List Value} (h : w.ownsRow base e 1 v n xs) : ∃ A c, v = .slice A n c := by
 rcases h.2 with ⟨rfl, h0⟩ | ⟨g, cap, cur, rfl, _⟩
 ·exact ⟨none, 0, by rw [h0]⟩
 ·exact ⟨_, _, rfl⟩
structure Fam (w : World) (Bt Br g cap n m : Nat) (vf : Nat → Value) (L : Nat → List Int) : Prop where
 top : w.ownsRow Bt 41 1 (.slice (some ⟨g, 0, none⟩) n cap) n ((List.range n).map vf)
 row : ∀ i, i < m → w.ownsRow Br 3 1 (vf i) (L i).length (nums .i64 (L i))
 ng : ∀ i, i < m → (vf i).ownBlock ≠ some g
 inj : ∀ i j, i < m → j < m → i ≠ j → ∀ k, (vf i).ownBlock = some k → (vf j).ownBlock ≠ some k
section
variable {w w' : World} {Bt Br g cap n m : Nat} {vf : Nat → Value} {L : Nat → List Int}
theorem Fam.stay (h : Fam w Bt Br g cap n m vf L) (hg : w'.heap[g]? = w.heap[g]?) (hr : ∀ i k, i < m → (vf i).ownBlock = some k → w'.heap[k]? = w.heap[k]?) : Fam w' Bt Br g cap n m vf L :=
 ⟨own6_stay h.top fun j hj => by
  have e : some g = some j := hj
  rw [← Option.some.inj e]
  exact hg, fun i hi => own6_stay (h.row i hi) fun j hj => hr i j hi hj, h.ng, h.inj⟩
theorem Fam.glt (h : Fam w Bt Br g cap n m vf L) : g < w.heap.size ∧ Bt ≤ g := own6_lt h.top g rfl
theorem Fam.below (h : Fam w Bt Br g cap n m vf L) (hb : Below w.heap.size w w') : Fam w' Bt Br g cap n m vf L :=
 h.stay (hb.block g h.glt.1) fun i k hi hk => hb.block k (own6_lt (h.row i hi) k hk).1
theorem Fam.rowV (h : Fam w Bt Br g cap n m vf L) : Row w (.slice (some ⟨g, 0, none⟩) n cap) ((List.range n).map vf) := Row.of_own h.top
theorem Fam.cell (h : Fam w Bt Br g cap n m vf L) {i : Nat} (hi : i < n) : w.cell? ⟨g, i, none⟩ = some (vf i) := (own_cell h.top (j := i) (u := vf i) (by simp [hi])).1
theorem Fam.frozen (h : Fam w Bt Br g cap n m vf L) {i : Nat} (hi : i < n) : w.frozen? ⟨g, i, none⟩ = false := (own_cell h.top (j := i) (u := vf i) (by simp [hi])).2
theorem Fam.slice (h : Fam w Bt Br g cap n m vf L) {i : Nat} (hi : i < m) : ∃ A c, vf i = .slice A (L i).length c := by
 obtain ⟨A, c, hv, _⟩ := Row.of_own (h.row i hi)
 rw [nums_length] at hv
 exact ⟨A, c, hv⟩
theorem Fam.put (h : Fam w Bt Br g cap n m vf L) {s : Nat} (hs : s < n) {m' : Nat} (hm' : ∀ i, i < m' → i = s ∨ i < m) {v : Value} {l : List Int}
  (ho : w'.ownsRow Br 3 1 v l.length (nums .i64 l)) (hgr : ∀ k, k < w.heap.size → (∀ q, (q = k → q < w.heap.size → (s < m ∧ (vf s).ownBlock = some q) → False) ∧ True) → w'.heap[k]? = w.heap[k]?) (hsz : w.heap.size ≤ w'.heap.size)
  (hnew : ∀ k, v.ownBlock = some k → (s < m ∧ (vf s).ownBlock = some k) ∨ w.heap.size ≤ k) : Fam (w'.setCell ⟨g, s, none⟩ v) Bt Br g cap n m' (putV vf s v) (putL L s l) := by
 have hg := h.glt
 have hgs : ¬ (s < m ∧ (vf s).ownBlock = some g) := fun e => h.ng s e.1 e.2
 have hng : v.ownBlock ≠ some g := fun e => by
  rcases hnew g e with e1 | e1
  ·exact hgs e1
  ·omega
 have hkeep : ∀ i, i < m → i ≠ s → ∀ k, (vf i).ownBlock = some k → (w'.setCell ⟨g, s, none⟩ v).heap[k]? = w.heap[k]? := fun i hi hne k hk => by
  rw [Below.heap_setCell w' ⟨g, s, none⟩ v k (fun e => h.ng i hi (by rw [hk]; exact congrArg some e))]
  refine hgr k (own6_lt (h.row i hi) k hk).1 fun q => ⟨fun hq _ e => ?_, trivial⟩
  subst hq
  exact h.inj i s hi e.1 hne q hk e.2
 refine ⟨?_, fun i hi => ?_, fun i hi => ?_, fun i j hi hj hij k hk => ?_⟩
 ·have h1 : w'.ownsRow Bt 41 1 (.slice (some ⟨g, 0, none⟩) n cap) n ((List.range n).map vf) := own6_stay h.top fun j hj => by
   have e : some g = some j := hj
   have e2 := Option.some.inj e
   subst e2
   refine hgr g hg.1 fun q => ⟨fun hq _ e3 => ?_, trivial⟩
   subst hq
   exact hgs e3
  have h2 := own_set h1 (j := s) (by simp [hs]) v
  rw [map_putV] at h2
  exact h2
 ·by_cases hne : i = s
  ·subst hne
   rw [putV_at, putL_at]
   exact own6_stay ho fun j hj => Below.heap_setCell w' ⟨g, i, none⟩ v j (fun e => hng (by rw [hj]; exact congrArg some e))
  ·rw [putV_ne hne, putL_ne hne]
   have him : i < m := by rcases hm' i hi with e | e; exact absurd e hne; exact e
   exact own6_stay (h.row i him) fun j hj => hkeep i him hne j hj
 ·by_cases hne : i = s
  ·rw [hne, putV_at]; exact hng
  ·rw [putV_ne hne]
   have him : i < m := by rcases hm' i hi with e | e; exact absurd e hne; exact e
   exact h.ng i him
 ·by_cases hi2 : i = s
  ·have hj2 : j ≠ s := fun e => hij (by rw [hi2, e])
   have hjm : j < m := by rcases hm' j hj with e | e; exact absurd e hj2; exact e
   rw [hi2, putV_at] at hk
   rw [putV_ne hj2]
   rcases hnew k hk with e | e
   ·exact fun e2 => h.inj s j e.1 hjm (Ne.symm hj2) k e.2 e2
   ·exact fun e2 => by have := (own6_lt (h.row j hjm) k e2).1; omega
  ·have him : i < m := by rcases hm' i hi with e | e; exact absurd e hi2; exact e
   rw [putV_ne hi2] at hk
   by_cases hj2 : j = s
   ·rw [hj2, putV_at]
    intro e2
    rcases hnew k e2 with e | e
    ·exact h.inj s i e.1 him (Ne.symm hi2) k e.2 hk
    ·have := (own6_lt (h.row i him) k hk).1; omega
   ·have hjm : j < m := by rcases hm' j hj with e | e; exact absurd e hj2; exact e
    rw [putV_ne hj2]
    exact h.inj i j him hjm hij k hk
theorem Fam.push (h : Fam w Bt Br g cap n m vf L) {s : Nat} (hs : s < n) (hsm : s < m) {v : Value} {x : Int}
  (ho : w'.ownsRow Br 3 1 v (L s ++ [x]).length (nums .i64 (L s ++ [x]))) (hg : w.grownBy w' (vf s).ownBlock) (hw : ∀ k, v.ownBlock = some k → (vf s).ownBlock = some k ∨ w.heap.size ≤ k) :
  Fam (w'.setCell ⟨g, s, none⟩ v) Bt Br g cap n m (putV vf s v) (putL L s (L s ++ [x])) :=
 h.put hs (fun i hi => .inr hi) ho (fun k hk hn => hg.block k hk fun e => (hn k).1 rfl hk ⟨hsm, e.symm⟩) hg.size fun k hk => by
  rcases hw k hk with e | e
  ·exact .inl ⟨hsm, e⟩
  ·exact .inr e
theorem Fam.next (h : Fam w Bt Br g cap n m vf L) (hm : m < n) {v : Value} {l : List Int} (ho : w'.ownsRow w.heap.size 3 1 v l.length (nums .i64 l)) (hb : Below w.heap.size w w') (hB : Br ≤ w.heap.size) :
  Fam (w'.setCell ⟨g, m, none⟩ v) Bt Br g cap n (m + 1) (putV vf m v) (putL L m l) :=
 h.put hm (fun i hi => by omega) (own_mono ho hB) (fun k hk _ => hb.block k hk) hb.size fun k hk => .inr (own6_lt ho k hk).2
end
theorem Fam.made {w : World} {B Br g n : Nat} (h : Blk w g 41 (List.replicate n (.slice none 0 0))) (hB : B ≤ g) (hn : n ≤ 1048576) : Fam w B Br g n n n (fun _ => .slice none 0 0) (fun _ => []) := by
 refine ⟨?_, fun i _ => ownC_nil w Br _, fun i _ e => (by cases (show (none : Option Nat) = some g from e)), fun i j _ _ _ k hk => (by cases (show (none : Option Nat) = some k from hk))⟩
 have h1 := h.own hB (by rw [List.length_replicate]; unfold maxLen; omega)
 simp only [List.length_replicate] at h1
 rwa [show (List.range n).map (fun _ => Value.slice none 0 0) = List.replicate n (.slice none 0 0) by rw [List.map_const', List.length_range]]
def LnkV (w : World) (v : Value) (n : Nat) (L : Nat → List Int) : Prop :=
 ∃ vf : Nat → Value, Row w v ((List.range n).map vf) ∧ ∀ i, i < n → Row w (vf i) (nums .i64 (L i))
theorem LnkV.below {w w' : World} {v : Value} {n : Nat} {L : Nat → List Int} (h : LnkV w v n L) (hb : Below w.heap.size w w') : LnkV w' v n L := by
 obtain ⟨vf, h1, h2⟩ := h
 exact ⟨vf, h1.below hb, fun i hi => (h2 i hi).below hb⟩
theorem Fam.lnk {w : World} {Bt Br g cap n : Nat} {vf : Nat → Value} {L : Nat → List Int} (h : Fam w Bt Br g cap n n vf L) : LnkV w (.slice (some ⟨g, 0, none⟩) n cap) n L :=
 ⟨vf, h.rowV, fun i hi => Row.of_own (h.row i hi)⟩
theorem LnkV.congr {w : World} {v : Value} {n : Nat} {L L' : Nat → List Int} (h : LnkV w v n L) (he : ∀ i, i < n → L i = L' i) : LnkV w v n L' := by
 obtain ⟨vf, h1, h2⟩ := h
 exact ⟨vf, h1, fun i hi => by rw [← he i hi]; exact h2 i hi⟩
theorem dat_own {w : World} {B n cap g : Nat} {l : List UInt8} (h : w.ownsRow B 5 1 (.slice (some ⟨g, 0, none⟩) n cap) n (bvs l)) : ∃ zs, Dat w g zs l ∧ l.length = n ∧ n ≤ cap ∧ cap ≤ maxLen ∧ B ≤ g := by
 have hl : l.length = n := by have := h.1; rw [bvs_length] at this; omega
 rcases h.2 with ⟨he, _⟩ | ⟨g', cap', cur, he, hb, hg, hnc, hcm, hcs, ht⟩
 ·cases he
 ·injection he with h1 h2 h3
  injection h1 with h1
  injection h1 with h1
  subst h1
  subst h3
  refine ⟨cur.toList.drop (n * 1), ?_, hl, hnc, hcm, hb⟩
  unfold Dat Blk
  rw [← ht, List.take_append_drop]
  simpa using hg
set_option maxHeartbeats 8000000 in
set_option maxRecDepth 1000000 in
theorem mUsed_any (D : Dm) (cs : List Value) (w : World) (hv : DfaV w cs D) :
  Calls Try.prog 40 #[.agg cs.toArray] w fun e w' => ∃ (v : Value) (l : List UInt8), e = .returned v ∧ Row w' v (bvs l) ∧ (∀ c, c ∈ l ↔ c ∈ D.cl) ∧ Below w.heap.size w w' ∧ (∀ k, v.ownBlock = some k → w.heap.size ≤ k) ∧ l.length ≤ 256 := by
 have HDS := qH hv.size
 obtain ⟨An, Ae, cn, ce, vf, hl, hcs, hn, hr, he⟩ := hv.form
 have HL := qH hl
 have HCS := qH hcs
 clear hv hl hcs hn hr he
 go_enter Try.func40, Try.ntmps40
 go_wp2_with ((with_reducible refine atDst 1 ?_); refine wpList_box rfl 28 _ rfl cs rfl (Below.refl w.heap.size w) (Nat.le_refl _) ?_; intro w1 hk1 hb1 hs1 _; have K1 := qH hk1; have B1 := qH hb1; clear hk1 hb1 hs1; (try simp only [Act.put, qA, qB, qC]))
 refine (cloneBytes_any _ (bvs D.cl) w1 (cls_row (vn := .slice An D.next.length cn) (ve := .slice Ae D.ends.length ce) (by rw [← HCS.out]; exact K1.out) HL.out) (bvs_one _) (by rw [bvs_length, HL.out]; decide)).mono ?_
 rintro e w2 ⟨u, rfl, ho, hb⟩
 rw [bvs_length, HL.out] at ho
 obtain ⟨g, cap, rfl, _⟩ := own_form ho (by decide)
 obtain ⟨zs, hd, hl, hcap, hcm, hB⟩ := dat_own ho
 have HD := qH hd
 have HLN := qH hl
 have HCAP := qH hcap
 have HCM := qH hcm
 have B2 := qH (B1.out.trans (hb.mono B1.out.size))
 have HGB := qH (show w.heap.size ≤ g from Nat.le_trans B1.out.size hB)
 clear ho hb hd hl hcap hcm hB
 go_wp2_with fail
 refine (sortY_any g 256 cap zs D.cl w2 HLN.out (by decide) HD.out).mono ?_
 rintro e w3 ⟨rfl, hs⟩
 obtain ⟨⟨l3, hp, hd3⟩, hg3⟩ := hs
 have HD3 := qH hd3
 have HL3 := qH (show l3.length = 256 by rw [hp.length_eq]; exact HLN.out)
 have HP := qH hp
 have HG3 := qH hg3
 clear hp hd3 hg3
 go_wp2_with fail
 refine (cmpY_any g 256 cap zs l3 w3 HL3.out (by decide) (by decide) HD3.out HCAP.out HCM.out).mono ?_
 rintro e w4 ⟨v, l', rfl, hr, hm, hg, hvo, hle⟩
 have HR := qH hr
 have HM := qH hm
 have HG := qH hg
 have HVO := qH hvo
 have HLE := qH (show l'.length ≤ 256 by rw [← HL3.out]; exact hle)
 clear hr hm hg hvo hle
 go_wp2_with fail
 go_ret
 refine ⟨v, l', rfl, HR.out, fun c => by rw [HM.out, HP.out.mem_iff], ?_, fun k hk => by
  rw [HVO.out] at hk
  rw [← Option.some.inj hk]
  exact HGB.out, HLE.out⟩
 have hg := grownS_trans HG3.out HG.out
 refine B2.out.trans ⟨hg.os, hg.tape, hg.output, hg.size, fun k hk => hg.block k (Nat.lt_of_lt_of_le hk B2.out.size) fun e => by have h1 := Option.some.inj e; have h2 := HGB.out; omega⟩
end Go.Proofs.Ytbbodfpnneifgaa
