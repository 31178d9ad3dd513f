/-
  Texts of this proof, put together: SbO, RegL, SbP. No statement is proved here.
-/
import Derived.Test.YteadghoojeehlaaGreatDoorWP
import Derived.Test.YteadghoojeehlaaGreatDoorWD
namespace Go.Proofs.YteadghoojeehlaaGreatDoor
open Go.RowKit
set_option linter.unusedSimpArgs false
set_option linter.unusedVariables false
section
variable {P : Program} {w : World} {ops : Array Oper} {rest : List Oper} {o : Oper} {a : Act} {Q : Exit → Act → World → Prop}
theorem made_grs (n : Nat) : madeCells (gds fun _ => false).toArray (n * 32) = (grs (List.replicate n fun _ => false)).toArray := by
 apply Array.ext'
 simp only [madeCells, Array.toList_map, Array.toList_range]
 induction n with
 | zero => simp [grs]
 | succ n ih =>
  rw [show (n + 1) * 32 = n * 32 + 32 from by omega, List.range_add, List.map_append, ih, List.replicate_succ', grs_append]
  congr 1
  have e : grs [fun _ => false] = gds fun _ => false := by simp [grs]
  rw [e]
  apply List.ext_getElem
  ·simp [gds_length]
  ·intro j h1 h2
   have hj : j < 32 := by simpa using h1
   have hm : (n * 32 + j) % 32 = j := by omega
   simp [gds, hm, hj]
theorem wpList_mkGr (hg : o.guard = none) (l c : Operand) (t : TypeId) (hop : o.op = Op.makeSlice t l c)
  (e : TypeId) (i : TypeInfo) (h1 : P.underlying t = some (.slice e)) (h2 : P.info? e = some i) (h3 : i.zero = some (.agg (gds fun _ => false).toArray)) (h4 : i.size = 32) (h5 : i.bytes = 256)
  (n : Nat) (hl : a.eval l = .int .i64 (n : Int)) (hc : a.eval c = .int .i64 (n : Int)) (hn : n ≤ 1048576)
  (hK : ∀ w', Blk w' w.heap.size e (grs (List.replicate n fun _ => false)) → Below w.heap.size w w' → w'.heap.size = w.heap.size + 1 → wpList P ops Q rest (a.put o.dst (.slice (some ⟨w.heap.size, 0, none⟩) n n)) w') :
  wpList P ops Q (o :: rest) a w := by
 refine wpList_plain hg fun K hK' => ?_
 have hrun := run_make (P := P) w t e i _ h1 h2 h3 .i64 .i64 n n (by omega) (Int.le_refl _) (by rw [h5]; omega) (by omega)
 simp only [Int.toNat_natCast, h4] at hrun
 rw [show (Value.agg (gds fun _ => false).toArray).cells = (gds fun _ => false).toArray from rfl, made_grs] at hrun
 unfold Oper.wp
 simp [execOp, hop, hl, hc, hrun, Result.andThen]
 exact hK' _ _ (hK _ (Blk.new w e _) ((Below.refl _ _).alloc (Nat.le_refl _) _) (by simp))
end
theorem cell_k {w : World} {B H g mr mn cap k : Nat} {A : Option Addr} {a z : Int} {cl : List UInt8} {sg : Value} {S : List St} {qv : Value} {Qs : List (List Int)} {Es : List Int} (M : MkV w B H g mr mn A cap a z cl k sg S qv Qs Es) : w.cell? ⟨g, 259, none⟩ = some (.int .i64 (k : Int)) := by
 have := M.blk.cell 259
 rw [mkc_k M.cl] at this
 exact this
noncomputable def sgS (S : List St) : List (List UInt8) := S.map fun s => sgL S s
theorem sgS_get {S : List St} {p : Nat} {s : St} (h : S[p]? = some s) : (sgS S)[p]? = some (sgL S s) := by simp [sgS, h]
theorem sgS_len (S : List St) : (sgS S).length = S.length := by simp [sgS]
theorem blk_range0 {w : World} {g : Nat} {t : TypeId} {cs : List Value} (h : Blk w g t cs) : w.rangeAt g 0 cs := fun j v hv => by
 rw [Nat.zero_add, h.cell]
 exact hv
theorem ris_2048 {n : Nat} {X : List Int} (h : Ris n X) (hn : n ≤ 2000) : risJ (memB X) 2048 = X := by
 have e := risJ_skip (memB X) n (2048 - n) fun j _ => by
  rw [h, memB_ris, decide_eq_false (by omega), Bool.false_and]
 rw [show n + (2048 - n) = 2048 from by omega, ← h] at e
 exact e
theorem sg_form {w : World} {H g mr mn : Nat} {sg : Value} {S : List St} (h : SgV w H g mr mn sg (sgS S)) : ∃ As cs, sg = .slice As S.length cs := by
 obtain ⟨A, cap, vf, e, _⟩ := h
 rw [sgS_len] at e
 exact ⟨A, cap, e⟩
theorem sg_at {w : World} {H g mr mn n cs : Nat} {As : Option Addr} {S : List St} (h : SgV w H g mr mn (.slice As n cs) (sgS S)) {p : Nat} {s : St} (hp : S[p]? = some s) :
  ∃ b off Ai ci, As = some ⟨b, off, none⟩ ∧ w.cell? ⟨b, off + p, none⟩ = some (.slice Ai (sgL S s).length ci) ∧ ∀ m c, (sgL S s)[m]? = some c → ∃ bi oi, Ai = some ⟨bi, oi, none⟩ ∧ bi < H ∧ bi < w.heap.size ∧ (bi ≠ g ∧ bi ≠ mr ∧ bi ≠ mn) ∧ w.cell? ⟨bi, oi + m, none⟩ = some (bv c) := by
 obtain ⟨A, cap, vf, e, h2, h3⟩ := h
 have hpl := (List.getElem?_eq_some_iff.1 hp).1
 injection e with e1 e2 e3
 obtain ⟨b, off, hA, _, _, hc⟩ := h2 (by intro e0; have := sgS_len S; rw [e0] at this; simp at this; omega)
 obtain ⟨Ai, ci, hvf, h4⟩ := h3 p _ (sgS_get hp)
 refine ⟨b, off, Ai, ci, by rw [e1, hA], by rw [hc p (by rw [sgS_len]; exact hpl), hvf], fun m c hm => ?_⟩
 obtain ⟨bi, oi, hAi, hb1, hb2, hc2⟩ := h4 (by intro e0; rw [e0] at hm; simp at hm)
 exact ⟨bi, oi, hAi, hb1.1, hb2, hb1.2, hc2 m c hm⟩
theorem cell_n {w : World} {B H g mr mn cap k : Nat} {A : Option Addr} {a z : Int} {cl : List UInt8} {sg : Value} {S : List St} {qv : Value} {Qs : List (List Int)} {Es : List Int} (M : MkV w B H g mr mn A cap a z cl k sg S qv Qs Es) : w.cell? ⟨g, 0, none⟩ = some (.slice A S.length cap) := by
 have := M.blk.cell 0
 rw [mkc_0] at this
 exact this
theorem cell_sg {w : World} {B H g mr mn cap k : Nat} {A : Option Addr} {a z : Int} {cl : List UInt8} {sg : Value} {S : List St} {qv : Value} {Qs : List (List Int)} {Es : List Int} (M : MkV w B H g mr mn A cap a z cl k sg S qv Qs Es) : w.cell? ⟨g, 260, none⟩ = some sg := by
 have := M.blk.cell 260
 rw [mkc_sg M.cl] at this
 exact this
theorem cell_cl {w : World} {B H g mr mn cap k x : Nat} {A : Option Addr} {a z : Int} {cl : List UInt8} {sg : Value} {S : List St} {qv : Value} {Qs : List (List Int)} {Es : List Int} (M : MkV w B H g mr mn A cap a z cl k sg S qv Qs Es) (hx : x < 256) : w.cell? ⟨g, 3 + x, none⟩ = (bvs cl)[x]? := by
 have := M.blk.cell (3 + x)
 rw [mkc_cl M.cl hx] at this
 exact this
theorem row_set {A : List Int} {k c : Nat} (hA : A.length = c) (hc : c < k) (v : Int) : (nums .i64 (A ++ List.replicate (k - c) 0)).set c (.int .i64 v) = nums .i64 ((A ++ [v]) ++ List.replicate (k - (c + 1)) 0) := by
 have e : k - c = (k - (c + 1)) + 1 := by omega
 rw [e, List.replicate_succ, nums_append, nums_append, nums_append, List.append_assoc]
 have hl : (nums .i64 A).length = c := by rw [nums_length, hA]
 rw [List.set_append_right _ _ (by omega), hl, Nat.sub_self]
 rfl
theorem row_get {A : List Int} {k c : Nat} (hA : A.length = c) (hc : c < k) : (nums .i64 (A ++ List.replicate (k - c) 0))[c]? = some (.int .i64 0) := by
 have e : k - c = (k - (c + 1)) + 1 := by omega
 have hl : (nums .i64 A).length = c := by rw [nums_length, hA]
 rw [e, List.replicate_succ, nums_append, List.getElem?_append_right (by omega), hl, Nat.sub_self]
 rfl
theorem rowI_next {Qs F : List (List Int)} {c : Nat} {Y : List Int} (h : F[c]? = some Y) : extL Qs (F.take (c + 1)) = extL (extL Qs (F.take c)) [Y] ∧
  rowI (extL Qs (F.take (c + 1))) (F.take (c + 1)) = rowI (extL Qs (F.take c)) (F.take c) ++ [(ixOf (extL (extL Qs (F.take c)) [Y]) Y : Int)] := by
 have e := extL_take (L := Qs) h
 refine ⟨e, ?_⟩
 obtain ⟨hc, rfl⟩ := List.getElem?_eq_some_iff.1 h
 obtain ⟨M, hM⟩ := extL_pre [F[c]] (extL Qs (F.take c))
 rw [e]
 conv => lhs; rw [List.take_succ_eq_append_getElem hc]
 unfold rowI
 rw [List.map_append, List.map_singleton]
 congr 1
 refine List.map_congr_left fun x hx => ?_
 rw [hM, idx_app ((extL_mem _ _).2 (.inr hx))]
theorem lt_2k {i n : Nat} (h : i < n) (hn : n ≤ 2000) : i ≤ 4611686018427387904 := by omega
set_option maxHeartbeats 8000000 in
set_option maxRecDepth 1000000 in
theorem mRow_any (w0 : World) {H g mr mn cap : Nat} {A : Option Addr} {a z : Int} {sg : Value} {S : List St} {qv : Value} {Qs : List (List Int)} {Es : List Int} (X : List Int) (w : World)
  (hv : NfaV w0 (nfc A S.length cap a z) S a z) (hmy : MayN S a z) (hlo : ∀ s ∈ S, -9223372036854775808 ≤ s.to) (hT : Tb w0) (hb : Below w0.heap.size w0 w)
  (hm : MkV w w0.heap.size H g mr mn A cap a z (ctab (setsN S) 256) (fbN S).length sg S qv Qs Es) (hg : SgV w H g mr mn sg (sgS S)) (hX : Ris S.length X) (hQ : Qs.length ≤ 90000) :
  Calls Tryz.prog 22 #[.pointer (some ⟨g, 0, none⟩), gkey X] w fun e w' => ∃ h, e = .returned (.slice (some ⟨h, 0, none⟩) (fbN S).length (fbN S).length) ∧ Blk w' h 3 (nums .i64 (rowI (extL Qs (sucN S X)) (sucN S X))) ∧ w.heap.size ≤ h ∧
   ∃ qv' Es', MkV w' w0.heap.size H g mr mn A cap a z (ctab (setsN S) 256) (fbN S).length sg S qv' (extL Qs (sucN S X)) Es' ∧ MStep w w' g mr mn qv qv' ∧ qv'.ownBlock ≠ some h := by
 have V := qH hv
 have HM := qH hmy
 have HLO := qH hlo
 have HT := qH hT
 have HB0 := qH hb
 have M0 := qH hm
 have SG0 := qH hg
 have HRX := qH hX
 have HQL := qH hQ
 obtain ⟨i3, hi3, hz3, hs3, hy3⟩ := infoP inf_group
 obtain ⟨zg, hzg⟩ : ∃ zg, zg = gds (fun _ => false) := ⟨_, rfl⟩
 have HZ3 := qH (show i3.zero = some (.agg zg.toArray) by rw [hzg]; exact hz3)
 have HZ3' := qH hz3
 have HZL := qH (show zg.length = 32 by rw [hzg]; exact gds_length _)
 obtain ⟨gx, hgx⟩ : ∃ gx, gx = gds (memB X) := ⟨_, rfl⟩
 have HGX := qH hgx
 have HKX := qH (show gkey X = .agg gx.toArray by rw [hgx]; rfl)
 obtain ⟨i1, hi1, hy0, hy1, hy2⟩ := infoP inf_int
 have HFB := qH (fbN_len S)
 obtain ⟨k, hk⟩ : ∃ k, k = (fbN S).length := ⟨_, rfl⟩
 have HK := qH hk
 rw [← hk] at M0 HFB ⊢
 obtain ⟨cl, hcl⟩ : ∃ cl, cl = ctab (setsN S) 256 := ⟨_, rfl⟩
 have HCL := qH hcl
 rw [← hcl] at M0 ⊢
 rw [HKX.out]
 clear hv hmy hlo hT hb hm hg hX hQ hgx hzg hk hcl hz3
 go_enter Tryz.func22, Tryz.ntmps22
 go_wp2_with (first
  | ((with_reducible refine atDst 3 ?_); refine wpList_box rfl 67 _ rfl gx rfl (Below.refl w.heap.size w) (Nat.le_refl _) ?_; intro w1 hk1 hb1 hs1 _; have K1 := qH (show Blk w1 w.heap.size 67 (gds (memB X)) by rw [← HGX.out]; exact hk1); have B1 := qH hb1; have M1 := qH (M0.out.below hb1); have c259 := cell_k (M0.out.below hb1); clear hk1 hb1 hs1; (try simp only [Act.put, qA, qB, qC]))
  | ((with_reducible refine atDst 18 ?_); refine wpList_mkGr rfl (.tmp 17) (.tmp 17) 61 rfl 67 i3 Tryz.underlying61 hi3 HZ3'.out hs3 hy3 k rfl rfl (by have := HFB.out; omega) ?_; intro w2 hk2 hb2 hs2; have K2 := qH hk2; have B2 := qH hb2; clear hk2 hb2 hs2 c259; (try simp only [Act.put, qA, qB, qC])))
 have B12 := qH (B1.out.trans (B2.out.mono B1.out.size))
 have HP2 := qH (K1.out.below B2.out K1.out.lt)
 have M2 := qH (M1.out.below B2.out)
 have HB2 := qH (HB0.out.trans (B12.out.mono HB0.out.size))
 have HT2 := qH (HT.out.belowG HB2.out HT.out.lt)
 have S1 := qH (show w.heap.size < w1.heap.size from K1.out.lt)
 have S2 := qH (show w1.heap.size < w2.heap.size from K2.out.lt)
 refine (gStates_any (memB X) w.heap.size 0 w2 HP2.out.lt (blk_range0 HP2.out) HT2.out).mono ?_
 rintro e w3 ⟨v3, rfl, ho3, hb3⟩
 rw [ris_2048 HRX.out HM.out.few] at ho3
 have B3 := qH hb3
 have M3 := qH (M2.out.below hb3)
 have HK3 := qH (K2.out.below hb3 K2.out.lt)
 have HB3 := qH (HB2.out.trans (hb3.mono HB2.out.size))
 have SG3 := qH (SG0.out.stay (Nat.le_trans B12.out.size hb3.size) fun j hj _ _ _ => ((B12.out.trans (hb3.mono B12.out.size)).block j (Nat.lt_of_lt_of_le hj M0.out.hs)))
 have R3 := qH (Row.of_own ho3)
 have HAB := qH (own_above ho3)
 obtain ⟨A3, c3, rfl, _⟩ := Row.of_own ho3
 obtain ⟨nx, hnx⟩ : ∃ nx, nx = X.length := ⟨_, rfl⟩
 have HNX := qH hnx
 rw [nums_length, ← hnx] at R3 HAB ⊢
 have HNL := qH (show nx ≤ 2000 by rw [hnx]; have h1 := ris_len HRX.out; have h2 := HM.out.few; omega)
 obtain ⟨As, csg, rfl⟩ := sg_form SG0.out
 have HMD := qH (show ∀ j, Md g mr mn qv j → j < w.heap.size from fun j hj => M0.out.lts hj)
 have HNH := qH (show ¬ Md g mr mn qv w1.heap.size from fun h => by have h1 := HMD.out _ h; have h2 := S1.out; omega)
 clear ho3 hb3 hnx
 go_wp2_with fail
 go_loopw [21] (fun iv wl => ∃ (j : Nat) (Es' : List Int), j ≤ nx ∧ iv = .int .i64 (j : Int) ∧ MkV wl w0.heap.size H g mr mn A cap a z cl k (.slice As S.length csg) S qv Qs Es' ∧ Blk wl w1.heap.size 67 (grs (tsJ S X j)) ∧ MO (fun b => b = w1.heap.size) w3 wl g mr mn qv qv) (fun iv _ => nx - (intOf iv).toNat)
 case atStart => exact ⟨0, Es, Nat.zero_le _, by simp, M3.out, by rw [tsJ_zero, ← HK.out]; exact HK3.out, MO.refl _ _ _ _ _ _⟩
 case round =>
  obtain ⟨j, Es', hj, rfl, hm, hk, ho⟩ := hrel
  have MJ := qH hm
  have KJ := qH hk
  have OJ := qH ho
  clear hm hk ho
  obtain ⟨wq, hwq⟩ : ∃ v : World, v = wr := ⟨_, rfl⟩
  subst hwq
  by_cases hjl : j < nx
  ·have x1 : (j : Int) < (nx : Int) := Int.ofNat_lt.2 hjl
   have HJ := qH hjl
   have HMN := qH (sub_next hjl)
   obtain ⟨x, hx⟩ : ∃ x, X[j]? = some x := ⟨_, List.getElem?_eq_getElem (by rw [← HNX.out]; exact hjl)⟩
   obtain ⟨p, rfl, hp⟩ := ris_rng HRX.out (List.mem_of_getElem? hx)
   obtain ⟨s, hs⟩ : ∃ s, S[p]? = some s := ⟨_, List.getElem?_eq_getElem hp⟩
   have HX := qH hx
   have HS := qH hs
   have HPN := qH hp
   obtain ⟨b3, o3, rfl, hl3, hc3⟩ := R3.out.at_ (by rw [nums_length, ← HNX.out]; exact Nat.lt_of_le_of_lt (Nat.zero_le _) hjl)
   have hb3 := HAB.out b3 rfl
   have hcx := OJ.out.cell hl3 (fun h => Nat.lt_irrefl _ (Nat.lt_of_lt_of_le (HMD.out _ h) (Nat.le_trans (Nat.le_of_lt (Nat.lt_trans S1.out S2.out)) hb3))) (Nat.ne_of_gt (Nat.lt_of_lt_of_le S2.out hb3)) (hc3 j (.int .i64 (p : Int)) (by simp [nums, hx]))
   have HBQ := qH (show Below w0.heap.size w0 wq from HB3.out.trans (OJ.out.off.below (fun k hk => by
    rcases hk with h | h
    ·exact M0.out.md M0.out.bh h
    ·rw [h]; exact Nat.le_trans HB0.out.size (Nat.le_of_lt S1.out)) HB3.out.size))
   obtain ⟨b, off, rfl, hlt, _, hto, _⟩ := (V.out.below HBQ.out).at_ hs
   have HTO := qH hto
   have c0 := cell_n MJ.out
   have hpn : (p : Int) < (S.length : Int) := Int.ofNat_lt.2 hp
   obtain ⟨to, hto2⟩ : ∃ to, to = s.to := ⟨_, rfl⟩
   have HTV := qH hto2
   rw [← hto2] at hto
   have HRT := qH (show -9223372036854775808 ≤ to ∧ to ≤ 9223372036854775807 by
    rw [hto2]
    have h1 := HLO.out s (List.mem_of_getElem? hs)
    have h2 := HM.out.to s (List.mem_of_getElem? hs)
    have h3 := HM.out.few
    omega)
   clear hj hjl hx hs hp hl3 hc3 hb3 hlt hto2
   go_wp2_with fail
   refine (mReach_any w0 to wq V.out HM.out HBQ.out MJ.out HRT.out).mono ?_
   rintro e w4 ⟨rfl, Es2, hm4, hs4⟩
   have M4 := qH hm4
   have O4 := qH (OJ.out.step hs4)
   have K4 := qH (show Blk w4 w1.heap.size 67 (grs (tsJ S X j)) from Off.blk hs4.off HNH.out KJ.out)
   obtain ⟨gu, hgu⟩ : ∃ gu, gu = gds (memB (clsN S [to])) := ⟨_, rfl⟩
   have HGU := qH hgu
   have HKU := qH (show gkey (clsN S [to]) = .agg gu.toArray by rw [hgu]; rfl)
   have HSU := qH (show (Tryz.prog.info? 67).map (·.size) = some gu.length by rw [hgu]; exact size_group _)
   have HUL := qH (show gu.length = 32 by rw [hgu]; exact gds_length _)
   have HU1 := qH (show gu.all (·.oneCell') = true by rw [hgu]; exact gds_all _)
   rw [HKU.out]
   have HP4 := qH (Nat.lt_of_lt_of_le K2.out.lt (Nat.le_trans B3.out.size (Nat.le_trans OJ.out.off.size hs4.off.size)))
   clear hm4 hs4 hgu c0 hto hcx hpn
   go_wp2_with (first
    | ((with_reducible refine atDst 8 ?_); refine wpList_new rfl 67 rfl i3 _ zg hi3 HZ3.out rfl (Below.refl w4.heap.size w4) (Nat.le_refl _) ?_; intro w5 hk hb hs _; have K5 := qH hk; have B5 := qH hb; clear hk hb hs; (try simp only [Act.put, qA, qB, qC]))
    | ((with_reducible refine atStore 67 8 35 ?_); refine wpList_stBlk rfl 67 _ _ rfl w4.heap.size gu rfl rfl 67 _ K5.out HSU.out (by rw [HZL.out, HUL.out]) HU1.out B5.out (Nat.le_refl _) ?_; intro w6 hk hb hs ho; have K6 := qH hk; have B6 := qH hb; have O6 := qH (O4.out.then hb); have M6 := qH (M4.out.below hb); have T6 := qH (K4.out.below hb K4.out.lt); have SG6 := qH (SG3.out.mo (O4.out.then hb) M3.out.hs (own4_above M3.out.queue) (fun k hk => by rw [hk]; exact M1.out.hs)); have c260 := cell_sg (M4.out.below hb); obtain ⟨bs, os, Ai, ci, rfl, hcp, hsg⟩ := sg_at SG6.out HS.out; have HSG := qH hsg; obtain ⟨nl, hnl⟩ : ∃ nl, nl = (sgL S s).length := ⟨_, rfl⟩; rw [← hnl] at hcp; have HNLL := qH hnl; have hpn : (p : Int) < (S.length : Int) := Int.ofNat_lt.2 HPN.out; clear hnl hsg hk hb hs ho; (try simp only [Act.put, qA, qB, qC])))
   have HNL2 := qH (show nl ≤ 256 by rw [HNLL.out]; exact sgL_len _ _)
   clear c260 hcp hpn
   go_loopw [44] (fun iv wl => ∃ m : Nat, m ≤ nl ∧ iv = .int .i64 (m : Int) ∧ Blk wl w1.heap.size 67 (grs (tsM S X j s m)) ∧ Off (fun b => b = w1.heap.size) w6 wl) (fun iv _ => nl - (intOf iv).toNat)
   case atStart => exact ⟨0, Nat.zero_le _, by simp, by rw [tsM_zero]; exact T6.out, Off.refl _ _⟩
   obtain ⟨m, hm, rfl, hk, ho⟩ := hrel
   have KM := qH hk
   have OM := qH ho
   clear hk ho
   obtain ⟨wm, hwm⟩ : ∃ v : World, v = wr := ⟨_, rfl⟩
   subst hwm
   by_cases hml : m < nl
   ·have y1 : (m : Int) < (nl : Int) := Int.ofNat_lt.2 hml
    have HMM := qH hml
    have HMX := qH (sub_next hml)
    obtain ⟨c, hc⟩ : ∃ c, (sgL S s)[m]? = some c := ⟨_, List.getElem?_eq_getElem (by rw [← HNLL.out]; exact hml)⟩
    have HC := qH hc
    obtain ⟨bi, oi, rfl, hbH, hbl, _, hcc⟩ := HSG.out m c hc
    have HBH := qH (show bi ≠ w1.heap.size from Nat.ne_of_lt (Nat.lt_of_lt_of_le hbH M1.out.hs))
    obtain ⟨x, hx⟩ : ∃ x, x = c.toNat := ⟨_, rfl⟩
    have HXC := qH hx
    have HX2 := qH (show x < 256 by rw [hx]; exact c.toNat_lt)
    have hcx : wm.cell? ⟨bi, oi + m, none⟩ = some (.int .u8 (x : Int)) := by rw [hx]; exact OM.out.cell hbl (fun e => HBH.out e) hcc
    obtain ⟨q, hq⟩ : ∃ q, q = clN S x := ⟨_, rfl⟩
    have HQ := qH hq
    have HQ3 := qH (show q < k by rw [hq, HK.out]; exact clN_lt HX2.out)
    have hqk : (q : Int) < (k : Int) := Int.ofNat_lt.2 HQ3.out
    have HGH := qH (show ¬ g = w1.heap.size from fun e => HNH.out (.inl e.symm))
    have hcq : wm.cell? ⟨g, 3 + x, none⟩ = some (.int .u8 (q : Int)) := by
     refine OM.out.cell M6.out.blk.lt HGH.out ?_
     rw [cell_cl M6.out HX2.out, HCL.out, bvs_get _ _ _ (ctab_at (setsN S) HX2.out), hq]
     exact congrArg some (bv_ofNat (clsOf_256 _ HX2.out))
    have x2 : (x : Int) < 256 := Int.ofNat_lt.2 HX2.out
    have f3 := wrap_one m (lt_big256 hml HNL2.out)
    have f4 := wrap_one' m (lt_big256 hml HNL2.out)
    clear hm hml hc hbH hbl hcc hx hq
    go_wp2_with fail
    obtain ⟨t, ht, hset⟩ := tsM_next (X := X) (j := j) HC.out (sgL_cls HC.out)
    rw [← HXC.out, ← HQ.out] at ht hset
    have HST := qH hset
    clear hset hcx hcq hqk x2
    refine (gJoin_any (tsM S X j s m) q t (memB (clsN S [s.to])) w1.heap.size w4.heap.size 0 67 wm KM.out ht (by rw [tsM_len, ← HK.out]; have := HFB.out; exact Nat.le_trans this (by decide)) (Off.range OM.out K6.out.lt (fun e => Nat.ne_of_gt HP4.out e) (by rw [← HTV.out, ← HGU.out]; exact blk_range0 K6.out)) (Nat.lt_of_lt_of_le K6.out.lt OM.out.size) (Nat.ne_of_gt HP4.out)).mono ?_
    rintro e w7 ⟨rfl, hk7, ho7⟩
    rw [HST.out] at hk7
    have K7 := qH hk7
    have O7 := qH (OM.out.trans ho7)
    clear hk7 ho7 ht
    go_wp2_with fail
    exact ⟨⟨m + 1, HMM.out, by congr 1, K7.out, O7.out⟩, by simpa [intOf] using HMX.out⟩
   ·obtain rfl : m = nl := Nat.le_antisymm hm (Nat.not_lt.1 hml)
    have y1 : ¬ ((m : Int) < (m : Int)) := Int.lt_irrefl _
    have KE := qH (show Blk wm w1.heap.size 67 (grs (tsJ S X (j + 1))) by
     have h1 := KM.out
     rw [HNLL.out, tsM_all HX.out HS.out] at h1
     exact h1)
    have ME := qH (M6.out.stay (w' := wm) OM.out.size fun i hi => OM.out.block i (M6.out.lts hi) (fun e => HNH.out (by rw [← e]; exact hi)))
    have OE := qH (O6.out.put OM.out (fun i hi => .inl hi))
    have e3 := wrap_one j (lt_2k HJ.out HNL.out)
    have e4 := wrap_one' j (lt_2k HJ.out HNL.out)
    clear hm hml KM
    go_wp2_with fail
    exact ⟨⟨j + 1, Es2, HJ.out, by congr 1, ME.out, KE.out, OE.out⟩, by simpa [intOf] using HMN.out⟩
  ·obtain rfl : j = nx := Nat.le_antisymm hj (Nat.not_lt.1 hjl)
   have x1 : ¬ ((j : Int) < (j : Int)) := Int.lt_irrefl _
   have KT := qH (show Blk wq w1.heap.size 67 (grs ((sucN S X).map memB)) by
    have h1 := KJ.out
    rw [HNX.out, tsJ_all HRX.out] at h1
    exact h1)
   have c259 := cell_k MJ.out
   have HKM := qH (show (k : Nat) ≤ 9223372036854775807 by have := HFB.out; omega)
   clear hj hjl KJ
   have HR1 := qH (show Blk wq w1.heap.size 67 (grs ((sucN S X).map memB)) from KT.out)
   go_wp2_with ((with_reducible refine atDst 63 ?_); refine wpList_mk wq rfl (.tmp 62) (.tmp 62) 53 rfl 3 i1 (.int .i64 0) Tryz.underlying53 hi1 hy0 hy1 rfl k .i64 .i64 _ _ rfl rfl rfl rfl (by rw [hy2]; have := HFB.out; omega) HKM.out ?_; intro w8 hk hb hs; have K8 := qH hk; have B8 := qH hb; clear hk hb hs c259; (try simp only [Act.put, qA, qB, qC]))
   have O8 := qH (show MO (fun i => w.heap.size ≤ i) w w8 g mr mn qv qv from (((((MO.refl _ w g mr mn qv).then B1.out).then B2.out).then B3.out).trans OJ.out (fun i hi => .inl (by rw [hi]; exact Nat.le_of_lt S1.out))).then B8.out)
   have M8 := qH (MJ.out.below B8.out)
   have KT8 := qH (KT.out.below B8.out KT.out.lt)
   have HTR := qH (show w1.heap.size < wq.heap.size from KT.out.lt)
   have HNR := qH (show ¬ Md g mr mn qv wq.heap.size from fun h => by have h1 := HMD.out _ h; have h2 := S1.out; have h3 := HTR.out; omega)
   have HSL := qH (show (sucN S X).length = k by rw [sucN_len, HK.out])
   obtain ⟨F, hF⟩ : ∃ F, F = sucN S X := ⟨_, rfl⟩
   have HF := qH (show ∀ Y ∈ F, Ris S.length Y from fun Y hY => by
    rw [hF] at hY
    obtain ⟨b, _, rfl⟩ := List.mem_map.1 hY
    exact ris_stp _ _ _)
   rw [← hF] at KT8 HSL
   have HFE := qH hF
   clear hF
   go_loopw [66] (fun iv wl => ∃ (c : Nat) (qv' : Value) (Es'' : List Int), c ≤ k ∧ iv = .int .i64 (c : Int) ∧ MkV wl w0.heap.size H g mr mn A cap a z cl k (.slice As S.length csg) S qv' (extL Qs (F.take c)) Es'' ∧ Blk wl wq.heap.size 3 (nums .i64 (rowI (extL Qs (F.take c)) (F.take c) ++ List.replicate (k - c) 0)) ∧ MO (fun b => b = wq.heap.size) w8 wl g mr mn qv qv') (fun iv _ => k - (intOf iv).toNat)
   case atStart => exact ⟨0, qv, Es', Nat.zero_le _, by simp, M8.out, by have h1 := K8.out; rw [show (List.replicate k (Value.int .i64 0)) = nums .i64 (rowI (extL Qs (F.take 0)) (F.take 0) ++ List.replicate (k - 0) 0) by simp [rowI, nums]] at h1; exact h1, MO.refl _ _ _ _ _ _⟩
   obtain ⟨c, qc, Ec, hc, rfl, hm, hk, ho⟩ := hrel
   have MC := qH hm
   have KC := qH hk
   have OC := qH ho
   clear hm hk ho
   obtain ⟨wc, hwc⟩ : ∃ v : World, v = wr := ⟨_, rfl⟩
   subst hwc
   by_cases hck : c < k
   ·have y1 : (c : Int) < (k : Int) := Int.ofNat_lt.2 hck
    have HCK := qH hck
    have HCX := qH (sub_next hck)
    obtain ⟨Y, hY⟩ : ∃ Y, F[c]? = some Y := ⟨_, List.getElem?_eq_getElem (by rw [HSL.out]; exact hck)⟩
    have HYR := qH (HF.out Y (List.mem_of_getElem? hY))
    have HNX2 := qH (rowI_next (Qs := Qs) hY)
    have HAL := qH (show (rowI (extL Qs (F.take c)) (F.take c)).length = c by rw [rowI_len, List.length_take, HSL.out]; exact Nat.min_eq_left (Nat.le_of_lt hck))
    have KTC := qH (show Blk wc w1.heap.size 67 (grs (F.map memB)) from OC.out.blk KT8.out HNH.out (Nat.ne_of_lt HTR.out))
    have HRG := qH (show wc.rangeAt w1.heap.size (c * 32) (gds (memB Y)) from grs_range KTC.out (by rw [List.getElem?_map, hY]; rfl))
    obtain ⟨gy, hgy⟩ : ∃ gy, gy = gds (memB Y) := ⟨_, rfl⟩
    have HKY := qH (show gkey Y = .agg gy.toArray by rw [hgy]; rfl)
    have HSY := qH (show (Tryz.prog.info? 67).map (·.size) = some gy.length by rw [hgy]; exact size_group _)
    have HYL := qH (show gy.length = 32 by rw [hgy]; exact gds_length _)
    have HY1 := qH (show gy.all (·.oneCell') = true by rw [hgy]; exact gds_all _)
    rw [← hgy] at HRG
    have HQC := qH (show (extL Qs (F.take c)).length ≤ 100000 by
     have h1 := extL_len (F.take c) Qs
     rw [List.length_take] at h1
     have h2 := HQL.out
     have h3 := HFB.out
     omega)
    have HNC := qH (OC.out.isnt K8.out.lt HNR.out)
    have f3 := wrap_one c (lt_big256 hck HFB.out)
    have f4 := wrap_one' c (lt_big256 hck HFB.out)
    clear hc hck hY hgy
    go_wp2_with (first
     | ((with_reducible refine atDst 70 ?_); refine wpList_load_mid rfl 67 _ rfl w1.heap.size (c * 32) rfl gy _ HRG.out Tryz.underlying67 rfl HSY.out ?_; (try simp only [Act.put, qA, qB, qC]))
     | ((with_reducible refine atDst 13 ?_); refine wpList_new rfl 67 rfl i3 _ zg hi3 HZ3.out rfl (Below.refl wc.heap.size wc) (Nat.le_refl _) ?_; intro w9 hk hb hs _; have K9 := qH hk; have B9 := qH hb; clear hk hb hs; (try simp only [Act.put, qA, qB, qC]))
     | ((with_reducible refine atStore 67 13 70 ?_); refine wpList_stBlk rfl 67 _ _ rfl wc.heap.size gy rfl rfl 67 _ K9.out HSY.out (by rw [HZL.out, HYL.out]) HY1.out B9.out (Nat.le_refl _) ?_; intro wA hk hb hs _; have KA := qH hk; have BA := qH hb; have MA := qH (MC.out.below hb); clear hk hb hs; (try simp only [Act.put, qA, qB, qC]))
     | ((with_reducible refine atDst 74 ?_); refine wpList_ldArr rfl 67 _ rfl wc.heap.size rfl 67 _ _ KA.out Tryz.underlying67 rfl HSY.out ?_; (try simp only [Act.put, qA, qB, qC])))
    rw [← HKY.out]
    refine (mNumber_any Y wA MA.out HYR.out HM.out.few HQC.out).mono ?_
    rintro e wB ⟨rfl, qB, hmB, hsB⟩
    have MB := qH (show MkV wB w0.heap.size H g mr mn A cap a z cl k (.slice As S.length csg) S qB (extL Qs (F.take (c + 1))) Ec by rw [HNX2.out.1]; exact hmB)
    have OB := qH ((OC.out.then BA.out).step hsB)
    have KB := qH (show Blk wB wq.heap.size 3 (nums .i64 (rowI (extL Qs (F.take c)) (F.take c) ++ List.replicate (k - c) 0)) from Off.blk hsB.off HNC.out (KC.out.below BA.out KC.out.lt))
    have hgc := KB.out.cell c
    rw [row_get HAL.out HCK.out] at hgc
    have hfz := KB.out.frozen c
    obtain ⟨ix, hix⟩ : ∃ ix, ix = ixOf (extL (extL Qs (F.take c)) [Y]) Y := ⟨_, rfl⟩
    have HIX := qH hix
    rw [← hix]
    clear hmB hsB hix
    go_wp2_with fail
    have HE := qH (show Blk (wB.setCell ⟨wq.heap.size, c, none⟩ (.int .i64 (ix : Int))) wq.heap.size 3 (nums .i64 (rowI (extL Qs (F.take (c + 1))) (F.take (c + 1)) ++ List.replicate (k - (c + 1)) 0)) from by
     have h1 := KB.out.set c (.int .i64 (ix : Int))
     rw [row_set HAL.out HCK.out] at h1
     rw [HNX2.out.2, ← HIX.out]
     exact h1)
    have ME := qH (MB.out.stay (w' := wB.setCell ⟨wq.heap.size, c, none⟩ (.int .i64 (ix : Int))) (by simp) fun i hi => Below.heap_setCell wB ⟨wq.heap.size, c, none⟩ _ i (fun e => OB.out.isnt K8.out.lt HNR.out (by rw [← show i = wq.heap.size from e]; exact hi)))
    have OE := qH (OB.out.put (Off.set wB c (.int .i64 (ix : Int)) (D := fun b => b = wq.heap.size) rfl) fun i hi => .inl hi)
    exact ⟨⟨c + 1, qB, Ec, HCK.out, by congr 1, ME.out, HE.out, OE.out⟩, by simpa [intOf] using HCX.out⟩
   ·obtain rfl : c = k := Nat.le_antisymm hc (Nat.not_lt.1 hck)
    have y1 : ¬ ((c : Int) < (c : Int)) := Int.lt_irrefl _
    have HTK := qH (show F.take c = F by rw [← HSL.out]; exact List.take_length ..)
    have ME := qH (show MkV wc w0.heap.size H g mr mn A cap a z cl c (.slice As S.length csg) S qc (extL Qs F) Ec by have h1 := MC.out; rw [HTK.out] at h1; exact h1)
    have KE := qH (show Blk wc wq.heap.size 3 (nums .i64 (rowI (extL Qs F) F)) by
     have h1 := KC.out
     rw [HTK.out, Nat.sub_self] at h1
     simpa using h1)
    have OE := qH ((O8.out.trans OC.out fun i hi => .inl (by rw [hi]; exact Nat.le_trans (Nat.le_of_lt S1.out) (Nat.le_of_lt HTR.out))).toStep fun i hi => hi)
    have HNE := qH (OC.out.isnt K8.out.lt HNR.out)
    clear hc hck MC KC
    go_wp2_with fail
    go_ret
    rw [← HFE.out]
    exact ⟨wq.heap.size, rfl, KE.out, Nat.le_trans (Nat.le_of_lt S1.out) (Nat.le_of_lt HTR.out), qc, ⟨Ec, ME.out⟩, OE.out, fun e => HNE.out (.inr (.inr (.inr e)))⟩
section
variable {P : Program} {ops : Array Oper} {Q : Exit → Act → World → Prop} {md : Region.Mode} {S : World → Prop} {n : Nat}
def wpAnyB (P : Program) (md : Region.Mode) (ops : Array Oper) (Q : Exit → Act → World → Prop) (S : World → Prop) (n : Nat) : Nat → Array Bool → Act → World → Prop
 | 0, listed, a, w => Region.ready md ops listed = [] ∧ Q .normal a w
 | fuel + 1, listed, a, w =>
  (Region.ready md ops listed = [] → Q .normal a w) ∧
  ∀ i ∈ Region.ready md ops listed, wpOp P ops Q i (fun a' w' => (i ≠ n → S w') ∧ wpAnyB P md ops Q S n fuel (listed.setIfInBounds i true) a' w') a w
theorem wpAny_of_B : ∀ (fuel : Nat) (listed : Array Bool) (a : Act) (w : World), wpAnyB P md ops Q S n fuel listed a w → wpAny P md ops Q fuel listed a w
 | 0, _, _, _, h => h
 | fuel + 1, _, _, _, h => ⟨h.1, fun i hi => wpOp_mono (fun a' w' h' => wpAny_of_B fuel _ a' w' h'.2) (h.2 i hi)⟩
def waitsFor (md : Region.Mode) (ops : Array Oper) (n i : Nat) : Bool := match ops[n]? with
 | some o => o.after.any fun e => Region.binds md e && e.on == i
 | none => true
theorem waits_not {i : Nat} (h : waitsFor md ops n i = true) {listed : Array Bool} (hi : i ∈ Region.ready md ops listed) : n ∉ Region.ready md ops listed := by
 intro hn
 obtain ⟨_, o, ho, hall⟩ := mem_ready.1 hn
 unfold waitsFor at h
 rw [ho] at h
 obtain ⟨e, he, hb⟩ := Array.any_eq_true'.1 h
 rw [Bool.and_eq_true, beq_iff_eq] at hb
 have h1 := hall e he hb.1
 have h0 := (mem_ready.1 hi).1
 rw [hb.2] at h1
 rcases Nat.lt_or_ge i listed.size with h' | h'
 ·simp [h'] at h0 h1; rw [h0] at h1; cases h1
 ·simp [Array.getElem?_eq_none h'] at h1
theorem wpAnyB_first {i : Nat} {oi : Oper} {v : Value} (hi : ops[i]? = some oi) (hsel : ∀ (j : Nat) (o : Oper) cs b, ops[j]? = some o → o.op ≠ .select cs b)
  (hQ : ∀ c a w, Q (.panic c) (a.put oi.dst v) w → Q (.panic c) a w) (hwt : waitsFor md ops n i = true) (hin : i ≠ n) :
  ∀ (fuel : Nat) (listed : Array Bool) (a : Act) (w : World),
   (∀ j oj, ops[j]? = some oj → j ≠ i → listed.getD j true = false → (∀ e ∈ oj.after, Region.binds md e = true → e.on ≠ i) → oi.apart ops oj = true) →
   i ∈ Region.ready md ops listed → YieldsIf P ops S oi v a → S w →
   wpAnyB P md ops Q S n fuel (listed.setIfInBounds i true) (a.put oi.dst v) w → wpAnyB P md ops Q S n (fuel + 1) listed a w := by
 intro fuel
 induction fuel with
 | zero =>
  intro listed a w _ hr hy hS H
  refine ⟨fun h => (by rw [h] at hr; cases hr), fun j hj => ?_⟩
  by_cases hji : j = i
  ·subst hji; exact hy.wpOp hi hS ⟨fun _ => hS, H⟩
  ·have := ready_mono hj hji
   rw [H.1] at this
   cases this
 | succ fuel ih =>
  intro listed a w hfree hr hy hS H
  refine ⟨fun h => (by rw [h] at hr; cases hr), fun j hj => ?_⟩
  by_cases hji : j = i
  ·subst hji; exact hy.wpOp hi hS ⟨fun _ => hS, H⟩
  ·have hjn : j ≠ n := fun e => waits_not hwt hr (e ▸ hj)
   have h1 := H.2 j (ready_mono hj hji)
   obtain ⟨hjun, oj, hoj, hall⟩ := mem_ready.1 hj
   have hnot : ∀ e ∈ oj.after, Region.binds md e = true → e.on ≠ i := fun e he hb heq => by
    have h1 := hall e he hb
    have h0 := (mem_ready.1 hr).1
    rw [heq] at h1
    rcases Nat.lt_or_ge i listed.size with h' | h'
    ·simp [h'] at h0 h1; rw [h0] at h1; cases h1
    ·simp [Array.getElem?_eq_none h'] at h1
   have h2 := wpOp_putIf hoj (hfree j oj hoj hji hjun hnot) (fun cs b => hsel i oi cs b hi) (fun cs b => hsel j oj cs b hoj) hQ hy h1
   have hfree' : ∀ k ok, ops[k]? = some ok → k ≠ i → (listed.setIfInBounds j true).getD k true = false →
     (∀ e ∈ ok.after, Region.binds md e = true → e.on ≠ i) → oi.apart ops ok = true := fun k ok hk hki hun hno => by
    refine hfree k ok hk hki ?_ hno
    by_cases hjk : j = k
    ·subst hjk; exact hjun
    ·rw [getD_set_ne true hjk] at hun; exact hun
   refine wpOp_mono (fun a' w' h3 => ⟨h3.2.1, ih (listed.setIfInBounds j true) a' w' hfree' (ready_mono hr (Ne.symm hji)) h3.1 (h3.2.1 hjn) ?_⟩) h2
   rw [Array.setIfInBounds_comm _ _ hji]
   exact h3.2.2
theorem sb_take {i : Nat} {oi : Oper} {v : Value} {fuel : Nat} {listed : Array Bool} {a : Act} {w : World} (hi : ops[i]? = some oi)
  (hs : Region.noSelect ops = true) (hf : Region.free md ops listed i = true) (hr : (Region.ready md ops listed).contains i = true)
  (hQ : ∀ c a w, Q (.panic c) (a.put oi.dst v) w → Q (.panic c) a w) (hw : Region.wanted oi (yielded ops a.tmps) = true) (hS : S w)
  (hy : ∀ W, S W → (execOp a.eval oi).run P W = .ok (.value v) W)
  (h : wpAnyB P md ops Q S n fuel (listed.setIfInBounds i true) (a.put oi.dst v) w) (hwt : (waitsFor md ops n i && !(i == n)) = true := by kernel_rfl) : wpAnyB P md ops Q S n (fuel + 1) listed a w := by
 rw [Bool.and_eq_true, Bool.not_eq_true', beq_eq_false_iff_ne] at hwt
 exact wpAnyB_first hi (Region.noSelect_spec hs) hQ hwt.1 hwt.2 fuel listed a w (Region.free_spec hi hf) (by simpa using hr) (.inl ⟨hw, hy⟩) hS h
theorem sb_actB {i : Nat} {o : Oper} {fuel : Nat} {listed : Array Bool} {a : Act} {w : World} (hi : ops[i]? = some o) (hr : Region.ready md ops listed = [i])
  (hw : Region.wanted o (yielded ops a.tmps) = true) (hS : S w)
  (h : ∀ K : Act → World → Prop, (∀ a' w', S w' → wpAnyB P md ops Q S n fuel (listed.setIfInBounds i true) a' w' → K a' w') → o.wp P a w K Q) :
  wpAnyB P md ops Q S n (fuel + 1) listed a w := by
 refine ⟨fun h0 => (by rw [hr] at h0; cases h0), fun j hj => ?_⟩
 rw [hr] at hj
 have hji : j = i := by simpa using hj
 subst hji
 unfold wpOp
 rw [hi]
 simp only [hw, if_true]
 exact .inl (h _ fun a' w' hx hk => ⟨fun _ => hx, hk⟩)
theorem sb_run {i : Nat} {oi : Oper} {v : Value} {fuel : Nat} {listed : Array Bool} {a : Act} {w : World} (hi : ops[i]? = some oi) (hr : Region.ready md ops listed = [i])
  (hw : Region.wanted oi (yielded ops a.tmps) = true) (hS : S w) (hy : (execOp a.eval oi).run P w = .ok (.value v) w)
  (h : wpAnyB P md ops Q S n fuel (listed.setIfInBounds i true) (a.put oi.dst v) w) : wpAnyB P md ops Q S n (fuel + 1) listed a w := by
 refine sb_actB hi hr hw hS fun K hK => ?_
 unfold Oper.wp
 rw [hy]
 exact hK _ _ hS h
theorem sb_last {o : Oper} {fuel : Nat} {listed : Array Bool} {a : Act} {w : World} (hi : ops[n]? = some o) (hr : Region.ready md ops listed = [n])
  (hw : Region.wanted o (yielded ops a.tmps) = true)
  (h : ∀ K : Act → World → Prop, (∀ a' w', wpAnyB P md ops Q S n fuel (listed.setIfInBounds n true) a' w' → K a' w') → o.wp P a w K Q) :
  wpAnyB P md ops Q S n (fuel + 1) listed a w := by
 refine ⟨fun h0 => (by rw [hr] at h0; cases h0), fun j hj => ?_⟩
 rw [hr] at hj
 have hji : j = n := by simpa using hj
 subst hji
 unfold wpOp
 rw [hi]
 simp only [hw, if_true]
 exact .inl (h _ fun a' w' hk => ⟨fun h0 => absurd rfl h0, hk⟩)
theorem wpAnyB_done {listed : Array Bool} {a : Act} {w : World} (hr : Region.ready md ops listed = []) (h : Q .normal a w) :
  ∀ fuel, wpAnyB P md ops Q S n fuel listed a w
 | 0 => ⟨hr, h⟩
 | _ + 1 => ⟨fun _ => h, by rw [hr]; simp⟩
theorem sb_start {id : Nat} {a : Act} {w : World} (S : World → Prop) (n : Nat) (hm : P.follows .mixedOrders = true)
  (h : ∀ wd, wd = w.drew → wpAnyB P .any ops Q S n ops.size (Array.replicate ops.size false) a wd) : (Code.region id ops true).wp P Q a w :=
 wp_region_any hm (wpAny_of_B _ _ _ _ (h _ rfl))
end
section
variable {P : Program} {w : World} {ops : Array Oper} {rest : List Oper} {o : Oper} {a : Act} {Q : Exit → Act → World → Prop} {K : Act → World → Prop}
theorem wpList_mkMap (hgd : o.guard = none) (t : TypeId) (ho : o.op = .makeMap t none)
  (h : ∀ w', MapV w' w.heap.size [] → Below w.heap.size w w' → w'.heap.size = w.heap.size + 1 → wpList P ops Q rest (a.put o.dst (.map (some w.heap.size))) w') : wpList P ops Q (o :: rest) a w := by
 refine wpList_plain hgd fun K hK => ?_
 unfold Oper.wp
 simp only [execOp, ho, Option.map_none, run_makeMap, Sem.run_bind, Result.andThen_ok, Sem.run_pure]
 exact hK _ _ (h _ (mapV_new w) ((Below.refl _ _).alloc (Nat.le_refl _) _) (by simp))
theorem wpList_stMidB (hgd : o.guard = none) (ty : TypeId) (x y : Operand) (ho : o.op = .store ty x y) (g off : Nat) (vs : List Value) (hx : a.eval x = .pointer (some ⟨g, off, none⟩)) (hy : a.eval y = .agg vs.toArray)
  (t : TypeId) (cs : List Value) (hg : Blk w g t cs) (hfit : off + vs.length ≤ cs.length) (hi : (P.info? ty).map (·.size) = some vs.length) (h1 : vs.all (·.oneCell') = true)
  (h : ∀ w', Blk w' g t (splice cs off vs) → w'.heap.size = w.heap.size → (∀ B w0, B ≤ g → Below B w0 w → Below B w0 w') → (∀ k, k ≠ g → w'.heap[k]? = w.heap[k]?) → wpList P ops Q rest (a.put o.dst undef) w') : wpList P ops Q (o :: rest) a w := by
 refine wpList_store_mid hgd ty x y ho g off vs.toArray hx hy (by simpa using hg.there (by simpa using hfit)) (by simpa using hi) (by simpa using h1) ?_
 exact h _ (hg.setCells hfit) (setCells_size g vs w off) (fun B w0 hB hb => below_setCells hB hb) fun k hk => setCells_other g k hk vs w off
theorem wp_bldV (t e : TypeId) (x : Operand) (ho : o.op = .buildSlice t 1 #[(0, x)]) (i : TypeInfo) (z : Value) (ht : P.underlying t = some (.slice e)) (hi : P.info? e = some i) (hz : i.zero = some z) (hs : i.size = 1) (hzc : z.cells = #[z]) (v : Value) (hx : a.eval x = v) (hv : v.cells = #[v])
  (h : ∀ w', Row w' (.slice (some ⟨w.heap.size, 0, none⟩) 1 1) [v] → Below w.heap.size w w' → K (a.put o.dst (.slice (some ⟨w.heap.size, 0, none⟩) 1 1)) w') : o.wp P a w K Q := by
 have hzv : (zeroValue e).run P w = .ok z w := by simp [zeroValue, typeInfo, hi, hz]
 have hrun : (Instr.buildSlice t 1 #[(0, v)]).run P w = .ok (.slice (some ⟨w.heap.size, 0, none⟩) 1 1) (w.alloc (.cells [v].toArray e)) := by
  simp [Instr.buildSlice, run_underlying ht, sizeOf, typeInfo, hi, hs, hzv, hzc, hv, Instr.fill, Array.range_succ, Array.range_zero', newRow]
 unfold Oper.wp
 simp only [execOp, ho, List.map_toArray, List.map_cons, List.map_nil, hx, hrun, Sem.run_bind, Result.andThen_ok, Sem.run_pure]
 exact h _ (rowB (Blk.new w e _) rfl (by omega)) ((Below.refl _ _).alloc (Nat.le_refl _) _)
end
theorem built_mk (A : Option Addr) (n cap : Nat) (a z : Int) (x y : Nat) : Tryz.prog.built 64 [(0, .agg (nfc A n cap a z).toArray), (4, .map (some x)), (6, .map (some y))] = some (mkc (nfc A n cap a z) (ctab [] 0) 0 (.slice none 0 0) x (.slice none 0 0) y).toArray := by kernel_rfl
theorem mkc_splice {A : Option Addr} {n cap k mr mn : Nat} {a z : Int} {cl cl' : List UInt8} {sg q : Value} (h1 : cl.length = 256) (h2 : cl'.length = 256) :
  splice (mkc (nfc A n cap a z) cl k sg mr q mn) 3 (bvs cl') = mkc (nfc A n cap a z) cl' k sg mr q mn := by
 have e2 : (bvs cl).length = 256 := by rw [bvs_length, h1]
 have e3 : (bvs cl').length = 256 := by rw [bvs_length, h2]
 have t1 : ∀ Y : List Value, (nfc A n cap a z ++ Y).take 3 = nfc A n cap a z := fun Y => rfl
 have t2 : ∀ Y : List Value, (nfc A n cap a z ++ Y).drop (3 + 256) = Y.drop 256 := fun Y => rfl
 have t3 : ∀ T : List Value, (bvs cl ++ T).drop 256 = T := fun T => List.drop_left' e2
 unfold splice mkc
 rw [e3, t1, t2, t3]
theorem mkc_rng {w : World} {g : Nat} {ty : TypeId} {A : Option Addr} {n cap k mr mn : Nat} {a z : Int} {cl : List UInt8} {sg q : Value} (h : Blk w g ty (mkc (nfc A n cap a z) cl k sg mr q mn)) (hl : cl.length = 256) : w.rangeAt g 3 (bvs cl) := fun j v hv => by
 have hj : j < 256 := by have := (List.getElem?_eq_some_iff.1 hv).1; rwa [bvs_length, hl] at this
 rw [h.cell, mkc_cl hl hj]
 exact hv
theorem inf_bs : (Tryz.prog.info? 38).map (fun i => (i.zero, i.size, i.bytes)) = some (some (.slice none 0 0), 1, 24) := by kernel_rfl
theorem ld_bss {ev : Operand → Value} {o : Oper} (x : Operand) (ho : o.op = .load 59 x) {p : Addr} (hx : ev x = .pointer (some p)) {A : Option Addr} {n c : Nat} {W : World} (hc : W.cell? p = some (.slice A n c)) : (execOp ev o).run Tryz.prog W = .ok (.value (.slice A n c)) W := by
 simp only [execOp, ho, hx]
 go_simp
theorem wp_stBss {o : Oper} {a : Act} {K : Act → World → Prop} {Q : Exit → Act → World → Prop} {w : World} (x y : Operand) (ho : o.op = .store 59 x y) {p : Addr} (hx : a.eval x = .pointer (some p)) {A : Option Addr} {n c : Nat} (hy : a.eval y = .slice A n c) {v : Value} (hc : w.cell? p = some v) (hf : w.frozen? p = false)
  (h : K (a.put o.dst undef) (w.setCell p (.slice A n c))) : o.wp Tryz.prog a w K Q := by
 unfold Oper.wp
 simp only [execOp, ho, hx, hy]
 go_simp
 exact h
def SgR (w : World) (base : Nat) (sgv v : Value) (l : List UInt8) : Prop :=
 ∃ A c, v = .slice A l.length c ∧ (l ≠ [] → ∃ b off, A = some ⟨b, off, none⟩ ∧ base ≤ b ∧ b < w.heap.size ∧ sgv.ownBlock ≠ some b ∧ ∀ m x, l[m]? = some x → w.cell? ⟨b, off + m, none⟩ = some (bv x))
theorem SgR.step {w w' : World} {base g : Nat} {sgv sgv' v : Value} {l : List UInt8} (h : SgR w base sgv v l) (ho : Off (fun k => k = g ∨ sgv.ownBlock = some k) w w') (hg : g < base) (hn : ∀ k, sgv'.ownBlock = some k → sgv.ownBlock = some k ∨ w.heap.size ≤ k) : SgR w' base sgv' v l := by
 obtain ⟨A, c, e, h2⟩ := h
 refine ⟨A, c, e, fun hne => ?_⟩
 obtain ⟨b, off, hA, h3, h4, h5, h6⟩ := h2 hne
 refine ⟨b, off, hA, h3, Nat.lt_of_lt_of_le h4 ho.size, fun e => ?_, fun m x hx => ho.cell h4 (fun e => ?_) (h6 m x hx)⟩
 ·rcases hn b e with e | e
  ·exact h5 e
  ·omega
 ·rcases e with e | e
  ·omega
  ·exact h5 e
theorem sgR_new {w w' : World} {base : Nat} {sgv sgv' v : Value} {l : List UInt8} (h : w'.ownsRow w.heap.size 5 1 v l.length (bvs l)) (hB : base ≤ w.heap.size) (hs : ∀ k, sgv'.ownBlock = some k → k < w.heap.size ∨ w'.heap.size ≤ k) {w'' : World} {g : Nat} (hg : g < base) (ho : Off (fun k => k = g ∨ sgv.ownBlock = some k) w' w'') (hs0 : ∀ k, sgv.ownBlock = some k → k < w.heap.size) : SgR w'' base sgv' v l := by
 have hr := Row.of_own h
 have hab := own_above h
 obtain ⟨A, c, e, _, _, _, h3⟩ := hr
 rw [bvs_length] at e
 refine ⟨A, c, e, fun hne => ?_⟩
 obtain ⟨b, off, hA, hlt, hc⟩ := h3 (by intro e0; apply hne; cases l with | nil => rfl | cons x r => simp [bvs] at e0)
 subst hA
 subst e
 have hb := hab b rfl
 refine ⟨b, off, rfl, Nat.le_trans hB hb, Nat.lt_of_lt_of_le hlt ho.size, fun e => ?_, fun m x hx => ho.cell hlt (fun e => ?_) (hc m _ (bvs_get l m x hx))⟩
 ·rcases hs b e with e | e
  ·omega
  ·omega
 ·rcases e with e | e
  ·omega
  ·have := hs0 b e
   omega
theorem sg_fin {w : World} {base g mr mn : Nat} {sgv : Value} {S : List St} {vf : Nat → Value} (ho : w.ownsRow base 38 1 sgv S.length ((List.range S.length).map vf)) (hr : ∀ i s, i < S.length → S[i]? = some s → SgR w base sgv (vf i) (sgL S s)) (hg : g < base) (hmr : mr < base) (hmn : mn < base) :
  SgV w w.heap.size g mr mn sgv (sgS S) := by
 have hab := own_above ho
 obtain ⟨A, cap, e, _, _, _, h3⟩ := Row.of_own ho
 have hl : ((List.range S.length).map vf).length = S.length := by simp
 rw [hl] at e
 refine ⟨A, cap, vf, by rw [sgS_len]; exact e, fun hne => ?_, fun i l hl => ?_⟩
 ·have hpos : 0 < S.length := by
   rcases Nat.eq_zero_or_pos S.length with h0 | h0
   ·exfalso
    apply hne
    apply List.eq_nil_of_length_eq_zero
    rw [sgS_len, h0]
   ·exact h0
  obtain ⟨b, off, hA, hlt, hc⟩ := h3 (by intro e0; rw [e0] at hl; simp at hl; omega)
  subst hA
  subst e
  have hb := hab b rfl
  refine ⟨b, off, rfl, ⟨hlt, by omega, by omega, by omega⟩, hlt, fun i hi => hc i (vf i) ?_⟩
  rw [sgS_len] at hi
  simp [hi]
 ·have hi : i < S.length := by have := (List.getElem?_eq_some_iff.1 hl).1; rwa [sgS_len] at this
  have hsi : S[i]? = some S[i] := List.getElem?_eq_getElem hi
  have hl2 := sgS_get hsi
  rw [hl] at hl2
  injection hl2 with hl2
  subst hl2
  obtain ⟨Ai, ci, e, h4⟩ := hr i S[i] hi hsi
  refine ⟨Ai, ci, e, fun hne => ?_⟩
  obtain ⟨b, off, hA, h5, h6, _, h7⟩ := h4 hne
  exact ⟨b, off, hA, ⟨h6, by omega, by omega, by omega⟩, h6, h7⟩
theorem range_snoc (j : Nat) (vf : Nat → Value) (v : Value) : (List.range (j + 1)).map (fun i => if i = j then v else vf i) = (List.range j).map vf ++ [v] := by
 rw [List.range_succ, List.map_append, List.map_singleton, if_pos rfl]
 congr 1
 refine List.map_congr_left fun i hi => ?_
 have := List.mem_range.1 hi
 rw [if_neg (by omega)]
end Go.Proofs.YteadghoojeehlaaGreatDoor
