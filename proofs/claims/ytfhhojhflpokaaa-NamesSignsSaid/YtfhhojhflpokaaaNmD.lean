/-
  What package names' TakeKey answers and leaves. No statement is proved here.
-/
import Derived.Test.YtfhhojhflpokaaaNmC
import Derived.Test.YtfhhojhflpokaaaReg
namespace Go.Proofs.Ytfhhojhflpokaaa
open Go.RowKit
set_option linter.unusedSimpArgs false
set_option linter.unusedVariables false

theorem results_tmp4 {fn : Func} {t u v x : Tmp} (h : fn.results = #[.tmp t, .tmp u, .tmp v, .tmp x]) (tmps : Array Value) (P : Program) (w : World) :
    (results fn tmps).run P w = .ok (.tuple #[tmps.getD t undef, tmps.getD u undef, tmps.getD v undef, tmps.getD x undef]) w := by
  simp [results, h]

theorem guard_key : Try.prog.eqGuardType Try.prog.depth 23 = false := by kernel_rfl
theorem size_u8 : ∀ w, (sizeOf 5).run Try.prog w = .ok 1 w := by
  intro w
  have h := hsz1
  cases hi : Try.prog.info? 5 with
  | none => rw [hi] at h; cases h
  | some i =>
    rw [hi] at h
    have h' : i.size = 1 := by simpa using h
    simp [sizeOf, typeInfo, hi, h']
/-- What a key names. -/
def kK (k : List UInt8) : UInt8 := k.getD 0 0
def kA (k : List UInt8) : List UInt8 := ahead ((k.drop 2).take 15)
def kB (k : List UInt8) : List UInt8 := ahead (k.drop 17)
/-- Is it the key of what it names? -/
def isKey (k : List UInt8) : Prop := keyE (kK k) (kA k) (kB k) = 0 ∧ keyV (kK k) (kA k) (kB k) = k
instance (k : List UInt8) : Decidable (isKey k) := by unfold isKey; exact inferInstance
/-- TakeKey's answer. -/
def took (k : List UInt8) : Value := if isKey k then .tuple #[.int .u8 ((kK k).toNat : Int), str (kA k), str (kB k), .int .i64 0] else .tuple #[.int .u8 0, str [], str [], .int .i64 3]
theorem kA_len {k : List UInt8} : (kA k).length ≤ 15 := Nat.le_trans (ahead_len _) (by rw [List.length_take]; omega)
theorem kB_len {k : List UInt8} (h : k.length = 32) : (kB k).length ≤ 15 := Nat.le_trans (ahead_len _) (by rw [List.length_drop]; omega)

/-- Slices of a block that is known whole. -/
theorem row_of_blk {w : World} {g : Nat} {t : TypeId} {cs : List Value} (h : Blk w g t cs) (i n : Nat) (hn : 0 < n) (hi : i + n ≤ cs.length) (hm : cs.length ≤ maxLen) :
    Row w (.slice (some ⟨g, i, none⟩) n (cs.length - i)) ((cs.drop i).take n) := by
  have hl : ((cs.drop i).take n).length = n := by rw [List.length_take, List.length_drop]; omega
  refine ⟨some ⟨g, i, none⟩, cs.length - i, by rw [hl], by omega, by omega, (fun h => by cases h), fun _ => ⟨g, i, rfl, h.lt, fun j u hu => ?_⟩⟩
  have hj : j < n := by
    have := (List.getElem?_eq_some_iff.1 hu).1
    omega
  rw [h.cell, ← hu, List.getElem?_take, if_pos hj, List.getElem?_drop]

theorem row_key {w : World} {g : Nat} {t : TypeId} {k : List UInt8} (h : Blk w g t (bvs k)) (hk : k.length = 32) (i n : Nat) (hn : 0 < n) (hi : i + n ≤ 32) :
    Row w (.slice (some ⟨g, i, none⟩) ((k.drop i).take n).length (32 - i)) (bvs ((k.drop i).take n)) := by
  have := row_of_blk h i n hn (by rw [bvs_length]; omega) (by rw [bvs_length, hk]; unfold maxLen; omega)
  rw [bvs_length, hk] at this
  rw [show ((k.drop i).take n).length = n from by rw [List.length_take, List.length_drop]; omega]
  unfold bvs at this ⊢
  rwa [← List.map_drop, ← List.map_take] at this
theorem text_key {w : World} {g : Nat} {t : TypeId} {k : List UInt8} (h : Blk w g t (bvs k)) (hk : k.length = 32) (i n cap : Nat) (hn : 0 < n) (hi : i + n ≤ 32) (hc : cap = 32 - i) (a : List UInt8) (ha : a = ahead ((k.drop i).take n)) :
    Calls Try.prog 21 #[.slice (some ⟨g, i, none⟩) n cap] w fun e w' => e = .returned (str a) ∧ Below w.heap.size w w' := by
  have hl : ((k.drop i).take n).length = n := by rw [List.length_take, List.length_drop]; omega
  have := text_any g i (32 - i) ((k.drop i).take n) w (by omega) (row_key h hk i n hn hi) (by omega)
  rw [hl, ← ha] at this
  rw [hc]
  exact this

set_option maxHeartbeats 4000000 in
set_option maxRecDepth 1000000 in
theorem takeKey_any (k : List UInt8) (hk : k.length = 32) (w : World) :
    Calls Try.prog 16 #[.agg (bvs k).toArray] w fun e w' => e = .returned (took k) ∧ Below w.heap.size w w' := by
  have HK := Lib.hid hk
  have la := kA_len (k := k)
  have lb := kB_len hk
  obtain ⟨a, ha⟩ : ∃ a, a = kA k := ⟨_, rfl⟩
  obtain ⟨b, hb⟩ : ∃ b, b = kB k := ⟨_, rfl⟩
  obtain ⟨c, hc⟩ : ∃ c, c = kK k := ⟨_, rfl⟩
  rw [← ha] at la
  rw [← hb] at lb
  have hg0 : k[0]? = some c := by rw [hc, kK, List.getD_eq_getElem?_getD, List.getElem?_eq_getElem (by omega)]; rfl
  have ba : bvs a = bvs (ahead ((k.drop 2).take 15)) := by rw [ha]; rfl
  have HA := Lib.hid ha
  have HB := Lib.hid hb
  have HC := Lib.hid hc
  have HG := Lib.hid hg0
  clear ha hb hc hg0 hk ba
  go_enter Try.func16, Try.ntmps16
  go_wp2_with (first
    | ((with_reducible refine atDst 1 ?_); refine wpList_box rfl 23 _ rfl (bvs k) rfl (Below.refl w.heap.size w) (Nat.le_refl _) ?_; intro w1 hk1 hb1 hs1 _; have K1 := Lib.hid hk1; have B1 := Lib.hid hb1; have S1 := Lib.hid hs1; clear hk1 hb1 hs1))
  refine sx_start (by kernel_rfl) (fun wS hS hSz => ?_)
  have hX := Below.refl wS.heap.size wS
  have KS := Lib.hid (K1.out.below hS K1.out.lt)
  have BS := Lib.hid (B1.out.trans (hS.mono B1.out.size))
  have hc0 : ∀ W, Below wS.heap.size wS W → W.cell? ⟨w.heap.size, 0, none⟩ = some (.int .u8 (c.toNat : Int)) := fun W hW => by
    rw [((KS.out.below hW KS.out.lt).cell 0)]
    exact bvs_get k 0 c HG.out
  clear hS hSz
  refine sx_take (i := 0) (oi := ⟨some 7, _, _, _, _, _⟩) (v := ?_) rfl (by kernel_rfl) (by kernel_rfl) (by kernel_rfl) (fun _ _ _ h => h) rfl hX ?_ ?_; rotate_left; (intro W hW; go_simp; try with_reducible rfl); simp only [Act.put, List.setIfInBounds_toArray, List.set_cons_zero, List.set_cons_succ]
  refine sx_take (i := 1) (oi := ⟨some 8, _, _, _, _, _⟩) (v := ?_) rfl (by kernel_rfl) (by kernel_rfl) (by kernel_rfl) (fun _ _ _ h => h) rfl hX ?_ ?_; rotate_left; (intro W hW; go_simp; try with_reducible rfl); simp only [Act.put, List.setIfInBounds_toArray, List.set_cons_zero, List.set_cons_succ]
  refine sx_take (i := 2) (oi := ⟨some 9, _, _, _, _, _⟩) (v := ?_) rfl (by kernel_rfl) (by kernel_rfl) (by kernel_rfl) (fun _ _ _ h => h) rfl hX ?_ ?_; rotate_left; (intro W hW; go_simp; try with_reducible rfl); simp only [Act.put, List.setIfInBounds_toArray, List.set_cons_zero, List.set_cons_succ]
  refine sx_take (i := 4) (oi := ⟨some 11, _, _, _, _, _⟩) (v := ?_) rfl (by kernel_rfl) (by kernel_rfl) (by kernel_rfl) (fun _ _ _ h => h) rfl hX ?_ ?_; rotate_left; (intro W hW; go_simp; try with_reducible rfl); simp only [Act.put, List.setIfInBounds_toArray, List.set_cons_zero, List.set_cons_succ]
  refine sx_act (i := 3) (o := ⟨some 10, _, _, _, _, _⟩) rfl (by kernel_rfl) rfl hX (Nat.le_refl _) (fun K hK => ?_)
  go_wp2_with fail
  refine (text_key KS.out HK.out 2 15 30 (by omega) (by omega) (by omega) a HA.out).mono ?_
  rintro e w2 ⟨rfl, hb2⟩
  refine hK _ _ hb2 ?_
  clear hK K hX hc0
  have hX := Below.refl w2.heap.size w2
  have K2 := Lib.hid (KS.out.below hb2 KS.out.lt)
  have B2 := Lib.hid (BS.out.trans (hb2.mono BS.out.size))
  have hc0 : ∀ W, Below w2.heap.size w2 W → W.cell? ⟨w.heap.size, 0, none⟩ = some (.int .u8 (c.toNat : Int)) := fun W hW => by
    rw [((K2.out.below hW K2.out.lt).cell 0)]
    exact bvs_get k 0 c HG.out
  clear hb2
  refine sx_act (i := 5) (o := ⟨some 12, _, _, _, _, _⟩) rfl (by kernel_rfl) rfl hX (Nat.le_refl _) (fun K hK => ?_)
  go_wp2_with fail
  refine (text_key K2.out HK.out 17 15 15 (by omega) (by omega) (by omega) b (by rw [HB.out, kB, List.take_of_length_le (by rw [List.length_drop, HK.out]; omega)])).mono ?_
  rintro e w3 ⟨rfl, hb3⟩
  refine hK _ _ hb3 ?_
  clear hK K hX hc0
  have hX := Below.refl w3.heap.size w3
  have K3 := Lib.hid (K2.out.below hb3 K2.out.lt)
  have B3 := Lib.hid (B2.out.trans (hb3.mono B2.out.size))
  have hc0 : ∀ W, Below w3.heap.size w3 W → W.cell? ⟨w.heap.size, 0, none⟩ = some (.int .u8 (c.toNat : Int)) := fun W hW => by
    rw [((K3.out.below hW K3.out.lt).cell 0)]
    exact bvs_get k 0 c HG.out
  clear hb3
  refine sx_take (i := 6) (oi := ⟨some 2, _, _, _, _, _⟩) (v := ?_) rfl (by kernel_rfl) (by kernel_rfl) (by kernel_rfl) (fun _ _ _ h => h) rfl hX ?_ ?_; rotate_left; (intro W hW; go_simp; try with_reducible rfl); simp only [Act.put, List.setIfInBounds_toArray, List.set_cons_zero, List.set_cons_succ]
  refine sx_take (i := 7) (oi := ⟨some 3, _, _, _, _, _⟩) (v := ?_) rfl (by kernel_rfl) (by kernel_rfl) (by kernel_rfl) (fun _ _ _ h => h) rfl hX ?_ ?_; rotate_left; (intro W hW; go_simp; try with_reducible rfl); simp only [Act.put, List.setIfInBounds_toArray, List.set_cons_zero, List.set_cons_succ]
  refine sx_take (i := 8) (oi := ⟨some 4, _, _, _, _, _⟩) (v := ?_) rfl (by kernel_rfl) (by kernel_rfl) (by kernel_rfl) (fun _ _ _ h => h) rfl hX ?_ ?_; rotate_left; (intro W hW; go_simp; try with_reducible rfl); simp only [Act.put, List.setIfInBounds_toArray, List.set_cons_zero, List.set_cons_succ]
  refine wpAnyH_done (by kernel_rfl) ?_ _
  clear hX hc0
  go_wp2_with fail
  refine (key_any c a b w3 (by omega) (by omega)).mono ?_
  rintro e w4 ⟨rfl, hb4⟩
  obtain ⟨v, hv⟩ : ∃ v, v = keyV c a b := ⟨_, rfl⟩
  obtain ⟨er, her⟩ : ∃ er, er = keyE c a b := ⟨_, rfl⟩
  have hvl : v.length = 32 := by rw [hv]; exact keyV_length _ _ _
  have htk : took k = if er = 0 ∧ v = k then .tuple #[.int .u8 (c.toNat : Int), str a, str b, .int .i64 0] else .tuple #[.int .u8 0, str [], str [], .int .i64 3] := by
    unfold took isKey
    rw [hv, her, HA.out, HB.out, HC.out]
  rw [← hv, ← her]
  have K4 := Lib.hid (K3.out.below hb4 K3.out.lt)
  have B4 := Lib.hid (B3.out.trans (hb4.mono B3.out.size))
  have HV := Lib.hid hvl
  have HT := Lib.hid htk
  clear hv her hvl htk hb4 la lb
  by_cases h0 : er = 0
  · subst h0
    by_cases hvk : v = k
    · have hd : decide (v = k) = true := decide_eq_true hvk
      rw [if_pos ⟨rfl, hvk⟩] at HT
      have HD := Lib.hid hd
      clear hd hvk
      obtain ⟨i0, hi0, hz0⟩ := info_key
      obtain ⟨z, hz⟩ : ∃ z, z = zs 32 := ⟨_, rfl⟩
      have hzl : z.length = 32 := by rw [hz]; exact zs_length 32
      rw [← hz] at hz0
      have HZL := Lib.hid hzl
      clear hz hzl
      go_wp2_with (first
        | ((with_reducible refine atDst 6 ?_); refine wpList_new rfl 23 rfl i0 _ (bvs z) hi0 hz0 rfl B4.out B4.out.size ?_; intro w5 hk5 hb5 hs5 ho5; have K5 := Lib.hid hk5; have B5 := Lib.hid hb5; have K5a := Lib.hid ((ho5 _ K4.out.lt).trans K4.out); clear hk5 hb5 hs5 ho5)
        | ((with_reducible refine atStore 23 6 18 ?_); refine wpList_stBlk rfl 23 _ _ rfl w4.heap.size (bvs v) rfl rfl 23 _ K5.out (size_key32 HV.out) (len_bvs2 HZL.out HV.out) (bvs_all _) B5.out B4.out.size ?_; intro w6 hk6 hb6 hs6 ho6; have K6 := Lib.hid hk6; replace B5 := Lib.hid hb6; have K6a := Lib.hid ((ho6 _ (Nat.ne_of_lt K4.out.lt)).trans K5a.out); clear hk6 hb6 hs6 ho6)
        | ((with_reducible refine atDst 23 ?_); refine wpList_ldArr rfl 23 _ rfl w4.heap.size rfl 23 _ _ K6.out Try.underlying23 rfl (size_key32 HV.out) ?_)
        | ((with_reducible refine atDst 24 ?_); refine wpList_ldArr rfl 23 _ rfl w.heap.size rfl 23 _ _ K6a.out Try.underlying23 rfl (size_key32 HK.out) ?_)
        | ((with_reducible refine atDst 25 ?_); refine wpList_neArr rfl 23 5 32 (.tmp 23) (.tmp 24) 23 rfl guard_key Try.underlying23 Try.underlying5 size_u8 v k HV.out HK.out rfl rfl ?_; rw [HD.out]))
      refine bodyPost_ret (results_tmp4 rfl _ _ _) rfl ?_
      exact ⟨by rw [HT.out]; rfl, B5.out⟩
    · have hd : decide (v = k) = false := decide_eq_false hvk
      rw [if_neg (fun h => hvk h.2)] at HT
      have HD := Lib.hid hd
      clear hd hvk
      obtain ⟨i0, hi0, hz0⟩ := info_key
      obtain ⟨z, hz⟩ : ∃ z, z = zs 32 := ⟨_, rfl⟩
      have hzl : z.length = 32 := by rw [hz]; exact zs_length 32
      rw [← hz] at hz0
      have HZL := Lib.hid hzl
      clear hz hzl
      go_wp2_with (first
        | ((with_reducible refine atDst 6 ?_); refine wpList_new rfl 23 rfl i0 _ (bvs z) hi0 hz0 rfl B4.out B4.out.size ?_; intro w5 hk5 hb5 hs5 ho5; have K5 := Lib.hid hk5; have B5 := Lib.hid hb5; have K5a := Lib.hid ((ho5 _ K4.out.lt).trans K4.out); clear hk5 hb5 hs5 ho5)
        | ((with_reducible refine atStore 23 6 18 ?_); refine wpList_stBlk rfl 23 _ _ rfl w4.heap.size (bvs v) rfl rfl 23 _ K5.out (size_key32 HV.out) (len_bvs2 HZL.out HV.out) (bvs_all _) B5.out B4.out.size ?_; intro w6 hk6 hb6 hs6 ho6; have K6 := Lib.hid hk6; replace B5 := Lib.hid hb6; have K6a := Lib.hid ((ho6 _ (Nat.ne_of_lt K4.out.lt)).trans K5a.out); clear hk6 hb6 hs6 ho6)
        | ((with_reducible refine atDst 23 ?_); refine wpList_ldArr rfl 23 _ rfl w4.heap.size rfl 23 _ _ K6.out Try.underlying23 rfl (size_key32 HV.out) ?_)
        | ((with_reducible refine atDst 24 ?_); refine wpList_ldArr rfl 23 _ rfl w.heap.size rfl 23 _ _ K6a.out Try.underlying23 rfl (size_key32 HK.out) ?_)
        | ((with_reducible refine atDst 25 ?_); refine wpList_neArr rfl 23 5 32 (.tmp 23) (.tmp 24) 23 rfl guard_key Try.underlying23 Try.underlying5 size_u8 v k HV.out HK.out rfl rfl ?_; rw [HD.out]))
      refine bodyPost_ret (results_tmp4 rfl _ _ _) rfl ?_
      exact ⟨by rw [HT.out]; rfl, B5.out⟩
  · have hne : (er != 0) = true := by simpa using h0
    rw [if_neg (fun h => h0 h.1)] at HT
    clear h0
    obtain ⟨i0, hi0, hz0⟩ := info_key
    obtain ⟨z, hz⟩ : ∃ z, z = zs 32 := ⟨_, rfl⟩
    have hzl : z.length = 32 := by rw [hz]; exact zs_length 32
    rw [← hz] at hz0
    have HZL := Lib.hid hzl
    clear hz hzl
    go_wp2_with (first
      | ((with_reducible refine atDst 6 ?_); refine wpList_new rfl 23 rfl i0 _ (bvs z) hi0 hz0 rfl B4.out B4.out.size ?_; intro w5 hk5 hb5 hs5 ho5; have K5 := Lib.hid hk5; have B5 := Lib.hid hb5; have K5a := Lib.hid ((ho5 _ K4.out.lt).trans K4.out); clear hk5 hb5 hs5 ho5)
      | ((with_reducible refine atStore 23 6 18 ?_); refine wpList_stBlk rfl 23 _ _ rfl w4.heap.size (bvs v) rfl rfl 23 _ K5.out (size_key32 HV.out) (len_bvs2 HZL.out HV.out) (bvs_all _) B5.out B4.out.size ?_; intro w6 hk6 hb6 hs6 ho6; have K6 := Lib.hid hk6; replace B5 := Lib.hid hb6; have K6a := Lib.hid ((ho6 _ (Nat.ne_of_lt K4.out.lt)).trans K5a.out); clear hk6 hb6 hs6 ho6)
      | ((with_reducible refine atDst 23 ?_); refine wpList_ldArr rfl 23 _ rfl w4.heap.size rfl 23 _ _ K6.out Try.underlying23 rfl (size_key32 HV.out) ?_)
      | ((with_reducible refine atDst 24 ?_); refine wpList_ldArr rfl 23 _ rfl w.heap.size rfl 23 _ _ K6a.out Try.underlying23 rfl (size_key32 HK.out) ?_)
      | ((with_reducible refine atDst 25 ?_); refine wpList_neArr rfl 23 5 32 (.tmp 23) (.tmp 24) 23 rfl guard_key Try.underlying23 Try.underlying5 size_u8 v k HV.out HK.out rfl rfl ?_; rw [HD.out]))
    refine bodyPost_ret (results_tmp4 rfl _ _ _) rfl ?_
    exact ⟨by rw [HT.out]; rfl, B5.out⟩
end Go.Proofs.Ytfhhojhflpokaaa
