/-
  Texts of this proof, put together: LwS, LwT. No statement is proved here.
-/
import Derived.Test.YtopnpdobcagcgaaGreatMN
import Derived.Test.YtopnpdobcagcgaaGreatMS
import Derived.Test.YtopnpdobcagcgaaGreatMX
namespace Go.Proofs.YtopnpdobcagcgaaGreat
open Go.RowKit
set_option linter.unusedSimpArgs false
set_option linter.unusedVariables false
def StepC (N : Nat) : Prop := ∀ t : T, t.nodes ≤ N → t.nodes ≤ 2000 → good t → ∀ (b : UInt8) (cs : List Value) (w : World), RxV w.heap.size w cs t →
  Calls Tryz.prog 40 #[.agg cs.toArray, bv b] w fun e w' => ∃ ds, e = .returned (.agg ds.toArray) ∧ RxD (fun k => w.heap.size ≤ k ∧ k < w'.heap.size) w' ds (stepT t b.toNat) ∧ Below w.heap.size w w'
theorem own_one {D : Nat → Prop} {base : Nat} {w : World} {g : Nat} {ds : List Value} {t : T} (hb : base ≤ g) (hk : Blk w g 29 ds) (hd : RxD (fun k => D k ∧ k < w.heap.size ∧ k ≠ g) w ds t) : OwnT D base w (.slice (some ⟨g, 0, none⟩) 1 1) [t] := by
 have h6 := hd.length
 refine ⟨[ds], rfl, fun c hc => ?_, ⟨by simp [h6], .inr ⟨g, 1, ds.toArray, rfl, hb, hk, Nat.le_refl _, by unfold maxLen; omega, by simp [h6], by simp only [List.flatten_cons, List.flatten_nil, List.append_nil, List.toList_toArray]; exact List.take_of_length_le (by simp [h6])⟩⟩, fun i c u hc hu => ?_⟩
 ·obtain rfl := List.mem_singleton.1 hc
  exact h6
 ·match i, hc, hu with
  | 0, hc, hu =>
   obtain rfl : ds = c := by simpa using hc
   obtain rfl : t = u := by simpa using hu
   exact hd.mono fun k hk => ⟨hk.1, hk.2.1, fun e => hk.2.2 (Option.some.inj e)⟩
theorem rowD_none {D : Nat → Prop} {w : World} {A : Option Addr} {cap : Nat} (h2 : cap ≤ maxLen) (h0 : A = none → cap = 0) : RowD D w (.slice A 0 cap) [] := ⟨A, cap, fun _ => [], rfl, Nat.zero_le _, h2, h0, fun h => absurd rfl h, fun i t h => by simp at h⟩
theorem rowD_drop {D : Nat → Prop} {w : World} {b off n cap j : Nat} {l : List T} (h : RowD D w (.slice (some ⟨b, off, none⟩) n cap) l) (hj : j < l.length) :
  RowD D w (.slice (if cap = j + 1 then some ⟨b, off, none⟩ else some ⟨b, off + (j + 1) * 6, none⟩) (n - (j + 1)) (cap - (j + 1))) (l.drop (j + 1)) := by
 have hn : n = l.length ∧ l.length ≤ cap ∧ cap ≤ maxLen := by
  obtain ⟨A', cap', f, he, h1, h2, _⟩ := h
  injection he with _ hn hc
  subst hn hc
  exact ⟨rfl, h1, h2⟩
 by_cases hl : j + 1 < l.length
 ·rw [if_neg (by omega)]
  obtain ⟨b', off', hA, hd⟩ := h.drop (j + 1) hl
  injection hA with hA
  injection hA with h1 h2 _
  subst h1 h2
  exact hd
 ·rw [List.drop_eq_nil_of_le (by omega), show n - (j + 1) = 0 by omega]
  refine rowD_none (by omega) (fun e => ?_)
  split at e <;> cases e
-- $1 slot of the part, $2 slot of x
-- the answer: $1 slot, $2 theorem, $3 the row's contract's premises
set_option maxHeartbeats 8000000 in
set_option maxRecDepth 1000000 in
theorem lStepAlt_any (N : Nat) (ih : StepC N) (l : List T) (hN : nodesL l ≤ N) (hM : nodesL l ≤ 2000) (hg : ∀ t ∈ l, good t) (b : UInt8) (v : Value) (w : World) (hr : RowT w.heap.size w v l) :
  Calls Tryz.prog 63 #[v, bv b] w fun e w' => ∃ ds, e = .returned (.agg ds.toArray) ∧ RxD (fun k => w.heap.size ≤ k ∧ k < w'.heap.size) w' ds (altT (l.map fun x => stepT x b.toNat)) ∧ Below w.heap.size w w' := by
 have IH := qH ih
 clear ih
 have R := qH hr
 have HG := qH hg
 have HN := qH hN
 have HM := qH hM
 have HLL := qH (len_nodes l)
 obtain ⟨A, cap, f, rfl, h1, h2, h0, h3, h4⟩ := hr
 have H3 := qH h3
 have H4 := qH h4
 have HCL := qH h1
 have HCM := qH h2
 have HA0 := qH h0
 have HBT := qH (show b.toNat < 256 from b.toNat_lt)
 clear hg hN hM h0 h1 h2 h3 h4
 obtain ⟨i0, hi0, hz0, hz1, hz2⟩ := inf_rx'
 obtain ⟨z, hz⟩ : ∃ z, z = rxc 0 zeroS (.slice none 0 0) := ⟨_, rfl⟩
 have HZL := qH (show z.length = 6 by rw [hz]; rfl)
 have HZ0 := qH (show i0.zero = some (.agg z.toArray) by rw [hz]; exact hz0)
 have HZ1 := qH hz0
 clear hz hz0
 go_enter Tryz.func63, Tryz.ntmps63
 go_wp2_with ((with_reducible refine atDst 4 ?_); refine wpList_new rfl 29 rfl i0 _ z hi0 HZ0.out rfl (Below.refl w.heap.size w) (Nat.le_refl _) ?_; intro w1 hk1 hb1 hs1 _; have K1 := qH hk1; have B1 := qH hb1; clear hk1 hb1 hs1; (try simp only [Act.put, qA, qB, qC]))
 go_loopw [5, 10] (fun v i wl => ∃ (v1 : Value) (j : Nat), v1 = v ∧ j ≤ l.length ∧ i = .int .i64 (j : Int) ∧ OwnT (fun q => w1.heap.size ≤ q) w1.heap.size wl v1 ((l.take j).map fun x => stepT x b.toNat) ∧ Below w1.heap.size w1 wl) (fun _ i _ => l.length - (intOf i).toNat)
 case atStart => exact ⟨_, 0, rfl, by omega, by simp, OwnT.nil _ _ _, Below.refl _ _⟩
 case round =>
  obtain ⟨v1, j, rfl, hj, rfl, ho, hb⟩ := hrel
  have HO := qH ho
  have HB := qH hb
  have BR := qH (B1.out.trans (hb.mono B1.out.size))
  clear ho hb
  by_cases hjl : j < l.length
  ·have j1 : (j : Int) < (l.length : Int) := Int.ofNat_lt.2 hjl
   obtain ⟨bb, off, rfl, hb, hrng⟩ := H3.out (by rintro rfl; simp at hjl)
   obtain ⟨u, hu⟩ : ∃ u, l[j]? = some u := ⟨_, List.getElem?_eq_getElem hjl⟩
   have HV := qH (RxV.part H4.out BR.out BR.out.size hu)
   have HV6 := qH HV.out.length
   have HV1 := qH (show (f j).all (·.oneCell') = true from List.all_eq_true.2 (RxD.one HV.out))
   have HRG := qH (range_below (hrng j hjl) BR.out hb)
   have HU := qH hu
   have HUN := qH (show u.nodes ≤ N by have h1 := nodes_mem (List.mem_of_getElem? hu); have := HN.out; omega)
   have HUM := qH (show u.nodes ≤ 2000 by have h1 := nodes_mem (List.mem_of_getElem? hu); have := HM.out; omega)
   have HUG := qH (HG.out u (List.mem_of_getElem? hu))
   have HJ1 := qH hjl
   have HLE := qH (show j + 1 ≤ 1099511627776 by have := HM.out; have := HLL.out; omega)
   have e3 := wrap_len hjl HCL.out HCM.out
   have e4 := wrap_len' hjl HCL.out HCM.out
   have HSW := qH HB.out.size
   clear hrng hu hb hj
   go_wp2_with (first
    | ((with_reducible refine atDst 13 ?_); refine wpList_load_mid rfl 29 _ rfl bb (off + j * 6) rfl (f j) _ HRG.out Tryz.underlying29 rfl (size_rx HV6.out) ?_; (try simp only [Act.put, qA, qB, qC]))
    | ((with_reducible refine atDst 7 ?_); refine wpList_new rfl 29 rfl i0 _ z hi0 HZ0.out rfl (Below.refl wr.heap.size wr) (Nat.le_refl _) ?_; intro w4 hk4 hb4 hs4 _; have K4 := qH hk4; have B4 := qH hb4; clear hk4 hb4 hs4; (try simp only [Act.put, qA, qB, qC]))
    | ((with_reducible refine atStore 29 7 13 ?_); refine wpList_stBlk rfl 29 _ _ rfl wr.heap.size (f j) rfl rfl 29 _ K4.out (size_rx HV6.out) (by rw [HZL.out, HV6.out]) HV1.out B4.out (Nat.le_refl _) ?_; intro w5 hk5 hb5 hs5 _; have K5 := qH hk5; have B5 := qH hb5; have O5 := qH (HO.out.stay hb5); clear hk5 hb5 hs5; (try simp only [Act.put, qA, qB, qC]))
    | ((with_reducible refine atDst 15 ?_); refine wpList_ldArr rfl 29 _ rfl wr.heap.size rfl 29 _ _ K5.out Tryz.underlying29 rfl (size_rx HV6.out) ?_; (try simp only [Act.put, qA, qB, qC])))
   clear hjl
   have BW5 := qH (BR.out.trans (B5.out.mono BR.out.size))
   refine (IH.out u HUN.out HUM.out HUG.out b (f j) w5 (RxV.mono (HV.out.stay B5.out) B5.out.size)).mono ?_
   rintro e w6 ⟨ds, rfl, hds, hb6⟩
   have HDS := qH hds
   have HD6 := qH hds.length
   have O6 := qH (O5.out.stay hb6)
   have B6 := qH (HB.out.trans ((B5.out.mono HB.out.size).trans (hb6.mono (Nat.le_trans HB.out.size B5.out.size))))
   have S56 := qH (Nat.le_trans HB.out.size B5.out.size)
   have HLT := qH (fun q (hq : v1.ownBlock = some q) => Nat.lt_of_lt_of_le (HO.out.lt q hq) B5.out.size)
   have HTK := qH (show (l.take (j + 1)).map (fun x => stepT x b.toNat) = (l.take j).map (fun x => stepT x b.toNat) ++ [stepT u b.toNat] by
    obtain ⟨hi, rfl⟩ := List.getElem?_eq_some_iff.1 HU.out
    rw [List.take_succ_eq_append_getElem hi, List.map_append]
    rfl)
   have HLM := qH (show ((l.take j).map fun x => stepT x b.toNat).length + 1 ≤ 1099511627776 by rw [List.length_map, List.length_take]; have := HLE.out; omega)
   clear hds hb6
   go_wp2_with (first
    | ((with_reducible refine atDst 18 ?_); refine wpList_bldT1 rfl 27 29 (.tmp 17) rfl i0 Tryz.underlying27 hi0 HZ1.out hz1 ds HD6.out rfl ?_; intro w7 hk7 hb7 hs7; have K7 := qH hk7; have O7 := qH (O6.out.stay hb7); have B7 := qH (B6.out.trans (hb7.mono B6.out.size)); have D7 := qH (RxD.mono (HDS.out.stay (w' := w7) fun q hq => hb7.block q hq.2) (D' := fun q => w1.heap.size ≤ q ∧ q < w7.heap.size ∧ some q ≠ v1.ownBlock) fun q hq => ⟨Nat.le_trans S56.out hq.1, Nat.lt_of_lt_of_le hq.2 hb7.size, fun he => by have h1 := HLT.out q he.symm; have h2 := hq.1; omega⟩); clear hk7 hb7 hs7; (try simp only [Act.put, qA, qB, qC]))
    | ((with_reducible refine atDst 19 ?_); refine wpList_appT (D := fun q => w1.heap.size ≤ q) (base := w1.heap.size) rfl (.tmp 14) (.tmp 18) rfl i0 hi0 HZ1.out hz1 hz2 v1 _ rfl O7.out w6.heap.size 1 29 ds (stepT u b.toNat) rfl K7.out D7.out HLM.out B7.out.size ?_; intro v8 w8 ho8 hg8; have O8 := qH ho8; have B8 := qH (B7.out.grown hg8 B7.out.size (fun q hq => O7.out.ge q hq)); clear ho8 hg8; (try simp only [Act.put, qA, qB, qC])))
   refine ⟨⟨_, j + 1, rfl, HJ1.out, by congr 1, by rw [HTK.out]; exact O8.out, B8.out⟩, by simpa [intOf] using sub_next HJ1.out⟩
  ·obtain rfl : j = l.length := by omega
   have j1 : ¬ ((l.length : Int) < (l.length : Int)) := by omega
   have ho := HO.out
   rw [List.take_length] at ho
   have O9 := qH ho
   have KR := qH (K1.out.below HB.out K1.out.lt)
   have HGM := qH (show ∀ t ∈ l.map (fun x => stepT x b.toNat), good t from fun t ht => by
    obtain ⟨x, hx, rfl⟩ := List.mem_map.1 ht
    exact (stepT_lg (HG.out x hx) b).1)
   have HNM := qH (show nodesL (l.map fun x => stepT x b.toNat) ≤ 274877906944 by have := alts_few HG.out b HM.out; omega)
   clear ho HO
   go_wp2_with fail
   refine (rxAlt_any _ _ wr (O9.out.rowD.mono (D' := fun k => k < wr.heap.size) fun k hk => hk.2) HNM.out HGM.out).mono ?_
   rintro e w6 ⟨ds, rfl, hd6, hb6⟩
   have D6 := qH hd6.length
   have D1 := qH (show ds.all (·.oneCell') = true from List.all_eq_true.2 (RxD.one hd6))
   have B6 := qH (BR.out.trans (hb6.mono BR.out.size))
   have K6 := qH (KR.out.below hb6 KR.out.lt)
   have V6 := qH hd6
   have S6 := qH BR.out.size
   have HK6 := qH KR.out.lt
   clear hd6 hb6
   go_wp2_with ((with_reducible refine atStore 29 4 22 ?_); refine wpList_stBlk rfl 29 _ _ rfl w.heap.size ds rfl rfl 29 _ K6.out (size_rx D6.out) (by rw [HZL.out, D6.out]) D1.out B6.out (Nat.le_refl _) ?_; intro w7 hk7 hb7 hs7 ho7; have K7 := qH hk7; have B7 := qH hb7; have V7 := qH ((V6.out.stay (w' := w7) fun k hk => ho7 k (by have h1 := hk.1; have h2 := HK6.out; omega)).mono (D' := fun k => w.heap.size ≤ k ∧ k < w7.heap.size) fun k hk => ⟨Nat.le_trans S6.out hk.1, by rw [hs7]; exact hk.2⟩); clear hk7 hb7 hs7 ho7; (try simp only [Act.put, qA, qB, qC]))
   refine bodyPost_ret (results_blk rfl _ _ w.heap.size 29 _ _ rfl K7.out Tryz.underlying29 rfl (size_rx D6.out)) rfl ?_
   exact ⟨ds, rfl, V7.out, B7.out⟩
-- the part of the walk behind region 5 of stepCat: the way is made, Cat, one more way
def waysJ (l : List T) (b j : Nat) : List T := (List.range j).map fun i => catT (stepT (l.getD i noneT) b :: l.drop (i + 1))
theorem ways_next {l : List T} {b j : Nat} {u : T} (h : l[j]? = some u) : waysJ l b (j + 1) = waysJ l b j ++ [catT (stepT u b :: l.drop (j + 1))] := by
 unfold waysJ
 rw [List.range_succ, List.map_append]
 simp [List.getD, h]
theorem waysJ_cons (x : T) (r : List T) (b j : Nat) : waysJ (x :: r) b (j + 1) = catT (stepT x b :: r) :: waysJ r b j := by
 unfold waysJ
 rw [List.range_succ_eq_map, List.map_cons, List.map_map]
 rfl
theorem ways_at (b : Nat) : ∀ (l : List T) (j : Nat), (l.take j).all nullT = true → j ≤ l.length → waysT l b = waysJ l b j ++ waysT (l.drop j) b
 | l, 0, _, _ => by simp [waysJ]
 | [], j + 1, _, h => by simp at h
 | x :: r, j + 1, h, hj => by
  rw [List.take_succ_cons, List.all_cons, Bool.and_eq_true] at h
  rw [waysJ_cons, waysT, h.1, ways_at b r j h.2 (by simpa using hj), List.drop_succ_cons]
  rfl
theorem ways_stop {l : List T} {b j : Nat} {u : T} (h : l[j]? = some u) (ha : (l.take j).all nullT = true) (hu : nullT u = false) : waysT l b = waysJ l b j ++ [catT (stepT u b :: l.drop (j + 1))] := by
 obtain ⟨hi, rfl⟩ := List.getElem?_eq_some_iff.1 h
 rw [ways_at b l j ha (by omega), List.drop_eq_getElem_cons hi, waysT, hu]
 rfl
theorem ways_end {l : List T} {b : Nat} (ha : l.all nullT = true) : waysT l b = waysJ l b l.length := by
 rw [ways_at b l l.length (by rwa [List.take_length]) (Nat.le_refl _), List.drop_length, waysT, List.append_nil]
theorem waysJ_len (l : List T) (b j : Nat) : (waysJ l b j).length = j := by simp [waysJ]
set_option maxHeartbeats 8000000 in
set_option maxRecDepth 1000000 in
theorem lStepCat_any (N : Nat) (ih : StepC N) (l : List T) (hN : nodesL l ≤ N) (hM : nodesL l ≤ 2000) (hg : ∀ t ∈ l, good t) (b : UInt8) (v : Value) (w : World) (hr : RowT w.heap.size w v l) :
  Calls Tryz.prog 62 #[v, bv b] w fun e w' => ∃ ds, e = .returned (.agg ds.toArray) ∧ RxD (fun k => w.heap.size ≤ k ∧ k < w'.heap.size) w' ds (altT (waysT l b.toNat)) ∧ Below w.heap.size w w' := by
 have IH := qH ih
 clear ih
 have HR0 := qH hr
 have R := qH hr
 have HG := qH hg
 have HN := qH hN
 have HM := qH hM
 have HLL := qH (len_nodes l)
 obtain ⟨A, cap, f, rfl, h1, h2, h0, h3, h4⟩ := hr
 have H3 := qH h3
 have H4 := qH h4
 have HCL := qH h1
 have HCM := qH h2
 have HA0 := qH h0
 have HBT := qH (show b.toNat < 256 from b.toNat_lt)
 clear hg hN hM h0 h1 h2 h3 h4
 obtain ⟨i0, hi0, hz0, hz1, hz2⟩ := inf_rx'
 obtain ⟨z, hz⟩ : ∃ z, z = rxc 0 zeroS (.slice none 0 0) := ⟨_, rfl⟩
 have HZL := qH (show z.length = 6 by rw [hz]; rfl)
 have HZ0 := qH (show i0.zero = some (.agg z.toArray) by rw [hz]; exact hz0)
 have HZ1 := qH hz0
 clear hz hz0
 have HGM := qH (show ∀ t ∈ waysT l b.toNat, good t from ways_good HG.out b)
 have HNM := qH (show nodesL (waysT l b.toNat) ≤ 274877906944 by have := ways_few HG.out b HM.out; omega)
 go_enter Tryz.func62, Tryz.ntmps62
 go_wp2_with ((with_reducible refine atDst 4 ?_); refine wpList_new rfl 29 rfl i0 _ z hi0 HZ0.out rfl (Below.refl w.heap.size w) (Nat.le_refl _) ?_; intro w1 hk1 hb1 hs1 _; have K1 := qH hk1; have B1 := qH hb1; clear hk1 hb1 hs1; (try simp only [Act.put, qA, qB, qC]))
 go_loopw [5, 11] (fun v i wl => ∃ (v1 : Value) (j : Nat), v1 = v ∧ j ≤ l.length ∧ i = .int .i64 (j : Int) ∧ (l.take j).all nullT = true ∧ OwnT (fun q => w1.heap.size ≤ q) w1.heap.size wl v1 (waysJ l b.toNat j) ∧ Below w1.heap.size w1 wl) (fun _ i _ => l.length - (intOf i).toNat)
 case atStart => exact ⟨_, 0, rfl, by omega, by simp, by simp, OwnT.nil _ _ _, Below.refl _ _⟩
 case round =>
  obtain ⟨v1, j, rfl, hj, rfl, hf, ho, hb⟩ := hrel
  have HO := qH ho
  have HB := qH hb
  have HF := qH hf
  have BR := qH (B1.out.trans (hb.mono B1.out.size))
  clear ho hb hf
  by_cases hjl : j < l.length
  ·have HJL := qH hjl
   have j1 : (j : Int) < (l.length : Int) := Int.ofNat_lt.2 hjl
   obtain ⟨bb, off, rfl, hb, hrng⟩ := H3.out (by rintro rfl; simp at hjl)
   obtain ⟨u, hu⟩ : ∃ u, l[j]? = some u := ⟨_, List.getElem?_eq_getElem hjl⟩
   have HV := qH (RxV.part H4.out BR.out BR.out.size hu)
   have HV6 := qH HV.out.length
   have HV1 := qH (show (f j).all (·.oneCell') = true from List.all_eq_true.2 (RxD.one HV.out))
   have HRG := qH (range_below (hrng j hjl) BR.out hb)
   have HU := qH hu
   have HUN := qH (show u.nodes ≤ N by have h1 := nodes_mem (List.mem_of_getElem? hu); have := HN.out; omega)
   have HUM := qH (show u.nodes ≤ 2000 by have h1 := nodes_mem (List.mem_of_getElem? hu); have := HM.out; omega)
   have HUG := qH (HG.out u (List.mem_of_getElem? hu))
   have HJ1 := qH hjl
   have HLE := qH (show j + 1 ≤ 1099511627776 by have := HM.out; have := HLL.out; omega)
   have e3 := wrap_len hjl HCL.out HCM.out
   have e4 := wrap_len' hjl HCL.out HCM.out
   have HSW := qH HB.out.size
   clear hrng hu hb hj
   go_wp2_with (first
    | ((with_reducible refine atDst 15 ?_); refine wpList_load_mid rfl 29 _ rfl bb (off + j * 6) rfl (f j) _ HRG.out Tryz.underlying29 rfl (size_rx HV6.out) ?_; (try simp only [Act.put, qA, qB, qC]))
    | ((with_reducible refine atDst 7 ?_); refine wpList_new rfl 29 rfl i0 _ z hi0 HZ0.out rfl (Below.refl wr.heap.size wr) (Nat.le_refl _) ?_; intro w4 hk4 hb4 hs4 _; have K4 := qH hk4; have B4 := qH hb4; clear hk4 hb4 hs4; (try simp only [Act.put, qA, qB, qC]))
    | ((with_reducible refine atStore 29 7 15 ?_); refine wpList_stBlk rfl 29 _ _ rfl wr.heap.size (f j) rfl rfl 29 _ K4.out (size_rx HV6.out) (by rw [HZL.out, HV6.out]) HV1.out B4.out (Nat.le_refl _) ?_; intro w5 hk5 hb5 hs5 _; have K5 := qH hk5; have B5 := qH hb5; have O5 := qH (HO.out.stay hb5); clear hk5 hb5 hs5; (try simp only [Act.put, qA, qB, qC]))
    | ((with_reducible refine atDst 16 ?_); refine wpList_ldArr rfl 29 _ rfl wr.heap.size rfl 29 _ _ K5.out Tryz.underlying29 rfl (size_rx HV6.out) ?_; (try simp only [Act.put, qA, qB, qC])))
   have HLM := qH (show (waysJ l b.toNat j).length + 1 ≤ 1099511627776 by rw [waysJ_len]; exact HLE.out)
   have HCN := qH (show nodesL (stepT u b.toNat :: l.drop (j + 1)) ≤ 274877906944 by
    have h1 := step_few HUG.out b HUM.out
    have h2 := nodesL_append (l.take (j + 1)) (l.drop (j + 1))
    rw [List.take_append_drop] at h2
    have h3 := HM.out
    simp only [nodesL]
    omega)
   have HW5 := qH (show w.heap.size ≤ w5.heap.size from Nat.le_trans BR.out.size B5.out.size)
   have RDV := qH (HR0.out.below (B1.out.trans ((HB.out.trans (B5.out.mono HB.out.size)).mono B1.out.size)))
   refine sx_startB (B := w5.heap.size) (w0 := w5) (by kernel_rfl) (Below.refl _ _) (fun wd hwd hX => ?_)
   clear hwd
   have s0 : 0 ≤ (j : Int) + 1 := by omega
   have s1 : (j : Int) + 1 ≤ (l.length : Int) := by have := HJL.out; omega
   obtain ⟨A2, hA2⟩ : ∃ A2 : Option Addr, A2 = if cap = j + 1 then some ⟨bb, off, none⟩ else some ⟨bb, off + (j + 1) * 6, none⟩ := ⟨_, rfl⟩
   have HIF := qH hA2.symm
   have RDD := qH (show RowD (fun k => k < w.heap.size) w5 (.slice A2 (l.length - (j + 1)) (cap - (j + 1))) (l.drop (j + 1)) by rw [hA2]; exact rowD_drop (RowT.rowD RDV.out) HJL.out)
   clear hA2 hjl
   refine sx_take (i := 0) (oi := ⟨some 16, _, _, _, _, _⟩) (v := .agg (f j).toArray) rfl (by kernel_rfl) (by kernel_rfl) (by kernel_rfl) (fun _ _ _ h => h) rfl hX (ld_blk 29 _ rfl wr.heap.size rfl 29 _ _ K5.out K5.out.lt Tryz.underlying29 rfl (size_rx HV6.out)) ?_; simp only [Act.put, qA, qB, qC]
   refine sx_take (i := 1) (oi := ⟨some 17, _, _, _, _, _⟩) (v := ?_) rfl (by kernel_rfl) (by kernel_rfl) (by kernel_rfl) (fun _ _ _ h => h) rfl hX ?_ ?_; rotate_left; (intro W hW; go_simp; try with_reducible rfl); simp only [Act.put, qA, qB, qC]
   refine sx_take (i := 4) (oi := ⟨some 20, _, _, _, _, _⟩) (v := ?_) rfl (by kernel_rfl) (by kernel_rfl) (by kernel_rfl) (fun _ _ _ h => h) rfl hX ?_ ?_; rotate_left; (intro W hW; go_simp; try with_reducible rfl); simp only [Act.put, qA, qB, qC]
   refine sx_take (i := 5) (oi := ⟨some 21, _, _, _, _, _⟩) (v := ?_) rfl (by kernel_rfl) (by kernel_rfl) (by kernel_rfl) (fun _ _ _ h => h) rfl hX ?_ ?_; rotate_left; (intro W hW; go_simp; try with_reducible rfl); simp only [Act.put, qA, qB, qC]
   refine sx_take (i := 6) (oi := ⟨some 22, _, _, _, _, _⟩) (v := ?_) rfl (by kernel_rfl) (by kernel_rfl) (by kernel_rfl) (fun _ _ _ h => h) rfl hX ?_ ?_; rotate_left; (intro W hW; go_simp; try with_reducible rfl); simp only [Act.put, qA, qB, qC]
   refine sx_take (i := 7) (oi := ⟨some 23, _, _, _, _, _⟩) (v := .slice A2 (l.length - (j + 1)) (cap - (j + 1))) rfl (by kernel_rfl) (by kernel_rfl) (by kernel_rfl) (fun _ _ _ h => h) rfl hX (fun W _ => by (go_simp; rw [HIF.out])) ?_; simp only [Act.put, qA, qB, qC]
   refine sx_actB (i := 2) (o := ⟨some 18, _, _, _, _, _⟩) rfl (by kernel_rfl) rfl hX (fun K hK => ?_)
   go_wp2_with fail
   refine (IH.out u HUN.out HUM.out HUG.out b (f j) wd (RxV.mono (HV.out.stay (B5.out.trans (hX.mono B5.out.size))) (Nat.le_trans B5.out.size hX.size))).mono ?_
   rintro e w18 ⟨ds, rfl, hds, hb18⟩
   go_wp2_with fail
   refine hK _ _ (hb18.mono hX.size) ?_
   clear hK K
   (try simp only [Act.put, qA, qB, qC])
   have HDS := qH hds
   have HD6 := qH hds.length
   have SD := qH hX.size
   replace hX := hX.trans (hb18.mono hX.size)
   clear hds hb18
   refine sx_actB (i := 3) (o := ⟨some 19, _, _, _, _, _⟩) rfl (by kernel_rfl) rfl hX (fun K hK => ?_)
   refine wp_bldT1 27 29 (.tmp 18) rfl i0 Tryz.underlying27 hi0 HZ1.out hz1 ds HD6.out rfl ?_
   intro w19 hk19 hb19 hs19
   refine hK _ _ (hb19.mono hX.size) ?_
   clear hK K
   (try simp only [Act.put, qA, qB, qC])
   have O19 := qH (show OwnT (fun _ => True) w5.heap.size w19 (.slice (some ⟨w18.heap.size, 0, none⟩) 1 1) [stepT u b.toNat] from own_one hX.size hk19 ((HDS.out.stay (w' := w19) fun q hq => hb19.block q hq.2).mono fun q hq => ⟨trivial, Nat.lt_of_lt_of_le hq.2 hb19.size, Nat.ne_of_lt hq.2⟩))
   have S18 := qH hX.size
   replace hX := hX.trans (hb19.mono hX.size)
   clear hk19 hb19 hs19
   refine sx_actB (i := 8) (o := ⟨some 24, _, _, _, _, _⟩) rfl (by kernel_rfl) rfl hX (fun K hK => ?_)
   refine wp_appTs (D := fun _ => True) (D' := fun k => k < w.heap.size) (base := w5.heap.size) (.tmp 19) (.tmp 23) rfl i0 hi0 HZ1.out hz1 hz2 _ [stepT u b.toNat] rfl O19.out _ (l.drop (j + 1)) rfl (RDD.out.keep hX fun k hk => Nat.lt_of_lt_of_le hk HW5.out) (fun q hq => ⟨trivial, Nat.lt_of_lt_of_le hq (Nat.le_trans HW5.out hX.size), fun he => by have h1 : q = w18.heap.size := Option.some.inj he; have h2 := S18.out; have h3 := HW5.out; have h4 : q < w.heap.size := hq; omega⟩) (by rw [List.length_drop]; simp only [List.length_cons, List.length_nil]; have := HLL.out; have := HM.out; omega) hX.size ?_
   intro v24 w24 ho24 hg24
   have hY := (Below.refl w5.heap.size w19).grown hg24 hX.size (fun q hq => O19.out.ge q hq)
   have hX9 := hX.trans hY
   refine hK _ _ hY ?_
   clear hK K hY
   (try simp only [Act.put, qA, qB, qC])
   have O24 := qH (show OwnT (fun _ => True) w5.heap.size w24 v24 (stepT u b.toNat :: l.drop (j + 1)) from ho24)
   replace hX := hX9
   clear ho24 hg24 hX9
   refine sx_take (i := 9) (oi := ⟨some 8, _, _, _, _, _⟩) (v := ?_) rfl (by kernel_rfl) (by kernel_rfl) (by kernel_rfl) (fun _ _ _ h => h) rfl hX ?_ ?_; rotate_left; (intro W hW; go_simp; try with_reducible rfl); simp only [Act.put, qA, qB, qC]
   refine wpAnyH_done (by kernel_rfl) ?_ _
   have B24 := qH hX
   clear hX s0 s1
   go_wp2_with fail
   refine (rxCat_any _ _ w24 (O24.out.rowD.mono (D' := fun k => k < w24.heap.size) fun k hk => hk.2) HCN.out).mono ?_
   rintro e w27 ⟨es, rfl, hes, hb27⟩
   have HES := qH hes
   have HE6 := qH hes.length
   have OW := qH ((O5.out.stay B24.out).stay hb27)
   have B27 := qH (HB.out.trans ((B5.out.trans ((B24.out.trans (hb27.mono B24.out.size)).mono B5.out.size)).mono HB.out.size))
   have S57 := qH (show w1.heap.size ≤ w24.heap.size from Nat.le_trans HB.out.size (Nat.le_trans B5.out.size B24.out.size))
   have HLT := qH (fun q (hq : v1.ownBlock = some q) => show q < w24.heap.size from Nat.lt_of_lt_of_le (HO.out.lt q hq) (Nat.le_trans B5.out.size B24.out.size))
   have X27 := qH (K5.out.below (B24.out.trans (hb27.mono B24.out.size)) K5.out.lt)
   have HV27 := qH (RxV.mono (HV.out.stay (B5.out.trans ((B24.out.trans (hb27.mono B24.out.size)).mono B5.out.size))) (Nat.le_trans B5.out.size (Nat.le_trans B24.out.size hb27.size)))
   clear hes hb27
   go_wp2_with (first
    | ((with_reducible refine atDst 28 ?_); refine wpList_bldT1 rfl 27 29 (.tmp 27) rfl i0 Tryz.underlying27 hi0 HZ1.out hz1 es HE6.out rfl ?_; intro w28 hk7 hb7 hs7; have K28 := qH hk7; have O28 := qH (OW.out.stay hb7); have B28 := qH (B27.out.trans (hb7.mono B27.out.size)); have D28 := qH (RxD.mono (HES.out.stay (w' := w28) fun q hq => hb7.block q hq.2) (D' := fun q => w1.heap.size ≤ q ∧ q < w28.heap.size ∧ some q ≠ v1.ownBlock) fun q hq => ⟨Nat.le_trans S57.out hq.1, Nat.lt_of_lt_of_le hq.2 hb7.size, fun he => by have h1 := HLT.out q he.symm; have h2 := hq.1; omega⟩); have X28 := qH (X27.out.below hb7 X27.out.lt); have HV28 := qH (RxV.mono (HV27.out.stay hb7) hb7.size); clear hk7 hb7 hs7; (try simp only [Act.put, qA, qB, qC]))
    | ((with_reducible refine atDst 29 ?_); refine wpList_appT (D := fun q => w1.heap.size ≤ q) (base := w1.heap.size) rfl (.tmp 25) (.tmp 28) rfl i0 hi0 HZ1.out hz1 hz2 v1 _ rfl O28.out w27.heap.size 1 29 es _ rfl K28.out D28.out HLM.out B28.out.size ?_; intro v8 w8 ho8 hg8; have O8 := qH ho8; have B8 := qH (B28.out.grown hg8 B28.out.size (fun q hq => O28.out.ge q hq)); have X8 := qH (X28.out.grown hg8 (fun e => by have h1 := HO.out.lt _ e.symm; omega)); have BX8 := qH (B1.out.trans (B8.out.mono B1.out.size)); clear ho8 hg8; (try simp only [Act.put, qA, qB, qC]))
    | ((with_reducible refine atDst 30 ?_); refine wpList_ldArr rfl 29 _ rfl wr.heap.size rfl 29 _ _ X8.out Tryz.underlying29 rfl (size_rx HV6.out) ?_; (try simp only [Act.put, qA, qB, qC])))
   refine (lNull_any u (f j) w8 (RxV.part H4.out BX8.out BX8.out.size HU.out)).mono ?_
   rintro e w9 ⟨rfl, hb9⟩
   have O9 := qH (O8.out.stay hb9)
   have B9 := qH (B8.out.trans (hb9.mono B8.out.size))
   have BX9 := qH (BX8.out.trans (hb9.mono BX8.out.size))
   clear hb9
   obtain ⟨p, hp⟩ : ∃ p, p = nullT u := ⟨_, rfl⟩
   rw [← hp]
   cases p with
   | true =>
    have HP := qH hp
    clear hp
    go_wp2_with fail
    exact ⟨⟨_, j + 1, rfl, HJ1.out, by congr 1, all_next HU.out HF.out HP.out.symm, by rw [ways_next HU.out]; exact O9.out, B9.out⟩, by simpa [intOf] using sub_next HJ1.out⟩
   | false =>
    have HP := qH hp
    have HWE := qH (show waysJ l b.toNat j ++ [catT (stepT u b.toNat :: l.drop (j + 1))] = waysT l b.toNat from (ways_stop HU.out HF.out hp.symm).symm)
    clear hp
    have ho := O9.out
    rw [HWE.out] at ho
    have OZ := qH ho
    clear ho
    have KR := qH (K1.out.below B9.out K1.out.lt)
    go_wp2_with fail
    refine (rxAlt_any _ _ w9 (OZ.out.rowD.mono (D' := fun k => k < w9.heap.size) fun k hk => hk.2) HNM.out HGM.out).mono ?_
    rintro e w6 ⟨ds, rfl, hd6, hb6⟩
    have D6 := qH hd6.length
    have D1 := qH (show ds.all (·.oneCell') = true from List.all_eq_true.2 (RxD.one hd6))
    have B6 := qH (BX9.out.trans (hb6.mono BX9.out.size))
    have K6 := qH (KR.out.below hb6 KR.out.lt)
    have V6 := qH hd6
    have S6 := qH BX9.out.size
    have HK6 := qH KR.out.lt
    clear hd6 hb6
    go_wp2_with ((with_reducible refine atStore 29 4 35 ?_); refine wpList_stBlk rfl 29 _ _ rfl w.heap.size ds rfl rfl 29 _ K6.out (size_rx D6.out) (by rw [HZL.out, D6.out]) D1.out B6.out (Nat.le_refl _) ?_; intro w7 hk7 hb7 hs7 ho7; have K7 := qH hk7; have B7 := qH hb7; have V7 := qH ((V6.out.stay (w' := w7) fun k hk => ho7 k (by have h1 := hk.1; have h2 := HK6.out; omega)).mono (D' := fun k => w.heap.size ≤ k ∧ k < w7.heap.size) fun k hk => ⟨Nat.le_trans S6.out hk.1, by rw [hs7]; exact hk.2⟩); clear hk7 hb7 hs7 ho7; (try simp only [Act.put, qA, qB, qC]))
    refine bodyPost_ret (results_blk rfl _ _ w.heap.size 29 _ _ rfl K7.out Tryz.underlying29 rfl (size_rx D6.out)) rfl ?_
    exact ⟨ds, rfl, V7.out, B7.out⟩
  ·obtain rfl : j = l.length := by omega
   have j1 : ¬ ((l.length : Int) < (l.length : Int)) := by omega
   have ho := HO.out
   have HWE := qH (show waysT l b.toNat = waysJ l b.toNat l.length from ways_end (by have := HF.out; rwa [List.take_length] at this))
   rw [← HWE.out] at ho
   have O9 := qH ho
   have KR := qH (K1.out.below HB.out K1.out.lt)
   clear ho HO
   go_wp2_with fail
   refine (rxAlt_any _ _ wr (O9.out.rowD.mono (D' := fun k => k < wr.heap.size) fun k hk => hk.2) HNM.out HGM.out).mono ?_
   rintro e w6 ⟨ds, rfl, hd6, hb6⟩
   have D6 := qH hd6.length
   have D1 := qH (show ds.all (·.oneCell') = true from List.all_eq_true.2 (RxD.one hd6))
   have B6 := qH (BR.out.trans (hb6.mono BR.out.size))
   have K6 := qH (KR.out.below hb6 KR.out.lt)
   have V6 := qH hd6
   have S6 := qH BR.out.size
   have HK6 := qH KR.out.lt
   clear hd6 hb6
   go_wp2_with ((with_reducible refine atStore 29 4 35 ?_); refine wpList_stBlk rfl 29 _ _ rfl w.heap.size ds rfl rfl 29 _ K6.out (size_rx D6.out) (by rw [HZL.out, D6.out]) D1.out B6.out (Nat.le_refl _) ?_; intro w7 hk7 hb7 hs7 ho7; have K7 := qH hk7; have B7 := qH hb7; have V7 := qH ((V6.out.stay (w' := w7) fun k hk => ho7 k (by have h1 := hk.1; have h2 := HK6.out; omega)).mono (D' := fun k => w.heap.size ≤ k ∧ k < w7.heap.size) fun k hk => ⟨Nat.le_trans S6.out hk.1, by rw [hs7]; exact hk.2⟩); clear hk7 hb7 hs7 ho7; (try simp only [Act.put, qA, qB, qC]))
   refine bodyPost_ret (results_blk rfl _ _ w.heap.size 29 _ _ rfl K7.out Tryz.underlying29 rfl (size_rx D6.out)) rfl ?_
   exact ⟨ds, rfl, V7.out, B7.out⟩
mutual
theorem depth_nodes : ∀ t : T, t.depth ≤ t.nodes
 | .node _ _ l => by
  have := depthL_nodes l
  simp only [T.depth, T.nodes]
  omega
theorem depthL_nodes : ∀ l : List T, depthL l ≤ nodesL l
 | [] => Nat.le_refl _
 | t :: r => by
  have := depth_nodes t
  have := depthL_nodes r
  simp only [depthL, nodesL]
  omega
end
set_option maxHeartbeats 4000000 in
set_option maxRecDepth 1000000 in
theorem rxNodes_any : ∀ (N : Nat) (t : T), t.nodes ≤ N → t.nodes ≤ 1099511627776 → ∀ (cs : List Value) (w : World), RxV w.heap.size w cs t →
  Calls Tryz.prog 59 #[.agg cs.toArray] w fun e w' => e = .returned (.int .i64 (t.nodes : Int)) ∧ Below w.heap.size w w' := by
 intro N
 induction N with
 | zero => intro t h; have := nodes_pos t; omega
 | succ N ih =>
  rintro ⟨k, s, l⟩ hN hM cs w hv
  have IH := qH ih
  clear ih
  obtain ⟨A, cap, f, rfl, h1, h2, h0, h3, h4⟩ := hv.opened
  have H3 := qH h3
  have H4 := qH h4
  have HNN := qH (show T.nodes (.node k s l) = 1 + nodesL l by simp only [T.nodes])
  have HDD := qH (show T.depth (.node k s l) = depthL l + 1 by simp only [T.depth])
  rw [HNN.out] at hN hM
  have HN := qH hN
  have HM := qH hM
  have HCM := qH h2
  have HCL := qH h1
  obtain ⟨cs, hcs⟩ : ∃ cs, cs = Value.int .i64 k :: (wds s ++ [.slice A l.length cap]) := ⟨_, rfl⟩
  have HC5 := qH (show cs[5]? = some (.slice A l.length cap) by rw [hcs]; rfl)
  rw [← hcs]
  obtain ⟨i0, hi0, hz0, hz1, hz2⟩ := inf_rx'
  obtain ⟨z, hz⟩ : ∃ z, z = rxc 0 zeroS (.slice none 0 0) := ⟨_, rfl⟩
  have HZL := qH (show z.length = 6 by rw [hz]; rfl)
  have HZ0 := qH (show i0.zero = some (.agg z.toArray) by rw [hz]; exact hz0)
  have HZ1 := qH hz0
  clear hz hz0
  clear hv h1 h2 h0 h3 h4 hcs hN hM
  rw [HNN.out]
  go_enter Tryz.func59, Tryz.ntmps59
  go_wp2_with ((with_reducible refine atDst 1 ?_); refine wpList_box rfl 29 _ rfl cs rfl (Below.refl w.heap.size w) (Nat.le_refl _) ?_; intro w1 hk1 hb1 hs1 _; have K1 := qH hk1; have B1 := qH hb1; have k5 := hk1.cell 5; rw [HC5.out] at k5; clear hk1 hb1 hs1)
  go_loopw [3, 9] (fun n i wl => ∃ j : Nat, j ≤ l.length ∧ i = .int .i64 (j : Int) ∧ n = .int .i64 ((1 + nodesL (l.take j) : Nat) : Int) ∧ Below w1.heap.size w1 wl) (fun _ i _ => l.length - (intOf i).toNat)
  case atStart => exact ⟨0, by omega, by simp, by simp [nodesL], Below.refl _ _⟩
  case round =>
   obtain ⟨j, hj, rfl, rfl, hb⟩ := hrel
   have HB := qH hb
   clear hb
   by_cases hjl : j < l.length
   ·have j1 : (j : Int) < (l.length : Int) := Int.ofNat_lt.2 hjl
    obtain ⟨b, off, rfl, hb, hrng⟩ := H3.out (by rintro rfl; simp at hjl)
    have BW := qH (B1.out.trans (HB.out.mono B1.out.size))
    obtain ⟨u, hu⟩ : ∃ u, l[j]? = some u := ⟨_, List.getElem?_eq_getElem hjl⟩
    have HV := qH (RxV.part H4.out BW.out BW.out.size hu)
    have HV6 := qH HV.out.length
    have HV1 := qH (show (f j).all (·.oneCell') = true from List.all_eq_true.2 (RxD.one HV.out))
    have HRG := qH (range_below (hrng j hjl) BW.out hb)
    have HU := qH hu
    have HUN := qH (show u.nodes ≤ N by have h1 := nodes_mem (List.mem_of_getElem? hu); have := HN.out; omega)
    have HUM := qH (show u.nodes ≤ 1099511627776 by have h1 := nodes_mem (List.mem_of_getElem? hu); have := HM.out; omega)
    have HJ1 := qH hjl
    have e3 := wrap_len hjl HCL.out HCM.out
    have e4 := wrap_len' hjl HCL.out HCM.out
    clear hrng hu hb hj hjl
    obtain ⟨a, ha⟩ : ∃ a, a = 1 + nodesL (l.take j) := ⟨_, rfl⟩
    obtain ⟨c, hc⟩ : ∃ c, c = u.nodes := ⟨_, rfl⟩
    have HCC := qH hc
    have HS := qH (show a + c = 1 + nodesL (l.take (j + 1)) by rw [nodesL_next l j u HU.out, ha, hc]; omega)
    have hle : a + c ≤ 4611686018427387904 := by rw [HS.out]; have h1 := nodesL_take l (j + 1); have h2 := HM.out; omega
    have e5 := wrap_sum a c hle
    have e6 := wrap_sum' a c hle
    rw [← ha]
    clear ha hc hle
    go_wp2_with (first
     | ((with_reducible refine atDst 12 ?_); refine wpList_load_mid rfl 29 _ rfl b (off + j * 6) rfl (f j) _ HRG.out Tryz.underlying29 rfl (size_rx HV6.out) ?_; (try simp only [Act.put, qA, qB, qC]))
     | ((with_reducible refine atDst 5 ?_); refine wpList_new rfl 29 rfl i0 _ z hi0 HZ0.out rfl (Below.refl wr.heap.size wr) (Nat.le_refl _) ?_; intro w4 hk4 hb4 hs4 _; have K4 := qH hk4; have B4 := qH hb4; clear hk4 hb4 hs4; (try simp only [Act.put, qA, qB, qC]))
     | ((with_reducible refine atStore 29 5 12 ?_); refine wpList_stBlk rfl 29 _ _ rfl wr.heap.size (f j) rfl rfl 29 _ K4.out (size_rx HV6.out) (by rw [HZL.out, HV6.out]) HV1.out B4.out (Nat.le_refl _) ?_; intro w5 hk5 hb5 hs5 _; have K5 := qH hk5; have B5 := qH hb5; clear hk5 hb5 hs5; (try simp only [Act.put, qA, qB, qC]))
     | ((with_reducible refine atDst 14 ?_); refine wpList_ldArr rfl 29 _ rfl wr.heap.size rfl 29 _ _ K5.out Tryz.underlying29 rfl (size_rx HV6.out) ?_; (try simp only [Act.put, qA, qB, qC])))
    refine (IH.out u HUN.out HUM.out (f j) w5 (RxV.mono (HV.out.stay B5.out) B5.out.size)).mono ?_
    rintro e w6 ⟨rfl, hb6⟩
    have B6 := qH (HB.out.trans ((B5.out.trans (hb6.mono B5.out.size)).mono HB.out.size))
    clear hb6
    rw [← HCC.out]
    go_wp2_with fail
    exact ⟨⟨j + 1, HJ1.out, by congr 1, by rw [← HS.out]; congr 1, B6.out⟩, by simpa [intOf] using sub_next HJ1.out⟩
   ·obtain rfl : j = l.length := by omega
    have j1 : ¬ ((l.length : Int) < (l.length : Int)) := by omega
    have B9 := qH (B1.out.trans (HB.out.mono B1.out.size))
    rw [List.take_length]
    go_wp2_with fail
    go_ret
    exact ⟨rfl, B9.out⟩
set_option maxHeartbeats 4000000 in
set_option maxRecDepth 1000000 in
theorem rxDepth_any : ∀ (N : Nat) (t : T), t.nodes ≤ N → t.nodes ≤ 1099511627776 → ∀ (cs : List Value) (w : World), RxV w.heap.size w cs t →
  Calls Tryz.prog 60 #[.agg cs.toArray] w fun e w' => e = .returned (.int .i64 (t.depth : Int)) ∧ Below w.heap.size w w' := by
 intro N
 induction N with
 | zero => intro t h; have := nodes_pos t; omega
 | succ N ih =>
  rintro ⟨k, s, l⟩ hN hM cs w hv
  have IH := qH ih
  clear ih
  obtain ⟨A, cap, f, rfl, h1, h2, h0, h3, h4⟩ := hv.opened
  have H3 := qH h3
  have H4 := qH h4
  have HNN := qH (show T.nodes (.node k s l) = 1 + nodesL l by simp only [T.nodes])
  have HDD := qH (show T.depth (.node k s l) = depthL l + 1 by simp only [T.depth])
  rw [HNN.out] at hN hM
  have HN := qH hN
  have HM := qH hM
  have HCM := qH h2
  have HCL := qH h1
  obtain ⟨cs, hcs⟩ : ∃ cs, cs = Value.int .i64 k :: (wds s ++ [.slice A l.length cap]) := ⟨_, rfl⟩
  have HC5 := qH (show cs[5]? = some (.slice A l.length cap) by rw [hcs]; rfl)
  rw [← hcs]
  obtain ⟨i0, hi0, hz0, hz1, hz2⟩ := inf_rx'
  obtain ⟨z, hz⟩ : ∃ z, z = rxc 0 zeroS (.slice none 0 0) := ⟨_, rfl⟩
  have HZL := qH (show z.length = 6 by rw [hz]; rfl)
  have HZ0 := qH (show i0.zero = some (.agg z.toArray) by rw [hz]; exact hz0)
  have HZ1 := qH hz0
  clear hz hz0
  clear hv h1 h2 h0 h3 h4 hcs hN hM
  rw [HDD.out]
  go_enter Tryz.func60, Tryz.ntmps60
  go_wp2_with ((with_reducible refine atDst 1 ?_); refine wpList_box rfl 29 _ rfl cs rfl (Below.refl w.heap.size w) (Nat.le_refl _) ?_; intro w1 hk1 hb1 hs1 _; have K1 := qH hk1; have B1 := qH hb1; have k5 := hk1.cell 5; rw [HC5.out] at k5; clear hk1 hb1 hs1)
  go_loopw [3, 9] (fun n i wl => ∃ j : Nat, j ≤ l.length ∧ i = .int .i64 (j : Int) ∧ n = .int .i64 ((depthL (l.take j) : Nat) : Int) ∧ Below w1.heap.size w1 wl) (fun _ i _ => l.length - (intOf i).toNat)
  case atStart => exact ⟨0, by omega, by simp, by simp [depthL], Below.refl _ _⟩
  case round =>
   obtain ⟨j, hj, rfl, rfl, hb⟩ := hrel
   have HB := qH hb
   clear hb
   by_cases hjl : j < l.length
   ·have j1 : (j : Int) < (l.length : Int) := Int.ofNat_lt.2 hjl
    obtain ⟨b, off, rfl, hb, hrng⟩ := H3.out (by rintro rfl; simp at hjl)
    have BW := qH (B1.out.trans (HB.out.mono B1.out.size))
    obtain ⟨u, hu⟩ : ∃ u, l[j]? = some u := ⟨_, List.getElem?_eq_getElem hjl⟩
    have HV := qH (RxV.part H4.out BW.out BW.out.size hu)
    have HV6 := qH HV.out.length
    have HV1 := qH (show (f j).all (·.oneCell') = true from List.all_eq_true.2 (RxD.one HV.out))
    have HRG := qH (range_below (hrng j hjl) BW.out hb)
    have HU := qH hu
    have HUN := qH (show u.nodes ≤ N by have h1 := nodes_mem (List.mem_of_getElem? hu); have := HN.out; omega)
    have HUM := qH (show u.nodes ≤ 1099511627776 by have h1 := nodes_mem (List.mem_of_getElem? hu); have := HM.out; omega)
    have HJ1 := qH hjl
    have e3 := wrap_len hjl HCL.out HCM.out
    have e4 := wrap_len' hjl HCL.out HCM.out
    clear hrng hu hb hj hjl
    obtain ⟨a, ha⟩ : ∃ a, a = depthL (l.take j) := ⟨_, rfl⟩
    obtain ⟨c, hc⟩ : ∃ c, c = u.depth := ⟨_, rfl⟩
    have HCC := qH hc
    have HS := qH (show max a c = depthL (l.take (j + 1)) by rw [depthL_next l j u HU.out, ha, hc])
    rw [← ha]
    clear ha hc
    go_wp2_with (first
     | ((with_reducible refine atDst 12 ?_); refine wpList_load_mid rfl 29 _ rfl b (off + j * 6) rfl (f j) _ HRG.out Tryz.underlying29 rfl (size_rx HV6.out) ?_; (try simp only [Act.put, qA, qB, qC]))
     | ((with_reducible refine atDst 5 ?_); refine wpList_new rfl 29 rfl i0 _ z hi0 HZ0.out rfl (Below.refl wr.heap.size wr) (Nat.le_refl _) ?_; intro w4 hk4 hb4 hs4 _; have K4 := qH hk4; have B4 := qH hb4; clear hk4 hb4 hs4; (try simp only [Act.put, qA, qB, qC]))
     | ((with_reducible refine atStore 29 5 12 ?_); refine wpList_stBlk rfl 29 _ _ rfl wr.heap.size (f j) rfl rfl 29 _ K4.out (size_rx HV6.out) (by rw [HZL.out, HV6.out]) HV1.out B4.out (Nat.le_refl _) ?_; intro w5 hk5 hb5 hs5 _; have K5 := qH hk5; have B5 := qH hb5; clear hk5 hb5 hs5; (try simp only [Act.put, qA, qB, qC]))
     | ((with_reducible refine atDst 14 ?_); refine wpList_ldArr rfl 29 _ rfl wr.heap.size rfl 29 _ _ K5.out Tryz.underlying29 rfl (size_rx HV6.out) ?_; (try simp only [Act.put, qA, qB, qC])))
    refine (IH.out u HUN.out HUM.out (f j) w5 (RxV.mono (HV.out.stay B5.out) B5.out.size)).mono ?_
    rintro e w6 ⟨rfl, hb6⟩
    have B6 := qH (HB.out.trans ((B5.out.trans (hb6.mono B5.out.size)).mono HB.out.size))
    clear hb6
    rw [← HCC.out]
    go_wp2_with fail
    exact ⟨⟨j + 1, HJ1.out, by congr 1, by rw [← HS.out]; congr 1; omega, B6.out⟩, by simpa [intOf] using sub_next HJ1.out⟩
   ·obtain rfl : j = l.length := by omega
    have j1 : ¬ ((l.length : Int) < (l.length : Int)) := by omega
    have B9 := qH (B1.out.trans (HB.out.mono B1.out.size))
    rw [List.take_length]
    obtain ⟨a, ha⟩ : ∃ a, a = depthL l := ⟨_, rfl⟩
    have hle : a ≤ 4611686018427387904 := by rw [ha]; have h1 := depthL_nodes l; have := HM.out; omega
    rw [← ha]
    have e5 : IntKind.i64.wrap (1 + (a : Int)) = ((a + 1 : Nat) : Int) := by rw [Int.add_comm]; exact wrap_one' a hle
    have e6 : wrap64 (1 + (a : Int)) = ((a + 1 : Nat) : Int) := by rw [Int.add_comm]; exact wrap_one a hle
    have HAA := qH ha
    clear ha hle
    go_wp2_with fail
    go_ret
    exact ⟨congrArg (fun x : Nat => Ending.returned (.int .i64 ((x : Int) + 1))) HAA.out, B9.out⟩
theorem dear_sum {n d : Nat} (hn : n ≤ 400) (hd : d ≤ n) : n * n * d ≤ 64000000 := by
 have h1 : n * n ≤ 400 * 400 := Nat.mul_le_mul hn hn
 exact Nat.le_trans (Nat.mul_le_mul h1 (Nat.le_trans hd hn)) (by decide)
theorem mul_wrap {a b c : Nat} (h : c = a * b) (hc : c ≤ 64000000) : IntKind.i64.wrap ((a : Int) * (b : Int)) = (c : Int) := by
 rw [← Int.natCast_mul, ← h]
 exact IntWalk.i64_in _ (by omega)
theorem mul_wrap' {a b c : Nat} (h : c = a * b) (hc : c ≤ 64000000) : wrap64 ((a : Int) * (b : Int)) = (c : Int) := by
 rw [← Int.natCast_mul, ← h]
 exact IntWalk.wrap64_in _ (by omega)
set_option maxHeartbeats 1000000 in
set_option maxRecDepth 100000 in
theorem lDear_any (t : T) (hn : t.nodes ≤ 400) (cs : List Value) (w : World) (hv : RxV w.heap.size w cs t) :
  Calls Tryz.prog 39 #[.agg cs.toArray] w fun e w' => e = .returned (.bool false) ∧ Below w.heap.size w w' := by
 have V := qH hv
 have HC6 := qH hv.length
 have HM := qH (show t.nodes ≤ 1099511627776 by omega)
 obtain ⟨n, hnn⟩ : ∃ n, n = t.nodes := ⟨_, rfl⟩
 obtain ⟨d, hd⟩ : ∃ d, d = t.depth := ⟨_, rfl⟩
 have HNN := qH hnn
 have HDD := qH hd
 have hs := dear_sum (n := n) (d := d) (by rw [hnn]; exact hn) (by rw [hnn, hd]; exact depth_nodes t)
 obtain ⟨q, hq⟩ : ∃ q, q = n * n := ⟨_, rfl⟩
 obtain ⟨r, hr⟩ : ∃ r, r = q * d := ⟨_, rfl⟩
 have hnq : q ≤ 160000 := by rw [hq, hnn]; exact Nat.le_trans (Nat.mul_le_mul hn hn) (by decide)
 have hrr : r ≤ 64000000 := by rw [hr, hq]; exact hs
 have m5 : ¬ ((64000000 : Int) < (r : Int)) := by omega
 have hq6 : q ≤ 64000000 := by omega
 have m1 := mul_wrap hq hq6
 have m2 := mul_wrap' hq hq6
 have m3 := mul_wrap hr hrr
 have m4 := mul_wrap' hr hrr
 have M5 := qH m5
 clear hv hn hnn hd hs hq hr hnq hrr hq6
 go_enter Tryz.func39, Tryz.ntmps39
 go_wp2_with (first
  | ((with_reducible refine atDst 1 ?_); refine wpList_box rfl 29 _ rfl cs rfl (Below.refl w.heap.size w) (Nat.le_refl _) ?_; intro w1 hk1 hb1 hs1 _; have K1 := qH hk1; have B1 := qH hb1; clear hk1 hb1 hs1; (try simp only [Act.put, qA, qB, qC]))
  | ((with_reducible refine atDst 4 ?_); refine wpList_ldArr rfl 29 _ rfl w.heap.size rfl 29 _ _ K1.out Tryz.underlying29 rfl (size_rx HC6.out) ?_; (try simp only [Act.put, qA, qB, qC])))
 refine (rxNodes_any _ t (Nat.le_refl _) HM.out cs w1 ((V.out.stay B1.out).mono B1.out.size)).mono ?_
 rintro e w2 ⟨rfl, hb2⟩
 rw [← HNN.out]
 have B2 := qH (B1.out.trans (hb2.mono B1.out.size))
 have K2 := qH (K1.out.below hb2 K1.out.lt)
 clear hb2
 go_wp2_with ((with_reducible refine atDst 9 ?_); refine wpList_ldArr rfl 29 _ rfl w.heap.size rfl 29 _ _ K2.out Tryz.underlying29 rfl (size_rx HC6.out) ?_; (try simp only [Act.put, qA, qB, qC]))
 refine (rxDepth_any _ t (Nat.le_refl _) HM.out cs w2 ((V.out.stay B2.out).mono B2.out.size)).mono ?_
 rintro e w3 ⟨rfl, hb3⟩
 rw [← HDD.out]
 have B3 := qH (B2.out.trans (hb3.mono B2.out.size))
 clear hb3
 go_wp2_with fail
 go_ret
 refine ⟨?_, B3.out⟩
 show Ending.returned (Value.bool (decide ((64000000 : Int) < (r : Int)))) = _
 rw [decide_eq_false (show ¬ ((64000000 : Int) < (r : Int)) from by have := M5.out; omega)]
end Go.Proofs.YtopnpdobcagcgaaGreat
