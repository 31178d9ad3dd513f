/-
  Texts of this proof, put together: RxK, RxF, RxEp, RxIp, RxW, SetO. No statement is proved here.
-/
import Derived.Test.YtopnpdobcagcgaaGreatMC
import Derived.Test.YtopnpdobcagcgaaGreatMB
namespace Go.Proofs.YtopnpdobcagcgaaGreat
open Go.RowKit
set_option linter.unusedSimpArgs false
set_option linter.unusedVariables false
section
variable {P : Program} {w : World} {ops : Array Oper} {rest : List Oper} {o : Oper} {a : Act} {Q : Exit → Act → World → Prop}
theorem run_bldT1 (t e : TypeId) (i : TypeInfo) (ht : P.underlying t = some (.slice e)) (hi : P.info? e = some i) (hz : i.zero = some (.agg (Value.int .i64 0 :: (wds (fun _ => false) ++ [.slice none 0 0])).toArray)) (hs : i.size = 6) (ds : List Value) (hl : ds.length = 6) :
  (Instr.buildSlice t 1 #[(0, .agg ds.toArray)]).run P w = .ok (.slice (some ⟨w.heap.size, 0, none⟩) 1 1) (w.alloc (.cells ds.toArray e)) := by
 have hzv : (zeroValue e).run P w = .ok (.agg (Value.int .i64 0 :: (wds (fun _ => false) ++ [.slice none 0 0])).toArray) w := by simp [zeroValue, typeInfo, hi, hz]
 match ds, hl with
 | [d0, d1, d2, d3, d4, d5], _ =>
  simp [Instr.buildSlice, run_underlying ht, sizeOf, typeInfo, hi, hs, hzv, Value.cells, Instr.fill, wds, Array.range_succ, Array.range_zero', newRow]
theorem wpList_bldT1 (hg : o.guard = none) (t e : TypeId) (x : Operand) (ho : o.op = .buildSlice t 1 #[(0, x)]) (i : TypeInfo) (ht : P.underlying t = some (.slice e)) (hi : P.info? e = some i) (hz : i.zero = some (.agg (Value.int .i64 0 :: (wds (fun _ => false) ++ [.slice none 0 0])).toArray)) (hs : i.size = 6) (ds : List Value) (hl : ds.length = 6)
  (hx : a.eval x = .agg ds.toArray)
  (h : ∀ w', Blk w' w.heap.size e ds → Below w.heap.size w w' → w'.heap.size = w.heap.size + 1 → wpList P ops Q rest (a.put o.dst (.slice (some ⟨w.heap.size, 0, none⟩) 1 1)) w') : wpList P ops Q (o :: rest) a w := by
 refine wpList_plain hg fun K hK => ?_
 have hrun := run_bldT1 (P := P) (w := w) t e i ht hi hz hs ds hl
 unfold Oper.wp
 simp only [execOp, ho, List.map_toArray, List.map_cons, List.map_nil, hx, hrun, Sem.run_bind, Result.andThen_ok, Sem.run_pure]
 exact hK _ _ (h _ (Blk.new w e _) ((Below.refl _ _).alloc (Nat.le_refl _) _) (by simp))
end
set_option maxHeartbeats 4000000 in
set_option maxRecDepth 100000 in
theorem refCopy_any : ∀ (N : Nat) (t : T), t.nodes ≤ N → t.nodes ≤ 1099511627776 → ∀ (cs : List Value) (w : World), RxV w.heap.size w cs t →
  Calls Tryz.prog 11 #[.agg cs.toArray] w fun e w' => ∃ ds, e = .returned (.agg ds.toArray) ∧ RxD (fun k => w.heap.size ≤ k ∧ k < w'.heap.size) w' ds t ∧ Below w.heap.size w w' := by
 intro N
 induction N with
 | zero => intro t h; have := nodes_pos t; omega
 | succ N ih =>
  rintro ⟨k, s, l⟩ hN hM cs w hv
  have IH := qH ih
  clear ih
  obtain ⟨A, cap, f, rfl, h1, h2, h0, h3, h4⟩ := hv.opened
  have H3 := qH h3
  have H4 := qH h4
  have HNN := qH (show T.nodes (.node k s l) = 1 + nodesL l by simp only [T.nodes])
  rw [HNN.out] at hN hM
  have HN := qH hN
  have HM := qH hM
  obtain ⟨cs, hcs⟩ : ∃ cs, cs = Value.int .i64 k :: (wds s ++ [.slice A l.length cap]) := ⟨_, rfl⟩
  have HCL := qH (show cs.length = 6 by rw [hcs]; rfl)
  have HC5 := qH (show cs[5]? = some (.slice A l.length cap) by rw [hcs]; rfl)
  have HST := qH (show ∀ v, cs.set 5 v = Value.int .i64 k :: (wds s ++ [v]) by rw [hcs]; intro v; rfl)
  have HLL := qH (len_nodes l)
  rw [← hcs]
  obtain ⟨i0, hi0, hz0, hz1, hz2⟩ := infoP inf_rx
  obtain ⟨z, hz⟩ : ∃ z, z = Value.int .i64 0 :: (wds (fun _ => false) ++ [Value.slice none 0 0]) := ⟨_, rfl⟩
  have HZ := qH hz
  have HZL := qH (show z.length = 6 by rw [hz]; rfl)
  have HZ0 := qH (show i0.zero = some (.agg z.toArray) by rw [hz]; exact hz0)
  have HZ1 := qH hz0
  clear hv h1 h2 h0 h3 h4 hcs hN hM hz hz0
  go_enter Tryz.func11, Tryz.ntmps11
  go_wp2_with (first
   | ((with_reducible refine atDst 1 ?_); refine wpList_box rfl 29 _ rfl cs rfl (Below.refl w.heap.size w) (Nat.le_refl _) ?_; intro w1 hk1 hb1 hs1 _; have K1 := qH hk1; have B1 := qH hb1; clear hk1 hb1 hs1)
   | ((with_reducible refine atDst 2 ?_); refine wpList_new rfl 29 rfl i0 _ z hi0 HZ0.out rfl (Below.refl w1.heap.size w1) (Nat.le_refl _) ?_; intro w2 hk2 hb2 hs2 _; have M2 := qH hk2; have B2 := qH (B1.out.trans (hb2.mono B1.out.size)); have K2 := qH (K1.out.below hb2 K1.out.lt); have G12 := qH K1.out.lt; clear hk2 hb2 hs2 K1 B1))
  go_loopw [3, 4] (fun v i wl => ∃ j : Nat, j ≤ l.length ∧ i = .int .i64 (j : Int) ∧ OwnT (fun q => w2.heap.size ≤ q) w2.heap.size wl v (l.take j) ∧ Below w2.heap.size w2 wl) (fun _ i _ => l.length - (intOf i).toNat)
  case atStart => exact ⟨0, by omega, by simp, OwnT.nil _ _ _, Below.refl _ _⟩
  case round =>
   obtain ⟨j, hj, rfl, ho, hb⟩ := hrel
   have HO := qH ho
   have HB := qH hb
   clear ho hb
   have KR := qH (K2.out.below HB.out K2.out.lt)
   have c5 := KR.out.cell 5
   rw [HC5.out] at c5
   by_cases hjl : j < l.length
   ·have j1 : (j : Int) < (l.length : Int) := Int.ofNat_lt.2 hjl
    obtain ⟨b, off, rfl, hb, hrng⟩ := H3.out (by rintro rfl; simp at hjl)
    have BW := qH (B2.out.trans (HB.out.mono B2.out.size))
    obtain ⟨u, hu⟩ : ∃ u, l[j]? = some u := ⟨_, List.getElem?_eq_getElem hjl⟩
    have HV := qH (RxV.part H4.out BW.out BW.out.size hu)
    have HRG := qH (range_below (hrng j hjl) BW.out hb)
    have hmem := nodes_mem (List.mem_of_getElem? hu)
    have HTK := qH (show l.take (j + 1) = l.take j ++ [u] by
     obtain ⟨hi, rfl⟩ := List.getElem?_eq_some_iff.1 hu
     exact List.take_succ_eq_append_getElem hi)
    have HUN := qH (show u.nodes ≤ N by have := HN.out; omega)
    have HUM := qH (show u.nodes ≤ 1099511627776 by have := HM.out; omega)
    have hj62 : j ≤ 4611686018427387904 := by have := HM.out; have := HLL.out; omega
    have e3 := wrap_one j hj62
    have e4 := wrap_one' j hj62
    have HLE := qH (show (l.take j).length + 1 ≤ 1099511627776 by rw [List.length_take]; have := HM.out; have := HLL.out; omega)
    clear hrng hu hmem hj62 hb
    go_wp2_with ((with_reducible refine atDst 17 ?_); refine wpList_load_mid rfl 29 _ rfl b (off + j * 6) rfl (f j) _ HRG.out Tryz.underlying29 rfl (size_rx HV.out.length) ?_)
    refine (IH.out u HUN.out HUM.out (f j) wr HV.out).mono ?_
    rintro e w3 ⟨ds, rfl, hds, hb3⟩
    have HDS := qH hds
    have HD6 := qH hds.length
    have O3 := qH (HO.out.stay hb3)
    have HLT3 := qH (fun q hq => (HO.out.lt q hq))
    have B3 := qH (HB.out.trans (hb3.mono HB.out.size))
    have SR := qH HB.out.size
    clear hds hb3
    go_wp2_with (first
     | ((with_reducible refine atDst 19 ?_); refine wpList_bldT1 rfl 27 29 (.tmp 18) rfl i0 Tryz.underlying27 hi0 HZ1.out hz1 ds HD6.out rfl ?_; intro w4 hk4 hb4 hs4; have K4 := qH hk4; have O4 := qH (O3.out.stay hb4); have B4 := qH (B3.out.trans (hb4.mono B3.out.size)); have D4 := qH ((HDS.out.stay (w' := w4) fun q hq => hb4.block q hq.2).mono (D' := fun q => wr.heap.size ≤ q ∧ q < w4.heap.size) fun q hq => ⟨hq.1, Nat.lt_of_lt_of_le hq.2 hb4.size⟩); clear hk4 hb4 hs4)
     | ((with_reducible refine atDst 20 ?_); refine wpList_appT (base := w2.heap.size) rfl (.tmp 12) (.tmp 19) rfl i0 hi0 HZ1.out hz1 hz2 _ (l.take j) rfl O4.out w3.heap.size 1 29 ds u rfl K4.out (D4.out.mono fun q hq => ⟨Nat.le_trans SR.out hq.1, hq.2, fun he => by have h5 := HLT3.out q he.symm; have h6 := hq.1; omega⟩) HLE.out B4.out.size ?_; intro v5 w5 ho5 hg5; have O5 := qH ho5; have B5 := qH (B4.out.grown hg5 B4.out.size (fun q hq => O4.out.ge q hq)); clear ho5 hg5))
    refine ⟨⟨j + 1, by omega, by congr 1, by rw [HTK.out]; exact O5.out, B5.out⟩, by simp [intOf] <;> omega⟩
   ·obtain rfl : j = l.length := by omega
    have j1 : ¬ ((l.length : Int) < (l.length : Int)) := by omega
    have ho := HO.out
    rw [List.take_length] at ho
    have O9 := qH ho
    have hfz := KR.out.frozen 5
    have MR := qH (M2.out.below HB.out M2.out.lt)
    have B9 := qH (B2.out.trans (HB.out.mono B2.out.size))
    obtain ⟨A3, cap3, rfl⟩ := O9.out.slice
    have KS := qH (show Blk (wr.setCell ⟨w.heap.size, 5, none⟩ (.slice A3 l.length cap3)) w.heap.size 29 (Value.int .i64 k :: (wds s ++ [.slice A3 l.length cap3])) by
     have := KR.out.set 5 (.slice A3 l.length cap3)
     rw [HST.out] at this
     exact this)
    obtain ⟨ds, hds⟩ : ∃ ds, ds = Value.int .i64 k :: (wds s ++ [.slice A3 l.length cap3]) := ⟨_, rfl⟩
    have HD6 := qH (show ds.length = 6 by rw [hds]; rfl)
    have KS' := qH (show Blk (wr.setCell ⟨w.heap.size, 5, none⟩ (.slice A3 l.length cap3)) w.heap.size 29 ds by rw [hds]; exact KS.out)
    have MS := qH (show Blk (wr.setCell ⟨w.heap.size, 5, none⟩ (.slice A3 l.length cap3)) w1.heap.size 29 z from MR.out.far (by have := G12.out; show w1.heap.size ≠ w.heap.size; omega) _)
    have BS := qH (show Below w.heap.size w (wr.setCell ⟨w.heap.size, 5, none⟩ (.slice A3 l.length cap3)) from B9.out.setCell (Nat.le_refl _) _)
    have GM := qH M2.out.lt
    have DS := qH (show RxD (fun b => w2.heap.size ≤ b ∧ b < wr.heap.size) (wr.setCell ⟨w.heap.size, 5, none⟩ (.slice A3 l.length cap3)) ds (.node k s l) by
     rw [hds]
     refine ((O9.out.rx k s).mono (D' := fun b => w2.heap.size ≤ b ∧ b < wr.heap.size) fun q hq => ⟨hq.1.elim id id, hq.2⟩).stay fun q hq => Below.heap_setCell wr ⟨w.heap.size, 5, none⟩ _ q ?_
     have h1 := hq.1
     have h2 := GM.out
     have h3 := G12.out
     show q ≠ w.heap.size
     omega)
    have HO1 := qH (show ds.all (·.oneCell') = true from List.all_eq_true.2 DS.out.one)
    have SZ9 := qH (show (wr.setCell ⟨w.heap.size, 5, none⟩ (.slice A3 l.length cap3)).heap.size = wr.heap.size by simp)
    clear ho HO hds KS
    go_wp2_with (first
     | ((with_reducible refine atDst 23 ?_); refine wpList_ldArr rfl 29 _ rfl w.heap.size rfl 29 _ _ KS'.out Tryz.underlying29 rfl (size_rx HD6.out) ?_)
     | ((with_reducible refine atStore 29 2 23 ?_); refine wpList_stBlk rfl 29 _ _ rfl w1.heap.size ds rfl rfl 29 _ MS.out (size_rx HD6.out) (by rw [HZL.out, HD6.out]) HO1.out BS.out (Nat.le_of_lt G12.out) ?_; intro w6 hk6 hb6 hs6 ho6; have K6 := qH hk6; have B6 := qH hb6; have D6 := qH ((DS.out.stay (w' := w6) fun q hq => ho6 q (by have h1 := hq.1; have h2 := GM.out; omega)).mono (D' := fun q => w.heap.size ≤ q ∧ q < w6.heap.size) fun q hq => ⟨by have h1 := hq.1; have h2 := GM.out; have h3 := G12.out; omega, by have h1 := hq.2; have h2 := SZ9.out; omega⟩); clear hk6 hb6 hs6 ho6))
    refine bodyPost_ret (results_blk rfl _ _ w1.heap.size 29 _ _ rfl K6.out Tryz.underlying29 rfl (size_rx HD6.out)) rfl ?_
    exact ⟨ds, rfl, D6.out, B6.out⟩
section
variable {w : World} {ops : Array Oper} {rest : List Oper} {o : Oper} {a : Act} {Q : Exit → Act → World → Prop}
set_option maxRecDepth 100000 in
theorem wpList_appTs {D D' : Nat → Prop} {base : Nat} (hgd : o.guard = none) (s x : Operand)
  (ho : o.op = .call { callee := .builtin .append, args := #[s, x], argTypes := #[27, 27] })
  (i : TypeInfo) (hi : Tryz.prog.info? 29 = some i) (hz : i.zero = some (.agg (Value.int .i64 0 :: (wds (fun _ => false) ++ [.slice none 0 0])).toArray))
  (hsize : i.size = 6) (hby : i.bytes = 64)
  (v : Value) (l : List T) (hs : a.eval s = v) (hown : OwnT D base w v l)
  (u : Value) (m : List T) (hx : a.eval x = u) (hr : RowD D' w u m) (hD : ∀ k, D' k → D k ∧ k < w.heap.size ∧ some k ≠ v.ownBlock)
  (hlen : l.length + m.length ≤ 1099511627776) (hb : base ≤ w.heap.size)
  (h : ∀ v' w', OwnT D base w' v' (l ++ m) → w.grownBy w' v.ownBlock → wpList Tryz.prog ops Q rest (a.put o.dst v') w') : wpList Tryz.prog ops Q (o :: rest) a w := by
 obtain ⟨A, cap, f, rfl, r1, r2, r0, r3, r4⟩ := hr
 cases A with
 | none =>
  have hcap : cap = 0 := r0 rfl
  subst hcap
  have hn : m = [] := List.eq_nil_of_length_eq_zero (by omega)
  subst hn
  obtain ⟨cells, h1, h2, h3, h4⟩ := hown
  have hrun := run_append_owned_none (P := Tryz.prog) (w := w) base 27 o.type 29 i 6 Tryz.underlying27 hi v _ _ h3
  refine wpList_plain hgd fun K hK => ?_
  unfold Oper.wp
  simp at hx
  simp [execOp, ho, resolve, invoke, builtin, hs, hx, hrun, Result.andThen]
  exact hK _ _ (h v w (by simpa using ⟨cells, h1, h2, h3, h4⟩) (World.grownBy.refl _ _))
 | some ad =>
  obtain ⟨cells, h1, h2, h3, h4⟩ := hown
  obtain ⟨ms, hms⟩ : ∃ ms, ms = (List.range m.length).map f := ⟨_, rfl⟩
  have hml : ms.length = m.length := by rw [hms]; simp
  have hmi : ∀ (j : Nat) (c : List Value), ms[j]? = some c → j < m.length ∧ c = f j := fun j c hc => by
   have hj : j < m.length := by have := (List.getElem?_eq_some_iff.1 hc).1; omega
   rw [hms, List.getElem?_map, List.getElem?_range hj] at hc
   exact ⟨hj, by simpa using hc.symm⟩
  have hel : ∀ (j : Nat) (c : List Value) (t : T), ms[j]? = some c → m[j]? = some t → RxD D' w c t := fun j c t hc ht => by
   obtain ⟨_, rfl⟩ := hmi j c hc
   exact r4 j t ht
  have hm6 : ∀ c ∈ ms, c.length = 6 := fun c hc => by
   obtain ⟨j, hj⟩ := List.getElem?_of_mem hc
   exact (hel j c (m[j]'((hmi j c hj).1)) hj (List.getElem?_eq_getElem _)).length
  have hone : ∀ x ∈ ms.flatten, x.oneCell' = true := fun x hx => by
   obtain ⟨c, hc, hxc⟩ := List.mem_flatten.1 hx
   obtain ⟨j, hj⟩ := List.getElem?_of_mem hc
   exact RxD.one (hel j c (m[j]'((hmi j c hj).1)) hj (List.getElem?_eq_getElem _)) x hxc
  have hfl := flat6_len hm6
  have hnews : ∀ j x, ms.flatten[j]? = some x → w.cell? (ad.add j) = some x := fun j x hj => by
   have hlt : j < ms.length * 6 := by rw [← hfl]; exact (List.getElem?_eq_some_iff.1 hj).1
   have hk : j / 6 < ms.length := by omega
   have hg := flat6_get hm6 (List.getElem?_eq_getElem hk) (j % 6) (Nat.mod_lt _ (by omega))
   rw [show j / 6 * 6 + j % 6 = j by omega, hj] at hg
   obtain ⟨b, off, hA, _, hcell⟩ := r3 (fun he => by rw [he] at hml; simp only [List.length_nil] at hml; omega)
   injection hA with hA
   subst hA
   have hf := (hmi (j / 6) ms[j / 6] (List.getElem?_eq_getElem hk)).2
   rw [hf] at hg
   have := hcell (j / 6) (by omega) (j % 6) x hg.symm
   rw [show off + j / 6 * 6 + j % 6 = off + j by omega] at this
   rw [Addr.add_lit]
   exact this
  obtain ⟨v', w', hrun, hown', hgr, _⟩ := run_append_own (P := Tryz.prog) w base 27 o.type 29 i _ 6 64 Tryz.underlying27 hi hz hsize hby (by simp [Value.cells, wds]) (by omega) v l.length cells.flatten h3 ad m.length cap ms.flatten (by rw [hfl, hml]) hnews hone (by unfold maxLen; omega) (by omega) hb
  have hwh := append_where (P := Tryz.prog) (w := w) base 27 o.type 29 i _ 6 64 Tryz.underlying27 hi hz hsize hby (by omega) v l.length cells.flatten h3 ad m.length cap ms.flatten (by rw [hfl, hml]) hnews hone (by unfold maxLen; omega) (by omega) hrun
  refine wpList_plain hgd fun K hK => ?_
  unfold Oper.wp execOp
  simp only [ho, resolve, invoke, builtin, Sem.run_bind, Sem.run_pure, Result.andThen_ok, List.map_toArray, List.map_cons, List.map_nil, hs, hx, hrun]
  refine hK _ _ (h v' w' ⟨cells ++ ms, by simp [h1, hml], fun d hd => ?_, ?_, fun j d t hd ht => ?_⟩ hgr)
  ·rcases List.mem_append.1 hd with hd | hd
   ·exact h2 d hd
   ·exact hm6 d hd
  ·rw [List.flatten_append, List.length_append]
   exact hown'
  ·have key : RxD (fun k => D k ∧ k < w.heap.size ∧ some k ≠ v.ownBlock) w d t := by
    by_cases hj : j < l.length
    ·rw [List.getElem?_append_left (by omega)] at hd ht
     exact h4 j d t hd ht
    ·rw [List.getElem?_append_right (by omega)] at hd ht
     rw [h1] at hd
     exact RxD.mono (hel _ d t hd ht) fun k hk => hD k hk
   refine (key.stay fun k hk => hgr.block k hk.2.1 hk.2.2).mono fun k hk => ⟨hk.1, Nat.lt_of_lt_of_le hk.2.1 hgr.size, fun he => ?_⟩
   rcases hwh k he.symm with h | h
   ·exact hk.2.2 h.symm
   ·have := hk.2.1
    omega
end
def flatT (k : Int) (l : List T) : List T := l.flatMap fun t => if t.kind = k then t.args else [t]
theorem flatT_next (k : Int) (l : List T) (j : Nat) (t : T) (h : l[j]? = some t) : flatT k (l.take (j + 1)) = flatT k (l.take j) ++ if t.kind = k then t.args else [t] := by
 obtain ⟨hi, rfl⟩ := List.getElem?_eq_some_iff.1 h
 unfold flatT
 rw [List.take_succ_eq_append_getElem hi, List.flatMap_append, List.flatMap_cons, List.flatMap_nil, List.append_nil]
theorem flatT_len (k : Int) : ∀ l : List T, (flatT k l).length ≤ nodesL l
 | [] => Nat.le_refl _
 | t :: r => by
  have ih := flatT_len k r
  have e : flatT k (t :: r) = (if t.kind = k then t.args else [t]) ++ flatT k r := by simp [flatT]
  rw [e, List.length_append]
  cases t with
  | node k' s l =>
   have h1 := len_nodes l
   by_cases hk : (T.node k' s l).kind = k
   ·rw [if_pos hk]
    simp only [nodesL, T.nodes, T.args]
    omega
   ·rw [if_neg hk]
    simp only [nodesL, T.nodes, List.length_cons, List.length_nil]
    omega
def zeroS : Nat → Bool := fun _ => false
def rxc (k : Int) (s : Nat → Bool) (v : Value) : List Value := Value.int .i64 k :: (wds s ++ [v])
theorem rx_leaf (D : Nat → Prop) (w : World) (k : Int) (s : Nat → Bool) : RxD D w (rxc k s (.slice none 0 0)) (.node k s []) :=
 .node (l := []) (fun _ => []) (Nat.le_refl _) (Nat.zero_le _) (fun _ => rfl) (fun h => absurd rfl h) (fun i t h => by simp at h)
def noneT : T := .node 1 zeroS []
def emptyT : T := .node 2 zeroS []
def bytesT (s : Nat → Bool) : T := if eqS s zeroS then noneT else .node 3 s []
theorem inf_rx' : ∃ i, Tryz.prog.info? 29 = some i ∧ i.zero = some (.agg (rxc 0 zeroS (.slice none 0 0)).toArray) ∧ i.size = 6 ∧ i.bytes = 64 := infoP inf_rx
theorem built0 (k : Int) : Tryz.prog.built 29 [(0, .int .i64 k)] = some (rxc k zeroS (.slice none 0 0)).toArray := by kernel_rfl
theorem built01 (k : Int) (s : Nat → Bool) : Tryz.prog.built 29 [(0, .int .i64 k), (1, .agg (wds s).toArray)] = some (rxc k s (.slice none 0 0)).toArray := by kernel_rfl
theorem built02 (k : Int) (v : Value) (A : Option Addr) (n c : Nat) (hv : v = .slice A n c) : Tryz.prog.built 29 [(0, .int .i64 k), (2, v)] = some (rxc k zeroS v).toArray := by subst hv; kernel_rfl
theorem builtS : Tryz.prog.built 26 [] = some (wds zeroS).toArray := by kernel_rfl
set_option maxHeartbeats 2000000 in
set_option maxRecDepth 100000 in
theorem refNone_any (w : World) : Calls Tryz.prog 44 #[] w fun e w' => ∃ ds, e = .returned (.agg ds.toArray) ∧ (∀ D, RxD D w' ds noneT) ∧ Below w.heap.size w w' := by
 obtain ⟨i0, hi0, hz0, hz1, hz2⟩ := inf_rx'
 obtain ⟨z, hz⟩ : ∃ z, z = rxc 0 zeroS (.slice none 0 0) := ⟨_, rfl⟩
 have HZL := qH (show z.length = 6 by rw [hz]; rfl)
 have HZ0 := qH (show i0.zero = some (.agg z.toArray) by rw [hz]; exact hz0)
 obtain ⟨c, hc⟩ : ∃ c, c = rxc 1 zeroS (.slice none 0 0) := ⟨_, rfl⟩
 have HCB := qH (show Tryz.prog.built 29 [(0, .int .i64 1)] = some c.toArray by rw [hc]; exact built0 1)
 have HC6 := qH (show c.length = 6 by rw [hc]; rfl)
 have HC1 := qH (show c.all (·.oneCell') = true by rw [hc]; rfl)
 have HC := qH hc
 clear hz hz0 hz1 hz2 hc
 go_enter Tryz.func44, Tryz.ntmps44
 go_wp2_with (first
  | ((with_reducible refine atDst 0 ?_); refine wpList_new rfl 29 rfl i0 _ z hi0 HZ0.out rfl (Below.refl w.heap.size w) (Nat.le_refl _) ?_; intro w1 hk1 hb1 hs1 _; have K1 := qH hk1; have B1 := qH hb1; clear hk1 hb1 hs1)
  | ((with_reducible refine atDst 1 ?_); refine wpList_bld rfl 29 _ rfl c HCB.out ?_)
  | ((with_reducible refine atStore 29 0 1 ?_); refine wpList_stBlk rfl 29 _ _ rfl w.heap.size c rfl rfl 29 _ K1.out (size_rx HC6.out) (by rw [HZL.out, HC6.out]) HC1.out B1.out (Nat.le_refl _) ?_; intro w2 hk2 hb2 hs2 _; have K2 := qH hk2; have B2 := qH hb2; clear hk2 hb2 hs2))
 refine bodyPost_ret (results_blk rfl _ _ w.heap.size 29 _ _ rfl K2.out Tryz.underlying29 rfl (size_rx HC6.out)) rfl ?_
 exact ⟨c, rfl, fun D => by rw [HC.out]; exact rx_leaf D _ _ _, B2.out⟩
set_option maxHeartbeats 2000000 in
set_option maxRecDepth 100000 in
theorem refEmpty_any (w : World) : Calls Tryz.prog 41 #[] w fun e w' => ∃ ds, e = .returned (.agg ds.toArray) ∧ (∀ D, RxD D w' ds emptyT) ∧ Below w.heap.size w w' := by
 obtain ⟨i0, hi0, hz0, hz1, hz2⟩ := inf_rx'
 obtain ⟨z, hz⟩ : ∃ z, z = rxc 0 zeroS (.slice none 0 0) := ⟨_, rfl⟩
 have HZL := qH (show z.length = 6 by rw [hz]; rfl)
 have HZ0 := qH (show i0.zero = some (.agg z.toArray) by rw [hz]; exact hz0)
 obtain ⟨c, hc⟩ : ∃ c, c = rxc 2 zeroS (.slice none 0 0) := ⟨_, rfl⟩
 have HCB := qH (show Tryz.prog.built 29 [(0, .int .i64 2)] = some c.toArray by rw [hc]; exact built0 2)
 have HC6 := qH (show c.length = 6 by rw [hc]; rfl)
 have HC1 := qH (show c.all (·.oneCell') = true by rw [hc]; rfl)
 have HC := qH hc
 clear hz hz0 hz1 hz2 hc
 go_enter Tryz.func41, Tryz.ntmps41
 go_wp2_with (first
  | ((with_reducible refine atDst 0 ?_); refine wpList_new rfl 29 rfl i0 _ z hi0 HZ0.out rfl (Below.refl w.heap.size w) (Nat.le_refl _) ?_; intro w1 hk1 hb1 hs1 _; have K1 := qH hk1; have B1 := qH hb1; clear hk1 hb1 hs1)
  | ((with_reducible refine atDst 1 ?_); refine wpList_bld rfl 29 _ rfl c HCB.out ?_)
  | ((with_reducible refine atStore 29 0 1 ?_); refine wpList_stBlk rfl 29 _ _ rfl w.heap.size c rfl rfl 29 _ K1.out (size_rx HC6.out) (by rw [HZL.out, HC6.out]) HC1.out B1.out (Nat.le_refl _) ?_; intro w2 hk2 hb2 hs2 _; have K2 := qH hk2; have B2 := qH hb2; clear hk2 hb2 hs2))
 refine bodyPost_ret (results_blk rfl _ _ w.heap.size 29 _ _ rfl K2.out Tryz.underlying29 rfl (size_rx HC6.out)) rfl ?_
 exact ⟨c, rfl, fun D => by rw [HC.out]; exact rx_leaf D _ _ _, B2.out⟩
set_option maxHeartbeats 2000000 in
set_option maxRecDepth 100000 in
theorem refBytes_any (s : Nat → Bool) (w : World) : Calls Tryz.prog 21 #[.agg (wds s).toArray] w fun e w' => ∃ ds, e = .returned (.agg ds.toArray) ∧ (∀ D, RxD D w' ds (bytesT s)) ∧ Below w.heap.size w w' := by
 obtain ⟨i0, hi0, hz0, hz1, hz2⟩ := inf_rx'
 obtain ⟨z, hz⟩ : ∃ z, z = rxc 0 zeroS (.slice none 0 0) := ⟨_, rfl⟩
 have HZL := qH (show z.length = 6 by rw [hz]; rfl)
 have HZ0 := qH (show i0.zero = some (.agg z.toArray) by rw [hz]; exact hz0)
 obtain ⟨c, hc⟩ : ∃ c, c = rxc 3 s (.slice none 0 0) := ⟨_, rfl⟩
 have HCB := qH (show Tryz.prog.built 29 [(0, .int .i64 3), (1, .agg (wds s).toArray)] = some c.toArray by rw [hc]; exact built01 3 s)
 have HC6 := qH (show c.length = 6 by rw [hc]; rfl)
 have HC1 := qH (show c.all (·.oneCell') = true by rw [hc]; rfl)
 have HC := qH hc
 have HBS := qH builtS
 obtain ⟨zs, hzs⟩ : ∃ zs, zs = zeroS := ⟨_, rfl⟩
 have HZS := qH hzs
 rw [← hzs] at HBS
 clear hz hz0 hz1 hz2 hc hzs
 cases hs : eqS s zs with
 | true =>
  have HEQ := qH hs
  have HF := qH (show bytesT s = noneT by unfold bytesT; rw [← HZS.out, hs]; rfl)
  clear hs
  go_enter Tryz.func21, Tryz.ntmps21
  go_wp2_with (first
   | ((with_reducible refine atDst 1 ?_); refine wpList_box rfl 26 _ rfl (wds s) rfl (Below.refl w.heap.size w) (Nat.le_refl _) ?_; intro w1 hk1 hb1 hs1 _; have K1 := qH hk1; have B1 := qH hb1; clear hk1 hb1 hs1)
   | ((with_reducible refine atDst 2 ?_); refine wpList_new rfl 29 rfl i0 _ z hi0 HZ0.out rfl B1.out B1.out.size ?_; intro w2 hk2 hb2 hs2 ho2; have L2 := qH hk2; have B2 := qH hb2; have K2 := qH (show Blk w2 w.heap.size 26 (wds s) from (ho2 _ K1.out.lt).trans K1.out); have G12 := qH K1.out.lt; clear hk2 hb2 hs2 ho2)
   | ((with_reducible refine atDst 3 ?_); refine wpList_ldArr rfl 26 _ rfl w.heap.size rfl 26 _ _ K2.out Tryz.underlying26 rfl (size_set s) ?_; (try simp only [Act.put, qA, qB, qC]))
   | ((with_reducible refine atDst 4 ?_); refine wpList_bld rfl 26 _ rfl (wds zs) HBS.out ?_; (try simp only [Act.put, qA, qB, qC]))
   | ((with_reducible refine atDst 5 ?_); refine wpList_eqSet_is rfl HEQ.out 26 24 (.tmp 3) (.tmp 4) 26 rfl guardSet Tryz.underlying26 Tryz.underlying24 sizeU64 rfl rfl ?_; (try simp only [Act.put, qA, qB, qC])))
  refine (refNone_any w2).mono ?_
  rintro e w3 ⟨ds, rfl, hds, hb3⟩
  have D6 := qH (hds (fun _ => False)).length
  have DA := qH hds
  have D1 := qH (show ds.all (·.oneCell') = true from List.all_eq_true.2 (hds (fun _ => False)).one)
  have L3 := qH (L2.out.below hb3 L2.out.lt)
  have B3 := qH (B2.out.trans (hb3.mono B2.out.size))
  clear hds hb3
  go_wp2_with ((with_reducible refine atStore 29 2 6 ?_); refine wpList_stBlk rfl 29 _ _ rfl w1.heap.size ds rfl rfl 29 _ L3.out (size_rx D6.out) (by rw [HZL.out, D6.out]) D1.out B3.out (Nat.le_of_lt G12.out) ?_; intro w4 hk4 hb4 hs4 ho4; have K4 := qH hk4; have B4 := qH hb4; have D4 := qH (fun D => ((DA.out (fun _ => False)).stay (w' := w4) fun k hk => absurd hk id).mono (D' := D) fun k hk => absurd hk id); clear hk4 hb4 hs4 ho4)
  refine bodyPost_ret (results_blk rfl _ _ w1.heap.size 29 _ _ rfl K4.out Tryz.underlying29 rfl (size_rx D6.out)) rfl ?_
  exact ⟨ds, rfl, by rw [HF.out]; exact D4.out, B4.out⟩
 | false =>
  have HEQ := qH hs
  have HF := qH (show bytesT s = .node 3 s [] by unfold bytesT; rw [← HZS.out, hs]; rfl)
  clear hs
  go_enter Tryz.func21, Tryz.ntmps21
  go_wp2_with (first
   | ((with_reducible refine atDst 1 ?_); refine wpList_box rfl 26 _ rfl (wds s) rfl (Below.refl w.heap.size w) (Nat.le_refl _) ?_; intro w1 hk1 hb1 hs1 _; have K1 := qH hk1; have B1 := qH hb1; clear hk1 hb1 hs1)
   | ((with_reducible refine atDst 2 ?_); refine wpList_new rfl 29 rfl i0 _ z hi0 HZ0.out rfl B1.out B1.out.size ?_; intro w2 hk2 hb2 hs2 ho2; have L2 := qH hk2; have B2 := qH hb2; have K2 := qH (show Blk w2 w.heap.size 26 (wds s) from (ho2 _ K1.out.lt).trans K1.out); have G12 := qH K1.out.lt; clear hk2 hb2 hs2 ho2)
   | ((with_reducible refine atDst 3 ?_); refine wpList_ldArr rfl 26 _ rfl w.heap.size rfl 26 _ _ K2.out Tryz.underlying26 rfl (size_set s) ?_; (try simp only [Act.put, qA, qB, qC]))
   | ((with_reducible refine atDst 4 ?_); refine wpList_bld rfl 26 _ rfl (wds zs) HBS.out ?_; (try simp only [Act.put, qA, qB, qC]))
   | ((with_reducible refine atDst 5 ?_); refine wpList_eqSet_is rfl HEQ.out 26 24 (.tmp 3) (.tmp 4) 26 rfl guardSet Tryz.underlying26 Tryz.underlying24 sizeU64 rfl rfl ?_; (try simp only [Act.put, qA, qB, qC]))
   | ((with_reducible refine atDst 7 ?_); refine wpList_ldArr rfl 26 _ rfl w.heap.size rfl 26 _ _ K2.out Tryz.underlying26 rfl (size_set s) ?_; (try simp only [Act.put, qA, qB, qC]))
   | ((with_reducible refine atDst 8 ?_); refine wpList_bld rfl 29 _ rfl c HCB.out ?_; (try simp only [Act.put, qA, qB, qC]))
   | ((with_reducible refine atStore 29 2 8 ?_); refine wpList_stBlk rfl 29 _ _ rfl w1.heap.size c rfl rfl 29 _ L2.out (size_rx HC6.out) (by rw [HZL.out, HC6.out]) HC1.out B2.out (Nat.le_of_lt G12.out) ?_; intro w4 hk4 hb4 hs4 ho4; have K4 := qH hk4; have B4 := qH hb4; clear hk4 hb4 hs4 ho4))
  refine bodyPost_ret (results_blk rfl _ _ w1.heap.size 29 _ _ rfl K4.out Tryz.underlying29 rfl (size_rx HC6.out)) rfl ?_
  exact ⟨c, rfl, fun D => by rw [HF.out, HC.out]; exact rx_leaf D _ _ _, B4.out⟩
theorem flatT_take (k : Int) (l : List T) (j : Nat) : (flatT k (l.take j)).length ≤ nodesL l := Nat.le_trans (flatT_len k _) (nodesL_take l j)
theorem RxD.split {D : Nat → Prop} {w : World} {cs : List Value} {t : T} (h : RxD D w cs t) : ∃ A cap, cs = rxc t.kind t.set (.slice A t.args.length cap) ∧ RowD D w (.slice A t.args.length cap) t.args := by
 cases t with
 | node k s l =>
  obtain ⟨v, rfl, hr⟩ := RxD.row h
  have hr' := hr
  obtain ⟨A, cap, f, rfl, _⟩ := hr
  exact ⟨A, cap, rfl, hr'⟩
def withoutT (k : Int) (l : List T) : List T := l.filter fun t => decide (t.kind ≠ k)
theorem withoutT_next (k : Int) (l : List T) (j : Nat) (t : T) (h : l[j]? = some t) : withoutT k (l.take (j + 1)) = withoutT k (l.take j) ++ if t.kind = k then [] else [t] := by
 obtain ⟨hi, rfl⟩ := List.getElem?_eq_some_iff.1 h
 unfold withoutT
 rw [List.take_succ_eq_append_getElem hi, List.filter_append]
 congr 1
 by_cases hk : l[j].kind = k
 ·rw [if_pos hk]; simp [hk]
 ·rw [if_neg hk]; simp [hk]
theorem withoutT_len (k : Int) (l : List T) : (withoutT k l).length ≤ l.length := List.length_filter_le _ _
theorem withoutT_nodes (k : Int) : ∀ l : List T, nodesL (withoutT k l) ≤ nodesL l
 | [] => Nat.le_refl _
 | t :: r => by
  have ih := withoutT_nodes k r
  unfold withoutT at *
  by_cases hk : t.kind = k
  ·rw [List.filter_cons_of_neg (by simp [hk])]
   simp only [nodesL]; omega
  ·rw [List.filter_cons_of_pos (by simp [hk])]
   simp only [nodesL]; omega
theorem flatT_nodes (k : Int) : ∀ l : List T, nodesL (flatT k l) ≤ nodesL l
 | [] => Nat.le_refl _
 | t :: r => by
  have ih := flatT_nodes k r
  have e : flatT k (t :: r) = (if t.kind = k then t.args else [t]) ++ flatT k r := by simp [flatT]
  rw [e, nodesL_append]
  cases t with
  | node k' s l =>
   by_cases hk : (T.node k' s l).kind = k
   ·rw [if_pos hk]
    simp only [nodesL, T.nodes, T.args]
    omega
   ·rw [if_neg hk]
    simp only [nodesL, T.nodes]
    omega
section
variable {w : World} {o : Oper} {a : Act} {K : Act → World → Prop} {Q : Exit → Act → World → Prop}
theorem wp_appT {D : Nat → Prop} {base : Nat} (s x : Operand)
  (ho : o.op = .call { callee := .builtin .append, args := #[s, x], argTypes := #[27, 27] })
  (i : TypeInfo) (hi : Tryz.prog.info? 29 = some i) (hz : i.zero = some (.agg (Value.int .i64 0 :: (wds (fun _ => false) ++ [.slice none 0 0])).toArray))
  (hsize : i.size = 6) (hby : i.bytes = 64)
  (v : Value) (l : List T) (hs : a.eval s = v) (hown : OwnT D base w v l)
  (g cap : Nat) (tg : TypeId) (c : List Value) (t : T) (hx : a.eval x = .slice (some ⟨g, 0, none⟩) 1 cap) (hr : Blk w g tg c) (hel : RxD (fun k => D k ∧ k < w.heap.size ∧ some k ≠ v.ownBlock) w c t)
  (hlen : l.length + 1 ≤ 1099511627776) (hb : base ≤ w.heap.size)
  (h : ∀ v' w', OwnT D base w' v' (l ++ [t]) → w.grownBy w' v.ownBlock → K (a.put o.dst v') w') : o.wp Tryz.prog a w K Q := by
 obtain ⟨cells, h1, h2, h3, h4⟩ := hown
 have hc6 : c.length = 6 := hel.length
 have hnews : ∀ j u, c[j]? = some u → w.cell? ((⟨g, 0, none⟩ : Addr).add j) = some u := fun j u hj => by
  rw [Addr.add_lit, Nat.zero_add, hr.cell j]
  exact hj
 obtain ⟨v', w', hrun, hown', hgr, _⟩ := run_append_own (P := Tryz.prog) w base 27 o.type 29 i _ 6 64 Tryz.underlying27 hi hz hsize hby (by simp [Value.cells, wds]) (by omega) v l.length cells.flatten h3 ⟨g, 0, none⟩ 1 cap c (by omega) hnews hel.one (by unfold maxLen; omega) (by omega) hb
 have hwh := append_where (P := Tryz.prog) (w := w) base 27 o.type 29 i _ 6 64 Tryz.underlying27 hi hz hsize hby (by omega) v l.length cells.flatten h3 ⟨g, 0, none⟩ 1 cap c (by omega) hnews hel.one (by unfold maxLen; omega) (by omega) hrun
 unfold Oper.wp execOp
 simp only [ho, resolve, invoke, builtin, Sem.run_bind, Sem.run_pure, Result.andThen_ok, List.map_toArray, List.map_cons, List.map_nil, hs, hx, hrun]
 refine h v' w' ⟨cells ++ [c], by simp [h1], fun d hd => ?_, ?_, fun j d u hd hu => ?_⟩ hgr
 ·rcases List.mem_append.1 hd with hd | hd
  ·exact h2 d hd
  ·obtain rfl := List.mem_singleton.1 hd
   exact hc6
 ·rw [List.flatten_append, List.length_append]
  simpa using hown'
 ·have key : RxD (fun k => D k ∧ k < w.heap.size ∧ some k ≠ v.ownBlock) w d u := by
   by_cases hj : j < l.length
   ·rw [List.getElem?_append_left (by omega)] at hd hu
    exact h4 j d u hd hu
   ·have hjl : j = l.length := by
     have := (List.getElem?_eq_some_iff.1 hu).1
     simp at this
     omega
    subst hjl
    rw [List.getElem?_append_right (by omega)] at hd hu
    simp [h1] at hd hu
    rw [← hd, ← hu]
    exact hel
  refine (key.stay fun k hk => hgr.block k hk.2.1 hk.2.2).mono fun k hk => ⟨hk.1, Nat.lt_of_lt_of_le hk.2.1 hgr.size, fun he => ?_⟩
  rcases hwh k he.symm with h | h
  ·exact hk.2.2 h.symm
  ·have := hk.2.1
   omega
set_option maxRecDepth 100000 in
theorem wp_appTs {D D' : Nat → Prop} {base : Nat} (s x : Operand)
  (ho : o.op = .call { callee := .builtin .append, args := #[s, x], argTypes := #[27, 27] })
  (i : TypeInfo) (hi : Tryz.prog.info? 29 = some i) (hz : i.zero = some (.agg (Value.int .i64 0 :: (wds (fun _ => false) ++ [.slice none 0 0])).toArray))
  (hsize : i.size = 6) (hby : i.bytes = 64)
  (v : Value) (l : List T) (hs : a.eval s = v) (hown : OwnT D base w v l)
  (u : Value) (m : List T) (hx : a.eval x = u) (hr : RowD D' w u m) (hD : ∀ k, D' k → D k ∧ k < w.heap.size ∧ some k ≠ v.ownBlock)
  (hlen : l.length + m.length ≤ 1099511627776) (hb : base ≤ w.heap.size)
  (h : ∀ v' w', OwnT D base w' v' (l ++ m) → w.grownBy w' v.ownBlock → K (a.put o.dst v') w') : o.wp Tryz.prog a w K Q := by
 obtain ⟨A, cap, f, rfl, r1, r2, r0, r3, r4⟩ := hr
 cases A with
 | none =>
  have hcap : cap = 0 := r0 rfl
  subst hcap
  have hn : m = [] := List.eq_nil_of_length_eq_zero (by omega)
  subst hn
  obtain ⟨cells, h1, h2, h3, h4⟩ := hown
  have hrun := run_append_owned_none (P := Tryz.prog) (w := w) base 27 o.type 29 i 6 Tryz.underlying27 hi v _ _ h3
  unfold Oper.wp
  simp at hx
  simp [execOp, ho, resolve, invoke, builtin, hs, hx, hrun, Result.andThen]
  exact h v w (by simpa using ⟨cells, h1, h2, h3, h4⟩) (World.grownBy.refl _ _)
 | some ad =>
  obtain ⟨cells, h1, h2, h3, h4⟩ := hown
  obtain ⟨ms, hms⟩ : ∃ ms, ms = (List.range m.length).map f := ⟨_, rfl⟩
  have hml : ms.length = m.length := by rw [hms]; simp
  have hmi : ∀ (j : Nat) (c : List Value), ms[j]? = some c → j < m.length ∧ c = f j := fun j c hc => by
   have hj : j < m.length := by have := (List.getElem?_eq_some_iff.1 hc).1; omega
   rw [hms, List.getElem?_map, List.getElem?_range hj] at hc
   exact ⟨hj, by simpa using hc.symm⟩
  have hel : ∀ (j : Nat) (c : List Value) (t : T), ms[j]? = some c → m[j]? = some t → RxD D' w c t := fun j c t hc ht => by
   obtain ⟨_, rfl⟩ := hmi j c hc
   exact r4 j t ht
  have hm6 : ∀ c ∈ ms, c.length = 6 := fun c hc => by
   obtain ⟨j, hj⟩ := List.getElem?_of_mem hc
   exact (hel j c (m[j]'((hmi j c hj).1)) hj (List.getElem?_eq_getElem _)).length
  have hone : ∀ x ∈ ms.flatten, x.oneCell' = true := fun x hx => by
   obtain ⟨c, hc, hxc⟩ := List.mem_flatten.1 hx
   obtain ⟨j, hj⟩ := List.getElem?_of_mem hc
   exact RxD.one (hel j c (m[j]'((hmi j c hj).1)) hj (List.getElem?_eq_getElem _)) x hxc
  have hfl := flat6_len hm6
  have hnews : ∀ j x, ms.flatten[j]? = some x → w.cell? (ad.add j) = some x := fun j x hj => by
   have hlt : j < ms.length * 6 := by rw [← hfl]; exact (List.getElem?_eq_some_iff.1 hj).1
   have hk : j / 6 < ms.length := by omega
   have hg := flat6_get hm6 (List.getElem?_eq_getElem hk) (j % 6) (Nat.mod_lt _ (by omega))
   rw [show j / 6 * 6 + j % 6 = j by omega, hj] at hg
   obtain ⟨b, off, hA, _, hcell⟩ := r3 (fun he => by rw [he] at hml; simp only [List.length_nil] at hml; omega)
   injection hA with hA
   subst hA
   have hf := (hmi (j / 6) ms[j / 6] (List.getElem?_eq_getElem hk)).2
   rw [hf] at hg
   have := hcell (j / 6) (by omega) (j % 6) x hg.symm
   rw [show off + j / 6 * 6 + j % 6 = off + j by omega] at this
   rw [Addr.add_lit]
   exact this
  obtain ⟨v', w', hrun, hown', hgr, _⟩ := run_append_own (P := Tryz.prog) w base 27 o.type 29 i _ 6 64 Tryz.underlying27 hi hz hsize hby (by simp [Value.cells, wds]) (by omega) v l.length cells.flatten h3 ad m.length cap ms.flatten (by rw [hfl, hml]) hnews hone (by unfold maxLen; omega) (by omega) hb
  have hwh := append_where (P := Tryz.prog) (w := w) base 27 o.type 29 i _ 6 64 Tryz.underlying27 hi hz hsize hby (by omega) v l.length cells.flatten h3 ad m.length cap ms.flatten (by rw [hfl, hml]) hnews hone (by unfold maxLen; omega) (by omega) hrun
  unfold Oper.wp execOp
  simp only [ho, resolve, invoke, builtin, Sem.run_bind, Sem.run_pure, Result.andThen_ok, List.map_toArray, List.map_cons, List.map_nil, hs, hx, hrun]
  refine h v' w' ⟨cells ++ ms, by simp [h1, hml], fun d hd => ?_, ?_, fun j d t hd ht => ?_⟩ hgr
  ·rcases List.mem_append.1 hd with hd | hd
   ·exact h2 d hd
   ·exact hm6 d hd
  ·rw [List.flatten_append, List.length_append]
   exact hown'
  ·have key : RxD (fun k => D k ∧ k < w.heap.size ∧ some k ≠ v.ownBlock) w d t := by
    by_cases hj : j < l.length
    ·rw [List.getElem?_append_left (by omega)] at hd ht
     exact h4 j d t hd ht
    ·rw [List.getElem?_append_right (by omega)] at hd ht
     rw [h1] at hd
     exact RxD.mono (hel _ d t hd ht) fun k hk => hD k hk
   refine (key.stay fun k hk => hgr.block k hk.2.1 hk.2.2).mono fun k hk => ⟨hk.1, Nat.lt_of_lt_of_le hk.2.1 hgr.size, fun he => ?_⟩
   rcases hwh k he.symm with h | h
   ·exact hk.2.2 h.symm
   ·have := hk.2.1
    omega
end
section
variable {P : Program} {w : World} {o : Oper} {a : Act} {K : Act → World → Prop} {Q : Exit → Act → World → Prop}
theorem wp_bldT1 (t e : TypeId) (x : Operand) (ho : o.op = .buildSlice t 1 #[(0, x)]) (i : TypeInfo) (ht : P.underlying t = some (.slice e)) (hi : P.info? e = some i) (hz : i.zero = some (.agg (Value.int .i64 0 :: (wds (fun _ => false) ++ [.slice none 0 0])).toArray)) (hs : i.size = 6) (ds : List Value) (hl : ds.length = 6)
  (hx : a.eval x = .agg ds.toArray)
  (h : ∀ w', Blk w' w.heap.size e ds → Below w.heap.size w w' → w'.heap.size = w.heap.size + 1 → K (a.put o.dst (.slice (some ⟨w.heap.size, 0, none⟩) 1 1)) w') : o.wp P a w K Q := by
 have hrun := run_bldT1 (P := P) (w := w) t e i ht hi hz hs ds hl
 unfold Oper.wp
 simp only [execOp, ho, List.map_toArray, List.map_cons, List.map_nil, hx, hrun, Sem.run_bind, Result.andThen_ok, Sem.run_pure]
 exact (h _ (Blk.new w e _) ((Below.refl _ _).alloc (Nat.le_refl _) _) (by simp))
end
section
variable {w : World} {o : Oper} {a : Act} {K : Act → World → Prop} {Q : Exit → Act → World → Prop}
theorem wp_bldT0 (ho : o.op = .buildSlice 27 0 #[])
  (h : ∀ v' w', (∀ D, OwnT D w.heap.size w' v' []) → Below w.heap.size w w' → K (a.put o.dst v') w') : o.wp Tryz.prog a w K Q := by
 obtain ⟨i, hi, hz, hsz, hby⟩ := inf_rx'
 have hrun : (Instr.buildSlice 27 0 #[]).run Tryz.prog w = .ok (.slice (some ⟨w.heap.size, 0, none⟩) 0 0) (w.alloc (.cells #[] 29)) := by
  simp [Instr.buildSlice, run_underlying Tryz.underlying27, sizeOf, typeInfo, hi, hsz, Instr.fill, newRow, Array.range_zero']
 unfold Oper.wp
 simp only [execOp, ho, List.map_toArray, List.map_nil, hrun, Sem.run_bind, Result.andThen_ok, Sem.run_pure]
 exact h _ _ (fun D => ⟨[], rfl, by simp, ⟨by simp, .inr ⟨w.heap.size, 0, #[], rfl, Nat.le_refl _, heap_alloc_new w _, Nat.le_refl _, Nat.zero_le _, rfl, rfl⟩⟩, fun i c t h => by simp at h⟩) ((Below.refl _ _).alloc (Nat.le_refl _) _)
end
theorem RowD.take {D : Nat → Prop} {w : World} {A : Option Addr} {n cap : Nat} {l : List T} (h : RowD D w (.slice A n cap) l) (k : Nat) (hk : k ≤ l.length) : RowD D w (.slice A k cap) (l.take k) := by
 obtain ⟨A', cap', f, he, h1, h2, h0, h3, h4⟩ := h
 injection he with hA hn hc
 subst hA
 subst hc
 have hl : (l.take k).length = k := by rw [List.length_take]; omega
 refine ⟨A, cap, f, by rw [hl], by omega, h2, h0, fun hne => ?_, fun i t ht => ?_⟩
 ·obtain ⟨b, off, hA, hb, hr⟩ := h3 (fun e => hne (by rw [e]; simp))
  exact ⟨b, off, hA, hb, fun i hi => hr i (by omega)⟩
 ·have hi : i < k := by have := (List.getElem?_eq_some_iff.1 ht).1; omega
  rw [List.getElem?_take, if_pos hi] at ht
  exact h4 i t ht
theorem RowD.drop {D : Nat → Prop} {w : World} {A : Option Addr} {n cap : Nat} {l : List T} (h : RowD D w (.slice A n cap) l) (k : Nat) (hk : k < l.length) :
  ∃ b off, A = some ⟨b, off, none⟩ ∧ RowD D w (.slice (some ⟨b, off + k * 6, none⟩) (n - k) (cap - k)) (l.drop k) := by
 obtain ⟨A', cap', f, he, h1, h2, h0, h3, h4⟩ := h
 injection he with hA hn hc
 subst hA
 subst hc
 subst hn
 obtain ⟨b, off, rfl, hb, hr⟩ := h3 (fun e => by rw [e] at hk; simp at hk)
 refine ⟨b, off, rfl, some ⟨b, off + k * 6, none⟩, cap - k, fun i => f (k + i), by rw [List.length_drop], by rw [List.length_drop]; omega, by omega, (fun h => by cases h), fun _ => ⟨b, off + k * 6, rfl, hb, fun i hi => ?_⟩, fun i t ht => ?_⟩
 ·rw [List.length_drop] at hi
  have := hr (k + i) (by omega)
  rw [show off + k * 6 + i * 6 = off + (k + i) * 6 by omega]
  exact this
 ·rw [List.getElem?_drop] at ht
  exact h4 (k + i) t ht
theorem lessS_iff (p q : Nat → Bool) : lessS p q = true ↔ ∃ j, j < 256 ∧ (∀ b, b < j → p b = q b) ∧ p j = true ∧ q j = false := by
 constructor
 ·intro h
  unfold lessS at h
  cases hf : (List.range 256).find? fun b => p b != q b with
  | none => rw [hf] at h; cases h
  | some j =>
   rw [hf] at h
   obtain ⟨h1, h2, h3⟩ := List.find?_range_eq_some.1 hf
   have hp : p j = true := h
   refine ⟨j, List.mem_range.1 h2, fun b hb => by simpa using h3 b hb, hp, ?_⟩
   rw [hp] at h1
   simpa using h1
 ·rintro ⟨j, hj, h1, h2, h3⟩
  rw [lessS_at hj h1 (by rw [h2, h3]; decide)]
  exact h2
theorem lessS_trans {p q r : Nat → Bool} (h : lessS p q = true) (k : lessS q r = true) : lessS p r = true := by
 obtain ⟨i, hi, a1, a2, a3⟩ := (lessS_iff p q).1 h
 obtain ⟨j, hj, b1, b2, b3⟩ := (lessS_iff q r).1 k
 rcases Nat.lt_trichotomy i j with hl | rfl | hl
 ·exact (lessS_iff p r).2 ⟨i, hi, fun b hb => (a1 b hb).trans (b1 b (by omega)), a2, by rw [← b1 i hl]; exact a3⟩
 ·rw [a3] at b2; cases b2
 ·exact (lessS_iff p r).2 ⟨j, hj, fun b hb => (a1 b (by omega)).trans (b1 b hb), by rw [a1 j hl]; exact b2, b3⟩
theorem lessS_ne {p q : Nat → Bool} (h : lessS p q = true) : eqS p q = false := by
 obtain ⟨i, hi, a1, a2, a3⟩ := (lessS_iff p q).1 h
 rw [Bool.eq_false_iff]
 intro he
 have := (eqS_iff p q).1 he i hi
 rw [a2, a3] at this
 cases this
theorem lessS_not {p q : Nat → Bool} (h : lessS p q = false) : eqS p q = !lessS q p := by
 cases hk : lessS q p with
 | true =>
  obtain ⟨i, hi, a1, a2, a3⟩ := (lessS_iff q p).1 hk
  rw [Bool.not_true, Bool.eq_false_iff]
  intro he
  have := (eqS_iff p q).1 he i hi
  rw [a2, a3] at this
  cases this
 | false =>
  rw [Bool.not_false]
  refine (eqS_iff p q).2 ?_
  have : ∀ j, j ≤ 256 → ∀ b, b < j → p b = q b := by
   intro j
   induction j with
   | zero => intro _ b hb; omega
   | succ j ih =>
    intro hj b hb
    rcases Nat.lt_or_ge b j with h' | h'
    ·exact ih (by omega) b h'
    ·obtain rfl : b = j := by omega
     by_cases hne : p b = q b
     ·exact hne
     ·have e1 := lessS_at (p := p) (q := q) (by omega) (ih (by omega)) hne
      have e2 := lessS_at (p := q) (q := p) (by omega) (fun c hc => (ih (by omega) c hc).symm) (fun e => hne e.symm)
      rw [← e1, ← e2, h, hk]
  exact this 256 (Nat.le_refl _)
theorem lessS_irrefl (p : Nat → Bool) : lessS p p = false := lessS_none fun _ _ => rfl
theorem lessS_congr {p p' q q' : Nat → Bool} (h : ∀ b, b < 256 → p b = p' b) (k : ∀ b, b < 256 → q b = q' b) : lessS p q = lessS p' q' := by
 rw [Bool.eq_iff_iff, lessS_iff, lessS_iff]
 constructor
 ·rintro ⟨j, hj, h1, h2, h3⟩
  exact ⟨j, hj, fun b hb => by rw [← h b (by omega), ← k b (by omega)]; exact h1 b hb, by rw [← h j hj]; exact h2, by rw [← k j hj]; exact h3⟩
 ·rintro ⟨j, hj, h1, h2, h3⟩
  exact ⟨j, hj, fun b hb => by rw [h b (by omega), k b (by omega)]; exact h1 b hb, by rw [h j hj]; exact h2, by rw [k j hj]; exact h3⟩
end Go.Proofs.YtopnpdobcagcgaaGreat
