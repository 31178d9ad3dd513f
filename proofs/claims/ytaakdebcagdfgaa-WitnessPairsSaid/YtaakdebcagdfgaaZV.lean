/-
  Texts of this proof, put together: WoX, WoP, WoM. No statement is proved here.
-/
import Derived.Test.YtaakdebcagdfgaaZU
import Derived.Test.YtaakdebcagdfgaaZF
import Derived.Test.YtaakdebcagdfgaaZB
import Derived.Test.YtaakdebcagdfgaaZE
import Derived.Test.YtaakdebcagdfgaaZJ
import Derived.Test.YtaakdebcagdfgaaZA
import Derived.Test.YtaakdebcagdfgaaZC
import Derived.Test.YtaakdebcagdfgaaZH
import Derived.Test.YtaakdebcagdfgaaZL
namespace Go.Proofs.Ytaakdebcagdfgaa
open Go.RowKit
set_option linter.unusedSimpArgs false
set_option linter.unusedVariables false
structure TabG (w : World) (D : Dm) (n H g i : Nat) (cv : Value) (vs : List Value) : Prop where
 blk : Blk w g 62 [cv]
 own : w.ownsRow H 26 1 cv i vs
 ne : cv.ownBlock ≠ some g
 rows : ∀ j, j < i → ∃ v, vs[j]? = some v ∧ RO w (uO g cv) v (bcs n (canC D j))
 gH : H ≤ g
section
variable {w w' : World} {D : Dm} {n H g i : Nat} {cv cv' v : Value} {vs : List Value}
theorem TabG.new (h : TabG w D n H g i cv vs) (hb : Below w.heap.size w w') : TabG w' D n H g i cv vs :=
 ⟨h.blk.below hb h.blk.lt, own6_stay h.own fun j hj => hb.block j (own6_lt h.own j hj).1, h.ne, fun j hj => by
  obtain ⟨v, hv, hr⟩ := h.rows j hj
  exact ⟨v, hv, hr.step (Off.new _ hb) fun k hk => .inl hk⟩, h.gH⟩
theorem TabG.push (h : TabG w D n H g i cv vs) (ho : w'.ownsRow H 26 1 cv' (i + 1) (vs ++ [v])) (hg : w.grownBy w' cv.ownBlock) (hw : ∀ k, cv'.ownBlock = some k → cv.ownBlock = some k ∨ w.heap.size ≤ k) (hr : Row w v (bcs n (canC D i))) (hv : ∀ k, v.ownBlock = some k → k < w.heap.size ∧ k ≠ g ∧ cv.ownBlock ≠ some k) :
  TabG (w'.setCell ⟨g, 0, none⟩ cv') D n H g (i + 1) cv' (vs ++ [v]) := by
 have hne : cv'.ownBlock ≠ some g := fun e => (hw g e).elim h.ne fun h2 => absurd h.blk.lt (Nat.not_lt.2 h2)
 have hoff : Off (XU (uO g cv)) w (w'.setCell ⟨g, 0, none⟩ cv') := (Off.grown hg fun k hk => .inr (xuO.2 (.inr hk))).trans (Off.set w' 0 cv' (xuO.2 (.inl rfl)))
 have hx : ∀ k, XU (uO g cv') k → XU (uO g cv) k ∨ w.heap.size ≤ k := fun k hk => by
  rcases xuO.1 hk with e | e
  ·exact .inl (xuO.2 (.inl e))
  ·exact (hw k e).imp (fun e => xuO.2 (.inr e)) id
 have hl : vs.length = i := by have := h.own.1; rw [Nat.mul_one] at this; exact this
 refine ⟨(h.blk.grown hg fun e => h.ne e.symm).set 0 cv', own6_stay ho fun j hj => Below.heap_setCell w' ⟨g, 0, none⟩ cv' j fun e => hne (by rw [← show j = g from e]; exact hj), hne, fun j hj => ?_, h.gH⟩
 by_cases hji : j < i
 ·obtain ⟨u, hu, h2⟩ := h.rows j hji
  exact ⟨u, by rw [List.getElem?_append_left (by rw [hl]; exact hji)]; exact hu, h2.step hoff hx⟩
 ·obtain rfl : j = i := by omega
  refine ⟨v, by rw [List.getElem?_append_right (by rw [hl]; exact Nat.le_refl _), hl, Nat.sub_self]; rfl, RO.step ⟨hr, fun k hk => ⟨(hv k hk).1, fun e => ?_⟩⟩ hoff hx⟩
  rcases xuO.1 e with e | e
  ·exact (hv k hk).2.1 e
  ·exact (hv k hk).2.2 e
theorem TabG.look (h : TabG w D n H g i cv vs) (hi : 0 < i) (hn : 0 < n) : ∃ bc cc, cv = .slice (some ⟨bc, 0, none⟩) i cc ∧ w.cell? ⟨g, 0, none⟩ = some (.slice (some ⟨bc, 0, none⟩) i cc) ∧ CanV w D n i bc 0 := by
 obtain ⟨bc, cc, hc, _, _, hlt, _⟩ := own_in h.own hi
 subst hc
 refine ⟨bc, cc, rfl, h.blk.cell 0, hlt, fun j hj => ?_⟩
 obtain ⟨v, hv, hr⟩ := h.rows j hj
 obtain ⟨A, c, hvv⟩ : ∃ A c, v = .slice A n c := by
  obtain ⟨A, c, h1, _⟩ := hr.1
  exact ⟨A, c, by rw [h1, bcs_len]⟩
 subst hvv
 obtain ⟨b, o, rfl, hb, hcell⟩ := hr.1.at_ (by rw [bcs_len]; exact hn)
 refine ⟨b, o, c, ?_, hb, fun t ht => hcell t _ (bcs_get _ ht)⟩
 rw [Nat.zero_add]
 exact (own_cell h.own hv).1
end
theorem canW_put (D : Dm) (j s t : Nat) : updB (canW D j s 0) s (canC D (j + 1) s) t = canW D j (s + 1) 0 t := by
 unfold updB canW
 by_cases h : t = s
 ·rw [if_pos h, if_pos (by omega), h]
 ·rw [if_neg h]
  by_cases h2 : t < s
  ·rw [if_pos h2, if_pos (by omega)]
  ·rw [if_neg h2, if_neg h, if_neg (by omega)]
   by_cases h3 : t = s + 1
   ·rw [if_pos h3, canP_zero]
   ·rw [if_neg h3]
theorem wo_stBB {o : Oper} {a : Act} {K : Act → World → Prop} {Q : Exit → Act → World → Prop} {w : World} (x y : Operand) (ho : o.op = .store 62 x y) {p : Addr} (hx : a.eval x = .pointer (some p)) {A : Option Addr} {n c : Nat} (hy : a.eval y = .slice A n c) {v : Value} (hc : w.cell? p = some v) (hf : w.frozen? p = false)
  (h : K (a.put o.dst undef) (w.setCell p (.slice A n c))) : o.wp Try.prog a w K Q := by
 unfold Oper.wp
 simp only [execOp, ho, hx, hy]
 go_simp
 exact h
theorem inf_tabsB : (Try.prog.info? 62).map (fun i => i.zero) = some (some (.slice none 0 0)) := by kernel_rfl
theorem inf_intZ : (Try.prog.info? 3).map (fun i => i.zero) = some (some (.int .i64 0)) := by kernel_rfl
theorem lf_200 {i m : Nat} (h : i < m) (hn : m ≤ 200) : i ≤ 4611686018427387904 := by omega
set_option maxHeartbeats 16000000 in
set_option maxRecDepth 1000000 in
theorem wLeft_any (D : Dm) (cs : List Value) (n n0 : Nat) (w : World) (hv : DfaV w cs D) (hm : MayD D) (hac : AllC D) (hn : n = D.next.length) (hn0 : n0 ≤ 200) :
  Calls Try.prog 31 #[.agg cs.toArray, .int .i64 (n0 : Int)] w fun e w' => ∃ bc cc, e = .returned (.slice (some ⟨bc, 0, none⟩) (n0 + 1) cc) ∧ CanV w' D n (n0 + 1) bc 0 ∧ Below w.heap.size w w' := by
 have V0 := qH hv
 have HM := qH hm
 have HAC := qH hac
 have HDS := qH hv.size
 obtain ⟨kd, hkd⟩ : ∃ k, k = clsA D.cl := ⟨_, rfl⟩
 obtain ⟨bn, on, cn, be, oe, ce, hdr⟩ := dr_of hv hm hn hkd
 have HR := qH hdr
 have HN := qH hn
 have HKD := qH hkd
 have HL := qH hdr.hl
 have HCS := qH hdr.cs
 have HNP := qH (show 0 < n by rw [hn]; exact hm.pos)
 have HNF := qH (show n ≤ 2000 by rw [hn]; exact hm.few)
 have HN0 := qH hn0
 have HEND := qH (show Row w (.slice (some ⟨be, oe, none⟩) n ce) (bcs n (canC D 0)) from by
  obtain ⟨An, Ae, cn', ce', vf, _, hcs, _, _, he⟩ := hv.form
  have h1 := hdr.cs
  have h2 := hdr.hl
  rw [hcs] at h1
  have h3 := congrArg (fun l => l[257]?) h1
  simp only [dcl_e h2] at h3
  injection h3 with h3
  rw [h3] at he
  rw [show bools D.ends = bcs n (canC D 0) from by
   rw [bools_bcs (n := n) (by rw [hn]; exact hm.ends)]
   exact bcs_congr fun q hq => by
    show D.ends[q]?.getD false = D.ends.getD q false
    rw [List.getD_eq_getElem?_getD]] at he
  exact he)
 obtain ⟨i2, hi2, hb0, hb1, hb2⟩ := infoP inf_bool
 obtain ⟨ib, hib, hr0, hr1, hr2⟩ := infoP inf_rowB
 obtain ⟨il, hil, hl0⟩ := Option.map_eq_some_iff.1 inf_tabsB
 obtain ⟨ii, hii, hz0⟩ := Option.map_eq_some_iff.1 inf_intZ
 have HYB := qH (show i2.bytes * n ≤ 281474976710656 by rw [hb2]; have := HNF.out; omega)
 have HN3 := qH (show n ≤ 9223372036854775807 by have := HNF.out; omega)
 clear hv hm hac hn hkd hdr hn0
 go_enter Try.func31, Try.ntmps31
 go_wp2_with (first
  | ((with_reducible refine atDst 2 ?_); refine wpList_box rfl 28 _ rfl cs rfl (Below.refl w.heap.size w) (Nat.le_refl _) ?_; intro w1 hk1 hb1 hs1 _; have K1 := qH hk1; have B1 := qH hb1; have c257 : w1.cell? ⟨w.heap.size, 257, none⟩ = some (.slice (some ⟨be, oe, none⟩) n ce) := (by rw [hk1.cell 257, HCS.out]; exact dcl_e HL.out); clear hk1 hb1 hs1; (try simp only [Act.put, qA, qB, qC]))
  | ((with_reducible refine atDst 11 ?_); refine wpList_plain rfl fun K hK => wp_bldVk 62 26 (.tmp 10) rfl ib (.slice none 0 0) Try.underlying62 hib hr0 hr1 rfl (.slice (some ⟨be, oe, none⟩) n ce) rfl rfl ?_; intro w2 hk hb; have K2 := qH hk; have B2 := qH hb; clear hk hb c257; refine hK _ _ ?_; clear hK K; (try simp only [Act.put, qA, qB, qC]))
  | ((with_reducible refine atDst 5 ?_); refine wpList_new rfl 62 rfl il _ [.slice none 0 0] hil hl0 rfl (Below.refl w2.heap.size w2) (Nat.le_refl _) ?_; intro w3 hk hb hs _; have K3 := qH hk; have B3 := qH hb; clear hk hb hs; (try simp only [Act.put, qA, qB, qC]))
  | ((with_reducible refine atStore 62 5 11 ?_); refine wpList_plain rfl fun K hK => wo_stBB (.tmp 5) (.tmp 11) rfl rfl rfl (K3.out.cell 0) (K3.out.frozen 0) ?_; refine hK _ _ ?_; clear hK K; (try simp only [Act.put, qA, qB, qC])))
 obtain ⟨H, hH⟩ : ∃ g, g = w1.heap.size := ⟨_, rfl⟩
 have HH := qH hH
 obtain ⟨gl, hgl⟩ : ∃ g, g = w2.heap.size := ⟨_, rfl⟩
 rw [← hgl] at K3 B3
 rw [← hH] at K2 B2
 rw [← hgl, ← hH]
 have HWH := qH (show w.heap.size < H by rw [hH]; exact K1.out.lt)
 have HHG := qH (show H < gl by rw [hgl]; exact K2.out.lt)
 obtain ⟨w4, hw4⟩ : ∃ v, v = w3.setCell ⟨gl, 0, none⟩ (.slice (some ⟨H, 0, none⟩) 1 1) := ⟨_, rfl⟩
 have B4 := qH (show Below H w1 w4 by rw [hw4]; exact (B2.out.trans (B3.out.mono (Nat.le_of_lt HHG.out))).setCell (p := ⟨gl, 0, none⟩) (Nat.le_of_lt HHG.out) _)
 have T4 := qH (show TabG w4 D n H gl 1 (.slice (some ⟨H, 0, none⟩) 1 1) [.slice (some ⟨be, oe, none⟩) n ce] from by
  have hk4 : Blk w4 H 26 [.slice (some ⟨be, oe, none⟩) n ce] := by rw [hw4]; exact (K2.out.below B3.out HHG.out).far (p := ⟨gl, 0, none⟩) (Nat.ne_of_lt HHG.out) _
  refine ⟨by rw [hw4]; exact K3.out.set 0 _, hk4.own (Nat.le_refl _) one_maxW, fun e => absurd (Option.some.inj e) (Nat.ne_of_lt HHG.out), fun j hj => ?_, Nat.le_of_lt HHG.out⟩
  obtain rfl : j = 0 := by omega
  refine ⟨_, rfl, HEND.out.below (B1.out.trans (B4.out.mono (Nat.le_of_lt HWH.out))), fun k hk => ?_⟩
  have hk2 : be = k := Option.some.inj hk
  have h1 := HR.out.hbe
  have h2 := HWH.out
  have h3 := HHG.out
  have h4 := hk4.lt
  refine ⟨by omega, fun e => ?_⟩
  rcases xuO.1 e with e | e
  ·omega
  ·have h5 : H = k := Option.some.inj e
   omega)
 rw [← hw4]
 clear hH hgl hw4 K2 B2 K3 B3
 go_wp2_with fail
 go_loopw [13] (fun kv wl => ∃ (k : Nat) (cv : Value) (vs : List Value), k ≤ n0 ∧ kv = .int .i64 (k : Int) ∧ TabG wl D n H gl (k + 1) cv vs ∧ Below H w1 wl) (fun kv _ => n0 - (intOf kv).toNat)
 case atStart => exact ⟨0, _, _, Nat.zero_le _, rfl, T4.out, B4.out⟩
 clear T4 B4
 obtain ⟨k, cv, vs, hk, rfl, ht, hb⟩ := hrel
 obtain ⟨bc, cc, hcv, hcl, hcan⟩ := ht.look (Nat.succ_pos k) HNP.out
 subst hcv
 have HK := qH hk
 have TK := qH ht
 have BK := qH hb
 have CL := qH hcl
 have CAN := qH hcan
 obtain ⟨wk, hwk⟩ : ∃ v : World, v = wr := ⟨_, rfl⟩
 subst hwk
 clear hk ht hb hcl hcan
 by_cases hkn : k < n0
 ·have k1 : (k : Int) < (n0 : Int) := Int.ofNat_lt.2 hkn
  have HKN := qH hkn
  have HMK := qH (sub_next hkn)
  have KK := qH (show Blk wk w.heap.size 28 cs from K1.out.below BK.out HWH.out)
  have BWK := qH (show Below w.heap.size w wk from B1.out.trans (BK.out.mono (Nat.le_of_lt HWH.out)))
  have RK := qH (HR.out.below BWK.out)
  have HHK := qH (show H < wk.heap.size from Nat.lt_trans HHG.out TK.out.blk.lt)
  clear hkn
  go_wp2_with (first
   | ((with_reducible refine atDst 6 ?_); refine wpList_new rfl 3 rfl ii _ [.int .i64 0] hii hz0 rfl (Below.refl wk.heap.size wk) (Nat.le_refl _) ?_; intro w5 hk hb hs _; have K5 := qH hk; have B5 := qH hb; have hc5 := hk.cell 0; have hf5 := hk.frozen 0; have c256 : ∀ v, (w5.setCell ⟨wk.heap.size, 0, none⟩ v).cell? ⟨w.heap.size, 256, none⟩ = some (.slice (some ⟨bn, on, none⟩) n cn) := (fun v => by rw [((KK.out.below hb KK.out.lt).far (p := ⟨wk.heap.size, 0, none⟩) (Nat.ne_of_lt KK.out.lt) v).cell 256, HCS.out]; exact dcl_n HL.out); have c256k := c256 (.int .i64 (k : Int)); clear hk hb hs c256; (try simp only [Act.put, qA, qB, qC]))
   | ((with_reducible refine atDst 19 ?_); refine wpList_mk _ rfl _ _ 26 rfl 4 i2 (.bool false) Try.underlying26 hi2 hb0 hb1 rfl n _ _ _ _ rfl rfl rfl rfl HYB.out HN3.out ?_; intro w7 hk hb hs; have X0 := qH hk; have BM := qH hb; clear hk hb hs; (try simp only [Act.put, qA, qB, qC])))
  obtain ⟨w6, hw6⟩ : ∃ v, v = w5.setCell ⟨wk.heap.size, 0, none⟩ (.int .i64 (k : Int)) := ⟨_, rfl⟩
  obtain ⟨gk, hgk⟩ : ∃ g, g = wk.heap.size := ⟨_, rfl⟩
  have K6 := qH (show Blk w6 gk 3 [.int .i64 (k : Int)] by rw [hw6, hgk]; exact K5.out.set 0 _)
  have B6 := qH (show Below gk wk w6 by rw [hw6, hgk]; exact B5.out.setCell (p := ⟨wk.heap.size, 0, none⟩) (Nat.le_refl _) _)
  rw [← hw6] at X0 BM
  rw [← hw6, ← hgk]
  obtain ⟨gt, hgt⟩ : ∃ g, g = w6.heap.size := ⟨_, rfl⟩
  rw [← hgt] at X0 BM
  rw [← hgt]
  have HGK := qH hgk
  have HKT := qH (show gk < gt by rw [hgt]; exact K6.out.lt)
  have X1 := qH (show Blk w7 gt 4 (bcs n (canW D k 0 0)) from by
   have h1 := X0.out
   rw [bcs_no, ← bcs_congr (n := n) (f := canW D k 0 0) (g := fun _ => false) fun t _ => canW_zero D k t] at h1
   exact h1)
  have LIFT := qH (show ∀ V, Below gt w6 V → Below wk.heap.size wk V from fun V hV => (show Below wk.heap.size wk w6 by rw [← HGK.out]; exact B6.out).trans (hV.mono (by rw [← HGK.out]; exact Nat.le_of_lt HKT.out)))
  clear hw6 hgk hgt K5 B5 hc5 hf5 c256k X0
  go_wp2_with fail
  go_loopw [22] (fun sv wl => ∃ s : Nat, s ≤ n ∧ sv = .int .i64 (s : Int) ∧ Blk wl gt 4 (bcs n (canW D k s 0)) ∧ Below gt w6 wl) (fun sv _ => n - (intOf sv).toNat)
  case atStart => exact ⟨0, Nat.zero_le _, rfl, X1.out, BM.out⟩
  clear X1 BM
  obtain ⟨s, hs, rfl, hk, hb⟩ := hrel
  have HS := qH hs
  have XS := qH hk
  have BS := qH hb
  obtain ⟨ws, hws⟩ : ∃ v : World, v = wr := ⟨_, rfl⟩
  subst hws
  clear hs hk hb
  by_cases hsn : s < n
  ·have s1 : (s : Int) < (n : Int) := Int.ofNat_lt.2 hsn
   have HSN := qH hsn
   have HMS := qH (sub_next hsn)
   clear hsn
   go_wp2_with ((with_reducible refine atDst 8 ?_); refine wpList_new rfl 3 rfl ii _ [.int .i64 0] hii hz0 rfl (Below.refl ws.heap.size ws) (Nat.le_refl _) ?_; intro w8 hk hb hs _; have K8 := qH hk; have B8 := qH hb; have hc8 := hk.cell 0; have hf8 := hk.frozen 0; clear hk hb hs; (try simp only [Act.put, qA, qB, qC]))
   obtain ⟨w9, hw9⟩ : ∃ v, v = w8.setCell ⟨ws.heap.size, 0, none⟩ (.int .i64 (s : Int)) := ⟨_, rfl⟩
   obtain ⟨gs, hgs⟩ : ∃ g, g = ws.heap.size := ⟨_, rfl⟩
   have K9 := qH (show Blk w9 gs 3 [.int .i64 (s : Int)] by rw [hw9, hgs]; exact K8.out.set 0 _)
   have BS9 := qH (show Below ws.heap.size ws w9 by rw [hw9]; exact B8.out.setCell (p := ⟨ws.heap.size, 0, none⟩) (Nat.le_refl _) _)
   have X9 := qH (XS.out.below BS9.out XS.out.lt)
   have B9 := qH (BS.out.trans (BS9.out.mono (Nat.le_of_lt XS.out.lt)))
   rw [← hw9, ← hgs]
   clear hw9 hgs K8 B8 hc8 hf8
   obtain ⟨br, or, cr, hcr, hbr, hrr⟩ := RK.out.row s HSN.out
   obtain ⟨bj, oj, cj, hcj, hbj, hce⟩ := CAN.out.2 k (Nat.lt_succ_self k)
   rw [Nat.zero_add] at hcj
   have L9 := qH (show LfV w9 D n kd (k + 1) k s gl gk w.heap.size gs bc cc bj oj cj bn on cn br or cr from
    have hV := LIFT.out w9 B9.out
    ⟨bl_cell hV CL.out, (B9.out.cell (p := ⟨gk, 0, none⟩) HKT.out).trans (K6.out.cell 0), Nat.lt_succ_self k, bl_cell hV hcj, fun q hq => bl_cell hV (hce q hq), bl_cell hV (by rw [KK.out.cell 256, HCS.out]; exact dcl_n HL.out), K9.out.cell 0, HSN.out, bl_cell hV hcr, fun c hc => bl_cell hV (by
     obtain ⟨b', o', he, _, hc'⟩ := hrr.at_ (by rw [ncs_len]; omega)
     injection he with he
     injection he with h1 h2
     subst h1 h2
     exact hc' c _ (ncs_get (fun c => stC D s c) hc)), fun c hc => by
     rw [HN.out]
     exact stC_lt HM.out (show s < D.next.length by rw [← HN.out]; exact HSN.out) c (by rw [← HKD.out]; exact hc)⟩)
   have CLB := qH (show ∀ V, Below w9.heap.size w9 V → ∀ j, j < 256 → V.cell? ⟨w.heap.size, j, none⟩ = some (.int .u8 (clB D j : Int)) from fun V hV j hj => bl_cell hV (bl_cell (LIFT.out w9 B9.out) (by rw [KK.out.cell j, HCS.out, dcl_cl HL.out hj]; exact clB_cell HL.out hj)))
   have HBE := qH (canB_all HL.out HAC.out k s)
   clear hcr hbr hrr hcj hbj hce
   go_wp2_with fail
   refine mc_start (fun _ => True) (fun V => Below w9.heap.size w9 V) 7 (by kernel_rfl) (fun wd hwd => ?_)
   have hX : True := trivial
   have hY : Below w9.heap.size w9 wd := by rw [hwd]; exact (Below.refl _ _).drew
   clear hwd
   refine mc_take (i := 0) (oi := ⟨some 25, _, _, _, _, _⟩) (v := ?_) rfl (by kernel_rfl) (by kernel_rfl) (by kernel_rfl) (fun _ _ _ h => h) rfl hX ?_ ?_; rotate_left; (intro W hW; go_simp; try with_reducible rfl); simp only [Act.put, qA, qB, qC]
   refine mc_takeS (i := 1) (oi := ⟨some 26, _, _, _, _, _⟩) (v := .int .i64 (s : Int)) rfl (by kernel_rfl) (by kernel_rfl) (by kernel_rfl) (fun _ _ _ h => h) rfl hX hY (fun V _ hV => lk_ldI (.tmp 8) rfl rfl (bl_cell hV L9.out.cs_)) ?_; simp only [Act.put, qA, qB, qC]
   refine mc_take (i := 2) (oi := ⟨some 27, _, _, _, _, _⟩) (v := ?_) rfl (by kernel_rfl) (by kernel_rfl) (by kernel_rfl) (fun _ _ _ h => h) rfl hX ?_ ?_; rotate_left; (intro W hW; go_simp; try with_reducible rfl); simp only [Act.put, qA, qB, qC]
   refine mc_take (i := 3) (oi := ⟨some 28, _, _, _, _, _⟩) (v := ?_) rfl (by kernel_rfl) (by kernel_rfl) (by kernel_rfl) (fun _ _ _ h => h) rfl hX ?_ ?_; rotate_left; (intro W hW; go_simp; try with_reducible rfl); simp only [Act.put, qA, qB, qC]
   refine mc_take (i := 4) (oi := ⟨some 29, _, _, _, _, _⟩) (v := ?_) rfl (by kernel_rfl) (by kernel_rfl) (by kernel_rfl) (fun _ _ _ h => h) rfl hX ?_ ?_; rotate_left; (intro W hW; go_simp; try with_reducible rfl); simp only [Act.put, qA, qB, qC]
   refine mc_actB (i := 5) (o := ⟨some 30, _, _, _, _, _⟩) rfl (by kernel_rfl) rfl (fun K hK => ?_)
   have BD := qH hY
   go_wp2_with fail
   refine (wCtF_any wd (L9.out.below BD.out) HL.out HKD.out (CLB.out wd BD.out)).mono ?_
   rintro e wy ⟨rfl, hb⟩
   rw [HBE.out]
   have BY := qH (BD.out.trans (hb.mono BD.out.size))
   have XY := qH (X9.out.below BY.out X9.out.lt)
   clear hb
   go_wp2_with fail
   refine hK _ _ trivial BY.out ?_
   clear hK K hX hY
   have hX : True := trivial
   have hY := BY.out
   (try simp only [Act.put, qA, qB, qC])
   refine mc_take (i := 6) (oi := ⟨some 31, _, _, _, _, _⟩) (v := .pointer (some ⟨gt, s, none⟩)) rfl (by kernel_rfl) (by kernel_rfl) (by kernel_rfl) (fun _ _ _ h => h) rfl hX (fun V _ => lk_ixB0 (.tmp 25) (.tmp 26) rfl rfl rfl HSN.out V) ?_; simp only [Act.put, qA, qB, qC]
   refine mc_last (i := 7) (o := ⟨none, _, _, _, _, _⟩) rfl (by kernel_rfl) rfl (fun K hK => ?_)
   refine wp_stB (.tmp 31) (.tmp 30) rfl gt s rfl (canC D (k + 1) s) rfl _ ((XY.out.cell s).trans (bcs_get _ HSN.out)) (XY.out.frozen s) ?_
   refine hK _ _ trivial ?_
   clear hK K hX hY
   (try simp only [Act.put, qA, qB, qC])
   refine wpAnyC_done (by kernel_rfl) ?_ _
   have XN := qH (show Blk (wy.setCell ⟨gt, s, none⟩ (.bool (canC D (k + 1) s))) gt 4 (bcs n (canW D k (s + 1) 0)) from by
    have h1 := XY.out.set s (.bool (canC D (k + 1) s))
    rw [bcs_set, bcs_congr (n := n) (fun t _ => canW_put D k s t)] at h1
    exact h1)
   have BN := qH ((B9.out.trans (BY.out.mono (Nat.le_of_lt X9.out.lt))).setCell (p := ⟨gt, s, none⟩) (Nat.le_refl _) (Value.bool (canC D (k + 1) s)))
   have e3 := wrap_one s (lt_bigN HSN.out HNF.out)
   have e4 := wrap_one' s (lt_bigN HSN.out HNF.out)
   go_wp2_with fail
   exact ⟨⟨s + 1, HSN.out, by congr 1, XN.out, BN.out⟩, by simpa [intOf] using HMS.out⟩
  ·obtain rfl : s = n := Nat.le_antisymm HS.out (Nat.not_lt.1 hsn)
   have s1 : ¬ ((s : Int) < (s : Int)) := Int.lt_irrefl _
   have TS := qH (TK.out.new (LIFT.out ws BS.out))
   have c33 : ws.cell? ⟨gl, 0, none⟩ = some (.slice (some ⟨bc, 0, none⟩) (k + 1) cc) := TS.out.blk.cell 0
   have RS := qH (show Row ws (.slice (some ⟨gt, 0, none⟩) s s) (bcs s (canC D (k + 1))) from by
    have h1 := Row.of_own (XS.out.own (base := 0) (Nat.zero_le _) (by rw [bcs_len]; have := HNF.out; unfold maxLen; omega))
    rw [bcs_len, bcs_congr (n := s) (f := canW D k s 0) (g := canC D (k + 1)) fun t ht => canW_all D k ht] at h1
    exact h1)
   have e3 := wrap_one k (lf_200 HKN.out HN0.out)
   have e4 := wrap_one' k (lf_200 HKN.out HN0.out)
   have HLM := qH (show k + 1 + 1 ≤ 2097152 by have h1 := HKN.out; have h2 := HN0.out; omega)
   have BHS := qH (show Below H w1 ws from BK.out.trans ((LIFT.out ws BS.out).mono (Nat.le_of_lt HHK.out)))
   have HGT2 := qH (show gl < gt ∧ bc < gt from ⟨Nat.lt_trans TK.out.blk.lt (by rw [← HGK.out]; exact HKT.out), Nat.lt_trans CAN.out.1 (by rw [← HGK.out]; exact HKT.out)⟩)
   clear hsn
   go_wp2_with (first
    | ((with_reducible refine atDst 35 ?_); refine wpList_plain rfl fun K hK => wp_bldVk 62 26 (.tmp 34) rfl ib (.slice none 0 0) Try.underlying62 hib hr0 hr1 rfl (.slice (some ⟨gt, 0, none⟩) s s) rfl rfl ?_; intro wa hk hb; have KA := qH (Row.of_own (hk.own (Nat.zero_le _) one_maxW)); have TA := qH (TS.out.new hb); have RA := qH (RS.out.below hb); have GA := qH (show gt < wa.heap.size from Nat.lt_of_lt_of_le XS.out.lt hb.size); have BA := qH (BHS.out.trans (hb.mono (by rw [HH.out]; exact BHS.out.size))); have HSA := qH (show H ≤ wa.heap.size from (by rw [HH.out]; exact BA.out.size)); clear hk hb; refine hK _ _ ?_; clear hK K; (try simp only [Act.put, qA, qB, qC]))
    | ((with_reducible refine atDst 36 ?_); refine wpList_plain rfl fun K hK => wp_appW (base := H) (.tmp 33) (.tmp 35) 62 rfl 26 ib (.slice none 0 0) 24 Try.underlying62 hib hr0 hr1 hr2 rfl _ (k + 1) vs rfl TA.out.own _ [.slice (some ⟨gt, 0, none⟩) s s] rfl KA.out (fun u hu => by rw [List.mem_singleton.1 hu]; rfl) HLM.out (by decide) HSA.out ?_; intro v9 wb ho hg hw; obtain ⟨A9, c9, hv9⟩ := own2_slice ho; subst hv9; have TB := qH (TA.out.push ho hg hw RA.out fun k2 hk2 => by { obtain rfl : gt = k2 := Option.some.inj hk2; exact ⟨GA.out, Nat.ne_of_gt HGT2.out.1, fun e => absurd (Option.some.inj e) (Nat.ne_of_lt HGT2.out.2)⟩ }); have KB := qH (TA.out.blk.grown hg fun e => TA.out.ne e.symm); have BB := qH (BA.out.trans (grown_belowO TA.out.own hg HSA.out)); clear ho hg hw c33; refine hK _ _ ?_; clear hK K; (try simp only [Act.put, qA, qB, qC]))
    | ((with_reducible refine atStore 62 5 36 ?_); refine wpList_plain rfl fun K hK => wo_stBB (.tmp 5) (.tmp 36) rfl rfl rfl (KB.out.cell 0) (KB.out.frozen 0) ?_; refine hK _ _ ?_; clear hK K; (try simp only [Act.put, qA, qB, qC])))
   have BC := qH (BB.out.setCell (p := ⟨gl, 0, none⟩) (Nat.le_of_lt HHG.out) (Value.slice A9 (k + 1 + 1) c9))
   exact ⟨⟨k + 1, _, _, HKN.out, by congr 1, TB.out, BC.out⟩, by simpa [intOf] using HMK.out⟩
 ·obtain rfl : k = n0 := Nat.le_antisymm HK.out (Nat.not_lt.1 hkn)
  have k1 : ¬ ((k : Int) < (k : Int)) := Int.lt_irrefl _
  have c38 := CL.out
  clear hkn
  go_wp2_with fail
  go_ret
  exact ⟨bc, ⟨cc, rfl⟩, CAN.out, B1.out.trans (BK.out.mono (Nat.le_of_lt HWH.out))⟩
def wlS (u v : List UInt8) : Prop := u.length < v.length ∨ (u.length = v.length ∧ ltW u v)
def wleS (u v : List UInt8) : Prop := u = v ∨ wlS u v
theorem wlS_trans {u v x : List UInt8} (h1 : wlS u v) (h2 : wlS v x) : wlS u x := by
 rcases h1 with h1 | ⟨e1, h1⟩ <;> rcases h2 with h2 | ⟨e2, h2⟩
 ·exact .inl (by omega)
 ·exact .inl (by omega)
 ·exact .inl (by omega)
 ·exact .inr ⟨e1.trans e2, ltW_trans h1 h2⟩
theorem wleS_trans {u v x : List UInt8} (h1 : wleS u v) (h2 : wleS v x) : wleS u x := by
 rcases h1 with rfl | h1
 ·exact h2
 ·rcases h2 with rfl | h2
  ·exact .inr h1
  ·exact .inr (wlS_trans h1 h2)
theorem wlS_snoc {u v : List UInt8} (a b : UInt8) (h : wlS u v) : wlS (u ++ [a]) (v ++ [b]) := by
 rcases h with h | ⟨e, h⟩
 ·exact .inl (by rw [List.length_append, List.length_append]; exact Nat.add_lt_add_right h 1)
 ·exact .inr ⟨by rw [List.length_append, List.length_append, e]; rfl, ltW_snoc a b e h⟩
theorem wleS_snoc {u v : List UInt8} (a : UInt8) (h : wleS u v) : wleS (u ++ [a]) (v ++ [a]) := by
 rcases h with rfl | h
 ·exact .inl rfl
 ·exact .inr (wlS_snoc a a h)
theorem wlS_more (u : List UInt8) (a : UInt8) : wlS u (u ++ [a]) := .inl (by rw [List.length_append]; exact Nat.lt_succ_self _)
theorem wlS_end (u : List UInt8) {a b : UInt8} (h : a < b) : wlS (u ++ [a]) (u ++ [b]) := .inr ⟨by rw [List.length_append, List.length_append]; rfl, ltW_end u h⟩
abbrev Stp := Nat × Nat × UInt8
structure BfS (D : Dm) (t : Nat → Bool) (S : List Stp) (W : List (List UInt8)) (i b : Nat) : Prop where
 len : W.length = S.length
 first : S[0]? = some (0, 0, 0)
 word0 : W[0]? = some []
 link : ∀ k x, S[k]? = some x → 0 < k → x.2.1 < k ∧ (x.2.1 < i ∨ (x.2.1 = i ∧ x.2.2.toNat < b)) ∧ ∃ u, W[x.2.1]? = some u ∧ W[k]? = some (u ++ [x.2.2])
 state : ∀ (k : Nat) (x : Stp) (u : List UInt8), S[k]? = some x → W[k]? = some u → x.1 = toD D 0 u
 rise : W.Pairwise wlS
 clos : ∀ (k : Nat) (u : List UInt8) (c : UInt8), W[k]? = some u → (k < i ∨ (k = i ∧ c.toNat < b)) → ∃ (k2 : Nat) (u2 : List UInt8), W[k2]? = some u2 ∧ toD D 0 u2 = toD D 0 (u ++ [c]) ∧ wleS u2 (u ++ [c])
 uniq : (S.map fun x => x.1).Nodup
 seen : ∀ q, t q = true ↔ ∃ x ∈ S, x.1 = q
 noend : ∀ (k : Nat) (x : Stp), k < i → S[k]? = some x → D.ends.getD x.1 false = false
 rng : ∀ x ∈ S, x.1 < D.next.length
theorem BfS.start {D : Dm} (hp : 0 < D.next.length) : BfS D (updB (fun _ => false) 0 true) [(0, 0, 0)] [[]] 0 0 := by
 refine ⟨rfl, rfl, rfl, fun k x hk h0 => ?_, fun k x u hx hu => ?_, List.pairwise_singleton _ _, fun k u c _ h => ?_, by simp, fun q => ?_, fun k x h => absurd h (Nat.not_lt_zero _), fun x hx => ?_⟩
 ·rw [List.getElem?_eq_none (by show 1 ≤ k; omega)] at hk
  cases hk
 ·cases k with
  | zero =>
   obtain rfl := Option.some.inj hx
   obtain rfl := Option.some.inj hu
   rfl
  | succ k => simp at hx
 ·rcases h with h | ⟨_, h⟩
  ·exact absurd h (Nat.not_lt_zero _)
  ·exact absurd h (Nat.not_lt_zero _)
 ·unfold updB
  by_cases h : q = 0
  ·rw [if_pos h]
   exact ⟨fun _ => ⟨(0, 0, 0), List.mem_singleton.2 rfl, h.symm⟩, fun _ => rfl⟩
  ·rw [if_neg h]
   refine ⟨fun e => (by cases e), ?_⟩
   rintro ⟨x, hx, e⟩
   obtain rfl := List.mem_singleton.1 hx
   exact absurd e.symm h
 ·obtain rfl := List.mem_singleton.1 hx
  exact hp
section
variable {D : Dm} {t : Nat → Bool} {S : List Stp} {W : List (List UInt8)} {i b : Nat}
theorem BfS.wat (h : BfS D t S W i b) {k : Nat} (hk : k < S.length) : ∃ u, W[k]? = some u := ⟨_, List.getElem?_eq_getElem (by rw [h.len]; exact hk)⟩
theorem BfS.sat (h : BfS D t S W i b) {k : Nat} {u : List UInt8} (hk : W[k]? = some u) : ∃ x, S[k]? = some x ∧ x.1 = toD D 0 u := by
 have h1 := (List.getElem?_eq_some_iff.1 hk).1
 rw [h.len] at h1
 exact ⟨_, List.getElem?_eq_getElem h1, h.state k _ u (List.getElem?_eq_getElem h1) hk⟩
theorem BfS.ahead (h : BfS D t S W i b) {u : List UInt8} (hu : W[i]? = some u) {c : UInt8} (hc : c.toNat = b) {k : Nat} {v : List UInt8} (hv : W[k]? = some v) : wlS v (u ++ [c]) := by
 by_cases hk : k = 0
 ·subst hk
  rw [h.word0] at hv
  obtain rfl := Option.some.inj hv
  exact .inl (by rw [List.length_append]; exact Nat.succ_pos _)
 ·obtain ⟨x, hx, _⟩ := h.sat hv
  obtain ⟨_, h2, p, hp, hq⟩ := h.link k x hx (Nat.pos_of_ne_zero hk)
  rw [hv] at hq
  obtain rfl := Option.some.inj hq
  rcases h2 with h2 | ⟨h2, h3⟩
  ·obtain ⟨l1, e1⟩ := List.getElem?_eq_some_iff.1 hp
   obtain ⟨l2, e2⟩ := List.getElem?_eq_some_iff.1 hu
   have h4 := List.pairwise_iff_getElem.1 h.rise x.2.1 i l1 l2 h2
   rw [e1, e2] at h4
   exact wlS_snoc _ _ h4
  ·rw [h2, hu] at hp
   obtain rfl := Option.some.inj hp
   exact wlS_end u (by rw [UInt8.lt_iff_toNat_lt, hc]; exact h3)
theorem BfS.old (h : BfS D t S W i b) {u : List UInt8} (hu : W[i]? = some u) {c : UInt8} (hc : c.toNat = b) (ht : t (toD D 0 (u ++ [c])) = true) : BfS D t S W i (b + 1) := by
 refine { h with link := fun k x hx h0 => ?_, clos := fun k v d hv hd => ?_ }
 ·obtain ⟨h1, h2, h3⟩ := h.link k x hx h0
  exact ⟨h1, h2.imp id fun h4 => ⟨h4.1, Nat.lt_succ_of_lt h4.2⟩, h3⟩
 ·by_cases hlt : k < i ∨ (k = i ∧ d.toNat < b)
  ·exact h.clos k v d hv hlt
  ·have hk : k = i := by omega
   have hdb : d.toNat = c.toNat := by omega
   have hdc : d = c := UInt8.toNat_inj.1 hdb
   subst hk hdc
   rw [hu] at hv
   obtain rfl := Option.some.inj hv
   obtain ⟨x, hx, he⟩ := (h.seen _).1 ht
   obtain ⟨k2, hk2⟩ := List.getElem?_of_mem hx
   obtain ⟨v, hv⟩ := h.wat (List.getElem?_eq_some_iff.1 hk2).1
   exact ⟨k2, v, hv, by rw [← h.state k2 x v hk2 hv, he], .inr (h.ahead hu hc hv)⟩
theorem BfS.new (h : BfS D t S W i b) {u : List UInt8} (hu : W[i]? = some u) {c : UInt8} (hc : c.toNat = b) (ht : t (toD D 0 (u ++ [c])) = false) (hr : toD D 0 (u ++ [c]) < D.next.length) :
  BfS D (updB t (toD D 0 (u ++ [c])) true) (S ++ [(toD D 0 (u ++ [c]), i, c)]) (W ++ [u ++ [c]]) i (b + 1) := by
 have hi : i < S.length := by rw [← h.len]; exact (List.getElem?_eq_some_iff.1 hu).1
 have olds : ∀ {k : Nat} {x : Stp}, k < S.length → (S ++ [(toD D 0 (u ++ [c]), i, c)])[k]? = some x → S[k]? = some x := fun hk hx => by rwa [List.getElem?_append_left hk] at hx
 have oldw : ∀ {k : Nat}, k < S.length → (W ++ [u ++ [c]])[k]? = W[k]? := fun hk => List.getElem?_append_left (by rw [h.len]; exact hk)
 have lasts : ∀ {k : Nat} {x : Stp}, ¬ k < S.length → (S ++ [(toD D 0 (u ++ [c]), i, c)])[k]? = some x → k = S.length ∧ x = (toD D 0 (u ++ [c]), i, c) := fun {k x} hk hx => by
  have h3 := (List.getElem?_eq_some_iff.1 hx).1
  rw [List.length_append, List.length_singleton] at h3
  obtain rfl : k = S.length := by omega
  rw [List.getElem?_append_right (Nat.le_refl _), Nat.sub_self] at hx
  exact ⟨rfl, (Option.some.inj hx).symm⟩
 have lastw : (W ++ [u ++ [c]])[S.length]? = some (u ++ [c]) := by rw [List.getElem?_append_right (by rw [h.len]; exact Nat.le_refl _), h.len, Nat.sub_self]; rfl
 refine ⟨by rw [List.length_append, List.length_append, h.len]; rfl, ?_, ?_, fun k x hx h0 => ?_, fun k x v hx hv => ?_, ?_, fun k v d hv hd => ?_, ?_, fun q => ?_, fun k x hk hx => ?_, fun x hx => ?_⟩
 ·rw [List.getElem?_append_left (by omega)]
  exact h.first
 ·rw [List.getElem?_append_left (by rw [h.len]; omega)]
  exact h.word0
 ·by_cases hk : k < S.length
  ·obtain ⟨h1, h2, p, hp, hq⟩ := h.link k x (olds hk hx) h0
   exact ⟨h1, h2.imp id fun h4 => ⟨h4.1, Nat.lt_succ_of_lt h4.2⟩, p, by rw [oldw (by omega)]; exact hp, by rw [oldw hk]; exact hq⟩
  ·obtain ⟨rfl, rfl⟩ := lasts hk hx
   exact ⟨hi, .inr ⟨rfl, by show c.toNat < b + 1; omega⟩, u, by rw [oldw hi]; exact hu, lastw⟩
 ·by_cases hk : k < S.length
  ·rw [oldw hk] at hv
   exact h.state k x v (olds hk hx) hv
  ·obtain ⟨rfl, rfl⟩ := lasts hk hx
   rw [lastw] at hv
   obtain rfl := Option.some.inj hv
   rfl
 ·rw [List.pairwise_append]
  refine ⟨h.rise, List.pairwise_singleton _ _, fun v hv x hx => ?_⟩
  rw [List.mem_singleton.1 hx]
  obtain ⟨k, hk⟩ := List.getElem?_of_mem hv
  exact h.ahead hu hc hk
 ·by_cases hlt : k < i ∨ (k = i ∧ d.toNat < b)
  ·have hk : k < S.length := by omega
   rw [oldw hk] at hv
   obtain ⟨k2, v2, h1, h2, h3⟩ := h.clos k v d hv hlt
   exact ⟨k2, v2, by rw [oldw (by rw [← h.len]; exact (List.getElem?_eq_some_iff.1 h1).1)]; exact h1, h2, h3⟩
  ·have hk : k = i := by omega
   have hdb : d.toNat = c.toNat := by omega
   have hdc : d = c := UInt8.toNat_inj.1 hdb
   subst hk hdc
   rw [oldw hi, hu] at hv
   obtain rfl := Option.some.inj hv
   exact ⟨S.length, _, lastw, rfl, .inl rfl⟩
 ·rw [List.map_append, List.map_singleton, List.nodup_append]
  refine ⟨h.uniq, by simp, fun a ha b2 hb2 e => ?_⟩
  rw [List.mem_singleton.1 hb2] at e
  obtain ⟨x, hx, hxa⟩ := List.mem_map.1 ha
  have h1 := (h.seen (toD D 0 (u ++ [c]))).2 ⟨x, hx, hxa.trans e⟩
  rw [ht] at h1
  cases h1
 ·unfold updB
  by_cases hq : q = toD D 0 (u ++ [c])
  ·rw [if_pos hq]
   exact ⟨fun _ => ⟨_, List.mem_append.2 (.inr (List.mem_singleton.2 rfl)), hq.symm⟩, fun _ => rfl⟩
  ·rw [if_neg hq, h.seen]
   constructor
   ·rintro ⟨x, hx, e⟩
    exact ⟨x, List.mem_append.2 (.inl hx), e⟩
   ·rintro ⟨x, hx, e⟩
    rcases List.mem_append.1 hx with hx | hx
    ·exact ⟨x, hx, e⟩
    ·rw [List.mem_singleton.1 hx] at e
     exact absurd e.symm hq
 ·exact h.noend k x hk (olds (by omega) hx)
 ·rcases List.mem_append.1 hx with hx | hx
  ·exact h.rng x hx
  ·rw [List.mem_singleton.1 hx]
   exact hr
theorem BfS.next (h : BfS D t S W i 256) {x : Stp} (hx : S[i]? = some x) (he : D.ends.getD x.1 false = false) : BfS D t S W (i + 1) 0 := by
 refine { h with link := fun k y hy h0 => ?_, clos := fun k v d hv hd => ?_, noend := fun k y hk hy => ?_ }
 ·obtain ⟨h1, h2, h3⟩ := h.link k y hy h0
  exact ⟨h1, .inl (by omega), h3⟩
 ·refine h.clos k v d hv ?_
  by_cases hk : k < i
  ·exact .inl hk
  ·exact .inr ⟨by omega, d.toNat_lt⟩
 ·by_cases hki : k < i
  ·exact h.noend k y hki hy
  ·obtain rfl : k = i := by omega
   rw [hx] at hy
   obtain rfl := Option.some.inj hy
   exact he
theorem BfS.all (h : BfS D t S W i 0) : ∀ (n : Nat) (u : List UInt8), u.length = n → (∃ (k : Nat) (v : List UInt8), W[k]? = some v ∧ toD D 0 v = toD D 0 u ∧ wleS v u) ∨ ∃ (k : Nat) (v : List UInt8), i ≤ k ∧ W[k]? = some v ∧ wleS v u
 | 0, u, hn => by
  obtain rfl := List.length_eq_zero_iff.1 hn
  exact .inl ⟨0, [], h.word0, rfl, .inl rfl⟩
 | n + 1, u, hn => by
  obtain ⟨p, c, rfl⟩ : ∃ p c, u = p ++ [c] := by
   have hne : u ≠ [] := fun e => by rw [e] at hn; cases hn
   exact ⟨u.dropLast, u.getLast hne, (List.dropLast_concat_getLast hne).symm⟩
  rcases h.all n p (by rw [List.length_append] at hn; exact Nat.succ.inj hn) with ⟨k, v, hv, h1, h2⟩ | ⟨k, v, hk, hv, h2⟩
  ·by_cases hk : k < i
   ·obtain ⟨k2, v2, h3, h4, h5⟩ := h.clos k v c hv (.inl hk)
    refine .inl ⟨k2, v2, h3, ?_, wleS_trans h5 (wleS_snoc c h2)⟩
    rw [h4, toD_snoc, toD_snoc, h1]
   ·exact .inr ⟨k, v, Nat.le_of_not_lt hk, hv, wleS_trans h2 (.inr (wlS_more p c))⟩
  ·exact .inr ⟨k, v, hk, hv, wleS_trans h2 (.inr (wlS_more p c))⟩
theorem BfS.hit (h : BfS D t S W i 0) {x : Stp} {u : List UInt8} (hx : S[i]? = some x) (hu : W[i]? = some u) (he : D.ends.getD x.1 false = true) : Sho (accD D 0) u := by
 have low : ∀ (k : Nat) (v : List UInt8), i ≤ k → W[k]? = some v → wleS u v := fun k v hk hv => by
  by_cases e : i = k
  ·rw [← e, hu] at hv
   exact .inl (Option.some.inj hv)
  ·obtain ⟨l1, e1⟩ := List.getElem?_eq_some_iff.1 hu
   obtain ⟨l2, e2⟩ := List.getElem?_eq_some_iff.1 hv
   have h4 := List.pairwise_iff_getElem.1 h.rise i k l1 l2 (by omega)
   rw [e1, e2] at h4
   exact .inr h4
 refine ⟨by unfold accD; rw [← h.state i x u hx hu]; exact he, fun v hv => ?_⟩
 have key : wleS u v := by
  rcases h.all v.length v rfl with ⟨k, p, hp, h1, h2⟩ | ⟨k, p, hk, hp, h2⟩
  ·obtain ⟨y, hy, hy2⟩ := h.sat hp
   have hk : i ≤ k := Nat.le_of_not_lt fun hlt => by
    have h3 := h.noend k y hlt hy
    unfold accD at hv
    rw [hy2, h1, hv] at h3
    cases h3
   exact wleS_trans (low k p hk hp) h2
  ·exact wleS_trans (low k p hk hp) h2
 rcases key with rfl | h1 | ⟨h1, h2⟩
 ·exact .inr ⟨rfl, .inl rfl⟩
 ·exact .inl h1
 ·exact .inr ⟨h1, .inr h2⟩
theorem BfS.none (h : BfS D t S W i 0) (hi : S.length ≤ i) (u : List UInt8) : accD D 0 u = false := by
 rcases h.all u.length u rfl with ⟨k, p, hp, h1, h2⟩ | ⟨k, p, hk, hp, h2⟩
 ·obtain ⟨y, hy, hy2⟩ := h.sat hp
  have h3 := h.noend k y (Nat.lt_of_lt_of_le (List.getElem?_eq_some_iff.1 hy).1 hi) hy
  unfold accD
  rw [← h1, ← hy2]
  exact h3
 ·have := (List.getElem?_eq_some_iff.1 hp).1
  rw [h.len] at this
  omega
theorem BfS.few (h : BfS D t S W i b) : S.length ≤ D.next.length := by
 have h1 := nodup_sub (S.map fun x => x.1) (List.range D.next.length) h.uniq fun q hq => by
  obtain ⟨x, hx, rfl⟩ := List.mem_map.1 hq
  exact List.mem_range.2 (h.rng x hx)
 rw [List.length_map, List.length_range] at h1
 exact h1
theorem BfS.back (h : BfS D t S W i b) {k : Nat} {x : Stp} {u : List UInt8} (hk : 0 < k) (hx : S[k]? = some x) (hu : W[k]? = some u) : x.2.1 < k ∧ ∃ v, W[x.2.1]? = some v ∧ u = v ++ [x.2.2] := by
 obtain ⟨h1, _, v, h2, h3⟩ := h.link k x hx hk
 rw [hu] at h3
 exact ⟨h1, v, h2, Option.some.inj h3⟩
theorem BfS.word_len (h : BfS D t S W i b) : ∀ (k : Nat) (u : List UInt8), W[k]? = some u → u.length ≤ k := by
 intro k
 induction k using Nat.strongRecOn with
 | ind k ih =>
 intro u hu
 by_cases hk : k = 0
 ·subst hk
  rw [h.word0] at hu
  obtain rfl := Option.some.inj hu
  exact Nat.le_refl _
 ·obtain ⟨x, hx, _⟩ := h.sat hu
  obtain ⟨h1, v, h2, rfl⟩ := h.back (Nat.pos_of_ne_zero hk) hx hu
  have h3 := ih x.2.1 h1 v h2
  rw [List.length_append, List.length_singleton]
  omega
end
def st3 (x : Stp) : List Value := [.int .i64 (x.1 : Int), .int .i64 (x.2.1 : Int), bv x.2.2]
def sts : List Stp → List Value
 | [] => []
 | x :: l => st3 x ++ sts l
theorem sts_app : ∀ a b : List Stp, sts (a ++ b) = sts a ++ sts b
 | [], _ => rfl
 | x :: a, b => by show st3 x ++ sts (a ++ b) = st3 x ++ sts a ++ sts b; rw [sts_app a b, List.append_assoc]
theorem sts_len : ∀ l : List Stp, (sts l).length = l.length * 3
 | [] => rfl
 | x :: l => by
  show (st3 x ++ sts l).length = (l.length + 1) * 3
  rw [List.length_append, sts_len l, Nat.add_mul, Nat.one_mul, Nat.add_comm]
  rfl
theorem sts_get : ∀ {l : List Stp} {i : Nat} {x : Stp}, l[i]? = some x → ∀ k, k < 3 → (sts l)[i * 3 + k]? = (st3 x)[k]?
 | [], i, x, h, k, _ => by simp at h
 | y :: l, 0, x, h, k, hk => by
  have e : y = x := by simpa using h
  subst e
  show (st3 y ++ sts l)[0 * 3 + k]? = _
  rw [Nat.zero_mul, Nat.zero_add, List.getElem?_append_left hk]
 | y :: l, i + 1, x, h, k, hk => by
  have h2 : l[i]? = some x := by simpa using h
  show (st3 y ++ sts l)[(i + 1) * 3 + k]? = _
  rw [List.getElem?_append_right (by show 3 ≤ _; omega), show (i + 1) * 3 + k - (st3 y).length = i * 3 + k by show (i + 1) * 3 + k - 3 = _; omega]
  exact sts_get h2 k hk
theorem sts_one : ∀ l : List Stp, ∀ u ∈ sts l, u.oneCell' = true
 | [], u, h => by cases h
 | x :: l, u, h => by
  rcases List.mem_append.1 (show u ∈ st3 x ++ sts l from h) with h | h
  ·simp only [st3, List.mem_cons, List.mem_nil_iff, or_false] at h
   rcases h with rfl | rfl | rfl <;> rfl
  ·exact sts_one l u h
theorem inf_st : (Try.prog.info? 53).map (fun i => (i.zero, i.size, i.bytes)) = some (some (.agg (st3 (0, 0, 0)).toArray), 3, 24) := by kernel_rfl
theorem inf_sts : (Try.prog.info? 53).map (·.size) = some 3 := by kernel_rfl
section
variable {ev : Operand → Value} {o : Oper} {p : Addr} {W : World} {A : Option Addr} {n c : Nat}
theorem wo_ix (x i : Operand) (ho : o.op = .indexAddr 54 x i) {b q : Nat} (hx : ev x = .slice (some ⟨b, 0, none⟩) n c) (hi : ev i = .int .i64 (q : Int)) (hq : q < n) (W : World) : (execOp ev o).run Try.prog W = .ok (.value (.pointer (some ⟨b, q * 3, none⟩))) W := by
 have h1 : (q : Int) < (n : Int) := Int.ofNat_lt.2 hq
 have hs := inf_sts
 obtain ⟨i2, hi2, hz2, hs2, _⟩ := infoP inf_st
 simp only [execOp, ho, hx, hi]
 go_simp
end
section
variable {o : Oper} {a : Act} {w : World} {K : Act → World → Prop} {Q : Exit → Act → World → Prop}
theorem wo_bld1 (x : Operand) (ho : o.op = .buildSlice 54 1 #[(0, x)]) (y : Stp) (hx : a.eval x = .agg (st3 y).toArray)
  (h : ∀ w', Blk w' w.heap.size 53 (sts [y]) → Below w.heap.size w w' → K (a.put o.dst (.slice (some ⟨w.heap.size, 0, none⟩) 1 1)) w') : o.wp Try.prog a w K Q := by
 obtain ⟨i, hi, hz, hs, _⟩ := infoP inf_st
 have hzv : (zeroValue 53).run Try.prog w = .ok (.agg (st3 (0, 0, 0)).toArray) w := by simp [zeroValue, typeInfo, hi, hz]
 have hrun : (Instr.buildSlice 54 1 #[(0, .agg (st3 y).toArray)]).run Try.prog w = .ok (.slice (some ⟨w.heap.size, 0, none⟩) 1 1) (w.alloc (.cells (sts [y]).toArray 53)) := by
  simp [Instr.buildSlice, run_underlying Try.underlying54, sizeOf, typeInfo, hi, hs, hzv, Value.cells, Instr.fill, st3, sts, Array.range_succ, Array.range_zero', newRow]
 unfold Oper.wp
 simp only [execOp, ho, List.map_toArray, List.map_cons, List.map_nil, hx, hrun, Sem.run_bind, Result.andThen_ok, Sem.run_pure]
 exact h _ (Blk.new w _ _) ((Below.refl _ _).alloc (Nat.le_refl _) _)
theorem wo_app {base : Nat} (s x : Operand) (ho : o.op = .call { callee := .builtin .append, args := #[s, x], argTypes := #[54, 54] })
  (v : Value) (M : List Stp) (hs : a.eval s = v) (hown : w.ownsRow base 53 3 v M.length (sts M))
  (g c : Nat) (tg : TypeId) (y : Stp) (hx : a.eval x = .slice (some ⟨g, 0, none⟩) 1 c) (hr : Blk w g tg (sts [y])) (hlen : M.length + 1 ≤ 1048576) (hb : base ≤ w.heap.size)
  (h : ∀ v' w', w'.ownsRow base 53 3 v' (M ++ [y]).length (sts (M ++ [y])) → w.grownBy w' v.ownBlock → (∀ k, v'.ownBlock = some k → v.ownBlock = some k ∨ w.heap.size ≤ k) → K (a.put o.dst v') w') : o.wp Try.prog a w K Q := by
 obtain ⟨i, hi, hz, hsz, hby⟩ := infoP inf_st
 have hnews : ∀ j u, (sts [y])[j]? = some u → w.cell? ((⟨g, 0, none⟩ : Addr).add j) = some u := fun j u hj => by
  rw [Addr.add_lit, Nat.zero_add, hr.cell j]
  exact hj
 obtain ⟨v', w', hrun, hown', hgr, _⟩ := run_append_own (P := Try.prog) w base 54 o.type 53 i _ 3 24 Try.underlying54 hi hz hsz hby (by simp [Value.cells, st3]) (by omega) v M.length (sts M) hown ⟨g, 0, none⟩ 1 c (sts [y]) rfl hnews (sts_one _) (by unfold maxLen; omega) (by omega) hb
 have hwh := append_where (P := Try.prog) (w := w) base 54 o.type 53 i _ 3 24 Try.underlying54 hi hz hsz hby (by omega) v M.length (sts M) hown ⟨g, 0, none⟩ 1 c (sts [y]) rfl hnews (sts_one _) (by unfold maxLen; omega) (by omega) hrun
 unfold Oper.wp execOp
 simp only [ho, resolve, invoke, builtin, Sem.run_bind, Sem.run_pure, Result.andThen_ok, List.map_toArray, List.map_cons, List.map_nil, hs, hx, hrun]
 refine h v' w' ?_ hgr hwh
 rw [List.length_append, sts_app]
 exact hown'
end
theorem built_st0 : Try.prog.built 53 [(0, .int .i64 0)] = some (st3 (0, 0, 0)).toArray := by kernel_rfl
theorem built_st3 (x y : Nat) (b : UInt8) : Try.prog.built 53 [(0, .int .i64 (x : Int)), (1, .int .i64 (y : Int)), (2, bv b)] = some (st3 (x, y, b)).toArray := by kernel_rfl
theorem own3_in {w : World} {base n : Nat} {e : TypeId} {v : Value} {M : List Stp} (h : w.ownsRow base e 3 v n (sts M)) (hn : 0 < n) : ∃ g c, v = .slice (some ⟨g, 0, none⟩) n c ∧ base ≤ g ∧ g < w.heap.size ∧ ∀ i x, i < n → M[i]? = some x → w.cell? ⟨g, i * 3, none⟩ = some (.int .i64 (x.1 : Int)) ∧ w.cell? ⟨g, i * 3 + 1, none⟩ = some (.int .i64 (x.2.1 : Int)) ∧ w.cell? ⟨g, i * 3 + 2, none⟩ = some (bv x.2.2) := by
 rcases h.2 with ⟨_, h0⟩ | ⟨g, cap, cur, rfl, hb, hg, hnc, hm, hs, ht⟩
 ·omega
 ·refine ⟨g, cap, rfl, hb, (Array.getElem?_eq_some_iff.1 hg).1, fun i x hi hx => ?_⟩
  have key : ∀ k u, k < 3 → (st3 x)[k]? = some u → w.cell? ⟨g, i * 3 + k, none⟩ = some u := fun k u hk hu => by
   have e1 := sts_get hx k hk
   rw [hu, ← ht, List.getElem?_take, if_pos (by omega), Array.getElem?_toList] at e1
   rw [cell_of_row w g _ cur e (0, 0) hg, e1]
  exact ⟨key 0 _ (by omega) rfl, key 1 _ (by omega) rfl, key 2 _ (by omega) rfl⟩
theorem own_fewer {w : World} {base n c k m : Nat} {e : TypeId} {A : Option Addr} {xs : List Value} (h : w.ownsRow base e k (.slice A n c) n xs) (hm : m ≤ n) (hA : A ≠ none) : w.ownsRow base e k (.slice A m c) m (xs.take (m * k)) := by
 have hle : m * k ≤ n * k := Nat.mul_le_mul_right k hm
 refine ⟨by rw [List.length_take, h.1]; exact Nat.min_eq_left hle, ?_⟩
 rcases h.2 with ⟨e1, _⟩ | ⟨g, cap, cur, e1, hb, hg, hnc, hcm, hs, ht⟩
 ·injection e1 with e1
  exact absurd e1 hA
 ·injection e1 with e1 e2 e3
  subst e1 e3
  exact .inr ⟨g, c, cur, rfl, hb, hg, Nat.le_trans hm hnc, hcm, hs, by rw [← ht, List.take_take, Nat.min_eq_left hle]⟩
end Go.Proofs.Ytaakdebcagdfgaa
