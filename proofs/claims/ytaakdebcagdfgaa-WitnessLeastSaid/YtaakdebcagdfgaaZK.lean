/-
  Texts of this proof, put together: LpJ, LqU. No statement is proved here.
-/
import Derived.Test.YtaakdebcagdfgaaZJ
import Derived.Test.YtaakdebcagdfgaaZG
import Derived.Test.YtaakdebcagdfgaaZD
import Derived.Test.YtaakdebcagdfgaaZA
import Derived.Test.YtaakdebcagdfgaaZC
import Derived.Test.YtaakdebcagdfgaaZE
import Derived.Test.YtaakdebcagdfgaaZH
namespace Go.Proofs.Ytaakdebcagdfgaa
open Go.RowKit
set_option linter.unusedSimpArgs false
set_option linter.unusedVariables false
structure CpR (D : Dm) (i : Nat) (U : Nat → Value) (X : Nat → List Value) : Prop where
 a0 : X 0 = (List.range i).map fun q => U (q + 2)
 a1 : X 1 = bools D.ends
 ar : ∀ q r, q < i → D.next[q]? = some r → X (q + 2) = nums .i64 r
theorem CpR.zero (D : Dm) (v : Value) : CpR D 0 (putV (fun _ => .slice none 0 0) 1 v) (putX (fun _ => []) 1 (bools D.ends)) := ⟨rfl, rfl, fun q r h => absurd h (Nat.not_lt_zero q)⟩
theorem CpR.next {D : Dm} {i : Nat} {U : Nat → Value} {X : Nat → List Value} (h : CpR D i U X) {v vn : Value} {r : List Int} (hr : D.next[i]? = some r) :
  CpR D (i + 1) (putV (putV U (2 + i) v) 0 vn) (putX (putX X (2 + i) (nums .i64 r)) 0 ((List.range i).map (fun q => U (q + 2)) ++ [v])) := by
 refine ⟨?_, ?_, fun q y hq hy => ?_⟩
 ·rw [putX_at, List.range_succ, List.map_append]
  have e1 : (List.range i).map (fun q => putV (putV U (2 + i) v) 0 vn (q + 2)) = (List.range i).map fun q => U (q + 2) := List.map_congr_left fun p hp => by
   have := List.mem_range.1 hp
   rw [putV_ne (by omega), putV_ne (by omega)]
  have e2 : putV (putV U (2 + i) v) 0 vn (i + 2) = v := by rw [putV_ne (by omega), Nat.add_comm i 2, putV_at]
  rw [e1, List.map_cons, List.map_nil, e2]
 ·rw [putX_ne (by omega), putX_ne (by omega)]
  exact h.a1
 ·rw [putX_ne (by omega)]
  by_cases e : q = i
  ·subst e
   rw [Nat.add_comm q 2, putX_at, Option.some.inj (hr.symm.trans hy)]
  ·rw [putX_ne (by omega)]
   exact h.ar q y (by omega) hy
theorem CpR.dfa {D : Dm} {n : Nat} {U : Nat → Value} {X : Nat → List Value} {w : World} {H : Nat} (h : CpR D n U X) (ha : Apt w H (2 + n) U X) (hl : D.cl.length = 256) (hn : n = D.next.length) : DfaA w H (dcl D.cl (U 0) (U 1)) D :=
 ⟨U, X, hl, rfl, by rw [← hn]; exact ha, by rw [← hn]; exact h.a0, h.a1, fun i r hr => h.ar i r (by have := (List.getElem?_eq_some_iff.1 hr).1; omega) hr⟩
theorem l22 (i : Nat) : (2 + i : Nat) ≠ 0 := by omega
theorem ex_bldP {ev : Operand → Value} {o : Oper} (parts : Array (Nat × Operand)) (ho : o.op = .build 28 parts) {d : List Value} (h : Try.prog.built 28 (parts.map fun (i, x) => (i, ev x)).toList = some d.toArray) (W : World) : (execOp ev o).run Try.prog W = .ok (.value (.agg d.toArray)) W := by
 unfold execOp
 simp only [ho, Sem.run_bind, run_build W 28 _ d.toArray h, Result.andThen_ok, Sem.run_pure]
theorem ex_bld2 {ev : Operand → Value} {o : Oper} (i j : Nat) (x y : Operand) (ho : o.op = .build 28 #[(i, x), (j, y)]) {u v : Value} (hx : ev x = u) (hy : ev y = v) {d : List Value} (h : Try.prog.built 28 [(i, u), (j, v)] = some d.toArray) (W : World) : (execOp ev o).run Try.prog W = .ok (.value (.agg d.toArray)) W :=
 ex_bldP _ ho (by simpa [hx, hy] using h) W
theorem grown_none {w w' : World} (hb : Below w.heap.size w w') : w.grownBy w' none := ⟨hb.os, hb.tape, hb.output, hb.size, fun k hk _ => hb.block k hk⟩
structure EnvC (w0 wl : World) (gd H : Nat) (cl : List UInt8) (vn ve : Value) (n : Nat) (xs : List Value) : Prop where
 blk : Blk wl gd 28 (dcl cl vn ve)
 own : wl.ownsRow H 4 1 ve n xs
 bel : Below H w0 wl
 ge : H ≤ gd
 ne : ∀ k, ve.ownBlock = some k → k ≠ gd
section
variable {w0 wl w' : World} {gd H H2 n : Nat} {cl : List UInt8} {vn ve : Value} {xs : List Value}
theorem EnvC.off (h : EnvC w0 wl gd H cl vn ve n xs) (hd : gd < H2) (hf : ∀ k, ve.ownBlock = some k → k < H2) (hb : Below H2 wl w') : EnvC w0 w' gd H cl vn ve n xs :=
 ⟨(hb.block gd hd).trans h.blk, own6_stay h.own fun j hj => hb.block j (hf j hj), h.bel.trans (hb.mono (Nat.le_trans h.ge (Nat.le_of_lt hd))), h.ge, h.ne⟩
theorem EnvC.below (h : EnvC w0 wl gd H cl vn ve n xs) (hb : Below wl.heap.size wl w') : EnvC w0 w' gd H cl vn ve n xs :=
 ⟨h.blk.below hb h.blk.lt, own6_stay h.own fun j hj => hb.block j (own6_lt h.own j hj).1, h.bel.trans (hb.mono (Nat.le_trans h.ge (Nat.le_of_lt h.blk.lt))), h.ge, h.ne⟩
theorem EnvC.setn (h : EnvC w0 wl gd H cl vn ve n xs) (hl : cl.length = 256) (v : Value) : EnvC w0 (wl.setCell ⟨gd, 256, none⟩ v) gd H cl v ve n xs := by
 have h1 := h.blk.set 256 v
 rw [dcl_setn hl] at h1
 exact ⟨h1, own6_stay h.own fun j hj => Below.heap_setCell wl ⟨gd, 256, none⟩ v j (h.ne j hj), h.bel.setCell (p := ⟨gd, 256, none⟩) h.ge v, h.ge, h.ne⟩
end
theorem apt_ends {w : World} {H H2 m n : Nat} {U : Nat → Value} {X : Nat → List Value} {ve : Value} {xs : List Value} (h : Apt w H2 m U X) (ho : w.ownsRow H 4 1 ve n xs) (hH : H ≤ H2) (hlt : ∀ k, ve.ownBlock = some k → k < H2) : Apt w H m (putV U 1 ve) (putX X 1 xs) := by
 refine ⟨fun i hi => ?_, fun i j hi hj hij k hk => ?_⟩
 ·by_cases e : i = 1
  ·subst e
   rw [putV_at, putX_at]
   have hx : xs.length = n := by rw [ho.1, Nat.mul_one]
   rw [hx]
   exact ho
  ·rw [putV_ne e, putX_ne e]
   exact own_mono (h.own i hi) hH
 ·by_cases e : i = 1
  ·subst e
   rw [putV_at] at hk
   rw [putV_ne (fun e2 => hij e2.symm)]
   intro e3
   have h1 := hlt k hk
   have h2 := (h.lt hj k e3).2
   omega
  ·rw [putV_ne e] at hk
   by_cases e2 : j = 1
   ·subst e2
    rw [putV_at]
    intro e3
    have h1 := hlt k e3
    have h2 := (h.lt hi k hk).2
    omega
   ·rw [putV_ne e2]
    exact h.inj i j hi hj hij k hk
theorem apt_no {w : World} {H : Nat} : Apt w H 2 (fun _ => .slice none 0 0) (fun _ => []) :=
 ⟨fun i _ => ownC_nil _ _ _, fun i j _ _ _ k hk => (by cases (show (none : Option Nat) = some k from hk))⟩
structure CpS (D : Dm) (i : Nat) (U : Nat → Value) (X : Nat → List Value) : Prop where
 a0 : X 0 = (List.range i).map fun q => U (q + 2)
 ar : ∀ q r, q < i → D.next[q]? = some r → X (q + 2) = nums .i64 r
theorem CpS.next {D : Dm} {i : Nat} {U : Nat → Value} {X : Nat → List Value} (h : CpS D i U X) {v vn : Value} {r : List Int} (hr : D.next[i]? = some r) :
  CpS D (i + 1) (putV (putV U (2 + i) v) 0 vn) (putX (putX X (2 + i) (nums .i64 r)) 0 ((List.range i).map (fun q => U (q + 2)) ++ [v])) := by
 refine ⟨?_, fun q y hq hy => ?_⟩
 ·rw [putX_at, List.range_succ, List.map_append]
  have e1 : (List.range i).map (fun q => putV (putV U (2 + i) v) 0 vn (q + 2)) = (List.range i).map fun q => U (q + 2) := List.map_congr_left fun p hp => by
   have := List.mem_range.1 hp
   rw [putV_ne (by omega), putV_ne (by omega)]
  have e2 : putV (putV U (2 + i) v) 0 vn (i + 2) = v := by rw [putV_ne (by omega), Nat.add_comm i 2, putV_at]
  rw [e1, List.map_cons, List.map_nil, e2]
 ·rw [putX_ne (by omega)]
  by_cases e : q = i
  ·subst e
   rw [Nat.add_comm q 2, putX_at, Option.some.inj (hr.symm.trans hy)]
  ·rw [putX_ne (by omega)]
   exact h.ar q y (by omega) hy
theorem CpS.dfa {D : Dm} {n : Nat} {U : Nat → Value} {X : Nat → List Value} {w : World} {H H2 : Nat} {ve : Value} (h : CpS D n U X) (ha : Apt w H2 (2 + n) U X) (ho : w.ownsRow H 4 1 ve n (bools D.ends)) (hH : H ≤ H2) (hlt : ∀ k, ve.ownBlock = some k → k < H2) (hl : D.cl.length = 256) (hn : n = D.next.length) : DfaA w H (dcl D.cl (U 0) ve) D := by
 refine ⟨putV U 1 ve, putX X 1 (bools D.ends), hl, by rw [putV_ne (by decide), putV_at], by rw [← hn]; exact apt_ends ha ho hH hlt, ?_, putX_at _ _ _, fun i r hr => ?_⟩
 ·rw [putX_ne (by decide), h.a0, hn]
  exact List.map_congr_left fun q _ => by rw [putV_ne (by omega)]
 ·rw [putX_ne (by omega)]
  exact h.ar i r (by have := (List.getElem?_eq_some_iff.1 hr).1; omega) hr
theorem id2 {P : Prop} (h : P) : P := h
theorem nums_one' (l : List Int) : ∀ u ∈ nums .i64 l, u.oneCell' = true := fun u hu => by
 obtain ⟨x, _, rfl⟩ := List.mem_map.1 hu
 rfl
theorem putV_putV (U : Nat → Value) (s : Nat) (a b : Value) : putV (putV U s a) s b = putV U s b := by
 funext i
 unfold putV
 split <;> rfl
theorem putX_putX (X : Nat → List Value) (s : Nat) (a b : List Value) : putX (putX X s a) s b = putX X s b := by
 funext i
 unfold putX
 split <;> rfl
theorem l23 (i : Nat) : 2 + i < 2 + i + 1 := by omega
theorem l20 (i : Nat) : 0 < 2 + i := by omega
theorem l20s (i : Nat) : 0 < 2 + i + 1 := by omega
set_option maxHeartbeats 16000000 in
set_option maxRecDepth 1000000 in
theorem refCopy11_any (D : Dm) (cs : List Value) (w : World) (hv : DfaV w cs D) (hm : MayD D) :
  Calls Try.prog 35 #[.agg cs.toArray] w fun e w' => ∃ cs', e = .returned (.agg cs'.toArray) ∧ DfaA w' w.heap.size cs' D ∧ Below w.heap.size w w' := by
 have HM := qH hm
 have HDS := qH hv.size
 obtain ⟨An, Ae, cn, ce, vf, hl, hcs, hn, hr, he⟩ := hv.form
 have HL := qH hl
 obtain ⟨n, hnn⟩ : ∃ n, n = D.next.length := ⟨_, rfl⟩
 have HN := qH hnn
 rw [hm.ends, ← hnn] at hcs he
 rw [← hnn] at hn
 have HCS := qH hcs
 have HE := qH he
 have HR := qH hr
 have HRN := qH hn
 have HNP := qH (show 0 < n by rw [hnn]; exact hm.pos)
 have HNF := qH (show n ≤ 2000 by rw [hnn]; exact hm.few)
 have HEL := qH (show D.ends.length = n by rw [hnn]; exact hm.ends)
 obtain ⟨cl, hcl⟩ : ∃ cl, cl = D.cl := ⟨_, rfl⟩
 have HCL := qH hcl
 rw [← hcl] at HCS HL
 have HSC := qH (show (Try.prog.info? 24).map (·.size) = some (bvs cl).length from size_ctab HL.out)
 obtain ⟨d0, hd0⟩ : ∃ d0, d0 = dcl (ctab [] 0) (.slice none 0 0) (.slice none 0 0) := ⟨_, rfl⟩
 have HDL := qH (show d0.length = 258 by rw [hd0]; exact dcl_len (ctab_length _ _))
 obtain ⟨id, hid, hdz⟩ := Option.map_eq_some_iff.1 inf_dfa
 rw [← hd0] at hdz
 obtain ⟨i1, hi1, hy0, hy1, hy2⟩ := infoP inf_int
 obtain ⟨i2, hi2, hb0, hb1, hb2⟩ := infoP inf_bool
 obtain ⟨il, hil, hl0, hl1, hl2⟩ := infoP inf_sl
 clear hv hm hl hcs hn hr he hnn hcl hd0
 go_enter Try.func35, Try.ntmps35
 go_wp2_with (first
  | ((with_reducible refine atDst 1 ?_); refine wpList_box rfl 28 _ rfl cs rfl (Below.refl w.heap.size w) (Nat.le_refl _) ?_; intro w1 hk1 hb1 hs1 _; have K1 := qH hk1; have B1 := qH hb1; clear hk1 hb1 hs1; (try simp only [Act.put, qA, qB, qC]))
  | ((with_reducible refine atDst 2 ?_); refine wpList_new rfl 28 rfl id _ d0 hid hdz rfl (Below.refl w1.heap.size w1) (Nat.le_refl _) ?_; intro w2 hk hb hs _; have R2 := qH hk; have K2 := qH (K1.out.below hb K1.out.lt); have B2 := qH (B1.out.trans (hb.mono B1.out.size)); clear hk hb hs; (try simp only [Act.put, qA, qB, qC])))
 have r1 := qH (show w2.rangeAt w.heap.size 0 (bvs cl) from fun i v hv => by { rw [Nat.zero_add, K2.out.cell i, HCS.out, dcl_cl HL.out (by have := (List.getElem?_eq_some_iff.1 hv).1; rw [bvs_length, HL.out] at this; exact this)]; exact hv })
 have C257 := qH (show w2.cell? ⟨w.heap.size, 257, none⟩ = some (.slice Ae n ce) by rw [K2.out.cell 257, HCS.out]; exact dcl_e HL.out)
 have HE2 := qH (HE.out.below B2.out)
 have HBD := qH (show 0 + (bools D.ends).length ≤ 2097152 by rw [bools_length, HEL.out, Nat.zero_add]; exact Nat.le_trans HNF.out (by decide))
 refine mc_start (fun V => Below w2.heap.size w2 V) (fun _ => True) 9 (by kernel_rfl) (fun wd hwd => ?_)
 have hX : Below w2.heap.size w2 wd := by rw [hwd]; exact (Below.refl _ _).drew
 have hY : True := trivial
 clear hwd
 obtain ⟨v0, hv0⟩ : ∃ v : World, v = wd := ⟨_, rfl⟩
 subst hv0
 refine mc_take (i := 0) (oi := ⟨some 5, _, _, _, _, _⟩) (v := ?_) rfl (by kernel_rfl) (by kernel_rfl) (by kernel_rfl) (fun _ _ _ h => h) rfl hX ?_ ?_; rotate_left; (intro W hW; go_simp; try with_reducible rfl); simp only [Act.put, qA, qB, qC]
 refine mc_take (i := 1) (oi := ⟨some 6, _, _, _, _, _⟩) (v := .agg (bvs cl).toArray) rfl (by kernel_rfl) (by kernel_rfl) (by kernel_rfl) (fun _ _ _ h => h) rfl hX (fun V hV => ld_mid 24 (.tmp 5) rfl w.heap.size 0 rfl (bvs cl) _ r1.out K2.out.lt Try.underlying24 rfl HSC.out V hV) ?_; simp only [Act.put, qA, qB, qC]
 refine mc_take (i := 3) (oi := ⟨some 8, _, _, _, _, _⟩) (v := ?_) rfl (by kernel_rfl) (by kernel_rfl) (by kernel_rfl) (fun _ _ _ h => h) rfl hX ?_ ?_; rotate_left; (intro W hW; go_simp; try with_reducible rfl); simp only [Act.put, qA, qB, qC]
 refine mc_take (i := 4) (oi := ⟨some 9, _, _, _, _, _⟩) (v := .slice Ae n ce) rfl (by kernel_rfl) (by kernel_rfl) (by kernel_rfl) (fun _ _ _ h => h) rfl hX (fun V hV => ld_bls (.tmp 8) rfl rfl ((hV.cell (p := ⟨w.heap.size, 257, none⟩) K2.out.lt).trans C257.out)) ?_; simp only [Act.put, qA, qB, qC]
 refine mc_two (i := 2) (j := 7) (oi := ⟨some 7, _, _, _, _, _⟩) (oj := ⟨some 3, _, _, _, _, _⟩) rfl rfl (by kernel_rfl) rfl rfl (fun K hK => ?_) (fun K hK => ?_)
 rotate_left
 focus
  refine wp_newL 28 rfl id _ d0 hid hdz rfl ?_
  intro v1 hk hb
  have KG1 := qH hk
  have HG := qH (show w2.heap.size ≤ v0.heap.size from hX.size)
  have hX2 := hX.trans (hb.mono hX.size)
  clear hk hb
  refine hK _ _ hX2 trivial ?_
  clear hK K hX
  (try simp only [Act.put, qA, qB, qC])
  have hX := hX2
  clear hX2
  refine mc_actB (i := 2) (o := ⟨some 7, _, _, _, _, _⟩) rfl (by kernel_rfl) rfl (fun K hK => ?_)
  refine wp_bld0L 26 4 rfl i2 Try.underlying26 hi2 (.bool false) hb0 hb1 ?_
  intro v2 ho hb
  have O2 := qH (own_mono ho hX.size)
  have KG2 := qH (KG1.out.below hb KG1.out.lt)
  have N2 := qH (show ∀ k, (Value.slice (some ⟨v1.heap.size, 0, none⟩) 0 0).ownBlock = some k → k ≠ v0.heap.size from fun k hk => by
   have e : some v1.heap.size = some k := hk
   injection e with e
   have := KG1.out.lt
   omega)
  have hX2 := hX.trans (hb.mono hX.size)
  clear ho hb
  refine hK _ _ hX2 trivial ?_
  clear hK K hX
  (try simp only [Act.put, qA, qB, qC])
  have hX := hX2
  clear hX2
  refine mc_actB (i := 5) (o := ⟨some 10, _, _, _, _, _⟩) rfl (by kernel_rfl) rfl (fun K hK => ?_)
  refine wp_appW (base := w2.heap.size) (.tmp 7) (.tmp 9) 26 rfl 4 i2 (.bool false) 1 Try.underlying26 hi2 hb0 hb1 hb2 rfl _ 0 [] rfl O2.out _ (bools D.ends) rfl (HE2.out.below hX) (bools_one _) HBD.out (by decide) hX.size ?_
  intro ve v3 ho hg hw
  have ho2 : World.ownsRow v3 w2.heap.size 4 1 ve n (bools D.ends) := by
   rw [bools_length, HEL.out, Nat.zero_add, List.nil_append] at ho
   exact ho
  obtain ⟨AE, cE, rfl⟩ : ∃ A c, ve = .slice A n c := ownC_slice ho2
  have OE3 := qH ho2
  obtain ⟨d1, hd1⟩ : ∃ d1, d1 = dcl cl (.slice none 0 0) (.slice AE n cE) := ⟨_, rfl⟩
  have HD1 := qH hd1
  have HB1 := qH (show Try.prog.built 28 [(0, .agg (bvs cl).toArray), (2, .slice AE n cE)] = some d1.toArray by rw [hd1]; exact built_02 HL.out)
  have HD1L := qH (show d1.length = 258 by rw [hd1]; exact dcl_len HL.out)
  have HD1O := qH (show d1.all (·.oneCell') = true by rw [hd1]; exact dcl_one)
  have HD1S := qH (show (Try.prog.info? 28).map (·.size) = some d1.length by rw [hd1]; exact size_dfa HL.out)
  have KG3 := qH (KG2.out.grown hg fun e => N2.out _ e.symm rfl)
  have NE3 := qH (show ∀ k, (Value.slice AE n cE).ownBlock = some k → k ≠ v0.heap.size from fun k hk e => by
   rcases hw k hk with h | h
   ·exact N2.out k h e
   ·have := KG2.out.lt
    omega)
  have hX2 := below_own hX hX.size hg (fun q hq => (own6_lt O2.out q hq).2)
  clear ho ho2 hg hw hd1
  refine hK _ _ hX2 trivial ?_
  clear hK K hX
  (try simp only [Act.put, qA, qB, qC])
  have hX := hX2
  clear hX2
  refine mc_take (i := 6) (oi := ⟨some 11, _, _, _, _, _⟩) (v := .agg d1.toArray) rfl (by kernel_rfl) (by kernel_rfl) (by kernel_rfl) (fun _ _ _ h => h) rfl hX (fun V _ => ex_bld2 0 2 (.tmp 6) (.tmp 10) rfl rfl rfl HB1.out V) ?_; simp only [Act.put, qA, qB, qC]
  refine mc_actB (i := 8) (o := ⟨none, _, _, _, _, _⟩) rfl (by kernel_rfl) rfl (fun K hK => ?_)
  refine wp_stBlk 28 (.tmp 3) (.tmp 11) rfl v0.heap.size d1 rfl rfl 28 _ KG3.out HD1S.out (by rw [HDL.out, HD1L.out]) HD1O.out hX HG.out ?_
  intro v4 hk hb hs ho hbb
  have hX2 := hb
  obtain ⟨gd, hgd⟩ : ∃ g, g = v0.heap.size := ⟨_, rfl⟩
  have KE := qH (show Blk v4 gd 28 (dcl cl (.slice none 0 0) (.slice AE n cE)) by rw [hgd, ← HD1.out]; exact hk)
  have OEE := qH (own6_stay OE3.out fun q hq => ho q (NE3.out q hq))
  have NEE := qH (show ∀ k, (Value.slice AE n cE).ownBlock = some k → k ≠ gd by rw [hgd]; exact NE3.out)
  have HGG := qH (show w2.heap.size ≤ gd by rw [hgd]; exact HG.out)
  refine hK _ _ hX2 trivial ?_
  clear hK K hX
  rw [← hgd]
  (try simp only [Act.put, qA, qB, qC])
  clear hk hb hs ho hbb hgd
  have hX := hX2
  clear hX2
  refine wpAnyC_done (by kernel_rfl) ?_ _
  obtain ⟨we, hwe⟩ : ∃ v : World, v = v4 := ⟨_, rfl⟩
  subst hwe
 rotate_left
 refine wp_bld0L 26 4 rfl i2 Try.underlying26 hi2 (.bool false) hb0 hb1 ?_
 intro v1 ho hb
 have O1 := qH (own_mono ho hX.size)
 have hX2 := hX.trans (hb.mono hX.size)
 clear ho hb
 refine hK _ _ hX2 trivial ?_
 clear hK K hX
 (try simp only [Act.put, qA, qB, qC])
 have hX := hX2
 clear hX2
 refine mc_two (i := 5) (j := 7) (oi := ⟨some 10, _, _, _, _, _⟩) (oj := ⟨some 3, _, _, _, _, _⟩) rfl rfl (by kernel_rfl) rfl rfl (fun K hK => ?_) (fun K hK => ?_)
 focus
  refine wp_appW (base := w2.heap.size) (.tmp 7) (.tmp 9) 26 rfl 4 i2 (.bool false) 1 Try.underlying26 hi2 hb0 hb1 hb2 rfl _ 0 [] rfl O1.out _ (bools D.ends) rfl (HE2.out.below hX) (bools_one _) HBD.out (by decide) hX.size ?_
  intro ve v2 ho hg hw
  have ho2 : World.ownsRow v2 w2.heap.size 4 1 ve n (bools D.ends) := by
   rw [bools_length, HEL.out, Nat.zero_add, List.nil_append] at ho
   exact ho
  obtain ⟨AE, cE, rfl⟩ : ∃ A c, ve = .slice A n c := ownC_slice ho2
  have OE2 := qH ho2
  obtain ⟨d1, hd1⟩ : ∃ d1, d1 = dcl cl (.slice none 0 0) (.slice AE n cE) := ⟨_, rfl⟩
  have HD1 := qH hd1
  have HB1 := qH (show Try.prog.built 28 [(0, .agg (bvs cl).toArray), (2, .slice AE n cE)] = some d1.toArray by rw [hd1]; exact built_02 HL.out)
  have HD1L := qH (show d1.length = 258 by rw [hd1]; exact dcl_len HL.out)
  have HD1O := qH (show d1.all (·.oneCell') = true by rw [hd1]; exact dcl_one)
  have HD1S := qH (show (Try.prog.info? 28).map (·.size) = some d1.length by rw [hd1]; exact size_dfa HL.out)
  have hX2 := below_own hX hX.size hg (fun q hq => (own6_lt O1.out q hq).2)
  clear ho ho2 hg hw hd1
  refine hK _ _ hX2 trivial ?_
  clear hK K hX
  (try simp only [Act.put, qA, qB, qC])
  have hX := hX2
  clear hX2
  refine mc_take (i := 6) (oi := ⟨some 11, _, _, _, _, _⟩) (v := .agg d1.toArray) rfl (by kernel_rfl) (by kernel_rfl) (by kernel_rfl) (fun _ _ _ h => h) rfl hX (fun V _ => ex_bld2 0 2 (.tmp 6) (.tmp 10) rfl rfl rfl HB1.out V) ?_; simp only [Act.put, qA, qB, qC]
  refine mc_actB (i := 7) (o := ⟨some 3, _, _, _, _, _⟩) rfl (by kernel_rfl) rfl (fun K hK => ?_)
  refine wp_newL 28 rfl id _ d0 hid hdz rfl ?_
  intro v3 hk hb
  have KG3 := qH hk
  have HG := qH (show w2.heap.size ≤ v2.heap.size from hX.size)
  have OE3 := qH (own6_stay OE2.out fun q hq => hb.block q (own6_lt OE2.out q hq).1)
  have NE3 := qH (show ∀ k, (Value.slice AE n cE).ownBlock = some k → k ≠ v2.heap.size from fun k hk => Nat.ne_of_lt (own6_lt OE2.out k hk).1)
  have hX2 := hX.trans (hb.mono hX.size)
  clear hk hb
  refine hK _ _ hX2 trivial ?_
  clear hK K hX
  (try simp only [Act.put, qA, qB, qC])
  have hX := hX2
  clear hX2
  refine mc_actB (i := 8) (o := ⟨none, _, _, _, _, _⟩) rfl (by kernel_rfl) rfl (fun K hK => ?_)
  refine wp_stBlk 28 (.tmp 3) (.tmp 11) rfl v2.heap.size d1 rfl rfl 28 _ KG3.out HD1S.out (by rw [HDL.out, HD1L.out]) HD1O.out hX HG.out ?_
  intro v4 hk hb hs ho hbb
  have hX2 := hb
  obtain ⟨gd, hgd⟩ : ∃ g, g = v2.heap.size := ⟨_, rfl⟩
  have KE := qH (show Blk v4 gd 28 (dcl cl (.slice none 0 0) (.slice AE n cE)) by rw [hgd, ← HD1.out]; exact hk)
  have OEE := qH (own6_stay OE3.out fun q hq => ho q (NE3.out q hq))
  have NEE := qH (show ∀ k, (Value.slice AE n cE).ownBlock = some k → k ≠ gd by rw [hgd]; exact NE3.out)
  have HGG := qH (show w2.heap.size ≤ gd by rw [hgd]; exact HG.out)
  refine hK _ _ hX2 trivial ?_
  clear hK K hX
  rw [← hgd]
  (try simp only [Act.put, qA, qB, qC])
  clear hk hb hs ho hbb hgd
  have hX := hX2
  clear hX2
  refine wpAnyC_done (by kernel_rfl) ?_ _
  obtain ⟨we, hwe⟩ : ∃ v : World, v = v4 := ⟨_, rfl⟩
  subst hwe
 rotate_left
 focus
  refine wp_newL 28 rfl id _ d0 hid hdz rfl ?_
  intro v2 hk hb
  have KG2 := qH hk
  have HG := qH (show w2.heap.size ≤ v1.heap.size from hX.size)
  have O2 := qH (own6_stay O1.out fun q hq => hb.block q (own6_lt O1.out q hq).1)
  have N2 := qH (show ∀ k, (Value.slice (some ⟨v0.heap.size, 0, none⟩) 0 0).ownBlock = some k → k ≠ v1.heap.size from fun k hk => Nat.ne_of_lt (own6_lt O1.out k hk).1)
  have hX2 := hX.trans (hb.mono hX.size)
  clear hk hb
  refine hK _ _ hX2 trivial ?_
  clear hK K hX
  (try simp only [Act.put, qA, qB, qC])
  have hX := hX2
  clear hX2
  refine mc_actB (i := 5) (o := ⟨some 10, _, _, _, _, _⟩) rfl (by kernel_rfl) rfl (fun K hK => ?_)
  refine wp_appW (base := w2.heap.size) (.tmp 7) (.tmp 9) 26 rfl 4 i2 (.bool false) 1 Try.underlying26 hi2 hb0 hb1 hb2 rfl _ 0 [] rfl O2.out _ (bools D.ends) rfl (HE2.out.below hX) (bools_one _) HBD.out (by decide) hX.size ?_
  intro ve v3 ho hg hw
  have ho2 : World.ownsRow v3 w2.heap.size 4 1 ve n (bools D.ends) := by
   rw [bools_length, HEL.out, Nat.zero_add, List.nil_append] at ho
   exact ho
  obtain ⟨AE, cE, rfl⟩ : ∃ A c, ve = .slice A n c := ownC_slice ho2
  have OE3 := qH ho2
  obtain ⟨d1, hd1⟩ : ∃ d1, d1 = dcl cl (.slice none 0 0) (.slice AE n cE) := ⟨_, rfl⟩
  have HD1 := qH hd1
  have HB1 := qH (show Try.prog.built 28 [(0, .agg (bvs cl).toArray), (2, .slice AE n cE)] = some d1.toArray by rw [hd1]; exact built_02 HL.out)
  have HD1L := qH (show d1.length = 258 by rw [hd1]; exact dcl_len HL.out)
  have HD1O := qH (show d1.all (·.oneCell') = true by rw [hd1]; exact dcl_one)
  have HD1S := qH (show (Try.prog.info? 28).map (·.size) = some d1.length by rw [hd1]; exact size_dfa HL.out)
  have KG3 := qH (KG2.out.grown hg fun e => N2.out _ e.symm rfl)
  have NE3 := qH (show ∀ k, (Value.slice AE n cE).ownBlock = some k → k ≠ v1.heap.size from fun k hk e => by
   rcases hw k hk with h | h
   ·exact N2.out k h e
   ·have := KG2.out.lt
    omega)
  have hX2 := below_own hX hX.size hg (fun q hq => (own6_lt O2.out q hq).2)
  clear ho ho2 hg hw hd1
  refine hK _ _ hX2 trivial ?_
  clear hK K hX
  (try simp only [Act.put, qA, qB, qC])
  have hX := hX2
  clear hX2
  refine mc_take (i := 6) (oi := ⟨some 11, _, _, _, _, _⟩) (v := .agg d1.toArray) rfl (by kernel_rfl) (by kernel_rfl) (by kernel_rfl) (fun _ _ _ h => h) rfl hX (fun V _ => ex_bld2 0 2 (.tmp 6) (.tmp 10) rfl rfl rfl HB1.out V) ?_; simp only [Act.put, qA, qB, qC]
  refine mc_actB (i := 8) (o := ⟨none, _, _, _, _, _⟩) rfl (by kernel_rfl) rfl (fun K hK => ?_)
  refine wp_stBlk 28 (.tmp 3) (.tmp 11) rfl v1.heap.size d1 rfl rfl 28 _ KG3.out HD1S.out (by rw [HDL.out, HD1L.out]) HD1O.out hX HG.out ?_
  intro v4 hk hb hs ho hbb
  have hX2 := hb
  obtain ⟨gd, hgd⟩ : ∃ g, g = v1.heap.size := ⟨_, rfl⟩
  have KE := qH (show Blk v4 gd 28 (dcl cl (.slice none 0 0) (.slice AE n cE)) by rw [hgd, ← HD1.out]; exact hk)
  have OEE := qH (own6_stay OE3.out fun q hq => ho q (NE3.out q hq))
  have NEE := qH (show ∀ k, (Value.slice AE n cE).ownBlock = some k → k ≠ gd by rw [hgd]; exact NE3.out)
  have HGG := qH (show w2.heap.size ≤ gd by rw [hgd]; exact HG.out)
  refine hK _ _ hX2 trivial ?_
  clear hK K hX
  rw [← hgd]
  (try simp only [Act.put, qA, qB, qC])
  clear hk hb hs ho hbb hgd
  have hX := hX2
  clear hX2
  refine wpAnyC_done (by kernel_rfl) ?_ _
  obtain ⟨we, hwe⟩ : ∃ v : World, v = v4 := ⟨_, rfl⟩
  subst hwe
 all_goals
  obtain ⟨H2, hH2⟩ : ∃ g, g = we.heap.size := ⟨_, rfl⟩
  have HH2 := qH hH2
  have HGH := qH (show gd < H2 by rw [hH2]; exact KE.out.lt)
  have HFH := qH (show ∀ k, (Value.slice AE n cE).ownBlock = some k → k < H2 from fun k hk => by rw [hH2]; exact (own6_lt OEE.out k hk).1)
  have EC := qH (show EnvC w2 we gd w2.heap.size cl (.slice none 0 0) (.slice AE n cE) n (bools D.ends) from ⟨KE.out, OEE.out, hX, HGG.out, NEE.out⟩)
  have HGW := qH (show w1.heap.size < gd from Nat.lt_of_lt_of_le R2.out.lt HGG.out)
  clear hH2 KE OEE NEE hX hY
  have KW := qH (show ∀ V, Below w2.heap.size w2 V → V.cell? ⟨w.heap.size, 256, none⟩ = some (.slice An n cn) from fun V hV => ((K2.out.below hV K2.out.lt).cell 256).trans (by rw [HCS.out]; exact dcl_n HL.out))
  go_wp2_with fail
  go_loopw [4] (fun v wl => ∃ (i : Nat) (U : Nat → Value) (X : Nat → List Value), i ≤ n ∧ v = .int .i64 (i : Int) ∧ Apt wl H2 (2 + i) U X ∧ CpS D i U X ∧ EnvC w2 wl gd w2.heap.size cl (U 0) (.slice AE n cE) n (bools D.ends) ∧ H2 ≤ wl.heap.size) (fun v _ => n - (intOf v).toNat)
  case atStart => exact ⟨0, _, _, Nat.zero_le _, rfl, apt_no, ⟨rfl, fun q r h => absurd h (Nat.not_lt_zero q)⟩, EC.out, Nat.le_of_eq HH2.out⟩
  clear EC
  obtain ⟨i, U, X, hi, rfl, ha, hc, he, hh⟩ := hrel
  have HI := qH hi
  have AI := qH ha
  have CI := qH hc
  have EI := qH he
  have HHI := qH hh
  have ON := qH (show wr.ownsRow H2 47 1 (U 0) i ((List.range i).map fun q => U (q + 2)) by
   have h1 := ha.own 0 (l20 i)
   rw [hc.a0, List.length_map, List.length_range] at h1
   exact h1)
  obtain ⟨AN, cN, hu0⟩ := ownC_slice ON.out
  have HU0 := qH hu0
  have EI2 := qH (show EnvC w2 wr gd w2.heap.size cl (.slice AN i cN) (.slice AE n cE) n (bools D.ends) by rw [← hu0]; exact he)
  have c256 := KW.out wr EI.out.bel
  obtain ⟨wi, hwi⟩ : ∃ v : World, v = wr := ⟨_, rfl⟩
  subst hwi
  clear hi ha hc he hh hu0
  by_cases hin : i < n
  ·have x1 : (i : Int) < (n : Int) := Int.ofNat_lt.2 hin
   have HIN := qH hin
   have HMI := qH (sub_next hin)
   have e3 := wrap_one i (lt_bigN hin HNF.out)
   have e4 := wrap_one' i (lt_bigN hin HNF.out)
   obtain ⟨r, hr⟩ : ∃ r, D.next[i]? = some r := ⟨_, List.getElem?_eq_getElem (by rw [← HN.out]; exact hin)⟩
   have HRI := qH hr
   have hrw := HR.out i r hr
   obtain ⟨Ar, cr, hvr, _⟩ := id2 hrw
   rw [nums_length] at hvr
   rw [hvr] at hrw
   obtain ⟨kr, hkr⟩ : ∃ k, k = r.length := ⟨_, rfl⟩
   rw [← hkr] at hvr hrw
   have RR := qH hrw
   have HKR := qH hkr
   have HKR2 := qH (show 0 + (nums .i64 r).length ≤ 2097152 by rw [nums_length, Nat.zero_add, HM.out.rows r (List.mem_of_getElem? hr)]; exact Nat.le_trans (clsA_le _) (by decide))
   obtain ⟨bn, on, rfl, hbn, hcn⟩ := HRN.out.at_ (by rw [List.length_map, List.length_range]; exact HNP.out)
   have HBN := qH hbn
   have CRI := qH (show w.cell? ⟨bn, on + i, none⟩ = some (.slice Ar kr cr) from hcn i _ (by simp [hin, hvr]))
   have HB9 := qH (show i + [Value.slice none 0 0].length ≤ 2097152 from bnd_2000 hin HNF.out)
   have AM := qH AI.out.more
   clear hin hr hvr hrw hkr hbn hcn
   go_wp2_with fail
   clear c256
   refine mc_start (fun V => Below w2.heap.size w2 V) (fun V => Blk V gd 28 (dcl cl (.slice AN i cN) (.slice AE n cE))) 12 (by kernel_rfl) (fun wd hwd => ?_)
   have hBD : Below wi.heap.size wi wd := by rw [hwd]; exact (Below.refl _ _).drew
   have ED := qH (EI2.out.below hBD)
   have AD := qH (AM.out.below hBD)
   have HHD := qH (Nat.le_trans HHI.out hBD.size)
   have hX : Below w2.heap.size w2 wd := ED.out.bel
   have hY : Blk wd gd 28 (dcl cl (.slice AN i cN) (.slice AE n cE)) := ED.out.blk
   clear hwd hBD
   refine mc_take (i := 0) (oi := ⟨some 19, _, _, _, _, _⟩) (v := ?_) rfl (by kernel_rfl) (by kernel_rfl) (by kernel_rfl) (fun _ _ _ h => h) rfl hX ?_ ?_; rotate_left; (intro W hW; go_simp; try with_reducible rfl); simp only [Act.put, qA, qB, qC]
   refine mc_takeS (i := 1) (oi := ⟨some 20, _, _, _, _, _⟩) (v := .slice AN i cN) rfl (by kernel_rfl) (by kernel_rfl) (by kernel_rfl) (fun _ _ _ h => h) rfl hX hY (fun V _ hS => ld_inss (.tmp 19) rfl rfl (by have := Blk.cell hS 256; rw [dcl_n HL.out] at this; exact this)) ?_; simp only [Act.put, qA, qB, qC]
   refine mc_take (i := 3) (oi := ⟨some 22, _, _, _, _, _⟩) (v := ?_) rfl (by kernel_rfl) (by kernel_rfl) (by kernel_rfl) (fun _ _ _ h => h) rfl hX ?_ ?_; rotate_left; (intro W hW; go_simp; try with_reducible rfl); simp only [Act.put, qA, qB, qC]
   refine mc_take (i := 4) (oi := ⟨some 23, _, _, _, _, _⟩) (v := .slice (some ⟨bn, on, none⟩) n cn) rfl (by kernel_rfl) (by kernel_rfl) (by kernel_rfl) (fun _ _ _ h => h) rfl hX (fun V hV => ld_inss (.tmp 22) rfl rfl (KW.out V hV)) ?_; simp only [Act.put, qA, qB, qC]
   refine mc_take (i := 5) (oi := ⟨some 24, _, _, _, _, _⟩) (v := ?_) rfl (by kernel_rfl) (by kernel_rfl) (by kernel_rfl) (fun _ _ _ h => h) rfl hX ?_ ?_; rotate_left; (intro W hW; go_simp; try with_reducible rfl); simp only [Act.put, qA, qB, qC]
   refine mc_take (i := 6) (oi := ⟨some 25, _, _, _, _, _⟩) (v := ?_) rfl (by kernel_rfl) (by kernel_rfl) (by kernel_rfl) (fun _ _ _ h => h) rfl hX ?_ ?_; rotate_left; (intro W hW; go_simp; try with_reducible rfl); simp only [Act.put, qA, qB, qC]
   refine mc_take (i := 7) (oi := ⟨some 26, _, _, _, _, _⟩) (v := .slice Ar kr cr) rfl (by kernel_rfl) (by kernel_rfl) (by kernel_rfl) (fun _ _ _ h => h) rfl hX (fun V hV => ld_ints9 (.tmp 25) rfl rfl (((B2.out.trans (hV.mono B2.out.size)).cell (p := ⟨bn, on + i, none⟩) HBN.out).trans CRI.out)) ?_; simp only [Act.put, qA, qB, qC]
   refine mc_actB (i := 2) (o := ⟨some 21, _, _, _, _, _⟩) rfl (by kernel_rfl) rfl (fun K hK => ?_)
   refine wp_bld0L 47 3 rfl i1 Try.underlying47 hi1 (.int .i64 0) hy0 hy1 ?_
   intro wa ho hb
   have OA := qH (own_mono ho HHD.out)
   have BA := qH hb
   have EA := qH (ED.out.below hb)
   have HHA := qH (Nat.le_trans HHD.out hb.size)
   refine hK _ _ EA.out.bel EA.out.blk ?_
   clear hK K hX hY
   (try simp only [Act.put, qA, qB, qC])
   clear ho hb
   have hX := EA.out.bel
   have hY := EA.out.blk
   refine mc_actB (i := 8) (o := ⟨some 27, _, _, _, _, _⟩) rfl (by kernel_rfl) rfl (fun K hK => ?_)
   refine wp_appW (base := H2) (.tmp 21) (.tmp 26) 47 rfl 3 i1 (.int .i64 0) 8 Try.underlying47 hi1 hy0 hy1 hy2 rfl _ 0 [] rfl OA.out _ (nums .i64 r) rfl (RR.out.below (B2.out.trans (hX.mono B2.out.size))) (nums_one' _) HKR2.out (by decide) HHA.out ?_
   intro vr wb ho hg hw
   have ho2 : World.ownsRow wb H2 3 1 vr kr (nums .i64 r) := by
    rw [nums_length, ← HKR.out, Nat.zero_add, List.nil_append] at ho
    exact ho
   have OB := qH ho2
   have BB := qH (show Below wd.heap.size wd wb from below_own BA.out BA.out.size hg fun q hq => by
    have e : some wd.heap.size = some q := hq
    injection e with e
    exact Nat.le_of_eq e)
   have HVW := qH (show ∀ k, vr.ownBlock = some k → wd.heap.size ≤ k from fun k hk => by
    rcases hw k hk with h | h
    ·have e : some wd.heap.size = some k := h
     injection e with e
     exact Nat.le_of_eq e
    ·exact Nat.le_trans BA.out.size h)
   obtain ⟨A3, c3, rfl⟩ := ownC_slice ho2
   have ab := AD.out.grow (s := 2 + i) (v := .slice A3 kr c3) (l := nums .i64 r) (l23 i) (by rw [nums_length, ← HKR.out, Nat.add_comm 2 i]; exact ho2) (by rw [putV_at]; exact grown_none BB.out) (fun k hk => .inr (HVW.out k hk))
   rw [putV_putV, putX_putX] at ab
   have AB := qH ab
   clear ab
   have EB := qH (ED.out.below BB.out)
   have HHB := qH (Nat.le_trans HHD.out BB.out.size)
   refine hK _ _ EB.out.bel EB.out.blk ?_
   clear hK K hX hY
   (try simp only [Act.put, qA, qB, qC])
   clear ho ho2 hg hw
   have hX := EB.out.bel
   have hY := EB.out.blk
   refine mc_actB (i := 9) (o := ⟨some 28, _, _, _, _, _⟩) rfl (by kernel_rfl) rfl (fun K hK => ?_)
   refine wp_bldVk 25 47 (.tmp 27) rfl il (.slice none 0 0) Try.underlying25 hil hl0 hl1 rfl (.slice A3 kr c3) rfl rfl ?_
   intro wc hk hb
   have KC := qH hk
   have AC := qH (AB.out.below hb)
   have EC := qH (EB.out.below hb)
   have HHC := qH (Nat.le_trans HHB.out hb.size)
   refine hK _ _ EC.out.bel EC.out.blk ?_
   clear hK K hX hY
   (try simp only [Act.put, qA, qB, qC])
   clear hk hb
   have hX := EC.out.bel
   have hY := EC.out.blk
   have ONC := qH (show wc.ownsRow H2 47 1 (.slice AN i cN) i ((List.range i).map fun q => U (q + 2)) by
    have h1 := AC.out.own 0 (l20s i)
    rw [putV_ne (l22 i).symm, putX_ne (l22 i).symm, CI.out.a0, List.length_map, List.length_range, HU0.out] at h1
    exact h1)
   refine mc_actB (i := 10) (o := ⟨some 29, _, _, _, _, _⟩) rfl (by kernel_rfl) rfl (fun K hK => ?_)
   refine wp_appW (base := H2) (.tmp 20) (.tmp 28) 25 rfl 47 il (.slice none 0 0) 24 Try.underlying25 hil hl0 hl1 hl2 rfl _ i ((List.range i).map fun q => U (q + 2)) rfl ONC.out _ [.slice A3 kr c3] rfl (rowB KC.out rfl (by decide)) (fun u hu => by obtain rfl := List.mem_singleton.1 hu; rfl) HB9.out (by decide) HHC.out ?_
   intro vn2 wf ho hg hw
   have BF := qH (show Below H2 wc wf from below_own (Below.refl H2 wc) HHC.out hg fun q hq => (own6_lt ONC.out q hq).2)
   have EF := qH (EC.out.off HGH.out HFH.out BF.out)
   have AF := qH (AC.out.grow (s := 0) (v := vn2) (l := (List.range i).map (fun q => U (q + 2)) ++ [.slice A3 kr c3]) (l20s i) (by rw [List.length_append, List.length_map, List.length_range]; exact ho) (by rw [putV_ne (l22 i).symm, HU0.out]; exact hg) (by rw [putV_ne (l22 i).symm, HU0.out]; exact hw))
   have HHF := qH (Nat.le_trans HHC.out hg.size)
   obtain ⟨A2, c2, rfl⟩ : ∃ A c, vn2 = .slice A (i + 1) c := ownC_slice ho
   have EG := qH (EF.out.setn HL.out (.slice A2 (i + 1) c2))
   have HC6 := qH (show wf.cell? ⟨gd, 256, none⟩ = some (.slice AN i cN) from (EF.out.blk.cell 256).trans (dcl_n HL.out))
   have HF6 := qH (EF.out.blk.frozen 256)
   refine hK _ _ EF.out.bel EF.out.blk ?_
   clear hK K hX hY
   (try simp only [Act.put, qA, qB, qC])
   clear ho hg hw
   have hX := EF.out.bel
   refine mc_take (i := 11) (oi := ⟨some 30, _, _, _, _, _⟩) (v := ?_) rfl (by kernel_rfl) (by kernel_rfl) (by kernel_rfl) (fun _ _ _ h => h) rfl hX ?_ ?_; rotate_left; (intro W hW; go_simp; try with_reducible rfl); simp only [Act.put, qA, qB, qC]
   refine mc_last (i := 12) (o := ⟨none, _, _, _, _, _⟩) rfl (by kernel_rfl) rfl (fun K hK => ?_)
   refine wp_stIns (.tmp 30) (.tmp 29) rfl rfl rfl HC6.out HF6.out ?_
   refine hK _ _ EG.out.bel ?_
   clear hK K hX
   (try simp only [Act.put, qA, qB, qC])
   refine wpAnyC_done (by kernel_rfl) ?_ _
   have AZ := qH (AF.out.stay (w' := wf.setCell ⟨gd, 256, none⟩ (.slice A2 (i + 1) c2)) fun q hq _ => Below.heap_setCell wf ⟨gd, 256, none⟩ _ q (Nat.ne_of_gt (Nat.lt_of_lt_of_le HGH.out hq)))
   have SZ := qH (show H2 ≤ (wf.setCell ⟨gd, 256, none⟩ (.slice A2 (i + 1) c2)).heap.size by simpa using HHF.out)
   have CN := qH (CI.out.next (v := .slice A3 kr c3) (vn := .slice A2 (i + 1) c2) HRI.out)
   go_wp2_with fail
   refine ⟨⟨i + 1, _, _, HIN.out, by congr 1, AZ.out, CN.out, ?_, SZ.out⟩, by simpa [intOf] using HMI.out⟩
   rw [putV_at]
   exact EG.out
  ·obtain rfl : n = i := Nat.le_antisymm (Nat.le_of_not_lt hin) HI.out
   have x1 : ¬ ((n : Int) < (n : Int)) := Int.lt_irrefl _
   obtain ⟨da, hda⟩ : ∃ da, da = dcl cl (.slice AN n cN) (.slice AE n cE) := ⟨_, rfl⟩
   have HDLa := qH (show da.length = 258 by rw [hda]; exact dcl_len HL.out)
   have HDOa := qH (show da.all (·.oneCell') = true by rw [hda]; exact dcl_one)
   have HDSa := qH (show (Try.prog.info? 28).map (·.size) = some da.length by rw [hda]; exact size_dfa HL.out)
   have KDa := qH (show Blk wi gd 28 da by rw [hda]; exact EI2.out.blk)
   have KR := qH (show Blk wi w1.heap.size 28 d0 from (EI2.out.bel.block w1.heap.size R2.out.lt).trans R2.out)
   have B1G := qH (show w.heap.size ≤ w1.heap.size from B1.out.size)
   have HW2 := qH (show w.heap.size ≤ w2.heap.size from B2.out.size)
   have HHW := qH (show w2.heap.size ≤ H2 from Nat.le_trans HGG.out (Nat.le_of_lt HGH.out))
   clear hin
   go_wp2_with (first
    | ((with_reducible refine atDst 31 ?_); refine wpList_ldArr rfl 28 _ rfl gd rfl 28 _ _ KDa.out Try.underlying28 rfl HDSa.out ?_; (try simp only [Act.put, qA, qB, qC]))
    | ((with_reducible refine atStore 28 2 31 ?_); refine wpList_stBlk rfl 28 _ _ rfl w1.heap.size da rfl rfl 28 _ KR.out HDSa.out (by rw [HDL.out, HDLa.out]) HDOa.out (Below.refl w1.heap.size wi) (Nat.le_refl _) ?_; intro wz hk hb hs ho; have KZ := qH hk; have HO9 := qH ho; have BZ := qH hb; clear hk hb hs ho; (try simp only [Act.put, qA, qB, qC])))
   refine bodyPost_ret (results_blk rfl _ _ w1.heap.size 28 _ _ rfl KZ.out Try.underlying28 rfl HDSa.out) rfl ?_
   have hw1 : ∀ q, w2.heap.size ≤ q → q ≠ w1.heap.size := fun q hq => Nat.ne_of_gt (Nat.lt_of_lt_of_le R2.out.lt hq)
   have az : Apt wz H2 (2 + n) U X := AI.out.stay fun q hq _ => HO9.out q (hw1 q (Nat.le_trans HHW.out hq))
   have oz := own6_stay EI2.out.own fun q hq => HO9.out q (hw1 q (own6_lt EI2.out.own q hq).2)
   have dz := CI.out.dfa az (own_mono oz HW2.out) (Nat.le_trans HW2.out HHW.out) HFH.out (by rw [← HCL.out]; exact HL.out) HN.out
   rw [HU0.out, ← HCL.out, ← hda] at dz
   exact ⟨da, rfl, dz, (B2.out.trans (EI2.out.bel.mono HW2.out)).trans (BZ.out.mono B1G.out)⟩
def movN (m y i : Nat) : Nat := if i = 0 then 0 else 1 + (i - 1 + y) % m
def bakN (m y q : Nat) : Nat := if q = 0 then 0 else 1 + (q - 1 + (m - y)) % m
theorem movN_lt {m y i : Nat} (hm : 0 < m) : movN m y i < m + 1 := by
 unfold movN
 have := Nat.mod_lt (i - 1 + y) hm
 split <;> omega
theorem bakN_lt {m y q : Nat} (hm : 0 < m) : bakN m y q < m + 1 := by
 unfold bakN
 have := Nat.mod_lt (q - 1 + (m - y)) hm
 split <;> omega
theorem mov_bak {m y q : Nat} (hy : y < m) (hq : q < m + 1) : movN m y (bakN m y q) = q := by
 unfold movN bakN
 by_cases h : q = 0
 ·rw [if_pos h, if_pos rfl, h]
 ·rw [if_neg h, if_neg (by omega), show 1 + (q - 1 + (m - y)) % m - 1 = (q - 1 + (m - y)) % m by omega, Nat.mod_add_mod, show q - 1 + (m - y) + y = q - 1 + m by omega, Nat.add_mod_right, Nat.mod_eq_of_lt (by omega)]
  omega
theorem bak_mov {m y i : Nat} (hy : y < m) (hi : i < m + 1) : bakN m y (movN m y i) = i := by
 unfold movN bakN
 by_cases h : i = 0
 ·rw [if_pos h, if_pos rfl, h]
 ·rw [if_neg h, if_neg (by omega), show 1 + (i - 1 + y) % m - 1 = (i - 1 + y) % m by omega, Nat.mod_add_mod, show i - 1 + y + (m - y) = i - 1 + m by omega, Nat.add_mod_right, Nat.mod_eq_of_lt (by omega)]
  omega
theorem mov_inj {m y i j : Nat} (hy : y < m) (hi : i < m + 1) (hj : j < m + 1) (h : movN m y i = movN m y j) : i = j := by
 rw [← bak_mov hy hi, h, bak_mov hy hj]
def rowT (m y : Nat) (r : List Int) : List Int := r.map fun x => ((movN m y x.toNat : Nat) : Int)
def turD (D : Dm) (m y : Nat) (Eb : List Bool) : Dm := ⟨D.cl, (List.range D.next.length).map fun q => rowT m y (D.next.getD (bakN m y q) []), Eb⟩
theorem turD_next {D : Dm} {m y : Nat} {Eb : List Bool} {q : Nat} (hq : q < D.next.length) : (turD D m y Eb).next[q]? = some (rowT m y (D.next.getD (bakN m y q) [])) := by
 show ((List.range D.next.length).map _)[q]? = _
 simp [hq]
theorem turD_len (D : Dm) (m y : Nat) (Eb : List Bool) : (turD D m y Eb).next.length = D.next.length := by simp [turD]
structure TurI (D : Dm) (m y i : Nat) (U : Nat → Value) (X : Nat → List Value) (Eb : List Bool) : Prop where
 l0 : (X 0).length = m + 1
 x0 : ∀ j, j < i → (X 0)[movN m y j]? = some (U (j + 2))
 x1 : X 1 = bools Eb
 l1 : Eb.length = m + 1
 e : ∀ j b, j < i → D.ends[j]? = some b → Eb[movN m y j]? = some b
 xr : ∀ j r, j < i → D.next[j]? = some r → X (j + 2) = nums .i64 (rowT m y r)
section
variable {D : Dm} {m y i : Nat} {U : Nat → Value} {X : Nat → List Value} {Eb : List Bool}
theorem TurI.more (h : TurI D m y i U X Eb) {v : Value} {l : List Value} : TurI D m y i (putV U (2 + i) v) (putX X (2 + i) l) Eb := by
 refine ⟨by rw [putX_ne (by omega)]; exact h.l0, fun j hj => ?_, by rw [putX_ne (by omega)]; exact h.x1, h.l1, h.e, fun j r hj hr => ?_⟩
 ·rw [putX_ne (by omega), putV_ne (by omega)]
  exact h.x0 j hj
 ·rw [putX_ne (by omega)]
  exact h.xr j r hj hr
theorem TurI.done (h : TurI D m y i U X Eb) (hy : y < m) (hi : i < m + 1) {r : List Int} {b : Bool} (hr : D.next[i]? = some r) (hx : X (i + 2) = nums .i64 (rowT m y r)) (hb : D.ends[i]? = some b) :
  TurI D m y (i + 1) U (putX (putX X 0 ((X 0).set (movN m y i) (U (i + 2)))) 1 ((X 1).set (movN m y i) (.bool b))) (Eb.set (movN m y i) b) := by
 have hm : 0 < m := by omega
 have ne : ∀ j, j < i → movN m y i ≠ movN m y j := fun j hj e => by
  have := mov_inj hy hi (by omega) e
  omega
 refine ⟨?_, fun j hj => ?_, ?_, by rw [List.length_set]; exact h.l1, fun j c hj hc => ?_, fun j q hj hq => ?_⟩
 ·rw [putX_ne (by decide), putX_at, List.length_set]
  exact h.l0
 ·rw [putX_ne (by decide), putX_at]
  by_cases e : j = i
  ·subst e
   rw [List.getElem?_set_self (by rw [h.l0]; exact movN_lt hm)]
  ·rw [List.getElem?_set_ne (ne j (by omega))]
   exact h.x0 j (by omega)
 ·rw [putX_at, h.x1]
  simp [bools, List.map_set]
 ·by_cases e : j = i
  ·subst e
   rw [hb] at hc
   rw [List.getElem?_set_self (by rw [h.l1]; exact movN_lt hm)]
   exact hc
  ·rw [List.getElem?_set_ne (ne j (by omega))]
   exact h.e j c (by omega) hc
 ·rw [putX_ne (by omega), putX_ne (by omega)]
  by_cases e : j = i
  ·subst e
   rw [hr] at hq
   obtain rfl := Option.some.inj hq
   exact hx
  ·exact h.xr j q (by omega) hq
theorem TurI.zero (cn : Nat) (vn ve : Value) (hk : cn = m + 1) : TurI D m y 0 (fun i => if i = 0 then vn else if i = 1 then ve else .slice none 0 0) (fun i => if i = 0 then List.replicate cn (.slice none 0 0) else if i = 1 then List.replicate cn (.bool false) else []) (List.replicate cn false) :=
 ⟨by simp [hk], fun j hj => absurd hj (Nat.not_lt_zero j), by simp [bools], by simp [hk], fun j b hj => absurd hj (Nat.not_lt_zero j), fun j r hj => absurd hj (Nat.not_lt_zero j)⟩
theorem TurI.dfa {w : World} {H : Nat} (h : TurI D m y (m + 1) U X Eb) (hk : D.next.length = m + 1) (hy : y < m) (hm : MayD D) (hl : D.cl.length = 256) (ha : Apt w H (2 + (m + 1)) U X) : DfaV w (dcl D.cl (U 0) (U 1)) (turD D m y Eb) := by
 have hm0 : 0 < m := by omega
 have r0 : Row w (U 0) (X 0) := Row.of_own (ha.own 0 (by omega))
 have r1 : Row w (U 1) (X 1) := Row.of_own (ha.own 1 (by omega))
 have e0 : X 0 = (List.range (m + 1)).map fun q => U (bakN m y q + 2) := by
  apply List.ext_getElem?
  intro q
  by_cases hq : q < m + 1
  ·have h1 := h.x0 (bakN m y q) (bakN_lt hm0)
   rw [mov_bak hy hq] at h1
   rw [h1]
   simp [hq]
  ·rw [List.getElem?_eq_none (by rw [h.l0]; omega), List.getElem?_eq_none (by simp; omega)]
 refine ⟨hl, U 0, U 1, fun q => U (bakN m y q + 2), rfl, by rw [turD_len, hk, ← e0]; exact r0, fun q r hr => ?_, by rw [h.x1] at r1; exact r1⟩
 have hq : q < D.next.length := by
  have := (List.getElem?_eq_some_iff.1 hr).1
  rwa [turD_len] at this
 rw [turD_next hq] at hr
 obtain rfl := Option.some.inj hr
 have hb : bakN m y q < D.next.length := by rw [hk]; exact bakN_lt hm0
 have r2 : Row w (U (bakN m y q + 2)) (X (bakN m y q + 2)) := Row.of_own (ha.own (bakN m y q + 2) (by omega))
 have h1 := h.xr (bakN m y q) _ (by omega) (List.getElem?_eq_getElem hb)
 rw [List.getD_eq_getElem?_getD, List.getElem?_eq_getElem hb, Option.getD_some]
 rwa [h1] at r2
end
end Go.Proofs.Ytaakdebcagdfgaa
