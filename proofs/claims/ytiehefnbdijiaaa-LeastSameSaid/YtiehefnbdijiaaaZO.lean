/-
  Texts of this proof, put together: LkK. No statement is proved here.
-/
import Derived.Test.YtiehefnbdijiaaaZM
import Derived.Test.YtiehefnbdijiaaaZN
namespace Go.Proofs.Ytiehefnbdijiaaa
open Go.RowKit
set_option linter.unusedSimpArgs false
set_option linter.unusedVariables false
theorem prt_next (a : Nat → Nat) (i j : Nat) : prt (i + 1) a j = if a i = j then prt i a j ++ [i] else prt i a j := by
 unfold prt
 rw [List.range_succ, List.filter_append]
 by_cases h : a i = j
 ·rw [if_pos h]; simp [h]
 ·rw [if_neg h]; simp [h]
theorem bnd_pr {x k n : Nat} (h1 : x ≤ k) (h2 : k ≤ n) (h3 : n ≤ 2000) : x + 1 ≤ 2097152 := by omega
def prI (a : Nat → Nat) (i : Nat) : Nat → List Int := fun j => (prt i a j).map fun (q : Nat) => (q : Int)
theorem prI_cells (a : Nat → Nat) (i j : Nat) : nums .i64 (prI a i j) = nat64 (prt i a j) := rfl
theorem prI_len (a : Nat → Nat) (i j : Nat) : (prI a i j).length ≤ i := by
 unfold prI
 rw [List.length_map]
 exact prt_le i a j
theorem prI_zero (a : Nat → Nat) : prI a 0 = fun _ => [] := rfl
theorem prI_put (a : Nat → Nat) (i : Nat) : putL (prI a i) (a i) (prI a i (a i) ++ [(i : Int)]) = prI a (i + 1) := by
 funext j
 unfold prI
 rw [prt_next]
 by_cases h : j = a i
 ·rw [h, putL_at, if_pos rfl, List.map_append]
  rfl
 ·rw [putL_ne h, if_neg (Ne.symm h)]
structure LkS (w : World) (B n : Nat) (lv : Value) (i : Nat) (T : Nat → Value) (F : Nat → Nat → Value) (L : Nat → Nat → List Nat) : Prop where
 own : w.ownsRow B 25 1 lv i ((List.range i).map T)
 top : ∀ q, q < i → Row w (T q) ((List.range n).map (F q)) ∧ ∀ k, (T q).ownBlock = some k → B ≤ k ∧ k < w.heap.size ∧ lv.ownBlock ≠ some k
 row : ∀ q j, q < i → j < n → Row w (F q j) (nat64 (L q j)) ∧ ∀ k, (F q j).ownBlock = some k → B ≤ k ∧ k < w.heap.size ∧ lv.ownBlock ≠ some k
section
variable {w w' w'' : World} {B n i : Nat} {lv lv' u : Value} {T : Nat → Value} {F : Nat → Nat → Value} {L : Nat → Nat → List Nat}
theorem LkS.zero (w : World) (B n : Nat) (T : Nat → Value) (F : Nat → Nat → Value) (L : Nat → Nat → List Nat) : LkS w B n (.slice none 0 0) 0 T F L := ⟨ownC_nil _ _ _, fun q hq => absurd hq (Nat.not_lt_zero q), fun q j hq => absurd hq (Nat.not_lt_zero q)⟩
theorem LkS.below (h : LkS w B n lv i T F L) (hb : Below w.heap.size w w') : LkS w' B n lv i T F L :=
 ⟨own6_stay h.own fun j hj => hb.block j (own6_lt h.own j hj).1, fun q hq => ⟨(h.top q hq).1.below hb, fun k hk => by
  obtain ⟨h1, h2, h3⟩ := (h.top q hq).2 k hk
  exact ⟨h1, Nat.lt_of_lt_of_le h2 hb.size, h3⟩⟩, fun q j hq hj => ⟨(h.row q j hq hj).1.below hb, fun k hk => by
  obtain ⟨h1, h2, h3⟩ := (h.row q j hq hj).2 k hk
  exact ⟨h1, Nat.lt_of_lt_of_le h2 hb.size, h3⟩⟩⟩
theorem row_grown {w w' : World} {v : Value} {xs : List Value} {r : Option Nat} (h : Row w v xs) (hg : w.grownBy w' r) (hn : ∀ k, v.ownBlock = some k → r ≠ some k) : Row w' v xs := by
 obtain ⟨A, cap, rfl, h1, h2, h0, h3⟩ := h
 refine ⟨A, cap, rfl, h1, h2, h0, fun hne => ?_⟩
 obtain ⟨b, off, rfl, hb, hc⟩ := h3 hne
 refine ⟨b, off, rfl, Nat.lt_of_lt_of_le hb hg.size, fun i u hu => ?_⟩
 have e := hg.block b hb fun e => hn b rfl (by first | exact e | exact e.symm)
 have := hc i u hu
 unfold World.cell? at this ⊢
 simp only [e]
 exact this
theorem LkS.next {ff : Nat → Value} (h : LkS w B n lv i T F L) (hB : B ≤ w.heap.size) (hb : Below w.heap.size w w') (hu : Row w' u ((List.range n).map ff)) (hub : ∀ k, u.ownBlock = some k → w.heap.size ≤ k ∧ k < w'.heap.size)
  (hf : ∀ j, j < n → Row w' (ff j) (nat64 (L i j)) ∧ ∀ k, (ff j).ownBlock = some k → w.heap.size ≤ k ∧ k < w'.heap.size)
  (ho : w''.ownsRow B 25 1 lv' (i + 1) ((List.range i).map T ++ [u])) (hg : w'.grownBy w'' lv.ownBlock) (hw : ∀ k, lv'.ownBlock = some k → lv.ownBlock = some k ∨ w'.heap.size ≤ k) :
  LkS w'' B n lv' (i + 1) (putV T i u) (fun q => if q = i then ff else F q) L := by
 have hll := own6_lt h.own
 have nw : ∀ k, w.heap.size ≤ k → lv.ownBlock ≠ some k := fun k hk e => by have := (hll k e).1; omega
 have nl : ∀ k, k < w'.heap.size → lv.ownBlock ≠ some k → lv'.ownBlock ≠ some k := fun k hk h1 e => by
  rcases hw k e with e | e
  ·exact h1 e
  ·omega
 have h1 := h.below hb
 have cas : ∀ q, q < i + 1 → q ≠ i → q < i := fun q h1 h2 => by omega
 refine ⟨?_, fun q hq => ?_, fun q j hq hj => ?_⟩
 ·rw [List.range_succ, List.map_append]
  have e1 : (List.range i).map (putV T i u) = (List.range i).map T := List.map_congr_left fun q hq => by
   have := List.mem_range.1 hq
   rw [putV_ne (by omega)]
  rw [e1, List.map_cons, List.map_nil, putV_at]
  exact ho
 ·by_cases e : q = i
  ·subst e
   rw [putV_at, if_pos rfl]
   refine ⟨row_grown hu hg fun k hk => nw k (hub k hk).1, fun k hk => ?_⟩
   obtain ⟨z1, z2⟩ := hub k hk
   exact ⟨Nat.le_trans hB z1, Nat.lt_of_lt_of_le z2 hg.size, nl k z2 (nw k z1)⟩
  ·rw [putV_ne e, if_neg e]
   obtain ⟨z1, z2⟩ := h1.top q (cas q hq e)
   refine ⟨row_grown z1 hg fun k hk => (z2 k hk).2.2, fun k hk => ?_⟩
   obtain ⟨y1, y2, y3⟩ := z2 k hk
   exact ⟨y1, Nat.lt_of_lt_of_le y2 hg.size, nl k y2 y3⟩
 ·show Row w'' ((if q = i then ff else F q) j) _ ∧ ∀ k, ((if q = i then ff else F q) j).ownBlock = some k → _
  by_cases e : q = i
  ·subst e
   rw [if_pos rfl]
   obtain ⟨z1, z2⟩ := hf j hj
   refine ⟨row_grown z1 hg fun k hk => nw k (z2 k hk).1, fun k hk => ?_⟩
   obtain ⟨y1, y2⟩ := z2 k hk
   exact ⟨Nat.le_trans hB y1, Nat.lt_of_lt_of_le y2 hg.size, nl k y2 (nw k y1)⟩
  ·rw [if_neg e]
   obtain ⟨z1, z2⟩ := h1.row q j (cas q hq e) hj
   refine ⟨row_grown z1 hg fun k hk => (z2 k hk).2.2, fun k hk => ?_⟩
   obtain ⟨y1, y2, y3⟩ := z2 k hk
   exact ⟨y1, Nat.lt_of_lt_of_le y2 hg.size, nl k y2 y3⟩
end
def RowI (w : World) (B C : Nat) (v : Value) (xs : List Value) : Prop := Row w v xs ∧ ∀ k, v.ownBlock = some k → B ≤ k ∧ k < C
def LnkK (w : World) (B C : Nat) (v : Value) (K n : Nat) (L : Nat → Nat → List Nat) : Prop :=
 ∃ (T : Nat → Value) (F : Nat → Nat → Value), RowI w B C v ((List.range K).map T) ∧ (∀ q, q < K → RowI w B C (T q) ((List.range n).map (F q))) ∧ ∀ q j, q < K → j < n → RowI w B C (F q j) (nat64 (L q j))
theorem RowI.off {w w' : World} {B C : Nat} {v : Value} {xs : List Value} {D : Nat → Prop} (h : RowI w B C v xs) (ho : Off D w w') (hd : ∀ k, B ≤ k → k < C → ¬ D k) : RowI w' B C v xs :=
 ⟨h.1.off ho fun k hk => hd k (h.2 k hk).1 (h.2 k hk).2, h.2⟩
theorem LnkK.off {w w' : World} {B C K n : Nat} {v : Value} {L : Nat → Nat → List Nat} {D : Nat → Prop} (h : LnkK w B C v K n L) (ho : Off D w w') (hd : ∀ k, B ≤ k → k < C → ¬ D k) : LnkK w' B C v K n L := by
 obtain ⟨T, F, h1, h2, h3⟩ := h
 exact ⟨T, F, h1.off ho hd, fun q hq => (h2 q hq).off ho hd, fun q j hq hj => (h3 q j hq hj).off ho hd⟩
theorem LkS.lnk {w : World} {B n i : Nat} {lv : Value} {T : Nat → Value} {F : Nat → Nat → Value} {L : Nat → Nat → List Nat} (h : LkS w B n lv i T F L) : LnkK w B w.heap.size lv i n L :=
 ⟨T, F, ⟨Row.of_own h.own, fun k hk => ⟨(own6_lt h.own k hk).2, (own6_lt h.own k hk).1⟩⟩, fun q hq => ⟨(h.top q hq).1, fun k hk => ⟨((h.top q hq).2 k hk).1, ((h.top q hq).2 k hk).2.1⟩⟩, fun q j hq hj => ⟨(h.row q j hq hj).1, fun k hk => ⟨((h.row q j hq hj).2 k hk).1, ((h.row q j hq hj).2 k hk).2.1⟩⟩⟩
def lnkD (D : Dm) (i j : Nat) : List Nat := prt D.next.length (fun s => stC D s ((usU D.cl 256).getD i 0).toNat) j
theorem us_lt {D : Dm} (hl : D.cl.length = 256) {x : UInt8} (h : x ∈ usU D.cl 256) : x.toNat < clsA D.cl := by
 rw [usU_mem, List.take_of_length_le (by rw [hl]; exact Nat.le_refl _)] at h
 obtain ⟨j, hj, e⟩ := List.getElem_of_mem h
 exact clsA_lt hl (j := j) (by rw [List.getElem?_eq_getElem hj, e])
theorem cell_heap9 {w w' : World} {b o : Nat} {v : Value} (h : w.cell? ⟨b, o, none⟩ = some v) (hb : w'.heap[b]? = w.heap[b]?) : w'.cell? ⟨b, o, none⟩ = some v := by
 unfold World.cell? at h ⊢
 simp only [hb]
 exact h
theorem bnd_256 {i K : Nat} (h : i < K) (h2 : K ≤ 256) : i + 1 ≤ 2097152 := by omega
theorem cv_u8 (x : UInt8) : IntKind.i64.wrap (x.toNat : Int) = (x.toNat : Int) := IntWalk.i64_in _ (by have := x.toNat_lt; omega)
set_option maxHeartbeats 8000000 in
set_option maxRecDepth 1000000 in
theorem lTurned_any (D : Dm) (cs : List Value) (w : World) (hv : DfaV w cs D) (hm : MayD D) :
  Calls Try.prog 34 #[.agg cs.toArray] w fun e w' => ∃ v, e = .returned v ∧ LnkK w' w.heap.size w'.heap.size v (usU D.cl 256).length D.next.length (lnkD D) ∧ Below w.heap.size w w' := by
 have V0 := qH hv
 have HM := qH hm
 have HDS := qH hv.size
 obtain ⟨n, hnn⟩ : ∃ n, n = D.next.length := ⟨_, rfl⟩
 obtain ⟨kd, hkd⟩ : ∃ k, k = clsA D.cl := ⟨_, rfl⟩
 obtain ⟨bn, on, cn, be, oe, ce, hdr⟩ := dr_of hv hm hnn hkd
 have HNF := qH (show n ≤ 2000 by rw [hnn]; exact hm.few)
 have HN := qH hnn
 have HR := qH hdr
 have HCS := qH hdr.cs
 have HL := qH hdr.hl
 have HKD := qH hkd
 rw [← hnn]
 obtain ⟨us, hus⟩ : ∃ us, us = usU D.cl 256 := ⟨_, rfl⟩
 have HUS := qH hus
 rw [← hus]
 obtain ⟨K, hK⟩ : ∃ K, K = us.length := ⟨_, rfl⟩
 have HK := qH hK
 have HK256 := qH (show K ≤ 256 by rw [hK, hus]; exact usU_len _ _)
 rw [← hK]
 obtain ⟨LL, hLL⟩ : ∃ L, L = lnkD D := ⟨_, rfl⟩
 have HLL := qH hLL
 rw [← hLL]
 obtain ⟨i1, hi1, hy0, hy1, hy2⟩ := infoP inf_int
 obtain ⟨il, hil, hl0, hl1, hl2⟩ := infoP inf_sl
 obtain ⟨is, his, hss0, hss1, hss2⟩ := infoC (show (Try.prog.info? 25).map (fun i => (i.zero, i.size, i.bytes)) = some (some (.slice none 0 0), 1, 24) by kernel_rfl)
 have HYL := qH (show il.bytes * n ≤ 281474976710656 by have := HNF.out; rw [hl2]; omega)
 have HN3 := qH (show n ≤ 9223372036854775807 by have := HNF.out; omega)
 clear hv hm hdr hnn hkd hus hK hLL
 go_enter Try.func34, Try.ntmps34
 go_wp2_with (first
  | ((with_reducible refine atDst 1 ?_); refine wpList_box rfl 28 _ rfl cs rfl (Below.refl w.heap.size w) (Nat.le_refl _) ?_; intro w1 hk1 hb1 hs1 _; have K1 := qH hk1; have B1 := qH hb1; clear hk1 hb1 hs1; (try simp only [Act.put, qA, qB, qC]))
  | ((with_reducible refine atDst 8 ?_); refine wpList_ldArr rfl 28 _ rfl w.heap.size rfl 28 _ _ K1.out Try.underlying28 rfl HDS.out ?_; (try simp only [Act.put, qA, qB, qC])))
 refine (lUsed_any D cs w1 (V0.out.below B1.out)).mono ?_
 rintro e w2 ⟨uv, rfl, hu, hb⟩
 rw [← HUS.out, ← HK.out] at hu
 obtain ⟨Au, cu, rfl⟩ := ownC_slice hu
 have RU := qH (Row.of_own hu)
 have B2 := qH (B1.out.trans (hb.mono B1.out.size))
 have K2 := qH (K1.out.below hb K1.out.lt)
 clear hu hb
 go_wp2_with fail
 go_loopw [2, 11] (fun lv iv wl => ∃ (i : Nat) (T : Nat → Value) (F : Nat → Nat → Value), i ≤ K ∧ iv = .int .i64 (i : Int) ∧ LkS wl w2.heap.size n lv i T F LL ∧ Below w2.heap.size w2 wl) (fun _ iv _ => K - (intOf iv).toNat)
 case atStart => exact ⟨0, fun _ => .slice none 0 0, fun _ _ => .slice none 0 0, Nat.zero_le _, rfl, LkS.zero _ _ _ _ _ _, Below.refl _ _⟩
 obtain ⟨i, T, F, hi, rfl, hs, hb⟩ := hrel
 obtain ⟨wl, hwl⟩ : ∃ v : World, v = wr := ⟨_, rfl⟩
 subst hwl
 obtain ⟨Al, cl2, rfl⟩ := ownC_slice hs.own
 have HI := qH hi
 have SI := qH hs
 have BI := qH hb
 have BW := qH (show Below w.heap.size w wl from B2.out.trans (hb.mono B2.out.size))
 clear hi hs hb
 by_cases hin : i < K
 ·have x1 : (i : Int) < (K : Int) := Int.ofNat_lt.2 hin
  have HIN := qH hin
  have HMI := qH (sub_next hin)
  have e3 := wrap_one i (Nat.le_trans HI.out (Nat.le_trans HK256.out (by decide)))
  have e4 := wrap_one' i (Nat.le_trans HI.out (Nat.le_trans HK256.out (by decide)))
  obtain ⟨x, hx⟩ : ∃ x, us[i]? = some x := ⟨_, List.getElem?_eq_getElem (by rw [← HK.out]; exact hin)⟩
  have HX := qH hx
  have HXC := qH (show x.toNat < clsA D.cl from us_lt HL.out (by rw [← HUS.out]; exact List.mem_of_getElem? hx))
  obtain ⟨bu, ou, rfl, _, hcu⟩ := (RU.out.below BI.out).at_ (by rw [bvs_length, ← HK.out]; exact Nat.lt_of_le_of_lt (Nat.zero_le _) hin)
  have c14 : wl.cell? ⟨bu, ou + i, none⟩ = some (.int .u8 (x.toNat : Int)) := hcu i _ (bvs_get _ _ _ hx)
  have KL := qH (K2.out.below BI.out K2.out.lt)
  have c256 : wl.cell? ⟨w.heap.size, 256, none⟩ = some (.slice (some ⟨bn, on, none⟩) n cn) := by rw [KL.out.cell 256, HCS.out]; exact dcl_n HL.out
  have cv := cv_u8 x
  obtain ⟨a, ha⟩ : ∃ a : Nat → Nat, a = fun s => stC D s x.toNat := ⟨_, rfl⟩
  have HA := qH ha
  have HAN := qH (show ∀ s, s < n → a s < n from fun s hs => by rw [ha, HN.out]; exact stC_lt HM.out (by rw [← HN.out]; exact hs) _ HXC.out)
  have HLI := qH (show ∀ j, LL i j = prt n a j from fun j => by rw [HLL.out]; unfold lnkD; rw [← HUS.out, List.getD_eq_getElem?_getD, hx, Option.getD_some, ← HN.out, ha])
  clear hin hx hcu ha
  go_wp2_with (first
   | ((with_reducible refine atDst 18 ?_); refine wpList_mk _ rfl _ _ 25 rfl 38 il (.slice none 0 0) Try.underlying25 hil hl0 hl1 rfl n _ _ _ _ rfl rfl rfl rfl HYL.out HN3.out ?_; intro w3 hk hb hs; have T3 := qH hk; have B3 := qH hb; have K3 := qH (KL.out.below hb KL.out.lt); clear hk hb hs; (try simp only [Act.put, qA, qB, qC]))
   | ((with_reducible refine atDst 19 ?_); refine wpList_ldArr rfl 28 _ rfl w.heap.size rfl 28 _ _ K3.out Try.underlying28 rfl HDS.out ?_; (try simp only [Act.put, qA, qB, qC])))
  have BW3 := qH (BW.out.trans (B3.out.mono BW.out.size))
  refine (lCol_any D cs x.toNat w3 (V0.out.below BW3.out) HM.out HXC.out).mono ?_
  rintro e w4 ⟨gc, rfl, hk, hgc, hb⟩
  rw [← HN.out, ← HA.out] at hk
  rw [← HN.out]
  obtain ⟨g, hg⟩ : ∃ g, g = wl.heap.size := ⟨_, rfl⟩
  have HG := qH hg
  rw [← hg] at T3
  rw [← hg]
  have C4 := qH hk
  have HGC := qH hgc
  have B4 := qH hb
  have BW4 := qH (BW3.out.trans (hb.mono BW3.out.size))
  have K4 := qH (K3.out.below hb K3.out.lt)
  have HGL := qH (show g < w3.heap.size by rw [hg]; exact Nat.lt_of_lt_of_le (by have := T3.out.lt; rw [hg] at this; exact Nat.lt_of_lt_of_le this (Nat.le_refl _)) (Nat.le_refl _))
  have F4 := qH (show Fam w4 wl.heap.size w4.heap.size g n n n (fun _ => .slice none 0 0) (prI a 0) by
   rw [prI_zero]
   exact Fam.made (T3.out.below hb T3.out.lt) (by rw [hg]; exact Nat.le_refl _) (Nat.le_trans HNF.out (by decide)))
  clear hk hgc hb hg T3 c14 c256
  go_wp2_with fail
  go_loopw [24] (fun kv wm => ∃ (k : Nat) (ff : Nat → Value), kv = .int .i64 (k : Int) ∧ k ≤ n ∧ Fam wm wl.heap.size w4.heap.size g n n n ff (prI a k) ∧ w4.grownBy wm (some g)) (fun kv _ => n - (intOf kv).toNat)
  case atStart => exact ⟨0, _, rfl, Nat.zero_le _, F4.out, World.grownBy.refl _ _⟩
  clear F4
  obtain ⟨k, ff, rfl, hk, hf, hg⟩ := hrel
  obtain ⟨wk, hwk⟩ : ∃ v : World, v = wr := ⟨_, rfl⟩
  subst hwk
  have FK := qH hf
  have GK := qH hg
  have HKN := qH hk
  clear hf hg hk
  by_cases hkl : k < n
  ·have y1 : (k : Int) < (n : Int) := Int.ofNat_lt.2 hkl
   have HKL := qH hkl
   have HMK := qH (sub_next hkl)
   have f3 := wrap_one k (lt_bigN hkl HNF.out)
   have f4 := wrap_one' k (lt_bigN hkl HNF.out)
   obtain ⟨t, ht⟩ : ∃ t, t = a k := ⟨_, rfl⟩
   have HT := qH ht
   have HTN := qH (show t < n by rw [ht]; exact HAN.out k hkl)
   have y3 : (t : Int) < (n : Int) := Int.ofNat_lt.2 HTN.out
   have ck : wk.cell? ⟨gc, k, none⟩ = some (.int .i64 (t : Int)) := cell_heap9 (by rw [C4.out.cell k, ncs_get _ hkl, ht]) (GK.out.block gc C4.out.lt fun e => by
    have e1 : gc = g := by first | exact Option.some.inj e | exact (Option.some.inj e).symm
    exact absurd HGL.out (Nat.not_lt.2 (by rw [← e1]; exact HGC.out)))
   obtain ⟨At, ct, hft⟩ := FK.out.slice HTN.out
   have HFT := qH hft
   have cgt : wk.cell? ⟨g, t, none⟩ = some (.slice At (prI a k t).length ct) := by rw [← hft]; exact FK.out.cell HTN.out
   have HLT := qH (bnd_pr (prI_len a k t) HKN.out HNF.out)
   clear hkl ht hft
   go_wp2_with (first
    | ((with_reducible refine atDst 36 ?_); refine wpList_plain rfl fun K hK => wp_bldI 38 3 (.tmp 35) rfl i1 Try.underlying38 hi1 0 hy0 hy1 (k : Int) rfl ?_; intro wb hr hb; have RB := qH hr; have BB := qH hb; have FB := qH (FK.out.below hb); clear hr hb; refine hK _ _ ?_; clear hK K; (try simp only [Act.put, qA, qB, qC]))
    | ((with_reducible refine atDst 37 ?_); refine wpList_appW (base := w4.heap.size) rfl (.tmp 34) (.tmp 36) 38 rfl 3 i1 (.int .i64 0) 8 Try.underlying38 hi1 hy0 hy1 hy2 rfl _ _ (nums .i64 (prI a k t)) rfl (by rw [← HFT.out]; exact FB.out.row t HTN.out) _ (nums .i64 [(k : Int)]) rfl RB.out (fun u hu => by obtain rfl := List.mem_singleton.1 hu; rfl) (by rw [nums_length]; exact HLT.out) (by decide) (Nat.le_trans GK.out.size BB.out.size) ?_; intro v2 wc ho hgr hwr; have HO := qH (show wc.ownsRow w4.heap.size 3 1 v2 (prI a k t ++ [(k : Int)]).length (nums .i64 (prI a k t ++ [(k : Int)])) by (rw [List.length_append, nums, List.map_append]; exact ho)); have HGR := qH hgr; have HWR := qH hwr; obtain ⟨A2, c2, rfl⟩ := ownC_slice HO.out; have HC := qH (fam_app FB.out HTN.out HFT.out HGR.out); clear ho hgr hwr; (try simp only [Act.put, qA, qB, qC]))
    | ((with_reducible refine atStore 38 38 37 ?_); refine wpList_plain rfl fun K hK => wp_stL (.tmp 38) (.tmp 37) rfl g t rfl A2 _ c2 rfl _ HC.out.1 HC.out.2 ?_; refine hK _ _ ?_; clear hK K; (try simp only [Act.put, qA, qB, qC])))
   have FZ := qH (FB.out.push HTN.out HTN.out HO.out (by rw [HFT.out]; exact HGR.out) (fun q hq => by rw [HFT.out]; exact HWR.out q hq))
   have FZ2 := qH (show Fam (wc.setCell ⟨g, t, none⟩ (.slice A2 (prI a k t ++ [(k : Int)]).length c2)) wl.heap.size w4.heap.size g n n n (putV ff t (.slice A2 (prI a k t ++ [(k : Int)]).length c2)) (prI a (k + 1)) by
    rw [← prI_put, ← HT.out]
    exact FZ.out)
   have GZ := qH (grownS_set (grown_own (grownS_below GK.out BB.out) HGR.out fun q hq => (own6_lt (FB.out.row t HTN.out) q (by rw [HFT.out]; exact hq)).2) t (.slice A2 (prI a k t ++ [(k : Int)]).length c2))
   have HLA := qH (show (prI a k t ++ [(k : Int)]).length = (prI a k t).length + 1 from List.length_append)
   rw [HLA.out] at FZ2 GZ
   exact ⟨⟨k + 1, _, rfl, HKL.out, FZ2.out, GZ.out⟩, by simpa [intOf] using HMK.out⟩
  ·obtain rfl : k = n := Nat.le_antisymm HKN.out (Nat.le_of_not_lt hkl)
   have y1 : ¬ ((k : Int) < (k : Int)) := Int.lt_irrefl _
   have HGW := qH (show wl.heap.size ≤ g by rw [HG.out]; exact Nat.le_refl _)
   have BK := qH (show Below wl.heap.size wl wk from (B3.out.trans (B4.out.mono B3.out.size)).trans ⟨GK.out.os, GK.out.tape, GK.out.output, GK.out.size, fun q hq => GK.out.block q (Nat.lt_of_lt_of_le hq (Nat.le_trans B3.out.size B4.out.size)) fun e => by
    have e1 : q = g := by first | exact Option.some.inj e | exact (Option.some.inj e).symm
    rw [e1] at hq
    exact absurd hq (Nat.not_lt.2 HGW.out)⟩)
   have HW4 := qH (Nat.le_trans B3.out.size B4.out.size)
   have HIM := qH (show i + [Value.slice (some ⟨g, 0, none⟩) k k].length ≤ 2097152 by rw [List.length_singleton]; exact bnd_256 HIN.out HK256.out)
   clear hkl
   go_wp2_with (first
    | ((with_reducible refine atDst 42 ?_); refine wpList_plain rfl fun K hK => wp_bldVk 64 25 (.tmp 41) rfl is (.slice none 0 0) Try.underlying64 his hss0 hss1 rfl (.slice (some ⟨g, 0, none⟩) k k) rfl rfl ?_; intro w5 hk5 hb5; have K5 := qH hk5; have B5 := qH hb5; have BK5 := qH (BK.out.trans (hb5.mono BK.out.size)); have S5 := qH (SI.out.below BK5.out); clear hk5 hb5; refine hK _ _ ?_; clear hK K; (try simp only [Act.put, qA, qB, qC]))
    | ((with_reducible refine atDst 43 ?_); refine wpList_appW (base := w2.heap.size) rfl (.tmp 40) (.tmp 42) 64 rfl 25 is (.slice none 0 0) 24 Try.underlying64 his hss0 hss1 hss2 rfl _ _ _ rfl S5.out.own _ [Value.slice (some ⟨g, 0, none⟩) k k] rfl (rowB K5.out rfl (by decide)) (fun u hu => by obtain rfl := List.mem_singleton.1 hu; rfl) HIM.out (by decide) (Nat.le_trans BI.out.size BK5.out.size) ?_; intro v6 w6 ho hgr hwr; have HO6 := qH ho; have HG6 := qH hgr; have HW6 := qH hwr; obtain ⟨A6, c6, rfl⟩ := ownC_slice ho; clear ho hgr hwr; (try simp only [Act.put, qA, qB, qC])))
   have FK5 := qH (FK.out.below B5.out)
   have SZ := qH (SI.out.next (ff := ff) (u := .slice (some ⟨g, 0, none⟩) k k) BI.out.size BK5.out FK5.out.rowV (fun q hq => by
    have e1 := Option.some.inj (show some g = some q from hq)
    rw [← e1]
    exact ⟨HGW.out, FK5.out.glt.1⟩) (fun j hj => ⟨by
    rw [HLI.out j, ← prI_cells]
    exact Row.of_own (FK5.out.row j hj), fun q hq => ⟨Nat.le_trans HW4.out (own6_lt (FK5.out.row j hj) q hq).2, (own6_lt (FK5.out.row j hj) q hq).1⟩⟩) HO6.out HG6.out HW6.out)
   exact ⟨⟨i + 1, _, _, HIN.out, rfl, SZ.out, below_own (BI.out.trans (BK5.out.mono BI.out.size)) (Nat.le_trans BI.out.size BK5.out.size) HG6.out fun q hq => (own6_lt S5.out.own q hq).2⟩, by simpa [intOf] using HMI.out⟩
 ·obtain rfl : i = K := Nat.le_antisymm HI.out (Nat.le_of_not_lt hin)
  have x1 : ¬ ((i : Int) < (i : Int)) := Int.lt_irrefl _
  clear hin
  go_wp2_with fail
  go_ret
  obtain ⟨T9, F9, h1, h2, h3⟩ := SI.out.lnk
  exact ⟨_, rfl, ⟨T9, F9, ⟨h1.1, fun k hk => ⟨Nat.le_trans B2.out.size (h1.2 k hk).1, (h1.2 k hk).2⟩⟩, fun q hq => ⟨(h2 q hq).1, fun k hk => ⟨Nat.le_trans B2.out.size ((h2 q hq).2 k hk).1, ((h2 q hq).2 k hk).2⟩⟩, fun q j hq hj => ⟨(h3 q j hq hj).1, fun k hk => ⟨Nat.le_trans B2.out.size ((h3 q j hq hj).2 k hk).1, ((h3 q j hq hj).2 k hk).2⟩⟩⟩, BW.out⟩
end Go.Proofs.Ytiehefnbdijiaaa
