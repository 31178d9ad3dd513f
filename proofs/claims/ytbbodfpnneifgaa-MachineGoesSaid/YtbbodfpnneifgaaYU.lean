/-
  Texts of this proof, put together: McI, McJ, LsA, McK, McL. No statement is proved here.
-/
import Derived.Test.YtbbodfpnneifgaaYT
import Derived.Test.YtbbodfpnneifgaaYF
namespace Go.Proofs.Ytbbodfpnneifgaa
open Go.RowKit
set_option linter.unusedSimpArgs false
set_option linter.unusedVariables false
def trI (L : Nat → List Int) (i k j : Nat) : List Int := ((List.range i).flatMap fun q => List.replicate ((L q).count (j : Int)) (q : Int)) ++ List.replicate (((L i).take k).count (j : Int)) (i : Int)
theorem trI_zero (L : Nat → List Int) : trI L 0 0 = fun _ => [] := by
 funext j
 simp [trI]
theorem trI_next {L : Nat → List Int} {i k : Nat} (hk : (L i).length ≤ k) : trI L i k = trI L (i + 1) 0 := by
 funext j
 unfold trI
 rw [List.take_of_length_le hk, List.range_succ, List.flatMap_append]
 simp
theorem trI_put {L : Nat → List Int} {i k t : Nat} (h : (L i)[k]? = some (t : Int)) : putL (trI L i k) t (trI L i k t ++ [(i : Int)]) = trI L i (k + 1) := by
 have hk := (List.getElem?_eq_some_iff.1 h).1
 have he := (List.getElem?_eq_some_iff.1 h).2
 funext j
 unfold putL
 by_cases hj : j = t
 ·rw [if_pos hj, hj]
  unfold trI
  rw [List.take_succ_eq_append_getElem hk, he, List.count_append, List.append_assoc]
  simp [List.replicate_succ']
 ·rw [if_neg hj]
  unfold trI
  rw [List.take_succ_eq_append_getElem hk, he, List.count_append]
  have h0 : List.count (j : Int) [(t : Int)] = 0 := List.count_eq_zero.2 fun h => hj (by have := List.mem_singleton.1 h; omega)
  rw [h0, Nat.add_zero]
theorem trI_mem {L : Nat → List Int} {n j : Nat} (x : Int) : x ∈ trI L n 0 j ↔ ∃ i : Nat, i < n ∧ x = (i : Int) ∧ (j : Int) ∈ L i := by
 unfold trI
 rw [List.take_zero]
 simp only [List.count_nil, List.replicate_zero, List.append_nil, List.mem_flatMap, List.mem_range, List.mem_replicate]
 refine ⟨fun ⟨q, h1, h2, h3⟩ => ⟨q, h1, h3, List.count_pos_iff.1 (Nat.pos_of_ne_zero h2)⟩, fun ⟨q, h1, h3, h2⟩ => ⟨q, h1, Nat.ne_of_gt (List.count_pos_iff.2 h2), h3⟩⟩
theorem flat_len (L : Nat → List Int) (j : Nat) : ∀ i, (∀ q, q < i → (L q).length ≤ 256) → ((List.range i).flatMap fun q => List.replicate ((L q).count (j : Int)) (q : Int)).length ≤ 256 * i
 | 0, _ => by simp
 | i + 1, h => by
  rw [List.range_succ, List.flatMap_append, List.length_append]
  have h1 := flat_len L j i fun q hq => h q (by omega)
  have h2 := h i (Nat.lt_succ_self i)
  have h3 := List.count_le_length (a := (j : Int)) (l := L i)
  simp only [List.flatMap_cons, List.flatMap_nil, List.append_nil, List.length_replicate]
  omega
theorem trI_len {L : Nat → List Int} {i k j : Nat} (h : ∀ q, q < i → (L q).length ≤ 256) : (trI L i k j).length ≤ 256 * i + k := by
 unfold trI
 have h1 := flat_len L j i h
 have h3 := List.count_le_length (a := (j : Int)) (l := (L i).take k)
 have h4 := List.length_take_le k (L i)
 rw [List.length_append, List.length_replicate]
 omega
theorem bnd_tr {i n k rl a : Nat} (h2 : i < n) (h3 : n ≤ 2000) (h4 : k ≤ rl) (h5 : rl ≤ 256) (h1 : a ≤ 256 * i + k) : a + 1 ≤ 2097152 := by omega
theorem nat_of_int {x n : Int} (h : 0 ≤ x ∧ x < n) : ∃ t : Nat, x = (t : Int) := ⟨x.toNat, by omega⟩
theorem ne_of_ltG {br g B : Nat} (h : br < B) (hB : B ≤ g) : some br ≠ some g := fun e => by
 have := Option.some.inj e
 omega
theorem fam_app {w w' : World} {Bt Br g cap n : Nat} {vf : Nat → Value} {L : Nat → List Int} (h : Fam w Bt Br g cap n n vf L) {t : Nat} (ht : t < n) {v : Value} (hv : vf t = v) (hg : w.grownBy w' v.ownBlock) : w'.cell? ⟨g, t, none⟩ = some (vf t) ∧ w'.frozen? ⟨g, t, none⟩ = false := by
 have h1 : Fam w' Bt Br g cap n 0 vf L := ⟨own6_stay h.top fun j hj => by
  have e := Option.some.inj (show some g = some j from hj)
  subst e
  exact hg.block g h.glt.1 fun e => h.ng t ht (by rw [hv]; first | exact e | exact e.symm), fun i hi => absurd hi (Nat.not_lt_zero _), fun i hi => absurd hi (Nat.not_lt_zero _), fun i j hi => absurd hi (Nat.not_lt_zero _)⟩
 exact ⟨h1.cell ht, h1.frozen ht⟩
def LnkL (n : Nat) (L : Nat → List Int) : Prop := ∀ i, i < n → (L i).length ≤ 256 ∧ ∀ x ∈ L i, 0 ≤ x ∧ x < (n : Int)
set_option maxHeartbeats 8000000 in
set_option maxRecDepth 1000000 in
theorem mTurned_any (v : Value) (n : Nat) (L : Nat → List Int) (w : World) (hn : 1 ≤ n) (hf : n ≤ 2000) (hv : LnkV w v n L) (hL : LnkL n L) :
  Calls Try.prog 31 #[v] w fun e w' => ∃ u : Value, e = .returned u ∧ LnkV w' u n (trI L n 0) ∧ Below w.heap.size w w' := by
 have HNP := qH hn
 have HNF := qH hf
 have HLL := qH hL
 obtain ⟨vf, hr, hri⟩ := hv
 have HRN := qH hr
 have HR := qH hri
 obtain ⟨An, cn, rfl, _⟩ := hr
 rw [List.length_map, List.length_range] at HRN ⊢
 obtain ⟨i3, hi3, hz3, hs3, hy3⟩ := infoC (show (Try.prog.info? 41).map (fun i => (i.zero, i.size, i.bytes)) = some (some (.slice none 0 0), 1, 24) by kernel_rfl)
 obtain ⟨i1, hi1, hy0, hy1, hy2⟩ := infoC (show (Try.prog.info? 3).map (fun i => (i.zero, i.size, i.bytes)) = some (some (.int .i64 0), 1, 8) by kernel_rfl)
 have HY3 := qH (show i3.bytes * n ≤ 281474976710656 by rw [hy3]; have := HNF.out; omega)
 have HN3 := qH (show n ≤ 9223372036854775807 by have := HNF.out; omega)
 clear hn hf hL hri hy3
 go_enter Try.func31, Try.ntmps31
 go_wp2_with ((with_reducible refine atDst 10 ?_); refine wpList_mk _ rfl _ _ 25 rfl 41 i3 (.slice none 0 0) Try.underlying25 hi3 hz3 hs3 rfl n _ _ _ _ rfl rfl rfl rfl HY3.out HN3.out ?_; intro w4 hk hb hs; have T4 := qH hk; have B4 := qH hb; clear hk hb hs; (try simp only [Act.put, qA, qB, qC]))
 obtain ⟨g, hg⟩ : ∃ g, g = w.heap.size := ⟨_, rfl⟩
 have HGW := qH (show w.heap.size ≤ g by rw [hg]; exact Nat.le_refl _)
 have HGT := qH (show g < w4.heap.size by rw [hg]; exact T4.out.lt)
 rw [← hg] at T4
 rw [← hg]
 have F4 := qH (show Fam w4 w.heap.size w4.heap.size g n n n (fun _ => .slice none 0 0) (trI L 0 0) by
  rw [trI_zero]
  exact Fam.made T4.out HGW.out (Nat.le_trans HNF.out (by decide)))
 clear hg T4
 go_wp2_with fail
 go_loopw [13] (fun iv wl => ∃ (i : Nat) (ff : Nat → Value), iv = .int .i64 (i : Int) ∧ i ≤ n ∧ Fam wl w.heap.size w4.heap.size g n n n ff (trI L i 0) ∧ w4.grownBy wl (some g)) (fun iv _ => n - (intOf iv).toNat)
 case atStart => exact ⟨0, _, rfl, Nat.zero_le _, F4.out, World.grownBy.refl _ _⟩
 clear F4
 obtain ⟨i, ff, rfl, hi, hf, hg⟩ := hrel
 have FR := qH hf
 have GR := qH hg
 have HI := qH hi
 have BL := qH (show Below w.heap.size w wr from B4.out.trans (Below.mono (show Below g w4 wr from ⟨hg.os, hg.tape, hg.output, hg.size, fun k hk => hg.block k (Nat.lt_trans hk HGT.out) fun e => by have := Option.some.inj e; omega⟩) HGW.out))
 clear hf hg hi
 by_cases hin : i < n
 ·have x1 : (i : Int) < (n : Int) := Int.ofNat_lt.2 hin
  have HIN := qH hin
  have HMI := qH (sub_next hin)
  have e3 := wrap_one i (lt_bigN hin HNF.out)
  have e4 := wrap_one' i (lt_bigN hin HNF.out)
  obtain ⟨r, hr⟩ : ∃ r, r = L i := ⟨_, rfl⟩
  have HRR := qH hr
  obtain ⟨rl, hrl⟩ : ∃ rl, rl = r.length := ⟨_, rfl⟩
  have HRLE := qH hrl
  have HR256 := qH (show rl ≤ 256 by rw [hrl, hr]; exact (HLL.out i hin).1)
  have hri := HR.out i hin
  rw [← hr] at hri
  have hri2 := hri
  obtain ⟨Ar, cr, hvr, _⟩ := hri2
  rw [nums_length, ← hrl] at hvr
  rw [hvr] at hri
  have HRI := qH hri
  obtain ⟨bn, on, rfl, hbn, hcn⟩ := (HRN.out.below BL.out).at_ (by rw [List.length_map, List.length_range]; exact HNP.out)
  have hci : wr.cell? ⟨bn, on + i, none⟩ = some (.slice Ar rl cr) := hcn i _ (by simp [hin, hvr])
  clear hin hr hrl hri hvr hcn
  rename_i wi
  go_wp2_with fail
  go_loopw [20] (fun kv wl => ∃ (k : Nat) (ff : Nat → Value), kv = .int .i64 (k : Int) ∧ k ≤ rl ∧ Fam wl w.heap.size w4.heap.size g n n n ff (trI L i k) ∧ w4.grownBy wl (some g)) (fun kv _ => rl - (intOf kv).toNat)
  case atStart => exact ⟨0, ff, rfl, Nat.zero_le _, FR.out, GR.out⟩
  clear FR GR hci BL
  obtain ⟨k, ff, rfl, hk, hf, hg⟩ := hrel
  have FK := qH hf
  have GK := qH hg
  have HK := qH hk
  clear hf hg hk
  obtain ⟨wk, hwk⟩ : ∃ v : World, v = wr := ⟨_, rfl⟩
  subst hwk
  by_cases hkl : k < rl
  ·have y1 : (k : Int) < (rl : Int) := Int.ofNat_lt.2 hkl
   have HKL := qH hkl
   have HMK := qH (sub_next hkl)
   have f3 := wrap_one k (Nat.le_trans (Nat.le_of_lt hkl) (Nat.le_trans HR256.out (by decide)))
   have f4 := wrap_one' k (Nat.le_trans (Nat.le_of_lt hkl) (Nat.le_trans HR256.out (by decide)))
   have hkr : k < r.length := by rw [← HRLE.out]; exact hkl
   obtain ⟨x, hx⟩ : ∃ x, r[k]? = some x := ⟨_, List.getElem?_eq_getElem hkr⟩
   have hxr := (HLL.out i HIN.out).2 x (by rw [← HRR.out]; exact List.mem_of_getElem? hx)
   obtain ⟨t, rfl⟩ := nat_of_int hxr
   have y3 : (t : Int) < (n : Int) := hxr.2
   have HTN := qH (Int.ofNat_lt.1 y3)
   have HXS := qH (show (L i)[k]? = some (t : Int) by rw [← HRR.out]; exact hx)
   obtain ⟨br, or, rfl, hbr, hcr2⟩ := HRI.out.at_ (by rw [nums_length]; exact Nat.lt_of_le_of_lt (Nat.zero_le _) hkr)
   have hx2 : (nums .i64 r)[k]? = some (.int .i64 (t : Int)) := by rw [nums, List.getElem?_map, hx]; rfl
   have hck : wk.cell? ⟨br, or + k, none⟩ = some (.int .i64 (t : Int)) := cell_heap (hcr2 k _ hx2) ((GK.out.block br (Nat.lt_of_lt_of_le hbr B4.out.size) fun e => ne_of_ltG hbr HGW.out (by first | exact e | exact e.symm)).trans (B4.out.block br hbr))
   obtain ⟨At, ct, hft⟩ := FK.out.slice HTN.out
   have HFT := qH hft
   have cgt : wk.cell? ⟨g, t, none⟩ = some (.slice At (trI L i k t).length ct) := by rw [← hft]; exact FK.out.cell HTN.out
   have HLT := qH (show (trI L i k t).length + 1 ≤ 2097152 from bnd_tr HIN.out HNF.out HK.out HR256.out (trI_len fun q hq => (HLL.out q (Nat.lt_trans hq HIN.out)).1))
   clear hx hxr hkr hkl hbr hcr2 hft hx2
   go_wp2_with (first
    | ((with_reducible refine atDst 31 ?_); refine wpList_plain rfl fun K hK => wp_bldI 41 3 (.tmp 30) rfl i1 Try.underlying41 hi1 0 hy0 hy1 (i : Int) rfl ?_; intro wb hr hb; have RB := qH hr; have BB := qH hb; have FB := qH (FK.out.below hb); clear hr hb; refine hK _ _ ?_; clear hK K; (try simp only [Act.put, qA, qB, qC]))
    | ((with_reducible refine atDst 32 ?_); refine wpList_appW (base := w4.heap.size) rfl (.tmp 29) (.tmp 31) 41 rfl 3 i1 (.int .i64 0) 8 Try.underlying41 hi1 hy0 hy1 hy2 rfl _ _ (nums .i64 (trI L i k t)) rfl (by rw [← HFT.out]; exact FB.out.row t HTN.out) _ (nums .i64 [(i : Int)]) rfl RB.out (fun u hu => by obtain rfl := List.mem_singleton.1 hu; rfl) (by rw [nums_length]; exact HLT.out) (by decide) (Nat.le_trans GK.out.size BB.out.size) ?_; intro v2 wc ho hgr hwr; have HO := qH (show wc.ownsRow w4.heap.size 3 1 v2 (trI L i k t ++ [(i : Int)]).length (nums .i64 (trI L i k t ++ [(i : Int)])) by (rw [List.length_append, nums, List.map_append]; exact ho)); have HGR := qH hgr; have HWR := qH hwr; obtain ⟨A2, c2, rfl⟩ := ownC_slice HO.out; have HC := qH (fam_app FB.out HTN.out HFT.out HGR.out); clear ho hgr hwr; (try simp only [Act.put, qA, qB, qC]))
    | ((with_reducible refine atStore 41 33 32 ?_); refine wpList_plain rfl fun K hK => wp_stL (.tmp 33) (.tmp 32) rfl g t rfl A2 _ c2 rfl _ HC.out.1 HC.out.2 ?_; refine hK _ _ ?_; clear hK K; (try simp only [Act.put, qA, qB, qC])))
   have FZ := qH (FB.out.push HTN.out HTN.out HO.out (by rw [HFT.out]; exact HGR.out) (fun q hq => by rw [HFT.out]; exact HWR.out q hq))
   rw [trI_put HXS.out] at FZ
   have GZ := qH (grownS_set (grown_ownH (grownS_below GK.out BB.out) HGR.out fun q hq => (own6_lt (FB.out.row t HTN.out) q (by rw [HFT.out]; exact hq)).2) t (.slice A2 (trI L i k t ++ [(i : Int)]).length c2))
   have HLA := qH (show (trI L i k t ++ [(i : Int)]).length = (trI L i k t).length + 1 from List.length_append)
   rw [HLA.out] at FZ GZ
   exact ⟨⟨k + 1, _, rfl, HKL.out, FZ.out, GZ.out⟩, by simpa [intOf] using HMK.out⟩
  ·obtain rfl : k = rl := Nat.le_antisymm HK.out (Nat.le_of_not_lt hkl)
   have y1 : ¬ ((k : Int) < (k : Int)) := Int.lt_irrefl _
   have FZ := qH FK.out
   rw [trI_next (Nat.le_of_eq (by rw [HRLE.out, HRR.out]))] at FZ
   clear hkl FK
   go_wp2_with fail
   exact ⟨⟨i + 1, ff, rfl, HIN.out, FZ.out, GK.out⟩, by simpa [intOf] using HMI.out⟩
 ·obtain rfl : i = n := Nat.le_antisymm HI.out (Nat.le_of_not_lt hin)
  have x1 : ¬ ((i : Int) < (i : Int)) := Int.lt_irrefl _
  clear hin
  go_wp2_with fail
  go_ret
  exact ⟨_, rfl, FR.out.lnk, BL.out⟩
def endI (E : List Bool) (i : Nat) : List Int := ((List.range i).filter fun j => E[j]?.getD false).map Int.ofNat
theorem endI_yes {E : List Bool} {i : Nat} (h : E[i]? = some true) : endI E (i + 1) = endI E i ++ [(i : Int)] := by
 unfold endI
 rw [List.range_succ, List.filter_append, List.map_append]
 simp [h]
theorem endI_no {E : List Bool} {i : Nat} (h : E[i]? = some false) : endI E (i + 1) = endI E i := by
 unfold endI
 rw [List.range_succ, List.filter_append, List.map_append]
 simp [h]
theorem endI_len (E : List Bool) (i : Nat) : (endI E i).length ≤ i := by
 unfold endI
 rw [List.length_map]
 exact Nat.le_trans (List.length_filter_le _ _) (Nat.le_of_eq List.length_range)
theorem endI_mem {E : List Bool} {n : Nat} (x : Int) : x ∈ endI E n ↔ ∃ i : Nat, i < n ∧ x = (i : Int) ∧ E[i]? = some true := by
 unfold endI
 simp only [List.mem_map, List.mem_filter, List.mem_range]
 refine ⟨fun ⟨q, ⟨h1, h2⟩, h3⟩ => ⟨q, h1, h3.symm, ?_⟩, fun ⟨q, h1, h3, h2⟩ => ⟨q, ⟨h1, by rw [h2]; rfl⟩, h3.symm⟩⟩
 cases he : E[q]? with
 | none => rw [he] at h2; cases h2
 | some b => rw [he] at h2; rw [show b = true from h2]
theorem endI_nodup (E : List Bool) (n : Nat) : (endI E n).Nodup := by
 unfold endI
 refine List.Pairwise.map _ (fun a b h => ?_) (List.Pairwise.filter _ List.nodup_range)
 intro e
 exact h (Int.ofNat.inj e)
theorem bnd_en {i n a : Nat} (h1 : i < n) (h2 : n ≤ 2000) (h3 : a ≤ i) : a + 1 ≤ 2097152 := by omega
theorem below_own {w0 w w' : World} {B : Nat} {A : Option Nat} (h : Below B w0 w) (hB : B ≤ w.heap.size) (h2 : w.grownBy w' A) (hA : ∀ q, A = some q → B ≤ q) : Below B w0 w' :=
 h.trans ⟨h2.os, h2.tape, h2.output, h2.size, fun k hk => h2.block k (Nat.lt_of_lt_of_le hk hB) fun e => by
  have := hA k (by first | exact e | exact e.symm)
  omega⟩
set_option maxHeartbeats 8000000 in
set_option maxRecDepth 1000000 in
theorem mEnds_any (D : Dm) (cs : List Value) (w : World) (hv : DfaV w cs D) (hE : D.ends.length ≤ 2000) :
  Calls Try.prog 32 #[.agg cs.toArray] w fun e w' => ∃ v : Value, e = .returned v ∧ w'.ownsRow w.heap.size 3 1 v (endI D.ends D.ends.length).length (nums .i64 (endI D.ends D.ends.length)) ∧ Below w.heap.size w w' := by
 have V0 := qH hv
 have HDS := qH hv.size
 obtain ⟨An, Ae, cn, ce, vf, hl, hcs, hn, hr, he⟩ := hv.form
 have HL := qH hl
 obtain ⟨n, hnn⟩ : ∃ n, n = D.ends.length := ⟨_, rfl⟩
 have HN := qH hnn
 rw [← hnn] at hcs he hE ⊢
 have HCS := qH hcs
 have HE := qH he
 have HNF := qH hE
 obtain ⟨i1, hi1, hy0, hy1, hy2⟩ := infoC (show (Try.prog.info? 3).map (fun i => (i.zero, i.size, i.bytes)) = some (some (.int .i64 0), 1, 8) by kernel_rfl)
 clear hv hl hcs hn hr he hnn hE
 go_enter Try.func32, Try.ntmps32
 go_wp2_with ((with_reducible refine atDst 1 ?_); refine wpList_box rfl 28 _ rfl cs rfl (Below.refl w.heap.size w) (Nat.le_refl _) ?_; intro w1 hk1 hb1 hs1 _; have K1 := qH hk1; have B1 := qH hb1; have c257 : w1.cell? ⟨w.heap.size, 257, none⟩ = some (.slice Ae n ce) := (by rw [hk1.cell 257, HCS.out]; exact dcl_e HL.out); clear hk1 hb1 hs1; (try simp only [Act.put, qA, qB, qC]))
 clear c257
 go_loopw [2, 8] (fun v iv wl => ∃ i : Nat, i ≤ n ∧ iv = .int .i64 (i : Int) ∧ wl.ownsRow w1.heap.size 3 1 v (endI D.ends i).length (nums .i64 (endI D.ends i)) ∧ Below w1.heap.size w1 wl) (fun _ iv _ => n - (intOf iv).toNat)
 case atStart => exact ⟨0, Nat.zero_le _, rfl, ownC_nil _ _ _, Below.refl _ _⟩
 obtain ⟨i, hi, rfl, ho, hb⟩ := hrel
 obtain ⟨A, c, rfl⟩ := ownC_slice ho
 have HO := qH ho
 have HB := qH hb
 have HI := qH hi
 have BL := qH (B1.out.trans (hb.mono B1.out.size))
 clear ho hb hi
 by_cases hin : i < n
 ·have x1 : (i : Int) < (n : Int) := Int.ofNat_lt.2 hin
  have HIN := qH hin
  have HMI := qH (sub_next hin)
  have e3 := wrap_one i (lt_bigN hin HNF.out)
  have e4 := wrap_one' i (lt_bigN hin HNF.out)
  obtain ⟨b, hb⟩ : ∃ b, D.ends[i]? = some b := ⟨_, List.getElem?_eq_getElem (by rw [← HN.out]; exact hin)⟩
  obtain ⟨be, oe, rfl, _, hce⟩ := (HE.out.below BL.out).at_ (by rw [bools_length, ← HN.out]; exact Nat.lt_of_le_of_lt (Nat.zero_le _) hin)
  have hci : wr.cell? ⟨be, oe + i, none⟩ = some (.bool b) := hce i _ (by rw [bools, List.getElem?_map, hb]; rfl)
  have HBB := qH hb
  clear hin hb hce
  cases b with
  | false =>
   go_wp2_with fail
   exact ⟨⟨i + 1, HIN.out, rfl, by rw [endI_no HBB.out]; exact HO.out, HB.out⟩, by simpa [intOf] using HMI.out⟩
  | true =>
   go_wp2_with (first
    | ((with_reducible refine atDst 16 ?_); refine wpList_plain rfl fun K hK => wp_bldI 41 3 (.tmp 15) rfl i1 Try.underlying41 hi1 0 hy0 hy1 (i : Int) rfl ?_; intro wb hr hb; have RB := qH hr; have BB := qH hb; have OB := qH (own6_stay HO.out fun j hj => hb.block j (own6_lt HO.out j hj).1); clear hr hb; refine hK _ _ ?_; clear hK K; (try simp only [Act.put, qA, qB, qC]))
    | ((with_reducible refine atDst 17 ?_); refine wpList_appW (base := w1.heap.size) rfl (.tmp 14) (.tmp 16) 41 rfl 3 i1 (.int .i64 0) 8 Try.underlying41 hi1 hy0 hy1 hy2 rfl _ _ (nums .i64 (endI D.ends i)) rfl OB.out _ (nums .i64 [(i : Int)]) rfl RB.out (fun u hu => by obtain rfl := List.mem_singleton.1 hu; rfl) (by rw [nums_length]; exact bnd_en HIN.out HNF.out (endI_len _ _)) (by decide) (Nat.le_trans HB.out.size BB.out.size) ?_; intro v2 wc ho hgr hwr; have HO2 := qH (show wc.ownsRow w1.heap.size 3 1 v2 (endI D.ends (i + 1)).length (nums .i64 (endI D.ends (i + 1))) by (rw [endI_yes HBB.out, List.length_append, nums, List.map_append]; exact ho)); have HGR := qH hgr; clear ho hgr hwr; (try simp only [Act.put, qA, qB, qC])))
   exact ⟨⟨i + 1, HIN.out, rfl, HO2.out, below_own (HB.out.trans (BB.out.mono HB.out.size)) (Nat.le_trans HB.out.size BB.out.size) HGR.out fun q hq => (own6_lt OB.out q hq).2⟩, by simpa [intOf] using HMI.out⟩
 ·obtain rfl : i = n := Nat.le_antisymm HI.out (Nat.le_of_not_lt hin)
  have x1 : ¬ ((i : Int) < (i : Int)) := Int.lt_irrefl _
  clear hin
  go_wp2_with fail
  go_ret
  exact ⟨_, rfl, own_mono HO.out B1.out.size, BL.out⟩
/-! ### finding comes to an end -/
theorem nodup_sub {α : Type} [DecidableEq α] : ∀ (L M : List α), L.Nodup → (∀ x ∈ L, x ∈ M) → L.length ≤ M.length
 | [], M, _, _ => Nat.zero_le _
 | x :: r, M, hn, hs => by
  have hx : x ∈ M := hs x (by simp)
  have hn2 := List.nodup_cons.1 hn
  have h1 := nodup_sub r (M.erase x) hn2.2 fun y hy => (List.mem_erase_of_ne (fun e => hn2.1 (by rw [← e]; exact hy))).2 (hs y (List.mem_cons_of_mem _ hy))
  rw [List.length_erase_of_mem hx] at h1
  have h2 : 0 < M.length := List.length_pos_of_mem hx
  simp only [List.length_cons]
  omega
/-! ### classes by a relation -/
/-! ### languages -/
abbrev Lang := List UInt8 → Bool
noncomputable instance langDec : DecidableEq Lang := fun _ _ => Classical.propDecidable _
section
variable {L : Lang} {n : Nat}
end
/-! ### the least machine of a machine -/
theorem toD_app (D : Dm) : ∀ (u v : List UInt8) (s : Nat), toD D s (u ++ v) = toD D (toD D s u) v
 | [], _, _ => rfl
 | b :: u, v, s => toD_app D u v (stD D s b)
def inI (n : Nat) (G : List Int) : List Bool := (List.range n).map fun j : Nat => decide ((j : Int) ∈ G)
theorem inI_len (n : Nat) (G : List Int) : (inI n G).length = n := by simp [inI]
theorem inI_nil (n : Nat) : inI n [] = List.replicate n false := by
 unfold inI
 rw [List.eq_replicate_iff]
 refine ⟨by simp, fun b hb => ?_⟩
 obtain ⟨j, _, rfl⟩ := List.mem_map.1 hb
 simp
theorem inI_at {n t : Nat} (G : List Int) (h : t < n) : (inI n G)[t]? = some (decide ((t : Int) ∈ G)) := by
 unfold inI
 rw [List.getElem?_map, List.getElem?_range h, Option.map_some]
theorem inI_set {n t : Nat} (G : List Int) (h : t < n) : (inI n G).set t true = inI n (G ++ [(t : Int)]) := by
 apply List.ext_getElem?
 intro j
 by_cases hj : j < n
 ·by_cases he : t = j
  ·subst he
   rw [List.getElem?_set_self (by rw [inI_len]; exact h), inI_at _ h]
   simp
  ·rw [List.getElem?_set_ne he, inI_at _ hj, inI_at _ hj]
   have h1 : (j : Int) ∈ G ++ [(t : Int)] ↔ (j : Int) ∈ G := by
    rw [List.mem_append, List.mem_singleton]
    exact ⟨fun h => h.resolve_right fun e => he (by omega), .inl⟩
   rw [decide_eq_decide.2 h1]
 ·rw [List.getElem?_eq_none (by rw [List.length_set, inI_len]; omega), List.getElem?_eq_none (by rw [inI_len]; omega)]
theorem inI_same {n : Nat} {G : List Int} {f : Nat → Bool} (h : ∀ j, j < n → ((j : Int) ∈ G ↔ f j = true)) : inI n G = (List.range n).map f := by
 unfold inI
 refine List.map_congr_left fun j hj => ?_
 rw [Bool.eq_iff_iff, decide_eq_true_iff]
 exact h j (List.mem_range.1 hj)
inductive SpR (L : Nat → List Int) (F : List Int) : Nat → Prop
 | base {i : Nat} : (i : Int) ∈ F → SpR L F i
 | go {i j : Nat} : SpR L F i → (j : Int) ∈ L i → SpR L F j
noncomputable def sprB (L : Nat → List Int) (F : List Int) (i : Nat) : Bool := @decide (SpR L F i) (Classical.propDecidable _)
theorem sprB_iff {L : Nat → List Int} {F : List Int} {i : Nat} : sprB L F i = true ↔ SpR L F i := by
 unfold sprB
 exact @decide_eq_true_iff _ (Classical.propDecidable _)
structure SpI (n : Nat) (L : Nat → List Int) (F G : List Int) (a : Nat) : Prop where
 nd : G.Nodup
 rng : ∀ x ∈ G, 0 ≤ x ∧ x < (n : Int)
 src : ∀ x ∈ F, x ∈ G
 rc : ∀ j : Nat, (j : Int) ∈ G → SpR L F j
 cl : ∀ i (s : Nat), i < a → G[i]? = some (s : Int) → ∀ x ∈ L s, x ∈ G
 le : a ≤ G.length
section
variable {n : Nat} {L : Nat → List Int} {F G : List Int} {a : Nat}
theorem nodup_rng {n : Nat} {G : List Int} (h : G.Nodup) (hr : ∀ x ∈ G, 0 ≤ x ∧ x < (n : Int)) : G.length ≤ n := by
 have h1 := nodup_sub G ((List.range n).map Int.ofNat) h fun x hx => by
  obtain ⟨t, rfl⟩ := nat_of_int (hr x hx)
  exact List.mem_map.2 ⟨t, List.mem_range.2 (Int.ofNat_lt.1 (hr _ hx).2), rfl⟩
 rwa [List.length_map, List.length_range] at h1
theorem SpI.len (h : SpI n L F G a) : G.length ≤ n := nodup_rng h.nd h.rng
theorem SpI.start (hF : F.Nodup) (hr : ∀ x ∈ F, 0 ≤ x ∧ x < (n : Int)) : SpI n L F F 0 :=
 ⟨hF, hr, fun _ h => h, fun _ h => .base h, fun i s h => absurd h (Nat.not_lt_zero _), Nat.zero_le _⟩
theorem SpI.add (h : SpI n L F G a) {t : Nat} (ht : t < n) (hn : (t : Int) ∉ G) (hr : SpR L F t) : SpI n L F (G ++ [(t : Int)]) a := by
 refine ⟨?_, fun x hx => ?_, fun x hx => List.mem_append_left _ (h.src x hx), fun j hj => ?_, fun i s hi hs x hx => ?_, by rw [List.length_append]; exact Nat.le_trans h.le (Nat.le_add_right _ _)⟩
 ·rw [List.nodup_append]
  refine ⟨h.nd, by simp, fun x hx y hy e => ?_⟩
  rw [List.mem_singleton.1 hy] at e
  exact hn (e ▸ hx)
 ·rcases List.mem_append.1 hx with hx | hx
  ·exact h.rng x hx
  ·rw [List.mem_singleton.1 hx]
   exact ⟨Int.natCast_nonneg _, Int.ofNat_lt.2 ht⟩
 ·rcases List.mem_append.1 hj with hj | hj
  ·exact h.rc j hj
  ·have := List.mem_singleton.1 hj
   obtain rfl : j = t := by omega
   exact hr
 ·rw [List.getElem?_append_left (Nat.lt_of_lt_of_le hi h.le)] at hs
  exact List.mem_append_left _ (h.cl i s hi hs x hx)
theorem SpI.next (h : SpI n L F G a) {s : Nat} (hs : G[a]? = some (s : Int)) (hl : ∀ x ∈ L s, x ∈ G) : SpI n L F G (a + 1) :=
 ⟨h.nd, h.rng, h.src, h.rc, fun i t hi ht x hx => by
  rcases Nat.lt_succ_iff_lt_or_eq.1 hi with h1 | h1
  ·exact h.cl i t h1 ht x hx
  ·rw [h1, hs] at ht
   have := Option.some.inj ht
   obtain rfl : s = t := by omega
   exact hl x hx, (List.getElem?_eq_some_iff.1 hs).1⟩
theorem SpI.all (h : SpI n L F G a) (ha : G.length ≤ a) {j : Nat} (hr : SpR L F j) : (j : Int) ∈ G := by
 induction hr with
 | base h1 => exact h.src _ h1
 | go h1 h2 ih =>
  obtain ⟨q, hq⟩ := List.mem_iff_getElem?.1 ih
  exact h.cl q _ (Nat.lt_of_lt_of_le (List.getElem?_eq_some_iff.1 hq).1 ha) hq _ h2
theorem SpI.done (h : SpI n L F G a) (ha : G.length ≤ a) : inI n G = (List.range n).map (sprB L F) :=
 inI_same fun j _ => by rw [sprB_iff]; exact ⟨h.rc j, h.all ha⟩
theorem SpI.full (h : SpI n L F G a) (ha : G.length = n) : inI n G = (List.range n).map (sprB L F) :=
 inI_same fun j hj => by
  have h1 : (j : Int) ∈ G := by
   refine Classical.byContradiction fun hn => ?_
   have h2 : (G ++ [(j : Int)]).Nodup := by
    rw [List.nodup_append]
    refine ⟨h.nd, by simp, fun x hx y hy e => ?_⟩
    rw [List.mem_singleton.1 hy] at e
    exact hn (e ▸ hx)
   have h3 := nodup_rng (n := n) h2 fun x hx => by
    rcases List.mem_append.1 hx with hx | hx
    ·exact h.rng x hx
    ·rw [List.mem_singleton.1 hx]
     exact ⟨Int.natCast_nonneg _, Int.ofNat_lt.2 hj⟩
   rw [List.length_append, ha] at h3
   exact absurd h3 (Nat.not_succ_le_self n)
  rw [sprB_iff]
  exact ⟨h.rc j, fun _ => h1⟩
end
structure SpW (B : Nat) (w wl : World) (gi n : Nat) (v : Value) (G : List Int) : Prop where
 own : wl.ownsRow B 3 1 v G.length (nums .i64 G)
 ng : v.ownBlock ≠ some gi
 blk : Blk wl gi 4 (bools (inI n G))
 bel : Below B w wl
 ge : B ≤ gi
theorem bools_set2 (l : List Bool) (j : Nat) (b : Bool) : (bools l).set j (.bool b) = bools (l.set j b) := by simp [bools, List.map_set]
section
variable {B gi n : Nat} {w wl wb wc : World} {v v2 : Value} {G : List Int} {t : Nat}
theorem SpW.cell (h : SpW B w wl gi n v G) (ht : t < n) : wl.cell? ⟨gi, t, none⟩ = some (.bool (decide ((t : Int) ∈ G))) := by
 rw [h.blk.cell t, bools, List.getElem?_map, inI_at G ht]
 rfl
theorem SpW.mark (h : SpW B w wl gi n v G) (ht : t < n) : Blk (wl.setCell ⟨gi, t, none⟩ (.bool true)) gi 4 (bools (inI n (G ++ [(t : Int)]))) := by
 have h1 := h.blk.set t (.bool true)
 rwa [bools_set2, inI_set G ht] at h1
theorem SpW.own2 (h : SpW B w wl gi n v G) (u : Value) : (wl.setCell ⟨gi, t, none⟩ u).ownsRow B 3 1 v G.length (nums .i64 G) :=
 own6_stay h.own fun j hj => Below.heap_setCell wl ⟨gi, t, none⟩ u j (fun e => h.ng (by rw [hj]; exact congrArg some e))
theorem SpW.push (h : SpW B w wl gi n v G) (ht : t < n) (hb : Below (wl.setCell ⟨gi, t, none⟩ (.bool true)).heap.size (wl.setCell ⟨gi, t, none⟩ (.bool true)) wb) (hg : wb.grownBy wc v.ownBlock)
  (ho : wc.ownsRow B 3 1 v2 (G ++ [(t : Int)]).length (nums .i64 (G ++ [(t : Int)]))) (hw : ∀ k, v2.ownBlock = some k → v.ownBlock = some k ∨ wb.heap.size ≤ k) : SpW B w wc gi n v2 (G ++ [(t : Int)]) := by
 have hs : (wl.setCell ⟨gi, t, none⟩ (.bool true)).heap.size = wl.heap.size := by simp [World.setCell]
 have hlt := (h.mark ht).lt
 have h1 : gi < wb.heap.size := Nat.lt_of_lt_of_le hlt hb.size
 have h2 : Below B w wb := (h.bel.setCell (p := ⟨gi, t, none⟩) h.ge (.bool true)).trans (hb.mono (by have := h.ge; omega))
 refine ⟨ho, fun e => ?_, (hg.block gi h1 fun e => h.ng (by first | exact e | exact e.symm)).trans ((h.mark ht).below hb hlt), below_own h2 (Nat.le_trans h.ge (Nat.le_of_lt h1)) hg fun q hq => (own6_lt h.own q hq).2, h.ge⟩
 rcases hw gi e with e1 | e1
 ·exact h.ng e1
 ·exact absurd e1 (Nat.not_le.2 h1)
end
theorem take_nextS {α : Type} {l : List α} {k : Nat} {x : α} (h : l[k]? = some x) : l.take (k + 1) = l.take k ++ [x] := by
 rw [List.take_succ_eq_append_getElem (List.getElem?_eq_some_iff.1 h).1, (List.getElem?_eq_some_iff.1 h).2]
theorem bnd_sp {p gl n : Nat} (h1 : p = gl + 1) (h2 : p ≤ n) (h3 : n ≤ 2000) : gl + 1 ≤ 2097152 := by omega
theorem size_sp {w0 w wl wb : World} {gi n t : Nat} {v : Value} {G : List Int} (h0 : Below w0.heap.size w0 w) (h : SpW w0.heap.size w wl gi n v G) (hb : Below (wl.setCell ⟨gi, t, none⟩ (.bool true)).heap.size (wl.setCell ⟨gi, t, none⟩ (.bool true)) wb) : w0.heap.size ≤ wb.heap.size := by
 have h1 : (wl.setCell ⟨gi, t, none⟩ (.bool true)).heap.size = wl.heap.size := by simp [World.setCell]
 have h2 := hb.size
 have h3 := h.bel.size
 have h4 := h0.size
 omega
set_option maxHeartbeats 8000000 in
set_option maxRecDepth 1000000 in
theorem mSpread_any (v v1 : Value) (n : Nat) (L : Nat → List Int) (F : List Int) (w0 w : World) (hn1 : 1 ≤ n) (hn2 : n ≤ 2000) (hv : LnkV w0 v n L) (hL : ∀ i, i < n → ∀ x ∈ L i, 0 ≤ x ∧ x < (n : Int))
  (hF : F.Nodup) (hFr : ∀ x ∈ F, 0 ≤ x ∧ x < (n : Int)) (hB : Below w0.heap.size w0 w) (ho : w.ownsRow w0.heap.size 3 1 v1 F.length (nums .i64 F)) :
  Calls Try.prog 28 #[v, v1] w fun e w' => ∃ u : Value, e = .returned u ∧ Row w' u (bools ((List.range n).map (sprB L F))) ∧ Below w0.heap.size w w' := by
 have HNP := qH hn1
 have HNF := qH hn2
 have HLL := qH hL
 have HF := qH (SpI.start (L := L) hF hFr)
 have HFR := qH hFr
 have B0 := qH hB
 have O0 := qH ho
 have HFN := qH (nodup_rng hF hFr)
 obtain ⟨vf, hr, hri⟩ := hv
 have HRN := qH hr
 have HR := qH hri
 obtain ⟨An, cn, rfl, _⟩ := hr
 rw [List.length_map, List.length_range] at HRN ⊢
 obtain ⟨A1, c1, rfl⟩ := ownC_slice ho
 obtain ⟨m, hm⟩ : ∃ m, m = F.length := ⟨_, rfl⟩
 have HM := qH hm
 rw [← hm] at O0 HFN ⊢
 obtain ⟨i1, hi1, hy0, hy1, hy2⟩ := infoC (show (Try.prog.info? 3).map (fun i => (i.zero, i.size, i.bytes)) = some (some (.int .i64 0), 1, 8) by kernel_rfl)
 obtain ⟨ib, hib, hz3, hs3, hy3⟩ := infoC (show (Try.prog.info? 4).map (fun i => (i.zero, i.size, i.bytes)) = some (some (.bool false), 1, 1) by kernel_rfl)
 have HY3 := qH (show ib.bytes * n ≤ 281474976710656 by rw [hy3]; have := HNF.out; omega)
 have HN3 := qH (show n ≤ 9223372036854775807 by have := HNF.out; omega)
 clear hn1 hn2 hL hF hFr hB ho hri hm hy3
 go_enter Try.func28, Try.ntmps28
 go_wp2_with fail
 go_step3
 go_wp2_with ((with_reducible refine atDst 13 ?_); refine wpList_mk _ rfl _ _ 26 rfl 4 ib (.bool false) Try.underlying26 hib hz3 hs3 rfl n _ _ _ _ rfl rfl rfl rfl HY3.out HN3.out ?_; intro w4 hk hb hs; have T4 := qH hk; have B4 := qH hb; clear hk hb hs; (try simp only [Act.put, qA, qB, qC]))
 obtain ⟨g, hg⟩ : ∃ g, g = w.heap.size := ⟨_, rfl⟩
 have HG := qH hg
 have HGB := qH (show w0.heap.size ≤ g by rw [hg]; exact B0.out.size)
 rw [← hg] at T4 B4
 have HT4 := qH (show Blk w4 g 4 (bools (inI n (F.take 0))) by
  rw [List.take_zero, inI_nil, bools, List.map_replicate]
  exact T4.out)
 rw [← hg]
 clear hg T4
 go_loopw [16] (fun qv wl => ∃ q : Nat, q ≤ m ∧ qv = .int .i64 (q : Int) ∧ Blk wl g 4 (bools (inI n (F.take q))) ∧ Below g w wl) (fun qv _ => m - (intOf qv).toNat)
 case atStart => exact ⟨0, Nat.zero_le _, rfl, HT4.out, B4.out⟩
 clear HT4 B4
 obtain ⟨q, hq, rfl, hk, hb⟩ := hrel
 have HQ := qH hq
 have KQ := qH hk
 have BQ := qH hb
 have OQ := qH (own6_stay O0.out fun j hj => hb.block j (by rw [HG.out]; exact (own6_lt O0.out j hj).1))
 clear hq hk hb
 by_cases hqm : q < m
 ·have x1 : (q : Int) < (m : Int) := Int.ofNat_lt.2 hqm
  have HQM := qH hqm
  have HMQ := qH (sub_next hqm)
  have e3 := wrap_one q (lt_bigN hqm (Nat.le_trans HFN.out HNF.out))
  have e4 := wrap_one' q (lt_bigN hqm (Nat.le_trans HFN.out HNF.out))
  obtain ⟨x, hx⟩ : ∃ x, F[q]? = some x := ⟨_, List.getElem?_eq_getElem (by rw [← HM.out]; exact hqm)⟩
  have hxr := HFR.out x (List.mem_of_getElem? hx)
  obtain ⟨t, rfl⟩ := nat_of_int hxr
  have x3 : (t : Int) < (n : Int) := hxr.2
  have HTN := qH (Int.ofNat_lt.1 x3)
  obtain ⟨bf, of, rfl, hcf⟩ : ∃ bf of, A1 = some ⟨bf, of, none⟩ ∧ wr.cell? ⟨bf, of + q, none⟩ = some (.int .i64 (t : Int)) := by
   obtain ⟨b, o, hA, _, hc⟩ := (Row.of_own OQ.out).at_ (by rw [nums_length, ← HM.out]; exact Nat.lt_of_le_of_lt (Nat.zero_le _) hqm)
   exact ⟨b, o, hA, hc q _ (by rw [nums, List.getElem?_map, hx]; rfl)⟩
  have hcg : wr.cell? ⟨g, t, none⟩ = some (.bool (decide ((t : Int) ∈ F.take q))) := by rw [KQ.out.cell t, bools, List.getElem?_map, inI_at _ HTN.out]; rfl
  have hfg : wr.frozen? ⟨g, t, none⟩ = false := KQ.out.frozen t
  have KZ := qH (show Blk (wr.setCell ⟨g, t, none⟩ (.bool true)) g 4 (bools (inI n (F.take (q + 1)))) by
   have h1 := KQ.out.set t (.bool true)
   rwa [bools_set2, inI_set _ HTN.out, ← take_nextS hx] at h1)
  clear hx hxr hqm
  go_wp2_with fail
  exact ⟨⟨q + 1, HQM.out, rfl, KZ.out, BQ.out.setCell (p := ⟨g, t, none⟩) (Nat.le_refl _) _⟩, by simpa [intOf] using HMQ.out⟩
 ·obtain rfl : q = m := Nat.le_antisymm HQ.out (Nat.le_of_not_lt hqm)
  have x1 : ¬ ((q : Int) < (q : Int)) := Int.lt_irrefl _
  have KZ := qH KQ.out
  rw [HM.out, List.take_length] at KZ
  have WQ := qH (show SpW w0.heap.size w wr g n (.slice A1 q c1) F from ⟨by rw [← HM.out]; exact OQ.out, fun e => by
   have h1 := (own6_lt O0.out g e).1
   rw [HG.out] at h1
   exact Nat.lt_irrefl _ h1, KZ.out, BQ.out.mono HGB.out, HGB.out⟩)
  clear hqm KZ KQ BQ OQ
  go_wp2_with fail
  go_step3
  go_wp2_with fail
  go_loopw [1, 8] (fun fv av wl => ∃ (a : Nat) (G : List Int), av = .int .i64 (a : Int) ∧ SpI n L F G a ∧ SpW w0.heap.size w wl g n fv G) (fun _ av _ => n - (intOf av).toNat)
  case atStart => exact ⟨0, F, rfl, HF.out, WQ.out⟩
  clear WQ O0
  obtain ⟨a, G, rfl, hs, hw⟩ := hrel
  obtain ⟨A2, c2, rfl⟩ := ownC_slice hw.own
  have SG := qH hs
  have WG := qH hw
  obtain ⟨gl, hgl⟩ : ∃ x, x = G.length := ⟨_, rfl⟩
  have HGL := qH hgl
  rw [← hgl] at WG ⊢
  have HAL := qH (show a ≤ gl by rw [hgl]; exact hs.le)
  have BL := qH (B0.out.trans hw.bel)
  clear hs hw hgl
  by_cases hag : a < gl
  ·have x1 : (a : Int) < (gl : Int) := Int.ofNat_lt.2 hag
   have HAN := qH (show a < n from Nat.lt_of_lt_of_le hag (by rw [HGL.out]; exact SG.out.len))
   have HMA := qH (sub_next HAN.out)
   have e3 := wrap_one a (lt_bigN HAN.out HNF.out)
   have e4 := wrap_one' a (lt_bigN HAN.out HNF.out)
   obtain ⟨x, hx⟩ : ∃ x, G[a]? = some x := ⟨_, List.getElem?_eq_getElem (by rw [← HGL.out]; exact hag)⟩
   have hxr := SG.out.rng x (List.mem_of_getElem? hx)
   obtain ⟨s, rfl⟩ := nat_of_int hxr
   have x3 : (s : Int) < (n : Int) := hxr.2
   have HSN := qH (Int.ofNat_lt.1 x3)
   obtain ⟨bf, of, rfl, hcf⟩ : ∃ bf of, A2 = some ⟨bf, of, none⟩ ∧ wr.cell? ⟨bf, of + a, none⟩ = some (.int .i64 (s : Int)) := by
    obtain ⟨b, o, hA, _, hc⟩ := (Row.of_own WG.out.own).at_ (by rw [nums_length, ← HGL.out]; exact Nat.lt_of_le_of_lt (Nat.zero_le _) hag)
    exact ⟨b, o, hA, hc a _ (by rw [nums, List.getElem?_map, hx]; rfl)⟩
   have HXA := qH hx
   obtain ⟨r, hr⟩ : ∃ r, r = L s := ⟨_, rfl⟩
   have HRR := qH hr
   obtain ⟨rl, hrl⟩ : ∃ rl, rl = r.length := ⟨_, rfl⟩
   have HRLE := qH hrl
   have hri := HR.out s HSN.out
   rw [← hr] at hri
   have hri2 := hri
   obtain ⟨Ar, cr, hvr, hl1, hl2, _⟩ := hri2
   rw [nums_length, ← hrl] at hvr
   rw [nums_length, ← hrl] at hl1
   rw [hvr] at hri
   have HRI := qH hri
   have HLN := qH (And.intro hl1 hl2)
   obtain ⟨bn, on, rfl, hbn, hcn⟩ := (HRN.out.below BL.out).at_ (by rw [List.length_map, List.length_range]; exact HNP.out)
   have hci : wr.cell? ⟨bn, on + s, none⟩ = some (.slice Ar rl cr) := hcn s _ (by simp [HSN.out, hvr])
   clear hag hr hrl hri hvr hcn hx hxr hl1 hl2 hbn
   rename_i wi
   go_wp2_with fail
   go_loopw [1, 38] (fun fv kv wl => ∃ (k : Nat) (G' : List Int), kv = .int .i64 (k : Int) ∧ k ≤ rl ∧ SpI n L F G' a ∧ SpW w0.heap.size w wl g n fv G' ∧ G'[a]? = some (s : Int) ∧ ∀ x ∈ r.take k, x ∈ G') (fun _ kv _ => rl - (intOf kv).toNat)
   case atStart => exact ⟨0, G, rfl, Nat.zero_le _, SG.out, WG.out, HXA.out, fun x hx => by rw [List.take_zero] at hx; cases hx⟩
   clear SG WG hci BL hcf HGL HAL HXA
   clear x1
   obtain ⟨k, G, rfl, hk, hs, hw, hx, hl⟩ := hrel
   obtain ⟨A2, c2, rfl⟩ := ownC_slice hw.own
   have SG := qH hs
   have WG := qH hw
   have HXA := qH hx
   have HLK := qH hl
   have HK := qH hk
   have BL := qH (B0.out.trans hw.bel)
   obtain ⟨gl, hgl⟩ : ∃ x, x = G.length := ⟨_, rfl⟩
   have HGL := qH hgl
   rw [← hgl] at WG ⊢
   clear hs hw hx hl hk hgl
   obtain ⟨wk, hwk⟩ : ∃ v : World, v = wr := ⟨_, rfl⟩
   subst hwk
   by_cases hkl : k < rl
   ·have y1 : (k : Int) < (rl : Int) := Int.ofNat_lt.2 hkl
    have HKL := qH hkl
    have HMK := qH (sub_next hkl)
    have f3 := wrap_len hkl HLN.out.1 HLN.out.2
    have f4 := wrap_len' hkl HLN.out.1 HLN.out.2
    have hkr : k < r.length := by rw [← HRLE.out]; exact hkl
    obtain ⟨x, hx⟩ : ∃ x, r[k]? = some x := ⟨_, List.getElem?_eq_getElem hkr⟩
    have hxm : x ∈ L s := by rw [← HRR.out]; exact List.mem_of_getElem? hx
    have hxr := HLL.out s HSN.out x hxm
    obtain ⟨t, rfl⟩ := nat_of_int hxr
    have y3 : (t : Int) < (n : Int) := hxr.2
    have HTN := qH (Int.ofNat_lt.1 y3)
    have HXM := qH hxm
    have HXK := qH (take_nextS hx)
    obtain ⟨br, or, rfl, hck⟩ : ∃ br or, Ar = some ⟨br, or, none⟩ ∧ wk.cell? ⟨br, or + k, none⟩ = some (.int .i64 (t : Int)) := by
     obtain ⟨b, o, hA, _, hc⟩ := (HRI.out.below BL.out).at_ (by rw [nums_length]; exact Nat.lt_of_le_of_lt (Nat.zero_le _) hkr)
     exact ⟨b, o, hA, hc k _ (by rw [nums, List.getElem?_map, hx]; rfl)⟩
    obtain ⟨b, hb⟩ : ∃ b, b = decide ((t : Int) ∈ G) := ⟨_, rfl⟩
    have hcg := WG.out.cell HTN.out
    have hfg : wk.frozen? ⟨g, t, none⟩ = false := WG.out.blk.frozen t
    rw [← hb] at hcg
    have HBE := qH hb
    clear hx hxr hxm hkr hkl hb
    cases b with
    | true =>
     have HTG := qH (of_decide_eq_true HBE.out.symm)
     clear HBE
     go_wp2_with fail
     exact ⟨⟨k + 1, G, rfl, HKL.out, SG.out, WG.out, HXA.out, fun x hx => by
      rw [HXK.out] at hx
      rcases List.mem_append.1 hx with h | h
      ·exact HLK.out x h
      ·rw [List.mem_singleton.1 h]; exact HTG.out⟩, by simpa [intOf] using HMK.out⟩
    | false =>
     have HTG := qH (of_decide_eq_false HBE.out.symm)
     have SN := qH (SG.out.add HTN.out HTG.out (.go (SG.out.rc s (List.mem_of_getElem? HXA.out)) HXM.out))
     obtain ⟨p, hp⟩ : ∃ p, p = (G ++ [(t : Int)]).length := ⟨_, rfl⟩
     have HP := qH hp
     have HP1 := qH (show p = gl + 1 by rw [hp, HGL.out, List.length_append]; rfl)
     have HPN := qH (show p ≤ n by rw [hp]; exact SN.out.len)
     have OG := qH (WG.out.own2 (t := t) (.bool true))
     rw [← HGL.out] at OG
     clear HBE hp
     obtain ⟨pb, hpb⟩ : ∃ b, b = decide (p = n) := ⟨_, rfl⟩
     have z1 : ((p : Int) == (n : Int)) = pb := by rw [hpb, Bool.eq_iff_iff, beq_iff_eq, decide_eq_true_iff]; exact Int.ofNat_inj
     have z2 : decide ((p : Int) = (n : Int)) = pb := by rw [hpb]; exact decide_eq_decide.2 Int.ofNat_inj
     have HPB := qH hpb
     clear hpb
     cases pb with
     | true =>
      have HE := qH (of_decide_eq_true HPB.out.symm)
      clear HPB
      go_wp2_with (first
       | ((with_reducible refine atDst 51 ?_); refine wpList_plain rfl fun K hK => wp_bldI 41 3 (.tmp 50) rfl i1 Try.underlying41 hi1 0 hy0 hy1 (t : Int) rfl ?_; intro wb hr hb; have RB := qH hr; have BB := qH hb; have OB := qH (own6_stay OG.out fun j hj => hb.block j (own6_lt OG.out j hj).1); clear hr hb; refine hK _ _ ?_; clear hK K; (try simp only [Act.put, qA, qB, qC]))
       | ((with_reducible refine atDst 52 ?_); refine wpList_appW (base := w0.heap.size) rfl (.tmp 49) (.tmp 51) 41 rfl 3 i1 (.int .i64 0) 8 Try.underlying41 hi1 hy0 hy1 hy2 rfl _ _ (nums .i64 G) rfl OB.out _ (nums .i64 [(t : Int)]) rfl RB.out (fun u hu => by obtain rfl := List.mem_singleton.1 hu; rfl) (by rw [nums_length]; exact bnd_sp HP1.out HPN.out HNF.out) (by decide) (size_sp B0.out WG.out BB.out) ?_; intro v2 wc ho hgr hwr; have HO := qH (show wc.ownsRow w0.heap.size 3 1 v2 p (nums .i64 (G ++ [(t : Int)])) by (rw [HP1.out, nums, List.map_append]; exact ho)); have HGR := qH hgr; have HWR := qH hwr; obtain ⟨A3, c3, rfl⟩ := ownC_slice HO.out; clear ho hgr hwr; (try simp only [Act.put, qA, qB, qC])))
      have WZ := qH (WG.out.push HTN.out BB.out HGR.out (by rw [← HP.out]; exact HO.out) HWR.out)
      have HI := qH (SN.out.full (by rw [← HP.out]; exact HE.out))
      have RZ := qH (Row.of_own (WZ.out.blk.own (Nat.zero_le _) (by rw [bools_length, inI_len]; exact Nat.le_trans HNF.out (by decide))))
      rw [bools_length, inI_len, HI.out] at RZ
      try rw [Exit.noGoto_ret]
      go_ret
      exact ⟨_, rfl, RZ.out, WZ.out.bel⟩
     | false =>
      have HE := qH (of_decide_eq_false HPB.out.symm)
      clear HPB
      go_wp2_with (first
       | ((with_reducible refine atDst 51 ?_); refine wpList_plain rfl fun K hK => wp_bldI 41 3 (.tmp 50) rfl i1 Try.underlying41 hi1 0 hy0 hy1 (t : Int) rfl ?_; intro wb hr hb; have RB := qH hr; have BB := qH hb; have OB := qH (own6_stay OG.out fun j hj => hb.block j (own6_lt OG.out j hj).1); clear hr hb; refine hK _ _ ?_; clear hK K; (try simp only [Act.put, qA, qB, qC]))
       | ((with_reducible refine atDst 52 ?_); refine wpList_appW (base := w0.heap.size) rfl (.tmp 49) (.tmp 51) 41 rfl 3 i1 (.int .i64 0) 8 Try.underlying41 hi1 hy0 hy1 hy2 rfl _ _ (nums .i64 G) rfl OB.out _ (nums .i64 [(t : Int)]) rfl RB.out (fun u hu => by obtain rfl := List.mem_singleton.1 hu; rfl) (by rw [nums_length]; exact bnd_sp HP1.out HPN.out HNF.out) (by decide) (size_sp B0.out WG.out BB.out) ?_; intro v2 wc ho hgr hwr; have HO := qH (show wc.ownsRow w0.heap.size 3 1 v2 p (nums .i64 (G ++ [(t : Int)])) by (rw [HP1.out, nums, List.map_append]; exact ho)); have HGR := qH hgr; have HWR := qH hwr; obtain ⟨A3, c3, rfl⟩ := ownC_slice HO.out; clear ho hgr hwr; (try simp only [Act.put, qA, qB, qC])))
      have WZ := qH (WG.out.push HTN.out BB.out HGR.out (by rw [← HP.out]; exact HO.out) HWR.out)
      exact ⟨⟨k + 1, _, rfl, HKL.out, SN.out, WZ.out, by rw [List.getElem?_append_left (List.getElem?_eq_some_iff.1 HXA.out).1]; exact HXA.out, fun x hx => by
       rw [HXK.out] at hx
       rcases List.mem_append.1 hx with h | h
       ·exact List.mem_append_left _ (HLK.out x h)
       ·exact List.mem_append_right _ h⟩, by simpa [intOf] using HMK.out⟩
   ·obtain rfl : k = rl := Nat.le_antisymm HK.out (Nat.le_of_not_lt hkl)
    have y1 : ¬ ((k : Int) < (k : Int)) := Int.lt_irrefl _
    have SZ := qH (SG.out.next HXA.out fun x hx => HLK.out x (by rw [HRLE.out, List.take_length, HRR.out]; exact hx))
    clear hkl
    go_wp2_with fail
    exact ⟨⟨a + 1, G, rfl, SZ.out, WG.out⟩, by simpa [intOf] using HMA.out⟩
  ·obtain rfl : a = gl := Nat.le_antisymm HAL.out (Nat.le_of_not_lt hag)
   have x1 : ¬ ((a : Int) < (a : Int)) := Int.lt_irrefl _
   have HI := qH (SG.out.done (Nat.le_of_eq HGL.out.symm))
   have RZ := qH (Row.of_own (WG.out.blk.own (Nat.zero_le _) (by rw [bools_length, inI_len]; exact Nat.le_trans HNF.out (by decide))))
   rw [bools_length, inI_len, HI.out] at RZ
   have BZ := qH WG.out.bel
   clear hag
   go_wp2_with fail
   try rw [Exit.noGoto_ret]
   go_ret
   exact ⟨_, rfl, RZ.out, BZ.out⟩
end Go.Proofs.Ytbbodfpnneifgaa
