/-
  Texts of this proof, put together: LkL, LkR, LkQ. No statement is proved here.
-/
import Derived.Test.YtiehefnbdijiaaaZO
import Derived.Test.YtiehefnbdijiaaaZQ
import Derived.Test.YtiehefnbdijiaaaZI
import Derived.Test.YtiehefnbdijiaaaZL
import Derived.Laws.Bits64b
import Derived.Laws.CopyOwn
import Derived.Laws.CopyRow
namespace Go.Proofs.Ytiehefnbdijiaaa
open Go.RowKit
set_option linter.unusedSimpArgs false
set_option linter.unusedVariables false
theorem srcL_mem {n : Nat} {b : Nat → Nat} {l : List Nat} {s : Nat} : s ∈ srcL (fun j => prt n b j) l ↔ s < n ∧ b s ∈ l := by
 unfold srcL
 rw [List.mem_flatMap]
 constructor
 ·rintro ⟨j, hj, hs⟩
  obtain ⟨h1, h2⟩ := prt_mem.1 hs
  exact ⟨h1, by rw [h2]; exact hj⟩
 ·rintro ⟨h1, h2⟩
  exact ⟨_, h2, prt_mem.2 ⟨h1, rfl⟩⟩
theorem srcL_nodup {n : Nat} {b : Nat → Nat} : ∀ {l : List Nat}, l.Nodup → (srcL (fun j => prt n b j) l).Nodup
 | [], _ => List.nodup_nil
 | x :: r, h => by
  obtain ⟨h1, h2⟩ := List.nodup_cons.1 h
  have ih := srcL_nodup (n := n) (b := b) h2
  show (prt n b x ++ srcL (fun j => prt n b j) r).Nodup
  refine List.nodup_append.2 ⟨prt_nodup n b x, ih, fun s hs t ht e => h1 ?_⟩
  subst e
  have e1 := (prt_mem.1 hs).2
  rw [← e1]
  exact (srcL_mem.1 ht).2
theorem srcL_le {n : Nat} {b : Nat → Nat} {l : List Nat} (h : l.Nodup) : (srcL (fun j => prt n b j) l).length ≤ n := by
 have h1 := nodup_sub _ (List.range n) (srcL_nodup (n := n) (b := b) h) fun s hs => List.mem_range.2 (srcL_mem.1 hs).1
 rwa [List.length_range] at h1
def csN (D : Dm) : List Nat := (usU D.cl 256).map fun x => x.toNat
theorem csN_is {D : Dm} (hl : D.cl.length = 256) : ClsC D (csN D) := by
 refine ⟨fun c hc => ?_, fun b => ?_⟩
 ·obtain ⟨x, hx, rfl⟩ := List.mem_map.1 hc
  rw [usU_mem, List.take_of_length_le (by rw [hl]; exact Nat.le_refl _)] at hx
  obtain ⟨j, hj, e⟩ := List.getElem_of_mem hx
  refine ⟨UInt8.ofNat j, ?_⟩
  rw [toNat_ofNatQ (by rw [← hl]; exact hj), List.getD_eq_getElem?_getD, List.getElem?_eq_getElem hj, Option.getD_some, e]
 ·obtain ⟨x, hx⟩ : ∃ x, D.cl[b.toNat]? = some x := ⟨_, List.getElem?_eq_getElem (by rw [hl]; exact b.toNat_lt)⟩
  rw [List.getD_eq_getElem?_getD, hx, Option.getD_some]
  exact List.mem_map.2 ⟨x, by rw [usU_mem, List.take_of_length_le (by rw [hl]; exact Nat.le_refl _)]; exact List.mem_of_getElem? hx, rfl⟩
theorem csN_get {D : Dm} {i : Nat} {c : Nat} (h : (csN D)[i]? = some c) : lnkD D i = fun j => prt D.next.length (fun s => stC D s c) j := by
 unfold csN at h
 rw [List.getElem?_map, Option.map_eq_some_iff] at h
 obtain ⟨x, hx, rfl⟩ := h
 funext j
 unfold lnkD
 rw [List.getD_eq_getElem?_getD, hx, Option.getD_some]
theorem src_hop {D : Dm} {c t : Nat} {a : Nat → Nat} (hm : MayD D) (hc : c < clsA D.cl) (s : Nat) (hs : s < D.next.length) : s ∈ srcL (fun j => prt D.next.length (fun s => stC D s c) j) (prt D.next.length a t) ↔ a (stC D s c) = t := by
 rw [srcL_mem]
 refine ⟨fun h => (prt_mem.1 h.2).2, fun h => ⟨hs, prt_mem.2 ⟨stC_lt hm hs c hc, h⟩⟩⟩
theorem pn_one {n : Nat} (h : 1 ≤ n) : Pn n 1 (fun _ => 0) := ⟨fun _ _ => Nat.zero_lt_one, fun k hk => ⟨0, h, by omega⟩⟩
def RefE (D : Dm) (v : Value) (B : Nat) (w' : World) : Prop := ∃ t ci m a, m ≤ t ∧ HopI D (csN D) t ci m a ∧ ∃ F : Nat → Value, RowI w' B w'.heap.size v ((List.range m).map F) ∧ ∀ k, k < m → RowI w' B w'.heap.size (F k) (nat64 (prt D.next.length a k))
set_option maxHeartbeats 8000000 in
set_option maxRecDepth 1000000 in
theorem lRefine_any (D : Dm) (cs : List Value) (w : World) (hv : DfaV w cs D) (hm : MayD D) :
  Calls Try.prog 20 #[.agg cs.toArray] w fun e w' => ∃ v, e = .returned v ∧ RefE D v w.heap.size w' ∧ Below w.heap.size w w' := by
 have V0 := qH hv
 have HM := qH hm
 have HDS := qH hv.size
 obtain ⟨n, hnn⟩ : ∃ n, n = D.next.length := ⟨_, rfl⟩
 obtain ⟨bn, on, cn, be, oe, ce, hdr⟩ := dr_of hv hm hnn rfl
 have HNF := qH (show n ≤ 2000 by rw [hnn]; exact hm.few)
 have HNP := qH (show 1 ≤ n by rw [hnn]; exact hm.pos)
 have HN := qH hnn
 have HEN := qH (show D.ends.length = n by rw [hnn]; exact hm.ends)
 have HCS := qH hdr.cs
 have HL := qH hdr.hl
 have HCL := qH (csN_is hdr.hl)
 clear hv hm hdr hnn
 go_enter Try.func20, Try.ntmps20
 go_wp2_with ((with_reducible refine atDst 1 ?_); refine wpList_box rfl 28 _ rfl cs rfl (Below.refl w.heap.size w) (Nat.le_refl _) ?_; intro w1 hk1 hb1 hs1 _; have K1 := qH hk1; have B1 := qH hb1; have c256 : w1.cell? ⟨w.heap.size, 256, none⟩ = some (.slice (some ⟨bn, on, none⟩) n cn) := (by rw [hk1.cell 256, HCS.out]; exact dcl_n HL.out); clear hk1 hb1 hs1; (try simp only [Act.put, qA, qB, qC]))
 refine (lNew_any n w1 HNF.out HNP.out).mono ?_
 rintro e w2 ⟨p, rfl, hp, hb⟩
 have P2 := qH hp
 have K2 := qH (K1.out.below hb K1.out.lt)
 have B2 := qH (B1.out.trans (hb.mono B1.out.size))
 clear hp hb c256
 go_wp2_with ((with_reducible refine atDst 13 ?_); refine wpList_ldArr rfl 28 _ rfl w.heap.size rfl 28 _ _ K2.out Try.underlying28 rfl HDS.out ?_; (try simp only [Act.put, qA, qB, qC]))
 refine (lEnds_any D cs w2 (V0.out.below B2.out) (by rw [HEN.out]; exact HNF.out)).mono ?_
 rintro e w3 ⟨lv, rfl, ho, hb⟩
 rw [endN_I, endN_len, HEN.out] at ho
 have O3 := qH ho
 have P3 := qH (P2.out.below hb)
 have K3 := qH (K2.out.below hb K2.out.lt)
 have B3 := qH (B2.out.trans (hb.mono B2.out.size))
 clear ho hb
 go_wp2_with fail
 refine (lCut_any (endN D.ends n) lv w3 P3.out (pn_one HNP.out) HNF.out (Row.of_own O3.out) (endN_nodup _ _) (fun s hs => (endN_mem.1 hs).1) (fun k hk hd => by
  have h1 := (own6_lt O3.out k hk).2
  have h2 := hd.2
  omega)).mono ?_
 rintro e w4 ⟨rfl, m, a, hc, hpp⟩
 obtain ⟨D2, hD2⟩ : ∃ P : Nat → Prop, P = fun k => w1.heap.size ≤ k ∧ k < w2.heap.size := ⟨_, rfl⟩
 rw [← hD2] at hpp
 have HD2 := qH (show ∀ k, D2 k → w1.heap.size ≤ k by rw [hD2]; exact fun k h => h.1)
 have H0 := qH (show HopI D (csN D) 0 0 m a from HopI.zero HM.out (by rw [← HN.out]; exact hc) fun s => by rw [← HN.out, endN_mem])
 have P4 := qH hpp.pt
 have O4 := qH hpp.off
 have HB1 := qH (show w.heap.size < w1.heap.size from K1.out.lt)
 have B4 := qH (show Below w.heap.size w w4 from B3.out.trans ((hpp.off.below HD2.out hpp.sz).mono B1.out.size))
 have K4 := qH (K3.out.below ((hpp.off.below HD2.out hpp.sz)) HB1.out)
 obtain ⟨D4, hD4⟩ : ∃ P : Nat → Prop, P = up D2 w3 w4 := ⟨_, rfl⟩
 rw [← hD4] at P4
 clear hc hpp hD2 hD4 P2 P3 O3
 go_wp2_with ((with_reducible refine atDst 16 ?_); refine wpList_ldArr rfl 28 _ rfl w.heap.size rfl 28 _ _ K4.out Try.underlying28 rfl HDS.out ?_; (try simp only [Act.put, qA, qB, qC]))
 refine (lTurned_any D cs w4 (V0.out.below B4.out) HM.out).mono ?_
 rintro e w5 ⟨kv, rfl, hk, hb⟩
 rw [← HN.out] at hk
 obtain ⟨K, hK⟩ : ∃ K, K = (usU D.cl 256).length := ⟨_, rfl⟩
 rw [← hK] at hk
 have HKL := qH (show K = (csN D).length by unfold csN; rw [List.length_map, hK])
 have HK256 := qH (show K ≤ 256 by rw [hK]; exact usU_len _ _)
 have LK := qH hk
 have HKV : ∃ A c, kv = .slice A K c := by
  obtain ⟨T, F, h1, _⟩ := hk
  obtain ⟨A, c, e, _⟩ := h1.1
  rw [List.length_map, List.length_range] at e
  exact ⟨A, c, e⟩
 obtain ⟨Ak, ck, rfl⟩ := HKV
 have P5 := qH (P4.out.below hb)
 have B45 := qH hb
 have B5 := qH (B4.out.trans (hb.mono B4.out.size))
 have HDL := qH (show ∀ k, D4 k → k < w4.heap.size from P4.out.dl)
 have HDB := qH (show ∀ k, D4 k → w1.heap.size ≤ k from P4.out.dB)
 have HMN := qH H0.out.pn.le
 have PP5 := qH (show PPost w5 w1.heap.size p D4 n m a (fun _ => false) (fun _ => 0) w5 from PPost.refl P5.out)
 clear hk hb hK P4 O4 P5
 go_wp2_with fail
 go_loopw [5] (fun tv wl => ∃ (t m : Nat) (a : Nat → Nat), tv = .int .i64 (t : Int) ∧ t ≤ m ∧ HopI D (csN D) t 0 m a ∧ PPost w5 w1.heap.size p D4 n m a (fun _ => false) (fun _ => 0) wl) (fun tv _ => n - (intOf tv).toNat)
 case atStart => exact ⟨0, m, a, rfl, Nat.zero_le _, H0.out, PP5.out⟩
 clear H0 PP5 HMN
 obtain ⟨t, m, a, rfl, ht, hh, hp⟩ := hrel
 obtain ⟨wt, hwt⟩ : ∃ v : World, v = wr := ⟨_, rfl⟩
 subst hwt
 have HT := qH ht
 have HH := qH hh
 have PT := qH hp
 have HMN := qH (show m ≤ n by rw [HN.out]; exact hh.pn.le)
 have HM1 := qH (show 1 ≤ m by
  have h1 := hh.pn.lt 0 (by rw [← HN.out]; exact HNP.out)
  omega)
 obtain ⟨U, X, hu, hud⟩ := hp.pt.is
 obtain ⟨g0, c0, hU0, _⟩ := hu.val (i := 0) (by omega) hu.l0 HM1.out
 have cp0 : wt.cell? ⟨p, 0, none⟩ = some (.slice (some ⟨g0, 0, none⟩) m c0) := by rw [hu.blk.cell 0, ← hU0]; rfl
 have HU := qH hu
 have HU0 := qH hU0
 clear ht hh hp hu hud hU0
 by_cases htm : t < m
 ·have x1 : (t : Int) < (m : Int) := Int.ofNat_lt.2 htm
  have HTM := qH htm
  have HTN := qH (show n - (t + 1) < n - t from sub_next (Nat.lt_of_lt_of_le htm HMN.out))
  have e3 := wrap_one t (lt_bigN (Nat.lt_of_lt_of_le htm HMN.out) HNF.out)
  have e4 := wrap_one' t (lt_bigN (Nat.lt_of_lt_of_le htm HMN.out) HNF.out)
  clear htm HU HU0
  go_wp2_with fail
  clear cp0
  go_loopw [29] (fun iv wl => ∃ (i m : Nat) (a : Nat → Nat), iv = .int .i64 (i : Int) ∧ i ≤ K ∧ t < m ∧ HopI D (csN D) t i m a ∧ PPost w5 w1.heap.size p D4 n m a (fun _ => false) (fun _ => 0) wl) (fun iv _ => K - (intOf iv).toNat)
  case atStart => exact ⟨0, m, a, rfl, Nat.zero_le _, HTM.out, HH.out, PT.out⟩
  clear HH PT HMN HM1 HTM HT
  obtain ⟨i, m, a, rfl, hi, htm, hh, hp⟩ := hrel
  obtain ⟨wi, hwi⟩ : ∃ v : World, v = wr := ⟨_, rfl⟩
  subst hwi
  have HI := qH hi
  have HTM := qH htm
  have HH := qH hh
  have PI := qH hp
  have HMN := qH (show m ≤ n by rw [HN.out]; exact hh.pn.le)
  clear hi htm hh hp x1
  by_cases hik : i < K
  ·have x1 : (i : Int) < (K : Int) := Int.ofNat_lt.2 hik
   have HIK := qH hik
   have HMI := qH (sub_next hik)
   have f3 := wrap_one i (Nat.le_trans HI.out (Nat.le_trans HK256.out (by decide)))
   have f4 := wrap_one' i (Nat.le_trans HI.out (Nat.le_trans HK256.out (by decide)))
   obtain ⟨c, hc⟩ : ∃ c, (csN D)[i]? = some c := ⟨_, List.getElem?_eq_getElem (by rw [← HKL.out]; exact hik)⟩
   have HC := qH hc
   have HCC := qH (HCL.out.lt HL.out (List.mem_of_getElem? hc))
   have LKI := qH (LK.out.off PI.out.off fun k h1 h2 h3 => by have := HDL.out k h3; omega)
   obtain ⟨T, F, hT, hF1, hF2⟩ := LKI.out
   obtain ⟨bk, ok, rfl, _, hck⟩ := hT.1.at_ (by rw [List.length_map, List.length_range]; exact Nat.lt_of_le_of_lt (Nat.zero_le _) hik)
   obtain ⟨Ai, ci, hTi, _⟩ := (hF1 i hik).1
   rw [List.length_map, List.length_range] at hTi
   have c32 : wi.cell? ⟨bk, ok + i, none⟩ = some (.slice Ai n ci) := hck i _ (by simp [hik, hTi])
   have LNI := qH (show LnkN wi (.slice Ai n ci) n (lnkD D i) from ⟨F i, by rw [← hTi]; exact (hF1 i hik).1, fun j hj => (hF2 i j hik hj).1⟩)
   obtain ⟨U, X, hu, hud⟩ := PI.out.pt.is
   obtain ⟨g0, c0, hU0, _⟩ := hu.val (i := 0) (by omega) hu.l0 (by have := HTM.out; omega)
   have cp0 : wi.cell? ⟨p, 0, none⟩ = some (.slice (some ⟨g0, 0, none⟩) m c0) := by rw [hu.blk.cell 0, ← hU0]; rfl
   obtain ⟨q, hq⟩ : ∃ q, q = (prt n a t).length := ⟨_, rfl⟩
   obtain ⟨At, ct, hUt⟩ : ∃ A c, U (t + 4) = .slice A q c := by
    obtain ⟨A, c, e⟩ := ownC_slice (hu.part HTM.out)
    exact ⟨A, c, by rw [e, hq]⟩
   have ct0 : wi.cell? ⟨g0, t, none⟩ = some (.slice At q ct) := by rw [hu.top hU0 HTM.out, hUt]
   have RT := qH (show Row wi (.slice At q ct) (nat64 (prt n a t)) by rw [← hUt]; exact Row.of_own (hu.part HTM.out))
   have t1 : (t : Int) < (m : Int) := Int.ofNat_lt.2 HTM.out
   obtain ⟨l, hl⟩ : ∃ l, l = srcL (lnkD D i) (prt n a t) := ⟨_, rfl⟩
   have HLL := qH hl
   have HLE := qH (show l = srcL (fun j => prt n (fun s => stC D s c) j) (prt n a t) by rw [hl, csN_get hc, HN.out])
   have HLN := qH (show l.length ≤ n by rw [HLE.out]; exact srcL_le (prt_nodup _ _ _))
   have HLD := qH (show l.Nodup by rw [HLE.out]; exact srcL_nodup (prt_nodup _ _ _))
   have HLM := qH (show ∀ s ∈ l, s < n by rw [HLE.out]; exact fun s hs => (srcL_mem.1 hs).1)
   clear hik hc hT hF1 hF2 hck hTi hu hud hU0 hq hUt hl
   go_wp2_with fail
   clear c32 cp0 ct0
   refine (lSources_any (lnkD D i) (prt n a t) n _ _ wi LNI.out RT.out (fun s hs => (prt_mem.1 hs).1) (Nat.le_trans (prt_le _ _ _) HNF.out) (by rw [← HLL.out]; exact Nat.le_trans HLN.out HNF.out)).mono ?_
   rintro e w6 ⟨lv, rfl, ho, hb⟩
   rw [← HLL.out] at ho
   have O6 := qH ho
   have B6 := qH hb
   clear ho hb
   go_wp2_with fail
   refine (lCut_any l lv w6 (PI.out.pt.below B6.out) (by rw [HN.out]; exact HH.out.pn) HNF.out (Row.of_own O6.out) HLD.out HLM.out (fun k hk hd => by
    have h1 := (own6_lt O6.out k hk).2
    have h2 := PI.out.pt.dl k hd
    omega)).mono ?_
   rintro e w7 ⟨rfl, m2, a2, hc, hpp⟩
   have PZ := qH (PI.out.trans (PPost.pre (Off.new _ B6.out) PI.out.pt.dl hpp PI.out.pt.size))
   have HZ := qH (HH.out.step HM.out HL.out HCL.out HC.out HTM.out (by rw [← HN.out]; exact hc) fun s hs => by
    rw [HLE.out, HN.out]
    exact src_hop HM.out HCC.out s hs)
   have HTZ := qH (Nat.lt_of_lt_of_le HTM.out hc.le)
   clear hc hpp
   go_wp2_with fail
   exact ⟨⟨i + 1, m2, a2, rfl, HIK.out, HTZ.out, HZ.out, PZ.out⟩, by simpa [intOf] using HMI.out⟩
  ·obtain rfl : i = K := Nat.le_antisymm HI.out (Nat.le_of_not_lt hik)
   have x1 : ¬ ((i : Int) < (i : Int)) := Int.lt_irrefl _
   have HZ := qH (HH.out.next (by rw [← HKL.out]; exact Nat.le_refl _))
   clear hik
   go_wp2_with fail
   exact ⟨⟨t + 1, m, a, rfl, HTM.out, HZ.out, PI.out⟩, by simpa [intOf] using HTN.out⟩
 ·obtain rfl : t = m := Nat.le_antisymm HT.out (Nat.le_of_not_lt htm)
  have x1 : ¬ ((t : Int) < (t : Int)) := Int.lt_irrefl _
  clear htm
  go_wp2_with fail
  go_ret
  refine ⟨_, rfl, ⟨t, 0, t, a, Nat.le_refl _, HH.out, fun k => U (k + 4), ?_, fun k hk => ?_⟩, ?_⟩
  ·have h1 := HU.out.apt.own 0 (by omega)
   rw [HU.out.x0, prV_len, HU0.out] at h1
   exact ⟨Row.of_own h1, fun k hk => ⟨Nat.le_trans (Nat.le_of_lt HB1.out) (own6_lt h1 k hk).2, (own6_lt h1 k hk).1⟩⟩
  ·rw [← HN.out]
   exact ⟨Row.of_own (HU.out.part hk), fun q hq => ⟨Nat.le_trans (Nat.le_of_lt HB1.out) (own6_lt (HU.out.part hk) q hq).2, (own6_lt (HU.out.part hk) q hq).1⟩⟩
  ·exact B5.out.trans ((PT.out.off.below HDB.out PT.out.sz).mono (Nat.le_of_lt HB1.out))
def tabF (f : Nat → Nat) (j : Nat) : List UInt8 := (List.range 256).map fun b => if b < j then UInt8.ofNat (f b) else 0
theorem tabF_len (f : Nat → Nat) (j : Nat) : (tabF f j).length = 256 := by simp [tabF]
theorem tabF_zero (f : Nat → Nat) : tabF f 0 = ctab [] 0 := by
 unfold tabF ctab
 exact List.map_congr_left fun b _ => by rw [if_neg (Nat.not_lt_zero b), if_neg (Nat.not_lt_zero b)]
theorem tabF_at (f : Nat → Nat) {b j : Nat} (hb : b < 256) (hj : b < j) : (tabF f j)[b]? = some (UInt8.ofNat (f b)) := by
 unfold tabF
 simp [hb, hj]
theorem tabF_next (f : Nat → Nat) (j : Nat) (hj : j < 256) : (tabF f j).set j (UInt8.ofNat (f j)) = tabF f (j + 1) := by
 apply List.ext_getElem
 ·simp [tabF]
 ·intro i h1 h2
  rw [List.length_set, tabF_len] at h1
  rw [List.getElem_set]
  by_cases h : j = i
  ·subst h
   rw [if_pos rfl]
   simp [tabF]
  ·rw [if_neg h]
   simp only [tabF, List.getElem_map, List.getElem_range]
   by_cases h3 : i < j
   ·rw [if_pos h3, if_pos (by omega)]
   ·rw [if_neg h3, if_neg (by omega)]
theorem tabF_congr {f g : Nat → Nat} {j : Nat} (h : ∀ b, b < 256 → f b = g b) : tabF f j = tabF g j := by
 unfold tabF
 exact List.map_congr_left fun b hb => by rw [h b (List.mem_range.1 hb)]
theorem ctab_tabF (ps : List (Nat → Bool)) (j : Nat) : ctab ps j = tabF (clsOf ps) j := rfl
theorem dcl_putF {w : World} {g j : Nat} {f : Nat → Nat} {vn ve : Value} (h : Blk w g 28 (dcl (tabF f j) vn ve)) (hj : j < 256) (hc : f j < 256) :
  Blk (w.setCell ⟨g, j, none⟩ (.int .u8 (f j : Int))) g 28 (dcl (tabF f (j + 1)) vn ve) := by
 have := h.set j (bv (UInt8.ofNat (f j)))
 rw [dcl_setc (tabF_len _ _) hj, tabF_next f j hj, bv_ofNat hc] at this
 exact this
theorem clB_tabF {f : Nat → Nat} {R : List (List Int)} {E : List Bool} {b : Nat} (hb : b < 256) (hf : f b < 256) : clB ⟨tabF f 256, R, E⟩ b = f b := by
 unfold clB
 show ((tabF f 256).getD b 0).toNat = _
 rw [List.getD_eq_getElem?_getD, tabF_at f hb hb, Option.getD_some, toNat_ofNatQ hf]
/-! ### lists that are found with things twice -/
section
variable {α : Type} [DecidableEq α]
theorem extL_firstJ (ps : List (Nat → Bool)) (g : Nat → α) (L : List α) : ∀ j, j ≤ 256 → (∀ b c, b < 256 → c < 256 → alikeS ps b c = true → g b = g c) → extL L ((List.range j).map g) = extL L ((firstJ ps j).map g)
 | 0, _, _ => rfl
 | j + 1, hj, hg => by
  have ih := extL_firstJ ps g L j (by omega) hg
  rw [List.range_succ, List.map_append, extL_app, ih]
  rcases Nat.lt_or_ge (clsOf ps j) (firstJ ps j).length with h | h
  ·rw [firstJ_hit h]
   obtain ⟨c, hc⟩ : ∃ c, (firstJ ps j)[clsOf ps j]? = some c := ⟨_, List.getElem?_eq_getElem h⟩
   have hm := List.mem_of_getElem? hc
   have hal : alikeS ps j c = true := by
    obtain ⟨h1, h2⟩ := List.getElem?_eq_some_iff.1 hc
    rw [← h2]
    exact List.findIdx_getElem (p := fun f => alikeS ps j f) (w := h)
   have hcl := firstJ_lt ps j c hm
   refine extL_in ((extL_mem _ _).2 (.inr ?_))
   rw [hg j c (by omega) (by omega) hal]
   exact List.mem_map_of_mem hm
  ·have e : clsOf ps j = (firstJ ps j).length := Nat.le_antisymm (clsOf_le ps j) h
   rw [firstJ_new e, List.map_append, extL_app]
theorem extL_usU (cl : List UInt8) (h : UInt8 → α) (L : List α) : ∀ j, j ≤ cl.length → extL L ((List.range j).map fun b => h (cl.getD b 0)) = extL L ((usU cl j).map h)
 | 0, _ => rfl
 | j + 1, hj => by
  have ih := extL_usU cl h L j (by omega)
  obtain ⟨x, hx⟩ : ∃ x, cl[j]? = some x := ⟨_, List.getElem?_eq_getElem (by omega)⟩
  have hd : cl.getD j 0 = x := by rw [List.getD_eq_getElem?_getD, hx]; rfl
  rw [List.range_succ, List.map_append, extL_app, ih, usU_next hx, List.map_cons, List.map_nil, hd]
  by_cases hm : x ∈ usU cl j
  ·rw [extL_in hm]
   exact extL_in ((extL_mem _ _).2 (.inr (List.mem_map_of_mem hm)))
  ·rw [extL_new hm, List.map_append, extL_app]
   rfl
end
/-! ### one state a part, with all classes -/
noncomputable def fU (D : Dm) (q : Nat) : List Nat := (csN D).map fun c => parD D (stC D q c)
theorem fU_len (D : Dm) (q : Nat) : (fU D q).length = (usU D.cl 256).length := by simp [fU, csN]
theorem stD_clU (D : Dm) (q : Nat) {b : Nat} (hb : b < 256) : stD D q (UInt8.ofNat b) = stC D q (D.cl.getD b 0).toNat := by
 rw [stD_stC, toNat_ofNatQ hb]
set_option maxRecDepth 100000 in
theorem ext_fU {D : Dm} (hl : D.cl.length = 256) (q : Nat) (L : List Nat) : extL L (fU D q) = extL L ((List.range 256).map fun b => parD D (stD D q (UInt8.ofNat b))) := by
 have h := extL_usU D.cl (fun x => parD D (stC D q x.toNat)) L 256 (by rw [hl]; exact Nat.le_refl _)
 have e1 : (usU D.cl 256).map (fun x => parD D (stC D q x.toNat)) = fU D q := by
  unfold fU csN
  rw [List.map_map]
  rfl
 rw [e1] at h
 have e2 : ((List.range 256).map fun b => parD D (stD D q (UInt8.ofNat b))) = (List.range 256).map fun b => parD D (stC D q (D.cl.getD b 0).toNat) := List.map_congr_left fun b hb => by rw [stD_clU D q (List.mem_range.1 hb)]
 rw [e2]
 exact h.symm
theorem ext_fP {D : Dm} {q : Nat} (hq : ∃ u, accD D q = resW (accD D 0) u) (L : List Nat) : extL L (fP D q) = extL L ((List.range 256).map fun b => parD D (stD D q (UInt8.ofNat b))) := by
 obtain ⟨u, hu⟩ := hq
 refine (extL_firstJ (psL (accD D 0)) (fun b => parD D (stD D q (UInt8.ofNat b))) L 256 (Nat.le_refl _) fun b c hb hc h => parD_same ?_).symm
 have h1 := (psL_alike hb hc).1 h
 rw [← res_acc, ← res_acc, hu]
 exact res_alike h1 u
theorem QP_res (D : Dm) (r : Nat) : ∀ q ∈ QP D r, ∃ u, accD D q = resW (accD D 0) u := fun q hq => by
 have h1 : accD D q ∈ QL (accD D 0) r := by
  rw [QL_QP]
  exact List.mem_map_of_mem hq
 exact QL_res _ _ _ h1
theorem Lq_same {f g : Nat → List Nat} {x0 : Nat} (r : Nat) (h : ∀ i q, (Lq g x0 i)[i]? = some q → ∀ L, extL L (f q) = extL L (g q)) : Lq f x0 r = Lq g x0 r := by
 induction r with
 | zero => rfl
 | succ r ih =>
  rcases Nat.lt_or_ge r (Lq g x0 r).length with hlt | hge
  ·obtain ⟨q, hq⟩ : ∃ q, (Lq g x0 r)[r]? = some q := ⟨_, List.getElem?_eq_getElem hlt⟩
   rw [Lq_step (f := f) (by rw [ih]; exact hq), Lq_step hq, ih, h r q hq]
  ·rw [Lq_stop (f := f) (by rw [ih]; exact hge), Lq_stop hge, ih]
theorem Lq_fU {D : Dm} (hl : D.cl.length = 256) (r : Nat) : Lq (fU D) (parD D 0) r = QP D r :=
 Lq_same r fun i q hq L => by rw [ext_fU hl, ext_fP (QP_res D i q (List.mem_of_getElem? hq))]
def iU (D : Dm) (b : Nat) : Nat := ixOf (usU D.cl 256) (D.cl.getD b 0)
theorem iU_in {D : Dm} (hl : D.cl.length = 256) {b : Nat} (hb : b < 256) : D.cl.getD b 0 ∈ usU D.cl 256 := by
 rw [usU_mem, List.take_of_length_le (by rw [hl]; exact Nat.le_refl _), List.getD_eq_getElem?_getD, List.getElem?_eq_getElem (by rw [hl]; exact hb)]
 exact List.getElem_mem _
theorem iU_lt {D : Dm} (hl : D.cl.length = 256) {b : Nat} (hb : b < 256) : iU D b < (usU D.cl 256).length := idx_lt (iU_in hl hb)
theorem iU_256 {D : Dm} (hl : D.cl.length = 256) {b : Nat} (hb : b < 256) : iU D b < 256 := Nat.lt_of_lt_of_le (iU_lt hl hb) (usU_len _ _)
theorem fU_iU {D : Dm} (hl : D.cl.length = 256) (q : Nat) {b : Nat} (hb : b < 256) : (fU D q)[iU D b]? = some (parD D (stD D q (UInt8.ofNat b))) := by
 unfold fU csN
 rw [List.getElem?_map, List.getElem?_map]
 have h1 : (usU D.cl 256)[iU D b]? = some (D.cl.getD b 0) := idx_get (iU_in hl hb)
 rw [h1, stD_clU D q hb]
 rfl
noncomputable def numD (D : Dm) (n : Nat) : Dm := ⟨tabF (iU D) 256, rowsI (fU D) (QP D n) n, endsI (fun q => D.ends.getD q false) (QP D n) n⟩
def colR (E : Dm) (m c d : Nat) : Prop := ∀ s, s < m → stC E s c = stC E s d
theorem colR_alike {E : Dm} {m c d : Nat} (hc : c < 256) (hd : d < 256) : alikeS (psR (colR E m) 256) c d = true ↔ colR E m c d :=
 psR_alike hc hd (fun _ _ _ => rfl) (fun _ _ h s hs => (h s hs).symm) (fun _ _ _ h k s hs => (h s hs).trans (k s hs))
noncomputable def psC (E : Dm) (m : Nat) : List (Nat → Bool) := psR (colR E m) 256
noncomputable def mrgD (E : Dm) (K : Nat) : Dm := ⟨tabF (fun b => clsOf (psC E E.next.length) (clB E b)) 256, (List.range E.next.length).map fun s => (firstJ (psC E E.next.length) K).map fun c => (stC E s c : Int), E.ends⟩
section
variable {D : Dm} {n : Nat}
theorem numD_len (hn : (QP D n).length = n) : (numD D n).next.length = n := rowsI_len (Nat.le_of_eq hn.symm)
theorem numD_row (hn : (QP D n).length = n) {s q : Nat} (hs : (QP D n)[s]? = some q) : (numD D n).next[s]? = some (rowI (QP D n) (fU D q)) := by
 have hlt : s < n := by have := (List.getElem?_eq_some_iff.1 hs).1; omega
 show (((QP D n).take n).map fun x => rowI (QP D n) (fU D x))[s]? = _
 rw [List.getElem?_map, List.getElem?_take_of_lt hlt, hs]
 rfl
theorem numD_st (hl : D.cl.length = 256) (hn : (QP D n).length = n) {s q b : Nat} (hs : (QP D n)[s]? = some q) (hb : b < 256) : stC (numD D n) s (iU D b) = ixOf (QP D n) (parD D (stD D q (UInt8.ofNat b))) := by
 unfold stC
 rw [numD_row hn hs, Option.getD_some]
 have h1 : (rowI (QP D n) (fU D q))[iU D b]? = some ((ixOf (QP D n) (parD D (stD D q (UInt8.ofNat b))) : Nat) : Int) := by
  unfold rowI
  rw [List.getElem?_map, fU_iU hl q hb]
  rfl
 rw [List.getD_eq_getElem?_getD, h1]
 rfl
theorem QP_step (hl : D.cl.length = 256) (hn : (QP D n).length = n) {q b : Nat} (hq : q ∈ QP D n) (hb : b < 256) : parD D (stD D q (UInt8.ofNat b)) ∈ QP D n := by
 have hf : Fit (fU D) (parD D 0) n := by
  show (Lq (fU D) (parD D 0) n).length = n
  rw [Lq_fU hl]
  exact hn
 have h1 := fit_closed (f := fU D) (x0 := parD D 0) hf (x := q) (by rw [Lq_fU hl]; exact hq) _ (List.mem_of_getElem? (fU_iU hl q hb))
 rw [Lq_fU hl] at h1
 exact h1
theorem QP_all (hn : (QP D n).length = n) (u : List UInt8) : ∃ q ∈ QP D n, accD D q = resW (accD D 0) u := by
 have hf : FitL (accD D 0) n := by
  show (QL (accD D 0) n).length = n
  rw [QL_QP, List.length_map]
  exact hn
 have h1 := List.mem_of_getElem? (toD_canN hf u 0 _ (QL_zero _ n))
 rw [QL_QP] at h1
 obtain ⟨q, h2, h3⟩ := List.mem_map.1 h1
 exact ⟨q, h2, h3⟩
theorem colR_alL (hl : D.cl.length = 256) (hn : (QP D n).length = n) {b c : Nat} (hb : b < 256) (hc : c < 256) : colR (numD D n) n (iU D b) (iU D c) ↔ alL (accD D 0) b c := by
 constructor
 ·intro h u w
  obtain ⟨q, hq, hu⟩ := QP_all hn u
  obtain ⟨s, hs, he⟩ := List.getElem_of_mem hq
  have hs2 : (QP D n)[s]? = some q := by rw [List.getElem?_eq_getElem hs, he]
  have h1 := h s (by rw [← hn]; exact hs)
  rw [numD_st hl hn hs2 hb, numD_st hl hn hs2 hc] at h1
  have h2 := parD_iff.1 (idx_inj (QP_step hl hn hq hb) (QP_step hl hn hq hc) h1)
  rw [← res_acc, ← res_acc, hu] at h2
  exact congrFun h2 w
 ·intro h s hs
  obtain ⟨q, hq⟩ : ∃ q, (QP D n)[s]? = some q := ⟨_, List.getElem?_eq_getElem (by rw [hn]; exact hs)⟩
  rw [numD_st hl hn hq hb, numD_st hl hn hq hc]
  obtain ⟨u, hu⟩ := QP_res D n q (List.mem_of_getElem? hq)
  have e : parD D (stD D q (UInt8.ofNat b)) = parD D (stD D q (UInt8.ofNat c)) := parD_same (by
   rw [← res_acc, ← res_acc, hu]
   exact res_alike h u)
  rw [e]
theorem usU_pre {cl : List UInt8} (j : Nat) : ∀ d, ∃ M, usU cl (j + d) = usU cl j ++ M
 | 0 => ⟨[], by simp⟩
 | d + 1 => by
  obtain ⟨M, hM⟩ := usU_pre (cl := cl) j d
  by_cases hlt : j + d < cl.length
  ·have h1 : usU cl (j + d + 1) = extL (usU cl (j + d)) [cl[j + d]] := usU_next (List.getElem?_eq_getElem hlt)
   obtain ⟨M2, h2⟩ := extL_pre [cl[j + d]] (usU cl (j + d))
   exact ⟨M ++ M2, by rw [show j + (d + 1) = j + d + 1 by omega, h1, h2, hM, List.append_assoc]⟩
  ·refine ⟨M, ?_⟩
   rw [← hM]
   unfold usU
   rw [List.take_of_length_le (by omega), List.take_of_length_le (by omega)]
theorem iU_pre {cl : List UInt8} {j : Nat} (hj : j ≤ 256) {x : UInt8} (h : x ∈ usU cl j) : ixOf (usU cl 256) x = ixOf (usU cl j) x := by
 obtain ⟨M, hM⟩ := usU_pre (cl := cl) j (256 - j)
 rw [show j + (256 - j) = 256 by omega] at hM
 rw [hM]
 exact idx_app h
theorem kept_is (hl : D.cl.length = 256) (hn : (QP D n).length = n) : ∀ j, j ≤ 256 → firstJ (psC (numD D n) n) (usU D.cl j).length = (firstJ (psL (accD D 0)) j).map (iU D)
 | 0, _ => rfl
 | j + 1, hj => by
  have ih := kept_is hl hn j (by omega)
  obtain ⟨x, hx⟩ : ∃ x, D.cl[j]? = some x := ⟨_, List.getElem?_eq_getElem (by rw [hl]; omega)⟩
  have hxd : D.cl.getD j 0 = x := by rw [List.getD_eq_getElem?_getD, hx]; rfl
  rw [usU_next hx]
  obtain ⟨ps, hps⟩ : ∃ ps, ps = psL (accD D 0) := ⟨_, rfl⟩
  have al : ∀ {b c : Nat}, b < 256 → c < 256 → (alikeS ps b c = true ↔ alikeS (psC (numD D n) n) (iU D b) (iU D c) = true) := fun {b c} hb hc => by
   rw [hps, psL_alike hb hc]
   unfold psC
   rw [colR_alike (iU_256 hl hb) (iU_256 hl hc), colR_alL hl hn hb hc]
  rw [← hps] at ih ⊢
  by_cases hm : x ∈ usU D.cl j
  ·rw [extL_in hm, ih]
   congr 1
   -- some byte ahead has this class
   rw [usU_mem] at hm
   obtain ⟨b, hb, he⟩ := List.getElem_of_mem hm
   rw [List.length_take] at hb
   have hbj : b < j := by omega
   have hbx : D.cl.getD b 0 = x := by
    rw [List.getElem_take] at he
    rw [List.getD_eq_getElem?_getD, List.getElem?_eq_getElem (by omega), Option.getD_some, he]
   have h1 : alikeS ps b j = true := (al (by omega) (by omega)).2 (by unfold iU; rw [hbx, hxd]; exact alikeS_refl _ _)
   have h2 : clsOf ps j < (firstJ ps j).length := by
    refine Nat.lt_of_not_le fun hge => ?_
    have e : clsOf ps j = (firstJ ps j).length := Nat.le_antisymm (clsOf_le ps j) hge
    obtain ⟨_, h3, h4⟩ := firstJ_facts ps (j + 1)
    have h5 := h3 j (by rw [firstJ_new e]; simp) b hbj
    rw [alikeS_symm h1] at h5
    cases h5
   exact (firstJ_hit h2).symm
  ·have hij : iU D j = (usU D.cl j).length := by
    unfold iU
    rw [hxd, iU_pre (j := j + 1) hj (by rw [usU_next hx, extL_new hm]; simp), usU_next hx, extL_new hm, idx_new hm]
   rw [extL_new hm, List.length_append, List.length_singleton]
   have hlen : (firstJ (psC (numD D n) n) (usU D.cl j).length).length = (firstJ ps j).length := by rw [ih, List.length_map]
   have hfa : ∀ f ∈ firstJ ps j, f < j := firstJ_lt ps j
   -- hit here just if hit there
   have hit : (firstJ (psC (numD D n) n) (usU D.cl j).length).any (fun f => alikeS (psC (numD D n) n) (usU D.cl j).length f) = (firstJ ps j).any (fun f => alikeS ps j f) := by
    rw [ih, List.any_map, Bool.eq_iff_iff, List.any_eq_true, List.any_eq_true]
    constructor
    ·rintro ⟨f, hf, h⟩
     exact ⟨f, hf, (al (by omega) (by have := hfa f hf; omega)).2 (by rw [hij]; exact h)⟩
    ·rintro ⟨f, hf, h⟩
     have h9 := (al (by omega) (by have := hfa f hf; omega)).1 h
     rw [hij] at h9
     exact ⟨f, hf, h9⟩
   show (if (firstJ (psC (numD D n) n) (usU D.cl j).length).any (fun f => alikeS (psC (numD D n) n) (usU D.cl j).length f) then _ else _) = _
   rw [hit]
   show _ = (if (firstJ ps j).any (fun f => alikeS ps j f) then firstJ ps j else firstJ ps j ++ [j]).map (iU D)
   by_cases h : (firstJ ps j).any (fun f => alikeS ps j f) = true
   ·rw [if_pos h, if_pos h, ih]
   ·rw [if_neg h, if_neg h, List.map_append, ih, List.map_cons, List.map_nil, hij]
theorem kept_cls {ps pc : List (Nat → Bool)} {N K : Nat} {φ : Nat → Nat} (hk : firstJ pc K = (firstJ ps N).map φ) (hφ : ∀ b, b < N → φ b < K) (al : ∀ b c, b < N → c < N → alikeS ps b c = true → alikeS pc (φ b) (φ c) = true) {b : Nat} (hb : b < N) : clsOf pc (φ b) = clsOf ps b := by
 have hlt : clsOf ps b < (firstJ ps N).length := clsOf_ltN ps hb
 have hlt2 : clsOf ps b < (firstJ pc K).length := by rw [hk, List.length_map]; exact hlt
 refine (clsOf_is pc K (φ b) (hφ b hb) _ hlt2).2 ?_
 have h2 := (clsOf_is ps N b hb _ hlt).1 rfl
 have h3 : (firstJ pc K)[clsOf ps b]'hlt2 = φ ((firstJ ps N)[clsOf ps b]'hlt) := by
  simp only [hk, List.getElem_map]
 rw [h3]
 exact al _ b (firstJ_lt ps N _ (List.getElem_mem hlt)) hb h2
theorem rows_num (hl : D.cl.length = 256) (hn : (QP D n).length = n) {FB : List Nat} (hF : ∀ b ∈ FB, b < 256) (hf : ∀ q, fP D q = FB.map fun b => parD D (stD D q (UInt8.ofNat b))) :
  ((List.range n).map fun s => (FB.map (iU D)).map fun c => (stC (numD D n) s c : Int)) = rowsI (fP D) (QP D n) n := by
 apply List.ext_getElem?
 intro s
 by_cases hs : s < n
 ·obtain ⟨q, hq⟩ : ∃ q, (QP D n)[s]? = some q := ⟨_, List.getElem?_eq_getElem (by omega)⟩
  unfold rowsI
  rw [List.getElem?_map, List.getElem?_range hs, Option.map_some, List.getElem?_map, List.getElem?_take_of_lt hs, hq, Option.map_some, List.map_map, hf]
  unfold rowI
  rw [List.map_map]
  refine congrArg some (List.map_congr_left fun b hb => ?_)
  show (stC (numD D n) s (iU D b) : Int) = ((ixOf (QP D n) (parD D (stD D q (UInt8.ofNat b))) : Nat) : Int)
  rw [numD_st hl hn hq (hF b hb)]
 ·rw [List.getElem?_eq_none (by simp; omega), List.getElem?_eq_none (by rw [rowsI_len (Nat.le_of_eq hn.symm)]; omega)]
theorem tab_num (hl : D.cl.length = 256) (hn : (QP D n).length = n) : tabF (fun b => clsOf (psC (numD D n) n) (clB (numD D n) b)) 256 = ctab (psL (accD D 0)) 256 := by
 rw [ctab_tabF]
 refine tabF_congr fun b hb => ?_
 have e : clB (numD D n) b = iU D b := clB_tabF hb (iU_256 hl hb)
 rw [e]
 exact kept_cls (kept_is hl hn 256 (Nat.le_refl _)) (fun b hb => iU_lt hl hb) (fun b c hb hc h => by
  unfold psC
  rw [colR_alike (iU_256 hl hb) (iU_256 hl hc), colR_alL hl hn hb hc]
  exact (psL_alike hb hc).1 h) hb
theorem mrg_num (hl : D.cl.length = 256) (hn : (QP D n).length = n) : mrgD (numD D n) (usU D.cl 256).length = lstD D := by
 rw [QP_done hn]
 have hk := kept_is hl hn 256 (Nat.le_refl _)
 have h1 := tab_num hl hn
 have h2 := rows_num hl hn (FB := fbL (accD D 0)) (fun b hb => firstJ_lt _ _ b hb) (fun q => rfl)
 unfold mrgD
 rw [numD_len hn, h1, hk]
 show Dm.mk _ ((List.range n).map fun s => ((fbL (accD D 0)).map (iU D)).map fun c => (stC (numD D n) s c : Int)) _ = _
 rw [h2]
 rfl
end
set_option maxHeartbeats 8000000 in
set_option maxRecDepth 1000000 in
theorem mul64_any (n : Nat) (w : World) (hn : n ≤ 2000) :
  Calls Try.prog 43 #[.int .u64 1, .int .u64 (n : Int)] w fun e w' => e = .returned (.tuple #[.int .u64 0, .int .u64 (n : Int)]) ∧ Below w.heap.size w w' := by
 have m1 : bits BinOp.and IntKind.u64 1 4294967295 = 1 := by decide
 have mn : bits BinOp.and IntKind.u64 (n : Int) 4294967295 = (n : Int) := by
  have h := bits_and_u64_nat n 4294967295 (by omega) (by omega)
  have e : n &&& 4294967295 = n % 4294967296 := Nat.and_two_pow_sub_one_eq_mod n 32
  rw [e, Nat.mod_eq_of_lt (by omega)] at h
  exact h
 have m0 : bits BinOp.and IntKind.u64 0 4294967295 = 0 := by decide
 have dn : (n : Int) / 4294967296 = 0 := by omega
 have d0 : (0 : Int) / 4294967296 = 0 := by decide
 have wn : IntKind.u64.wrap (n : Int) = (n : Int) := by rw [IntKind.wrap_u64]; omega
 have w0 : IntKind.u64.wrap 0 = 0 := by decide
 clear hn
 go_enter Try.func43, Try.ntmps43
 go_wp2_with fail
 go_ret2
 exact ⟨rfl, Below.refl _ _⟩
set_option maxHeartbeats 8000000 in
set_option maxRecDepth 1000000 in
theorem mul_any (n : Nat) (w : World) (hn : n ≤ 2000) :
  Calls Try.prog 40 #[.int .u64 1, .int .u64 (n : Int)] w fun e w' => e = .returned (.tuple #[.int .u64 0, .int .u64 (n : Int)]) ∧ Below w.heap.size w w' := by
 have HN := qH hn
 clear hn
 go_enter Try.func40, Try.ntmps40
 go_wp2_with fail
 refine (mul64_any n w HN.out).mono ?_
 rintro e w1 ⟨rfl, hb⟩
 have B1 := qH hb
 clear hb
 go_wp2_with fail
 go_ret2
 exact ⟨rfl, B1.out⟩
def upR (n j : Nat) (x : Int) : List Value := List.replicate j (.int .i64 x) ++ List.replicate (n - j) (.int .i64 0)
theorem upR_len {n j : Nat} (h : j ≤ n) (x : Int) : (upR n j x).length = n := by
 unfold upR
 rw [List.length_append, List.length_replicate, List.length_replicate]
 omega
theorem upR_zero (n : Nat) (x : Int) : upR n 0 x = List.replicate n (.int .i64 0) := by simp [upR]
theorem upR_all (n : Nat) (x : Int) : upR n n x = List.replicate n (.int .i64 x) := by simp [upR]
theorem upR_get {n j i : Nat} (x : Int) (h : i < j) : (upR n j x)[i]? = some (.int .i64 x) := by
 unfold upR
 rw [List.getElem?_append_left (by rw [List.length_replicate]; exact h)]
 simp [h]
theorem upR_put {n j k : Nat} (x : Int) (h : j + k ≤ n) : (upR n j x).take j ++ List.replicate k (Value.int .i64 x) ++ (upR n j x).drop (j + k) = upR n (j + k) x := by
 unfold upR
 rw [List.take_append_of_le_length (by rw [List.length_replicate]; exact Nat.le_refl _), List.take_of_length_le (by rw [List.length_replicate]; exact Nat.le_refl _), List.drop_append, List.length_replicate, show j + k - j = k by omega, List.drop_of_length_le (by rw [List.length_replicate]; omega), List.nil_append, List.drop_replicate, List.replicate_append_replicate, show n - j - k = n - (j + k) by omega]
theorem inf_intS : (Try.prog.info? 3).map (·.size) = some 1 := by kernel_rfl
theorem lk_cp {o : Oper} {a : Act} {w : World} {K : Act → World → Prop} {Q : Exit → Act → World → Prop} (d s : Operand) (ho : o.op = .call { callee := .builtin .copy, args := #[d, s], argTypes := #[38, 38] }) (g n j k cd sl cs : Nat) (A : Addr) (x : Int)
  (hd : a.eval d = .slice (some ⟨g, j, none⟩) (n - j) cd) (hs : a.eval s = .slice (some A) sl cs) (hk : k = Nat.min sl (n - j)) (hsrc : ∀ i, i < k → w.cell? (A.add i) = some (.int .i64 x)) (hb : Blk w g 3 (upR n j x)) (hj : j ≤ n)
  (h : ∀ w', Blk w' g 3 (upR n (j + k) x) → Below g w w' → K (a.put o.dst (.int .i64 (k : Int))) w') : o.wp Try.prog a w K Q := by
 have hk2 : j + k ≤ n := by
  have h1 : k ≤ n - j := by rw [hk]; exact Nat.min_le_right _ _
  omega
 have hrun := run_copy_row (P := Try.prog) w 38 38 o.type 3 g j (n - j) cd A sl cs (upR n j x).toArray 3 (List.replicate k (.int .i64 x)) Try.underlying38 inf_intS hb (by rw [List.length_replicate]; exact hk) (fun i v hv => by
  obtain ⟨h1, h2⟩ := List.getElem?_eq_some_iff.1 hv
  rw [List.length_replicate] at h1
  rw [List.getElem_replicate] at h2
  rw [← h2]
  exact hsrc i h1) (by rw [List.length_replicate, List.size_toArray, upR_len hj]; exact hk2) (fun u hu => by
  rw [List.eq_of_mem_replicate hu]
  rfl)
 unfold Oper.wp execOp
 simp only [ho, resolve, invoke, builtin, Sem.run_bind, Sem.run_pure, Result.andThen_ok, List.map_toArray, List.map_cons, List.map_nil, hd, hs, hrun]
 rw [List.length_replicate]
 refine h _ ?_ (below_setRow (Below.refl _ _) (Nat.le_refl g) _)
 have h9 := setRow_heap w g (upR n j x).toArray ((upR n j x).take j ++ List.replicate k (Value.int .i64 x) ++ (upR n j x).drop (j + k)).toArray 3 (0, 0) hb
 rw [upR_put x hk2] at h9
 unfold Blk
 have e := upR_put x hk2
 first
  | exact h9
  | (rw [e]; exact h9)
  | (simp only [List.toArray_toList]; rw [e]; exact h9)
theorem lk_sl1 {ev : Operand → Value} {o : Oper} (x i : Operand) (ho : o.op = .slice 38 x (some i) none none) {g n j : Nat} (hx : ev x = .slice (some ⟨g, 0, none⟩) n n) (hi : ev i = .int .i64 (j : Int)) (hj : j < n) (W : World) : (execOp ev o).run Try.prog W = .ok (.value (.slice (some ⟨g, j, none⟩) (n - j) (n - j))) W := by
 have h1 : ¬ (j = n) := by omega
 have h1' : ¬ (n = j) := by omega
 have h2 : j ≤ n := by omega
 have h3 : (j : Int) ≤ (n : Int) := by omega
 simp only [execOp, ho, hx, hi]
 go_simp
theorem lk_sl2 {ev : Operand → Value} {o : Oper} (x i : Operand) (ho : o.op = .slice 38 x none (some i) none) {g n j : Nat} (hx : ev x = .slice (some ⟨g, 0, none⟩) n n) (hi : ev i = .int .i64 (j : Int)) (hj : j < n) (hn : 0 < n) (W : World) : (execOp ev o).run Try.prog W = .ok (.value (.slice (some ⟨g, 0, none⟩) j n)) W := by
 have h1 : ¬ (n = 0) := by omega
 have h2 : j ≤ n := by omega
 have h3 : (j : Int) ≤ (n : Int) := by omega
 simp only [execOp, ho, hx, hi]
 go_simp
theorem rp_k {j n : Nat} (h1 : 1 ≤ j) (h : j < n) : 0 < Nat.min j (n - j) ∧ j + Nat.min j (n - j) ≤ n ∧ n - (j + Nat.min j (n - j)) < n - j := by
 have : 0 < Nat.min j (n - j) := Nat.lt_min.2 ⟨h1, by omega⟩
 have := Nat.min_le_right j (n - j)
 unfold Nat.min at *
 omega
theorem rp_w {j k n : Nat} (h : j + k ≤ n) (hn : n ≤ 2000) : wrap64 ((j : Int) + (k : Int)) = ((j + k : Nat) : Int) := by
 rw [IntWalk.wrap64_in _ (by omega)]
 omega
theorem rp_w' {j k n : Nat} (h : j + k ≤ n) (hn : n ≤ 2000) : IntKind.i64.wrap ((j : Int) + (k : Int)) = ((j + k : Nat) : Int) := by
 rw [IntWalk.i64_in _ (by omega)]
 omega
theorem lk_addN {ev : Operand → Value} {o : Oper} (x y : Operand) {r : TypeId} (ho : o.op = .binOp .add 3 x y r) {p q : Nat} (hx : ev x = .int .i64 (p : Int)) (hy : ev y = .int .i64 (q : Int)) {n : Nat} (h : p + q ≤ n) (hn : n ≤ 2000) (W : World) : (execOp ev o).run Try.prog W = .ok (.value (.int .i64 ((p + q : Nat) : Int))) W := by
 have e3 := rp_w h hn
 have e4 := rp_w' h hn
 simp only [execOp, ho, hx, hy]
 go_simp
theorem u64_n {n : Nat} (h : n ≤ 2000) : IntKind.u64.wrap (n : Int) = (n : Int) := by rw [IntKind.wrap_u64]; omega
theorem i64_n {n : Nat} (h : n ≤ 2000) : IntKind.i64.wrap (n : Int) = (n : Int) := by rw [IntWalk.i64_in _ (by omega)]
theorem u64_1 : IntKind.u64.wrap 1 = 1 := by decide
set_option maxHeartbeats 8000000 in
set_option maxRecDepth 1000000 in
theorem repeat_any (x : Int) (n : Nat) (v : Value) (w : World) (hv : Row w v (nums .i64 [x])) (h1 : 1 ≤ n) (h2 : n ≤ 2000) :
  Calls Try.prog 30 #[v, .int .i64 (n : Int)] w fun e w' => ∃ g, e = .returned (.slice (some ⟨g, 0, none⟩) n n) ∧ Blk w' g 3 (List.replicate n (.int .i64 x)) ∧ w.heap.size ≤ g ∧ Below w.heap.size w w' := by
 have HV := qH hv
 obtain ⟨A, c, rfl, _⟩ := hv
 have HN1 := qH h1
 have HN2 := qH h2
 obtain ⟨i1, hi1, hy0, hy1, hy2⟩ := infoP inf_int
 have HYI := qH (show i1.bytes * n ≤ 281474976710656 by have := HN2.out; rw [hy2]; omega)
 have HN3 := qH (show n ≤ 9223372036854775807 by have := HN2.out; omega)
 have x0 : ¬ ((n : Int) < 0) := by omega
 have un := u64_n h2
 have u1 := u64_1
 have cn := i64_n h2
 have d0 : decide ((9223372036854775807 : Int) < (n : Int)) = false := decide_eq_false (by omega)
 have d1 : ¬ ((9223372036854775807 : Int) < (n : Int)) := by omega
 clear h1 h2
 go_enter Try.func30, Try.ntmps30
 go_wp2_with fail
 refine (mul_any n w HN2.out).mono ?_
 rintro e w1 ⟨rfl, hb⟩
 have B1 := qH hb
 have R1 := qH (HV.out.below hb)
 clear hb
 obtain ⟨bx, ox, rfl, hbx, hcx⟩ := R1.out.at_ (by rw [nums_length]; exact Nat.zero_lt_one)
 have HBX := qH hbx
 have HCX := qH (show w1.cell? ⟨bx, ox, none⟩ = some (.int .i64 x) from hcx 0 _ rfl)
 obtain ⟨g, hg⟩ : ∃ g, g = w1.heap.size := ⟨_, rfl⟩
 have HG := qH hg
 have HMIN := qH (show 1 = Nat.min 1 (n - 0) from (Nat.min_eq_left (by have := HN1.out; omega)).symm)
 clear hbx hcx hg
 go_wp2_with (first
  | ((with_reducible refine atDst 30 ?_); refine wpList_mk _ rfl _ _ 38 rfl 3 i1 (.int .i64 0) Try.underlying38 hi1 hy0 hy1 rfl n _ _ _ _ rfl rfl rfl rfl HYI.out HN3.out ?_; intro w2 hk hb hs; have T2 := qH (show Blk w2 g 3 (upR n 0 x) by (rw [upR_zero, HG.out]; exact hk)); have B2 := qH (show Below g w1 w2 by (rw [HG.out]; exact hb)); have HCX2 := qH ((hb.cell (p := ⟨bx, ox, none⟩) HBX.out).trans HCX.out); rw [← HG.out]; clear hk hb hs; (try simp only [Act.put, qA, qB, qC]))
  | ((with_reducible refine atDst 33 ?_); refine wpList_plain rfl fun K hK => lk_cp (.tmp 31) (.tmp 32) rfl g n 0 1 n 1 c ⟨bx, ox, none⟩ x rfl rfl HMIN.out (fun i hi => by (obtain rfl : i = 0 := by omega); (rw [Addr.add_lit]); exact HCX2.out) T2.out (Nat.zero_le _) ?_; intro w3 hk hb; have T3 := qH (show Blk w3 g 3 (upR n 1 x) from hk); have B3 := qH (B2.out.trans hb); clear hk hb; refine hK _ _ ?_; clear hK K; (try simp only [Act.put, qA, qB, qC])))
 go_loopw [8] (fun jv wl => ∃ j : Nat, 1 ≤ j ∧ j ≤ n ∧ jv = .int .i64 (j : Int) ∧ Blk wl g 3 (upR n j x) ∧ Below g w1 wl) (fun jv _ => n - (intOf jv).toNat)
 case atStart => exact ⟨1, Nat.le_refl _, HN1.out, rfl, T3.out, B3.out⟩
 clear T3 B3 T2 B2
 obtain ⟨j, hj1, hjn, rfl, hk, hb⟩ := hrel
 obtain ⟨wl, hwl⟩ : ∃ v : World, v = wr := ⟨_, rfl⟩
 subst hwl
 have HJ1 := qH hj1
 have HJN := qH hjn
 have KL := qH hk
 have BL := qH hb
 clear hj1 hjn hk hb
 by_cases hlt : j < n
 ·have x1 : (j : Int) < (n : Int) := Int.ofNat_lt.2 hlt
  have HLT := qH hlt
  obtain ⟨k, hk⟩ : ∃ k, k = Nat.min j (n - j) := ⟨_, rfl⟩
  have HK := qH hk
  obtain ⟨q1, q2, q3⟩ := rp_k HJ1.out hlt
  rw [← hk] at q1 q2 q3
  have HQ2 := qH q2
  have HQ3 := qH q3
  clear hlt hk q1 q2 q3
  go_wp2_with fail
  refine mc_start (fun V => Below g w1 V) (fun _ => True) 10 (by kernel_rfl) (fun wd hwd => ?_)
  have hX : Below g w1 wd := by rw [hwd]; exact BL.out.drew
  have KD := qH (show Blk wd g 3 (upR n j x) by rw [hwd]; exact KL.out)
  clear hwd
  refine mc_take (i := 0) (oi := ⟨some 38, _, _, _, _, _⟩) (v := ?_) rfl (by kernel_rfl) (by kernel_rfl) (by kernel_rfl) (fun _ _ _ h => h) rfl hX ?_ ?_; rotate_left; (intro W hW; go_simp; try with_reducible rfl); simp only [Act.put, qA, qB, qC]
  refine mc_take (i := 1) (oi := ⟨some 39, _, _, _, _, _⟩) (v := ?_) rfl (by kernel_rfl) (by kernel_rfl) (by kernel_rfl) (fun _ _ _ h => h) rfl hX ?_ ?_; rotate_left; (intro W hW; go_simp; try with_reducible rfl); simp only [Act.put, qA, qB, qC]
  refine mc_take (i := 2) (oi := ⟨some 40, _, _, _, _, _⟩) (v := ?_) rfl (by kernel_rfl) (by kernel_rfl) (by kernel_rfl) (fun _ _ _ h => h) rfl hX ?_ ?_; rotate_left; (intro W hW; go_simp; try with_reducible rfl); simp only [Act.put, qA, qB, qC]
  refine mc_take (i := 3) (oi := ⟨some 41, _, _, _, _, _⟩) (v := .slice (some ⟨g, j, none⟩) (n - j) (n - j)) rfl (by kernel_rfl) (by kernel_rfl) (by kernel_rfl) (fun _ _ _ h => h) rfl hX (fun W _ => lk_sl1 (.tmp 39) (.tmp 40) rfl rfl rfl HLT.out W) ?_; simp only [Act.put, qA, qB, qC]
  refine mc_take (i := 4) (oi := ⟨some 42, _, _, _, _, _⟩) (v := ?_) rfl (by kernel_rfl) (by kernel_rfl) (by kernel_rfl) (fun _ _ _ h => h) rfl hX ?_ ?_; rotate_left; (intro W hW; go_simp; try with_reducible rfl); simp only [Act.put, qA, qB, qC]
  refine mc_take (i := 5) (oi := ⟨some 43, _, _, _, _, _⟩) (v := ?_) rfl (by kernel_rfl) (by kernel_rfl) (by kernel_rfl) (fun _ _ _ h => h) rfl hX ?_ ?_; rotate_left; (intro W hW; go_simp; try with_reducible rfl); simp only [Act.put, qA, qB, qC]
  refine mc_take (i := 6) (oi := ⟨some 44, _, _, _, _, _⟩) (v := .slice (some ⟨g, 0, none⟩) j n) rfl (by kernel_rfl) (by kernel_rfl) (by kernel_rfl) (fun _ _ _ h => h) rfl hX (fun W _ => lk_sl2 (.tmp 42) (.tmp 43) rfl rfl rfl HLT.out (Nat.lt_of_le_of_lt (Nat.zero_le _) HLT.out) W) ?_; simp only [Act.put, qA, qB, qC]
  refine mc_actB (i := 7) (o := ⟨some 45, _, _, _, _, _⟩) rfl (by kernel_rfl) rfl (fun K hK => ?_)
  refine lk_cp (.tmp 41) (.tmp 44) rfl g n j k (n - j) j n ⟨g, 0, none⟩ x rfl rfl HK.out (fun i hi => by
   rw [Addr.add_lit, Nat.zero_add, KD.out.cell]
   exact upR_get x (by
    have : k ≤ j := by rw [HK.out]; exact Nat.min_le_left _ _
    omega)) KD.out HJN.out ?_
  intro w3 hk hb
  have KZ := qH hk
  have hX2 := hX.trans hb
  refine hK _ _ hX2 trivial ?_
  clear hK K hX hk hb
  (try simp only [Act.put, qA, qB, qC])
  have hX := hX2
  clear hX2
  refine mc_take (i := 8) (oi := ⟨some 46, _, _, _, _, _⟩) (v := .int .i64 ((j + k : Nat) : Int)) rfl (by kernel_rfl) (by kernel_rfl) (by kernel_rfl) (fun _ _ _ h => h) rfl hX (fun W _ => lk_addN (.tmp 38) (.tmp 45) rfl rfl rfl HQ2.out HN2.out W) ?_; simp only [Act.put, qA, qB, qC]
  refine mc_take (i := 9) (oi := ⟨some 8, _, _, _, _, _⟩) (v := ?_) rfl (by kernel_rfl) (by kernel_rfl) (by kernel_rfl) (fun _ _ _ h => h) rfl hX ?_ ?_; rotate_left; (intro W hW; go_simp; try with_reducible rfl); simp only [Act.put, qA, qB, qC]
  refine wpAnyC_done (by kernel_rfl) ?_ _
  have BZ := qH hX
  clear hX
  go_wp2_with fail
  exact ⟨⟨j + k, Nat.le_trans HJ1.out (Nat.le_add_right _ _), HQ2.out, rfl, KZ.out, BZ.out⟩, by show n - (((j + k : Nat) : Int)).toNat < n - ((j : Int)).toNat; rw [Int.toNat_natCast, Int.toNat_natCast]; exact HQ3.out⟩
 ·obtain rfl : j = n := Nat.le_antisymm HJN.out (Nat.le_of_not_lt hlt)
  have x1 : ¬ ((j : Int) < (j : Int)) := Int.lt_irrefl _
  clear hlt
  go_wp2_with fail
  go_ret
  have hg : w.heap.size ≤ g := by rw [HG.out]; exact B1.out.size
  exact ⟨g, rfl, by rw [← upR_all]; exact KL.out, hg, B1.out.trans (BL.out.mono hg)⟩
end Go.Proofs.Ytiehefnbdijiaaa
