/-
  Texts of this proof, put together: TbG, TbH, TbI. No statement is proved here.
-/
import Derived.Test.YteadghoojeehlaaGreatDoorXBE
import Derived.Test.YteadghoojeehlaaGreatDoorXBH
namespace Go.Proofs.YteadghoojeehlaaGreatDoor
open Go.RowKit
set_option linter.unusedSimpArgs false
set_option linter.unusedVariables false
def BuildC (x : T) : Prop := ∀ (B g : Nat) (D : Nat → Prop) (S : List St) (cs : List Value) (w : World), BldV w B g D S → RxV B w cs x → plainT x = true → x.nodes ≤ 400 → S.length + szT x ≤ 2000 →
 Calls Tryz.prog 34 #[.pointer (some ⟨g, 0, none⟩), .agg cs.toArray] w fun e w' => e = .returned (.tuple #[.int .i64 (S.length : Int), .int .i64 ((S.length + 1 : Nat) : Int)]) ∧ BPost w B g D (bldT x S) w'
theorem bldT_len (x : T) (S : List St) : (bldT x S).length = S.length + szT x := by rw [bldT_frag, List.length_append, fragT_len]
theorem bldT_old {x : T} {S : List St} {i : Nat} {s : St} (h : S[i]? = some s) : (bldT x S)[i]? = some s := by
 rw [bldT_frag, List.getElem?_append_left (List.getElem?_eq_some_iff.1 h).1]
 exact h
theorem bldT_out (x : T) (S : List St) : (bldT x S)[S.length + 1]? = some (stF []) := by
 obtain ⟨s, r, he⟩ := fragT_ends x S.length
 rw [bldT_frag, he, List.getElem?_append_right (by omega), show S.length + 1 - S.length = 1 from by omega]
 rfl
theorem linkS_other {S : List St} {f t i : Nat} (h : i ≠ f) : (linkS S f t)[i]? = S[i]? := by
 unfold linkS
 rw [List.getElem?_modify]
 have : ¬ f = i := fun e => h e.symm
 simp [this]
theorem linkS_at {S : List St} {f t : Nat} {s : St} (h : S[f]? = some s) : (linkS S f t)[f]? = some { s with free := s.free ++ [(t : Int)] } := by
 unfold linkS
 rw [List.getElem?_modify, h]
 simp
theorem BPost.rx {w w' : World} {B g : Nat} {D : Nat → Prop} {S : List St} {cs : List Value} {t : T} (p : BPost w B g D S w') (hD : ∀ k, D k → B ≤ k) (h : RxV B w cs t) : RxV B w' cs t := h.stay (p.off.below hD p.sz)
set_option maxHeartbeats 4000000 in
set_option maxRecDepth 1000000 in
theorem bAfter_any {x : T} (hx : BuildC x) {B g : Nat} {D : Nat → Prop} {S : List St} {s : St} (at' : Nat) (cs : List Value) (w : World) (h : BldV w B g D S) (hr : RxV B w cs x) (hp : plainT x = true) (hn : x.nodes ≤ 400) (hl : S.length + szT x ≤ 2000) (hs : S[at']? = some s) (hfr : s.free.length ≤ 8) :
  Calls Tryz.prog 58 #[.pointer (some ⟨g, 0, none⟩), .int .i64 (at' : Int), .agg cs.toArray] w fun e w' => e = .returned (.int .i64 ((S.length + 1 : Nat) : Int)) ∧ BPost w B g D (linkS (bldT x S) at' S.length) w' := by
 have HX := qH hx
 have H := qH h
 have HR := qH hr
 have HC6 := qH hr.length
 have HP := qH hp
 have HN := qH hn
 have HL := qH hl
 have HS := qH hs
 have HF := qH hfr
 obtain ⟨n1, hn1⟩ : ∃ m, m = S.length + 1 := ⟨_, rfl⟩
 have HN1 := qH hn1
 rw [← hn1]
 clear hx h hr hp hn hl hs hfr hn1
 go_enter Tryz.func58, Tryz.ntmps58
 go_wp2_with (first
  | ((with_reducible refine atDst 5 ?_); refine wpList_box rfl 46 _ rfl cs rfl (Below.refl w.heap.size w) (Nat.le_refl _) ?_; intro w1 hk1 hb1 hs1 _; have K1 := qH hk1; have B1 := qH hb1; clear hk1 hb1 hs1; (try simp only [Act.put, qA, qB, qC]))
  | ((with_reducible refine atDst 11 ?_); refine wpList_ldBlk rfl 46 _ rfl w.heap.size rfl 46 _ _ K1.out Tryz.underlying46 rfl (size_rx HC6.out) ?_; (try simp only [Act.put, qA, qB, qC])))
 refine (HX.out B g D S cs w1 (H.out.below B1.out) (HR.out.stay (B1.out.mono H.out.size)) HP.out HN.out HL.out).mono ?_
 rw [← HN1.out]
 rintro e w2 ⟨rfl, hp2⟩
 have P2 := qH hp2
 clear hp2
 go_wp2_with fail
 refine (bLink_any at' S.length w2 P2.out.bld (bldT_old HS.out) (by rw [bldT_len]; exact HL.out) HF.out).mono ?_
 rintro e w3 ⟨rfl, hp3⟩
 have P3 := qH ((P2.out.trans hp3).pre B1.out H.out.dl H.out.size)
 clear hp3
 go_wp2_with fail
 go_ret
 exact ⟨rfl, P3.out⟩
def restA (l : List T) (j : Nat) : Nat := if l.length = 0 then 0 else szA l + (if j = 0 then 0 else 1)
theorem restA_cons {x : T} {r : List T} {j : Nat} : restA (x :: r) j = szT x + restA r 1 + (if j = 0 then 0 else 1) := by
 unfold restA
 rw [if_neg (by simp)]
 simp only [szA]
 by_cases h : r.length = 0
 ·rw [if_pos h, if_pos h]
 ·rw [if_neg h, if_neg h, if_neg (by omega : ¬ (1 : Nat) = 0)]; omega
structure Wj (l : List T) (S : List St) (f0 z j f : Nat) (S' : List St) : Prop where
 same : bldA l S f0 z true = bldA (l.drop j) S' f z (decide (j = 0))
 fork : ∃ s, S'[f]? = some s ∧ s.free.length ≤ if j = 0 then 0 else 1
 size : S'.length + restA (l.drop j) j ≤ 2000
theorem Wj.first {l : List T} {S S' : List St} {f0 z j f : Nat} {x : T} (h : Wj l S f0 z j f S') (hx : l[j]? = some x) (hj : j = 0) : ∃ s, S'[f]? = some s ∧ s.free.length ≤ 8 ∧ S'.length + szT x ≤ 2000 ∧
  (linkS (bldT x S') f S'.length)[S'.length + 1]? = some (stF []) ∧ (linkS (bldT x S') f S'.length).length ≤ 2000 ∧ Wj l S f0 z (j + 1) f (linkS (linkS (bldT x S') f S'.length) (S'.length + 1) z) := by
 subst hj
 obtain ⟨s, hs, hl⟩ := h.fork
 have hd : l.drop 0 = x :: l.drop 1 := by
  cases l with
  | nil => simp at hx
  | cons a r => simp at hx; simp [hx]
 have hz := h.size
 have hsame := h.same
 rw [hd] at hz hsame
 rw [restA_cons, if_pos rfl] at hz
 rw [if_pos rfl] at hl
 have hf := (List.getElem?_eq_some_iff.1 hs).1
 have hne : S'.length + 1 ≠ f := by omega
 refine ⟨s, hs, by omega, by omega, ?_, ?_, ⟨hsame.trans ?_, ?_, ?_⟩⟩
 ·rw [linkS_other hne]; exact bldT_out x S'
 ·rw [linkS_is, linkI_len, bldT_len]; omega
 ·rfl
 ·refine ⟨{ s with free := s.free ++ [(S'.length : Int)] }, ?_, ?_⟩
  ·rw [linkS_other (fun e => hne e.symm), linkS_at (bldT_old hs)]
  ·show (s.free ++ [(S'.length : Int)]).length ≤ 1
   rw [List.length_append, List.length_singleton]; omega
 ·change _ + restA (l.drop 1) 1 ≤ 2000
  rw [linkS_is, linkI_len, linkS_is, linkI_len, bldT_len]; omega
theorem Wj.next {l : List T} {S S' : List St} {f0 z q f : Nat} {x : T} (h : Wj l S f0 z q f S') (hx : l[q]? = some x) (hq : q ≠ 0) :
  ∃ s, (S' ++ [st0])[f]? = some s ∧ s.free.length ≤ 8 ∧ (S' ++ [st0]).length + szT x ≤ 2000 ∧
  (linkS (S' ++ [st0]) f S'.length)[S'.length]? = some st0 ∧ (linkS (S' ++ [st0]) f S'.length).length = S'.length + 1 ∧
  (linkS (bldT x (linkS (S' ++ [st0]) f S'.length)) S'.length (S'.length + 1))[S'.length + 2]? = some (stF []) ∧ (linkS (bldT x (linkS (S' ++ [st0]) f S'.length)) S'.length (S'.length + 1)).length ≤ 2000 ∧
   Wj l S f0 z (q + 1) S'.length (linkS (linkS (bldT x (linkS (S' ++ [st0]) f S'.length)) S'.length (S'.length + 1)) (S'.length + 2) z) := by
 obtain ⟨j, rfl⟩ : ∃ j, q = j + 1 := ⟨q - 1, by omega⟩
 obtain ⟨s, hs, hl⟩ := h.fork
 have hd : l.drop (j + 1) = x :: l.drop (j + 2) := by
  obtain ⟨hj, rfl⟩ := List.getElem?_eq_some_iff.1 hx
  exact List.drop_eq_getElem_cons hj
 have hz := h.size
 have hsame := h.same
 rw [hd] at hz hsame
 rw [restA_cons, if_neg (by omega)] at hz
 rw [if_neg (by omega)] at hl
 have hf := (List.getElem?_eq_some_iff.1 hs).1
 have h1 : (linkS (S' ++ [st0]) f S'.length).length = S'.length + 1 := by rw [linkS_is, linkI_len]; simp
 have h2 : (linkS (S' ++ [st0]) f S'.length)[S'.length]? = some st0 := by rw [linkS_other (by omega)]; simp
 have ho := bldT_out x (linkS (S' ++ [st0]) f S'.length)
 rw [h1] at ho
 refine ⟨s, by rw [List.getElem?_append_left hf]; exact hs, by omega, by simp; omega, h2, h1, ?_, ?_, ⟨hsame.trans ?_, ?_, ?_⟩⟩
 ·rw [linkS_other (by omega)]; exact ho
 ·rw [linkS_is, linkI_len, bldT_len, h1]; omega
 ·rw [decide_eq_false (by omega : ¬ j + 1 = 0), decide_eq_false (by omega : ¬ j + 2 = 0)]
  rfl
 ·refine ⟨{ st0 with free := st0.free ++ [((S'.length + 1 : Nat) : Int)] }, ?_, ?_⟩
  ·rw [linkS_other (by omega), linkS_at (bldT_old h2)]
  ·rw [if_neg (by omega)]
   exact Nat.le_refl _
 ·change _ + restA (l.drop (j + 2)) (j + 2) ≤ 2000
  rw [linkS_is, linkI_len, linkS_is, linkI_len, bldT_len, h1]
  have : restA (l.drop (j + 2)) (j + 2) = restA (l.drop (j + 2)) 1 := by unfold restA; rw [if_neg (by omega : ¬ j + 2 = 0), if_neg (by omega : ¬ (1 : Nat) = 0)]
  omega
theorem Wj.end_ {l : List T} {S S' : List St} {f0 z f : Nat} (h : Wj l S f0 z l.length f S') : bldA l S f0 z true = S' := by
 rw [h.same, List.drop_length]
 rfl
set_option maxHeartbeats 4000000 in
set_option maxRecDepth 1000000 in
theorem bWays_any {l : List T} (hx : ∀ x ∈ l, BuildC x) {B g : Nat} {D : Nat → Prop} {S : List St} {s : St} (f0 z : Nat) (V : Value) (w : World) (h : BldV w B g D S) (hr : RowT B w V l) (hp : ∀ x ∈ l, plainT x = true) (hn : nodesL l ≤ 400) (hl : S.length + szA l ≤ 2000) (hs : S[f0]? = some s) (hfr : s.free = []) :
  Calls Tryz.prog 60 #[.pointer (some ⟨g, 0, none⟩), .int .i64 (f0 : Int), V, .int .i64 (z : Int)] w fun e w' => e = .returned (.tuple #[]) ∧ BPost w B g D (bldA l S f0 z true) w' := by
 have HX := qH hx
 have H := qH h
 obtain ⟨A, cap, ff, rfl, h1, h2, h0, h3, h4⟩ := hr
 have H3 := qH h3
 have H4 := qH h4
 have HCM := qH h2
 have HCL := qH h1
 have HP := qH hp
 have HN := qH hn
 have W0 := qH (show Wj l S f0 z 0 f0 S from ⟨by rw [decide_eq_true rfl]; rfl, ⟨s, hs, by rw [hfr]; exact Nat.zero_le _⟩, by
  show S.length + restA l 0 ≤ 2000
  unfold restA
  split
  ·omega
  ·rw [if_pos rfl]; omega⟩)
 have P0 := qH (show BPost w B g D S w from ⟨h.mono (fun k hk => .inl hk) (fun k hk => by rcases hk with hk | hk; exact h.dB k hk; omega) (fun k hk => by rcases hk with hk | hk; exact h.dl k hk; exact hk.2), Off.refl _ _, h.size⟩)
 obtain ⟨R, hR⟩ : ∃ R, bldA l S f0 z true = R := ⟨_, rfl⟩
 have HRE := qH hR
 rw [hR]
 obtain ⟨i0, hi0, hz0, hz1, hz2⟩ := inf_rx'
 obtain ⟨z0, hz⟩ : ∃ z, z = rxc 0 zeroS (.slice none 0 0) := ⟨_, rfl⟩
 have HZL := qH (show z0.length = 6 by rw [hz]; rfl)
 have HZ0 := qH (show i0.zero = some (.agg z0.toArray) by rw [hz]; exact hz0)
 clear hz hz0 hz1 hz2
 clear hx h hp hn hl hs hfr h1 h2 h0 h3 h4 hR
 go_enter Tryz.func60, Tryz.ntmps60
 go_wp2_with fail
 go_loopw [8, 15] (fun fv iv wl => ∃ (j f : Nat) (S' : List St), j ≤ l.length ∧ iv = .int .i64 (j : Int) ∧ fv = .int .i64 (f : Int) ∧ Wj l S f0 z j f S' ∧ BPost w B g D S' wl) (fun _ iv _ => l.length - (intOf iv).toNat)
 case atStart => exact ⟨0, f0, S, Nat.zero_le _, by simp, rfl, W0.out, P0.out⟩
 clear W0 P0
 obtain ⟨j, f, S', hj, rfl, rfl, hw, hp⟩ := hrel
 have WQ := qH hw
 have PQ := qH hp
 clear hw hp
 obtain ⟨wq, hwq⟩ : ∃ v : World, v = wr := ⟨_, rfl⟩
 subst hwq
 by_cases hjl : j < l.length
 ·have j1 : (j : Int) < (l.length : Int) := Int.ofNat_lt.2 hjl
  obtain ⟨b0, off, rfl, hb, hrng⟩ := H3.out (by rintro rfl; simp at hjl)
  obtain ⟨x, hx⟩ : ∃ x, l[j]? = some x := ⟨_, List.getElem?_eq_getElem hjl⟩
  have hbel := PQ.out.off.below H.out.dB PQ.out.sz
  have HV := qH ((H4.out j x hx).stay hbel)
  have HV6 := qH HV.out.length
  have HV1 := qH (show (ff j).all (·.oneCell') = true from List.all_eq_true.2 (RxD.one HV.out))
  have HRG := qH (range_below (hrng j hjl) hbel hb)
  have HXC := qH (HX.out x (List.mem_of_getElem? hx))
  have HXP := qH (HP.out x (List.mem_of_getElem? hx))
  have HXN := qH (show x.nodes ≤ 400 from Nat.le_trans (nodes_mem (List.mem_of_getElem? hx)) HN.out)
  have HJ1 := qH hjl
  have e3 := wrap_len hjl HCL.out HCM.out
  have e4 := wrap_len' hjl HCL.out HCM.out
  by_cases hj0 : j = 0
  ·have FX := qH (WQ.out.first hx hj0)
   have n0 : ¬ ((0 : Int) < (j : Int)) := by rw [hj0]; decide
   obtain ⟨s1, a1, a2, a3, a4, a5, a6⟩ := FX.out
   have A1 := qH a1
   have A2 := qH a2
   have A3 := qH a3
   have A4 := qH a4
   have A5 := qH a5
   have A6 := qH a6
   clear hrng hx hb hj hjl hbel hj0 a1 a2 a3 a4 a5 a6
   go_wp2_with (first
    | ((with_reducible refine atDst 19 ?_); refine wpList_load_mid rfl 46 _ rfl b0 (off + j * 6) rfl (ff j) _ HRG.out Tryz.underlying46 rfl (size_rx HV6.out) ?_; (try simp only [Act.put, qA, qB, qC]))
    | ((with_reducible refine atDst 10 ?_); refine wpList_new rfl 46 rfl i0 _ z0 hi0 HZ0.out rfl (Below.refl wq.heap.size wq) (Nat.le_refl _) ?_; intro w4 hk4 hb4 hs4 _; have K4 := qH hk4; have B4 := qH hb4; clear hk4 hb4 hs4; (try simp only [Act.put, qA, qB, qC]))
    | ((with_reducible refine atStore 46 10 19 ?_); refine wpList_stBlk rfl 46 _ _ rfl wq.heap.size (ff j) rfl rfl 46 _ K4.out (size_rx HV6.out) (by rw [HZL.out, HV6.out]) HV1.out B4.out (Nat.le_refl _) ?_; intro w5 hk5 hb5 hs5 _; have K5 := qH hk5; have B5 := qH hb5; have V5 := qH (PQ.out.bld.below hb5); have HVX := qH (HV.out.stay (hb5.mono PQ.out.bld.size)); clear hk5 hb5 hs5; (try simp only [Act.put, qA, qB, qC]))
    | ((with_reducible refine atDst 32 ?_); refine wpList_ldBlk rfl 46 _ rfl wq.heap.size rfl 46 _ _ K5.out Tryz.underlying46 rfl (size_rx HV6.out) ?_; (try simp only [Act.put, qA, qB, qC])))
   refine (bAfter_any HXC.out f (ff j) w5 V5.out HVX.out HXP.out HXN.out A3.out A1.out A2.out).mono ?_
   rintro e w6 ⟨rfl, hp6⟩
   have P6 := qH hp6
   clear hp6
   go_wp2_with fail
   refine (bLink_any (S'.length + 1) z w6 P6.out.bld A4.out A5.out (by decide)).mono ?_
   rintro e w7 ⟨rfl, hp7⟩
   have P7 := qH (PQ.out.trans ((P6.out.trans hp7).pre B5.out PQ.out.bld.dl PQ.out.bld.size))
   clear hp7
   go_wp2_with fail
   exact ⟨⟨j + 1, _, _, HJ1.out, by congr 1, rfl, A6.out, P7.out⟩, by simpa [intOf] using sub_next HJ1.out⟩
  ·have FX := qH (WQ.out.next hx hj0)
   have n0 : ((0 : Int) < (j : Int)) := Int.natCast_pos.2 (Nat.pos_of_ne_zero hj0)
   obtain ⟨s1, a1, a2, a3, a4, a5, a6, a7, a8⟩ := FX.out
   have A1 := qH a1
   have A2 := qH a2
   have A3 := qH a3
   have A4 := qH a4
   have A5 := qH a5
   have A6 := qH a6
   have A7 := qH a7
   have A8 := qH a8
   have HA3 := qH (show S'.length + 1 + szT x ≤ 2000 by rw [List.length_append, List.length_singleton] at a3; exact a3)
   have HSZ := qH (show S'.length ≤ 2000 by rw [List.length_append, List.length_singleton] at a3; omega)
   have HSZ1 := qH (show (S' ++ [st0]).length ≤ 2000 by omega)
   clear hrng hx hb hj hjl hbel hj0 a1 a2 a3 a4 a5 a6 a7 a8
   go_wp2_with (first
    | ((with_reducible refine atDst 19 ?_); refine wpList_load_mid rfl 46 _ rfl b0 (off + j * 6) rfl (ff j) _ HRG.out Tryz.underlying46 rfl (size_rx HV6.out) ?_; (try simp only [Act.put, qA, qB, qC]))
    | ((with_reducible refine atDst 10 ?_); refine wpList_new rfl 46 rfl i0 _ z0 hi0 HZ0.out rfl (Below.refl wq.heap.size wq) (Nat.le_refl _) ?_; intro w4 hk4 hb4 hs4 _; have K4 := qH hk4; have B4 := qH hb4; clear hk4 hb4 hs4; (try simp only [Act.put, qA, qB, qC]))
    | ((with_reducible refine atStore 46 10 19 ?_); refine wpList_stBlk rfl 46 _ _ rfl wq.heap.size (ff j) rfl rfl 46 _ K4.out (size_rx HV6.out) (by rw [HZL.out, HV6.out]) HV1.out B4.out (Nat.le_refl _) ?_; intro w5 hk5 hb5 hs5 _; have K5 := qH hk5; have B5 := qH hb5; have V5 := qH (PQ.out.bld.below hb5); have HVX := qH (HV.out.stay (hb5.mono PQ.out.bld.size)); clear hk5 hb5 hs5; (try simp only [Act.put, qA, qB, qC]))
    | ((with_reducible refine atDst 32 ?_); refine wpList_ldBlk rfl 46 _ rfl wq.heap.size rfl 46 _ _ K5.out Tryz.underlying46 rfl (size_rx HV6.out) ?_; (try simp only [Act.put, qA, qB, qC])))
   refine (bState_any w5 V5.out HSZ.out).mono ?_
   rintro e w6 ⟨rfl, hp6⟩
   have P6 := qH hp6
   clear hp6
   go_wp2_with fail
   refine (bLink_any f S'.length w6 P6.out.bld A1.out HSZ1.out A2.out).mono ?_
   rintro e w7 ⟨rfl, hp7⟩
   have P7 := qH (P6.out.trans hp7)
   have HV7 := qH (P7.out.rx PQ.out.bld.dB HVX.out)
   have K7 := qH (P7.out.off.blk (fun hd => Nat.lt_irrefl _ (PQ.out.bld.dl _ hd)) K5.out)
   clear hp7
   go_wp2_with ((with_reducible refine atDst 32 ?_); refine wpList_ldBlk rfl 46 _ rfl wq.heap.size rfl 46 _ _ K7.out Tryz.underlying46 rfl (size_rx HV6.out) ?_; (try simp only [Act.put, qA, qB, qC]))
   refine (bAfter_any HXC.out S'.length (ff j) w7 P7.out.bld HV7.out HXP.out HXN.out (by rw [A5.out]; exact HA3.out) A4.out (by decide)).mono ?_
   rw [A5.out]
   rintro e w8 ⟨rfl, hp8⟩
   have P8 := qH (P7.out.trans hp8)
   clear hp8
   go_wp2_with fail
   refine (bLink_any (S'.length + 2) z w8 P8.out.bld A6.out A7.out (by decide)).mono ?_
   rintro e w9 ⟨rfl, hp9⟩
   have P9 := qH (PQ.out.trans ((P8.out.trans hp9).pre B5.out PQ.out.bld.dl PQ.out.bld.size))
   clear hp9
   go_wp2_with fail
   exact ⟨⟨j + 1, _, _, HJ1.out, by congr 1, rfl, A8.out, P9.out⟩, by simpa [intOf] using sub_next HJ1.out⟩
 ·obtain rfl : j = l.length := Nat.le_antisymm hj (Nat.not_lt.1 hjl)
  have j1 : ¬ ((l.length : Int) < (l.length : Int)) := Int.lt_irrefl _
  have HE := qH (WQ.out.end_.symm.trans HRE.out)
  go_wp2_with fail
  go_end0
  rw [← HE.out]
  exact ⟨rfl, PQ.out⟩
theorem six_set {cs : List (List Value)} (h : ∀ c ∈ cs, c.length = 6) {c' : List Value} (hc : c'.length = 6) (i : Nat) : ∀ c ∈ cs.set i c', c.length = 6 := fun c hm => by
 rcases List.mem_or_eq_of_mem_set hm with h1 | h1
 ·exact h c h1
 ·rw [h1]; exact hc
theorem flat6_again {cs : List (List Value)} (h : ∀ c ∈ cs, c.length = 6) {i j : Nat} (hi : i < cs.length) {c : List Value} (hc : c.length = 6) (u : Value) (hj : j < 6) : (cs.set i c).flatten.set (i * 6 + j) u = (cs.set i (c.set j u)).flatten := by
 rw [flat6_set (six_set h hc i) u (List.getElem?_set_self hi) hj, List.set_set]
theorem bSet_end {w : World} {B g gl c0 n z : Nat} {D : Nat → Prop} {S : List St} {fv : Nat → Value} {s : St} (p : Nat → Bool) (x : Bld w B g (.slice (some ⟨gl, 0, none⟩) S.length c0) fv S) (hD : ∀ k, Bd g (.slice (some ⟨gl, 0, none⟩) S.length c0) fv S.length k → D k) (hdB : ∀ k, D k → B ≤ k) (hdl : ∀ k, D k → k < w.heap.size)
  (hB : B ≤ w.heap.size) (hs : S[n]? = some s) :
  (∃ u, (w.setCells gl (n * 6) (wds p)).cell? ⟨gl, n * 6 + 4, none⟩ = some u) ∧ (w.setCells gl (n * 6) (wds p)).frozen? ⟨gl, n * 6 + 4, none⟩ = false ∧ w.there gl (n * 6) 4 ∧
  BPost w B g D (setS S n p z) ((w.setCells gl (n * 6) (wds p)).setCell ⟨gl, n * 6 + 4, none⟩ (.int .i64 (z : Int))) := by
 obtain ⟨c, hc⟩ : ∃ c, c = stc s (fv n) := ⟨_, rfl⟩
 have hn : n < (cellsN S fv).length := by rw [cellsN_len]; exact (List.getElem?_eq_some_iff.1 hs).1
 have hcn : (cellsN S fv)[n]? = some c := by rw [cellsN_get, hs, hc]; rfl
 have hc6 : c.length = 6 := by rw [hc]; rfl
 have six := cellsN_six S fv
 have hl6 := flat6_len six
 have hgl : gl ≠ g := fun e => x.lg (by rw [← e]; rfl)
 obtain ⟨xs, hxs⟩ : ∃ xs, xs = (cellsN S fv).flatten := ⟨_, rfl⟩
 have hlen : xs.length = (cellsN S fv).length * 6 := by rw [hxs]; exact hl6
 have hown := x.own
 rw [← hxs] at hown
 have o1 := own_set hown (j := n * 6 + 0) (by omega) (.int .u64 (word p 0 : Int))
 have o2 := own_set o1 (j := n * 6 + 1) (by simp; omega) (.int .u64 (word p 1 : Int))
 have o3 := own_set o2 (j := n * 6 + 2) (by simp; omega) (.int .u64 (word p 2 : Int))
 have o4 := own_set o3 (j := n * 6 + 3) (by simp; omega) (.int .u64 (word p 3 : Int))
 have q4 := own_cell o4 (List.getElem?_eq_getElem (i := n * 6 + 4) (by simp; omega))
 have th : w.there gl (n * 6) 4 := fun j hj => by
  have := own_cell hown (List.getElem?_eq_getElem (i := n * 6 + j) (by omega))
  exact ⟨by rw [this.1]; rfl, this.2⟩
 have o5 := own_set o4 (j := n * 6 + 4) (by simp; omega) (.int .i64 (z : Int))
 rw [hxs, flat6_set six (j := 0) _ hcn (by omega), flat6_again six hn (by simp [hc6]) _ (by omega), flat6_again six hn (by simp [hc6]) _ (by omega), flat6_again six hn (by simp [hc6]) _ (by omega), flat6_again six hn (by simp [hc6]) _ (by omega)] at o5
 have e : ((((c.set 0 (.int .u64 (word p 0 : Int))).set 1 (.int .u64 (word p 1 : Int))).set 2 (.int .u64 (word p 2 : Int))).set 3 (.int .u64 (word p 3 : Int))).set 4 (.int .i64 (z : Int)) = stc { s with set := p, to := (z : Int) } (fv n) := by rw [hc]; rfl
 rw [cellsN_mod hs (fun s => { s with set := p, to := (z : Int) }) (fv n) _ e] at o5
 have hfv : updV fv n (fv n) = fv := by
  funext i
  unfold updV
  by_cases h : i = n
  ·rw [if_pos h, h]
  ·rw [if_neg h]
 rw [hfv] at o5
 have hlenS : (setS S n p z).length = S.length := by simp [setS]
 have hother : ∀ k, k ≠ gl → ((w.setCells gl (n * 6) (wds p)).setCell ⟨gl, n * 6 + 4, none⟩ (.int .i64 (z : Int))).heap[k]? = w.heap[k]? := fun k hk => by
  have := (Off.setCells (D := fun k => k = gl) rfl (wds p) (n * 6) w)
  have h2 := this.trans (Off.set _ (n * 6 + 4) (.int .i64 (z : Int)) rfl)
  by_cases hkl : k < w.heap.size
  ·exact h2.block k hkl hk
  ·rw [Array.getElem?_eq_none (by simp [wds, World.setCells]; omega), Array.getElem?_eq_none (by omega)]
 have hsz : ((w.setCells gl (n * 6) (wds p)).setCell ⟨gl, n * 6 + 4, none⟩ (.int .i64 (z : Int))).heap.size = w.heap.size := by simp [wds, World.setCells]
 refine ⟨⟨_, q4.1⟩, q4.2, th, ?_⟩
 refine ⟨⟨⟨.slice (some ⟨gl, 0, none⟩) S.length c0, fv, ⟨(hother g hgl.symm).trans x.blk, by rw [hlenS]; exact o5, fun i s' hs' => ?_, x.lg, by rw [hlenS]; exact x.fg, by rw [hlenS]; exact x.fl, by rw [hlenS]; exact x.ff⟩, fun k hk => .inl (hD k (by rw [hlenS] at hk; exact hk))⟩, fun k hk => ?_, fun k hk => ?_⟩, ?_, hB⟩
 ·have hi : i < S.length := by rw [← hlenS]; exact (List.getElem?_eq_some_iff.1 hs').1
  have h0 : ∃ s0, S[i]? = some s0 ∧ s0.free = s'.free := by
   refine ⟨S[i], List.getElem?_eq_getElem hi, ?_⟩
   unfold setS at hs'
   rw [List.getElem?_modify, List.getElem?_eq_getElem hi] at hs'
   by_cases hin : n = i
   ·simp [hin] at hs'; rw [← hs']
   ·simp [hin] at hs'; rw [← hs']
  obtain ⟨s0, h1, h2⟩ := h0
  rw [← h2]
  have h3 := x.free i s0 h1
  exact own6_stay h3 fun j hj => hother j (by rintro rfl; exact x.fl i j hi hj rfl)
 ·rcases hk with hk | hk
  ·exact hdB k hk
  ·exact Nat.le_trans hB hk.1
 ·rcases hk with hk | hk
  ·rw [hsz]; exact hdl k hk
  ·exact hk.2
 ·exact (Off.setCells (hD gl (.inr (.inl rfl))) (wds p) (n * 6) w).trans (Off.set _ _ _ (hD gl (.inr (.inl rfl))))
theorem BPost.zero {w : World} {B g : Nat} {D : Nat → Prop} {S : List St} (h : BldV w B g D S) : BPost w B g D S w :=
 ⟨h.mono (fun k hk => .inl hk) (fun k hk => by rcases hk with hk | hk; exact h.dB k hk; omega) (fun k hk => by rcases hk with hk | hk; exact h.dl k hk; exact hk.2), Off.refl _ _, h.size⟩
theorem wp_stI {o : Oper} {a : Act} {w : World} {K : Act → World → Prop} {Q : Exit → Act → World → Prop} (x y : Operand) (ho : o.op = .store 3 x y) (g q : Nat) (hx : a.eval x = .pointer (some ⟨g, q, none⟩)) (k : Int) (hy : a.eval y = .int .i64 k)
  (u : Value) (hc : w.cell? ⟨g, q, none⟩ = some u) (hf : w.frozen? ⟨g, q, none⟩ = false) (h : K (a.put o.dst undef) (w.setCell ⟨g, q, none⟩ (.int .i64 k))) : o.wp Tryz.prog a w K Q := by
 unfold Oper.wp execOp
 simp only [ho, hx, hy]
 have hrun : (Instr.storeAt 3 (.pointer (some ⟨g, q, none⟩)) (.int .i64 k)).run Tryz.prog w = .ok () (w.setCell ⟨g, q, none⟩ (.int .i64 k)) := by
  go_simp
 simp only [Sem.run_bind, hrun, Result.andThen_ok, Sem.run_pure]
 exact h
/-! ### sequences -/
structure Cj (l : List T) (S : List St) (f0 j f : Nat) (S' : List St) : Prop where
 same : bldC l S f0 = bldC (l.drop j) S' f
 at_ : ∃ s, S'[f]? = some s ∧ s.free = []
 size : S'.length + szC (l.drop j) ≤ 2000
theorem Cj.next {l : List T} {S S' : List St} {f0 j f : Nat} {x : T} (h : Cj l S f0 j f S') (hx : l[j]? = some x) : ∃ s, S'[f]? = some s ∧ s.free.length ≤ 8 ∧ S'.length + szT x ≤ 2000 ∧ Cj l S f0 (j + 1) (S'.length + 1) (linkS (bldT x S') f S'.length) := by
 obtain ⟨s, hs, hl⟩ := h.at_
 have hd : l.drop j = x :: l.drop (j + 1) := by
  obtain ⟨hj, rfl⟩ := List.getElem?_eq_some_iff.1 hx
  exact List.drop_eq_getElem_cons hj
 have hz := h.size
 have hsame := h.same
 rw [hd] at hz hsame
 simp only [szC] at hz
 have hf := (List.getElem?_eq_some_iff.1 hs).1
 refine ⟨s, hs, by rw [hl]; exact Nat.zero_le _, by omega, ⟨hsame, ⟨stF [], ?_, rfl⟩, ?_⟩⟩
 ·rw [linkS_other (by omega)]; exact bldT_out x S'
 ·rw [linkS_is, linkI_len, bldT_len]; omega
theorem Cj.end_ {l : List T} {S S' : List St} {f0 f : Nat} (h : Cj l S f0 l.length f S') : bldC l S f0 = (S', f) := by
 rw [h.same, List.drop_length]
 rfl
theorem ld_midO {P : Program} {a : Act} {oi : Oper} {D : Nat → Prop} {w0 : World} (ty : TypeId) (x : Operand) (ho : oi.op = .load ty x) (b o : Nat) (hx : a.eval x = .pointer (some ⟨b, o, none⟩)) (cs : List Value) (d : TypeDesc)
  (hg : w0.rangeAt b o cs) (hb : b < w0.heap.size) (hn : ¬ D b) (hu : P.underlying ty = some d) (hd : d.isRow = true) (hi : (P.info? ty).map (·.size) = some cs.length) :
  ∀ W, Off D w0 W → (execOp a.eval oi).run P W = .ok (.value (.agg cs.toArray)) W := by
 intro W hW
 have hl := run_loadAt_mid (P := P) W b o ty cs d (hW.range hb hn hg) hu hd hi
 simp only [execOp, ho, hx, Sem.run_bind, hl, Result.andThen_ok, Sem.run_pure]
theorem two_at (S : List St) : (S ++ [st0] ++ [st0])[S.length]? = some st0 ∧ (S ++ [st0] ++ [st0]).length = S.length + 2 := by
 constructor
 ·rw [List.append_assoc, List.getElem?_append_right (Nat.le_refl _), Nat.sub_self]; rfl
 ·simp
set_option maxHeartbeats 8000000 in
set_option maxRecDepth 1000000 in
theorem build_any : ∀ (N : Nat) (t : T), t.nodes ≤ N → BuildC t := by
 intro N
 induction N with
 | zero => intro t h; have := nodes_pos t; omega
 | succ N ih =>
  rintro ⟨k, s, l⟩ hN B g D S cs w hb hr hp hn hl
  have hNN : T.nodes (.node k s l) = 1 + nodesL l := by simp only [T.nodes]
  rw [hNN] at hN hn
  have IH := qH (show ∀ x ∈ l, BuildC x from fun x hx => ih x (by have := nodes_mem hx; omega))
  clear ih
  have hkk := plainT_kind hp
  have HPP := qH (plainT_parts hp)
  have HPL := qH hp
  have HNL := qH (show nodesL l ≤ 400 by omega)
  have H := qH hb
  obtain ⟨A, cap, f, rfl, h1, h2, h0, h3, h4⟩ := hr.opened
  have H3 := qH h3
  have H4 := qH h4
  have HROW := qH (show RowT B w (.slice A l.length cap) l from ⟨A, cap, f, rfl, h1, h2, h0, h3, h4⟩)
  have HCM := qH h2
  have HCL := qH h1
  have HLS := qH hl
  obtain ⟨cs, hcs⟩ : ∃ cs, cs = Value.int .i64 k :: (wds s ++ [.slice A l.length cap]) := ⟨_, rfl⟩
  have HCS := qH hcs
  have HC6 := qH (show cs.length = 6 by rw [hcs]; rfl)
  have HC0 := qH (show cs[0]? = some (.int .i64 k) by rw [hcs]; rfl)
  have HC5 := qH (show cs[5]? = some (.slice A l.length cap) by rw [hcs]; rfl)
  obtain ⟨n1, hn1⟩ : ∃ m, m = S.length + 1 := ⟨_, rfl⟩
  have HN1 := qH hn1
  obtain ⟨R, hR⟩ : ∃ R, bldT (.node k s l) S = R := ⟨_, rfl⟩
  have HRE := qH hR
  have HSZ := qH (show S.length + 2 ≤ 2000 by have := szT_two (.node k s l); omega)
  rw [← hcs, ← hn1, hR]
  clear hN hn hb hr hp hl h1 h2 h0 h3 h4 hcs hn1 hR hNN
  go_enter Tryz.func34, Tryz.ntmps34
  go_wp2_with ((with_reducible refine atDst 3 ?_); refine wpList_box rfl 46 _ rfl cs rfl (Below.refl w.heap.size w) (Nat.le_refl _) ?_; intro w1 hk1 hb1 hs1 _; have K1 := qH hk1; have B1 := qH hb1; clear hk1 hb1 hs1; (try simp only [Act.put, qA, qB, qC]))
  refine (bState_any w1 (H.out.below B1.out) (by have := HSZ.out; omega)).mono ?_
  rintro e w2 ⟨rfl, hp2⟩
  have P2 := qH hp2
  clear hp2
  go_wp2_with fail
  refine (bState_any w2 P2.out.bld (by have := HSZ.out; rw [List.length_append, List.length_singleton]; omega)).mono ?_
  rw [show (S ++ [st0]).length = n1 by rw [HN1.out]; simp]
  rintro e w3 ⟨rfl, hp3⟩
  have P3 := qH (P2.out.trans hp3)
  have PW := qH (P3.out.pre B1.out H.out.dl H.out.size)
  have NB := qH (show ¬ up D w1 w3 w.heap.size from fun hd => by
   rcases hd with hd | hd
   ·exact Nat.lt_irrefl _ (H.out.dl _ hd)
   ·have := K1.out.lt; omega)
  have K3 := qH (P3.out.off.blk (fun hd => NB.out (.inl hd)) K1.out)
  have V3 := qH (show BldV w3 B g (up D w1 w3) (S ++ [st0] ++ [st0]) from P3.out.bld)
  have BL3 := qH (show Below B w w3 from PW.out.off.below H.out.dB PW.out.sz)
  have k0 := K3.out.cell 0
  rw [HC0.out] at k0
  clear hp3
  have HT0 := qH (two_at S).1
  have HT1 := qH (two_at S).2
  rcases hkk with rfl | rfl | rfl | rfl | rfl | rfl
  ·have HE := qH (show bldT (.node 1 s l) S = S ++ [st0] ++ [st0] by rw [bldT]; simp)
   go_wp2_with fail
   go_ret2
   rw [← HRE.out, HE.out]
   exact ⟨rfl, PW.out⟩
  ·have HE := qH (show bldT (.node 2 s l) S = linkS (S ++ [st0] ++ [st0]) S.length n1 by rw [bldT, HN1.out]; simp)
   go_wp2_with fail
   refine (bLink_any S.length n1 w3 PW.out.bld HT0.out (by rw [HT1.out]; exact HSZ.out) (by decide)).mono ?_
   rintro e w4 ⟨rfl, hp4⟩
   have P4 := qH (PW.out.trans hp4)
   clear hp4
   go_wp2_with fail
   go_ret2
   rw [← HRE.out, HE.out]
   exact ⟨rfl, P4.out⟩
  ·have HE := qH (show bldT (.node 3 s l) S = setS (S ++ [st0] ++ [st0]) S.length s n1 by rw [bldT, HN1.out]; simp)
   obtain ⟨⟨lv, fv, hb, hd⟩, hdB, hdl⟩ := PW.out.bld
   obtain ⟨gl, c0, rfl, _⟩ : ∃ gl c0, lv = .slice (some ⟨gl, 0, none⟩) (S ++ [st0] ++ [st0]).length c0 ∧ True := by
    rcases hb.own.2 with ⟨_, h0⟩ | ⟨g', cap, cur, he, _⟩
    ·rw [HT1.out] at h0; omega
    ·exact ⟨g', cap, he, trivial⟩
   obtain ⟨sl, hsl⟩ : ∃ n, n = (S ++ [st0] ++ [st0]).length := ⟨_, rfl⟩
   have HSL := qH hsl
   have f1 : (S.length : Int) < (sl : Int) := by rw [hsl, HT1.out]; omega
   have X := qH hb
   have HD := qH hd
   have HDB := qH hdB
   have HDL := qH hdl
   have HG0 := qH hb.blk.lt
   have HBX := qH K3.out.lt
   have HNG := qH (show ¬ g = gl from fun e => hb.lg (by rw [e]; rfl))
   have HNX := qH (show ¬ w.heap.size = gl from fun e => by
    obtain ⟨lv', fv', hb', hd'⟩ := V3.out.is
    have e1 : lv' = .slice (some ⟨gl, 0, none⟩) (S ++ [st0] ++ [st0]).length c0 := by
     have h1 := hb.blk.cell 0
     have h2 := hb'.blk.cell 0
     rw [h1] at h2
     simpa using h2.symm
    exact NB.out (hd' _ (.inr (.inl (by rw [e1, e]; rfl)))))
   have HD0 := qH (hb.blk.cell 0)
   simp only [List.getElem?_cons_zero] at HD0
   rw [← hsl] at HD0
   have RS := qH (set_range' HCS.out K3.out)
   clear hb hd hdB hdl hsl
   go_wp2_with fail
   refine sg_start (S := Off (fun k => k = gl) w3) (by kernel_rfl) (Off.start _ _) (fun wd hwd => ?_)
   have hX : Off (fun k => k = gl) w3 wd := by rw [hwd]; exact Off.start _ _
   have BD := qH (show Below w3.heap.size w3 wd by rw [hwd]; exact (Below.refl _ _).drew)
   clear hwd
   have E5 := qH (bSet_end (z := n1) s (X.out.stay fun k hk => BD.out.block k (X.out.lt hk)) HD.out HDB.out (fun k hk => Nat.lt_of_lt_of_le (HDL.out k hk) BD.out.size) (Nat.le_trans PW.out.bld.size BD.out.size) HT0.out)
   obtain ⟨u5, hu5⟩ := E5.out.1
   have U5 := qH hu5
   clear hu5
   refine sg_take (i := 0) (oi := ⟨some 25, _, _, _, _, _⟩) (v := ?_) rfl (by kernel_rfl) (by kernel_rfl) (by kernel_rfl) (fun _ _ _ h => h) rfl hX ?_ ?_; rotate_left; (intro W hW; go_simp; try with_reducible rfl); simp only [Act.put, qA, qB, qC]
   refine sg_take (i := 1) (oi := ⟨some 26, _, _, _, _, _⟩) (v := ?_) rfl (by kernel_rfl) (by kernel_rfl) (by kernel_rfl) (fun _ _ _ h => h) rfl hX ?_ ?_; rotate_left; (intro W hW; go_simp; try with_reducible rfl); simp only [Act.put, qA, qB, qC]
   refine sg_take (i := 2) (oi := ⟨some 27, _, _, _, _, _⟩) (v := ?_) rfl (by kernel_rfl) (by kernel_rfl) (by kernel_rfl) (fun _ _ _ h => h) rfl hX ?_ ?_; rotate_left; (intro W hW; go_simp; try with_reducible rfl); simp only [Act.put, qA, qB, qC]
   refine sg_take (i := 3) (oi := ⟨some 28, _, _, _, _, _⟩) (v := .slice (some ⟨gl, 0, none⟩) sl c0) rfl (by kernel_rfl) (by kernel_rfl) (by kernel_rfl) (fun _ _ _ h => h) rfl hX (fun W hW => ld_sts (.tmp 27) rfl rfl (hW.cell HG0.out HNG.out HD0.out)) ?_; simp only [Act.put, qA, qB, qC]
   refine sg_take (i := 4) (oi := ⟨some 29, _, _, _, _, _⟩) (v := ?_) rfl (by kernel_rfl) (by kernel_rfl) (by kernel_rfl) (fun _ _ _ h => h) rfl hX ?_ ?_; rotate_left; (intro W hW; go_simp; try with_reducible rfl); simp only [Act.put, qA, qB, qC]
   refine sg_take (i := 5) (oi := ⟨some 30, _, _, _, _, _⟩) (v := ?_) rfl (by kernel_rfl) (by kernel_rfl) (by kernel_rfl) (fun _ _ _ h => h) rfl hX ?_ ?_; rotate_left; (intro W hW; go_simp; try with_reducible rfl); simp only [Act.put, qA, qB, qC]
   refine sg_take (i := 6) (oi := ⟨some 31, _, _, _, _, _⟩) (v := ?_) rfl (by kernel_rfl) (by kernel_rfl) (by kernel_rfl) (fun _ _ _ h => h) rfl hX ?_ ?_; rotate_left; (intro W hW; go_simp; try with_reducible rfl); simp only [Act.put, qA, qB, qC]
   refine sg_take (i := 7) (oi := ⟨some 32, _, _, _, _, _⟩) (v := ?_) rfl (by kernel_rfl) (by kernel_rfl) (by kernel_rfl) (fun _ _ _ h => h) rfl hX ?_ ?_; rotate_left; (intro W hW; go_simp; try with_reducible rfl); simp only [Act.put, qA, qB, qC]
   refine sg_take (i := 8) (oi := ⟨some 33, _, _, _, _, _⟩) (v := .slice (some ⟨gl, 0, none⟩) sl c0) rfl (by kernel_rfl) (by kernel_rfl) (by kernel_rfl) (fun _ _ _ h => h) rfl hX (fun W hW => ld_sts (.tmp 32) rfl rfl (hW.cell HG0.out HNG.out HD0.out)) ?_; simp only [Act.put, qA, qB, qC]
   refine sg_take (i := 9) (oi := ⟨some 34, _, _, _, _, _⟩) (v := ?_) rfl (by kernel_rfl) (by kernel_rfl) (by kernel_rfl) (fun _ _ _ h => h) rfl hX ?_ ?_; rotate_left; (intro W hW; go_simp; try with_reducible rfl); simp only [Act.put, qA, qB, qC]
   refine sg_take (i := 10) (oi := ⟨some 35, _, _, _, _, _⟩) (v := ?_) rfl (by kernel_rfl) (by kernel_rfl) (by kernel_rfl) (fun _ _ _ h => h) rfl hX ?_ ?_; rotate_left; (intro W hW; go_simp; try with_reducible rfl); simp only [Act.put, qA, qB, qC]
   refine sg_take (i := 11) (oi := ⟨some 36, _, _, _, _, _⟩) (v := .agg (wds s).toArray) rfl (by kernel_rfl) (by kernel_rfl) (by kernel_rfl) (fun _ _ _ h => h) rfl hX (ld_midO 43 _ rfl w.heap.size 1 rfl (wds s) _ RS.out HBX.out HNX.out Tryz.underlying43 rfl (size_set s)) ?_; simp only [Act.put, qA, qB, qC]
   refine sg_take (i := 12) (oi := ⟨some 37, _, _, _, _, _⟩) (v := ?_) rfl (by kernel_rfl) (by kernel_rfl) (by kernel_rfl) (fun _ _ _ h => h) rfl hX ?_ ?_; rotate_left; (intro W hW; go_simp; try with_reducible rfl); simp only [Act.put, qA, qB, qC]
   refine sg_take (i := 13) (oi := ⟨some 38, _, _, _, _, _⟩) (v := ?_) rfl (by kernel_rfl) (by kernel_rfl) (by kernel_rfl) (fun _ _ _ h => h) rfl hX ?_ ?_; rotate_left; (intro W hW; go_simp; try with_reducible rfl); simp only [Act.put, qA, qB, qC]
   refine sg_take (i := 14) (oi := ⟨some 39, _, _, _, _, _⟩) (v := ?_) rfl (by kernel_rfl) (by kernel_rfl) (by kernel_rfl) (fun _ _ _ h => h) rfl hX ?_ ?_; rotate_left; (intro W hW; go_simp; try with_reducible rfl); simp only [Act.put, qA, qB, qC]
   refine sg_actB (i := 15) (o := ⟨none, _, _, _, _, _⟩) rfl (by kernel_rfl) rfl hX (fun K hK => ?_)
   refine wp_store_mid 43 _ _ rfl gl (S.length * 6) (wds s).toArray rfl rfl E5.out.2.2.1 (size_set s) (by simpa using wds_all s) ?_
   refine hK _ _ (hX.trans (Off.setCells (D := fun k => k = gl) rfl _ _ _)) ?_
   clear hK K
   (try simp only [Act.put, qA, qB, qC])
   replace hX := hX.trans (Off.setCells (D := fun k => k = gl) rfl (wds s) (S.length * 6) wd)
   refine sg_take (i := 16) (oi := ⟨some 40, _, _, _, _, _⟩) (v := ?_) rfl (by kernel_rfl) (by kernel_rfl) (by kernel_rfl) (fun _ _ _ h => h) rfl hX ?_ ?_; rotate_left; (intro W hW; go_simp; try with_reducible rfl); simp only [Act.put, qA, qB, qC]
   refine sg_take (i := 17) (oi := ⟨some 41, _, _, _, _, _⟩) (v := ?_) rfl (by kernel_rfl) (by kernel_rfl) (by kernel_rfl) (fun _ _ _ h => h) rfl hX ?_ ?_; rotate_left; (intro W hW; go_simp; try with_reducible rfl); simp only [Act.put, qA, qB, qC]
   refine sg_actB (i := 18) (o := ⟨none, _, _, _, _, _⟩) rfl (by kernel_rfl) rfl hX (fun K hK => ?_)
   refine wp_stI (.tmp 41) (.tmp 37) rfl gl (S.length * 6 + 4) rfl (n1 : Int) rfl u5 U5.out E5.out.2.1 ?_
   refine hK _ _ (hX.trans (Off.set (D := fun k => k = gl) _ _ _ rfl)) ?_
   clear hK K
   refine wpAnyH_done (by kernel_rfl) ?_ _
   clear hX
   have PE := qH (PW.out.trans (E5.out.2.2.2.pre BD.out PW.out.bld.dl PW.out.bld.size))
   go_wp2_with fail
   go_ret2
   rw [← HRE.out, HE.out]
   exact ⟨rfl, PE.out⟩
  ·have k5 := K3.out.cell 5
   rw [HC5.out] at k5
   have C0 := qH (show Cj l (S ++ [st0] ++ [st0]) S.length 0 S.length (S ++ [st0] ++ [st0]) from ⟨rfl, ⟨st0, HT0.out, rfl⟩, by have := HLS.out; rw [HT1.out]; simp only [szT, if_pos] at this; rw [List.drop_zero]; omega⟩)
   have P0 := qH (BPost.zero V3.out)
   obtain ⟨i0, hi0, hz0, hz1, hz2⟩ := inf_rx'
   obtain ⟨z0, hz⟩ : ∃ z, z = rxc 0 zeroS (.slice none 0 0) := ⟨_, rfl⟩
   have HZL := qH (show z0.length = 6 by rw [hz]; rfl)
   have HZ0 := qH (show i0.zero = some (.agg z0.toArray) by rw [hz]; exact hz0)
   clear hz hz0 hz1 hz2
   go_wp2_with fail
   go_loopw [6, 46] (fun fv iv wl => ∃ (j fo : Nat) (S' : List St), j ≤ l.length ∧ iv = .int .i64 (j : Int) ∧ fv = .int .i64 (fo : Int) ∧ Cj l (S ++ [st0] ++ [st0]) S.length j fo S' ∧ BPost w3 B g (up D w1 w3) S' wl) (fun _ iv _ => l.length - (intOf iv).toNat)
   case atStart => exact ⟨0, S.length, _, Nat.zero_le _, by simp, rfl, C0.out, P0.out⟩
   clear C0 P0 k0 k5
   obtain ⟨j, fo, S', hj, rfl, rfl, hw, hp⟩ := hrel
   have WQ := qH hw
   have PQ := qH hp
   clear hw hp
   obtain ⟨wq, hwq⟩ : ∃ v : World, v = wr := ⟨_, rfl⟩
   subst hwq
   by_cases hjl : j < l.length
   ·have j1 : (j : Int) < (l.length : Int) := Int.ofNat_lt.2 hjl
    obtain ⟨b0, off, rfl, hb, hrng⟩ := H3.out (by rintro rfl; simp at hjl)
    obtain ⟨x, hx⟩ : ∃ x, l[j]? = some x := ⟨_, List.getElem?_eq_getElem hjl⟩
    have hbel := BL3.out.trans (PQ.out.off.below V3.out.dB PQ.out.sz)
    have HV := qH ((H4.out j x hx).stay hbel)
    have HV6 := qH HV.out.length
    have HV1 := qH (show (f j).all (·.oneCell') = true from List.all_eq_true.2 (RxD.one HV.out))
    have HRG := qH (range_below (hrng j hjl) hbel hb)
    have HXC := qH (IH.out x (List.mem_of_getElem? hx))
    have HXP := qH (HPP.out x (List.mem_of_getElem? hx))
    have HXN := qH (show x.nodes ≤ 400 from Nat.le_trans (nodes_mem (List.mem_of_getElem? hx)) HNL.out)
    have HJ1 := qH hjl
    have e3 := wrap_len hjl HCL.out HCM.out
    have e4 := wrap_len' hjl HCL.out HCM.out
    obtain ⟨s1, a1, a2, a3, a4⟩ := WQ.out.next hx
    have A1 := qH a1
    have A2 := qH a2
    have A3 := qH a3
    have A4 := qH a4
    clear hrng hx hb hj hjl hbel a1 a2 a3 a4
    go_wp2_with (first
     | ((with_reducible refine atDst 49 ?_); refine wpList_load_mid rfl 46 _ rfl b0 (off + j * 6) rfl (f j) _ HRG.out Tryz.underlying46 rfl (size_rx HV6.out) ?_; (try simp only [Act.put, qA, qB, qC]))
     | ((with_reducible refine atDst 8 ?_); refine wpList_new rfl 46 rfl i0 _ z0 hi0 HZ0.out rfl (Below.refl wq.heap.size wq) (Nat.le_refl _) ?_; intro w4 hk4 hb4 hs4 _; have K4 := qH hk4; have B4 := qH hb4; clear hk4 hb4 hs4; (try simp only [Act.put, qA, qB, qC]))
     | ((with_reducible refine atStore 46 8 49 ?_); refine wpList_stBlk rfl 46 _ _ rfl wq.heap.size (f j) rfl rfl 46 _ K4.out (size_rx HV6.out) (by rw [HZL.out, HV6.out]) HV1.out B4.out (Nat.le_refl _) ?_; intro w5 hk5 hb5 hs5 _; have K5 := qH hk5; have B5 := qH hb5; have V5 := qH (PQ.out.bld.below hb5); have HVX := qH (HV.out.stay (hb5.mono PQ.out.bld.size)); clear hk5 hb5 hs5; (try simp only [Act.put, qA, qB, qC]))
     | ((with_reducible refine atDst 52 ?_); refine wpList_ldBlk rfl 46 _ rfl wq.heap.size rfl 46 _ _ K5.out Tryz.underlying46 rfl (size_rx HV6.out) ?_; (try simp only [Act.put, qA, qB, qC])))
    refine (bAfter_any HXC.out fo (f j) w5 V5.out HVX.out HXP.out HXN.out A3.out A1.out A2.out).mono ?_
    rintro e w6 ⟨rfl, hp6⟩
    have P7 := qH (PQ.out.trans (hp6.pre B5.out PQ.out.bld.dl PQ.out.bld.size))
    clear hp6
    go_wp2_with fail
    exact ⟨⟨j + 1, _, _, HJ1.out, by congr 1, rfl, A4.out, P7.out⟩, by simpa [intOf] using sub_next HJ1.out⟩
   ·obtain rfl : j = l.length := Nat.le_antisymm hj (Nat.not_lt.1 hjl)
    have j1 : ¬ ((l.length : Int) < (l.length : Int)) := Int.lt_irrefl _
    obtain ⟨s1, a1, a2⟩ := WQ.out.at_
    have A1 := qH a1
    have A2 := qH (show s1.free.length ≤ 8 by rw [a2]; exact Nat.zero_le _)
    have A3 := qH (Nat.le_trans (Nat.le_add_right _ _) WQ.out.size)
    have HE := qH (show bldT (.node 4 s l) S = linkS S' fo n1 by rw [bldT, HN1.out, WQ.out.end_]; simp)
    clear a1 a2
    go_wp2_with fail
    refine (bLink_any fo n1 wq PQ.out.bld A1.out A3.out A2.out).mono ?_
    rintro e w6 ⟨rfl, hp6⟩
    have P7 := qH ((P3.out.trans (PQ.out.trans hp6)).pre B1.out H.out.dl H.out.size)
    clear hp6
    go_wp2_with fail
    go_ret2
    rw [← HRE.out, HE.out]
    exact ⟨rfl, P7.out⟩
  ·have k5 := K3.out.cell 5
   rw [HC5.out] at k5
   have HE := qH (show bldT (.node 5 s l) S = bldA l (S ++ [st0] ++ [st0]) S.length n1 true by rw [bldT, HN1.out]; simp)
   go_wp2_with fail
   refine (bWays_any IH.out S.length n1 (.slice A l.length cap) w3 V3.out (HROW.out.below BL3.out) HPP.out HNL.out (by have := HLS.out; rw [HT1.out]; simp [szT] at this; omega) HT0.out rfl).mono ?_
   rintro e w6 ⟨rfl, hp6⟩
   have P7 := qH ((P3.out.trans hp6).pre B1.out H.out.dl H.out.size)
   clear hp6
   go_wp2_with fail
   go_ret2
   rw [← HRE.out, HE.out]
   exact ⟨rfl, P7.out⟩
  ·obtain ⟨x, rfl⟩ := plainT_star HPL.out
   have k5 := K3.out.cell 5
   rw [HC5.out] at k5
   have HE := qH (show bldT (.node 6 s [x]) S = linkS (linkS (linkS (bldT x (S ++ [st0] ++ [st0])) S.length (S.length + 2)) (S.length + 3) S.length) S.length n1 by rw [bldT, HN1.out]; simp [bldO])
   obtain ⟨b0, off, rfl, hb, hrng⟩ := H3.out (by simp)
   have HV := qH ((H4.out 0 x rfl).stay BL3.out)
   have HV6 := qH HV.out.length
   have HRG := qH (range_below (hrng 0 (by simp)) BL3.out hb)
   have HXC := qH (IH.out x (by simp))
   have HXP := qH (HPP.out x (by simp))
   have HXN := qH (show x.nodes ≤ 400 from Nat.le_trans (nodes_mem (l := [x]) (by simp)) HNL.out)
   have A1 := qH (show (S ++ [st0] ++ [st0]).length + szT x ≤ 2000 by have := HLS.out; rw [HT1.out]; simp [szT, szO] at this; omega)
   have A2 := qH (show (linkS (bldT x (S ++ [st0] ++ [st0])) S.length (S.length + 2))[S.length + 3]? = some (stF []) by
    rw [linkS_other (by omega)]
    have := bldT_out x (S ++ [st0] ++ [st0])
    rwa [HT1.out] at this)
   have A3 := qH (show (linkS (bldT x (S ++ [st0] ++ [st0])) S.length (S.length + 2)).length ≤ 2000 by rw [linkS_is, linkI_len, bldT_len]; exact A1.out)
   have A4 := qH (show (linkS (linkS (bldT x (S ++ [st0] ++ [st0])) S.length (S.length + 2)) (S.length + 3) S.length)[S.length]? = some { st0 with free := st0.free ++ [((S.length + 2 : Nat) : Int)] } by
    rw [linkS_other (by omega), linkS_at (bldT_old HT0.out)])
   have A5 := qH (show (linkS (linkS (bldT x (S ++ [st0] ++ [st0])) S.length (S.length + 2)) (S.length + 3) S.length).length ≤ 2000 by rw [linkS_is, linkI_len]; exact A3.out)
   clear hb hrng
   go_wp2_with ((with_reducible refine atDst 71 ?_); refine wpList_load_mid rfl 46 _ rfl b0 (off + 0 * 6) (by simp [Act.eval]) (f 0) _ HRG.out Tryz.underlying46 rfl (size_rx HV6.out) ?_; (try simp only [Act.put, qA, qB, qC]))
   refine (bAfter_any HXC.out S.length (f 0) w3 V3.out HV.out HXP.out HXN.out A1.out HT0.out (by decide)).mono ?_
   rw [HT1.out]
   rintro e w4 ⟨rfl, hp4⟩
   have P4 := qH hp4
   clear hp4
   go_wp2_with fail
   refine (bLink_any (S.length + 3) S.length w4 P4.out.bld A2.out A3.out (by decide)).mono ?_
   rintro e w5 ⟨rfl, hp5⟩
   have P5 := qH (P4.out.trans hp5)
   clear hp5
   go_wp2_with fail
   refine (bLink_any S.length n1 w5 P5.out.bld A4.out A5.out (by simp [st0])).mono ?_
   rintro e w6 ⟨rfl, hp6⟩
   have P7 := qH ((P3.out.trans (P5.out.trans hp6)).pre B1.out H.out.dl H.out.size)
   clear hp6
   go_wp2_with fail
   go_ret2
   rw [← HRE.out, HE.out]
   exact ⟨rfl, P7.out⟩
end Go.Proofs.YteadghoojeehlaaGreatDoor
