/-
  Texts of this proof, put together: SbU, SbV, TbA, TbB, TbC, TbD. No statement is proved here.
-/
import Derived.Test.YteadghoojeehlaaDoorVS
import Derived.Test.YteadghoojeehlaaDoorVD
import Derived.Test.YteadghoojeehlaaDoorVC
import Derived.Test.YteadghoojeehlaaDoorVB
import Derived.Test.YteadghoojeehlaaDoorVA
import Derived.Test.YteadghoojeehlaaDoorVE
import Derived.Test.YteadghoojeehlaaDoorVJ
import Derived.Test.YteadghoojeehlaaDoorVM
namespace Go.Proofs.YteadghoojeehlaaDoor
open Go.RowKit
set_option linter.unusedSimpArgs false
set_option linter.unusedVariables false
structure MayD (D : Dm) : Prop where
 pos : 1 ≤ D.next.length
 few : D.next.length ≤ 2000
 ends : D.ends.length = D.next.length
 rows : ∀ r ∈ D.next, r.length = clsA D.cl
 to : ∀ r ∈ D.next, ∀ x ∈ r, 0 ≤ x ∧ x < (D.next.length : Int)
theorem DfaV.form {w : World} {cs : List Value} {D : Dm} (h : DfaV w cs D) : ∃ (An Ae : Option Addr) (cn ce : Nat) (vf : Nat → Value), D.cl.length = 256 ∧ cs = dcl D.cl (.slice An D.next.length cn) (.slice Ae D.ends.length ce) ∧
  Row w (.slice An D.next.length cn) ((List.range D.next.length).map vf) ∧ (∀ i r, D.next[i]? = some r → Row w (vf i) (nums .i64 r)) ∧ Row w (.slice Ae D.ends.length ce) (bools D.ends) := by
 obtain ⟨hl, vn, ve, vf, hcs, hn, hr, he⟩ := h
 have hn' := hn
 have he' := he
 obtain ⟨An, cn, rfl, _⟩ := hn
 obtain ⟨Ae, ce, rfl, _⟩ := he
 rw [show ((List.range D.next.length).map vf).length = D.next.length by simp] at hcs hn'
 rw [bools_length] at hcs he'
 exact ⟨An, Ae, cn, ce, vf, hl, hcs, hn', hr, he'⟩
theorem DfaV.size {w : World} {cs : List Value} {D : Dm} (h : DfaV w cs D) : (Tryd.prog.info? 32).map (·.size) = some cs.length := by
 obtain ⟨hl, vn, ve, vf, hcs, _⟩ := h
 rw [hcs]
 exact size_dfa hl
theorem clsA_le (cl : List UInt8) : clsA cl ≤ 256 := clsD_le cl 256
theorem lt_k256 {i k : Nat} (h : i < k) (hk : k ≤ 256) : i ≤ 4611686018427387904 := by omega
set_option maxHeartbeats 4000000 in
set_option maxRecDepth 1000000 in
theorem refMay11_any (D : Dm) (cs : List Value) (w : World) (hv : DfaV w cs D) (hm : MayD D) :
  Calls Tryd.prog 11 #[.agg cs.toArray] w fun e w' => e = .returned (.bool true) ∧ Below w.heap.size w w' := by
 have V0 := qH hv
 have HM := qH hm
 have HDS := qH hv.size
 obtain ⟨An, Ae, cn, ce, vf, hl, hcs, hn, hr, he⟩ := hv.form
 have HL := qH hl
 obtain ⟨n, hnn⟩ : ∃ n, n = D.next.length := ⟨_, rfl⟩
 have HN := qH hnn
 rw [hm.ends, ← hnn] at hcs
 rw [← hnn] at hn
 have HCS := qH hcs
 have HRN := qH hn
 have HR := qH hr
 have HNP := qH (show 1 ≤ n by rw [hnn]; exact hm.pos)
 have HNF := qH (show n ≤ 2000 by rw [hnn]; exact hm.few)
 obtain ⟨k, hk⟩ : ∃ k, k = clsA D.cl := ⟨_, rfl⟩
 have HK := qH hk
 have HK2 := qH (show k ≤ 256 by rw [hk]; exact clsA_le _)
 clear hv hm hl hcs hn hr he hnn hk
 go_enter Tryd.func11, Tryd.ntmps11
 go_wp2_with ((with_reducible refine atDst 1 ?_); refine wpList_box rfl 32 _ rfl cs rfl (Below.refl w.heap.size w) (Nat.le_refl _) ?_; intro w1 hk1 hb1 hs1 _; have K1 := qH hk1; have B1 := qH hb1; clear hk1 hb1 hs1; (try simp only [Act.put, qA, qB, qC]))
 have C256 := qH (show w1.cell? ⟨w.heap.size, 256, none⟩ = some (.slice An n cn) by rw [K1.out.cell 256, HCS.out]; exact dcl_n HL.out)
 refine sx_startB (B := w1.heap.size) (w0 := w1) (by kernel_rfl) (Below.refl _ _) (fun wd hwd hX => ?_)
 clear hwd
 refine sx_take (i := 0) (oi := ⟨some 7, _, _, _, _, _⟩) (v := ?_) rfl (by kernel_rfl) (by kernel_rfl) (by kernel_rfl) (fun _ _ _ h => h) rfl hX ?_ ?_; rotate_left; (intro W hW; go_simp; try with_reducible rfl); simp only [Act.put, qA, qB, qC]
 refine sx_take (i := 1) (oi := ⟨some 8, _, _, _, _, _⟩) (v := .slice An n cn) rfl (by kernel_rfl) (by kernel_rfl) (by kernel_rfl) (fun _ _ _ h => h) rfl hX (fun V hV => ld_inss (.tmp 7) rfl rfl ((hV.cell (p := ⟨w.heap.size, 256, none⟩) K1.out.lt).trans C256.out)) ?_; simp only [Act.put, qA, qB, qC]
 refine sx_take (i := 2) (oi := ⟨some 9, _, _, _, _, _⟩) (v := ?_) rfl (by kernel_rfl) (by kernel_rfl) (by kernel_rfl) (fun _ _ _ h => h) rfl hX ?_ ?_; rotate_left; (intro W hW; go_simp; try with_reducible rfl); simp only [Act.put, qA, qB, qC]
 refine sx_take (i := 3) (oi := ⟨some 10, _, _, _, _, _⟩) (v := .agg cs.toArray) rfl (by kernel_rfl) (by kernel_rfl) (by kernel_rfl) (fun _ _ _ h => h) rfl hX (ld_blk 32 _ rfl w.heap.size rfl 32 cs _ K1.out K1.out.lt Tryd.underlying32 rfl HDS.out) ?_; simp only [Act.put, qA, qB, qC]
 refine sx_actB (i := 4) (o := ⟨some 11, _, _, _, _, _⟩) rfl (by kernel_rfl) rfl hX (fun K hK => ?_)
 go_wp2_with fail
 refine (refClasses11_any D cs wd (V0.out.below (B1.out.trans (hX.mono B1.out.size)))).mono ?_
 rintro e w2 ⟨rfl, hb⟩
 rw [← HK.out]
 go_wp2_with fail
 refine hK _ _ (hb.mono hX.size) ?_
 clear hK K
 (try simp only [Act.put, qA, qB, qC])
 replace hX := hX.trans (hb.mono hX.size)
 clear hb
 refine sx_take (i := 5) (oi := ⟨some 3, _, _, _, _, _⟩) (v := ?_) rfl (by kernel_rfl) (by kernel_rfl) (by kernel_rfl) (fun _ _ _ h => h) rfl hX ?_ ?_; rotate_left; (intro W hW; go_simp; try with_reducible rfl); simp only [Act.put, qA, qB, qC]
 refine sx_take (i := 6) (oi := ⟨some 4, _, _, _, _, _⟩) (v := ?_) rfl (by kernel_rfl) (by kernel_rfl) (by kernel_rfl) (fun _ _ _ h => h) rfl hX ?_ ?_; rotate_left; (intro W hW; go_simp; try with_reducible rfl); simp only [Act.put, qA, qB, qC]
 refine wpAnyH_done (by kernel_rfl) ?_ _
 have B2 := qH (B1.out.trans (hX.mono B1.out.size))
 have K2 := qH (K1.out.below hX K1.out.lt)
 have c256 : w2.cell? ⟨w.heap.size, 256, none⟩ = some (.slice An n cn) := by rw [K2.out.cell 256, HCS.out]; exact dcl_n HL.out
 have c257 : w2.cell? ⟨w.heap.size, 257, none⟩ = some (.slice Ae n ce) := by rw [K2.out.cell 257, HCS.out]; exact dcl_e HL.out
 have d1 : decide ((n : Int) < 1) = false := decide_eq_false (by have := HNP.out; omega)
 have d2 : decide ((2000 : Int) < (n : Int)) = false := decide_eq_false (by have := HNF.out; omega)
 clear hX
 go_wp2_with fail
 go_loopw [5] (fun iv wl => ∃ i : Nat, i ≤ n ∧ iv = .int .i64 (i : Int) ∧ wl = w2) (fun iv _ => n - (intOf iv).toNat)
 case atStart => exact ⟨0, Nat.zero_le _, by simp, rfl⟩
 obtain ⟨i, hi, rfl, hw⟩ := hrel
 have hw2 := hw.symm
 subst hw2
 clear hw
 by_cases hin : i < n
 ·have x1 : (i : Int) < (n : Int) := Int.ofNat_lt.2 hin
  have HI := qH hin
  have HMI := qH (sub_next hin)
  have e3 := wrap_one i (lt_bigN hin HNF.out)
  have e4 := wrap_one' i (lt_bigN hin HNF.out)
  obtain ⟨r, hr⟩ : ∃ r, D.next[i]? = some r := ⟨_, List.getElem?_eq_getElem (by rw [← HN.out]; exact hin)⟩
  have HRM := qH (List.mem_of_getElem? hr)
  have HRL := qH (show r.length = k by rw [HM.out.rows r HRM.out, HK.out])
  have hri := (HR.out i r hr).below B2.out
  have HRI := qH hri
  obtain ⟨Ar, cr, hvr, _⟩ := hri
  rw [nums_length, HRL.out] at hvr
  obtain ⟨b, off, rfl, _, hcc⟩ := (HRN.out.below B2.out).at_ (by simp; exact Nat.lt_of_lt_of_le Nat.zero_lt_one HNP.out)
  have hci : w2.cell? ⟨b, off + i, none⟩ = some (.slice Ar k cr) := hcc i _ (by simp [hin, hvr])
  rw [hvr] at HRI
  clear hi hin hr hcc
  go_wp2_with fail
  go_loopw [6] (fun jv wl => ∃ j : Nat, j ≤ k ∧ jv = .int .i64 (j : Int) ∧ wl = w2) (fun jv _ => k - (intOf jv).toNat)
  case atStart => exact ⟨0, Nat.zero_le _, by simp, rfl⟩
  obtain ⟨j, hj, rfl, hw⟩ := hrel
  have hw2 := hw.symm
  subst hw2
  clear hw
  by_cases hjk : j < k
  ·have y1 : (j : Int) < (k : Int) := Int.ofNat_lt.2 hjk
   have HJ := qH hjk
   have HMJ := qH (sub_next hjk)
   have f3 := wrap_one j (lt_k256 hjk HK2.out)
   have f4 := wrap_one' j (lt_k256 hjk HK2.out)
   obtain ⟨x, hx⟩ : ∃ x, r[j]? = some x := ⟨_, List.getElem?_eq_getElem (by rw [HRL.out]; exact hjk)⟩
   have hto := HM.out.to r HRM.out x (List.mem_of_getElem? hx)
   obtain ⟨br, or, rfl, _, hcr⟩ := HRI.out.at_ (by rw [nums_length, HRL.out]; exact Nat.lt_of_le_of_lt (Nat.zero_le _) hjk)
   have hcx : w2.cell? ⟨br, or + j, none⟩ = some (.int .i64 x) := hcr j _ (by simp [nums, hx])
   have z1 : ¬ (x < 0) := by omega
   have z2 : ¬ ((n : Int) ≤ x) := by have := HN.out; omega
   clear hj hjk hx hcr hto
   go_wp2_with fail
   exact ⟨⟨j + 1, HJ.out, by congr 1, trivial⟩, by simpa [intOf] using HMJ.out⟩
  ·obtain rfl : j = k := by omega
   have y1 : ¬ ((j : Int) < (j : Int)) := Int.lt_irrefl _
   clear hj hjk
   go_wp2_with fail
   exact ⟨⟨i + 1, HI.out, by congr 1, trivial⟩, by simpa [intOf] using HMI.out⟩
 ·obtain rfl : i = n := by omega
  have x1 : ¬ ((i : Int) < (i : Int)) := Int.lt_irrefl _
  clear hi hin
  go_wp2_with fail
  go_ret
  exact ⟨rfl, B2.out⟩
theorem ld_boolQ {ev : Operand → Value} {o : Oper} (x : Operand) (ho : o.op = .load 4 x) {p : Addr} (hx : ev x = .pointer (some p)) {k : Bool} {W : World} (hc : W.cell? p = some (.bool k)) : (execOp ev o).run Tryd.prog W = .ok (.value (.bool k)) W := by
 simp only [execOp, ho, hx]
 go_simp
def st0 : St := ⟨fun _ => false, -1, []⟩
def stF (l : List Int) : St := ⟨fun _ => false, -1, l⟩
def linkS (S : List St) (f t : Nat) : List St := S.modify f fun s => { s with free := s.free ++ [(t : Int)] }
def setS (S : List St) (i : Nat) (p : Nat → Bool) (z : Nat) : List St := S.modify i fun s => { s with set := p, to := (z : Int) }
mutual
def bldT : T → List St → List St
 | .node k s l, S =>
  if k = 3 then setS (S ++ [st0] ++ [st0]) S.length s (S.length + 1)
  else if k = 4 then linkS (bldC l (S ++ [st0] ++ [st0]) S.length).1 (bldC l (S ++ [st0] ++ [st0]) S.length).2 (S.length + 1)
  else if k = 5 then bldA l (S ++ [st0] ++ [st0]) S.length (S.length + 1) true
  else if k = 6 then linkS (bldO l (S ++ [st0] ++ [st0]) S.length) S.length (S.length + 1)
  else if k = 2 then linkS (S ++ [st0] ++ [st0]) S.length (S.length + 1)
  else S ++ [st0] ++ [st0]
def bldC : List T → List St → Nat → List St × Nat
 | [], S, at' => (S, at')
 | x :: r, S, at' => bldC r (linkS (bldT x S) at' S.length) (S.length + 1)
def bldA : List T → List St → Nat → Nat → Bool → List St
 | [], S, _, _, _ => S
 | x :: r, S, f, z, first =>
  if first then bldA r (linkS (linkS (bldT x S) f S.length) (S.length + 1) z) f z false
  else bldA r (linkS (linkS (bldT x (linkS (S ++ [st0]) f S.length)) S.length (S.length + 1)) (S.length + 2) z) S.length z false
def bldO : List T → List St → Nat → List St
 | [], S, _ => S
 | x :: r, S, a => linkS (linkS (bldT x S) a S.length) (S.length + 1) a
end
/-! ### the same as one piece behind what was there -/
mutual
def szT : T → Nat
 | .node k _ l => 2 + if k = 4 then szC l else if k = 5 then szA l else if k = 6 then szO l else 0
def szC : List T → Nat
 | [] => 0
 | x :: r => szT x + szC r
def szA : List T → Nat
 | [] => 0
 | x :: r => szT x + if r.length = 0 then 0 else 1 + szA r
def szO : List T → Nat
 | [] => 0
 | x :: _ => szT x
end
def altL : List T → Nat → List Int
 | [], _ => []
 | x :: r, p => (p : Int) :: if r.length = 0 then [] else [((p + szT x : Nat) : Int)]
theorem altL_cons (x : T) (r : List T) (p : Nat) : altL (x :: r) p = (p : Int) :: if r.length = 0 then [] else [((p + szT x : Nat) : Int)] := rfl
mutual
def fragT : T → Nat → List Int → List St
 | .node k s l, n, c =>
  if k = 3 then [⟨s, ((n + 1 : Nat) : Int), []⟩, stF c]
  else if k = 4 then stF [if l.length = 0 then ((n + 1 : Nat) : Int) else ((n + 2 : Nat) : Int)] :: stF c :: fragC l (n + 2) (n + 1)
  else if k = 5 then stF (altL l (n + 2)) :: stF c :: fragA l (n + 2) (n + 1)
  else if k = 6 then stF ((if l.length = 0 then [] else [((n + 2 : Nat) : Int)]) ++ [((n + 1 : Nat) : Int)]) :: stF c :: fragO l (n + 2) n
  else if k = 2 then [stF [((n + 1 : Nat) : Int)], stF c]
  else [stF [], stF c]
def fragC : List T → Nat → Nat → List St
 | [], _, _ => []
 | x :: r, p, z => fragT x p [if r.length = 0 then (z : Int) else ((p + szT x : Nat) : Int)] ++ fragC r (p + szT x) z
def fragA : List T → Nat → Nat → List St
 | [], _, _ => []
 | x :: r, p, z => fragT x p [(z : Int)] ++ if r.length = 0 then [] else stF (altL r (p + szT x + 1)) :: fragA r (p + szT x + 1) z
def fragO : List T → Nat → Nat → List St
 | [], _, _ => []
 | x :: _, p, z => fragT x p [(z : Int)]
end
mutual
theorem fragT_len : ∀ (t : T) (n : Nat) (c : List Int), (fragT t n c).length = szT t
 | .node k s l, n, c => by
  have h1 := fragC_len l (n + 2) (n + 1)
  have h2 := fragA_len l (n + 2) (n + 1)
  have h3 := fragO_len l (n + 2) n
  simp only [fragT, szT]
  split
  ·next h => rw [if_neg (by omega), if_neg (by omega), if_neg (by omega)]; rfl
  ·split
   ·simp [h1]; omega
   ·split
    ·simp [h2]; omega
    ·split
     ·simp [h3]; omega
     ·split <;> rfl
theorem fragC_len : ∀ (l : List T) (p z : Nat), (fragC l p z).length = szC l
 | [], _, _ => rfl
 | x :: r, p, z => by
  simp only [fragC, szC, List.length_append]
  rw [fragT_len x, fragC_len r]
theorem fragA_len : ∀ (l : List T) (p z : Nat), (fragA l p z).length = szA l
 | [], _, _ => rfl
 | x :: r, p, z => by
  simp only [fragA, szA, List.length_append]
  rw [fragT_len x]
  split
  ·rfl
  ·rw [List.length_cons, fragA_len r]; omega
theorem fragO_len : ∀ (l : List T) (p z : Nat), (fragO l p z).length = szO l
 | [], _, _ => rfl
 | x :: r, p, z => by
  simp only [fragO, szO]
  exact fragT_len x _ _
end
theorem szT_two (t : T) : 2 ≤ szT t := by
 cases t with
 | node k s l => simp only [szT]; omega
theorem fragT_ends (t : T) (n : Nat) : ∃ (s : St) (r : List St), ∀ c, fragT t n c = s :: stF c :: r := by
 cases t with
 | node k s l =>
  simp only [fragT]
  by_cases h3 : k = 3
  ·exact ⟨_, [], fun c => by rw [if_pos h3]⟩
  ·by_cases h4 : k = 4
   ·exact ⟨_, _, fun c => by rw [if_neg h3, if_pos h4]⟩
   ·by_cases h5 : k = 5
    ·exact ⟨_, _, fun c => by rw [if_neg h3, if_neg h4, if_pos h5]⟩
    ·by_cases h6 : k = 6
     ·exact ⟨_, _, fun c => by rw [if_neg h3, if_neg h4, if_neg h5, if_pos h6]⟩
     ·by_cases h2 : k = 2
      ·exact ⟨_, [], fun c => by rw [if_neg h3, if_neg h4, if_neg h5, if_neg h6, if_pos h2]⟩
      ·exact ⟨_, [], fun c => by rw [if_neg h3, if_neg h4, if_neg h5, if_neg h6, if_neg h2]⟩
def linkI (S : List St) (f : Nat) (l : List Int) : List St := S.modify f fun s => { s with free := s.free ++ l }
theorem linkS_is (S : List St) (f t : Nat) : linkS S f t = linkI S f [(t : Int)] := rfl
theorem linkI_len (S : List St) (f : Nat) (l : List Int) : (linkI S f l).length = S.length := by simp [linkI]
theorem linkI_left {S X : List St} {f : Nat} {l : List Int} (h : f < S.length) : linkI (S ++ X) f l = linkI S f l ++ X := by
 unfold linkI
 apply List.ext_getElem?
 intro i
 rw [List.getElem?_modify, List.getElem?_append, List.getElem?_append, List.length_modify, List.getElem?_modify]
 by_cases hi : i < S.length
 ·rw [if_pos hi, if_pos hi]
 ·rw [if_neg hi, if_neg hi]
  have : f ≠ i := by omega
  simp [this]
theorem linkI_right {S X : List St} {f : Nat} {l : List Int} (h : S.length ≤ f) : linkI (S ++ X) f l = S ++ linkI X (f - S.length) l := by
 unfold linkI
 apply List.ext_getElem?
 intro i
 rw [List.getElem?_modify, List.getElem?_append, List.getElem?_append, List.getElem?_modify]
 by_cases hi : i < S.length
 ·rw [if_pos hi, if_pos hi]
  have : f ≠ i := by omega
  simp [this]
 ·rw [if_neg hi, if_neg hi]
  by_cases hfi : f = i
  ·subst hfi; simp
  ·have : ¬ (f - S.length = i - S.length) := by omega
   simp [hfi, this]
theorem linkI_two (S : List St) (f : Nat) (l m : List Int) : linkI (linkI S f l) f m = linkI S f (l ++ m) := by
 unfold linkI
 apply List.ext_getElem?
 intro i
 simp only [List.getElem?_modify]
 cases S[i]? with
 | none => rfl
 | some s =>
  by_cases h : f = i
  ·simp [h]
  ·simp [h]
theorem linkI_nil (S : List St) (f : Nat) : linkI S f [] = S := by
 unfold linkI
 apply List.ext_getElem?
 intro i
 rw [List.getElem?_modify]
 cases S[i]? with
 | none => rfl
 | some s => simp
theorem linkI_cons (s : St) (r : List St) (l : List Int) : linkI (s :: r) 0 l = { s with free := s.free ++ l } :: r := by simp [linkI]
theorem frag_link (P : List St) (x : T) (c d : List Int) (X : List St) : linkI (P ++ fragT x P.length c ++ X) (P.length + 1) d = P ++ fragT x P.length (c ++ d) ++ X := by
 obtain ⟨s, r, he⟩ := fragT_ends x P.length
 rw [linkI_left (by rw [List.length_append, fragT_len]; have := szT_two x; omega), linkI_right (by omega), he, he, show P.length + 1 - P.length = 1 from by omega]
 simp [linkI, stF]
theorem frag_link' {P : List St} {n f : Nat} (hn : P.length = n) (hf : f = n + 1) (x : T) (c d : List Int) : linkI (P ++ fragT x n c) f d = P ++ fragT x n (c ++ d) := by
 subst hn
 subst hf
 have := frag_link P x c d []
 simpa using this
theorem setS_end (S : List St) (p : Nat → Bool) (z : Nat) : setS (S ++ [st0] ++ [st0]) S.length p z = S ++ [⟨p, (z : Int), []⟩, stF []] := by
 rw [show S ++ [st0] ++ [st0] = S ++ [st0, st0] from by simp]
 apply List.ext_getElem?
 intro i
 unfold setS
 rw [List.getElem?_modify, List.getElem?_append, List.getElem?_append]
 by_cases hi : i < S.length
 ·rw [if_pos hi, if_pos hi]
  have : S.length ≠ i := by omega
  simp [this]
 ·rw [if_neg hi, if_neg hi]
  obtain ⟨j, rfl⟩ : ∃ j, i = S.length + j := ⟨i - S.length, by omega⟩
  rw [Nat.add_sub_cancel_left]
  match j with
  | 0 => simp [st0]
  | 1 => simp [st0, stF]
  | k + 2 => simp
theorem two_end (S : List St) : S ++ [st0] ++ [st0] = S ++ [stF [], stF []] := by simp [st0, stF]
theorem link_in (S X : List St) (c l m : List Int) : linkI (S ++ (stF c :: X)) S.length l = S ++ (stF (c ++ l) :: X) := by
 rw [linkI_right (Nat.le_refl _), Nat.sub_self, linkI_cons]
 rfl
mutual
theorem bldT_frag : ∀ (t : T) (S : List St), bldT t S = S ++ fragT t S.length []
 | .node k s l, S => by
  have hl : (S ++ [stF [], stF []]).length = S.length + 2 := by simp
  simp only [bldT, fragT]
  by_cases h3 : k = 3
  ·rw [if_pos h3, if_pos h3, setS_end]
  rw [if_neg h3, if_neg h3]
  by_cases h4 : k = 4
  ·rw [if_pos h4, if_pos h4, two_end, bldC_frag l (S ++ [stF [], stF []]) S.length (S.length + 1) (by rw [hl]; omega)]
   split
   ·next h0 =>
    have : l = [] := List.eq_nil_of_length_eq_zero h0
    subst this
    rw [linkS_is, link_in S _ [] _ []]
    simp [fragC]
   ·rw [hl, linkS_is, link_in S _ [] _ []]
    simp
  rw [if_neg h4, if_neg h4]
  by_cases h5 : k = 5
  ·rw [if_pos h5, if_pos h5, two_end]
   rw [bldA_first l (S ++ [stF [], stF []]) S.length (S.length + 1) (by rw [hl]; omega), hl, link_in S _ [] _ []]
   simp
  rw [if_neg h5, if_neg h5]
  by_cases h6 : k = 6
  ·rw [if_pos h6, if_pos h6, two_end]
   cases l with
   | nil => simp only [bldO, fragO]; rw [linkS_is, link_in S _ [] _ []]; simp
   | cons x r =>
    simp only [bldO, fragO]
    rw [bldT_frag x, hl, linkS_is, linkS_is, linkS_is, List.append_assoc, List.cons_append, List.cons_append, List.nil_append, link_in S _ [] _ []]
    rw [show S ++ (stF ([] ++ [((S.length + 2 : Nat) : Int)]) :: stF [] :: fragT x (S.length + 2) []) = (S ++ [stF ([] ++ [((S.length + 2 : Nat) : Int)]), stF []]) ++ fragT x (S.length + 2) [] from by simp]
    rw [frag_link' (by simp) (by omega), List.append_assoc, List.cons_append, List.cons_append, List.nil_append, link_in S _ _ _ []]
    simp
  rw [if_neg h6, if_neg h6]
  by_cases h2 : k = 2
  ·rw [if_pos h2, if_pos h2, two_end, linkS_is, link_in S _ [] _ []]
   simp
  rw [if_neg h2, if_neg h2, two_end]
theorem bldC_frag : ∀ (l : List T) (S : List St) (f z : Nat), f < S.length → linkS (bldC l S f).1 (bldC l S f).2 z = if l.length = 0 then linkS S f z else linkS S f S.length ++ fragC l S.length z
 | [], S, f, z, _ => by simp [bldC]
 | x :: r, S, f, z, hf => by
  have hlen : (linkI S f [(S.length : Int)]).length = S.length := linkI_len _ _ _
  simp only [bldC]
  rw [bldT_frag x, linkS_is (S ++ fragT x S.length []) f S.length, linkI_left hf, bldC_frag r _ (S.length + 1) z (by rw [List.length_append, hlen, fragT_len]; have := szT_two x; omega)]
  rw [if_neg (show ¬ (x :: r).length = 0 by simp)]
  simp only [fragC]
  by_cases h0 : r.length = 0
  ·have : r = [] := List.eq_nil_of_length_eq_zero h0
   subst this
   simp only [List.length_nil, if_true]
   rw [linkS_is, linkS_is, frag_link' hlen rfl]
   simp [fragC]
  ·simp only [if_neg h0]
   rw [linkS_is, linkS_is, frag_link' hlen rfl, List.length_append, hlen, fragT_len, List.append_assoc]
   simp
theorem bldA_first : ∀ (l : List T) (S : List St) (f z : Nat), f < S.length → bldA l S f z true = linkI S f (altL l S.length) ++ fragA l S.length z
 | [], S, f, z, _ => by simp [bldA, altL, fragA, linkI_nil]
 | x :: r, S, f, z, hf => by
  have hlen : (linkI S f [(S.length : Int)]).length = S.length := linkI_len _ _ _
  simp only [bldA, if_true, fragA]
  rw [altL_cons]
  rw [bldT_frag x, linkS_is, linkS_is, linkI_left hf, frag_link' hlen rfl]
  by_cases h0 : r.length = 0
  ·have : r = [] := List.eq_nil_of_length_eq_zero h0
   subst this
   simp [bldA]
  ·rw [if_neg h0, if_neg h0, bldA_more r _ f z h0 (by rw [List.length_append, hlen]; omega), List.length_append, hlen, fragT_len, linkI_left (by rw [hlen]; exact hf), linkI_two, List.append_assoc]
   simp
theorem bldA_more : ∀ (r : List T) (S : List St) (f z : Nat), ¬ r.length = 0 → f < S.length → bldA r S f z false = linkI S f [(S.length : Int)] ++ (stF (altL r (S.length + 1)) :: fragA r (S.length + 1) z)
 | [], S, f, z, h, _ => absurd rfl h
 | x :: r, S, f, z, _, hf => by
  have hlen : (linkI S f [(S.length : Int)]).length = S.length := linkI_len _ _ _
  obtain ⟨P, hP⟩ : ∃ P, P = linkI S f [(S.length : Int)] := ⟨_, rfl⟩
  simp only [bldA, Bool.false_eq_true, if_false, fragA]
  rw [altL_cons]
  rw [linkS_is, linkS_is, linkS_is, linkI_left (X := [st0]) hf, ← hP, bldT_frag x]
  rw [← hP] at hlen
  have h1 : (P ++ [st0]).length = S.length + 1 := by simp [hlen]
  rw [h1]
  have e1 : linkI (P ++ [st0] ++ fragT x (S.length + 1) []) S.length [((S.length + 1 : Nat) : Int)] = (P ++ [stF [((S.length + 1 : Nat) : Int)]]) ++ fragT x (S.length + 1) [] := by
   rw [List.append_assoc, ← hlen]
   have := link_in P (fragT x (P.length + 1) []) [] [((P.length + 1 : Nat) : Int)] []
   simpa [st0, stF] using this
  have h2 : (P ++ [stF [((S.length + 1 : Nat) : Int)]]).length = S.length + 1 := by simp [hlen]
  rw [e1, frag_link' h2 (by omega)]
  by_cases h0 : r.length = 0
  ·have : r = [] := List.eq_nil_of_length_eq_zero h0
   subst this
   simp [bldA]
  ·have h3 : (P ++ [stF [((S.length + 1 : Nat) : Int)]] ++ fragT x (S.length + 1) ([] ++ [(z : Int)])).length = S.length + 1 + szT x := by rw [List.length_append, h2, fragT_len]
   rw [if_neg h0, if_neg h0, bldA_more r _ S.length z h0 (by rw [h3]; omega), h3]
   have e2 := link_in P (fragT x (P.length + 1) [(z : Int)]) [((P.length + 1 : Nat) : Int)] [((P.length + 1 + szT x : Nat) : Int)] []
   rw [hlen] at e2
   rw [List.append_assoc P, List.cons_append, List.nil_append, List.nil_append, e2, List.append_assoc]
   simp
end
inductive WayN (S : List St) : Nat → Nat → List UInt8 → Nat → Prop
 | here {i : Nat} : WayN S 0 i [] i
 | free {m i j k : Nat} {s : St} {w : List UInt8} : S[i]? = some s → (j : Int) ∈ s.free → WayN S m j w k → WayN S (m + 1) i w k
 | byte {m i j k : Nat} {s : St} {b : UInt8} {w : List UInt8} : S[i]? = some s → s.set b.toNat = true → s.to = (j : Int) → WayN S m j w k → WayN S (m + 1) i (b :: w) k
def At (M : List St) (p : Nat) (L : List St) : Prop := ∀ i s, L[i]? = some s → M[p + i]? = some s
theorem At.left {M A B : List St} {p : Nat} (h : At M p (A ++ B)) : At M p A := fun i s hs => h i s (by rw [List.getElem?_append_left (List.getElem?_eq_some_iff.1 hs).1]; exact hs)
theorem At.right {M A B : List St} {p : Nat} (h : At M p (A ++ B)) : At M (p + A.length) B := fun i s hs => by
 rw [Nat.add_assoc]
 refine h (A.length + i) s ?_
 rw [List.getElem?_append_right (by omega), Nat.add_sub_cancel_left]
 exact hs
theorem At.head {M B : List St} {a : St} {p : Nat} (h : At M p (a :: B)) : M[p]? = some a := h 0 a rfl
theorem At.tail {M B : List St} {a : St} {p : Nat} (h : At M p (a :: B)) : At M (p + 1) B := fun i s hs => by
 have := h (i + 1) s (by simpa using hs)
 rwa [show p + (i + 1) = p + 1 + i from by omega] at this
theorem WayN.out {M : List St} {m i k : Nat} {w : List UInt8} {l : List Int} (h : WayN M m i w k) (hi : M[i]? = some (stF l)) (hk : k ≠ i) : ∃ (j m' : Nat), (j : Int) ∈ l ∧ m = m' + 1 ∧ WayN M m' j w k := by
 cases h with
 | here => exact absurd rfl hk
 | free a b c =>
  rw [hi] at a
  injection a with a
  subst a
  exact ⟨_, _, b, rfl, c⟩
 | byte a b c d =>
  rw [hi] at a
  injection a with a
  subst a
  cases b
theorem plainT_parts {k : Int} {s : Nat → Bool} {l : List T} (h : plainT (.node k s l) = true) : ∀ x ∈ l, plainT x = true := by
 simp only [plainT, Bool.and_eq_true] at h
 exact fun x hx => (plainL_iff.1 h.1.2 x hx).2
theorem plainT_star {s : Nat → Bool} {l : List T} (h : plainT (.node 6 s l) = true) : ∃ x, l = [x] := by
 simp only [plainT, Bool.and_eq_true, countT] at h
 have : l.length = 1 := by
  have h2 := h.1.1.2
  simpa using h2
 match l, this with
 | [x], _ => exact ⟨x, rfl⟩
theorem plainT_kind {k : Int} {s : Nat → Bool} {l : List T} (h : plainT (.node k s l) = true) : k = 1 ∨ k = 2 ∨ k = 3 ∨ k = 4 ∨ k = 5 ∨ k = 6 := by
 simp only [plainT, Bool.and_eq_true, countT] at h
 have h2 := h.1.1.2
 by_cases h3 : k = 3
 ·omega
 ·by_cases h1 : k = 1 ∨ k = 2
  ·omega
  ·by_cases h4 : k = 4 ∨ k = 5
   ·omega
   ·rw [if_neg h3, if_neg h1, if_neg h4] at h2
    have : k = 6 := by
     simp at h2
     exact h2.1
    omega
mutual
theorem szT_nodes : ∀ t : T, szT t + 1 ≤ 3 * t.nodes
 | .node k s l => by
  have h1 := szC_nodes l
  have h2 := szA_nodes l
  have h3 := szO_nodes l
  simp only [szT, T.nodes]
  split
  ·omega
  ·split
   ·omega
   ·split <;> omega
theorem szC_nodes : ∀ l : List T, szC l ≤ 3 * nodesL l
 | [] => Nat.le_refl _
 | x :: r => by
  have h1 := szT_nodes x
  have h2 := szC_nodes r
  simp only [szC, nodesL]
  omega
theorem szA_nodes : ∀ l : List T, szA l ≤ 3 * nodesL l ∧ (l.length ≠ 0 → szA l + 1 ≤ 3 * nodesL l)
 | [] => ⟨Nat.le_refl _, fun h => absurd rfl h⟩
 | x :: r => by
  have h1 := szT_nodes x
  have h2 := szA_nodes r
  simp only [szA, nodesL]
  split
  ·omega
  ·next h => have := h2.2 h; omega
theorem szO_nodes : ∀ l : List T, szO l ≤ 3 * nodesL l
 | [] => Nat.le_refl _
 | x :: r => by
  have h1 := szT_nodes x
  simp only [szO, nodesL]
  omega
end
def OkF (hi : Nat) (L : List St) : Prop := ∀ s ∈ L, s.to < (hi : Int) ∧ s.free.length ≤ 2 ∧ ∀ f ∈ s.free, 0 ≤ f ∧ f < (hi : Int)
theorem OkF.cons {hi : Nat} {a : St} {L : List St} (h1 : a.to < (hi : Int) ∧ a.free.length ≤ 2 ∧ ∀ f ∈ a.free, 0 ≤ f ∧ f < (hi : Int)) (h2 : OkF hi L) : OkF hi (a :: L) := fun s hs => by
 rcases List.mem_cons.1 hs with rfl | hs
 ·exact h1
 ·exact h2 s hs
theorem OkF.nil (hi : Nat) : OkF hi [] := fun s hs => by cases hs
theorem OkF.app {hi : Nat} {A B : List St} (h1 : OkF hi A) (h2 : OkF hi B) : OkF hi (A ++ B) := fun s hs => by
 rcases List.mem_append.1 hs with hs | hs
 ·exact h1 s hs
 ·exact h2 s hs
theorem ok_stF {hi : Nat} {l : List Int} (h1 : l.length ≤ 2) (h2 : ∀ f ∈ l, 0 ≤ f ∧ f < (hi : Int)) : (stF l).to < (hi : Int) ∧ (stF l).free.length ≤ 2 ∧ ∀ f ∈ (stF l).free, 0 ≤ f ∧ f < (hi : Int) := ⟨by show (-1 : Int) < hi; omega, h1, h2⟩
theorem altL_ok {hi : Nat} : ∀ {l : List T} {p : Nat}, p + szA l ≤ hi → (altL l p).length ≤ 2 ∧ ∀ f ∈ altL l p, 0 ≤ f ∧ f < (hi : Int)
 | [], p, _ => ⟨Nat.zero_le _, fun f hf => by cases hf⟩
 | x :: r, p, h => by
  have h2 := szT_two x
  rw [altL_cons]
  simp only [szA] at h
  split
  ·refine ⟨by simp, fun f hf => ?_⟩
   obtain rfl := List.mem_singleton.1 hf
   omega
  ·next h0 =>
   rw [if_neg h0] at h
   refine ⟨by simp, fun f hf => ?_⟩
   rcases List.mem_cons.1 hf with rfl | hf
   ·omega
   ·obtain rfl := List.mem_singleton.1 hf
    omega
mutual
theorem fragT_ok (hi : Nat) : ∀ (t : T) (n : Nat) (c : List Int), n + szT t ≤ hi → c.length ≤ 2 → (∀ f ∈ c, 0 ≤ f ∧ f < (hi : Int)) → OkF hi (fragT t n c)
 | .node k s l, n, c, h, hc1, hc2 => by
  have hsz := szT_two (.node k s l)
  have hc := ok_stF hc1 hc2
  have one : ∀ x : Nat, x < hi → ((stF [(x : Int)]).to < (hi : Int) ∧ (stF [(x : Int)]).free.length ≤ 2 ∧ ∀ f ∈ (stF [(x : Int)]).free, 0 ≤ f ∧ f < (hi : Int)) := fun x hx => ok_stF (by simp) fun f hf => by
   obtain rfl := List.mem_singleton.1 hf
   omega
  simp only [fragT]
  by_cases h3 : k = 3
  ·rw [if_pos h3]
   exact OkF.cons ⟨by show ((n + 1 : Nat) : Int) < hi; omega, Nat.zero_le _, fun f hf => by cases hf⟩ (OkF.cons hc (OkF.nil hi))
  rw [if_neg h3]
  by_cases h4 : k = 4
  ·subst h4
   simp only [szT, if_true] at h
   rw [if_pos rfl]
   refine OkF.cons ?_ (OkF.cons hc (fragC_ok hi l (n + 2) (n + 1) (by omega) (by omega)))
   split
   ·exact one (n + 1) (by omega)
   ·next h0 =>
    refine one (n + 2) ?_
    cases l with
    | nil => exact absurd rfl h0
    | cons x r => have := szT_two x; simp only [szC] at h; omega
  rw [if_neg h4]
  by_cases h5 : k = 5
  ·subst h5
   rw [if_pos rfl]
   have h' : n + 2 + szA l ≤ hi := by simp [szT] at h; omega
   have ha := altL_ok h'
   exact OkF.cons (ok_stF ha.1 ha.2) (OkF.cons hc (fragA_ok hi l (n + 2) (n + 1) h' (by omega)))
  rw [if_neg h5]
  by_cases h6 : k = 6
  ·subst h6
   rw [if_pos rfl]
   have h' : n + 2 + szO l ≤ hi := by simp [szT] at h; omega
   refine OkF.cons (ok_stF ?_ fun f hf => ?_) (OkF.cons hc (fragO_ok hi l (n + 2) n h' (by omega)))
   ·split <;> simp
   ·rcases List.mem_append.1 hf with hf | hf
    ·split at hf
     ·cases hf
     ·next h0 =>
      obtain rfl := List.mem_singleton.1 hf
      cases l with
      | nil => exact absurd rfl h0
      | cons x r => have := szT_two x; simp only [szO] at h'; omega
    ·obtain rfl := List.mem_singleton.1 hf
     omega
  rw [if_neg h6]
  by_cases h2 : k = 2
  ·rw [if_pos h2]
   exact OkF.cons (one (n + 1) (by omega)) (OkF.cons hc (OkF.nil hi))
  ·rw [if_neg h2]
   exact OkF.cons (ok_stF (by simp) fun f hf => by cases hf) (OkF.cons hc (OkF.nil hi))
theorem fragC_ok (hi : Nat) : ∀ (l : List T) (p z : Nat), p + szC l ≤ hi → z < hi → OkF hi (fragC l p z)
 | [], _, _, _, _ => OkF.nil hi
 | x :: r, p, z, h, hz => by
  simp only [szC] at h
  simp only [fragC]
  refine (fragT_ok hi x p _ (by omega) (by simp) fun f hf => ?_).app (fragC_ok hi r (p + szT x) z (by omega) hz)
  obtain rfl := List.mem_singleton.1 hf
  split
  ·omega
  ·next h0 =>
   cases r with
   | nil => exact absurd rfl h0
   | cons y q => have := szT_two y; simp only [szC] at h; omega
theorem fragA_ok (hi : Nat) : ∀ (l : List T) (p z : Nat), p + szA l ≤ hi → z < hi → OkF hi (fragA l p z)
 | [], _, _, _, _ => OkF.nil hi
 | x :: r, p, z, h, hz => by
  simp only [szA] at h
  simp only [fragA]
  refine (fragT_ok hi x p _ (by omega) (by simp) fun f hf => ?_).app ?_
  ·obtain rfl := List.mem_singleton.1 hf
   omega
  ·split
   ·exact OkF.nil hi
   ·next h0 =>
    rw [if_neg h0] at h
    have ha := altL_ok (hi := hi) (l := r) (p := p + szT x + 1) (by omega)
    exact OkF.cons (ok_stF ha.1 ha.2) (fragA_ok hi r (p + szT x + 1) z (by omega) hz)
theorem fragO_ok (hi : Nat) : ∀ (l : List T) (p z : Nat), p + szO l ≤ hi → z < hi → OkF hi (fragO l p z)
 | [], _, _, _, _ => OkF.nil hi
 | x :: r, p, z, h, hz => by
  simp only [szO] at h
  simp only [fragO]
  refine fragT_ok hi x p _ (by omega) (by simp) fun f hf => ?_
  obtain rfl := List.mem_singleton.1 hf
  omega
end
theorem frag_may {t : T} (h : t.nodes ≤ 400) : MayN (fragT t 0 []) 0 1 := by
 have hl := fragT_len t 0 []
 have h2 := szT_two t
 have h3 := szT_nodes t
 have hok := fragT_ok (fragT t 0 []).length t 0 [] (by rw [hl]; omega) (by simp) (fun f hf => by cases hf)
 exact ⟨by omega, by omega, by omega, by omega, by omega, fun s hs => (hok s hs).1, fun s hs => by have := (hok s hs).2.1; omega, fun s hs => (hok s hs).2.2⟩
/-! ### cells of states -/
def cellsN (S : List St) (fv : Nat → Value) : List (List Value) := S.zipIdx.map fun p => stc p.1 (fv p.2)
theorem cellsN_get (S : List St) (fv : Nat → Value) (i : Nat) : (cellsN S fv)[i]? = S[i]?.map fun s => stc s (fv i) := by
 unfold cellsN
 rw [List.getElem?_map, List.getElem?_zipIdx]
 cases S[i]? <;> simp
theorem cellsN_len (S : List St) (fv : Nat → Value) : (cellsN S fv).length = S.length := by simp [cellsN]
theorem cellsN_six (S : List St) (fv : Nat → Value) : ∀ c ∈ cellsN S fv, c.length = 6 := fun c hc => by
 obtain ⟨p, _, rfl⟩ := List.mem_map.1 hc
 rfl
theorem cellsN_flat (S : List St) (fv : Nat → Value) {i j : Nat} {s : St} (hs : S[i]? = some s) (hj : j < 6) : (cellsN S fv).flatten[i * 6 + j]? = (stc s (fv i))[j]? :=
 flat6_get (cellsN_six S fv) (by rw [cellsN_get, hs]; rfl) j hj
theorem flat6_set : ∀ {cs : List (List Value)} (_ : ∀ c ∈ cs, c.length = 6) {i j : Nat} {c : List Value} (u : Value), cs[i]? = some c → j < 6 → cs.flatten.set (i * 6 + j) u = (cs.set i (c.set j u)).flatten
 | [], _, i, j, c, u, h, _ => by simp at h
 | a :: r, hl, 0, j, c, u, h, hj => by
  have : a = c := by simpa using h
  subst this
  have h6 := hl a (by simp)
  rw [List.flatten_cons, Nat.zero_mul, Nat.zero_add, List.set_append_left _ _ (by omega), List.set_cons_zero, List.flatten_cons]
 | a :: r, hl, i + 1, j, c, u, h, hj => by
  have h6 := hl a (by simp)
  have ih := flat6_set (cs := r) (fun d hd => hl d (List.mem_cons_of_mem _ hd)) (i := i) (j := j) (c := c) u (by simpa using h) hj
  rw [List.flatten_cons, List.set_append_right _ _ (by omega), List.set_cons_succ, List.flatten_cons, ← ih]
  congr 2
  omega
def updV (fv : Nat → Value) (i : Nat) (u : Value) : Nat → Value := fun j => if j = i then u else fv j
theorem cellsN_mod {S : List St} {fv : Nat → Value} {i : Nat} {s : St} (hs : S[i]? = some s) (g : St → St) (u : Value) (c : List Value) (hc : c = stc (g s) u) : (cellsN S fv).set i c = cellsN (S.modify i g) (updV fv i u) := by
 apply List.ext_getElem?
 intro j
 rw [cellsN_get, List.getElem?_modify, List.getElem?_set, cellsN_len]
 have hi := (List.getElem?_eq_some_iff.1 hs).1
 unfold updV
 by_cases hij : i = j
 ·subst hij
  rw [if_pos rfl, if_pos hi, hs, hc]
  simp
 ·rw [if_neg hij, cellsN_get]
  have : ¬ j = i := fun h => hij h.symm
  cases S[j]? <;> simp [hij, this]
theorem cellsN_app (S : List St) (s : St) (fv : Nat → Value) (u : Value) : cellsN (S ++ [s]) (updV fv S.length u) = cellsN S fv ++ [stc s u] := by
 apply List.ext_getElem?
 intro j
 rw [cellsN_get, List.getElem?_append, List.getElem?_append, cellsN_len]
 unfold updV
 by_cases hj : j < S.length
 ·rw [if_pos hj, if_pos hj, cellsN_get, if_neg (by omega)]
 ·rw [if_neg hj, if_neg hj]
  by_cases h0 : j = S.length
  ·subst h0; simp
  ·rw [List.getElem?_eq_none (by simp; omega), List.getElem?_eq_none (by simp; omega)]; rfl
/-! ### rows of the call's own, one cell turned -/
theorem own_set {w : World} {base n k cap g : Nat} {e : TypeId} {xs : List Value} (h : w.ownsRow base e k (.slice (some ⟨g, 0, none⟩) n cap) n xs) {j : Nat} (hj : j < xs.length) (u : Value) : (w.setCell ⟨g, j, none⟩ u).ownsRow base e k (.slice (some ⟨g, 0, none⟩) n cap) n (xs.set j u) := by
 refine ⟨by rw [List.length_set]; exact h.1, ?_⟩
 rcases h.2 with ⟨he, h0⟩ | ⟨g', cap', cur, he, hb, hg, hnc, hcm, hcs, ht⟩
 ·cases he
 ·injection he with h1 h2 h3
  injection h1 with h1
  injection h1 with h1
  subst h1
  subst h3
  refine .inr ⟨g, cap, cur.setIfInBounds j u, rfl, hb, ?_, hnc, hcm, by simp [hcs], ?_⟩
  ·have : Blk w g e cur.toList := by unfold Blk; simpa using hg
   have h2 := this.set j u
   unfold Blk at h2
   rw [h2]
   congr 2
   apply Array.ext'
   simp
  ·rw [Array.toList_setIfInBounds, ← ht, List.take_set]
theorem own_cell {w : World} {base n k cap g : Nat} {e : TypeId} {xs : List Value} (h : w.ownsRow base e k (.slice (some ⟨g, 0, none⟩) n cap) n xs) {j : Nat} {u : Value} (hj : xs[j]? = some u) : w.cell? ⟨g, j, none⟩ = some u ∧ w.frozen? ⟨g, j, none⟩ = false := by
 refine ⟨by have := h.cells (g := g) rfl j u hj; rwa [Addr.add_lit, Nat.zero_add] at this, ?_⟩
 rcases h.2 with ⟨he, h0⟩ | ⟨g', cap', cur, he, hb, hg, hnc, hcm, hcs, ht⟩
 ·cases he
 ·injection he with h1 h2 h3
  injection h1 with h1
  injection h1 with h1
  subst h1
  simp [World.frozen?, hg]
/-! ### a builder -/
structure Bld (w : World) (B g : Nat) (lv : Value) (fv : Nat → Value) (S : List St) : Prop where
 blk : Blk w g 80 [lv]
 own : w.ownsRow B 49 6 lv S.length (cellsN S fv).flatten
 free : ∀ i s, S[i]? = some s → w.ownsRow B 3 1 (fv i) s.free.length (nums .i64 s.free)
 lg : lv.ownBlock ≠ some g
 fg : ∀ i, i < S.length → (fv i).ownBlock ≠ some g
 fl : ∀ i k, i < S.length → (fv i).ownBlock = some k → lv.ownBlock ≠ some k
 ff : ∀ i j k, i < S.length → j < S.length → i ≠ j → (fv i).ownBlock = some k → (fv j).ownBlock ≠ some k
def Bd (g : Nat) (lv : Value) (fv : Nat → Value) (n k : Nat) : Prop := k = g ∨ lv.ownBlock = some k ∨ ∃ i, i < n ∧ (fv i).ownBlock = some k
structure BldV (w : World) (B g : Nat) (D : Nat → Prop) (S : List St) : Prop where
 is : ∃ lv fv, Bld w B g lv fv S ∧ ∀ k, Bd g lv fv S.length k → D k
 dB : ∀ k, D k → B ≤ k
 dl : ∀ k, D k → k < w.heap.size
def up (D : Nat → Prop) (w w' : World) (k : Nat) : Prop := D k ∨ (w.heap.size ≤ k ∧ k < w'.heap.size)
section
variable {w w' w'' : World} {B g : Nat} {D D' : Nat → Prop} {S : List St} {lv : Value} {fv : Nat → Value}
theorem Bld.lt (h : Bld w B g lv fv S) {k : Nat} (hk : Bd g lv fv S.length k) : k < w.heap.size := by
 rcases hk with rfl | hk | ⟨i, hi, hk⟩
 ·exact h.blk.lt
 ·exact (own6_lt h.own k hk).1
 ·exact (own6_lt (h.free i _ (List.getElem?_eq_getElem hi)) k hk).1
theorem Bld.stay (h : Bld w B g lv fv S) (hb : ∀ k, Bd g lv fv S.length k → w'.heap[k]? = w.heap[k]?) : Bld w' B g lv fv S :=
 ⟨(hb g (.inl rfl)).trans h.blk, own6_stay h.own fun j hj => hb j (.inr (.inl hj)), fun i s hs => own6_stay (h.free i s hs) fun j hj => hb j (.inr (.inr ⟨i, (List.getElem?_eq_some_iff.1 hs).1, hj⟩)), h.lg, h.fg, h.fl, h.ff⟩
theorem BldV.below (h : BldV w B g D S) (hb : Below w.heap.size w w') : BldV w' B g D S := by
 obtain ⟨lv, fv, h1, h2⟩ := h.is
 exact ⟨⟨lv, fv, h1.stay fun k hk => hb.block k (h1.lt hk), h2⟩, h.dB, fun k hk => Nat.lt_of_lt_of_le (h.dl k hk) hb.size⟩
theorem BldV.mono (h : BldV w B g D S) (hD : ∀ k, D k → D' k) (hB : ∀ k, D' k → B ≤ k) (hl : ∀ k, D' k → k < w.heap.size) : BldV w B g D' S := by
 obtain ⟨lv, fv, h1, h2⟩ := h.is
 exact ⟨⟨lv, fv, h1, fun k hk => hD k (h2 k hk)⟩, hB, hl⟩
theorem BldV.lt (h : BldV w B g D S) : g < w.heap.size := by
 obtain ⟨lv, fv, h1, h2⟩ := h.is
 exact h1.blk.lt
theorem BldV.size (h : BldV w B g D S) : B ≤ w.heap.size := by
 obtain ⟨lv, fv, h1, h2⟩ := h.is
 exact Nat.le_of_lt (Nat.lt_of_le_of_lt (h.dB g (h2 g (.inl rfl))) h1.blk.lt)
theorem BldV.off (h : BldV w B g D S) (ho : Off D w w') : Below B w w' := ho.below h.dB h.size
theorem up_trans (h1 : w.heap.size ≤ w'.heap.size) (h2 : w'.heap.size ≤ w''.heap.size) : ∀ k, up (up D w w') w' w'' k → up D w w'' k := fun k hk => by
 rcases hk with (hk | hk) | hk
 ·exact .inl hk
 ·exact .inr ⟨hk.1, Nat.lt_of_lt_of_le hk.2 h2⟩
 ·exact .inr ⟨Nat.le_trans h1 hk.1, hk.2⟩
theorem off_trans (x : Off D w w') (y : Off (up D w w') w' w'') : Off D w w'' := by
 refine ⟨y.os.trans x.os, y.tape.trans x.tape, y.output.trans x.output, Nat.le_trans x.size y.size, fun k hk hn => ?_⟩
 refine (y.block k (Nat.lt_of_lt_of_le hk x.size) fun hd => ?_).trans (x.block k hk hn)
 rcases hd with e | e
 ·exact hn e
 ·omega
structure BPost (w : World) (B g : Nat) (D : Nat → Prop) (S : List St) (w' : World) : Prop where
 bld : BldV w' B g (up D w w') S
 off : Off D w w'
 sz : B ≤ w.heap.size
theorem BPost.trans {S' : List St} (x : BPost w B g D S w') (y : BPost w' B g (up D w w') S' w'') : BPost w B g D S' w'' := by
 refine ⟨y.bld.mono (up_trans x.off.size y.off.size) (fun k hk => ?_) (fun k hk => ?_), off_trans x.off y.off, x.sz⟩
 ·rcases hk with hk | hk
  ·exact x.bld.dB k (.inl hk)
  ·exact Nat.le_trans x.sz hk.1
 ·rcases hk with hk | hk
  ·exact y.bld.dl k (.inl (.inl hk))
  ·exact hk.2
theorem BPost.below (x : BPost w B g D S w') {w0 : World} (hD : ∀ k, D k → B ≤ k) (hb : Below B w0 w) : Below B w0 w' := hb.trans (x.off.below hD x.sz)
theorem BPost.pre (hb : Below w.heap.size w w') (hD : ∀ k, D k → k < w.heap.size) (x : BPost w' B g D S w'') (hB : B ≤ w.heap.size) : BPost w B g D S w'' := by
 refine ⟨x.bld.mono (fun k hk => ?_) (fun k hk => ?_) fun k hk => ?_, ?_, hB⟩
 ·rcases hk with hk | hk
  ·exact .inl hk
  ·exact .inr ⟨Nat.le_trans hb.size hk.1, hk.2⟩
 ·rcases hk with hk | hk
  ·exact x.bld.dB k (.inl hk)
  ·exact Nat.le_trans hB hk.1
 ·rcases hk with hk | hk
  ·exact x.bld.dl k (.inl hk)
  ·exact hk.2
 ·exact (Off.new D hb).trans x.off
end
/-! ### laws of rows of states -/
theorem builtN : Tryd.prog.built 49 [(1, .int .i64 (-1))] = some (stc st0 (.slice none 0 0)).toArray := by kernel_rfl
section
variable {P : Program} {w : World} {ops : Array Oper} {rest : List Oper} {o : Oper} {a : Act} {K : Act → World → Prop} {Q : Exit → Act → World → Prop}
theorem wpList_bldN (hg : o.guard = none) (t e : TypeId) (x : Operand) (ho : o.op = .buildSlice t 1 #[(0, x)]) (i : TypeInfo) (ht : P.underlying t = some (.slice e)) (hi : P.info? e = some i) (z : List Value) (hz6 : z.length = 6) (hz : i.zero = some (.agg z.toArray)) (hs : i.size = 6) (ds : List Value) (hl : ds.length = 6)
  (hx : a.eval x = .agg ds.toArray)
  (h : ∀ w', Blk w' w.heap.size e ds → Below w.heap.size w w' → wpList P ops Q rest (a.put o.dst (.slice (some ⟨w.heap.size, 0, none⟩) 1 1)) w') : wpList P ops Q (o :: rest) a w := by
 have hrun : (Instr.buildSlice t 1 #[(0, .agg ds.toArray)]).run P w = .ok (.slice (some ⟨w.heap.size, 0, none⟩) 1 1) (w.alloc (.cells ds.toArray e)) := by
  have hzv : (zeroValue e).run P w = .ok (.agg z.toArray) w := by simp [zeroValue, typeInfo, hi, hz]
  match ds, hl, z, hz6 with
  | [d0, d1, d2, d3, d4, d5], _, [z0, z1, z2, z3, z4, z5], _ =>
   simp [Instr.buildSlice, run_underlying ht, sizeOf, typeInfo, hi, hs, hzv, Value.cells, Instr.fill, Array.range_succ, Array.range_zero', newRow]
 refine wpList_plain hg fun K hK => ?_
 unfold Oper.wp
 simp only [execOp, ho, List.map_toArray, List.map_cons, List.map_nil, hx, hrun, Sem.run_bind, Result.andThen_ok, Sem.run_pure]
 exact hK _ _ (h _ (Blk.new w e _) ((Below.refl _ _).alloc (Nat.le_refl _) _))
theorem wpList_appN {base : Nat} (hg : o.guard = none) (s x : Operand) (t : TypeId)
  (ho : o.op = .call { callee := .builtin .append, args := #[s, x], argTypes := #[t, t] })
  (e : TypeId) (i : TypeInfo) (z : List Value) (ht : P.underlying t = some (.slice e)) (hi : P.info? e = some i) (hz6 : z.length = 6) (hz : i.zero = some (.agg z.toArray)) (hsize : i.size = 6) (hby : i.bytes = 64)
  (v : Value) (n : Nat) (xs : List Value) (hs : a.eval s = v) (hown : w.ownsRow base e 6 v n xs)
  (g cap : Nat) (tg : TypeId) (c : List Value) (hc6 : c.length = 6) (hc1 : ∀ u ∈ c, u.oneCell' = true) (hx : a.eval x = .slice (some ⟨g, 0, none⟩) 1 cap) (hr : Blk w g tg c)
  (hlen : n + 1 ≤ 1048576) (hb : base ≤ w.heap.size)
  (h : ∀ v' w', w'.ownsRow base e 6 v' (n + 1) (xs ++ c) → w.grownBy w' v.ownBlock → (∀ k, v'.ownBlock = some k → v.ownBlock = some k ∨ w.heap.size ≤ k) → wpList P ops Q rest (a.put o.dst v') w') : wpList P ops Q (o :: rest) a w := by
 have hnews : ∀ j u, c[j]? = some u → w.cell? ((⟨g, 0, none⟩ : Addr).add j) = some u := fun j u hj => by
  rw [Addr.add_lit, Nat.zero_add, hr.cell j]
  exact hj
 obtain ⟨v', w', hrun, hown', hgr, _⟩ := run_append_own (P := P) w base t o.type e i _ 6 64 ht hi hz hsize hby (by simp [Value.cells, hz6]) (by omega) v n xs hown ⟨g, 0, none⟩ 1 cap c (by omega) hnews hc1 (by unfold maxLen; omega) (by omega) hb
 have hwh := append_where (P := P) (w := w) base t o.type e i _ 6 64 ht hi hz hsize hby (by omega) v n xs hown ⟨g, 0, none⟩ 1 cap c (by omega) hnews hc1 (by unfold maxLen; omega) (by omega) hrun
 refine wpList_plain hg fun K hK => ?_
 unfold Oper.wp execOp
 simp only [ho, resolve, invoke, builtin, Sem.run_bind, Sem.run_pure, Result.andThen_ok, List.map_toArray, List.map_cons, List.map_nil, hs, hx, hrun]
 exact hK _ _ (h v' w' hown' hgr hwh)
end
end Go.Proofs.YteadghoojeehlaaDoor
