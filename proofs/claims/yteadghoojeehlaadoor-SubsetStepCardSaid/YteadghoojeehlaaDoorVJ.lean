/-
  Texts of this proof, put together: SbE, Off, SbF, BsI, SbH. No statement is proved here.
-/
import Derived.Test.YteadghoojeehlaaDoorVI
import Derived.Test.YteadghoojeehlaaDoorVA
import Derived.Test.YteadghoojeehlaaDoorVH
import Derived.Test.YteadghoojeehlaaDoorVE
namespace Go.Proofs.YteadghoojeehlaaDoor
open Go.RowKit
set_option linter.unusedSimpArgs false
set_option linter.unusedVariables false
set_option maxHeartbeats 1000000 in
theorem gHas_any (t : Nat → Bool) (s b off : Nat) (hs : s < 2048) (w : World) (hb : b < w.heap.size) (hr : w.rangeAt b off (gds t)) :
  Calls Tryd.prog 27 #[.pointer (some ⟨b, off, none⟩), .int .i64 (s : Int)] w fun e w' => e = .returned (.bool (t s)) ∧ w' = w := by
 obtain ⟨x, hx⟩ : ∃ x, x = word t (s / 64) := ⟨_, rfl⟩
 have hlt := word_lt t (s / 64)
 have hsh := word_shift t s
 have hc := hr (s / 64) _ (gds_get t (i := s / 64) (by omega))
 rw [← hx] at hlt hsh hc
 have HSH := qH hsh
 have q1 := quo64 s
 have q2 := rem64 s
 obtain ⟨k, hk⟩ : ∃ k, k = s / 64 := ⟨_, rfl⟩
 obtain ⟨m, hm⟩ : ∃ m, m = s % 64 := ⟨_, rfl⟩
 have hk32 : k < 32 := by omega
 have hm64 : m < 64 := by omega
 have HK := qH hk
 have HM := qH hm
 rw [← hk] at hc q1
 rw [← hm] at q2
 have w1 : wrap64 ((k : Nat) : Int) = (k : Int) := wrap_32 k hk32
 clear hx hsh hs hk hm hr
 go_enter Tryd.func27, Tryd.ntmps27
 go_wp2_with fail
 go_ret
 refine ⟨?_, rfl⟩
 rw [← HSH.out, ← HM.out]
 refine congrArg (fun b => Ending.returned (.bool b)) ?_
 exact has_bit2 x _ hlt
theorem size_group (t : Nat → Bool) : (Tryd.prog.info? 71).map (·.size) = some (gds t).length := by
 rw [gds_length]
 kernel_rfl
theorem inf_group : (Tryd.prog.info? 71).map (fun i => (i.zero, i.size, i.bytes)) = some (some (.agg (gds fun _ => false).toArray), 32, 256) := by kernel_rfl
def inL (l : List Int) (i : Nat) : Bool := decide ((i : Int) ∈ l)
theorem pow_64 {m : Nat} (h : m < 64) : 2 ^ m < 18446744073709551616 := by
 have h : 2 ^ m < 2 ^ 64 := Nat.pow_lt_pow_right (by omega) h
 exact h
theorem lt_bigM {i n : Nat} (h : i < n) (hn : n ≤ 1048576) : i ≤ 4611686018427387904 := by omega
theorem setCell_below {B : Nat} {w : World} {p : Addr} (hp : B ≤ p.block) (v : Value) : Below B w (w.setCell p v) := (Below.refl B w).setCell hp v
theorem inL_zero (l : List Int) : inL (l.take 0) = fun _ => false := by
 funext i
 simp [inL]
theorem inL_next {l : List Int} {j n : Nat} (h : l[j]? = some (n : Int)) (b : Nat) : inL (l.take (j + 1)) b = (inL (l.take j) b || decide (b = n)) := by
 obtain ⟨hj, he⟩ := List.getElem?_eq_some_iff.1 h
 unfold inL
 rw [List.take_succ_eq_append_getElem hj, he, Bool.eq_iff_iff, Bool.or_eq_true, decide_eq_true_iff, decide_eq_true_iff, decide_eq_true_iff, List.mem_append, List.mem_singleton]
 constructor
 ·rintro (h | h)
  ·exact .inl h
  ·exact .inr (by omega)
 ·rintro (h | h)
  ·exact .inl h
  ·exact .inr (by omega)
set_option maxHeartbeats 2000000 in
set_option maxRecDepth 100000 in
theorem groupOf_any (v : Value) (l : List Int) (w : World) (hr : Row w v (nums .i64 l)) (hl : l.length ≤ 1048576) (hm : ∀ x ∈ l, 0 ≤ x ∧ x < 2048) :
  Calls Tryd.prog 40 #[v] w fun e w' => e = .returned (.agg (gds (inL l)).toArray) ∧ Below w.heap.size w w' := by
 have R0 := qH hr
 have HM := qH hm
 obtain ⟨A, cap, rfl, a1, a2, a0, a3⟩ := hr
 rw [nums_length] at a1 R0 ⊢
 clear a3 a0 a2 hm
 obtain ⟨i0, hi0, hz0, hs0, hy0⟩ := infoP inf_group
 obtain ⟨z, hz⟩ : ∃ z : Nat → Bool, z = fun _ => false := ⟨_, rfl⟩
 rw [← hz] at hz0
 have HZ := qH hz
 clear hz
 go_enter Tryd.func40, Tryd.ntmps40
 go_wp2_with ((with_reducible refine atDst 2 ?_); refine wpList_new rfl 71 rfl i0 _ (gds z) hi0 hz0 rfl (Below.refl w.heap.size w) (Nat.le_refl _) ?_; intro w1 hk1 hb1 hs1 _; have K1 := qH hk1; have B1 := qH hb1; clear hk1 hb1 hs1)
 go_loopw [7] (fun i wl => ∃ j : Nat, j ≤ l.length ∧ i = .int .i64 (j : Int) ∧ Blk wl w.heap.size 71 (gds (inL (l.take j))) ∧ Below w.heap.size w wl) (fun i _ => l.length - (intOf i).toNat)
 case atStart => exact ⟨0, Nat.zero_le _, by simp, by rw [inL_zero, ← HZ.out]; exact K1.out, B1.out⟩
 case round =>
  obtain ⟨j, hj, rfl, hk, hb⟩ := hrel
  have KR := qH hk
  have BR := qH hb
  clear hk hb
  by_cases hjl : j < l.length
  ·have i1 : (j : Int) < (l.length : Int) := by omega
   obtain ⟨b0, off, rfl, hb0, hcell⟩ := (R0.out.below BR.out).at_ (by rw [nums_length]; omega)
   obtain ⟨x, hx⟩ : ∃ x, l[j]? = some x := ⟨_, List.getElem?_eq_getElem hjl⟩
   obtain ⟨hx0, hx1⟩ := HM.out x (List.mem_of_getElem? hx)
   obtain ⟨n, rfl⟩ : ∃ n : Nat, x = (n : Int) := ⟨x.toNat, by omega⟩
   have hcj := hcell j (.int .i64 (n : Int)) (by simp [nums, hx])
   have HN := qH (show n < 2048 by omega)
   have HX := qH hx
   have hgc := KR.out.cell (n / 64)
   rw [gds_get _ (i := n / 64) (by omega)] at hgc
   obtain ⟨y, hy⟩ : ∃ y, y = word (inL (l.take j)) (n / 64) := ⟨_, rfl⟩
   rw [← hy] at hgc
   have hfz := KR.out.frozen (n / 64)
   have HY := qH hy
   have HLY := qH (show y < 18446744073709551616 by rw [hy]; exact word_lt _ _)
   have q1 := quo64 n
   have q2 := rem64 n
   obtain ⟨k, hk⟩ : ∃ k, k = n / 64 := ⟨_, rfl⟩
   obtain ⟨m, hm⟩ : ∃ m, m = n % 64 := ⟨_, rfl⟩
   have HK32 := qH (show k < 32 by omega)
   have HM64 := qH (show m < 64 by omega)
   have HK := qH hk
   have HMM := qH hm
   rw [← hk] at hgc hfz q1
   rw [← hm] at q2
   have Q1 := qH q1
   have Q2 := qH q2
   have HGC := qH hgc
   have HFZ := qH hfz
   have HMN := qH (sub_next hjl)
   have HJ := qH hjl
   have e3 := wrap_one j (lt_bigM hjl hl)
   have e4 := wrap_one' j (lt_bigM hjl hl)
   clear hcell hx hx0 hx1 hy hk hm hgc hfz q1 q2 hj hjl
   obtain ⟨c, hc⟩ : ∃ c, c = y ||| 2 ^ m := ⟨_, rfl⟩
   have HC := qH hc
   clear hc
   go_wp2_with fail
   refine sx_startB (B := w.heap.size) (w0 := w) (by kernel_rfl) BR.out (fun wd hwd hX => ?_)
   have HGD := qH (show wd.cell? ⟨w.heap.size, k, none⟩ = some (.int .u64 (y : Int)) by rw [hwd]; exact HGC.out)
   have HFD := qH (show wd.frozen? ⟨w.heap.size, k, none⟩ = false by rw [hwd]; exact HFZ.out)
   have KD := qH (show Blk wd w.heap.size 71 (gds (inL (l.take j))) by rw [hwd]; exact KR.out)
   clear hwd
   refine sx_take (i := 0) (oi := ⟨some 11, _, _, _, _, _⟩) (v := ?_) rfl (by kernel_rfl) (by kernel_rfl) (by kernel_rfl) (fun _ _ _ h => h) rfl hX ?_ ?_; rotate_left; (intro W hW; go_simp; try with_reducible rfl); simp only [Act.put, qA, qB, qC]
   refine sx_take (i := 1) (oi := ⟨some 12, _, _, _, _, _⟩) (v := .int .i64 (k : Int)) rfl (by kernel_rfl) (by kernel_rfl) (by kernel_rfl) (fun _ _ _ h => h) rfl hX (fun W _ => ex_quo (.tmp 11) rfl rfl rfl Q1.out HK32.out W) ?_; simp only [Act.put, qA, qB, qC]
   refine sx_take (i := 2) (oi := ⟨some 13, _, _, _, _, _⟩) (v := .pointer (some ⟨w.heap.size, k, none⟩)) rfl (by kernel_rfl) (by kernel_rfl) (by kernel_rfl) (fun _ _ _ h => h) rfl hX (fun W _ => ix_grp0 (.tmp 2) (.tmp 12) rfl rfl rfl HK32.out W) ?_; simp only [Act.put, qA, qB, qC]
   refine sx_take (i := 4) (oi := ⟨some 15, _, _, _, _, _⟩) (v := ?_) rfl (by kernel_rfl) (by kernel_rfl) (by kernel_rfl) (fun _ _ _ h => h) rfl hX ?_ ?_; rotate_left; (intro W hW; go_simp; try with_reducible rfl); simp only [Act.put, qA, qB, qC]
   refine sx_take (i := 5) (oi := ⟨some 16, _, _, _, _, _⟩) (v := .int .i64 (m : Int)) rfl (by kernel_rfl) (by kernel_rfl) (by kernel_rfl) (fun _ _ _ h => h) rfl hX (fun W _ => ex_rem (.tmp 15) rfl rfl rfl Q2.out W) ?_; simp only [Act.put, qA, qB, qC]
   refine sx_take (i := 6) (oi := ⟨some 17, _, _, _, _, _⟩) (v := .int .u64 ((2 ^ m : Nat) : Int)) rfl (by kernel_rfl) (by kernel_rfl) (by kernel_rfl) (fun _ _ _ h => h) rfl hX (fun W _ => ex_shl (.tmp 16) rfl rfl rfl HM64.out W) ?_; simp only [Act.put, qA, qB, qC]
   refine sx_actB (i := 3) (o := ⟨some 14, _, _, _, _, _⟩) rfl (by kernel_rfl) rfl hX (fun K hK => ?_)
   refine wp_of_run (v := .int .u64 (y : Int)) (ld_u64 (.tmp 13) rfl rfl HGD.out) ?_
   refine hK _ _ (Below.refl _ _) ?_
   clear hK K
   (try simp only [Act.put, qA, qB, qC])
   refine sx_take (i := 7) (oi := ⟨some 18, _, _, _, _, _⟩) (v := .int .u64 (c : Int)) rfl (by kernel_rfl) (by kernel_rfl) (by kernel_rfl) (fun _ _ _ h => h) rfl hX (fun W _ => ex_or (.tmp 14) (.tmp 17) rfl HC.out rfl rfl HLY.out (pow_64 HM64.out) W) ?_; simp only [Act.put, qA, qB, qC]
   refine sx_take (i := 8) (oi := ⟨some 19, _, _, _, _, _⟩) (v := .pointer (some ⟨w.heap.size, k, none⟩)) rfl (by kernel_rfl) (by kernel_rfl) (by kernel_rfl) (fun _ _ _ h => h) rfl hX (fun W _ => ix_grp0 (.tmp 2) (.tmp 12) rfl rfl rfl HK32.out W) ?_; simp only [Act.put, qA, qB, qC]
   refine sx_actB (i := 9) (o := ⟨none, _, _, _, _, _⟩) rfl (by kernel_rfl) rfl hX (fun K hK => ?_)
   refine wp_stU (.tmp 19) (.tmp 18) rfl rfl rfl HGD.out HFD.out ?_
   have HE := qH (show Blk (wd.setCell ⟨w.heap.size, k, none⟩ (.int .u64 (c : Int))) w.heap.size 71 (gds (inL (l.take (j + 1)))) from by
    have h := KD.out.set k (.int .u64 (c : Int))
    rw [HC.out, HY.out, HK.out, HMM.out, gds_put _ n HN.out] at h
    rw [HC.out, HY.out, HK.out, HMM.out, gds_congr fun b _ => inL_next HX.out b]
    exact h)
   have hX2 := hX.setCell (p := ⟨w.heap.size, k, none⟩) (Nat.le_refl _) (.int .u64 (c : Int))
   refine hK _ _ (setCell_below (p := ⟨w.heap.size, k, none⟩) (Nat.le_refl _) _) ?_
   clear hK K hX
   (try simp only [Act.put, qA, qB, qC])
   refine wpAnyH_done (by kernel_rfl) ?_ _
   have BE := qH hX2
   clear hX2
   go_wp2_with fail
   exact ⟨⟨j + 1, HJ.out, by congr 1, HE.out, BE.out⟩, by simpa [intOf] using HMN.out⟩
  ·obtain rfl : j = l.length := Nat.le_antisymm hj (Nat.not_lt.1 hjl)
   have i1 : ¬ ((l.length : Int) < (l.length : Int)) := Int.lt_irrefl _
   have k9 := KR.out
   rw [List.take_length] at k9
   obtain ⟨q, hq⟩ : ∃ q : Nat → Bool, q = inL l := ⟨_, rfl⟩
   rw [← hq] at k9
   have K9 := qH k9
   have HQ := qH hq
   clear k9 hq KR hj hjl
   go_wp2_with (first
    | ((with_reducible refine atDst 21 ?_); refine wpList_ldArr rfl 71 _ rfl w.heap.size rfl 71 _ _ K9.out Tryd.underlying71 rfl (size_group q) ?_)
    | ((with_reducible refine atStore 71 2 21 ?_); refine wpList_stBlk rfl 71 _ _ rfl w.heap.size (gds q) rfl rfl 71 _ K9.out (size_group q) rfl (gds_all _) BR.out (Nat.le_refl _) ?_; intro w3 hk3 hb3 hs3 _; have K3 := qH hk3; have B3 := qH hb3; clear hk3 hb3))
   refine bodyPost_ret (results_blk rfl _ _ w.heap.size 71 _ _ rfl K3.out Tryd.underlying71 rfl (size_group q)) rfl ?_
   exact ⟨by rw [HQ.out], B3.out⟩
structure Off (D : Nat → Prop) (w w' : World) : Prop where
 os : w'.os = w.os
 tape : w'.tape = w.tape
 output : w'.output = w.output
 size : w.heap.size ≤ w'.heap.size
 block : ∀ k, k < w.heap.size → ¬ D k → w'.heap[k]? = w.heap[k]?
section
variable {D D' : Nat → Prop} {w w1 w2 w' : World} {B b o : Nat}
theorem Off.refl (D : Nat → Prop) (w : World) : Off D w w := ⟨rfl, rfl, rfl, Nat.le_refl _, fun _ _ _ => rfl⟩
theorem Off.start (D : Nat → Prop) (w : World) : Off D w w.drew := ⟨rfl, rfl, rfl, Nat.le_refl _, fun _ _ _ => rfl⟩
theorem Off.trans (h : Off D w w1) (k : Off D w1 w2) : Off D w w2 :=
 ⟨k.os.trans h.os, k.tape.trans h.tape, k.output.trans h.output, Nat.le_trans h.size k.size, fun i hi hn => (k.block i (Nat.lt_of_lt_of_le hi h.size) hn).trans (h.block i hi hn)⟩
theorem Off.mono (h : Off D w w') (hD : ∀ k, k < w.heap.size → D k → D' k) : Off D' w w' := ⟨h.os, h.tape, h.output, h.size, fun k hk hn => h.block k hk fun hd => hn (hD k hk hd)⟩
theorem Off.of (h : Below B w w') (hB : ∀ k, k < w.heap.size → ¬ D k → k < B) : Off D w w' := ⟨h.os, h.tape, h.output, h.size, fun k hk hn => h.block k (hB k hk hn)⟩
theorem Off.new (D : Nat → Prop) (h : Below w.heap.size w w') : Off D w w' := .of h fun k hk _ => hk
theorem Off.put {g : Nat} (h : Below B w w') (ho : ∀ k, k ≠ g → w'.heap[k]? = w.heap[k]?) (hD : w.heap.size ≤ g ∨ D g) : Off D w w' :=
 ⟨h.os, h.tape, h.output, h.size, fun k hk hn => ho k (by rintro rfl; rcases hD with h1 | h1; exact absurd hk (Nat.not_lt.2 h1); exact hn h1)⟩
theorem Off.grown {r : Option Nat} (h : w.grownBy w' r) (hD : ∀ k, r = some k → w.heap.size ≤ k ∨ D k) : Off D w w' :=
 ⟨h.os, h.tape, h.output, h.size, fun k hk hn => h.block k hk fun e => by rcases hD k e.symm with h1 | h1; exact absurd hk (Nat.not_lt.2 h1); exact hn h1⟩
theorem Off.set (w : World) {g : Nat} (i : Nat) (u : Value) (hD : D g) : Off D w (w.setCell ⟨g, i, none⟩ u) :=
 ⟨rfl, rfl, rfl, by simp [World.setCell], fun k hk hn => Below.heap_setCell w ⟨g, i, none⟩ u k (by rintro rfl; exact hn hD)⟩
theorem Off.setCells {g : Nat} (hD : D g) : ∀ (vs : List Value) (o : Nat) (w : World), Off D w (w.setCells g o vs)
 | [], _, w => Off.refl D w
 | v :: r, o, w => (Off.set w o v hD).trans (Off.setCells hD r (o + 1) _)
theorem Off.below (h : Off D w w') (hD : ∀ k, D k → B ≤ k) (hB : B ≤ w.heap.size) : Below B w w' := ⟨h.os, h.tape, h.output, h.size, fun k hk => h.block k (Nat.lt_of_lt_of_le hk hB) fun hd => absurd hk (Nat.not_lt.2 (hD k hd))⟩
theorem Off.cell (h : Off D w w') {v : Value} (hb : b < w.heap.size) (hn : ¬ D b) (hc : w.cell? ⟨b, o, none⟩ = some v) : w'.cell? ⟨b, o, none⟩ = some v := by
 have := h.block b hb hn
 unfold World.cell? at hc ⊢
 simp only [this]
 exact hc
theorem Off.range (h : Off D w w') {cs : List Value} (hb : b < w.heap.size) (hn : ¬ D b) (hc : w.rangeAt b o cs) : w'.rangeAt b o cs := fun j v hv => h.cell hb hn (hc j v hv)
theorem Off.blk (h : Off D w w') {t : TypeId} {cs : List Value} (hn : ¬ D b) (hc : Blk w b t cs) : Blk w' b t cs := (h.block b hc.lt hn).trans hc
theorem Off.then (h : Off D w w1) (hb : Below w1.heap.size w1 w2) : Off D w w2 := h.trans (Off.new D hb)
end
def joinJ (t u : Nat → Bool) (j : Nat) (b : Nat) : Bool := t b || (decide (b < 64 * j) && u b)
theorem set_same {α : Type} {l : List α} {c : Nat} {t : α} (h : l[c]? = some t) : l.set c t = l := by
 obtain ⟨hc, rfl⟩ := List.getElem?_eq_some_iff.1 h
 exact List.set_getElem_self hc
theorem joinJ_zero (t u : Nat → Bool) : joinJ t u 0 = t := by
 funext b
 simp [joinJ]
theorem joinJ_all (t u : Nat → Bool) : gds (joinJ t u 32) = gds fun b => t b || u b := gds_congr fun b hb => by
 unfold joinJ
 rw [decide_eq_true hb, Bool.true_and]
theorem joinJ_word (t u : Nat → Bool) (j : Nat) : word (joinJ t u j) j = word t j := wordG fun i hi => by
 unfold joinJ
 rw [decide_eq_false (by omega)]
 simp
theorem joinJ_next (t u : Nat → Bool) (j : Nat) (hj : j < 32) : (gds (joinJ t u j)).set j (.int .u64 ((word t j ||| word u j : Nat) : Int)) = gds (joinJ t u (j + 1)) := by
 have e : word t j ||| word u j = word (joinJ t u (j + 1)) j := by
  rw [word_or]
  refine wordG fun i hi => ?_
  unfold joinJ
  rw [decide_eq_true (by omega), Bool.true_and]
 rw [e]
 refine gds_set _ j _ hj fun k _ hne => wordG fun i hi => ?_
 unfold joinJ
 have : decide (64 * k + i < 64 * j) = decide (64 * k + i < 64 * (j + 1)) := decide_eq_decide.2 (by omega)
 rw [this]
theorem grs_setW {ts : List (Nat → Bool)} {c j : Nat} {t u : Nat → Bool} (hc : ts[c]? = some t) (hj : j < 32) : (grs (ts.set c (joinJ t u j))).set (c * 32 + j) (.int .u64 ((word t j ||| word u j : Nat) : Int)) = grs (ts.set c (joinJ t u (j + 1))) := by
 have hl := (List.getElem?_eq_some_iff.1 hc).1
 have := grs_set (ts.set c (joinJ t u j)) c j (joinJ t u j) (joinJ t u (j + 1)) (.int .u64 ((word t j ||| word u j : Nat) : Int)) (by rw [List.getElem?_set_self hl]) hj (joinJ_next t u j hj)
 rwa [List.set_set] at this
theorem grs_congr : ∀ {ts : List (Nat → Bool)} {c : Nat} {t p q : Nat → Bool}, ts[c]? = some t → gds p = gds q → grs (ts.set c p) = grs (ts.set c q)
 | [], _, _, _, _, h, _ => by simp at h
 | x :: r, 0, _, p, q, _, hpq => by
  have e1 : grs (List.set (x :: r) 0 p) = gds p ++ grs r := rfl
  have e2 : grs (List.set (x :: r) 0 q) = gds q ++ grs r := rfl
  rw [e1, e2, hpq]
 | x :: r, c + 1, t, p, q, h, hpq => by
  have e1 : grs (List.set (x :: r) (c + 1) p) = gds x ++ grs (r.set c p) := rfl
  have e2 : grs (List.set (x :: r) (c + 1) q) = gds x ++ grs (r.set c q) := rfl
  rw [e1, e2, grs_congr (t := t) (by simpa using h) hpq]
set_option maxHeartbeats 2000000 in
set_option maxRecDepth 100000 in
theorem gJoin_any (ts : List (Nat → Bool)) (c : Nat) (t u : Nat → Bool) (h q oq : Nat) (ty : TypeId) (w : World) (hb : Blk w h ty (grs ts)) (hc : ts[c]? = some t) (hl : ts.length ≤ 1000) (hq : w.rangeAt q oq (gds u)) (hqs : q < w.heap.size) (hne : q ≠ h) :
  Calls Tryd.prog 43 #[.pointer (some ⟨h, c * 32, none⟩), .pointer (some ⟨q, oq, none⟩)] w fun e w' => e = .returned (.tuple #[]) ∧ Blk w' h ty (grs (ts.set c fun b => t b || u b)) ∧ Off (fun k => k = h) w w' := by
 have KB := qH hb
 have HCC := qH hc
 have HQ := qH hq
 have HQS := qH hqs
 have HNE := qH hne
 clear hb hc hq hqs hne
 go_enter Tryd.func43, Tryd.ntmps43
 go_wp2_with fail
 go_loopw [7] (fun i wl => ∃ j : Nat, j ≤ 32 ∧ i = .int .i64 (j : Int) ∧ Blk wl h ty (grs (ts.set c (joinJ t u j))) ∧ Off (fun k => k = h) w wl) (fun i _ => 32 - (intOf i).toNat)
 case atStart => exact ⟨0, Nat.zero_le _, by simp, by rw [joinJ_zero, set_same HCC.out]; exact KB.out, Off.refl _ _⟩
 case round =>
  obtain ⟨j, hj, rfl, hk, ho⟩ := hrel
  have KR := qH hk
  have OR := qH ho
  clear hk ho
  obtain ⟨wo, hwo⟩ : ∃ wo : World, wo = wr := ⟨_, rfl⟩
  subst hwo
  by_cases hjl : j < 32
  ·have i1 : (j : Int) < 32 := by omega
   have HJ := qH hjl
   have HMN := qH (sub_next hjl)
   have e3 := wrap_one j (by omega)
   have e4 := wrap_one' j (by omega)
   obtain ⟨x, hx⟩ : ∃ x, x = word t j := ⟨_, rfl⟩
   obtain ⟨y, hy⟩ : ∃ y, y = word u j := ⟨_, rfl⟩
   have HX := qH hx
   have HY := qH hy
   have HLX := qH (show x < 18446744073709551616 by rw [hx]; exact word_lt _ _)
   have HLY := qH (show y < 18446744073709551616 by rw [hy]; exact word_lt _ _)
   have HGX := qH (show wo.cell? ⟨h, c * 32 + j, none⟩ = some (.int .u64 (x : Int)) by
    rw [KR.out.cell, grs_get (List.getElem?_set_self (List.getElem?_eq_some_iff.1 HCC.out).1) j hjl, gds_get _ hjl, joinJ_word, hx])
   have HFX := qH (KR.out.frozen (c * 32 + j))
   have HGY := qH (show wo.cell? ⟨q, oq + j, none⟩ = some (.int .u64 (y : Int)) by
    have := OR.out.cell HQS.out (fun e => HNE.out e) (HQ.out j _ (gds_get u hjl))
    rw [hy]; exact this)
   obtain ⟨z, hz⟩ : ∃ z, z = x ||| y := ⟨_, rfl⟩
   have HZ := qH hz
   clear hj hjl hx hy hz
   go_wp2_with fail
   refine sx_startB (B := wo.heap.size) (w0 := wo) (by kernel_rfl) (Below.refl _ _) (fun wd hwd hX => ?_)
   have HWH := qH KR.out.lt
   have HWQ := qH (Nat.lt_of_lt_of_le HQS.out OR.out.size)
   clear hwd
   refine sx_take (i := 0) (oi := ⟨some 9, _, _, _, _, _⟩) (v := ?_) rfl (by kernel_rfl) (by kernel_rfl) (by kernel_rfl) (fun _ _ _ h => h) rfl hX ?_ ?_; rotate_left; (intro W hW; go_simp; try with_reducible rfl); simp only [Act.put, qA, qB, qC]
   refine sx_take (i := 1) (oi := ⟨some 10, _, _, _, _, _⟩) (v := ?_) rfl (by kernel_rfl) (by kernel_rfl) (by kernel_rfl) (fun _ _ _ h => h) rfl hX ?_ ?_; rotate_left; (intro W hW; go_simp; try with_reducible rfl); simp only [Act.put, qA, qB, qC]
   refine sx_take (i := 2) (oi := ⟨some 11, _, _, _, _, _⟩) (v := .pointer (some ⟨q, oq + j, none⟩)) rfl (by kernel_rfl) (by kernel_rfl) (by kernel_rfl) (fun _ _ _ h => h) rfl hX (fun W _ => ix_grp (.tmp 10) (.tmp 7) rfl rfl rfl HJ.out W) ?_; simp only [Act.put, qA, qB, qC]
   refine sx_take (i := 3) (oi := ⟨some 12, _, _, _, _, _⟩) (v := .int .u64 (y : Int)) rfl (by kernel_rfl) (by kernel_rfl) (by kernel_rfl) (fun _ _ _ h => h) rfl hX (fun W hW => ld_u64 (.tmp 11) rfl rfl ((hW.cell (p := ⟨q, oq + j, none⟩) HWQ.out).trans HGY.out)) ?_; simp only [Act.put, qA, qB, qC]
   refine sx_take (i := 4) (oi := ⟨some 4, _, _, _, _, _⟩) (v := ?_) rfl (by kernel_rfl) (by kernel_rfl) (by kernel_rfl) (fun _ _ _ h => h) rfl hX ?_ ?_; rotate_left; (intro W hW; go_simp; try with_reducible rfl); simp only [Act.put, qA, qB, qC]
   refine sx_take (i := 5) (oi := ⟨some 5, _, _, _, _, _⟩) (v := ?_) rfl (by kernel_rfl) (by kernel_rfl) (by kernel_rfl) (fun _ _ _ h => h) rfl hX ?_ ?_; rotate_left; (intro W hW; go_simp; try with_reducible rfl); simp only [Act.put, qA, qB, qC]
   refine wpAnyH_done (by kernel_rfl) ?_ _
   have BD := qH hX
   clear hX
   go_wp2_with fail
   refine sx_startB (B := h) (w0 := wd) (by kernel_rfl) (Below.refl _ _) (fun we hwe hX => ?_)
   have KE := qH (show Blk we h ty (grs (ts.set c (joinJ t u j))) by rw [hwe]; exact KR.out.below BD.out.drew HWH.out)
   have HGE := qH (show we.cell? ⟨h, c * 32 + j, none⟩ = some (.int .u64 (x : Int)) by rw [hwe]; exact (BD.out.cell (p := ⟨h, c * 32 + j, none⟩) HWH.out).trans HGX.out)
   have HFE := qH (KE.out.frozen (c * 32 + j))
   have OE := qH (show Off (fun k => k = h) w we by rw [hwe]; exact OR.out.then BD.out.drew)
   clear hwe
   refine sx_take (i := 0) (oi := ⟨some 13, _, _, _, _, _⟩) (v := ?_) rfl (by kernel_rfl) (by kernel_rfl) (by kernel_rfl) (fun _ _ _ h => h) rfl hX ?_ ?_; rotate_left; (intro W hW; go_simp; try with_reducible rfl); simp only [Act.put, qA, qB, qC]
   refine sx_take (i := 1) (oi := ⟨some 14, _, _, _, _, _⟩) (v := ?_) rfl (by kernel_rfl) (by kernel_rfl) (by kernel_rfl) (fun _ _ _ h => h) rfl hX ?_ ?_; rotate_left; (intro W hW; go_simp; try with_reducible rfl); simp only [Act.put, qA, qB, qC]
   refine sx_take (i := 2) (oi := ⟨some 15, _, _, _, _, _⟩) (v := ?_) rfl (by kernel_rfl) (by kernel_rfl) (by kernel_rfl) (fun _ _ _ h => h) rfl hX ?_ ?_; rotate_left; (intro W hW; go_simp; try with_reducible rfl); simp only [Act.put, qA, qB, qC]
   refine sx_take (i := 3) (oi := ⟨some 16, _, _, _, _, _⟩) (v := .pointer (some ⟨h, c * 32 + j, none⟩)) rfl (by kernel_rfl) (by kernel_rfl) (by kernel_rfl) (fun _ _ _ h => h) rfl hX (fun W _ => ix_grp (.tmp 15) (.tmp 14) rfl rfl rfl HJ.out W) ?_; simp only [Act.put, qA, qB, qC]
   refine sx_take (i := 5) (oi := ⟨some 18, _, _, _, _, _⟩) (v := ?_) rfl (by kernel_rfl) (by kernel_rfl) (by kernel_rfl) (fun _ _ _ h => h) rfl hX ?_ ?_; rotate_left; (intro W hW; go_simp; try with_reducible rfl); simp only [Act.put, qA, qB, qC]
   refine sx_take (i := 7) (oi := ⟨some 20, _, _, _, _, _⟩) (v := ?_) rfl (by kernel_rfl) (by kernel_rfl) (by kernel_rfl) (fun _ _ _ h => h) rfl hX ?_ ?_; rotate_left; (intro W hW; go_simp; try with_reducible rfl); simp only [Act.put, qA, qB, qC]
   refine sx_actB (i := 4) (o := ⟨some 17, _, _, _, _, _⟩) rfl (by kernel_rfl) rfl hX (fun K hK => ?_)
   refine wp_of_run (v := .int .u64 (x : Int)) (ld_u64 (.tmp 16) rfl rfl HGE.out) ?_
   refine hK _ _ (Below.refl _ _) ?_
   clear hK K
   (try simp only [Act.put, qA, qB, qC])
   refine sx_take (i := 6) (oi := ⟨some 19, _, _, _, _, _⟩) (v := .int .u64 (z : Int)) rfl (by kernel_rfl) (by kernel_rfl) (by kernel_rfl) (fun _ _ _ h => h) rfl hX (fun W _ => ex_or (.tmp 17) (.tmp 18) rfl HZ.out rfl rfl HLX.out HLY.out W) ?_; simp only [Act.put, qA, qB, qC]
   refine sx_take (i := 8) (oi := ⟨some 21, _, _, _, _, _⟩) (v := .pointer (some ⟨h, c * 32 + j, none⟩)) rfl (by kernel_rfl) (by kernel_rfl) (by kernel_rfl) (fun _ _ _ h => h) rfl hX (fun W _ => ix_grp (.tmp 20) (.tmp 14) rfl rfl rfl HJ.out W) ?_; simp only [Act.put, qA, qB, qC]
   refine sx_actB (i := 9) (o := ⟨none, _, _, _, _, _⟩) rfl (by kernel_rfl) rfl hX (fun K hK => ?_)
   refine wp_stU (.tmp 21) (.tmp 19) rfl rfl rfl HGE.out HFE.out ?_
   have HE := qH (show Blk (we.setCell ⟨h, c * 32 + j, none⟩ (.int .u64 (z : Int))) h ty (grs (ts.set c (joinJ t u (j + 1)))) from by
    have h1 := KE.out.set (c * 32 + j) (.int .u64 (z : Int))
    rw [HZ.out, HX.out, HY.out, grs_setW HCC.out HJ.out] at h1
    rw [HZ.out, HX.out, HY.out]
    exact h1)
   have OS := qH (OE.out.trans (Off.set we (c * 32 + j) (.int .u64 (z : Int)) (D := fun k => k = h) rfl))
   refine hK _ _ (setCell_below (p := ⟨h, c * 32 + j, none⟩) (Nat.le_refl _) _) ?_
   clear hK K hX
   (try simp only [Act.put, qA, qB, qC])
   refine wpAnyH_done (by kernel_rfl) ?_ _
   go_wp2_with fail
   exact ⟨⟨j + 1, HJ.out, by congr 1, HE.out, OS.out⟩, by simpa [intOf] using HMN.out⟩
  ·obtain rfl : j = 32 := by omega
   have i1 : ¬ ((32 : Int) < 32) := Int.lt_irrefl _
   have KE := qH (show Blk wo h ty (grs (ts.set c fun b => t b || u b)) by
    have h1 := KR.out
    have h2 : grs (ts.set c (joinJ t u 32)) = grs (ts.set c fun b => t b || u b) := grs_congr HCC.out (joinJ_all t u)
    rw [h2] at h1
    exact h1)
   clear KR hj hjl
   go_wp2_with fail
   go_end0
   exact ⟨rfl, KE.out, OR.out⟩
theorem own4Other {w w' : World} {base n k : Nat} {e : TypeId} {v : Value} {xs : List Value} (h : w.ownsRow base e k v n xs) (hb : ∀ j, v.ownBlock = some j → w'.heap[j]? = w.heap[j]?) : w'.ownsRow base e k v n xs := by
 refine ⟨h.1, ?_⟩
 rcases h.2 with h0 | ⟨g, cap, cur, rfl, hb2, hg, h3⟩
 ·exact .inl h0
 ·exact .inr ⟨g, cap, cur, rfl, hb2, (hb g rfl).trans hg, h3⟩
set_option maxHeartbeats 8000000 in
set_option maxRecDepth 100000 in
theorem bsSplit_any (v : Value) (ps : List (Nat → Bool)) (s : Nat → Bool) (w : World) (hr : RowS w v ps) (hl : ps.length ≤ 256) :
  Calls Tryd.prog 64 #[v, .agg (wds s).toArray] w fun e w' => ∃ v', e = .returned v' ∧ w'.ownsRow w.heap.size 47 4 v' (splitS ps s).length (sets (splitS ps s)) ∧ Below w.heap.size w w' := by
 have R0 := qH hr
 obtain ⟨A, cap, rfl, a1, a2, a0, a3⟩ := hr
 clear a3 a0 a2
 obtain ⟨i0, hi0, hz0⟩ := info_set
 obtain ⟨i1, hi1, hy0, hy1, hy2⟩ := infoP inf_set
 obtain ⟨z, hz⟩ : ∃ z : Nat → Bool, z = fun _ => false := ⟨_, rfl⟩
 rw [← hz] at hz0
 have HZ := qH hz
 have HZB := qH (show Tryd.prog.built 47 [] = some (wds z).toArray by rw [hz]; exact zeroB)
 clear hz
 obtain ⟨sn, hsn⟩ : ∃ sn : Nat → Bool, sn = fun b => !s b := ⟨_, rfl⟩
 have HSN := qH hsn
 clear hsn
 go_enter Tryd.func64, Tryd.ntmps64
 go_wp2_with ((with_reducible refine atDst 3 ?_); refine wpList_box rfl 47 _ rfl (wds s) rfl (Below.refl w.heap.size w) (Nat.le_refl _) ?_; intro w1 hk1 hb1 hs1 _; have K1 := qH hk1; have B1 := qH hb1; clear hk1 hb1 hs1)
 go_loopw [4, 11] (fun v i wl => ∃ j : Nat, j ≤ ps.length ∧ i = .int .i64 (j : Int) ∧ wl.ownsRow w1.heap.size 47 4 v (splitS (ps.take j) s).length (sets (splitS (ps.take j) s)) ∧ Below w1.heap.size w1 wl) (fun _ i _ => ps.length - (intOf i).toNat)
 case atStart => exact ⟨0, by omega, by simp, own4N _ _ _, Below.refl _ _⟩
 case round =>
  obtain ⟨j, hj, rfl, ho, hb⟩ := hrel
  have HO := qH ho
  have HB := qH hb
  clear ho hb
  obtain ⟨wo, hwo⟩ : ∃ wo : World, wo = wr := ⟨_, rfl⟩
  subst hwo
  by_cases hjl : j < ps.length
  ·have j1 : (j : Int) < (ps.length : Int) := by omega
   obtain ⟨b0, off, rfl, hb0, hrng⟩ := (R0.out.below (B1.out.trans (HB.out.mono B1.out.size))).at_ (by omega)
   obtain ⟨p, hp⟩ : ∃ p, p = ps[j] := ⟨_, rfl⟩
   have HRG := qH (hrng j p (by rw [hp]; exact List.getElem?_eq_getElem hjl))
   have HNX := qH (splitS_next ps s j hjl)
   rw [← hp] at HNX
   obtain ⟨cur, hcur⟩ : ∃ cur, cur = splitS (ps.take j) s := ⟨_, rfl⟩
   have HCL := qH (show cur.length ≤ 512 by rw [hcur]; have := splitS_len s (ps.take j); rw [List.length_take] at this; omega)
   rw [← hcur] at HO HNX
   clear hp hrng hcur
   go_wp2_with (first
    | ((with_reducible refine atDst 14 ?_); refine wpList_ldMid rfl 47 _ rfl b0 (off + j * 4) rfl (wds p) _ HRG.out Tryd.underlying47 rfl (size_set p) ?_)
    | ((with_reducible refine atDst 6 ?_); refine wpList_new rfl 47 rfl i0 _ (wds z) hi0 hz0 rfl (Below.refl wo.heap.size wo) (Nat.le_refl _) ?_; intro w2 hk2 hb2 hs2 ho2; have K2 := qH hk2; have B2 := qH hb2; clear hk2 hb2 hs2 ho2)
    | ((with_reducible refine atStore 47 6 14 ?_); refine wpList_stBlk rfl 47 _ _ rfl wo.heap.size (wds p) rfl rfl 47 _ K2.out (size_set p) rfl (wds_all _) B2.out (Nat.le_refl _) ?_; intro w3 hk3 hb3 hs3 _; have K3 := qH hk3; have B3 := qH hb3; clear hk3 hb3 hs3))
   have HBO := qH (HB.out.trans (B3.out.mono HB.out.size))
   have O3 := qH (own4Below HO.out B3.out (Nat.le_refl _))
   have L3 := qH (K1.out.below HBO.out K1.out.lt)
   refine sx_startB (B := w3.heap.size) (w0 := w3) (by kernel_rfl) (Below.refl _ _) (fun wd hwd hX => ?_)
   have SZ := qH hX.size
   clear hwd
   refine sx_take (i := 0) (oi := ⟨some 15, _, _, _, _, _⟩) (v := .agg (wds p).toArray) rfl (by kernel_rfl) (by kernel_rfl) (by kernel_rfl) (fun _ _ _ h => h) rfl hX (ld_blk 47 _ rfl wo.heap.size rfl 47 _ _ K3.out K3.out.lt Tryd.underlying47 rfl (size_set p)) ?_
   simp only [Act.put, qA, qB, qC]
   refine sx_take (i := 1) (oi := ⟨some 16, _, _, _, _, _⟩) (v := .agg (wds s).toArray) rfl (by kernel_rfl) (by kernel_rfl) (by kernel_rfl) (fun _ _ _ h => h) rfl hX (ld_blk 47 _ rfl w.heap.size rfl 47 _ _ L3.out L3.out.lt Tryd.underlying47 rfl (size_set s)) ?_
   simp only [Act.put, qA, qB, qC]
   refine sx_take (i := 3) (oi := ⟨some 18, _, _, _, _, _⟩) (v := .agg (wds p).toArray) rfl (by kernel_rfl) (by kernel_rfl) (by kernel_rfl) (fun _ _ _ h => h) rfl hX (ld_blk 47 _ rfl wo.heap.size rfl 47 _ _ K3.out K3.out.lt Tryd.underlying47 rfl (size_set p)) ?_
   simp only [Act.put, qA, qB, qC]
   refine sx_take (i := 4) (oi := ⟨some 19, _, _, _, _, _⟩) (v := .agg (wds s).toArray) rfl (by kernel_rfl) (by kernel_rfl) (by kernel_rfl) (fun _ _ _ h => h) rfl hX (ld_blk 47 _ rfl w.heap.size rfl 47 _ _ L3.out L3.out.lt Tryd.underlying47 rfl (size_set s)) ?_
   simp only [Act.put, qA, qB, qC]
   refine sx_take (i := 8) (oi := ⟨some 23, _, _, _, _, _⟩) (v := ?_) rfl (by kernel_rfl) (by kernel_rfl) (by kernel_rfl) (fun _ _ _ h => h) rfl hX ?_ ?_; rotate_left; (intro W hW; go_simp; try with_reducible rfl); simp only [Act.put, qA, qB, qC]
   refine sx_actB (i := 2) (o := ⟨some 17, _, _, _, _, _⟩) rfl (by kernel_rfl) rfl hX (fun K hK => ?_)
   obtain ⟨q1, hq1⟩ : ∃ q1 : Nat → Bool, q1 = fun b => p b && s b := ⟨_, rfl⟩
   obtain ⟨q2, hq2⟩ : ∃ q2 : Nat → Bool, q2 = fun b => p b && sn b := ⟨_, rfl⟩
   have HPC := qH (show pieces p s = [q1, q2] by rw [hq1, hq2, HSN.out]; rfl)
   have HQ1 := qH hq1
   have HQ2 := qH hq2
   clear hq1 hq2
   go_wp2_with fail
   refine (bsAnd_any p s wd).mono ?_
   rintro e w4 ⟨rfl, hb⟩
   rw [show (fun b => Bool.and (p b) (s b)) = q1 from HQ1.out.symm]
   refine hK _ _ (hb.mono SZ.out) ?_
   clear hK K
   replace hX := hX.trans (hb.mono SZ.out)
   replace SZ := qH (Nat.le_trans SZ.out hb.size)
   clear hb
   refine sx_actB (i := 5) (o := ⟨some 20, _, _, _, _, _⟩) rfl (by kernel_rfl) rfl hX (fun K hK => ?_)
   go_wp2_with fail
   refine (bsNot_any s w4).mono ?_
   rintro e w5 ⟨rfl, hb⟩
   rw [← HSN.out]
   refine hK _ _ (hb.mono SZ.out) ?_
   clear hK K
   replace hX := hX.trans (hb.mono SZ.out)
   replace SZ := qH (Nat.le_trans SZ.out hb.size)
   clear hb
   refine sx_actB (i := 6) (o := ⟨some 21, _, _, _, _, _⟩) rfl (by kernel_rfl) rfl hX (fun K hK => ?_)
   go_wp2_with fail
   refine (bsAnd_any p sn w5).mono ?_
   rintro e w6 ⟨rfl, hb⟩
   rw [show (fun b => Bool.and (p b) (sn b)) = q2 from HQ2.out.symm]
   refine hK _ _ (hb.mono SZ.out) ?_
   clear hK K
   replace hX := hX.trans (hb.mono SZ.out)
   replace SZ := qH (Nat.le_trans SZ.out hb.size)
   clear hb
   refine sx_take (i := 7) (oi := ⟨some 22, _, _, _, _, _⟩) (v := .agg (wds q1 ++ wds q2).toArray) rfl (by kernel_rfl) (by kernel_rfl) (by kernel_rfl) (fun _ _ _ h => h) rfl hX (fun W _ => by have h := runTwo q1 q2 W; simp [execOp]; exact congrArg (fun r => r.andThen fun a w2 => Result.ok (Next.value a) w2) h) ?_
   simp only [Act.put, qA, qB, qC]
   refine wpAnyH_done (by kernel_rfl) ?_ _
   have HB6 := qH hX
   have O6 := qH (own4Below O3.out hX (Nat.le_refl _))
   have BO6 := qH (HBO.out.trans (hX.mono HBO.out.size))
   clear hX SZ
   have HP2 := qH (pieces_next p s)
   rw [HPC.out] at HP2
   go_wp2_with fail
   go_loopw [4, 23] (fun v i wl => ∃ k : Nat, k ≤ 2 ∧ i = .int .i64 (k : Int) ∧ wl.ownsRow w1.heap.size 47 4 v (cur ++ ([q1, q2].take k).filter nonE).length (sets (cur ++ ([q1, q2].take k).filter nonE)) ∧ Below w1.heap.size w1 wl) (fun _ i _ => 2 - (intOf i).toNat)
   case atStart => exact ⟨0, by omega, by simp, by simpa using O6.out, BO6.out⟩
   case round =>
    obtain ⟨k, hk, rfl, ho, hb⟩ := hrel
    have HO2 := qH ho
    have HB2 := qH hb
    clear ho hb HO HB
    by_cases hk2 : k < 2
    ·have k1 : (k : Int) < 2 := by omega
     obtain ⟨q, hq⟩ : ∃ q, [q1, q2][k]? = some q := ⟨_, List.getElem?_eq_getElem hk2⟩
     have hix : ∀ w : World, (Instr.index 123 (.agg (wds q1 ++ wds q2).toArray) (.int .i64 (k : Int))).run Tryd.prog w = .ok (.agg (wds q).toArray) w := by
      intro w
      match k, hk2 with
      | 0, _ =>
       obtain rfl : q1 = q := by simpa using hq
       exact idxP0 _ _ w
      | 1, _ =>
       obtain rfl : q2 = q := by simpa using hq
       exact idxP1 _ _ w
     have HK2 := qH (HP2.out k q hq)
     obtain ⟨c2, hc2⟩ : ∃ c2, c2 = cur ++ ([q1, q2].take k).filter nonE := ⟨_, rfl⟩
     have HCL2 := qH (show c2.length ≤ 514 by
      rw [hc2, List.length_append]
      have h1 := HCL.out
      have h2 := List.length_filter_le nonE ([q1, q2].take k)
      rw [List.length_take] at h2
      omega)
     rw [← hc2] at HO2
     have HC3 := qH (show cur ++ ([q1, q2].take (k + 1)).filter nonE = c2 ++ if nonE q then [q] else [] by rw [HK2.out, ← List.append_assoc, ← hc2])
     have HSB := qH HB2.out.size
     clear hc2 hq
     cases hne : nonE q with
     | false =>
      have HNE := qH (show (!eqS q z) = false by rw [HZ.out]; exact hne)
      rw [hne] at HC3
      clear hne
      go_wp2_with (first
       | ((with_reducible refine atDst 8 ?_); refine wpList_new rfl 47 rfl i0 _ (wds z) hi0 hz0 rfl HB2.out HSB.out ?_; intro w7 hk7 hb7 hs7 ho7; have K7 := qH hk7; have B7 := qH hb7; have O7 := qH (own4Below HO2.out (show Below wr.heap.size wr w7 from ⟨(hb7.os.trans HB2.out.os.symm), (hb7.tape.trans HB2.out.tape.symm), (hb7.output.trans HB2.out.output.symm), by omega, fun k hk => ho7 k hk⟩) (Nat.le_refl _)); clear hk7 hb7 hs7 ho7)
       | ((with_reducible refine atStore 47 8 25 ?_); refine wpList_stBlk rfl 47 _ _ rfl wr.heap.size (wds q) rfl rfl 47 _ K7.out (size_set q) rfl (wds_all _) B7.out HSB.out ?_; intro w8 hk8 hb8 hs8 ho8; have K8 := qH hk8; have B8 := qH hb8; have SB8 := qH hb8.size; have O8 := qH (own4Other O7.out (fun j hj => ho8 j (by have := own4_lt HO2.out j hj; omega))); clear hk8 hb8 ho8)
       | ((with_reducible refine atDst 26 ?_); refine wpList_ldArr rfl 47 _ rfl wr.heap.size rfl 47 _ _ K8.out Tryd.underlying47 rfl (size_set q) ?_)
       | ((with_reducible refine atDst 27 ?_); refine wpList_bld rfl 47 #[] rfl (wds z) HZB.out ?_)
       | ((with_reducible refine atDst 28 ?_); refine wpList_neSet_is rfl HNE.out 47 45 (.tmp 26) (.tmp 27) 47 rfl guard_set Tryd.underlying47 Tryd.underlying45 size_u64 rfl rfl ?_))
      refine ⟨⟨k + 1, by omega, by congr 1, ?_, B8.out⟩, by simp [intOf] <;> omega⟩
      rw [HC3.out]
      simpa using O8.out
     | true =>
      have HNE := qH (show (!eqS q z) = true by rw [HZ.out]; exact hne)
      rw [hne] at HC3
      clear hne
      go_wp2_with (first
       | ((with_reducible refine atDst 8 ?_); refine wpList_new rfl 47 rfl i0 _ (wds z) hi0 hz0 rfl HB2.out HSB.out ?_; intro w7 hk7 hb7 hs7 ho7; have K7 := qH hk7; have B7 := qH hb7; have O7 := qH (own4Below HO2.out (show Below wr.heap.size wr w7 from ⟨(hb7.os.trans HB2.out.os.symm), (hb7.tape.trans HB2.out.tape.symm), (hb7.output.trans HB2.out.output.symm), by omega, fun k hk => ho7 k hk⟩) (Nat.le_refl _)); clear hk7 hb7 hs7 ho7)
       | ((with_reducible refine atStore 47 8 25 ?_); refine wpList_stBlk rfl 47 _ _ rfl wr.heap.size (wds q) rfl rfl 47 _ K7.out (size_set q) rfl (wds_all _) B7.out HSB.out ?_; intro w8 hk8 hb8 hs8 ho8; have K8 := qH hk8; have B8 := qH hb8; have SB8 := qH hb8.size; have O8 := qH (own4Other O7.out (fun j hj => ho8 j (by have := own4_lt HO2.out j hj; omega))); clear hk8 hb8 ho8)
       | ((with_reducible refine atDst 26 ?_); refine wpList_ldArr rfl 47 _ rfl wr.heap.size rfl 47 _ _ K8.out Tryd.underlying47 rfl (size_set q) ?_)
       | ((with_reducible refine atDst 27 ?_); refine wpList_bld rfl 47 #[] rfl (wds z) HZB.out ?_)
       | ((with_reducible refine atDst 28 ?_); refine wpList_neSet_is rfl HNE.out 47 45 (.tmp 26) (.tmp 27) 47 rfl guard_set Tryd.underlying47 Tryd.underlying45 size_u64 rfl rfl ?_)
       | ((with_reducible refine atDst 30 ?_); refine wpList_ldArr rfl 47 _ rfl wr.heap.size rfl 47 _ _ K8.out Tryd.underlying47 rfl (size_set q) ?_)
       | ((with_reducible refine atDst 31 ?_); refine wpList_bldSet1 rfl 103 47 (.tmp 30) rfl i1 Tryd.underlying103 hi1 hy0 hy1 q rfl ?_; intro w9 hk9 hb9; have K9 := qH hk9; have O9 := qH (own4Below O8.out hb9 (Nat.le_refl _)); have B9 := qH (B8.out.trans (hb9.mono SB8.out)); have S9 := qH (Nat.le_trans SB8.out hb9.size); clear hk9 hb9)
       | ((with_reducible refine atDst 32 ?_); refine wpList_appS (base := w1.heap.size) rfl (.tmp 29) (.tmp 31) 103 rfl 47 i1 Tryd.underlying103 hi1 hy0 hy1 hy2 _ c2 rfl O9.out w8.heap.size 1 47 [q] rfl K9.out (by have := HCL2.out; simp; omega) S9.out ?_; intro v10 w10 ho10 hg10; have O10 := qH ho10; have B10 := qH (B9.out.grown hg10 S9.out (own4_above O9.out)); clear ho10 hg10))
      refine ⟨⟨k + 1, by omega, by congr 1, ?_, B10.out⟩, by simp [intOf] <;> omega⟩
      rw [HC3.out]
      exact O10.out
    ·obtain rfl : k = 2 := by omega
     have k1 : ¬ ((2 : Int) < 2) := by omega
     have HOO := qH (show wr.ownsRow w1.heap.size 47 4 _ _ _ from HO2.out)
     have HNN := qH (show splitS (List.take (j + 1) ps) s = cur ++ ([q1, q2].take 2).filter nonE by rw [HNX.out, HPC.out]; rfl)
     clear HO2
     go_wp2_with fail
     refine ⟨⟨j + 1, by omega, by congr 1, ?_, HB2.out⟩, by simp [intOf] <;> omega⟩
     rw [HNN.out]
     exact HOO.out
  ·obtain rfl : j = ps.length := by omega
   have j1 : ¬ ((ps.length : Int) < (ps.length : Int)) := by omega
   have o9 := HO.out
   rw [List.take_length] at o9
   have O9 := qH (show wo.ownsRow w.heap.size 47 4 _ _ _ from ⟨o9.1, o9.2.imp id fun ⟨g, cap, cur, h1, h2, h3⟩ => ⟨g, cap, cur, h1, Nat.le_trans B1.out.size h2, h3⟩⟩)
   have B9 := qH (B1.out.trans (HB.out.mono B1.out.size))
   clear o9 HO
   go_wp2_with fail
   go_ret
   exact ⟨_, rfl, O9.out, B9.out⟩
theorem lt_bigS {i n : Nat} (h : i < n) (hn : n ≤ 1000000) : i ≤ 4611686018427387904 := by omega
theorem setsN_take {S : List St} {i : Nat} {s : St} (h : S[i]? = some s) : setsN (S.take (i + 1)) = setsN (S.take i) ++ [s.set] := by
 obtain ⟨hi, rfl⟩ := List.getElem?_eq_some_iff.1 h
 unfold setsN
 rw [List.take_succ_eq_append_getElem hi, List.map_append, List.map_singleton]
theorem stc_range {w : World} {g : Nat} {ty : TypeId} {st : List Value} {s : St} {v : Value} (h : Blk w g ty st) (hst : st = stc s v) : w.rangeAt g 0 (wds s.set) := fun j u hu => by
 have hj : j < 4 := by have := (List.getElem?_eq_some_iff.1 hu).1; rwa [wds_length] at this
 rw [Nat.zero_add, h.cell, hst]
 unfold stc
 rw [List.getElem?_append_left (by rw [wds_length]; exact hj)]
 exact hu
set_option maxHeartbeats 4000000 in
set_option maxRecDepth 1000000 in
theorem sbSets_any (S : List St) (a z : Int) (cs : List Value) (w : World) (hv : NfaV w cs S a z) (hn : S.length ≤ 1000000) :
  Calls Tryd.prog 52 #[.agg cs.toArray] w fun e w' => ∃ v, e = .returned v ∧ RowS w' v (setsN S) ∧ Below w.heap.size w w' := by
 have V := qH hv
 obtain ⟨A, cap, rfl, hlc, hcm, hA0⟩ := hv.len
 have HN := qH hn
 clear hv hlc hcm hA0 hn
 obtain ⟨i0, hi0, hz0, hs0, hy0⟩ := infoP inf_nst
 obtain ⟨zz, hzz⟩ : ∃ z : List Value, z = stc ⟨fun _ => false, 0, []⟩ (.slice none 0 0) := ⟨_, rfl⟩
 have HZL := qH (show zz.length = 6 by rw [hzz]; rfl)
 have HZ0 := qH (show i0.zero = some (.agg zz.toArray) by rw [hzz]; exact hz0)
 obtain ⟨i4, hi4, hz4, hs4, hy4⟩ := infoP inf_set
 clear hzz hz0 hs0 hy0
 go_enter Tryd.func52, Tryd.ntmps52
 go_wp2_with ((with_reducible refine atDst 1 ?_); refine wpList_box rfl 24 _ rfl [.slice A S.length cap, .int .i64 a, .int .i64 z] rfl (Below.refl w.heap.size w) (Nat.le_refl _) ?_; intro w1 hk1 hb1 hs1 _; have K1 := qH hk1; have B1 := qH hb1; have c0 := hk1.cell 0; clear hk1 hb1 hs1; (try simp only [Act.put, qA, qB, qC]))
 clear c0
 go_loopw [2, 8] (fun v i wl => ∃ j : Nat, j ≤ S.length ∧ i = .int .i64 (j : Int) ∧ wl.ownsRow w.heap.size 47 4 v (setsN (S.take j)).length (sets (setsN (S.take j))) ∧ Below w.heap.size w wl) (fun _ i _ => S.length - (intOf i).toNat)
 case atStart => exact ⟨0, Nat.zero_le _, by simp, own4N _ _ _, B1.out⟩
 case round =>
  obtain ⟨j, hj, rfl, ho, hb⟩ := hrel
  have HO := qH ho
  have BR := qH hb
  clear ho hb
  obtain ⟨wq, hwq⟩ : ∃ v : World, v = wr := ⟨_, rfl⟩
  subst hwq
  by_cases hjl : j < S.length
  ·have x1 : (j : Int) < (S.length : Int) := Int.ofNat_lt.2 hjl
   have HJ := qH hjl
   have HMN := qH (sub_next hjl)
   have e3 := wrap_one j (lt_bigS hjl HN.out)
   have e4 := wrap_one' j (lt_bigS hjl HN.out)
   obtain ⟨s, hs⟩ : ∃ s, S[j]? = some s := ⟨_, List.getElem?_eq_getElem hjl⟩
   have HS := qH hs
   obtain ⟨b, off, Af, cf, rfl, hlt, hr, _⟩ := (V.out.below BR.out).whole hs
   obtain ⟨st, hst⟩ : ∃ l, l = stc s (.slice Af s.free.length cf) := ⟨_, rfl⟩
   have HST := qH hst
   have HR2 := qH (show wq.rangeAt b (off + j * 6) st by rw [hst]; exact hr)
   have HT6 := qH (show st.length = 6 by rw [hst]; rfl)
   have HT1 := qH (show st.all (·.oneCell') = true by rw [hst]; exact stc_one _ _ _ _)
   have HL := qH (show (setsN (S.take j)).length ≤ 1000000 by rw [setsN_len, List.length_take]; have := HN.out; omega)
   clear hj hjl hs hr hlt hst
   go_wp2_with (first
    | ((with_reducible refine atDst 11 ?_); refine wpList_load_mid rfl 49 _ rfl b (off + j * 6) rfl st _ HR2.out Tryd.underlying49 rfl (size_nst HT6.out) ?_; (try simp only [Act.put, qA, qB, qC]))
    | ((with_reducible refine atDst 4 ?_); refine wpList_new rfl 49 rfl i0 _ zz hi0 HZ0.out rfl (Below.refl wq.heap.size wq) (Nat.le_refl _) ?_; intro w4 hk hb hs ho; have K4 := qH hk; have B4 := qH hb; clear hk hb hs ho; (try simp only [Act.put, qA, qB, qC]))
    | ((with_reducible refine atStore 49 4 11 ?_); refine wpList_stBlk rfl 49 _ _ rfl wq.heap.size st rfl rfl 49 _ K4.out (size_nst HT6.out) (by rw [HZL.out, HT6.out]) HT1.out B4.out (Nat.le_refl _) ?_; intro w5 hk hb hs ho; have B5 := qH hb; have RS := qH (stc_range hk HST.out); clear hk hb hs ho; (try simp only [Act.put, qA, qB, qC]))
    | ((with_reducible refine atDst 14 ?_); refine wpList_load_mid rfl 47 _ rfl wq.heap.size 0 rfl (wds s.set) _ RS.out Tryd.underlying47 rfl (size_set s.set) ?_; (try simp only [Act.put, qA, qB, qC]))
    | ((with_reducible refine atDst 15 ?_); refine wpList_bldSet1 rfl 103 47 (.tmp 14) rfl i4 Tryd.underlying103 hi4 hz4 hs4 s.set rfl ?_; intro w6 hk hb; have K6 := qH hk; have B6 := qH (B5.out.trans (hb.mono B5.out.size)); clear hk hb; (try simp only [Act.put, qA, qB, qC]))
    | ((with_reducible refine atDst 16 ?_); refine wpList_appS (base := w.heap.size) rfl (.tmp 12) (.tmp 15) 103 rfl 47 i4 Tryd.underlying103 hi4 hz4 hs4 hy4 _ (setsN (S.take j)) rfl (own4Below HO.out B6.out (Nat.le_refl _)) _ 1 47 [s.set] rfl K6.out (by have := HL.out; simp only [List.length_singleton]; omega) (Nat.le_trans BR.out.size B6.out.size) ?_; intro v7 w7 ho7 hg7; have O7 := qH ho7; have B7 := qH (Below.grown (BR.out.trans (B6.out.mono BR.out.size)) hg7 (Nat.le_trans BR.out.size B6.out.size) (own4_above HO.out)); clear ho7 hg7; (try simp only [Act.put, qA, qB, qC])))
   refine ⟨⟨j + 1, HJ.out, by congr 1, ?_, B7.out⟩, by simpa [intOf] using HMN.out⟩
   rw [setsN_take HS.out]
   exact O7.out
  ·obtain rfl : j = S.length := Nat.le_antisymm hj (Nat.not_lt.1 hjl)
   have x1 : ¬ ((S.length : Int) < (S.length : Int)) := Int.lt_irrefl _
   have HE := qH (show RowS wq u2 (setsN S) by
    have h := HO.out
    rw [List.take_length] at h
    exact own4_row h)
   clear hj hjl HO
   go_wp2_with fail
   go_ret
   exact ⟨_, rfl, HE.out, BR.out⟩
end Go.Proofs.YteadghoojeehlaaDoor
