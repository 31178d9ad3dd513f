/-
  Texts of this proof, put together: TgD, BsAh, TgE, LayI, TgF. No statement is proved here.
-/
import Derived.Test.YtmcpfaaakmehdaaQN
import Derived.Test.YtmcpfaaakmehdaaQB
import Derived.Shelf.Sort.Plain
import Derived.Test.YtmcpfaaakmehdaaProg
import Derived.Shelf.Slices.In.SortNone
import Derived.Lib.OwnBridge
import Derived.Sort.Grow
namespace Go.Proofs.Ytmcpfaaakmehdaa
open Go.RowKit
set_option linter.unusedSimpArgs false
set_option linter.unusedVariables false
structure Cl (S : List St) (P : Nat → Prop) (t : Nat → Bool) (L : List Int) (i kk : Nat) : Prop where
 seeds : ∀ q, q < S.length → P q → t q = true
 sound : ∀ q, q < S.length → t q = true → Rc S P q
 done : ∀ (j : Nat) (x : Int) (s : St), j < i → L[j]? = some x → S[x.toNat]? = some s → ∀ f ∈ s.free, t f.toNat = true
 part : ∀ (x : Int) (s : St), L[i]? = some x → S[x.toNat]? = some s → ∀ (m : Nat) (f : Int), m < kk → s.free[m]? = some f → t f.toNat = true
section
variable {S : List St} {P : Nat → Prop} {t : Nat → Bool} {L : List Int} {i kk : Nat}
theorem Cl.start (h1 : ∀ q, q < S.length → P q → t q = true) (h2 : ∀ q, q < S.length → t q = true → P q) : Cl S P t L 0 0 :=
 ⟨h1, fun q hq ht => .base (h2 q hq ht) hq, fun j x s h => absurd h (Nat.not_lt_zero j), fun x s _ _ m f h => absurd h (Nat.not_lt_zero m)⟩
theorem addT_up {n : Nat} {x : Int} {q : Nat} (h : t q = true) : addT n t x q = true := by
 unfold addT
 split
 ·unfold updB; split; rfl; exact h
 ·exact h
theorem Cl.mark (h : Cl S P t L i kk) {x f : Int} {s : St} (hx : L[i]? = some x) (h0 : 0 ≤ x) (hs : S[x.toNat]? = some s) (ht : t x.toNat = true) (hf : s.free[kk]? = some f) (hf0 : 0 ≤ f) (hf1 : f < (S.length : Int)) :
  Cl S P (addT S.length t f) (addL S.length t L f) i (kk + 1) := by
 obtain ⟨m, hm⟩ := addL_app S.length t L f
 have hfn : f.toNat < S.length := by omega
 have key : ∀ q, q < S.length → (addT S.length t f q = true ↔ t q = true ∨ f = (q : Int)) := fun q hq => addT_iff hq
 have hi : i < L.length := (List.getElem?_eq_some_iff.1 hx).1
 refine ⟨fun q hq hp => addT_up (h.seeds q hq hp), fun q hq hu => ?_, fun j y u hj hy hu f' hf' => ?_, fun y u hy hu k f' hk hf' => ?_⟩
 ·rcases (key q hq).1 hu with hu | hu
  ·exact h.sound q hq hu
  ·exact .go (h.sound _ (by have := (List.getElem?_eq_some_iff.1 hs).1; exact this) ht) hs (by rw [← hu]; exact List.mem_of_getElem? hf) hq
 ·rw [hm, List.getElem?_append_left (by omega)] at hy
  exact addT_up (h.done j y u hj hy hu f' hf')
 ·rw [hm, List.getElem?_append_left hi, hx] at hy
  injection hy with hy
  subst hy
  rw [hs] at hu
  injection hu with hu
  subst hu
  rcases Nat.lt_or_ge k kk with hlt | hge
  ·exact addT_up (h.part x s hx hs k f' hlt hf')
  ·obtain rfl : k = kk := by omega
   rw [hf] at hf'
   injection hf' with hf'
   subst hf'
   exact (key _ hfn).2 (.inr (by omega))
theorem Cl.next (h : Cl S P t L i kk) {x : Int} {s : St} (hx : L[i]? = some x) (hs : S[x.toNat]? = some s) (hk : kk = s.free.length) : Cl S P t L (i + 1) 0 := by
 refine ⟨h.seeds, h.sound, fun j y u hj hy hu f hf => ?_, fun y u _ _ m f h => absurd h (Nat.not_lt_zero m)⟩
 rcases Nat.lt_or_ge j i with hlt | hge
 ·exact h.done j y u hlt hy hu f hf
 ·obtain rfl : j = i := by omega
  rw [hx] at hy
  injection hy with hy
  subst hy
  rw [hs] at hu
  injection hu with hu
  subst hu
  obtain ⟨m, hm, hmf⟩ := List.getElem_of_mem hf
  exact h.part x s hx hs m f (by omega) (by rw [List.getElem?_eq_getElem hm, hmf])
theorem Cl.end_ (h : Cl S P t L L.length kk) (g : GL S.length t L) {q : Nat} (hq : q < S.length) : t q = true ↔ Rc S P q :=
 rc_is h.seeds (fun i s hs ht j hj => by
  have hi : i < S.length := (List.getElem?_eq_some_iff.1 hs).1
  obtain ⟨k, hk, hkx⟩ := List.getElem_of_mem ((g.is i hi).1 ht)
  have := h.done k (i : Int) s hk (by rw [List.getElem?_eq_getElem hk, hkx]) (by simpa using hs) _ hj
  simpa using this) h.sound q hq
end
theorem ld_ints {ev : Operand → Value} {o : Oper} (x : Operand) (ho : o.op = .load 25 x) {p : Addr} (hx : ev x = .pointer (some p)) {A : Option Addr} {n c : Nat} {W : World} (hc : W.cell? p = some (.slice A n c)) : (execOp ev o).run Try.prog W = .ok (.value (.slice A n c)) W := by
 simp only [execOp, ho, hx]
 go_simp
theorem GrpV.size {w : World} {B g h n cap : Nat} {A : Option Addr} {a z : Int} {t : Nat → Bool} {lv : Value} {L : List Int} (x : GrpV w B g h A n cap a z t lv L) : B ≤ w.heap.size := Nat.le_of_lt (Nat.lt_of_le_of_lt x.gB x.blk.lt)
def GPost (w0 : World) (S : List St) (A : Option Addr) (cap : Nat) (a z : Int) (g h : Nat) (w : World) (lv : Value) (R : Nat → Prop) (w' : World) : Prop :=
 ∃ t' lv' L', GrpV w' w0.heap.size g h A S.length cap a z t' lv' L' ∧ GStep w w' g h lv lv' ∧ ∀ q, q < S.length → (t' q = true ↔ R q)
set_option maxHeartbeats 4000000 in
set_option maxRecDepth 1000000 in
theorem gClose_any (w0 : World) (S : List St) (A : Option Addr) (cap : Nat) (a z : Int) (hv : NfaV w0 [.slice A S.length cap, .int .i64 a, .int .i64 z] S a z) (hm : MayN S a z) {g h : Nat} {t : Nat → Bool} {lv : Value} {L : List Int} (P : Nat → Prop)
  (hP : ∀ q, q < S.length → (t q = true ↔ P q)) (w : World) (hg : GrpV w w0.heap.size g h A S.length cap a z t lv L) (hb : Below w0.heap.size w0 w) :
  Calls Try.prog 37 #[.pointer (some ⟨g, 0, none⟩)] w fun e w' => e = .returned (.tuple #[]) ∧ GPost w0 S A cap a z g h w lv (Rc S P) w' := by
 have V := qH hv
 have HM := qH hm
 have HN := qH hm.few
 have CS := qH (Cl.start (S := S) (P := P) (t := t) (L := L) (fun q hq h => (hP q hq).2 h) fun q hq h => (hP q hq).1 h)
 have G := qH hg
 have B0 := qH hb
 clear hv hm hP hg hb
 go_enter Try.func37, Try.ntmps37
 go_wp2_with fail
 go_loopw [2] (fun iv wl => ∃ (i : Nat) (t' : Nat → Bool) (lv' : Value) (L' : List Int), i ≤ L'.length ∧ iv = .int .i64 (i : Int) ∧ GrpV wl w0.heap.size g h A S.length cap a z t' lv' L' ∧ GStep w wl g h lv lv' ∧ Cl S P t' L' i 0) (fun iv _ => S.length - (intOf iv).toNat)
 case atStart => exact ⟨0, t, lv, L, Nat.zero_le _, by simp, G.out, GStep.refl _ _ _ _, CS.out⟩
 obtain ⟨i, t', lv', L', hi, rfl, hg, hst, hcl⟩ := hrel
 have GI := qH hg
 have SI := qH hst
 have CI := qH hcl
 have BI := qH (B0.out.trans ((hst.below G.out G.out.size)))
 have d0 := hg.blk.cell 0
 have d4 := hg.blk.cell 4
 simp only [gcl, List.getElem?_cons_succ, List.getElem?_cons_zero] at d0 d4
 have HLL := qH hg.gl.len
 obtain ⟨Al, cl, rfl, _⟩ := Row.of_own hg.own
 rw [nums_length] at GI SI d4
 clear hst hcl hg
 obtain ⟨wi, hwi⟩ : ∃ v : World, v = wr := ⟨_, rfl⟩
 subst hwi
 by_cases hil : i < L'.length
 ·have x1 : (i : Int) < (L'.length : Int) := Int.ofNat_lt.2 hil
  obtain ⟨x, hx⟩ : ∃ x, L'[i]? = some x := ⟨_, List.getElem?_eq_getElem hil⟩
  obtain ⟨x0, x1'⟩ := GI.out.gl.rng x (List.mem_of_getElem? hx)
  obtain ⟨p, rfl⟩ : ∃ p : Nat, x = (p : Int) := ⟨x.toNat, by omega⟩
  have HPN := qH (show p < S.length by omega)
  obtain ⟨s, hs⟩ : ∃ s, S[p]? = some s := ⟨_, List.getElem?_eq_getElem HPN.out⟩
  have HS := qH hs
  have HX := qH hx
  have HTP := qH ((GI.out.gl.is p HPN.out).2 (List.mem_of_getElem? hx))
  obtain ⟨b, off, rfl, hbb, _, _, Af, cf, hf, hrow⟩ := V.out.at_ hs
  obtain ⟨fl, hfl⟩ : ∃ n, n = s.free.length := ⟨_, rfl⟩
  rw [← hfl] at hf hrow
  have HFL := qH hfl
  have HFC := qH ((BI.out.cell (p := ⟨b, off + p * 6 + 5, none⟩) hbb).trans hf)
  have HBB := qH (Nat.lt_of_lt_of_le hbb BI.out.size)
  have HROW := qH hrow
  have HF8 := qH (show fl ≤ 8 by have := HM.out.free8 s (List.mem_of_getElem? hs); omega)
  obtain ⟨bl, ol, rfl, hbl, hcl⟩ := (Row.of_own GI.out.own).at_ (by rw [nums_length]; omega)
  have HBL := qH hbl
  have HCJ := qH (hcl i (.int .i64 (p : Int)) (by simp [nums, hx]))
  have HGL := qH GI.out.blk.lt
  have HD0 := qH d0
  have HD4 := qH d4
  have HI := qH hil
  have HMI := qH (show i < S.length by have := HLL.out; omega)
  have e3 := wrap_one i (lt_bigN HMI.out HN.out)
  have e4 := wrap_one' i (lt_bigN HMI.out HN.out)
  have hpn : (p : Int) < (S.length : Int) := by have := HPN.out; omega
  clear hx x0 x1' hs hf hfl hbb hrow hbl hcl hil
  go_wp2_with fail
  refine sx_startB (B := wi.heap.size) (w0 := wi) (by kernel_rfl) (Below.refl _ _) (fun wd hwd hX => ?_)
  clear hwd d0 d4
  refine sx_take (i := 0) (oi := ⟨some 14, _, _, _, _, _⟩) (v := ?_) rfl (by kernel_rfl) (by kernel_rfl) (by kernel_rfl) (fun _ _ _ h => h) rfl hX ?_ ?_; rotate_left; (intro W hW; go_simp; try with_reducible rfl); simp only [Act.put, qA, qB, qC]
  refine sx_take (i := 1) (oi := ⟨some 15, _, _, _, _, _⟩) (v := ?_) rfl (by kernel_rfl) (by kernel_rfl) (by kernel_rfl) (fun _ _ _ h => h) rfl hX ?_ ?_; rotate_left; (intro W hW; go_simp; try with_reducible rfl); simp only [Act.put, qA, qB, qC]
  refine sx_take (i := 2) (oi := ⟨some 16, _, _, _, _, _⟩) (v := ?_) rfl (by kernel_rfl) (by kernel_rfl) (by kernel_rfl) (fun _ _ _ h => h) rfl hX ?_ ?_; rotate_left; (intro W hW; go_simp; try with_reducible rfl); simp only [Act.put, qA, qB, qC]
  refine sx_take (i := 3) (oi := ⟨some 17, _, _, _, _, _⟩) (v := ?_) rfl (by kernel_rfl) (by kernel_rfl) (by kernel_rfl) (fun _ _ _ h => h) rfl hX ?_ ?_; rotate_left; (intro W hW; go_simp; try with_reducible rfl); simp only [Act.put, qA, qB, qC]
  refine sx_take (i := 4) (oi := ⟨some 18, _, _, _, _, _⟩) (v := .slice (some ⟨b, off, none⟩) S.length cap) rfl (by kernel_rfl) (by kernel_rfl) (by kernel_rfl) (fun _ _ _ h => h) rfl hX (fun W hW => ld_sts (.tmp 17) rfl rfl ((hW.cell (p := ⟨g, 0, none⟩) HGL.out).trans HD0.out)) ?_; simp only [Act.put, qA, qB, qC]
  refine sx_take (i := 5) (oi := ⟨some 19, _, _, _, _, _⟩) (v := ?_) rfl (by kernel_rfl) (by kernel_rfl) (by kernel_rfl) (fun _ _ _ h => h) rfl hX ?_ ?_; rotate_left; (intro W hW; go_simp; try with_reducible rfl); simp only [Act.put, qA, qB, qC]
  refine sx_take (i := 6) (oi := ⟨some 20, _, _, _, _, _⟩) (v := ?_) rfl (by kernel_rfl) (by kernel_rfl) (by kernel_rfl) (fun _ _ _ h => h) rfl hX ?_ ?_; rotate_left; (intro W hW; go_simp; try with_reducible rfl); simp only [Act.put, qA, qB, qC]
  refine sx_take (i := 7) (oi := ⟨some 21, _, _, _, _, _⟩) (v := ?_) rfl (by kernel_rfl) (by kernel_rfl) (by kernel_rfl) (fun _ _ _ h => h) rfl hX ?_ ?_; rotate_left; (intro W hW; go_simp; try with_reducible rfl); simp only [Act.put, qA, qB, qC]
  refine sx_take (i := 8) (oi := ⟨some 22, _, _, _, _, _⟩) (v := .slice (some ⟨bl, ol, none⟩) L'.length cl) rfl (by kernel_rfl) (by kernel_rfl) (by kernel_rfl) (fun _ _ _ h => h) rfl hX (fun W hW => ld_ints (.tmp 21) rfl rfl ((hW.cell (p := ⟨g, 4, none⟩) HGL.out).trans HD4.out)) ?_; simp only [Act.put, qA, qB, qC]
  refine sx_take (i := 9) (oi := ⟨some 23, _, _, _, _, _⟩) (v := ?_) rfl (by kernel_rfl) (by kernel_rfl) (by kernel_rfl) (fun _ _ _ h => h) rfl hX ?_ ?_; rotate_left; (intro W hW; go_simp; try with_reducible rfl); simp only [Act.put, qA, qB, qC]
  refine sx_take (i := 10) (oi := ⟨some 24, _, _, _, _, _⟩) (v := ?_) rfl (by kernel_rfl) (by kernel_rfl) (by kernel_rfl) (fun _ _ _ h => h) rfl hX ?_ ?_; rotate_left; (intro W hW; go_simp; try with_reducible rfl); simp only [Act.put, qA, qB, qC]
  refine sx_take (i := 11) (oi := ⟨some 25, _, _, _, _, _⟩) (v := .int .i64 (p : Int)) rfl (by kernel_rfl) (by kernel_rfl) (by kernel_rfl) (fun _ _ _ h => h) rfl hX (fun W hW => ld_int9 (.tmp 24) rfl rfl ((hW.cell (p := ⟨bl, ol + i, none⟩) HBL.out).trans HCJ.out)) ?_; simp only [Act.put, qA, qB, qC]
  refine sx_take (i := 12) (oi := ⟨some 26, _, _, _, _, _⟩) (v := ?_) rfl (by kernel_rfl) (by kernel_rfl) (by kernel_rfl) (fun _ _ _ h => h) rfl hX ?_ ?_; rotate_left; (intro W hW; go_simp; try with_reducible rfl); simp only [Act.put, qA, qB, qC]
  refine sx_take (i := 13) (oi := ⟨some 27, _, _, _, _, _⟩) (v := ?_) rfl (by kernel_rfl) (by kernel_rfl) (by kernel_rfl) (fun _ _ _ h => h) rfl hX ?_ ?_; rotate_left; (intro W hW; go_simp; try with_reducible rfl); simp only [Act.put, qA, qB, qC]
  refine sx_take (i := 14) (oi := ⟨some 28, _, _, _, _, _⟩) (v := .slice Af fl cf) rfl (by kernel_rfl) (by kernel_rfl) (by kernel_rfl) (fun _ _ _ h => h) rfl hX (fun W hW => ld_ints (.tmp 27) rfl rfl ((hW.cell (p := ⟨b, off + p * 6 + 5, none⟩) HBB.out).trans HFC.out)) ?_; simp only [Act.put, qA, qB, qC]
  refine sx_take (i := 15) (oi := ⟨some 29, _, _, _, _, _⟩) (v := ?_) rfl (by kernel_rfl) (by kernel_rfl) (by kernel_rfl) (fun _ _ _ h => h) rfl hX ?_ ?_; rotate_left; (intro W hW; go_simp; try with_reducible rfl); simp only [Act.put, qA, qB, qC]
  refine sx_take (i := 16) (oi := ⟨some 30, _, _, _, _, _⟩) (v := ?_) rfl (by kernel_rfl) (by kernel_rfl) (by kernel_rfl) (fun _ _ _ h => h) rfl hX ?_ ?_; rotate_left; (intro W hW; go_simp; try with_reducible rfl); simp only [Act.put, qA, qB, qC]
  refine wpAnyH_done (by kernel_rfl) ?_ _
  have BD := qH hX
  have GD := qH (GI.out.below hX)
  have SD := qH (SI.out.trans (GStep.of hX g h _))
  clear hX
  go_wp2_with fail
  go_loopw [30] (fun kv wl => ∃ (k : Nat) (u : Nat → Bool) (v : Value) (M : List Int), k ≤ fl ∧ kv = .int .i64 (k : Int) ∧ GrpV wl w0.heap.size g h (some ⟨b, off, none⟩) S.length cap a z u v M ∧ GStep w wl g h lv v ∧ Cl S P u M i k ∧ M[i]? = some (p : Int)) (fun kv _ => fl - (intOf kv).toNat)
  case atStart => exact ⟨0, t', _, L', Nat.zero_le _, by simp, GD.out, SD.out, CI.out, HX.out⟩
  clear GI SI CI BI HD0 HD4 HCJ HBL HGL HX HTP BD GD SD HI HLL x1
  obtain ⟨k, u, v, M, hk, rfl, hg, hst, hcl, hmi⟩ := hrel
  have GK := qH hg
  have SK := qH hst
  have CK := qH hcl
  have HMX := qH hmi
  have BK := qH (B0.out.trans ((hst.below G.out G.out.size)))
  clear hg hst hcl hmi
  obtain ⟨wk, hwk⟩ : ∃ v : World, v = wr := ⟨_, rfl⟩
  subst hwk
  by_cases hkl : k < fl
  ·have y1 : (k : Int) < (fl : Int) := Int.ofNat_lt.2 hkl
   have HK := qH hkl
   have HMK := qH (sub_next hkl)
   have f3 := wrap_one k (lt_bigN HK.out (Nat.le_trans HF8.out (by decide)))
   have f4 := wrap_one' k (lt_bigN HK.out (Nat.le_trans HF8.out (by decide)))
   obtain ⟨f, hf⟩ : ∃ f, s.free[k]? = some f := ⟨_, List.getElem?_eq_getElem (by rw [← HFL.out]; exact hkl)⟩
   have HF := qH hf
   have HFR := qH (HM.out.free s (List.mem_of_getElem? HS.out) f (List.mem_of_getElem? hf))
   obtain ⟨bf, of, rfl, hbf, hcf⟩ := (HROW.out.below BK.out).at_ (by rw [nums_length, ← HFL.out]; exact Nat.lt_of_le_of_lt (Nat.zero_le _) hkl)
   have hcj := hcf k (.int .i64 f) (by simp [nums, hf])
   have HTP := qH ((GK.out.gl.is p HPN.out).2 (List.mem_of_getElem? HMX.out))
   clear hk hkl hf hcf hbf
   go_wp2_with fail
   refine (gAdd_any f wk GK.out HN.out GK.out.size).mono ?_
   rintro e w2 ⟨rfl, v2, hg2, hst2⟩
   have CE := qH (CK.out.mark HMX.out (Int.natCast_nonneg p) (by simpa using HS.out) (by simpa using HTP.out) HF.out HFR.out.1 HFR.out.2)
   have ME := qH (show (addL S.length u M f)[i]? = some (p : Int) by
    obtain ⟨m, hm⟩ := addL_app S.length u M f
    rw [hm, List.getElem?_append_left (List.getElem?_eq_some_iff.1 HMX.out).1]
    exact HMX.out)
   have G2 := qH hg2
   have S2 := qH (SK.out.trans hst2)
   clear hg2 hst2 hcj
   go_wp2_with fail
   exact ⟨⟨k + 1, _, _, _, HK.out, by congr 1, G2.out, S2.out, CE.out, ME.out⟩, by simpa [intOf] using HMK.out⟩
  ·obtain rfl : k = fl := Nat.le_antisymm hk (Nat.not_lt.1 hkl)
   have y1 : ¬ ((k : Int) < (k : Int)) := Int.lt_irrefl _
   have CE := qH (CK.out.next HMX.out (by simpa using HS.out) HFL.out)
   have HIE := qH (show i + 1 ≤ M.length from (List.getElem?_eq_some_iff.1 HMX.out).1)
   have HME := qH (sub_next HMI.out)
   go_wp2_with fail
   exact ⟨⟨i + 1, _, _, _, HIE.out, by congr 1, GK.out, SK.out, CE.out⟩, by simpa [intOf] using HME.out⟩
 ·obtain rfl : i = L'.length := by omega
  have x1 : ¬ ((L'.length : Int) < (L'.length : Int)) := by omega
  go_wp2_with fail
  go_end0
  exact ⟨rfl, _, _, _, GI.out, SI.out, fun q hq => CI.out.end_ GI.out.gl hq⟩
theorem has_bit2 (x k : Nat) (hx : x < 18446744073709551616) : (bits .and .u64 ((x : Int) / 2 ^ k) 1 == 1) = decide (x / 2 ^ k % 2 = 1) := by
 have e : (2 ^ k : Int) = ((2 ^ k : Nat) : Int) := by rw [Int.natCast_pow]; rfl
 have hlt : x / 2 ^ k < 18446744073709551616 := Nat.lt_of_le_of_lt (Nat.div_le_self _ _) hx
 rw [e, ← Int.natCast_ediv]
 generalize x / 2 ^ k = y at hlt
 rw [show (1 : Int) = ((1 : Nat) : Int) from rfl, u64_and_nat y 1 hlt (by omega), Nat.and_one_is_mod, Bool.eq_iff_iff, beq_iff_eq, decide_eq_true_iff]
 omega
set_option maxHeartbeats 1000000 in
theorem bsHas_any (p : Nat → Bool) (b : Nat) (w : World) (hb : b < 256) :
  Calls Try.prog 57 #[.agg (wds p).toArray, .int .u8 (b : Int)] w fun e w' => e = .returned (.bool (p b)) ∧ Below w.heap.size w w' := by
 obtain ⟨x, hx⟩ : ∃ x, x = word p (b / 64) := ⟨_, rfl⟩
 have hlt := word_lt p (b / 64)
 have hsh := word_shift p b
 rw [← hx] at hlt hsh
 have HX := qH hx
 have HSH := qH hsh
 clear hx hsh
 go_enter Try.func57, Try.ntmps57
 go_wp2_with ((with_reducible refine atDst 2 ?_); refine wpList_box rfl 37 _ rfl (wds p) rfl (Below.refl w.heap.size w) (Nat.le_refl _) ?_; intro w1 hk1 hb1 hs1 _; have c1 := hk1.cell (b / 64); rw [wds_get p (b / 64) (by omega), ← HX.out] at c1; have B1 := qH hb1; clear hk1 hb1 hs1)
 go_ret
 refine ⟨?_, B1.out⟩
 rw [← HSH.out]
 refine congrArg (fun b => Ending.returned (.bool b)) ?_
 exact has_bit2 x _ hlt
def Sp (S : List St) (t0 : Nat → Bool) (l : List Int) (b j : Nat) (t : Nat → Bool) : Prop := ∀ q, q < S.length → (t q = true ↔ t0 q = true ∨ (q : Int) ∈ goN S (l.take j) b)
theorem Sp.start (S : List St) (t0 : Nat → Bool) (l : List Int) (b : Nat) : Sp S t0 l b 0 t0 := fun q _ => by rw [goN_nil]; simp
theorem Sp.out {S : List St} {t0 t : Nat → Bool} {l : List Int} {b j : Nat} (h : Sp S t0 l b j t) (e : goN S (l.take (j + 1)) b = goN S (l.take j) b) : Sp S t0 l b (j + 1) t := fun q hq => by rw [e]; exact h q hq
theorem Sp.in_ {S : List St} {t0 t : Nat → Bool} {l : List Int} {b j i : Nat} {s : St} (h : Sp S t0 l b j t) (hx : l[j]? = some (i : Int)) (hs : S[i]? = some s) (hb : s.set b = true) : Sp S t0 l b (j + 1) (addT S.length t s.to) := fun q hq => by
 rw [addT_iff hq, h q hq]
 by_cases h0 : 0 ≤ s.to
 ·rw [goN_in hx hs h0 hb, List.mem_append, List.mem_singleton, or_assoc]
  constructor
  ·rintro (h1 | h1 | h1)
   ·exact .inl h1
   ·exact .inr (.inl h1)
   ·exact .inr (.inr h1.symm)
  ·rintro (h1 | h1 | h1)
   ·exact .inl h1
   ·exact .inr (.inl h1)
   ·exact .inr (.inr h1.symm)
 ·rw [goN_out hx hs fun h => h0 h.1]
  constructor
  ·rintro (h1 | h1)
   ·exact h1
   ·omega
  ·exact .inl
set_option maxHeartbeats 4000000 in
set_option maxRecDepth 1000000 in
theorem gStep_any (w0 : World) (S : List St) (A : Option Addr) (cap : Nat) (a z : Int) (hv : NfaV w0 [.slice A S.length cap, .int .i64 a, .int .i64 z] S a z) (hm : MayN S a z) {g h : Nat} {t : Nat → Bool} {lv : Value} {L : List Int} (l : List Int) (V : Value) (b : Nat) (hbn : b < 256) (w : World)
  (hg : GrpV w w0.heap.size g h A S.length cap a z t lv L) (hb : Below w0.heap.size w0 w) (hl : ∀ w', Off (Gd g h lv) w w' → Row w' V (nums .i64 l)) :
  Calls Try.prog 39 #[.pointer (some ⟨g, 0, none⟩), V, .int .u8 (b : Int)] w fun e w' => e = .returned (.tuple #[]) ∧ GPost w0 S A cap a z g h w lv (Rc S fun q => t q = true ∨ (q : Int) ∈ goN S l b) w' := by
 have N := qH hv
 have HM := qH hm
 have HN := qH hm.few
 have G := qH hg
 have B0 := qH hb
 have HR := qH hl
 have HBN := qH hbn
 obtain ⟨A2, cap2, rfl, _⟩ := hl w (Off.refl _ _)
 rw [nums_length] at HR ⊢
 have HLN := qH (show l.length ≤ cap2 ∧ cap2 ≤ maxLen by have h1 := (HR.out w (Off.refl _ _)).len; exact ⟨h1.2.1, h1.2.2.1⟩)
 clear hv hm hg hb hl hbn
 go_enter Try.func39, Try.ntmps39
 go_wp2_with fail
 go_loopw [10] (fun iv wl => ∃ (j : Nat) (t' : Nat → Bool) (lv' : Value) (L' : List Int), j ≤ l.length ∧ iv = .int .i64 (j : Int) ∧ GrpV wl w0.heap.size g h A S.length cap a z t' lv' L' ∧ GStep w wl g h lv lv' ∧ Sp S t l b j t') (fun iv _ => l.length - (intOf iv).toNat)
 case atStart => exact ⟨0, t, lv, L, Nat.zero_le _, by simp, G.out, GStep.refl _ _ _ _, Sp.start _ _ _ _⟩
 obtain ⟨j, t', lv', L', hj, rfl, hg, hst, hsp⟩ := hrel
 have GI := qH hg
 have SI := qH hst
 have PI := qH hsp
 have BI := qH (B0.out.trans ((hst.below G.out G.out.size)))
 clear hg hst hsp
 obtain ⟨wi, hwi⟩ : ∃ v : World, v = wr := ⟨_, rfl⟩
 subst hwi
 by_cases hjl : j < l.length
 ·have x1 : (j : Int) < (l.length : Int) := Int.ofNat_lt.2 hjl
  have HJ := qH hjl
  have HMJ := qH (sub_next hjl)
  have e3 := wrap_len HJ.out HLN.out.1 HLN.out.2
  have e4 := wrap_len' HJ.out HLN.out.1 HLN.out.2
  obtain ⟨x, hx⟩ : ∃ x, l[j]? = some x := ⟨_, List.getElem?_eq_getElem hjl⟩
  have HX := qH hx
  obtain ⟨bl, ol, rfl, hbl, hcl⟩ := (HR.out wi SI.out.off).at_ (by rw [nums_length]; exact Nat.lt_of_le_of_lt (Nat.zero_le _) hjl)
  have hcj := hcl j (.int .i64 x) (by simp [nums, hx])
  have HRG := qH (gcl_range GI.out.blk)
  obtain ⟨q, hq⟩ : ∃ q, decide (0 ≤ x ∧ x < (S.length : Int)) = q := ⟨_, rfl⟩
  have HQ := qH hq
  have HNL := qH (show S.length ≤ maxLen by have := HN.out; unfold maxLen; omega)
  clear hj hjl hx hbl hcl
  go_wp2_with ((with_reducible refine atDst 17 ?_); refine wpList_load_mid rfl 24 _ rfl g 0 rfl [.slice A S.length cap, .int .i64 a, .int .i64 z] _ HRG.out Try.underlying24 rfl (size_nfa rfl) ?_; (try simp only [Act.put, qA, qB, qC]))
  refine (has_any A S.length cap a z x HNL.out wi q hq).mono ?_
  rintro e w2 ⟨rfl, hb2⟩
  have G2 := qH (GI.out.below hb2)
  have S2 := qH (SI.out.trans (GStep.of hb2 g h _))
  have B2 := qH (BI.out.trans (hb2.mono BI.out.size))
  clear hb2 hq hcj
  cases q with
  | false =>
   have PE := qH (PI.out.out (goN_none HX.out (of_decide_eq_false HQ.out)))
   go_wp2_with fail
   exact ⟨⟨j + 1, _, _, _, HJ.out, by congr 1, G2.out, S2.out, PE.out⟩, by simpa [intOf] using HMJ.out⟩
  | true =>
   have hxx := of_decide_eq_true HQ.out
   obtain ⟨i, rfl⟩ : ∃ i : Nat, x = (i : Int) := ⟨x.toNat, by clear e3 e4; omega⟩
   have HIN := qH (Int.ofNat_lt.1 hxx.2)
   have i1 : (i : Int) < (S.length : Int) := hxx.2
   obtain ⟨s, hs⟩ : ∃ s, S[i]? = some s := ⟨_, List.getElem?_eq_getElem HIN.out⟩
   have HS := qH hs
   obtain ⟨bb, off, rfl, hbb, hse, hto, _⟩ := N.out.at_ hs
   obtain ⟨to, hto'⟩ : ∃ t, s.to = t := ⟨_, rfl⟩
   obtain ⟨st, hst'⟩ : ∃ t, s.set = t := ⟨_, rfl⟩
   rw [hto'] at hto
   rw [hst'] at hse
   have HTS := qH hto'
   have HSS := qH hst'
   have HSE := qH (range_below hse B2.out hbb)
   have HTO := qH ((B2.out.cell (p := ⟨bb, off + i * 6 + 4, none⟩) hbb).trans hto)
   have d0 := G2.out.blk.cell 0
   simp only [gcl, List.getElem?_cons_zero] at d0
   clear hxx hs hbb hse hto hto' hst'
   obtain ⟨q, hq⟩ : ∃ q, st b = q := ⟨_, rfl⟩
   have HQ2 := qH hq
   clear hq
   go_wp2_with ((with_reducible refine atDst 29 ?_); refine wpList_ldMidG rfl 37 _ rfl bb (off + i * 6) rfl (wds st) _ HSE.out Try.underlying37 rfl (size_set st) ?_; (try simp only [Act.put, qA, qB, qC]))
   refine (bsHas_any st b w2 HBN.out).mono ?_
   rintro e w3 ⟨rfl, hb3⟩
   rw [HQ2.out]
   have G3 := qH (G2.out.below hb3)
   have S3 := qH (S2.out.trans (GStep.of hb3 g h _))
   have d3 := G3.out.blk.cell 0
   simp only [gcl, List.getElem?_cons_zero] at d3
   have B3 := qH (B2.out.trans (hb3.mono B2.out.size))
   have HT3 := qH ((hb3.cell (p := ⟨bb, off + i * 6 + 4, none⟩) (World.block_lt_of_cell? _ _ HTO.out)).trans HTO.out)
   clear hb3 d0
   cases q with
   | false =>
    have PE := qH (PI.out.out (goN_out HX.out HS.out fun h => by have h1 := h.2; rw [HSS.out, HQ2.out] at h1; cases h1))
    go_wp2_with fail
    exact ⟨⟨j + 1, _, _, _, HJ.out, by congr 1, G3.out, S3.out, PE.out⟩, by simpa [intOf] using HMJ.out⟩
   | true =>
    have PE := qH (PI.out.in_ HX.out HS.out (by rw [HSS.out]; exact HQ2.out))
    rw [HTS.out] at PE
    have ht4 := HT3.out
    go_wp2_with fail
    refine (gAdd_any to w3 G3.out HN.out G3.out.size).mono ?_
    rintro e w4 ⟨rfl, v4, hg4, hst4⟩
    have G4 := qH hg4
    have S4 := qH (S3.out.trans hst4)
    clear hg4 hst4
    go_wp2_with fail
    exact ⟨⟨j + 1, _, _, _, HJ.out, by congr 1, G4.out, S4.out, PE.out⟩, by simpa [intOf] using HMJ.out⟩
 ·obtain rfl : j = l.length := Nat.le_antisymm hj (Nat.not_lt.1 hjl)
  have x1 : ¬ ((l.length : Int) < (l.length : Int)) := Int.lt_irrefl _
  go_wp2_with fail
  refine (gClose_any w0 S A cap a z N.out HM.out (fun q => t q = true ∨ (q : Int) ∈ goN S l b) (fun q hq => by have h1 := PI.out q hq; rw [List.take_length] at h1; exact h1) wi GI.out BI.out).mono ?_
  rintro e w4 ⟨rfl, t4, v4, L4, hg4, hst4, hr4⟩
  have PE := qH (show GPost w0 S A cap a z g h w lv (Rc S fun q => t q = true ∨ (q : Int) ∈ goN S l b) w4 from ⟨t4, v4, L4, hg4, SI.out.trans hst4, hr4⟩)
  clear hg4 hst4 hr4
  go_wp2_with fail
  go_end0
  exact ⟨rfl, PE.out⟩
end Go.Proofs.Ytmcpfaaakmehdaa
namespace Go.Proofs
open Go.Shelf
def Try.sortI_ren : Go.Shelf.Ren := ⟨fun | 189 => 58 | 125 => 75 | 257 => 74 | 128 => 91 | 129 => 92 | 294 => 82 | 295 => 83 | 296 => 84 | 297 => 85 | 298 => 86 | 299 => 87 | 216 => 88 | 300 => 89 | 301 => 90 | 328 => 95 | 329 => 96 | 330 => 97 | 331 => 98 | 332 => 99 | 215 => 100 | 343 => 104 | n => n, fun | 28 => 25 | 3 => 3 | 46 => 101 | 0 => 0 | 51 => 115 | 53 => 35 | 4 => 4 | 183 => 108 | 182 => 107 | 131 => 112 | 5 => 5 | 9 => 9 | 218 => 119 | 222 => 123 | 228 => 128 | 229 => 79 | n => n, fun | n => n⟩
theorem Try.sortI : Go.Proofs.Lays.n189 Try.prog Try.sortI_ren := {
 mixed := by kernel_rfl
 f125 := Try.func75.trans (congrArg some (by kernel_rfl))
 f128 := Try.func91.trans (congrArg some (by kernel_rfl))
 f129 := Try.func92.trans (congrArg some (by kernel_rfl))
 f189 := Try.func58.trans (congrArg some (by kernel_rfl))
 f215 := Try.func100.trans (congrArg some (by kernel_rfl))
 f216 := Try.func88.trans (congrArg some (by kernel_rfl))
 f257 := Try.func74.trans (congrArg some (by kernel_rfl))
 f294 := Try.func82.trans (congrArg some (by kernel_rfl))
 f295 := Try.func83.trans (congrArg some (by kernel_rfl))
 f296 := Try.func84.trans (congrArg some (by kernel_rfl))
 f297 := Try.func85.trans (congrArg some (by kernel_rfl))
 f298 := Try.func86.trans (congrArg some (by kernel_rfl))
 f299 := Try.func87.trans (congrArg some (by kernel_rfl))
 f300 := Try.func89.trans (congrArg some (by kernel_rfl))
 f301 := Try.func90.trans (congrArg some (by kernel_rfl))
 f328 := Try.func95.trans (congrArg some (by kernel_rfl))
 f329 := Try.func96.trans (congrArg some (by kernel_rfl))
 f330 := Try.func97.trans (congrArg some (by kernel_rfl))
 f331 := Try.func98.trans (congrArg some (by kernel_rfl))
 f332 := Try.func99.trans (congrArg some (by kernel_rfl))
 f343 := Try.func104.trans (congrArg some (by kernel_rfl))
 t0 := Try.underlying0
 a0 := Try.isAgg0
 z0 := Try.sizeOf0
 v0 := Try.zeroValue0
 t3 := Try.underlying3
 a3 := Try.isAgg3
 z3 := Try.sizeOf3
 v3 := Try.zeroValue3
 t4 := Try.underlying4
 a4 := Try.isAgg4
 z4 := Try.sizeOf4
 v4 := Try.zeroValue4
 t5 := Try.underlying5
 a5 := Try.isAgg5
 z5 := Try.sizeOf5
 v5 := Try.zeroValue5
 t9 := Try.underlying9
 a9 := Try.isAgg9
 z9 := Try.sizeOf9
 v9 := Try.zeroValue9
 t28 := Try.underlying25
 a28 := Try.isAgg25
 z28 := Try.sizeOf25
 v28 := Try.zeroValue25
 t46 := Try.underlying101
 a46 := Try.isAgg101
 z46 := Try.sizeOf101
 v46 := Try.zeroValue101
 t51 := Try.underlying115
 a51 := Try.isAgg115
 z51 := Try.sizeOf115
 v51 := Try.zeroValue115
 t53 := Try.underlying35
 a53 := Try.isAgg35
 z53 := Try.sizeOf35
 v53 := Try.zeroValue35
 t131 := Try.underlying112
 a131 := Try.isAgg112
 z131 := Try.sizeOf112
 v131 := Try.zeroValue112
 t182 := Try.underlying107
 a182 := Try.isAgg107
 z182 := Try.sizeOf107
 v182 := Try.zeroValue107
 t183 := Try.underlying108
 a183 := Try.isAgg108
 z183 := Try.sizeOf108
 v183 := Try.zeroValue108
 t218 := Try.underlying119
 a218 := Try.isAgg119
 z218 := Try.sizeOf119
 v218 := Try.zeroValue119
 t222 := Try.underlying123
 a222 := Try.isAgg123
 z222 := Try.sizeOf123
 v222 := Try.zeroValue123
 t228 := Try.underlying128
 a228 := Try.isAgg128
 z228 := Try.sizeOf128
 v228 := Try.zeroValue128
 t229 := Try.underlying79
 a229 := Try.isAgg79
 z229 := Try.sizeOf79
 v229 := Try.zeroValue79 }
end Go.Proofs
namespace Go.Proofs.Ytmcpfaaakmehdaa
open Go.RowKit
set_option linter.unusedSimpArgs false
set_option linter.unusedVariables false
open Go.RowKit Go.Shelf Go.Sort
abbrev leI (x y : Int) : Bool := decide (x ≤ y)
theorem sortInts_any {B : Nat} {v : Value} (L : List Int) (w : World) (h : w.ownsRow B 3 1 v L.length (nums .i64 L)) (hl : L.length ≤ 1048576) :
  Calls Try.prog 58 #[v] w fun e w' => e = .returned (.tuple #[]) ∧ w'.ownsRow B 3 1 v L.length (nums .i64 (L.mergeSort leI)) ∧ w.grownBy w' v.ownBlock := by
 by_cases hv : v = .slice none 0 0
 ·subst hv
  have hL : L = [] := by
   rcases h.2 with ⟨_, h0⟩ | ⟨g, cap, cur, he, _⟩
   ·exact List.eq_nil_of_length_eq_zero h0
   ·cases he
  subst hL
  refine (Any.slices_Sort_int_none Try.sortI none 0 w).mono ?_
  rintro e w' ⟨rfl, rfl⟩
  exact ⟨rfl, by simpa using h, World.grownBy.refl _ _⟩
 ·obtain ⟨g, cap, rfl, hb, hg, hn, hm, _, hH⟩ := Lib.holds_of_ownsRow (enc := Value.int .i64) (zs := L) (h : w.ownsRow B 3 1 v L.length (L.map (Value.int .i64))) hv
  refine (Any.slices_Sort_int Try.sortI g 0 cap L w hH hg (by omega)).mono ?_
  rintro e w' ⟨rfl, q, os, rfl⟩
  have hs := Lib.ownsRow_putRow (q := q) (k := L.length) (ys := L.mergeSort leI) (h : w.ownsRow B 3 1 _ L.length (L.map (Value.int .i64))) (List.length_mergeSort L) (Nat.le_refl _)
  rw [List.take_of_length_le (Nat.le_of_eq (List.length_mergeSort L))] at hs
  have hsz : (putRow (Value.int .i64) (Sort.ahead w q) g 0 (L.mergeSort leI).toArray).heap.size = w.heap.size := by simp [putRow, mapBlock, Sort.ahead]
  refine ⟨rfl, own6_stay hs fun j hj => heap_grow_old _ _ (own6_lt hs j hj).1, ⟨rfl, rfl, rfl, by simp [hsz], fun k hk hne => ?_⟩⟩
  rw [heap_grow_old _ _ (by rw [hsz]; exact hk)]
  have : g ≠ k := fun e => hne (by rw [e]; rfl)
  simp [putRow, mapBlock, Sort.ahead, Array.getElem?_modify, this]
theorem sort_ris {n : Nat} {t : Nat → Bool} {L : List Int} (h : GL n t L) : L.mergeSort leI = risJ t n := by
 refine List.Perm.eq_of_pairwise (le := fun a b : Int => a ≤ b) (fun a b _ _ h1 h2 => Int.le_antisymm h1 h2) ?_ ((risJ_rise t n).imp fun h => Int.le_of_lt h) ((List.mergeSort_perm L leI).trans h.perm)
 have := List.pairwise_mergeSort (le := leI) (fun a b c h1 h2 => by simp [leI] at *; omega) (fun a b => by simp [leI]; omega) L
 exact this.imp fun h => by simpa [leI] using h
set_option maxHeartbeats 4000000 in
set_option maxRecDepth 1000000 in
theorem gSorted_any {B g h n cap : Nat} {A : Option Addr} {a z : Int} {t : Nat → Bool} {lv : Value} {L : List Int} (w : World) (hg : GrpV w B g h A n cap a z t lv L) (hn : n ≤ 2000) :
  Calls Try.prog 41 #[.pointer (some ⟨g, 0, none⟩)] w fun e w' => ∃ v, e = .returned v ∧ Row w' v (nums .i64 (risJ t n)) ∧ Off (Gd g h lv) w w' := by
 have G := qH hg
 obtain ⟨A2, cap2, rfl, _⟩ := Row.of_own hg.own
 rw [nums_length] at G
 have HLN := qH (show L.length ≤ 1048576 by have := hg.gl.len; omega)
 have d4 := G.out.blk.cell 4
 simp only [gcl, List.getElem?_cons_succ, List.getElem?_cons_zero] at d4
 have HS := qH (sort_ris hg.gl)
 rw [nums_length]
 clear hg hn
 go_enter Try.func41, Try.ntmps41
 go_wp2_with fail
 refine (sortInts_any L w G.out.own HLN.out).mono ?_
 rintro e w2 ⟨rfl, ho2, hg2⟩
 rw [HS.out] at ho2
 have R2 := qH (Row.of_own ho2)
 have e4 := (G.out.blk.grown hg2 fun e => G.out.lg e.symm).cell 4
 simp only [gcl, List.getElem?_cons_succ, List.getElem?_cons_zero] at e4
 have O2 := qH (show Off (Gd g h (.slice A2 L.length cap2)) w w2 from Off.grown hg2 fun k hk => .inr (.inr (.inr hk)))
 clear ho2 hg2 d4
 go_wp2_with fail
 go_ret
 exact ⟨_, rfl, R2.out, O2.out⟩
end Go.Proofs.Ytmcpfaaakmehdaa
