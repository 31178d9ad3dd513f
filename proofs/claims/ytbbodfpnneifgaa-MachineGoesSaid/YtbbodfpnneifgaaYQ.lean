/-
  Texts of this proof, put together: SoM, SoN. No statement is proved here.
-/
import Derived.Test.YtbbodfpnneifgaaYI
import Derived.Test.YtbbodfpnneifgaaYK
import Derived.Test.YtbbodfpnneifgaaYL
import Derived.Test.YtbbodfpnneifgaaYM
import Derived.Test.YtbbodfpnneifgaaYN
import Derived.Test.YtbbodfpnneifgaaYO
import Derived.Test.YtbbodfpnneifgaaYP
namespace Go.Proofs.Ytbbodfpnneifgaa
open Go.RowKit
set_option linter.unusedSimpArgs false
set_option linter.unusedVariables false
theorem ex_gt0 {P : Program} {ev : Operand → Value} {o : Oper} (x : Operand) {t r : TypeId} (ho : o.op = .binOp .gtr t x (.const (.int .i64 0)) r) {i : Nat} (hx : ev x = .int .i64 (i : Int)) (hy : ev (.const (.int .i64 0)) = .int .i64 0) {b : Bool} (hb : decide (0 < i) = b) (W : World) : (execOp ev o).run P W = .ok (.value (.bool b)) W :=
 ex_gtY x (.const (.int .i64 0)) (j := 0) ho hx hy hb W
theorem div8_w {len : Nat} (h : len ≤ 1048576) : wrap64 ((len : Int) / 8) = ((len / 8 : Nat) : Int) := by
 rw [show (len : Int) / 8 = ((len / 8 : Nat) : Int) from by omega]; exact w64S _ (by omega)
theorem div8_k {len : Nat} (h : len ≤ 1048576) : IntKind.i64.wrap ((len : Int) / 8) = ((len / 8 : Nat) : Int) := by
 rw [show (len : Int) / 8 = ((len / 8 : Nat) : Int) from by omega]; exact k64S _ (by omega)
set_option maxHeartbeats 32000000 in
set_option maxRecDepth 1000000 in
theorem pdqY_aux (g n cap : Nat) (zs : List Value) (hn : n ≤ 1048576) : ∀ (m : Nat) (l0 : List UInt8) (w : World) (a b lim : Nat), l0.length = n → Dat w g zs l0 → b ≤ n → a ≤ b → b - a ≤ m → lim ≤ 64 →
  Calls Try.prog 45 #[.slice (some ⟨g, 0, none⟩) n cap, .int .i64 (a : Int), .int .i64 (b : Int), .int .i64 (lim : Int)] w fun e w' => e = .returned (.tuple #[]) ∧ SoP g zs l0 w w' := by
 intro m
 induction m using Nat.strongRecOn with
 | ind m ih =>
 intro l0 w a b lim hl hd hb hab hm hlim
 have HL := qH hl
 have HN := qH hn
 have D0 := qH hd
 have HB0 := qH hb
 have HAB0 := qH hab
 have HM0 := qH hm
 have HLM0 := qH hlim
 clear hl hn hd hb hab hm hlim
 go_enter Try.func45, Try.ntmps45
 go_wp2_with fail
 go_loopw [1, 2, 3, 8, 9] (fun av bv' lv wb wp wl => ∃ (a b lim : Nat) (cb cp : Bool), av = .int .i64 (a : Int) ∧ bv' = .int .i64 (b : Int) ∧ lv = .int .i64 (lim : Int) ∧ wb = .bool cb ∧ wp = .bool cp ∧ a ≤ b ∧ b ≤ n ∧ b - a ≤ m ∧ lim ≤ 64 ∧ SoP g zs l0 w wl) (fun av bv' _ _ _ _ => ((intOf bv').toNat - (intOf av).toNat))
 case atStart => exact ⟨a, b, lim, true, true, rfl, rfl, rfl, rfl, rfl, HAB0.out, HB0.out, HM0.out, HLM0.out, SoP.refl D0.out⟩
 clear HB0 HAB0 HM0 HLM0 D0
 obtain ⟨a, b, lim, cb, cp, rfl, rfl, rfl, rfl, rfl, hab, hb, hm, hlm, hs⟩ := hrel
 have HS := qH hs
 have HABL := qH hab
 have HB := qH hb
 have HBA := qH hm
 have HLM := qH hlm
 obtain ⟨len, hlen⟩ : ∃ x, a + x = b := ⟨b - a, Nat.add_sub_cancel' hab⟩
 have HLE := qH hlen
 have HLK := qH (show len ≤ 1048576 from Nat.le_trans (Nat.le_trans (Nat.le_add_left len a) (Nat.le_of_eq hlen)) (Nat.le_trans hb HN.out))
 have e1 := dif_w hlen (Nat.le_trans hb HN.out)
 have e2 := dif_k hlen (Nat.le_trans hb HN.out)
 rename_i wr
 clear hs hab hb hm hlm hlen
 by_cases h12 : len ≤ 12
 ·have x1 : (len : Int) ≤ 12 := Int.ofNat_le.2 h12
  obtain ⟨l, hp, hd⟩ := HS.out.dat
  have PL := qH hp
  have SD := qH hd
  have GD := qH HS.out.grown
  have SL := qH (show l.length = n by rw [hp.length_eq]; exact HL.out)
  clear hp hd
  clear HS
  go_wp2_with fail
  refine (insY_any g n cap zs l wr SL.out HN.out SD.out a b HB.out (Nat.le_trans HABL.out HB.out)).mono ?_
  rintro e wn ⟨rfl, hs⟩
  have HS := qH (SoP.trans PL.out GD.out hs)
  clear hs SD GD PL SL
  go_wp2_with fail
  refine bodyPost_ret (results_none rfl _ _ _) rfl ?_
  exact ⟨rfl, HS.out⟩
 ·have x1 : ¬ ((len : Int) ≤ 12) := fun h => h12 (Int.ofNat_le.1 h)
  have HAB := qH (show a < b by have h1 := HLE.out; clear e1 e2; omega)
  by_cases hl0 : lim = 0
  ·have x2 : (lim : Int) = 0 := by rw [hl0]; rfl
   obtain ⟨l, hp, hd⟩ := HS.out.dat
   have PL := qH hp
   have SD := qH hd
   have GD := qH HS.out.grown
   have SL := qH (show l.length = n by rw [hp.length_eq]; exact HL.out)
   clear hp hd
   clear HS
   subst hl0
   go_wp2_with fail
   refine (heapY_any g n cap zs l wr SL.out HN.out SD.out a b HAB.out HB.out).mono ?_
   rintro e wn ⟨rfl, hs⟩
   have HS := qH (SoP.trans PL.out GD.out hs)
   clear hs SD GD PL SL
   go_wp2_with fail
   refine bodyPost_ret (results_none rfl _ _ _) rfl ?_
   exact ⟨rfl, HS.out⟩
  ·have x2 : ¬ ((lim : Int) = 0) := fun h => hl0 (Int.ofNat_eq_zero.1 h)
   obtain ⟨b1, hb1⟩ := pre_ex (Nat.lt_of_le_of_lt (Nat.zero_le a) HAB.out)
   have HBE := qH hb1
   have HBK := qH (show b1 ≤ 1048576 from Nat.le_trans (by rw [← hb1]; exact Nat.le_succ b1) (Nat.le_trans HB.out HN.out))
   have e3 := sub_w hb1 HBK.out
   have e4 := sub_k hb1 HBK.out
   have e5 := div8_w HLK.out
   have e6 := div8_k HLK.out
   obtain ⟨lim1, hlim1⟩ := pre_ex (Nat.pos_of_ne_zero hl0)
   have HLM1 := qH (show lim1 ≤ 64 from Nat.le_trans (by rw [← hlim1]; exact Nat.le_succ lim1) HLM.out)
   have e7 := sub_w hlim1 (Nat.le_trans HLM1.out (by decide))
   have e8 := sub_k hlim1 (Nat.le_trans HLM1.out (by decide))
   clear hb1 hlim1 h12 hl0
   cases cb
   focus
    obtain ⟨l, hp, hd⟩ := HS.out.dat
    have PL := qH hp
    have SD := qH hd
    have GD := qH HS.out.grown
    have SL := qH (show l.length = n by rw [hp.length_eq]; exact HL.out)
    clear hp hd
    clear HS
    go_wp2_with fail
    refine (breakY_any g n cap zs l wr SL.out HN.out SD.out a b HAB.out HB.out).mono ?_
    rintro e wn ⟨rfl, hs⟩
    have HS := qH (SoP.trans PL.out GD.out hs)
    clear hs SD GD PL SL
    clear HLM
    have HLM := HLM1
    obtain ⟨lim, hlim⟩ : ∃ x, x = lim1 := ⟨_, rfl⟩
    rw [← hlim] at HLM1 HLM e7 e8
    clear HLM1
    have HLM1 := HLM
    clear hlim
    obtain ⟨wr, hwr⟩ : ∃ v : World, v = wn := ⟨_, rfl⟩
    subst hwr
   rotate_left
   focus
    rcases cp with _ | _
   rotate_left
   focus
    obtain ⟨l, hp, hd⟩ := HS.out.dat
    have PL := qH hp
    have SD := qH hd
    have GD := qH HS.out.grown
    have SL := qH (show l.length = n by rw [hp.length_eq]; exact HL.out)
    clear hp hd
    try go_wp2_with fail
    refine (pivY_any g n cap zs l wr SL.out HN.out SD.out a b HAB.out HB.out).mono ?_
    rintro e wn ⟨pv, h, hp1, hp2, rfl, hbl⟩
    have HPV := qH (And.intro hp1 hp2)
    have HS2 := qH (HS.out.below hbl)
    clear hbl hp1 hp2 SD GD PL SL HS
    have HS := HS2
    clear HS2
    obtain ⟨wr, hwr⟩ : ∃ v : World, v = wn := ⟨_, rfl⟩
    subst hwr
    by_cases h2 : h = 2
    focus
     subst h2
     obtain ⟨dd, hdd⟩ : ∃ x, a + x = pv := ⟨pv - a, Nat.add_sub_cancel' HPV.out.1⟩
     obtain ⟨pw, hpw⟩ : ∃ x, dd + x = b1 := ⟨b1 - dd, Nat.add_sub_cancel' (by have h1 := HPV.out; have h3 := HBE.out; clear e1 e2 e3 e4 e5 e6 e7 e8; omega)⟩
     have HPW := qH (show a ≤ pw ∧ pw < b by have h1 := HPV.out; have h3 := HBE.out; clear e1 e2 e3 e4 e5 e6 e7 e8; omega)
     have g1 := dif_w hdd (Nat.le_trans (Nat.le_of_lt HPV.out.2) (Nat.le_trans HB.out HN.out))
     have g2 := dif_k hdd (Nat.le_trans (Nat.le_of_lt HPV.out.2) (Nat.le_trans HB.out HN.out))
     have g3 := dif_w hpw HBK.out
     have g4 := dif_k hpw HBK.out
     clear hdd hpw HPV
     have HPV := HPW
     obtain ⟨l, hp, hd⟩ := HS.out.dat
     have PL := qH hp
     have SD := qH hd
     have GD := qH HS.out.grown
     have SL := qH (show l.length = n by rw [hp.length_eq]; exact HL.out)
     clear hp hd
     clear HS
     go_wp2_with fail
     refine (revY_any g n cap zs l wr SL.out HN.out SD.out a b HAB.out HB.out).mono ?_
     rintro e wn ⟨rfl, hs⟩
     have HS := qH (SoP.trans PL.out GD.out hs)
     clear hs SD GD PL SL
     obtain ⟨wr, hwr⟩ : ∃ v : World, v = wn := ⟨_, rfl⟩
     subst hwr
     obtain ⟨l, hp, hd⟩ := HS.out.dat
     have PL := qH hp
     have SD := qH hd
     have GD := qH HS.out.grown
     have SL := qH (show l.length = n by rw [hp.length_eq]; exact HL.out)
     clear hp hd
     clear HS
     go_wp2_with fail
     obtain ⟨pv, hpv⟩ : ∃ x, x = pw := ⟨_, rfl⟩
     rw [← hpv] at HPV HPW g3 g4
     rw [← hpv]
     clear hpv HPW g1 g2 g3 g4 pw
     have h2 := True.intro
     refine (pinY_any g n cap zs l wr SL.out HN.out SD.out a b HAB.out HB.out).mono ?_
     rintro e wn ⟨c, rfl, hs⟩
     have HS := qH (SoP.trans PL.out GD.out hs)
     clear hs SD GD PL SL
     obtain ⟨wr, hwr⟩ : ∃ v : World, v = wn := ⟨_, rfl⟩
     subst hwr
     rcases c with _ | _
     rotate_left
     focus
      go_wp2_with fail
      refine bodyPost_ret (results_none rfl _ _ _) rfl ?_
      exact ⟨rfl, HS.out⟩
     go_wp2_with fail
    rotate_left
    focus
     have y2 : ¬ ((h : Int) = 2) := fun hh => h2 (Int.ofNat.inj hh)
     by_cases h1 : h = 1
     focus
      subst h1
      obtain ⟨l, hp, hd⟩ := HS.out.dat
      have PL := qH hp
      have SD := qH hd
      have GD := qH HS.out.grown
      have SL := qH (show l.length = n by rw [hp.length_eq]; exact HL.out)
      clear hp hd
      clear HS
      go_wp2_with fail
      refine (pinY_any g n cap zs l wr SL.out HN.out SD.out a b HAB.out HB.out).mono ?_
      rintro e wn ⟨c, rfl, hs⟩
      have HS := qH (SoP.trans PL.out GD.out hs)
      clear hs SD GD PL SL
      obtain ⟨wr, hwr⟩ : ∃ v : World, v = wn := ⟨_, rfl⟩
      subst hwr
      rcases c with _ | _
      rotate_left
      focus
       go_wp2_with fail
       refine bodyPost_ret (results_none rfl _ _ _) rfl ?_
       exact ⟨rfl, HS.out⟩
      go_wp2_with fail
     rotate_left
     focus
      have y1 : ¬ ((h : Int) = 1) := fun hh => h1 (Int.ofNat.inj hh)
      go_wp2_with fail
      clear y1 h1
     all_goals clear y2
    all_goals clear h2
    all_goals
     have HPN := qH (show pv < n from Nat.lt_of_lt_of_le HPV.out.2 HB.out)
     obtain ⟨l, hp, hd⟩ := HS.out.dat
     have PL := qH hp
     have SD := qH hd
     have GD := qH HS.out.grown
     have SL := qH (show l.length = n by rw [hp.length_eq]; exact HL.out)
     clear hp hd
     clear HS
     obtain ⟨v, hv⟩ : ∃ q, l[pv]? = some q := ⟨_, List.getElem?_eq_getElem (by rw [SL.out]; exact HPN.out)⟩
     have HV := qH hv
     clear hv
     by_cases ha0 : 0 < a
     focus
      have HA0 := qH ha0
      obtain ⟨a1, ha1⟩ := pre_ex ha0
      have HAE := qH ha1
      have HA1N := qH (show a1 < n from Nat.lt_of_lt_of_le (Nat.lt_trans (by rw [← ha1]; exact Nat.lt_succ_self a1) HAB.out) HB.out)
      have HAK := qH (show a1 ≤ 1048576 from Nat.le_trans (Nat.le_of_lt HA1N.out) HN.out)
      obtain ⟨u, hu⟩ : ∃ q, l[a1]? = some q := ⟨_, List.getElem?_eq_getElem (by rw [SL.out]; exact HA1N.out)⟩
      have HU := qH hu
      clear hu
      obtain ⟨c, hc⟩ : ∃ c, c = decide (u.toNat < v.toNat) := ⟨_, rfl⟩
      have HC := qH hc
      clear hc
      clear ha0 ha1
      try go_wp2_with fail
      refine sg_start (S := IsW wr.drew) (by kernel_rfl) rfl (fun wd hwd => ?_)
      have hX : IsW _ wd := hwd
      clear hwd
      refine sg_take (i := 0) (oi := ⟨some 73, _, _, _, _, _⟩) (v := ?_) rfl (by kernel_rfl) (by kernel_rfl) (by kernel_rfl) (fun _ _ _ h => h) rfl hX ?_ ?_; rotate_left; (intro W hW; go_simp; try with_reducible rfl); simp only [Act.put, qA, qB, qC]
      refine sg_take (i := 1) (oi := ⟨some 74, _, _, _, _, _⟩) (v := .bool true) rfl (by kernel_rfl) (by kernel_rfl) (by kernel_rfl) (fun _ _ _ h => h) rfl hX (fun V _ => ex_gt0 (.tmp 73) rfl (i := a) rfl rfl (decide_eq_true HA0.out) V) ?_; simp only [Act.put, qA, qB, qC]
      refine sg_take (i := 2) (oi := ⟨some 75, _, _, _, _, _⟩) (v := ?_) rfl (by kernel_rfl) (by kernel_rfl) (by kernel_rfl) (fun _ _ _ h => h) rfl hX ?_ ?_; rotate_left; (intro W hW; go_simp; try with_reducible rfl); simp only [Act.put, qA, qB, qC]
      refine sg_take (i := 3) (oi := ⟨some 76, _, _, _, _, _⟩) (v := ?_) rfl (by kernel_rfl) (by kernel_rfl) (by kernel_rfl) (fun _ _ _ h => h) rfl hX ?_ ?_; rotate_left; (intro W hW; go_simp; try with_reducible rfl); simp only [Act.put, qA, qB, qC]
      refine sg_take (i := 4) (oi := ⟨some 77, _, _, _, _, _⟩) (v := ?_) rfl (by kernel_rfl) (by kernel_rfl) (by kernel_rfl) (fun _ _ _ h => h) rfl hX ?_ ?_; rotate_left; (intro W hW; go_simp; try with_reducible rfl); simp only [Act.put, qA, qB, qC]
      refine sg_take (i := 5) (oi := ⟨some 78, _, _, _, _, _⟩) (v := .int .i64 ((a1 : Nat) : Int)) rfl (by kernel_rfl) (by kernel_rfl) (by kernel_rfl) (fun _ _ _ h => h) rfl hX (fun V _ => ex_subV (.tmp 77) rfl rfl rfl HAE.out HAK.out V) ?_; simp only [Act.put, qA, qB, qC]
      refine sg_take (i := 6) (oi := ⟨some 79, _, _, _, _, _⟩) (v := .pointer (some ⟨g, a1, none⟩)) rfl (by kernel_rfl) (by kernel_rfl) (by kernel_rfl) (fun _ _ _ h => h) rfl hX (fun V _ => ix_y (.tmp 76) (.tmp 78) rfl rfl rfl HA1N.out V) ?_; simp only [Act.put, qA, qB, qC]
      refine sg_take (i := 7) (oi := ⟨some 80, _, _, _, _, _⟩) (v := bv u) rfl (by kernel_rfl) (by kernel_rfl) (by kernel_rfl) (fun _ _ _ h => h) rfl hX (fun V hV => ld_yt (.tmp 79) rfl rfl ((SD.out.is hV).cell HU.out)) ?_; simp only [Act.put, qA, qB, qC]
      refine sg_take (i := 8) (oi := ⟨some 81, _, _, _, _, _⟩) (v := ?_) rfl (by kernel_rfl) (by kernel_rfl) (by kernel_rfl) (fun _ _ _ h => h) rfl hX ?_ ?_; rotate_left; (intro W hW; go_simp; try with_reducible rfl); simp only [Act.put, qA, qB, qC]
      refine sg_take (i := 9) (oi := ⟨some 82, _, _, _, _, _⟩) (v := ?_) rfl (by kernel_rfl) (by kernel_rfl) (by kernel_rfl) (fun _ _ _ h => h) rfl hX ?_ ?_; rotate_left; (intro W hW; go_simp; try with_reducible rfl); simp only [Act.put, qA, qB, qC]
      refine sg_take (i := 10) (oi := ⟨some 83, _, _, _, _, _⟩) (v := .pointer (some ⟨g, pv, none⟩)) rfl (by kernel_rfl) (by kernel_rfl) (by kernel_rfl) (fun _ _ _ h => h) rfl hX (fun V _ => ix_y (.tmp 81) (.tmp 82) rfl rfl rfl HPN.out V) ?_; simp only [Act.put, qA, qB, qC]
      refine sg_take (i := 11) (oi := ⟨some 84, _, _, _, _, _⟩) (v := bv v) rfl (by kernel_rfl) (by kernel_rfl) (by kernel_rfl) (fun _ _ _ h => h) rfl hX (fun V hV => ld_yt (.tmp 83) rfl rfl ((SD.out.is hV).cell HV.out)) ?_; simp only [Act.put, qA, qB, qC]
      refine sg_actB (i := 12) (o := ⟨some 85, _, _, _, _, _⟩) rfl (by kernel_rfl) rfl hX (fun K hK => ?_)
      go_wp2_with fail
      refine (lessY_any _ _ _).mono ?_
      rintro e we ⟨rfl, hwe⟩
      subst hwe
      rw [← HC.out]
      go_wp2_with fail
      refine hK _ _ hX ?_
      clear hK K
      (try simp only [Act.put, qA, qB, qC])
      refine sg_take (i := 13) (oi := ⟨some 86, _, _, _, _, _⟩) (v := ?_) rfl (by kernel_rfl) (by kernel_rfl) (by kernel_rfl) (fun _ _ _ h => h) rfl hX ?_ ?_; rotate_left; (intro W hW; go_simp; try with_reducible rfl); simp only [Act.put, qA, qB, qC]
      refine sg_take (i := 14) (oi := ⟨some 87, _, _, _, _, _⟩) (v := ?_) rfl (by kernel_rfl) (by kernel_rfl) (by kernel_rfl) (fun _ _ _ h => h) rfl hX ?_ ?_; rotate_left; (intro W hW; go_simp; try with_reducible rfl); simp only [Act.put, qA, qB, qC]
      refine wpAnyH_done (by kernel_rfl) ?_ _
      have HS := qH (show SoP g zs l0 w _ from ⟨⟨l, PL.out, SD.out.is hX⟩, grownS_is GD.out hX⟩)
      clear hX SD GD PL SL
      clear HU HV HC
      rcases c with _ | _
      focus
       simp only [Bool.not_false]
       obtain ⟨wr, hwr⟩ : ∃ v : World, v = we := ⟨_, rfl⟩
       subst hwr
       obtain ⟨l, hp, hd⟩ := HS.out.dat
       have PL := qH hp
       have SD := qH hd
       have GD := qH HS.out.grown
       have SL := qH (show l.length = n by rw [hp.length_eq]; exact HL.out)
       clear hp hd
       clear HS
       go_wp2_with fail
       refine (parEY_any g n cap zs l wr SL.out HN.out SD.out a b pv HB.out HPV.out.1 HPV.out.2).mono ?_
       rintro e wn ⟨mid, hm1, hm2, rfl, hs⟩
       have HS := qH (SoP.trans PL.out GD.out hs)
       have HM1 := qH hm1
       have HM2 := qH hm2
       have HMM := qH (show b - mid ≤ m by have h1 := HBA.out; clear e1 e2 e3 e4 e5 e6 e7 e8; omega)
       have HME := qH (show b - mid < b - a by have h1 := HAB.out; clear e1 e2 e3 e4 e5 e6 e7 e8; omega)
       clear hs hm1 hm2 SD GD PL SL
       go_wp2_with fail
       exact ⟨⟨mid, b, lim, _, _, rfl, rfl, rfl, rfl, rfl, HM2.out, HB.out, HMM.out, HLM.out, HS.out⟩, by simpa [intOf] using HME.out⟩
      simp only [Bool.not_true]
      clear HAE HA1N HAK HA0
      obtain ⟨wr, hwr⟩ : ∃ v : World, v = we := ⟨_, rfl⟩
      subst hwr
     rotate_left
     focus
      have HA0 := qH ha0
      clear ha0
      try go_wp2_with fail
      refine sg_start (S := IsW wr.drew) (by kernel_rfl) rfl (fun wd hwd => ?_)
      have hX : IsW _ wd := hwd
      clear hwd
      refine sg_take (i := 0) (oi := ⟨some 73, _, _, _, _, _⟩) (v := ?_) rfl (by kernel_rfl) (by kernel_rfl) (by kernel_rfl) (fun _ _ _ h => h) rfl hX ?_ ?_; rotate_left; (intro W hW; go_simp; try with_reducible rfl); simp only [Act.put, qA, qB, qC]
      refine sg_take (i := 1) (oi := ⟨some 74, _, _, _, _, _⟩) (v := .bool false) rfl (by kernel_rfl) (by kernel_rfl) (by kernel_rfl) (fun _ _ _ h => h) rfl hX (fun V _ => ex_gt0 (.tmp 73) rfl (i := a) rfl rfl (decide_eq_false HA0.out) V) ?_; simp only [Act.put, qA, qB, qC]
      refine sg_take (i := 2) (oi := ⟨some 75, _, _, _, _, _⟩) (v := ?_) rfl (by kernel_rfl) (by kernel_rfl) (by kernel_rfl) (fun _ _ _ h => h) rfl hX ?_ ?_; rotate_left; (intro W hW; go_simp; try with_reducible rfl); simp only [Act.put, qA, qB, qC]
      refine sg_skip (i := 3) (oi := ⟨some 76, _, _, _, _, _⟩) rfl (by kernel_rfl) (by kernel_rfl) (by kernel_rfl) (fun _ _ _ h => h) rfl hX ?_; simp only [Act.put, qA, qB, qC]
      refine sg_skip (i := 4) (oi := ⟨some 77, _, _, _, _, _⟩) rfl (by kernel_rfl) (by kernel_rfl) (by kernel_rfl) (fun _ _ _ h => h) rfl hX ?_; simp only [Act.put, qA, qB, qC]
      refine sg_skip (i := 5) (oi := ⟨some 78, _, _, _, _, _⟩) rfl (by kernel_rfl) (by kernel_rfl) (by kernel_rfl) (fun _ _ _ h => h) rfl hX ?_; simp only [Act.put, qA, qB, qC]
      refine sg_skip (i := 6) (oi := ⟨some 79, _, _, _, _, _⟩) rfl (by kernel_rfl) (by kernel_rfl) (by kernel_rfl) (fun _ _ _ h => h) rfl hX ?_; simp only [Act.put, qA, qB, qC]
      refine sg_skip (i := 7) (oi := ⟨some 80, _, _, _, _, _⟩) rfl (by kernel_rfl) (by kernel_rfl) (by kernel_rfl) (fun _ _ _ h => h) rfl hX ?_; simp only [Act.put, qA, qB, qC]
      refine sg_skip (i := 8) (oi := ⟨some 81, _, _, _, _, _⟩) rfl (by kernel_rfl) (by kernel_rfl) (by kernel_rfl) (fun _ _ _ h => h) rfl hX ?_; simp only [Act.put, qA, qB, qC]
      refine sg_skip (i := 9) (oi := ⟨some 82, _, _, _, _, _⟩) rfl (by kernel_rfl) (by kernel_rfl) (by kernel_rfl) (fun _ _ _ h => h) rfl hX ?_; simp only [Act.put, qA, qB, qC]
      refine sg_skip (i := 10) (oi := ⟨some 83, _, _, _, _, _⟩) rfl (by kernel_rfl) (by kernel_rfl) (by kernel_rfl) (fun _ _ _ h => h) rfl hX ?_; simp only [Act.put, qA, qB, qC]
      refine sg_skip (i := 11) (oi := ⟨some 84, _, _, _, _, _⟩) rfl (by kernel_rfl) (by kernel_rfl) (by kernel_rfl) (fun _ _ _ h => h) rfl hX ?_; simp only [Act.put, qA, qB, qC]
      refine sg_skip (i := 12) (oi := ⟨some 85, _, _, _, _, _⟩) rfl (by kernel_rfl) (by kernel_rfl) (by kernel_rfl) (fun _ _ _ h => h) rfl hX ?_; simp only [Act.put, qA, qB, qC]
      refine sg_skip (i := 13) (oi := ⟨some 86, _, _, _, _, _⟩) rfl (by kernel_rfl) (by kernel_rfl) (by kernel_rfl) (fun _ _ _ h => h) rfl hX ?_; simp only [Act.put, qA, qB, qC]
      refine sg_take (i := 14) (oi := ⟨some 87, _, _, _, _, _⟩) (v := ?_) rfl (by kernel_rfl) (by kernel_rfl) (by kernel_rfl) (fun _ _ _ h => h) rfl hX ?_ ?_; rotate_left; (intro W hW; go_simp; try with_reducible rfl); simp only [Act.put, qA, qB, qC]
      refine wpAnyH_done (by kernel_rfl) ?_ _
      have HS := qH (show SoP g zs l0 w _ from ⟨⟨l, PL.out, SD.out.is hX⟩, grownS_is GD.out hX⟩)
      clear hX SD GD PL SL
      clear HV HA0
      obtain ⟨wr, hwr⟩ : ∃ v : World, v = wd := ⟨_, rfl⟩
      subst hwr
     all_goals
      obtain ⟨l, hp, hd⟩ := HS.out.dat
      have PL := qH hp
      have SD := qH hd
      have GD := qH HS.out.grown
      have SL := qH (show l.length = n by rw [hp.length_eq]; exact HL.out)
      clear hp hd
      clear HS
      go_wp2_with fail
      refine (parY_any g n cap zs l wr SL.out HN.out SD.out a b pv HB.out HPV.out.1 HPV.out.2).mono ?_
      rintro e wn ⟨mid, c, hm1, hm2, rfl, hs⟩
      have HS := qH (SoP.trans PL.out GD.out hs)
      have HM1 := qH hm1
      have HM2 := qH hm2
      obtain ⟨ll, hll⟩ : ∃ x, a + x = mid := ⟨mid - a, Nat.add_sub_cancel' hm1⟩
      obtain ⟨rl, hrl⟩ : ∃ x, mid + x = b := ⟨b - mid, Nat.add_sub_cancel' (Nat.le_of_lt hm2)⟩
      have d1 := dif_w hll (Nat.le_trans (Nat.le_of_lt hm2) (Nat.le_trans HB.out HN.out))
      have d2 := dif_k hll (Nat.le_trans (Nat.le_of_lt hm2) (Nat.le_trans HB.out HN.out))
      have d3 := dif_w hrl (Nat.le_trans HB.out HN.out)
      have d4 := dif_k hrl (Nat.le_trans HB.out HN.out)
      have d5 := wrap_one mid (Nat.le_trans (Nat.le_of_lt hm2) (Nat.le_trans HB.out (Nat.le_trans HN.out (by decide))))
      have d6 := wrap_one' mid (Nat.le_trans (Nat.le_of_lt hm2) (Nat.le_trans HB.out (Nat.le_trans HN.out (by decide))))
      have HR1 := qH (show mid - a < b - a by clear e1 e2 e3 e4 e5 e6 e7 e8 d1 d2 d3 d4 d5 d6; omega)
      have HR2 := qH (show b - (mid + 1) < b - a by clear e1 e2 e3 e4 e5 e6 e7 e8 d1 d2 d3 d4 d5 d6; omega)
      have HMM1 := qH (show mid - a ≤ m by have h1 := HBA.out; clear e1 e2 e3 e4 e5 e6 e7 e8 d1 d2 d3 d4 d5 d6; omega)
      have HMM2 := qH (show b - (mid + 1) ≤ m by have h1 := HBA.out; clear e1 e2 e3 e4 e5 e6 e7 e8 d1 d2 d3 d4 d5 d6; omega)
      have HMN := qH (show mid ≤ n from Nat.le_trans (Nat.le_of_lt hm2) HB.out)
      clear hs hm1 hm2 hll hrl SD GD PL SL
      by_cases hlr : ll < rl
      ·have x9 : (ll : Int) < (rl : Int) := Int.ofNat_lt.2 hlr
       clear hlr
       go_wp2_with fail
       obtain ⟨l, hp, hd⟩ := HS.out.dat
       have PL := qH hp
       have SD := qH hd
       have GD := qH HS.out.grown
       have SL := qH (show l.length = n by rw [hp.length_eq]; exact HL.out)
       clear hp hd
       clear HS
       refine (ih (mid - a) (Nat.lt_of_lt_of_le HR1.out HBA.out) l wn a mid lim SL.out SD.out HMN.out HM1.out (Nat.le_refl _) HLM.out).mono ?_
       rintro e wn ⟨rfl, hs⟩
       have HS := qH (SoP.trans PL.out GD.out hs)
       clear hs SD GD PL SL
       go_wp2_with fail
       exact ⟨⟨mid + 1, b, lim, _, _, by simp, rfl, rfl, rfl, rfl, HM2.out, HB.out, HMM2.out, HLM.out, HS.out⟩, by simpa [intOf] using HR2.out⟩
      ·have x9 : ¬ ((ll : Int) < (rl : Int)) := fun h => hlr (Int.ofNat_lt.1 h)
       go_wp2_with fail
       obtain ⟨l, hp, hd⟩ := HS.out.dat
       have PL := qH hp
       have SD := qH hd
       have GD := qH HS.out.grown
       have SL := qH (show l.length = n by rw [hp.length_eq]; exact HL.out)
       clear hp hd
       clear HS
       refine (ih (b - (mid + 1)) (Nat.lt_of_lt_of_le HR2.out HBA.out) l wn (mid + 1) b lim SL.out SD.out HB.out HM2.out (Nat.le_refl _) HLM.out).mono ?_
       rintro e wn ⟨rfl, hs⟩
       have HS := qH (SoP.trans PL.out GD.out hs)
       clear hs SD GD PL SL
       go_wp2_with fail
       exact ⟨⟨a, mid, lim, _, _, rfl, rfl, rfl, rfl, rfl, HM1.out, HMN.out, HMM1.out, HLM.out, HS.out⟩, by simpa [intOf] using HR1.out⟩
   all_goals
    obtain ⟨l, hp, hd⟩ := HS.out.dat
    have PL := qH hp
    have SD := qH hd
    have GD := qH HS.out.grown
    have SL := qH (show l.length = n by rw [hp.length_eq]; exact HL.out)
    clear hp hd
    try go_wp2_with fail
    refine (pivY_any g n cap zs l wr SL.out HN.out SD.out a b HAB.out HB.out).mono ?_
    rintro e wn ⟨pv, h, hp1, hp2, rfl, hbl⟩
    have HPV := qH (And.intro hp1 hp2)
    have HS2 := qH (HS.out.below hbl)
    clear hbl hp1 hp2 SD GD PL SL HS
    have HS := HS2
    clear HS2
    obtain ⟨wr, hwr⟩ : ∃ v : World, v = wn := ⟨_, rfl⟩
    subst hwr
    by_cases h2 : h = 2
    focus
     subst h2
     obtain ⟨dd, hdd⟩ : ∃ x, a + x = pv := ⟨pv - a, Nat.add_sub_cancel' HPV.out.1⟩
     obtain ⟨pw, hpw⟩ : ∃ x, dd + x = b1 := ⟨b1 - dd, Nat.add_sub_cancel' (by have h1 := HPV.out; have h3 := HBE.out; clear e1 e2 e3 e4 e5 e6 e7 e8; omega)⟩
     have HPW := qH (show a ≤ pw ∧ pw < b by have h1 := HPV.out; have h3 := HBE.out; clear e1 e2 e3 e4 e5 e6 e7 e8; omega)
     have g1 := dif_w hdd (Nat.le_trans (Nat.le_of_lt HPV.out.2) (Nat.le_trans HB.out HN.out))
     have g2 := dif_k hdd (Nat.le_trans (Nat.le_of_lt HPV.out.2) (Nat.le_trans HB.out HN.out))
     have g3 := dif_w hpw HBK.out
     have g4 := dif_k hpw HBK.out
     clear hdd hpw HPV
     have HPV := HPW
     obtain ⟨l, hp, hd⟩ := HS.out.dat
     have PL := qH hp
     have SD := qH hd
     have GD := qH HS.out.grown
     have SL := qH (show l.length = n by rw [hp.length_eq]; exact HL.out)
     clear hp hd
     clear HS
     go_wp2_with fail
     refine (revY_any g n cap zs l wr SL.out HN.out SD.out a b HAB.out HB.out).mono ?_
     rintro e wn ⟨rfl, hs⟩
     have HS := qH (SoP.trans PL.out GD.out hs)
     clear hs SD GD PL SL
     obtain ⟨wr, hwr⟩ : ∃ v : World, v = wn := ⟨_, rfl⟩
     subst hwr
     obtain ⟨l, hp, hd⟩ := HS.out.dat
     have PL := qH hp
     have SD := qH hd
     have GD := qH HS.out.grown
     have SL := qH (show l.length = n by rw [hp.length_eq]; exact HL.out)
     clear hp hd
     clear HS
     go_wp2_with fail
     obtain ⟨pv, hpv⟩ : ∃ x, x = pw := ⟨_, rfl⟩
     rw [← hpv] at HPV HPW g3 g4
     rw [← hpv]
     clear hpv HPW g1 g2 g3 g4 pw
     have h2 := True.intro
     have HS := qH (show SoP g zs l0 w _ from ⟨⟨l, PL.out, SD.out⟩, GD.out⟩)
     clear SD GD PL SL
    rotate_left
    focus
     have y2 : ¬ ((h : Int) = 2) := fun hh => h2 (Int.ofNat.inj hh)
     go_wp2_with fail
     clear y2
    all_goals clear h2
    all_goals
     have HPN := qH (show pv < n from Nat.lt_of_lt_of_le HPV.out.2 HB.out)
     obtain ⟨l, hp, hd⟩ := HS.out.dat
     have PL := qH hp
     have SD := qH hd
     have GD := qH HS.out.grown
     have SL := qH (show l.length = n by rw [hp.length_eq]; exact HL.out)
     clear hp hd
     clear HS
     obtain ⟨v, hv⟩ : ∃ q, l[pv]? = some q := ⟨_, List.getElem?_eq_getElem (by rw [SL.out]; exact HPN.out)⟩
     have HV := qH hv
     clear hv
     by_cases ha0 : 0 < a
     focus
      have HA0 := qH ha0
      obtain ⟨a1, ha1⟩ := pre_ex ha0
      have HAE := qH ha1
      have HA1N := qH (show a1 < n from Nat.lt_of_lt_of_le (Nat.lt_trans (by rw [← ha1]; exact Nat.lt_succ_self a1) HAB.out) HB.out)
      have HAK := qH (show a1 ≤ 1048576 from Nat.le_trans (Nat.le_of_lt HA1N.out) HN.out)
      obtain ⟨u, hu⟩ : ∃ q, l[a1]? = some q := ⟨_, List.getElem?_eq_getElem (by rw [SL.out]; exact HA1N.out)⟩
      have HU := qH hu
      clear hu
      obtain ⟨c, hc⟩ : ∃ c, c = decide (u.toNat < v.toNat) := ⟨_, rfl⟩
      have HC := qH hc
      clear hc
      clear ha0 ha1
      try go_wp2_with fail
      refine sg_start (S := IsW wr.drew) (by kernel_rfl) rfl (fun wd hwd => ?_)
      have hX : IsW _ wd := hwd
      clear hwd
      refine sg_take (i := 0) (oi := ⟨some 73, _, _, _, _, _⟩) (v := ?_) rfl (by kernel_rfl) (by kernel_rfl) (by kernel_rfl) (fun _ _ _ h => h) rfl hX ?_ ?_; rotate_left; (intro W hW; go_simp; try with_reducible rfl); simp only [Act.put, qA, qB, qC]
      refine sg_take (i := 1) (oi := ⟨some 74, _, _, _, _, _⟩) (v := .bool true) rfl (by kernel_rfl) (by kernel_rfl) (by kernel_rfl) (fun _ _ _ h => h) rfl hX (fun V _ => ex_gt0 (.tmp 73) rfl (i := a) rfl rfl (decide_eq_true HA0.out) V) ?_; simp only [Act.put, qA, qB, qC]
      refine sg_take (i := 2) (oi := ⟨some 75, _, _, _, _, _⟩) (v := ?_) rfl (by kernel_rfl) (by kernel_rfl) (by kernel_rfl) (fun _ _ _ h => h) rfl hX ?_ ?_; rotate_left; (intro W hW; go_simp; try with_reducible rfl); simp only [Act.put, qA, qB, qC]
      refine sg_take (i := 3) (oi := ⟨some 76, _, _, _, _, _⟩) (v := ?_) rfl (by kernel_rfl) (by kernel_rfl) (by kernel_rfl) (fun _ _ _ h => h) rfl hX ?_ ?_; rotate_left; (intro W hW; go_simp; try with_reducible rfl); simp only [Act.put, qA, qB, qC]
      refine sg_take (i := 4) (oi := ⟨some 77, _, _, _, _, _⟩) (v := ?_) rfl (by kernel_rfl) (by kernel_rfl) (by kernel_rfl) (fun _ _ _ h => h) rfl hX ?_ ?_; rotate_left; (intro W hW; go_simp; try with_reducible rfl); simp only [Act.put, qA, qB, qC]
      refine sg_take (i := 5) (oi := ⟨some 78, _, _, _, _, _⟩) (v := .int .i64 ((a1 : Nat) : Int)) rfl (by kernel_rfl) (by kernel_rfl) (by kernel_rfl) (fun _ _ _ h => h) rfl hX (fun V _ => ex_subV (.tmp 77) rfl rfl rfl HAE.out HAK.out V) ?_; simp only [Act.put, qA, qB, qC]
      refine sg_take (i := 6) (oi := ⟨some 79, _, _, _, _, _⟩) (v := .pointer (some ⟨g, a1, none⟩)) rfl (by kernel_rfl) (by kernel_rfl) (by kernel_rfl) (fun _ _ _ h => h) rfl hX (fun V _ => ix_y (.tmp 76) (.tmp 78) rfl rfl rfl HA1N.out V) ?_; simp only [Act.put, qA, qB, qC]
      refine sg_take (i := 7) (oi := ⟨some 80, _, _, _, _, _⟩) (v := bv u) rfl (by kernel_rfl) (by kernel_rfl) (by kernel_rfl) (fun _ _ _ h => h) rfl hX (fun V hV => ld_yt (.tmp 79) rfl rfl ((SD.out.is hV).cell HU.out)) ?_; simp only [Act.put, qA, qB, qC]
      refine sg_take (i := 8) (oi := ⟨some 81, _, _, _, _, _⟩) (v := ?_) rfl (by kernel_rfl) (by kernel_rfl) (by kernel_rfl) (fun _ _ _ h => h) rfl hX ?_ ?_; rotate_left; (intro W hW; go_simp; try with_reducible rfl); simp only [Act.put, qA, qB, qC]
      refine sg_take (i := 9) (oi := ⟨some 82, _, _, _, _, _⟩) (v := ?_) rfl (by kernel_rfl) (by kernel_rfl) (by kernel_rfl) (fun _ _ _ h => h) rfl hX ?_ ?_; rotate_left; (intro W hW; go_simp; try with_reducible rfl); simp only [Act.put, qA, qB, qC]
      refine sg_take (i := 10) (oi := ⟨some 83, _, _, _, _, _⟩) (v := .pointer (some ⟨g, pv, none⟩)) rfl (by kernel_rfl) (by kernel_rfl) (by kernel_rfl) (fun _ _ _ h => h) rfl hX (fun V _ => ix_y (.tmp 81) (.tmp 82) rfl rfl rfl HPN.out V) ?_; simp only [Act.put, qA, qB, qC]
      refine sg_take (i := 11) (oi := ⟨some 84, _, _, _, _, _⟩) (v := bv v) rfl (by kernel_rfl) (by kernel_rfl) (by kernel_rfl) (fun _ _ _ h => h) rfl hX (fun V hV => ld_yt (.tmp 83) rfl rfl ((SD.out.is hV).cell HV.out)) ?_; simp only [Act.put, qA, qB, qC]
      refine sg_actB (i := 12) (o := ⟨some 85, _, _, _, _, _⟩) rfl (by kernel_rfl) rfl hX (fun K hK => ?_)
      go_wp2_with fail
      refine (lessY_any _ _ _).mono ?_
      rintro e we ⟨rfl, hwe⟩
      subst hwe
      rw [← HC.out]
      go_wp2_with fail
      refine hK _ _ hX ?_
      clear hK K
      (try simp only [Act.put, qA, qB, qC])
      refine sg_take (i := 13) (oi := ⟨some 86, _, _, _, _, _⟩) (v := ?_) rfl (by kernel_rfl) (by kernel_rfl) (by kernel_rfl) (fun _ _ _ h => h) rfl hX ?_ ?_; rotate_left; (intro W hW; go_simp; try with_reducible rfl); simp only [Act.put, qA, qB, qC]
      refine sg_take (i := 14) (oi := ⟨some 87, _, _, _, _, _⟩) (v := ?_) rfl (by kernel_rfl) (by kernel_rfl) (by kernel_rfl) (fun _ _ _ h => h) rfl hX ?_ ?_; rotate_left; (intro W hW; go_simp; try with_reducible rfl); simp only [Act.put, qA, qB, qC]
      refine wpAnyH_done (by kernel_rfl) ?_ _
      have HS := qH (show SoP g zs l0 w _ from ⟨⟨l, PL.out, SD.out.is hX⟩, grownS_is GD.out hX⟩)
      clear hX SD GD PL SL
      clear HU HV HC
      rcases c with _ | _
      focus
       simp only [Bool.not_false]
       obtain ⟨wr, hwr⟩ : ∃ v : World, v = we := ⟨_, rfl⟩
       subst hwr
       obtain ⟨l, hp, hd⟩ := HS.out.dat
       have PL := qH hp
       have SD := qH hd
       have GD := qH HS.out.grown
       have SL := qH (show l.length = n by rw [hp.length_eq]; exact HL.out)
       clear hp hd
       clear HS
       go_wp2_with fail
       refine (parEY_any g n cap zs l wr SL.out HN.out SD.out a b pv HB.out HPV.out.1 HPV.out.2).mono ?_
       rintro e wn ⟨mid, hm1, hm2, rfl, hs⟩
       have HS := qH (SoP.trans PL.out GD.out hs)
       have HM1 := qH hm1
       have HM2 := qH hm2
       have HMM := qH (show b - mid ≤ m by have h1 := HBA.out; clear e1 e2 e3 e4 e5 e6 e7 e8; omega)
       have HME := qH (show b - mid < b - a by have h1 := HAB.out; clear e1 e2 e3 e4 e5 e6 e7 e8; omega)
       clear hs hm1 hm2 SD GD PL SL
       go_wp2_with fail
       exact ⟨⟨mid, b, lim, _, _, rfl, rfl, rfl, rfl, rfl, HM2.out, HB.out, HMM.out, HLM.out, HS.out⟩, by simpa [intOf] using HME.out⟩
      simp only [Bool.not_true]
      clear HAE HA1N HAK HA0
      obtain ⟨wr, hwr⟩ : ∃ v : World, v = we := ⟨_, rfl⟩
      subst hwr
     rotate_left
     focus
      have HA0 := qH ha0
      clear ha0
      try go_wp2_with fail
      refine sg_start (S := IsW wr.drew) (by kernel_rfl) rfl (fun wd hwd => ?_)
      have hX : IsW _ wd := hwd
      clear hwd
      refine sg_take (i := 0) (oi := ⟨some 73, _, _, _, _, _⟩) (v := ?_) rfl (by kernel_rfl) (by kernel_rfl) (by kernel_rfl) (fun _ _ _ h => h) rfl hX ?_ ?_; rotate_left; (intro W hW; go_simp; try with_reducible rfl); simp only [Act.put, qA, qB, qC]
      refine sg_take (i := 1) (oi := ⟨some 74, _, _, _, _, _⟩) (v := .bool false) rfl (by kernel_rfl) (by kernel_rfl) (by kernel_rfl) (fun _ _ _ h => h) rfl hX (fun V _ => ex_gt0 (.tmp 73) rfl (i := a) rfl rfl (decide_eq_false HA0.out) V) ?_; simp only [Act.put, qA, qB, qC]
      refine sg_take (i := 2) (oi := ⟨some 75, _, _, _, _, _⟩) (v := ?_) rfl (by kernel_rfl) (by kernel_rfl) (by kernel_rfl) (fun _ _ _ h => h) rfl hX ?_ ?_; rotate_left; (intro W hW; go_simp; try with_reducible rfl); simp only [Act.put, qA, qB, qC]
      refine sg_skip (i := 3) (oi := ⟨some 76, _, _, _, _, _⟩) rfl (by kernel_rfl) (by kernel_rfl) (by kernel_rfl) (fun _ _ _ h => h) rfl hX ?_; simp only [Act.put, qA, qB, qC]
      refine sg_skip (i := 4) (oi := ⟨some 77, _, _, _, _, _⟩) rfl (by kernel_rfl) (by kernel_rfl) (by kernel_rfl) (fun _ _ _ h => h) rfl hX ?_; simp only [Act.put, qA, qB, qC]
      refine sg_skip (i := 5) (oi := ⟨some 78, _, _, _, _, _⟩) rfl (by kernel_rfl) (by kernel_rfl) (by kernel_rfl) (fun _ _ _ h => h) rfl hX ?_; simp only [Act.put, qA, qB, qC]
      refine sg_skip (i := 6) (oi := ⟨some 79, _, _, _, _, _⟩) rfl (by kernel_rfl) (by kernel_rfl) (by kernel_rfl) (fun _ _ _ h => h) rfl hX ?_; simp only [Act.put, qA, qB, qC]
      refine sg_skip (i := 7) (oi := ⟨some 80, _, _, _, _, _⟩) rfl (by kernel_rfl) (by kernel_rfl) (by kernel_rfl) (fun _ _ _ h => h) rfl hX ?_; simp only [Act.put, qA, qB, qC]
      refine sg_skip (i := 8) (oi := ⟨some 81, _, _, _, _, _⟩) rfl (by kernel_rfl) (by kernel_rfl) (by kernel_rfl) (fun _ _ _ h => h) rfl hX ?_; simp only [Act.put, qA, qB, qC]
      refine sg_skip (i := 9) (oi := ⟨some 82, _, _, _, _, _⟩) rfl (by kernel_rfl) (by kernel_rfl) (by kernel_rfl) (fun _ _ _ h => h) rfl hX ?_; simp only [Act.put, qA, qB, qC]
      refine sg_skip (i := 10) (oi := ⟨some 83, _, _, _, _, _⟩) rfl (by kernel_rfl) (by kernel_rfl) (by kernel_rfl) (fun _ _ _ h => h) rfl hX ?_; simp only [Act.put, qA, qB, qC]
      refine sg_skip (i := 11) (oi := ⟨some 84, _, _, _, _, _⟩) rfl (by kernel_rfl) (by kernel_rfl) (by kernel_rfl) (fun _ _ _ h => h) rfl hX ?_; simp only [Act.put, qA, qB, qC]
      refine sg_skip (i := 12) (oi := ⟨some 85, _, _, _, _, _⟩) rfl (by kernel_rfl) (by kernel_rfl) (by kernel_rfl) (fun _ _ _ h => h) rfl hX ?_; simp only [Act.put, qA, qB, qC]
      refine sg_skip (i := 13) (oi := ⟨some 86, _, _, _, _, _⟩) rfl (by kernel_rfl) (by kernel_rfl) (by kernel_rfl) (fun _ _ _ h => h) rfl hX ?_; simp only [Act.put, qA, qB, qC]
      refine sg_take (i := 14) (oi := ⟨some 87, _, _, _, _, _⟩) (v := ?_) rfl (by kernel_rfl) (by kernel_rfl) (by kernel_rfl) (fun _ _ _ h => h) rfl hX ?_ ?_; rotate_left; (intro W hW; go_simp; try with_reducible rfl); simp only [Act.put, qA, qB, qC]
      refine wpAnyH_done (by kernel_rfl) ?_ _
      have HS := qH (show SoP g zs l0 w _ from ⟨⟨l, PL.out, SD.out.is hX⟩, grownS_is GD.out hX⟩)
      clear hX SD GD PL SL
      clear HV HA0
      obtain ⟨wr, hwr⟩ : ∃ v : World, v = wd := ⟨_, rfl⟩
      subst hwr
     all_goals
      obtain ⟨l, hp, hd⟩ := HS.out.dat
      have PL := qH hp
      have SD := qH hd
      have GD := qH HS.out.grown
      have SL := qH (show l.length = n by rw [hp.length_eq]; exact HL.out)
      clear hp hd
      clear HS
      go_wp2_with fail
      refine (parY_any g n cap zs l wr SL.out HN.out SD.out a b pv HB.out HPV.out.1 HPV.out.2).mono ?_
      rintro e wn ⟨mid, c, hm1, hm2, rfl, hs⟩
      have HS := qH (SoP.trans PL.out GD.out hs)
      have HM1 := qH hm1
      have HM2 := qH hm2
      obtain ⟨ll, hll⟩ : ∃ x, a + x = mid := ⟨mid - a, Nat.add_sub_cancel' hm1⟩
      obtain ⟨rl, hrl⟩ : ∃ x, mid + x = b := ⟨b - mid, Nat.add_sub_cancel' (Nat.le_of_lt hm2)⟩
      have d1 := dif_w hll (Nat.le_trans (Nat.le_of_lt hm2) (Nat.le_trans HB.out HN.out))
      have d2 := dif_k hll (Nat.le_trans (Nat.le_of_lt hm2) (Nat.le_trans HB.out HN.out))
      have d3 := dif_w hrl (Nat.le_trans HB.out HN.out)
      have d4 := dif_k hrl (Nat.le_trans HB.out HN.out)
      have d5 := wrap_one mid (Nat.le_trans (Nat.le_of_lt hm2) (Nat.le_trans HB.out (Nat.le_trans HN.out (by decide))))
      have d6 := wrap_one' mid (Nat.le_trans (Nat.le_of_lt hm2) (Nat.le_trans HB.out (Nat.le_trans HN.out (by decide))))
      have HR1 := qH (show mid - a < b - a by clear e1 e2 e3 e4 e5 e6 e7 e8 d1 d2 d3 d4 d5 d6; omega)
      have HR2 := qH (show b - (mid + 1) < b - a by clear e1 e2 e3 e4 e5 e6 e7 e8 d1 d2 d3 d4 d5 d6; omega)
      have HMM1 := qH (show mid - a ≤ m by have h1 := HBA.out; clear e1 e2 e3 e4 e5 e6 e7 e8 d1 d2 d3 d4 d5 d6; omega)
      have HMM2 := qH (show b - (mid + 1) ≤ m by have h1 := HBA.out; clear e1 e2 e3 e4 e5 e6 e7 e8 d1 d2 d3 d4 d5 d6; omega)
      have HMN := qH (show mid ≤ n from Nat.le_trans (Nat.le_of_lt hm2) HB.out)
      clear hs hm1 hm2 hll hrl SD GD PL SL
      by_cases hlr : ll < rl
      ·have x9 : (ll : Int) < (rl : Int) := Int.ofNat_lt.2 hlr
       clear hlr
       go_wp2_with fail
       obtain ⟨l, hp, hd⟩ := HS.out.dat
       have PL := qH hp
       have SD := qH hd
       have GD := qH HS.out.grown
       have SL := qH (show l.length = n by rw [hp.length_eq]; exact HL.out)
       clear hp hd
       clear HS
       refine (ih (mid - a) (Nat.lt_of_lt_of_le HR1.out HBA.out) l wn a mid lim SL.out SD.out HMN.out HM1.out (Nat.le_refl _) HLM.out).mono ?_
       rintro e wn ⟨rfl, hs⟩
       have HS := qH (SoP.trans PL.out GD.out hs)
       clear hs SD GD PL SL
       go_wp2_with fail
       exact ⟨⟨mid + 1, b, lim, _, _, by simp, rfl, rfl, rfl, rfl, HM2.out, HB.out, HMM2.out, HLM.out, HS.out⟩, by simpa [intOf] using HR2.out⟩
      ·have x9 : ¬ ((ll : Int) < (rl : Int)) := fun h => hlr (Int.ofNat_lt.1 h)
       go_wp2_with fail
       obtain ⟨l, hp, hd⟩ := HS.out.dat
       have PL := qH hp
       have SD := qH hd
       have GD := qH HS.out.grown
       have SL := qH (show l.length = n by rw [hp.length_eq]; exact HL.out)
       clear hp hd
       clear HS
       refine (ih (b - (mid + 1)) (Nat.lt_of_lt_of_le HR2.out HBA.out) l wn (mid + 1) b lim SL.out SD.out HB.out HM2.out (Nat.le_refl _) HLM.out).mono ?_
       rintro e wn ⟨rfl, hs⟩
       have HS := qH (SoP.trans PL.out GD.out hs)
       clear hs SD GD PL SL
       go_wp2_with fail
       exact ⟨⟨a, mid, lim, _, _, rfl, rfl, rfl, rfl, rfl, HM1.out, HMN.out, HMM1.out, HLM.out, HS.out⟩, by simpa [intOf] using HR1.out⟩
set_option maxHeartbeats 4000000 in
set_option maxRecDepth 1000000 in
theorem sortY_any (g n cap : Nat) (zs : List Value) (l : List UInt8) (w : World) (hl : l.length = n) (hn : n ≤ 1048576) (hd : Dat w g zs l) :
  Calls Try.prog 43 #[.slice (some ⟨g, 0, none⟩) n cap] w fun e w' => e = .returned (.tuple #[]) ∧ SoP g zs l w w' := by
 have HL := qH hl
 have HN := qH hn
 have HD := qH hd
 have e1 := wrapS n hn
 clear hl hn hd
 go_enter Try.func43, Try.ntmps43
 go_wp2_with fail
 refine (lenS_any n HN.out w).mono ?_
 rintro e w' ⟨rfl, hw⟩
 subst hw
 obtain ⟨L, hL⟩ : ∃ L, L = Lib.bitLen n := ⟨_, rfl⟩
 have HLB := qH (show L ≤ 64 by rw [hL]; exact bitS_le 64 n)
 rw [← hL]
 clear hL
 go_wp2_with fail
 refine (pdqY_aux g n cap zs HN.out n l _ 0 n L HL.out HD.out (Nat.le_refl _) (Nat.zero_le _) (Nat.sub_le _ _) HLB.out).mono ?_
 rintro e w1 ⟨rfl, hs⟩
 have HS := qH hs
 clear hs
 go_wp2_with fail
 refine bodyPost_end (results_none rfl _ _ _) rfl ?_
 exact ⟨rfl, HS.out⟩
end Go.Proofs.Ytbbodfpnneifgaa
