/-
  Texts of this proof, put together: SbL, ThI, AppW, TgA. No statement is proved here.
-/
import Derived.Test.YteadghoojeehlaaDoorVL
import Derived.Test.YteadghoojeehlaaDoorVH
import Derived.Test.YteadghoojeehlaaDoorVC
import Derived.Test.YteadghoojeehlaaDoorVJ
namespace Go.Proofs.YteadghoojeehlaaDoor
open Go.RowKit
set_option linter.unusedSimpArgs false
set_option linter.unusedVariables false
theorem ld_mapN {ev : Operand → Value} {o : Oper} (x : Operand) (ho : o.op = .load 66 x) {p : Addr} (hx : ev x = .pointer (some p)) {m : Option Nat} {W : World} (hc : W.cell? p = some (.map m)) : (execOp ev o).run Tryd.prog W = .ok (.value (.map m)) W := by
 simp only [execOp, ho, hx]
 go_simp
theorem ld_mapR {ev : Operand → Value} {o : Oper} (x : Operand) (ho : o.op = .load 64 x) {p : Addr} (hx : ev x = .pointer (some p)) {m : Option Nat} {W : World} (hc : W.cell? p = some (.map m)) : (execOp ev o).run Tryd.prog W = .ok (.value (.map m)) W := by
 simp only [execOp, ho, hx]
 go_simp
theorem ld_grs {ev : Operand → Value} {o : Oper} (x : Operand) (ho : o.op = .load 65 x) {p : Addr} (hx : ev x = .pointer (some p)) {A : Option Addr} {n c : Nat} {W : World} (hc : W.cell? p = some (.slice A n c)) : (execOp ev o).run Tryd.prog W = .ok (.value (.slice A n c)) W := by
 simp only [execOp, ho, hx]
 go_simp
theorem ex_look {P : Program} {ev : Operand → Value} {o : Oper} {t : TypeId} (x y : Operand) (ho : o.op = .lookup t x y true) {m k v : Value} (hx : ev x = m) (hy : ev y = k) {W : World} (hr : (Instr.lookup t m k true).run P W = .ok v W) : (execOp ev o).run P W = .ok (.value v) W := by
 simp only [execOp, ho, hx, hy, Sem.run_bind, hr, Result.andThen_ok, Sem.run_pure]
theorem wp_stG {o : Oper} {a : Act} {K : Act → World → Prop} {Q : Exit → Act → World → Prop} {w : World} (x y : Operand) (ho : o.op = .store 65 x y) {p : Addr} (hx : a.eval x = .pointer (some p)) {A : Option Addr} {n c : Nat} (hy : a.eval y = .slice A n c) {v : Value} (hc : w.cell? p = some v) (hf : w.frozen? p = false)
  (h : K (a.put o.dst undef) (w.setCell p (.slice A n c))) : o.wp Tryd.prog a w K Q := by
 unfold Oper.wp
 simp only [execOp, ho, hx, hy]
 go_simp
 exact h
theorem grown_undrew {w w2 : World} {r : Option Nat} (h : w.drew.grownBy w2 r) : w.grownBy w2 r := ⟨h.os, h.tape, h.output, h.size, h.block⟩
theorem map_len (Qs : List (List Int)) : (Qs.map memB).length = Qs.length := List.length_map ..
set_option maxHeartbeats 4000000 in
set_option maxRecDepth 1000000 in
theorem mNumber_any {B H g mr mn cap k : Nat} {A : Option Addr} {a z : Int} {cl : List UInt8} {sg : Value} {S : List St} {qv : Value} {Qs : List (List Int)} {Es : List Int} (X : List Int) (w : World) (hm : MkV w B H g mr mn A cap a z cl k sg S qv Qs Es) (hX : Ris S.length X) (hn : S.length ≤ 2000) (hq : Qs.length ≤ 100000) :
  Calls Tryd.prog 25 #[.pointer (some ⟨g, 0, none⟩), gkey X] w fun e w' => e = .returned (.int .i64 (ixOf (extL Qs [X]) X : Int)) ∧ ∃ qv', MkV w' B H g mr mn A cap a z cl k sg S qv' (extL Qs [X]) Es ∧ MStep w w' g mr mn qv qv' := by
 have M0 := qH hm
 have HRX := qH hX
 have HN := qH hn
 have HQL := qH (show (Qs.map memB).length ≤ 1048575 by rw [map_len]; omega)
 obtain ⟨gx, hgx⟩ : ∃ gx, gx = gds (memB X) := ⟨_, rfl⟩
 have HGX := qH hgx
 have HKX := qH (show gkey X = .agg gx.toArray by rw [hgx]; rfl)
 have HSZ := qH (show (Tryd.prog.info? 71).map (·.size) = some gx.length by rw [hgx]; exact size_group _)
 have HG1 := qH (show gx.all (·.oneCell') = true by rw [hgx]; exact gds_all _)
 rw [HKX.out]
 obtain ⟨i3, hi3, hz3, hs3, hy3⟩ := infoP inf_group
 clear hm hX hn hq hgx
 go_enter Tryd.func25, Tryd.ntmps25
 go_wp2_with ((with_reducible refine atDst 3 ?_); refine wpList_box rfl 71 _ rfl gx rfl (Below.refl w.heap.size w) (Nat.le_refl _) ?_; intro w1 hk1 hb1 hs1 _; have K1 := qH hk1; have B1 := qH hb1; clear hk1 hb1 hs1; (try simp only [Act.put, qA, qB, qC]))
 have M := qH (M0.out.below B1.out)
 have BP := qH B1.out
 have HMN := qH (by have := M.out.blk.cell 263; rw [mkc_mn M.out.cl] at this; exact this)
 have HGL := qH M.out.blk.lt
 by_cases hin : X ∈ Qs
 ·have HIN := qH hin
  refine sx_startB (B := w1.heap.size) (w0 := w1) (by kernel_rfl) (Below.refl _ _) (fun wd hwd hX => ?_)
  clear hwd hin
  refine sx_take (i := 0) (oi := ⟨some 8, _, _, _, _, _⟩) (v := ?_) rfl (by kernel_rfl) (by kernel_rfl) (by kernel_rfl) (fun _ _ _ h => h) rfl hX ?_ ?_; rotate_left; (intro W hW; go_simp; try with_reducible rfl); simp only [Act.put, qA, qB, qC]
  refine sx_take (i := 1) (oi := ⟨some 9, _, _, _, _, _⟩) (v := ?_) rfl (by kernel_rfl) (by kernel_rfl) (by kernel_rfl) (fun _ _ _ h => h) rfl hX ?_ ?_; rotate_left; (intro W hW; go_simp; try with_reducible rfl); simp only [Act.put, qA, qB, qC]
  refine sx_take (i := 2) (oi := ⟨some 10, _, _, _, _, _⟩) (v := ?_) rfl (by kernel_rfl) (by kernel_rfl) (by kernel_rfl) (fun _ _ _ h => h) rfl hX ?_ ?_; rotate_left; (intro W hW; go_simp; try with_reducible rfl); simp only [Act.put, qA, qB, qC]
  refine sx_take (i := 3) (oi := ⟨some 11, _, _, _, _, _⟩) (v := .map (some mn)) rfl (by kernel_rfl) (by kernel_rfl) (by kernel_rfl) (fun _ _ _ h => h) rfl hX (fun W hW => ld_mapN (.tmp 10) rfl rfl ((hW.cell (p := ⟨g, 263, none⟩) HGL.out).trans HMN.out)) ?_; simp only [Act.put, qA, qB, qC]
  refine sx_take (i := 4) (oi := ⟨some 12, _, _, _, _, _⟩) (v := .agg gx.toArray) rfl (by kernel_rfl) (by kernel_rfl) (by kernel_rfl) (fun _ _ _ h => h) rfl hX (ld_blk 71 _ rfl w.heap.size rfl 71 gx _ K1.out K1.out.lt Tryd.underlying71 rfl HSZ.out) ?_; simp only [Act.put, qA, qB, qC]
  refine sx_take (i := 5) (oi := ⟨some 13, _, _, _, _, _⟩) (v := .tuple #[.int .i64 (ixOf Qs X : Int), .bool true]) rfl (by kernel_rfl) (by kernel_rfl) (by kernel_rfl) (fun _ _ _ h => h) rfl hX (fun W hW => ex_look (.tmp 11) (.tmp 12) rfl rfl rfl (by rw [← HKX.out]; exact look_yes (M.out.below hW).numbers HN.out M.out.ris M.out.nd HIN.out)) ?_; simp only [Act.put, qA, qB, qC]
  refine sx_take (i := 6) (oi := ⟨some 7, _, _, _, _, _⟩) (v := ?_) rfl (by kernel_rfl) (by kernel_rfl) (by kernel_rfl) (fun _ _ _ h => h) rfl hX ?_ ?_; rotate_left; (intro W hW; go_simp; try with_reducible rfl); simp only [Act.put, qA, qB, qC]
  refine sx_take (i := 7) (oi := ⟨some 14, _, _, _, _, _⟩) (v := ?_) rfl (by kernel_rfl) (by kernel_rfl) (by kernel_rfl) (fun _ _ _ h => h) rfl hX ?_ ?_; rotate_left; (intro W hW; go_simp; try with_reducible rfl); simp only [Act.put, qA, qB, qC]
  refine sx_take (i := 8) (oi := ⟨some 15, _, _, _, _, _⟩) (v := ?_) rfl (by kernel_rfl) (by kernel_rfl) (by kernel_rfl) (fun _ _ _ h => h) rfl hX ?_ ?_; rotate_left; (intro W hW; go_simp; try with_reducible rfl); simp only [Act.put, qA, qB, qC]
  refine sx_take (i := 9) (oi := ⟨some 5, _, _, _, _, _⟩) (v := ?_) rfl (by kernel_rfl) (by kernel_rfl) (by kernel_rfl) (fun _ _ _ h => h) rfl hX ?_ ?_; rotate_left; (intro W hW; go_simp; try with_reducible rfl); simp only [Act.put, qA, qB, qC]
  refine sx_take (i := 10) (oi := ⟨some 6, _, _, _, _, _⟩) (v := ?_) rfl (by kernel_rfl) (by kernel_rfl) (by kernel_rfl) (fun _ _ _ h => h) rfl hX ?_ ?_; rotate_left; (intro W hW; go_simp; try with_reducible rfl); simp only [Act.put, qA, qB, qC]
  refine wpAnyH_done (by kernel_rfl) ?_ _
  have BD := qH hX
  clear hX
  go_wp2_with fail
  go_ret
  rw [extL_in HIN.out]
  exact ⟨rfl, qv, M.out.below BD.out, MStep.of (BP.out.trans (BD.out.mono BP.out.size)) g mr mn qv⟩
 ·have HNO := qH hin
  refine sx_startB (B := w1.heap.size) (w0 := w1) (by kernel_rfl) (Below.refl _ _) (fun wd hwd hX => ?_)
  clear hwd hin
  refine sx_take (i := 0) (oi := ⟨some 8, _, _, _, _, _⟩) (v := ?_) rfl (by kernel_rfl) (by kernel_rfl) (by kernel_rfl) (fun _ _ _ h => h) rfl hX ?_ ?_; rotate_left; (intro W hW; go_simp; try with_reducible rfl); simp only [Act.put, qA, qB, qC]
  refine sx_take (i := 1) (oi := ⟨some 9, _, _, _, _, _⟩) (v := ?_) rfl (by kernel_rfl) (by kernel_rfl) (by kernel_rfl) (fun _ _ _ h => h) rfl hX ?_ ?_; rotate_left; (intro W hW; go_simp; try with_reducible rfl); simp only [Act.put, qA, qB, qC]
  refine sx_take (i := 2) (oi := ⟨some 10, _, _, _, _, _⟩) (v := ?_) rfl (by kernel_rfl) (by kernel_rfl) (by kernel_rfl) (fun _ _ _ h => h) rfl hX ?_ ?_; rotate_left; (intro W hW; go_simp; try with_reducible rfl); simp only [Act.put, qA, qB, qC]
  refine sx_take (i := 3) (oi := ⟨some 11, _, _, _, _, _⟩) (v := .map (some mn)) rfl (by kernel_rfl) (by kernel_rfl) (by kernel_rfl) (fun _ _ _ h => h) rfl hX (fun W hW => ld_mapN (.tmp 10) rfl rfl ((hW.cell (p := ⟨g, 263, none⟩) HGL.out).trans HMN.out)) ?_; simp only [Act.put, qA, qB, qC]
  refine sx_take (i := 4) (oi := ⟨some 12, _, _, _, _, _⟩) (v := .agg gx.toArray) rfl (by kernel_rfl) (by kernel_rfl) (by kernel_rfl) (fun _ _ _ h => h) rfl hX (ld_blk 71 _ rfl w.heap.size rfl 71 gx _ K1.out K1.out.lt Tryd.underlying71 rfl HSZ.out) ?_; simp only [Act.put, qA, qB, qC]
  refine sx_take (i := 5) (oi := ⟨some 13, _, _, _, _, _⟩) (v := .tuple #[.int .i64 0, .bool false]) rfl (by kernel_rfl) (by kernel_rfl) (by kernel_rfl) (fun _ _ _ h => h) rfl hX (fun W hW => ex_look (.tmp 11) (.tmp 12) rfl rfl rfl (by rw [← HKX.out]; exact look_no (M.out.below hW).numbers HN.out M.out.ris HRX.out HNO.out)) ?_; simp only [Act.put, qA, qB, qC]
  refine sx_take (i := 6) (oi := ⟨some 7, _, _, _, _, _⟩) (v := ?_) rfl (by kernel_rfl) (by kernel_rfl) (by kernel_rfl) (fun _ _ _ h => h) rfl hX ?_ ?_; rotate_left; (intro W hW; go_simp; try with_reducible rfl); simp only [Act.put, qA, qB, qC]
  refine sx_take (i := 7) (oi := ⟨some 14, _, _, _, _, _⟩) (v := ?_) rfl (by kernel_rfl) (by kernel_rfl) (by kernel_rfl) (fun _ _ _ h => h) rfl hX ?_ ?_; rotate_left; (intro W hW; go_simp; try with_reducible rfl); simp only [Act.put, qA, qB, qC]
  refine sx_take (i := 8) (oi := ⟨some 15, _, _, _, _, _⟩) (v := ?_) rfl (by kernel_rfl) (by kernel_rfl) (by kernel_rfl) (fun _ _ _ h => h) rfl hX ?_ ?_; rotate_left; (intro W hW; go_simp; try with_reducible rfl); simp only [Act.put, qA, qB, qC]
  refine sx_take (i := 9) (oi := ⟨some 5, _, _, _, _, _⟩) (v := ?_) rfl (by kernel_rfl) (by kernel_rfl) (by kernel_rfl) (fun _ _ _ h => h) rfl hX ?_ ?_; rotate_left; (intro W hW; go_simp; try with_reducible rfl); simp only [Act.put, qA, qB, qC]
  refine sx_take (i := 10) (oi := ⟨some 6, _, _, _, _, _⟩) (v := ?_) rfl (by kernel_rfl) (by kernel_rfl) (by kernel_rfl) (fun _ _ _ h => h) rfl hX ?_ ?_; rotate_left; (intro W hW; go_simp; try with_reducible rfl); simp only [Act.put, qA, qB, qC]
  refine wpAnyH_done (by kernel_rfl) ?_ _
  have BD := qH hX
  clear hX
  have M2 := qH (M.out.below BD.out)
  have K2 := qH (K1.out.below BD.out K1.out.lt)
  obtain ⟨Aq, cq, rfl, _⟩ := own32_row M2.out.queue
  have HNQ := qH (map_len Qs)
  obtain ⟨nq, hnq⟩ : ∃ n, n = (Qs.map memB).length := ⟨_, rfl⟩
  rw [← hnq] at M0 M M2 HNQ
  clear hnq
  have c262 : wd.cell? ⟨g, 262, none⟩ = some (.slice Aq nq cq) := by have := M2.out.blk.cell 262; rw [mkc_q M.out.cl] at this; exact this
  have HMN2 := qH (by have := M2.out.blk.cell 263; rw [mkc_mn M.out.cl] at this; exact this)
  go_wp2_with fail
  clear c262
  refine sg_start (fun W => Off (fun k => k = mn) wd W) (by kernel_rfl) (Off.start _ _) (fun we hwe => ?_)
  have hX : Off (fun k => k = mn) wd we := by rw [hwe]; exact Off.start _ _
  have HBN := qH (show ¬ w.heap.size = mn by have h1 := M0.out.numbers.lt; omega)
  have NE := qH (show MapV we mn (numE Qs) by rw [hwe]; exact M2.out.numbers)
  have HWE := qH hwe
  clear hwe
  obtain ⟨lx, hlx⟩ := gkey_key X
  have HLX := qH hlx
  clear hlx
  refine sg_take (i := 0) (oi := ⟨some 23, _, _, _, _, _⟩) (v := ?_) rfl (by kernel_rfl) (by kernel_rfl) (by kernel_rfl) (fun _ _ _ h => h) rfl hX ?_ ?_; rotate_left; (intro W hW; go_simp; try with_reducible rfl); simp only [Act.put, qA, qB, qC]
  refine sg_take (i := 1) (oi := ⟨some 24, _, _, _, _, _⟩) (v := ?_) rfl (by kernel_rfl) (by kernel_rfl) (by kernel_rfl) (fun _ _ _ h => h) rfl hX ?_ ?_; rotate_left; (intro W hW; go_simp; try with_reducible rfl); simp only [Act.put, qA, qB, qC]
  refine sg_take (i := 2) (oi := ⟨some 25, _, _, _, _, _⟩) (v := ?_) rfl (by kernel_rfl) (by kernel_rfl) (by kernel_rfl) (fun _ _ _ h => h) rfl hX ?_ ?_; rotate_left; (intro W hW; go_simp; try with_reducible rfl); simp only [Act.put, qA, qB, qC]
  refine sg_take (i := 3) (oi := ⟨some 26, _, _, _, _, _⟩) (v := .map (some mn)) rfl (by kernel_rfl) (by kernel_rfl) (by kernel_rfl) (fun _ _ _ h => h) rfl hX (fun W hW => ld_mapN (.tmp 25) rfl rfl (Off.cell hW M2.out.blk.lt (fun e => M2.out.gn e) HMN2.out)) ?_; simp only [Act.put, qA, qB, qC]
  refine sg_take (i := 4) (oi := ⟨some 27, _, _, _, _, _⟩) (v := .agg gx.toArray) rfl (by kernel_rfl) (by kernel_rfl) (by kernel_rfl) (fun _ _ _ h => h) rfl hX (fun W hW => ld_blk 71 _ rfl w.heap.size rfl 71 gx _ (Off.blk hW HBN.out K2.out) (Off.blk hW HBN.out K2.out).lt Tryd.underlying71 rfl HSZ.out W (Below.refl _ _)) ?_; simp only [Act.put, qA, qB, qC]
  refine sg_take (i := 5) (oi := ⟨some 28, _, _, _, _, _⟩) (v := ?_) rfl (by kernel_rfl) (by kernel_rfl) (by kernel_rfl) (fun _ _ _ h => h) rfl hX ?_ ?_; rotate_left; (intro W hW; go_simp; try with_reducible rfl); simp only [Act.put, qA, qB, qC]
  refine sg_actB (i := 6) (o := ⟨none, _, _, _, _, _⟩) rfl (by kernel_rfl) rfl hX (fun K hK => ?_)
  refine wp_putNew (.tmp 26) (.tmp 27) (.tmp 28) rfl keyed_group Tryd.underlying66 rfl NE.out rfl rfl (by rw [HKX.out] at HLX; exact HLX.out) (numE_keys Qs) (by rw [← HKX.out]; exact num_new HN.out M.out.ris HRX.out HNO.out) ?_
  intro w2 hn2 hg2
  have N2 := qH (show MapV w2 mn (numE Qs ++ [(gkey X, .int .i64 (Qs.length : Int))]) by rw [HKX.out, ← HNQ.out]; exact hn2)
  have G2 := qH (show wd.grownBy w2 (some mn) by rw [HWE.out] at hg2; exact grown_undrew hg2)
  refine hK _ _ (Off.grown G2.out fun j hj => .inr (Option.some.inj hj).symm) ?_
  clear hK K hn2 hg2 hX
  (try simp only [Act.put, qA, qB, qC])
  refine wpAnyH_done (by kernel_rfl) ?_ _
  go_wp2_with fail
  have HQ2 := qH (own32_stay M2.out.queue (w' := w2) fun j hj => G2.out.block j (own4_lt M2.out.queue j hj) (fun e => M2.out.qne M2.out.nH (by rw [hj]; exact e)))
  have KB2 := qH (K2.out.grown G2.out (fun e => HBN.out (Option.some.inj e)))
  have BG2 := qH (M2.out.blk.grown G2.out (fun e => M2.out.gn (Option.some.inj e)))
  have HB0 := qH (show ¬ (w.heap.size = g ∨ (Value.slice Aq nq cq).ownBlock = some w.heap.size) by
   rintro (e | e)
   ·have := M0.out.blk.lt; omega
   ·have := own4_lt M0.out.queue _ e; omega)
  refine sg_start (fun W => Off (fun k => k = g ∨ (Value.slice Aq nq cq).ownBlock = some k) w2 W) (by kernel_rfl) (Off.start _ _) (fun wf hwf => ?_)
  have hX : Off (fun k => k = g ∨ (Value.slice Aq nq cq).ownBlock = some k) w2 wf := by rw [hwf]; exact Off.start _ _
  have BW5 := qH (show Below w2.heap.size w2 wf by rw [hwf]; exact (Below.refl _ _).drew)
  have HQ5 := qH (show wf.ownsRow H 71 32 (.slice Aq nq cq) (Qs.map memB).length (grs (Qs.map memB)) by rw [hwf]; exact HQ2.out)
  have HCQ := qH (show wf.cell? ⟨g, 262, none⟩ = some (.slice Aq nq cq) by rw [hwf]; have := BG2.out.cell 262; rw [mkc_q M.out.cl] at this; exact this)
  have HGF := qH (show g < wf.heap.size by rw [hwf]; exact BG2.out.lt)
  clear hwf
  refine sg_take (i := 0) (oi := ⟨some 29, _, _, _, _, _⟩) (v := ?_) rfl (by kernel_rfl) (by kernel_rfl) (by kernel_rfl) (fun _ _ _ h => h) rfl hX ?_ ?_; rotate_left; (intro W hW; go_simp; try with_reducible rfl); simp only [Act.put, qA, qB, qC]
  refine sg_take (i := 1) (oi := ⟨some 30, _, _, _, _, _⟩) (v := ?_) rfl (by kernel_rfl) (by kernel_rfl) (by kernel_rfl) (fun _ _ _ h => h) rfl hX ?_ ?_; rotate_left; (intro W hW; go_simp; try with_reducible rfl); simp only [Act.put, qA, qB, qC]
  refine sg_take (i := 2) (oi := ⟨some 31, _, _, _, _, _⟩) (v := ?_) rfl (by kernel_rfl) (by kernel_rfl) (by kernel_rfl) (fun _ _ _ h => h) rfl hX ?_ ?_; rotate_left; (intro W hW; go_simp; try with_reducible rfl); simp only [Act.put, qA, qB, qC]
  refine sg_take (i := 3) (oi := ⟨some 32, _, _, _, _, _⟩) (v := ?_) rfl (by kernel_rfl) (by kernel_rfl) (by kernel_rfl) (fun _ _ _ h => h) rfl hX ?_ ?_; rotate_left; (intro W hW; go_simp; try with_reducible rfl); simp only [Act.put, qA, qB, qC]
  refine sg_take (i := 5) (oi := ⟨some 34, _, _, _, _, _⟩) (v := .agg gx.toArray) rfl (by kernel_rfl) (by kernel_rfl) (by kernel_rfl) (fun _ _ _ h => h) rfl hX (fun W hW => ld_blk 71 _ rfl w.heap.size rfl 71 gx _ (Off.blk hW HB0.out KB2.out) (Off.blk hW HB0.out KB2.out).lt Tryd.underlying71 rfl HSZ.out W (Below.refl _ _)) ?_; simp only [Act.put, qA, qB, qC]
  refine sg_two (i := 4) (j := 6) (oi := ⟨some 33, _, _, _, _, _⟩) (oj := ⟨some 35, _, _, _, _, _⟩) rfl rfl (by kernel_rfl) rfl rfl hX (fun K hK => ?_) (fun K hK => ?_)
  ·refine wp_of_run (v := .slice Aq nq cq) (ld_grs (.tmp 32) rfl rfl HCQ.out) ?_
   refine hK _ _ hX ?_
   clear hK K
   (try simp only [Act.put, qA, qB, qC])
   refine sg_actB (i := 6) (o := ⟨some 35, _, _, _, _, _⟩) rfl (by kernel_rfl) rfl hX (fun K hK => ?_)
   refine wp_bldGr 65 71 (.tmp 34) rfl i3 Tryd.underlying65 hi3 hz3 hs3 (memB X) (congrArg (fun l : List Value => Value.agg l.toArray) HGX.out) ?_
   intro w4 hk4 hb4
   have K4 := qH hk4
   have B4 := qH hb4
   refine hK _ _ (hX.then hb4) ?_
   clear hK K
   (try simp only [Act.put, qA, qB, qC])
   replace hX := hX.then hb4
   clear hk4 hb4
   refine sg_actB (i := 7) (o := ⟨some 36, _, _, _, _, _⟩) rfl (by kernel_rfl) rfl hX (fun K hK => ?_)
   refine wp_appGr (base := H) (.tmp 33) (.tmp 35) 65 rfl 71 i3 Tryd.underlying65 hi3 hz3 hs3 hy3 _ (Qs.map memB) rfl (own32_stay HQ5.out fun j hj => B4.out.block j (own4_lt HQ5.out j hj)) _ 1 71 (memB X) rfl K4.out HQL.out (Nat.le_trans M2.out.hs (Nat.le_trans G2.out.size (Nat.le_trans BW5.out.size B4.out.size))) ?_
   intro v5 w5 ho5 hg5 hw5
   have PX := qH (M2.out.push HRX.out HNO.out N2.out G2.out (BW5.out.trans (B4.out.mono BW5.out.size)) ho5 hg5 hw5)
   have HC5 := qH (by have := PX.out.1.cell 262; rw [mkc_q M.out.cl] at this; exact this)
   have HF5 := qH (PX.out.1.frozen 262)
   obtain ⟨A5, c5, hv5, _⟩ := own32_row ho5
   obtain ⟨n5, hn5⟩ : ∃ n5, n5 = (Qs.map memB ++ [memB X]).length := ⟨_, rfl⟩
   rw [← hn5] at hv5
   clear hn5
   subst hv5
   refine hK _ _ (hX.trans (Off.grown hg5 fun j hj => .inr (.inr hj))) ?_
   clear hK K
   (try simp only [Act.put, qA, qB, qC])
   replace hX := hX.trans (Off.grown hg5 fun j hj => .inr (.inr hj))
   clear ho5 hg5 hw5
   refine sg_take (i := 8) (oi := ⟨some 37, _, _, _, _, _⟩) (v := ?_) rfl (by kernel_rfl) (by kernel_rfl) (by kernel_rfl) (fun _ _ _ h => h) rfl hX ?_ ?_; rotate_left; (intro W hW; go_simp; try with_reducible rfl); simp only [Act.put, qA, qB, qC]
   refine sg_take (i := 9) (oi := ⟨some 38, _, _, _, _, _⟩) (v := ?_) rfl (by kernel_rfl) (by kernel_rfl) (by kernel_rfl) (fun _ _ _ h => h) rfl hX ?_ ?_; rotate_left; (intro W hW; go_simp; try with_reducible rfl); simp only [Act.put, qA, qB, qC]
   refine sg_actB (i := 10) (o := ⟨none, _, _, _, _, _⟩) rfl (by kernel_rfl) rfl hX (fun K hK => ?_)
   refine wp_stG (.tmp 38) (.tmp 36) rfl rfl rfl HC5.out HF5.out ?_
   refine hK _ _ (hX.trans (Off.set w5 262 _ (.inl rfl))) ?_
   clear hK K
   (try simp only [Act.put, qA, qB, qC])
   clear hX
   refine wpAnyH_done (by kernel_rfl) ?_ _
   go_wp2_with fail
   go_ret
   rw [extL_new HNO.out, idx_new HNO.out, ← HNQ.out]
   exact ⟨rfl, _, PX.out.2.1, (MStep.of (BP.out.trans (BD.out.mono BP.out.size)) g mr mn _).trans PX.out.2.2⟩
  ·refine wp_bldGr 65 71 (.tmp 34) rfl i3 Tryd.underlying65 hi3 hz3 hs3 (memB X) (congrArg (fun l : List Value => Value.agg l.toArray) HGX.out) ?_
   intro w4 hk4 hb4
   have K4 := qH hk4
   have B4 := qH hb4
   refine hK _ _ (hX.then hb4) ?_
   clear hK K
   (try simp only [Act.put, qA, qB, qC])
   replace hX := hX.then hb4
   clear hk4 hb4
   refine sg_actB (i := 4) (o := ⟨some 33, _, _, _, _, _⟩) rfl (by kernel_rfl) rfl hX (fun K hK => ?_)
   refine wp_of_run (v := .slice Aq nq cq) (ld_grs (.tmp 32) rfl rfl ((B4.out.cell (p := ⟨g, 262, none⟩) HGF.out).trans HCQ.out)) ?_
   refine hK _ _ hX ?_
   clear hK K
   (try simp only [Act.put, qA, qB, qC])
   refine sg_actB (i := 7) (o := ⟨some 36, _, _, _, _, _⟩) rfl (by kernel_rfl) rfl hX (fun K hK => ?_)
   refine wp_appGr (base := H) (.tmp 33) (.tmp 35) 65 rfl 71 i3 Tryd.underlying65 hi3 hz3 hs3 hy3 _ (Qs.map memB) rfl (own32_stay HQ5.out fun j hj => B4.out.block j (own4_lt HQ5.out j hj)) _ 1 71 (memB X) rfl K4.out HQL.out (Nat.le_trans M2.out.hs (Nat.le_trans G2.out.size (Nat.le_trans BW5.out.size B4.out.size))) ?_
   intro v5 w5 ho5 hg5 hw5
   have PX := qH (M2.out.push HRX.out HNO.out N2.out G2.out (BW5.out.trans (B4.out.mono BW5.out.size)) ho5 hg5 hw5)
   have HC5 := qH (by have := PX.out.1.cell 262; rw [mkc_q M.out.cl] at this; exact this)
   have HF5 := qH (PX.out.1.frozen 262)
   obtain ⟨A5, c5, hv5, _⟩ := own32_row ho5
   obtain ⟨n5, hn5⟩ : ∃ n5, n5 = (Qs.map memB ++ [memB X]).length := ⟨_, rfl⟩
   rw [← hn5] at hv5
   clear hn5
   subst hv5
   refine hK _ _ (hX.trans (Off.grown hg5 fun j hj => .inr (.inr hj))) ?_
   clear hK K
   (try simp only [Act.put, qA, qB, qC])
   replace hX := hX.trans (Off.grown hg5 fun j hj => .inr (.inr hj))
   clear ho5 hg5 hw5
   refine sg_take (i := 8) (oi := ⟨some 37, _, _, _, _, _⟩) (v := ?_) rfl (by kernel_rfl) (by kernel_rfl) (by kernel_rfl) (fun _ _ _ h => h) rfl hX ?_ ?_; rotate_left; (intro W hW; go_simp; try with_reducible rfl); simp only [Act.put, qA, qB, qC]
   refine sg_take (i := 9) (oi := ⟨some 38, _, _, _, _, _⟩) (v := ?_) rfl (by kernel_rfl) (by kernel_rfl) (by kernel_rfl) (fun _ _ _ h => h) rfl hX ?_ ?_; rotate_left; (intro W hW; go_simp; try with_reducible rfl); simp only [Act.put, qA, qB, qC]
   refine sg_actB (i := 10) (o := ⟨none, _, _, _, _, _⟩) rfl (by kernel_rfl) rfl hX (fun K hK => ?_)
   refine wp_stG (.tmp 38) (.tmp 36) rfl rfl rfl HC5.out HF5.out ?_
   refine hK _ _ (hX.trans (Off.set w5 262 _ (.inl rfl))) ?_
   clear hK K
   (try simp only [Act.put, qA, qB, qC])
   clear hX
   refine wpAnyH_done (by kernel_rfl) ?_ _
   go_wp2_with fail
   go_ret
   rw [extL_new HNO.out, idx_new HNO.out, ← HNQ.out]
   exact ⟨rfl, _, PX.out.2.1, (MStep.of (BP.out.trans (BD.out.mono BP.out.size)) g mr mn _).trans PX.out.2.2⟩
def lightN (S : List St) (k : Nat) : Prop := S.length ≤ k ∧ ∀ s ∈ S, s.free.length ≤ 20
theorem lightN_at {S : List St} {k : Nat} (h : lightN S k) {i : Nat} {s : St} (hs : S[i]? = some s) : s.free.length ≤ 20 := h.2 s (List.mem_of_getElem? hs)
noncomputable def lightB (S : List St) (k : Nat) : Bool := @decide (lightN S k) (Classical.propDecidable _)
theorem lightB_yes {S : List St} {k : Nat} (h : lightN S k) : lightB S k = true := by
 unfold lightB
 exact (@decide_eq_true_iff _ (Classical.propDecidable _)).2 h
theorem lightB_no {S : List St} {k : Nat} (h : ¬ lightN S k) : lightB S k = false := by
 unfold lightB
 exact (@decide_eq_false_iff_not _ (Classical.propDecidable _)).2 h
theorem lightB_iff {S : List St} {k : Nat} : lightB S k = true ↔ lightN S k := by
 unfold lightB
 exact @decide_eq_true_iff _ (Classical.propDecidable _)
set_option maxHeartbeats 4000000 in
set_option maxRecDepth 1000000 in
theorem lightN_any (S : List St) (a z : Int) (k : Nat) (cs : List Value) (w : World) (hv : NfaV w cs S a z) :
  Calls Tryd.prog 8 #[.agg cs.toArray, .int .i64 (k : Int)] w fun e w' => e = .returned (.bool (lightB S k)) ∧ Below w.heap.size w w' := by
 have N0 := qH hv
 obtain ⟨A, cap, rfl, hlc, hcm, hA0⟩ := hv.len
 have HLN := qH (And.intro hlc hcm)
 clear hv hlc hcm hA0
 go_enter Tryd.func8, Tryd.ntmps8
 by_cases h1 : (k : Int) < (S.length : Int)
 ·have HF := qH (show ¬ lightN S k from fun h => by have := h.1; omega)
  go_wp2_with ((with_reducible refine atDst 2 ?_); refine wpList_box rfl 24 _ rfl [.slice A S.length cap, .int .i64 a, .int .i64 z] rfl (Below.refl w.heap.size w) (Nat.le_refl _) ?_; intro w1 hk1 hb1 hs1 _; have B1 := qH hb1; have c0 := hk1.cell 0; clear hk1 hb1 hs1; (try simp only [Act.put, qA, qB, qC]))
  go_ret
  rw [lightB_no HF.out]
  exact ⟨rfl, B1.out⟩
 have HK := qH (show S.length ≤ k by omega)
 go_wp2_with ((with_reducible refine atDst 2 ?_); refine wpList_box rfl 24 _ rfl [.slice A S.length cap, .int .i64 a, .int .i64 z] rfl (Below.refl w.heap.size w) (Nat.le_refl _) ?_; intro w1 hk1 hb1 hs1 _; have K1 := qH hk1; have B1 := qH hb1; have c0 := hk1.cell 0; clear hk1 hb1 hs1; (try simp only [Act.put, qA, qB, qC]))
 have N1 := qH (N0.out.below B1.out)
 go_loopw [5] (fun iv wl => ∃ i : Nat, i ≤ S.length ∧ iv = .int .i64 (i : Int) ∧ (∀ (i' : Nat) (s : St), i' < i → S[i']? = some s → s.free.length ≤ 20) ∧ wl = w1) (fun iv _ => S.length - (intOf iv).toNat)
 case atStart => exact ⟨0, Nat.zero_le _, by simp, fun i' s h => absurd h (Nat.not_lt_zero i'), rfl⟩
 obtain ⟨i, hi, rfl, hok, hw⟩ := hrel
 have hw2 := hw.symm
 subst hw2
 clear hw
 have HOK := qH hok
 clear hok h1
 by_cases hin : i < S.length
 ·have x1 : (i : Int) < (S.length : Int) := Int.ofNat_lt.2 hin
  have HI := qH hin
  have HMI := qH (sub_next hin)
  have e3 := wrap_len HI.out HLN.out.1 HLN.out.2
  have e4 := wrap_len' HI.out HLN.out.1 HLN.out.2
  obtain ⟨s, hs⟩ : ∃ s, S[i]? = some s := ⟨_, List.getElem?_eq_getElem hin⟩
  have HS := qH hs
  obtain ⟨b, off, rfl, _, _, _, Af, cf, hf, _⟩ := N1.out.at_ hs
  obtain ⟨fl, hfl⟩ : ∃ n, n = s.free.length := ⟨_, rfl⟩
  rw [← hfl] at hf
  have HFL := qH hfl
  clear hi hin hs hfl
  by_cases hfl20 : (20 : Int) < (fl : Int)
  ·have HF := qH (show ¬ lightN S k from fun h => by have := lightN_at h HS.out; have := HFL.out; omega)
   go_wp2_with fail
   go_ret
   rw [lightB_no HF.out]
   exact ⟨rfl, B1.out⟩
  ·have HF20 := qH (show s.free.length ≤ 20 by have := HFL.out; omega)
   go_wp2_with fail
   refine ⟨⟨i + 1, HI.out, by congr 1, fun i' s' hi' hs' => ?_, trivial⟩, by simpa [intOf] using HMI.out⟩
   rcases Nat.lt_or_ge i' i with hlt | hge
   ·exact HOK.out i' s' hlt hs'
   ·obtain rfl : i' = i := by omega
    have h9 := HS.out
    rw [hs'] at h9
    injection h9 with h9
    rw [h9]
    exact HF20.out
 ·obtain rfl : i = S.length := by omega
  have x1 : ¬ ((S.length : Int) < (S.length : Int)) := by omega
  have HT := qH (show lightN S k from ⟨HK.out, fun s hs => by
   obtain ⟨i, hi, rfl⟩ := List.getElem_of_mem hs
   exact HOK.out i _ hi (List.getElem?_eq_getElem hi)⟩)
  go_wp2_with fail
  go_ret
  rw [lightB_yes HT.out]
  exact ⟨rfl, B1.out⟩
section
variable {P : Program} {w : World} {ops : Array Oper} {rest : List Oper} {o : Oper} {a : Act} {Q : Exit → Act → World → Prop}
theorem wp_appW {base : Nat} {K : Act → World → Prop} (s x : Operand) (t : TypeId)
  (ho : o.op = .call { callee := .builtin .append, args := #[s, x], argTypes := #[t, t] })
  (e : TypeId) (i : TypeInfo) (z : Value) (bytes : Nat) (ht : P.underlying t = some (.slice e)) (hi : P.info? e = some i) (hz : i.zero = some z)
  (hsize : i.size = 1) (hby : i.bytes = bytes) (hzs : z.cells.size = 1)
  (v : Value) (n : Nat) (xs : List Value) (hs : a.eval s = v) (hown : w.ownsRow base e 1 v n xs)
  (u : Value) (news : List Value) (hx : a.eval x = u) (hr : Row w u news) (h1 : ∀ u ∈ news, u.oneCell' = true)
  (hlen : n + news.length ≤ 2097152) (hby2 : bytes ≤ 1000) (hb : base ≤ w.heap.size)
  (h : ∀ v' w', w'.ownsRow base e 1 v' (n + news.length) (xs ++ news) → w.grownBy w' v.ownBlock → (∀ k, v'.ownBlock = some k → v.ownBlock = some k ∨ w.heap.size ≤ k) → K (a.put o.dst v') w') : o.wp P a w K Q := by
 have hm : (n + news.length) * bytes ≤ 2097152 * 1000 := Nat.mul_le_mul hlen hby2
 obtain ⟨A, cap, rfl, hl, hmx, h0, hc⟩ := hr
 cases A with
 | none =>
  have hcap : cap = 0 := h0 rfl
  subst hcap
  have hn : news = [] := List.eq_nil_of_length_eq_zero (by omega)
  subst hn
  have hrun := run_append_owned_none (P := P) (w := w) base t o.type e i 1 ht hi v n xs hown
  unfold Oper.wp
  simp at hx
  simp [execOp, ho, resolve, invoke, builtin, hs, hx, hrun, Result.andThen]
  exact h v w (by simpa using hown) (World.grownBy.refl _ _) fun k hk => .inl hk
 | some ad =>
  have hnews : ∀ j u, news[j]? = some u → w.cell? (ad.add j) = some u := by
   intro j u hj
   obtain ⟨b, off, hA, _, hcell⟩ := hc (by intro e; rw [e] at hj; simp at hj)
   injection hA with hA
   subst hA
   rw [Addr.add_lit]
   exact hcell j u hj
  obtain ⟨v', w', hrun, hown', hgr, _⟩ := run_append_own (P := P) w base t o.type e i z 1 bytes ht hi hz hsize hby hzs (by omega) v n xs hown ad news.length cap news (by omega) hnews h1 (by unfold maxLen; omega) (by omega) hb
  have hwh := append_where (P := P) (w := w) base t o.type e i z 1 bytes ht hi hz hsize hby (by omega) v n xs hown ad news.length cap news (by omega) hnews h1 (by unfold maxLen; omega) (by omega) hrun
  unfold Oper.wp execOp
  simp only [ho, resolve, invoke, builtin, Sem.run_bind, Sem.run_pure, Result.andThen_ok, List.map_toArray, List.map_cons, List.map_nil, hs, hx, hrun]
  exact h v' w' hown' hgr hwh
theorem wpList_appW {base : Nat} (hgd : o.guard = none) (s x : Operand) (t : TypeId)
  (ho : o.op = .call { callee := .builtin .append, args := #[s, x], argTypes := #[t, t] })
  (e : TypeId) (i : TypeInfo) (z : Value) (bytes : Nat) (ht : P.underlying t = some (.slice e)) (hi : P.info? e = some i) (hz : i.zero = some z)
  (hsize : i.size = 1) (hby : i.bytes = bytes) (hzs : z.cells.size = 1)
  (v : Value) (n : Nat) (xs : List Value) (hs : a.eval s = v) (hown : w.ownsRow base e 1 v n xs)
  (u : Value) (news : List Value) (hx : a.eval x = u) (hr : Row w u news) (h1 : ∀ u ∈ news, u.oneCell' = true)
  (hlen : n + news.length ≤ 2097152) (hby2 : bytes ≤ 1000) (hb : base ≤ w.heap.size)
  (h : ∀ v' w', w'.ownsRow base e 1 v' (n + news.length) (xs ++ news) → w.grownBy w' v.ownBlock → (∀ k, v'.ownBlock = some k → v.ownBlock = some k ∨ w.heap.size ≤ k) → wpList P ops Q rest (a.put o.dst v') w') : wpList P ops Q (o :: rest) a w :=
 wpList_plain hgd fun _ hK => wp_appW s x t ho e i z bytes ht hi hz hsize hby hzs v n xs hs hown u news hx hr h1 hlen hby2 hb fun v' w' h2 h3 h4 => hK _ _ (h v' w' h2 h3 h4)
end
/-! ### plain facts -/
structure GL (n : Nat) (t : Nat → Bool) (L : List Int) : Prop where
 rng : ∀ x ∈ L, 0 ≤ x ∧ x < (n : Int)
 nd : L.Nodup
 is : ∀ i : Nat, i < n → (t i = true ↔ (i : Int) ∈ L)
theorem risJ_nd (t : Nat → Bool) (n : Nat) : (risJ t n).Nodup := List.nodup_iff_pairwise_ne.2 ((risJ_rise t n).imp fun h => Int.ne_of_lt h)
theorem GL.perm {n : Nat} {t : Nat → Bool} {L : List Int} (h : GL n t L) : L.Perm (risJ t n) :=
 (List.perm_ext_iff_of_nodup h.nd (risJ_nd t n)).2 fun x => by
  rw [risJ_mem]
  constructor
  ·intro hx
   obtain ⟨h0, h1⟩ := h.rng x hx
   refine ⟨x.toNat, by omega, by omega, (h.is _ (by omega)).2 ?_⟩
   rwa [Int.toNat_of_nonneg h0]
  ·rintro ⟨i, rfl, hi, ht⟩
   exact (h.is i hi).1 ht
theorem GL.len {n : Nat} {t : Nat → Bool} {L : List Int} (h : GL n t L) : L.length ≤ n := by
 rw [h.perm.length_eq]
 exact risJ_len t n
theorem GL.nil (n : Nat) : GL n (fun _ => false) [] := ⟨fun x h => by simp at h, .nil, fun i _ => by simp⟩
theorem GL.add {n : Nat} {t : Nat → Bool} {L : List Int} (h : GL n t L) {i : Nat} (hi : i < n) (ht : t i = false) : GL n (updB t i true) (L ++ [(i : Int)]) := by
 have hn : (i : Int) ∉ L := fun hm => by have := (h.is i hi).2 hm; rw [ht] at this; cases this
 refine ⟨fun x hx => ?_, ?_, fun j hj => ?_⟩
 ·rcases List.mem_append.1 hx with hx | hx
  ·exact h.rng x hx
  ·obtain rfl := List.mem_singleton.1 hx
   exact ⟨by omega, by omega⟩
 ·refine List.nodup_append.2 ⟨h.nd, by simp, fun a ha b hb hab => ?_⟩
  obtain rfl := List.mem_singleton.1 hb
  exact hn (hab ▸ ha)
 ·unfold updB
  by_cases hji : j = i
  ·subst hji; simp
  ·rw [if_neg hji, h.is j hj, List.mem_append, List.mem_singleton]
   constructor
   ·exact .inl
   ·rintro (h1 | h1)
    ·exact h1
    ·omega
def addT (n : Nat) (t : Nat → Bool) (x : Int) : Nat → Bool := if 0 ≤ x ∧ x < (n : Int) ∧ t x.toNat = false then updB t x.toNat true else t
def addL (n : Nat) (t : Nat → Bool) (L : List Int) (x : Int) : List Int := if 0 ≤ x ∧ x < (n : Int) ∧ t x.toNat = false then L ++ [x] else L
theorem add_yes {n : Nat} {t : Nat → Bool} {i : Nat} (L : List Int) (hi : i < n) (ht : t i = false) : addT n t (i : Int) = updB t i true ∧ addL n t L (i : Int) = L ++ [(i : Int)] := by
 unfold addT addL
 rw [if_pos ⟨by omega, by omega, by simpa using ht⟩, if_pos ⟨by omega, by omega, by simpa using ht⟩, Int.toNat_natCast]
 exact ⟨rfl, rfl⟩
theorem add_no {n : Nat} {t : Nat → Bool} {x : Int} (L : List Int) (h : ¬ (0 ≤ x ∧ x < (n : Int) ∧ t x.toNat = false)) : addT n t x = t ∧ addL n t L x = L := by
 unfold addT addL
 rw [if_neg h, if_neg h]
 exact ⟨rfl, rfl⟩
theorem addT_iff {n : Nat} {t : Nat → Bool} {x : Int} {j : Nat} (hj : j < n) : addT n t x j = true ↔ t j = true ∨ x = (j : Int) := by
 unfold addT
 by_cases h : 0 ≤ x ∧ x < (n : Int) ∧ t x.toNat = false
 ·rw [if_pos h]
  unfold updB
  by_cases hji : j = x.toNat
  ·rw [if_pos hji]
   simp only [true_iff]
   right; omega
  ·rw [if_neg hji]
   constructor
   ·exact .inl
   ·rintro (h1 | h1)
    ·exact h1
    ·omega
 ·rw [if_neg h]
  constructor
  ·exact .inl
  ·rintro (h1 | h1)
   ·exact h1
   ·subst h1
    cases ht : t j with
    | true => rfl
    | false => exact absurd ⟨by omega, by omega, by simpa using ht⟩ h
theorem addL_app (n : Nat) (t : Nat → Bool) (L : List Int) (x : Int) : ∃ m, addL n t L x = L ++ m := by
 unfold addL
 split
 ·exact ⟨_, rfl⟩
 ·exact ⟨[], by simp⟩
theorem GL.put {n : Nat} {t : Nat → Bool} {L : List Int} (h : GL n t L) (x : Int) : GL n (addT n t x) (addL n t L x) := by
 by_cases hc : 0 ≤ x ∧ x < (n : Int) ∧ t x.toNat = false
 ·obtain ⟨i, rfl⟩ : ∃ i : Nat, x = (i : Int) := ⟨x.toNat, by omega⟩
  have ht : t i = false := by simpa using hc.2.2
  obtain ⟨e1, e2⟩ := add_yes (n := n) L (by omega) ht
  rw [e1, e2]
  exact h.add (by omega) ht
 ·obtain ⟨e1, e2⟩ := add_no (n := n) (t := t) L hc
  rw [e1, e2]
  exact h
/-! ### how it lies -/
def gcl (A : Option Addr) (n cap : Nat) (a z : Int) (h : Nat) (lv : Value) : List Value := [.slice A n cap, .int .i64 a, .int .i64 z, .slice (some ⟨h, 0, none⟩) n n, lv]
structure GrpV (w : World) (B g h : Nat) (A : Option Addr) (n cap : Nat) (a z : Int) (t : Nat → Bool) (lv : Value) (L : List Int) : Prop where
 blk : Blk w g 120 (gcl A n cap a z h lv)
 marks : Blk w h 4 (bcs n t)
 own : w.ownsRow B 3 1 lv L.length (nums .i64 L)
 gB : B ≤ g
 hB : B ≤ h
 gh : g ≠ h
 lg : lv.ownBlock ≠ some g
 lh : lv.ownBlock ≠ some h
 gl : GL n t L
def Gd (g h : Nat) (lv : Value) (k : Nat) : Prop := k = g ∨ k = h ∨ lv.ownBlock = some k
structure GStep (w w' : World) (g h : Nat) (lv lv' : Value) : Prop where
 off : Off (Gd g h lv) w w'
 new : ∀ k, lv'.ownBlock = some k → lv.ownBlock = some k ∨ w.heap.size ≤ k
section
variable {w w' w'' : World} {B g h n cap : Nat} {A : Option Addr} {a z : Int} {t : Nat → Bool} {lv lv' lv'' : Value} {L : List Int}
theorem GStep.refl (w : World) (g h : Nat) (lv : Value) : GStep w w g h lv lv := ⟨Off.refl _ _, fun k hk => .inl hk⟩
theorem GStep.trans (x : GStep w w' g h lv lv') (y : GStep w' w'' g h lv' lv'') : GStep w w'' g h lv lv'' := by
 refine ⟨⟨y.off.os.trans x.off.os, y.off.tape.trans x.off.tape, y.off.output.trans x.off.output, Nat.le_trans x.off.size y.off.size, fun k hk hn => ?_⟩, fun k hk => ?_⟩
 ·refine (y.off.block k (Nat.lt_of_lt_of_le hk x.off.size) fun hd => ?_).trans (x.off.block k hk hn)
  rcases hd with e | e | e
  ·exact hn (.inl e)
  ·exact hn (.inr (.inl e))
  ·rcases x.new k e with e | e
   ·exact hn (.inr (.inr e))
   ·omega
 ·rcases y.new k hk with e | e
  ·exact x.new k e
  ·exact .inr (Nat.le_trans x.off.size e)
theorem GStep.of (hb : Below w.heap.size w w') (g h : Nat) (lv : Value) : GStep w w' g h lv lv := ⟨Off.new _ hb, fun k hk => .inl hk⟩
theorem GrpV.gd (x : GrpV w B g h A n cap a z t lv L) {k : Nat} (hk : Gd g h lv k) : B ≤ k := by
 rcases hk with rfl | rfl | hk
 ·exact x.gB
 ·exact x.hB
 ·exact own_above x.own k hk
theorem GrpV.lts (x : GrpV w B g h A n cap a z t lv L) {k : Nat} (hk : Gd g h lv k) : k < w.heap.size := by
 rcases hk with rfl | rfl | hk
 ·exact x.blk.lt
 ·exact x.marks.lt
 ·exact (own6_lt x.own k hk).1
theorem GStep.below (y : GStep w w' g h lv lv') (x : GrpV w B g h A n cap a z t lv L) (hB : B ≤ w.heap.size) : Below B w w' := y.off.below (fun k hk => x.gd hk) hB
theorem GrpV.stay (x : GrpV w B g h A n cap a z t lv L) (hk : ∀ k, Gd g h lv k → w'.heap[k]? = w.heap[k]?) : GrpV w' B g h A n cap a z t lv L :=
 ⟨(hk g (.inl rfl)).trans x.blk, (hk h (.inr (.inl rfl))).trans x.marks, own6_stay x.own fun j hj => hk j (.inr (.inr hj)), x.gB, x.hB, x.gh, x.lg, x.lh, x.gl⟩
theorem GrpV.below (x : GrpV w B g h A n cap a z t lv L) (hb : Below w.heap.size w w') : GrpV w' B g h A n cap a z t lv L := x.stay fun k hk => hb.block k (x.lts hk)
end
end Go.Proofs.YteadghoojeehlaaDoor
