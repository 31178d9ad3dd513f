/-
  The law's begun: what lang answers of a, a a and a*. No statement is proved here.
-/
import Derived.Test.YtopnpdobcagcgaaSBF
import Derived.Lib.SlBytesConst
namespace Go.Proofs.Ytopnpdobcagcgaa
open Go.RowKit
set_option linter.unusedSimpArgs false
set_option linter.unusedVariables false
theorem run_mark {P : Program} (W : World) (t e : TypeId) (C : Array Value) (g n c : Nat) (ht : P.underlying t = some (.slice e)) (he : P.underlying e = some (.int .u8)) (hb : W.heap[g]? = some (.cells C e)) :
  (convert t t (.slice (some ⟨g, 0, none⟩) n c)).run P W = .ok (.slice (some ⟨g, 0, none⟩) n c) (W.freeze ⟨g, C.size, none⟩ 1) := by
 have hsh : W.shape? g = some (e, C.size) := by
  unfold World.shape?
  rw [hb]
 simp [convert, run_underlying ht, run_underlying he, markStringish, hsh]
theorem freeze_at {W : World} {g : Nat} {C : Array Value} {e : TypeId} (hb : W.heap[g]? = some (.cells C e)) (k : Nat) :
  (W.freeze ⟨g, k, none⟩ 1).heap[g]? = some (.cells C e (k, k + 1)) ∧ W.grownBy (W.freeze ⟨g, k, none⟩ 1) (some g) := by
 unfold World.freeze
 rw [if_neg (by decide)]
 refine ⟨?_, ⟨rfl, rfl, rfl, by simp, fun j hj hne => ?_⟩⟩
 ·show (W.heap.modify g _)[g]? = _
  rw [Array.getElem?_modify, if_pos rfl, hb]
  rfl
 ·show (W.heap.modify g _)[j]? = _
  rw [Array.getElem?_modify, if_neg (fun h => hne (by rw [h]))]
theorem row_markedB {w : World} {g n : Nat} {t : TypeId} {cs : List Value} {m : Nat × Nat} (h : w.heap[g]? = some (.cells cs.toArray t m)) (hn : cs.length = n) (hl : n ≤ 1048576) : Row w (.slice (some ⟨g, 0, none⟩) n n) cs := by
 subst hn
 have hlt : g < w.heap.size := (Array.getElem?_eq_some_iff.1 h).1
 refine ⟨_, _, rfl, Nat.le_refl _, by unfold maxLen; omega, (fun h => by cases h), fun _ => ⟨g, 0, rfl, hlt, fun i u hu => ?_⟩⟩
 rw [Nat.zero_add, cell_of_row _ _ i cs.toArray t m h]
 simpa using hu
section
variable {P : Program} {o : Oper} {a : Act} {w : World} {K : Act → World → Prop} {Q : Exit → Act → World → Prop}
theorem wp_mark (t e : TypeId) (x : Operand) (ho : o.op = .convert t t x) (ht : P.underlying t = some (.slice e)) (he : P.underlying e = some (.int .u8)) (g n c : Nat) (cs : List Value) (hx : a.eval x = .slice (some ⟨g, 0, none⟩) n c) (hb : Blk w g e cs)
  (hn : cs.length = n) (hl : n ≤ 1048576)
  (h : ∀ w', Row w' (.slice (some ⟨g, 0, none⟩) n n) cs → w.grownBy w' (some g) → K (a.put o.dst (.slice (some ⟨g, 0, none⟩) n c)) w') : o.wp P a w K Q := by
 have hb' : w.heap[g]? = some (.cells cs.toArray e) := hb
 have hrun := run_mark (P := P) w t e cs.toArray g n c ht he hb'
 have hf := freeze_at hb' cs.toArray.size
 unfold Oper.wp
 simp only [execOp, ho, hx, hrun, Sem.run_bind, Result.andThen_ok, Sem.run_pure]
 exact h _ (row_markedB hf.1 hn hl) hf.2
end
theorem blk_two (w : World) (x y : Nat) (hx : x < 256) (hy : y < 256) : Blk (w.alloc (.cells #[.int .u8 (x : Int), .int .u8 (y : Int)] 5)) w.heap.size 5 (bvs [UInt8.ofNat x, UInt8.ofNat y]) := by
 have := Blk.new w 5 (bvs [UInt8.ofNat x, UInt8.ofNat y])
 rw [show bvs [UInt8.ofNat x, UInt8.ofNat y] = [.int .u8 (x : Int), .int .u8 (y : Int)] by show [bv _, bv _] = _; rw [bv_ofNat hx, bv_ofNat hy]] at this ⊢
 exact this
theorem guard_setB : Try.prog.eqGuardType Try.prog.depth 24 = false := by kernel_rfl
theorem size_u64B : ∀ w, (sizeOf 22).run Try.prog w = .ok 1 w := by
 intro w
 have h : (Try.prog.info? 22).map (·.size) = some 1 := by kernel_rfl
 cases hi : Try.prog.info? 22 with
 | none => rw [hi] at h; cases h
 | some i =>
  rw [hi] at h
  have h' : i.size = 1 := by simpa using h
  simp [sizeOf, typeInfo, hi, h']
def aS : Nat → Bool := listS [97]
theorem a_good : good (bytesT aS) := good_bytes (can_list (by intro x hx; simp at hx; omega))
theorem a_nodes : (bytesT aS).nodes = 1 := by decide +kernel
theorem a_shape : bytesT aS = .node 3 aS [] := by
 unfold bytesT
 rw [if_neg (by decide +kernel)]
theorem a_step : stepT (bytesT aS) 97 = .node 2 zeroS [] := by
 rw [a_shape]
 unfold stepT
 have h : aS 97 = true := by decide +kernel
 show stepF 1 (.node 3 aS []) 97 = _
 rw [stepF]
 simp [T.kind, T.set, h, emptyT]
theorem a_first : firstT (bytesT aS) = aS := by
 rw [a_shape, firstT_node]
 rfl
theorem a_null : nullT (starT (bytesT aS)) = true := (null_iff _).2 ((lg_starT a_good []).2 .nil)
theorem a_one : Lg (bytesT aS) [97] := (lg_bytes _ _).2 ⟨97, rfl, by decide +kernel⟩
theorem a_in : lgB (starT (bytesT aS)) [UInt8.ofNat 97, UInt8.ofNat 97] = true :=
 lgB_iff.2 ((lg_starT a_good _).2 (.app (u := [97]) (v := [97]) a_one (.app (u := [97]) (v := []) a_one .nil)))
theorem a_out : lgB (bytesT aS) [UInt8.ofNat 97, UInt8.ofNat 97] = false :=
 lgB_of (by
  constructor
  ·intro h; cases h
  ·intro h
   obtain ⟨b, h1, _⟩ := (lg_bytes _ _).1 h
   cases h1)
theorem ex_kind {a : Act} {oi : Oper} (x : Operand) (ho : oi.op = .field 27 x 0) (k : Int) (l : List Value) (hx : a.eval x = .agg (.int .i64 k :: l).toArray) {S : World → Prop} :
  ∀ W, S W → (execOp a.eval oi).run Try.prog W = .ok (.value (.int .i64 k)) W := by
 intro W _
 simp [execOp, ho, hx, Instr.field, run_underlying Try.underlying27, asAgg, part, isAgg, run_underlying Try.underlying3]
theorem grown_mark {w0 w w' : World} {g : Nat} (h : w0.grownBy w none) (ha : w.grownBy w' (some g)) (hg : w0.heap.size ≤ g) : w0.grownBy w' none :=
 ⟨ha.os.trans h.os, ha.tape.trans h.tape, ha.output.trans h.output, Nat.le_trans h.size ha.size, fun k hk _ => (ha.block k (Nat.lt_of_lt_of_le hk h.size) (fun e => by have := Option.some.inj e; omega)).trans (h.block k hk (by simp))⟩
set_option maxHeartbeats 8000000 in
set_option maxRecDepth 1000000 in
theorem begun_any (w : World) : Calls Try.prog 8 #[] w fun e w' => e = .returned (.bool true) ∧ Below w.heap.size w w' := by
 obtain ⟨i0, hi0, hz0, hz1, hz2⟩ := inf_rx'
 obtain ⟨z, hz⟩ : ∃ z, z = rxc 0 zeroS (.slice none 0 0) := ⟨_, rfl⟩
 have HZL := Lib.hid (show z.length = 6 by rw [hz]; rfl)
 have HZ0 := Lib.hid (show i0.zero = some (.agg z.toArray) by rw [hz]; exact hz0)
 obtain ⟨q, hq⟩ : ∃ q, q = aS := ⟨_, rfl⟩
 have HQ := Lib.hid (show q = listS [97] from hq)
 have HG := Lib.hid (show good (bytesT q) by rw [hq]; exact a_good)
 have HN := Lib.hid (show (bytesT q).nodes = 1 by rw [hq]; exact a_nodes)
 have HSH := Lib.hid (show bytesT q = .node 3 q [] by rw [hq]; exact a_shape)
 have HST := Lib.hid (show stepT (bytesT q) 97 = .node 2 zeroS [] by rw [hq]; exact a_step)
 have HFI := Lib.hid (show firstT (bytesT q) = q by rw [hq]; exact a_first)
 have HNU := Lib.hid (show nullT (starT (bytesT q)) = true by rw [hq]; exact a_null)
 have HI1 := Lib.hid (show lgB (starT (bytesT q)) [UInt8.ofNat 97, UInt8.ofNat 97] = true by rw [hq]; exact a_in)
 have HI2 := Lib.hid (show lgB (bytesT q) [UInt8.ofNat 97, UInt8.ofNat 97] = false by rw [hq]; exact a_out)
 obtain ⟨tx, htx⟩ : ∃ t, t = bytesT q := ⟨_, rfl⟩
 rw [← htx] at HG HN HSH HST HFI HNU HI1 HI2
 have HTX := Lib.hid htx
 clear hz hz0 hq htx
 go_enter Try.func8, Try.ntmps8
 have kc := fun (w : World) (C : Array Value) (n c : Nat) => Lib.run_convert_bytes_const (P := Try.prog) w 28 5 C n c Try.underlying28 Try.underlying5
 go_wp2_with fail
 clear kc
 obtain ⟨w1, hw1⟩ : ∃ w1, w1 = w.alloc (.cells #[.int .u8 97] 5 (1, 2)) := ⟨_, rfl⟩
 have R1 := Lib.hid (show Row w1 (.slice (some ⟨w.heap.size, 0, none⟩) 1 1) (bvs [UInt8.ofNat 97]) from by rw [hw1]; exact row_markedB (heap_alloc_new w _) rfl (by omega))
 have B1 := Lib.hid (show Below w.heap.size w w1 by rw [hw1]; exact (Below.refl _ _).alloc (Nat.le_refl _) _)
 rw [← hw1]
 clear hw1
 refine (refOf1 97 (by omega) _ w1 R1.out q HQ.out).mono ?_
 rintro e w2 ⟨rfl, hb⟩
 have B2 := Lib.hid (B1.out.trans (hb.mono B1.out.size))
 clear hb
 go_wp2_with fail
 refine (refBytes_any q w2).mono ?_
 rintro e w3 ⟨cs, rfl, hcs, hb⟩
 have B3 := Lib.hid (B2.out.trans (hb.mono B2.out.size))
 rw [← HTX.out] at hcs
 have D3 := Lib.hid (hcs fun _ => False)
 have C6 := Lib.hid (hcs fun _ => False).length
 have C1 := Lib.hid (show cs.all (·.oneCell') = true from List.all_eq_true.2 (RxD.one (hcs fun _ => False)))
 clear hcs hb
 go_wp2_with (first
  | ((with_reducible refine atDst 1 ?_); refine wpList_new rfl 27 rfl i0 _ z hi0 HZ0.out rfl (Below.refl w3.heap.size w3) (Nat.le_refl _) ?_; intro w4 hk hb hs ho; have L4 := Lib.hid hk; have B4 := Lib.hid hb; clear hk hb hs ho; (try simp only [Act.put, qA, qB, qC]))
  | ((with_reducible refine atStore 27 1 5 ?_); refine wpList_stBlk rfl 27 _ _ rfl w3.heap.size cs rfl rfl 27 _ L4.out (size_rx C6.out) (by rw [HZL.out, C6.out]) C1.out B4.out (Nat.le_refl _) ?_; intro w5 hk hb hs ho; have L5 := Lib.hid hk; have B5 := Lib.hid (B3.out.trans (hb.mono B3.out.size)); clear hk hb hs ho; (try simp only [Act.put, qA, qB, qC])))
 refine sg_start (S := fun V => w5.grownBy V none) (by kernel_rfl) (grown_start _ _) (fun wd hwd => ?_)
 have hX : w5.grownBy wd none := by rw [hwd]; exact grown_start _ _
 clear hwd
 have HRC := Lib.hid (show w5.rangeAt w3.heap.size 0 cs from fun i v hv => (L5.out.cell (0 + i)).trans (by rw [Nat.zero_add]; exact hv))
 have HRQ := Lib.hid (show w5.rangeAt w3.heap.size 1 (wds q) from by
  have hD := D3.out
  rw [HSH.out] at hD
  obtain ⟨v, hcs, _⟩ := hD.row
  intro i u hu
  have h1 := L5.out.cell (1 + i)
  rw [h1, hcs, Nat.add_comm 1 i, List.getElem?_cons_succ, List.getElem?_append_left (List.getElem?_eq_some_iff.1 hu).1]
  exact hu)
 have HN2 := Lib.hid (show (starT tx).nodes ≤ 2000 by have h1 := star_nodes tx; have h2 := HN.out; omega)
 have HN3 := Lib.hid (show tx.nodes ≤ 2000 by have h2 := HN.out; omega)
 have HN4 := Lib.hid (show tx.nodes ≤ 400 by have h2 := HN.out; omega)
 have HSZ := Lib.hid (show w5.heap.size ≤ wd.heap.size from hX.size)
 refine sg_take (i := 0) (oi := ⟨some 6, _, _, _, _, _⟩) (v := .agg cs.toArray) rfl (by kernel_rfl) (by kernel_rfl) (by kernel_rfl) (fun _ _ _ h => h) rfl hX (fun W hW => ld_keep 27 _ rfl w3.heap.size 0 rfl _ _ HRC.out (hW.block _ L5.out.lt (by simp)) Try.underlying27 rfl (size_rx C6.out)) ?_; simp only [Act.put, qA, qB, qC]
 refine sg_two (i := 1) (j := 2) (oi := ⟨some 7, _, _, _, _, _⟩) (oj := ⟨some 8, _, _, _, _, _⟩) rfl rfl (by kernel_rfl) rfl rfl hX (fun K hK => ?_) (fun K hK => ?_)
 ·go_wp2_with fail
  refine (refStar_any tx cs wd (D := fun _ => False) (fun k hk => absurd hk id) (D3.out.stay fun k hk => absurd hk id) (by have := HN.out; omega) HG.out).mono ?_
  rintro e w6 ⟨es, rfl, hes, hb⟩
  go_wp2_with fail
  refine hK _ _ (grown_then hX hb) ?_
  clear hK K
  (try simp only [Act.put, qA, qB, qC])
  replace hX := grown_then hX hb
  have Xw6 := Lib.hid hb
  have Ew6 := Lib.hid hes
  clear hes hb
  refine sg_actB (i := 2) (o := ⟨some 8, _, _, _, _, _⟩) rfl (by kernel_rfl) rfl hX (fun K hK => ?_)
  go_wp2_with fail
  obtain ⟨w7, hw9⟩ : ∃ v, v = w6.alloc (.cells #[.int .u8 97, .int .u8 97] 5) := ⟨_, rfl⟩
  have Xw7 := Lib.hid (show Below w6.heap.size w6 w7 by rw [hw9]; exact (Below.refl _ _).alloc (Nat.le_refl _) _)
  have Yw7 := Lib.hid (show Blk w7 w6.heap.size 5 (bvs [UInt8.ofNat 97, UInt8.ofNat 97]) by rw [hw9]; exact blk_two w6 97 97 (by omega) (by omega))
  rw [← hw9]
  clear hw9
  refine hK _ _ (grown_then hX Xw7.out) ?_
  clear hK K
  (try simp only [Act.put, qA, qB, qC])
  replace hX := grown_then hX Xw7.out
  refine sg_actB (i := 3) (o := ⟨some 9, _, _, _, _, _⟩) rfl (by kernel_rfl) rfl hX (fun K hK => ?_)
  refine wp_mark 28 5 _ rfl Try.underlying28 Try.underlying5 w6.heap.size 2 2 (bvs [UInt8.ofNat 97, UInt8.ofNat 97]) rfl Yw7.out rfl (by omega) ?_
  intro w8 hr9 hg9
  refine hK _ _ (grown_mark hX hg9 (Nat.le_trans HSZ.out Xw6.out.size)) ?_
  clear hK K
  (try simp only [Act.put, qA, qB, qC])
  replace hX := grown_mark hX hg9 (Nat.le_trans HSZ.out Xw6.out.size)
  have Rw8 := Lib.hid hr9
  have Gw8 := Lib.hid hg9
  clear hr9 hg9
  have V8 := Lib.hid (show RxV w8.heap.size w8 es (starT tx) from RxD.mono (RxD.stay (RxD.stay Ew6.out fun k hk => Xw7.out.block k hk.2) fun k hk => Gw8.out.block k (Nat.lt_of_lt_of_le hk.2 Xw7.out.size) (fun e => by have := Option.some.inj e; have := hk.2; omega)) fun k hk => Nat.lt_of_lt_of_le hk.2 (Nat.le_trans Xw7.out.size Gw8.out.size))
  refine sg_actB (i := 4) (o := ⟨some 10, _, _, _, _, _⟩) rfl (by kernel_rfl) rfl hX (fun K hK => ?_)
  go_wp2_with fail
  refine (lIn_any (starT tx) HN2.out [UInt8.ofNat 97, UInt8.ofNat 97] (by decide) _ es w8 Rw8.out V8.out).mono ?_
  rintro e w9 ⟨rfl, hb⟩
  rw [HI1.out]
  go_wp2_with fail
  refine hK _ _ (grown_then hX hb) ?_
  clear hK K
  (try simp only [Act.put, qA, qB, qC])
  replace hX := grown_then hX hb
  have Xw9 := Lib.hid hb
  clear hb
  have HS9 := Lib.hid (show w5.heap.size ≤ w9.heap.size from hX.size)
  refine sg_take (i := 5) (oi := ⟨some 11, _, _, _, _, _⟩) (v := ?_) rfl (by kernel_rfl) (by kernel_rfl) (by kernel_rfl) (fun _ _ _ h => h) rfl hX ?_ ?_; rotate_left; (intro W hW; go_simp; try with_reducible rfl); simp only [Act.put, qA, qB, qC]
  refine sg_take (i := 6) (oi := ⟨some 12, _, _, _, _, _⟩) (v := .agg cs.toArray) rfl (by kernel_rfl) (by kernel_rfl) (by kernel_rfl) (fun _ _ _ h => h) rfl hX (fun W hW => ld_keep 27 _ rfl w3.heap.size 0 rfl _ _ HRC.out (hW.block _ L5.out.lt (by simp)) Try.underlying27 rfl (size_rx C6.out)) ?_; simp only [Act.put, qA, qB, qC]
  refine sg_actB (i := 7) (o := ⟨some 13, _, _, _, _, _⟩) rfl (by kernel_rfl) rfl hX (fun K hK => ?_)
  go_wp2_with fail
  obtain ⟨wA, hw9⟩ : ∃ v, v = w9.alloc (.cells #[.int .u8 97, .int .u8 97] 5) := ⟨_, rfl⟩
  have XwA := Lib.hid (show Below w9.heap.size w9 wA by rw [hw9]; exact (Below.refl _ _).alloc (Nat.le_refl _) _)
  have YwA := Lib.hid (show Blk wA w9.heap.size 5 (bvs [UInt8.ofNat 97, UInt8.ofNat 97]) by rw [hw9]; exact blk_two w9 97 97 (by omega) (by omega))
  rw [← hw9]
  clear hw9
  refine hK _ _ (grown_then hX XwA.out) ?_
  clear hK K
  (try simp only [Act.put, qA, qB, qC])
  replace hX := grown_then hX XwA.out
  refine sg_actB (i := 8) (o := ⟨some 14, _, _, _, _, _⟩) rfl (by kernel_rfl) rfl hX (fun K hK => ?_)
  refine wp_mark 28 5 _ rfl Try.underlying28 Try.underlying5 w9.heap.size 2 2 (bvs [UInt8.ofNat 97, UInt8.ofNat 97]) rfl YwA.out rfl (by omega) ?_
  intro wB hr9 hg9
  refine hK _ _ (grown_mark hX hg9 HS9.out) ?_
  clear hK K
  (try simp only [Act.put, qA, qB, qC])
  replace hX := grown_mark hX hg9 HS9.out
  have RwB := Lib.hid hr9
  have GwB := Lib.hid hg9
  clear hr9 hg9
  refine sg_actB (i := 9) (o := ⟨some 15, _, _, _, _, _⟩) rfl (by kernel_rfl) rfl hX (fun K hK => ?_)
  go_wp2_with fail
  refine (lIn_any tx HN3.out [UInt8.ofNat 97, UInt8.ofNat 97] (by decide) _ cs wB RwB.out (RxD.mono (D3.out.stay fun k hk => absurd hk id) fun k hk => absurd hk id)).mono ?_
  rintro e wC ⟨rfl, hb⟩
  rw [HI2.out]
  go_wp2_with fail
  refine hK _ _ (grown_then hX hb) ?_
  clear hK K
  (try simp only [Act.put, qA, qB, qC])
  replace hX := grown_then hX hb
  have XwC := Lib.hid hb
  clear hb
  clear V8 Ew6
  refine sg_take (i := 10) (oi := ⟨some 16, _, _, _, _, _⟩) (v := ?_) rfl (by kernel_rfl) (by kernel_rfl) (by kernel_rfl) (fun _ _ _ h => h) rfl hX ?_ ?_; rotate_left; (intro W hW; go_simp; try with_reducible rfl); simp only [Act.put, qA, qB, qC]
  refine sg_take (i := 11) (oi := ⟨some 17, _, _, _, _, _⟩) (v := ?_) rfl (by kernel_rfl) (by kernel_rfl) (by kernel_rfl) (fun _ _ _ h => h) rfl hX ?_ ?_; rotate_left; (intro W hW; go_simp; try with_reducible rfl); simp only [Act.put, qA, qB, qC]
  refine sg_take (i := 12) (oi := ⟨some 18, _, _, _, _, _⟩) (v := ?_) rfl (by kernel_rfl) (by kernel_rfl) (by kernel_rfl) (fun _ _ _ h => h) rfl hX ?_ ?_; rotate_left; (intro W hW; go_simp; try with_reducible rfl); simp only [Act.put, qA, qB, qC]
  refine sg_take (i := 13) (oi := ⟨some 19, _, _, _, _, _⟩) (v := .agg cs.toArray) rfl (by kernel_rfl) (by kernel_rfl) (by kernel_rfl) (fun _ _ _ h => h) rfl hX (fun W hW => ld_keep 27 _ rfl w3.heap.size 0 rfl _ _ HRC.out (hW.block _ L5.out.lt (by simp)) Try.underlying27 rfl (size_rx C6.out)) ?_; simp only [Act.put, qA, qB, qC]
  refine sg_actB (i := 14) (o := ⟨some 20, _, _, _, _, _⟩) rfl (by kernel_rfl) rfl hX (fun K hK => ?_)
  go_wp2_with fail
  refine (refStar_any tx cs wC (D := fun _ => False) (fun k hk => absurd hk id) (D3.out.stay fun k hk => absurd hk id) (by have := HN.out; omega) HG.out).mono ?_
  rintro e wD ⟨es, rfl, hes, hb⟩
  go_wp2_with fail
  refine hK _ _ (grown_then hX hb) ?_
  clear hK K
  (try simp only [Act.put, qA, qB, qC])
  replace hX := grown_then hX hb
  have XwD := Lib.hid hb
  have EwD := Lib.hid hes
  clear hes hb
  refine sg_actB (i := 15) (o := ⟨some 21, _, _, _, _, _⟩) rfl (by kernel_rfl) rfl hX (fun K hK => ?_)
  go_wp2_with fail
  refine (lNull_any (starT tx) _ wD (RxD.mono EwD.out fun k hk => hk.2)).mono ?_
  rintro e wE ⟨rfl, hb⟩
  rw [HNU.out]
  go_wp2_with fail
  refine hK _ _ (grown_then hX hb) ?_
  clear hK K
  (try simp only [Act.put, qA, qB, qC])
  replace hX := grown_then hX hb
  have XwE := Lib.hid hb
  clear hb
  refine sg_take (i := 16) (oi := ⟨some 22, _, _, _, _, _⟩) (v := ?_) rfl (by kernel_rfl) (by kernel_rfl) (by kernel_rfl) (fun _ _ _ h => h) rfl hX ?_ ?_; rotate_left; (intro W hW; go_simp; try with_reducible rfl); simp only [Act.put, qA, qB, qC]
  refine sg_take (i := 17) (oi := ⟨some 23, _, _, _, _, _⟩) (v := ?_) rfl (by kernel_rfl) (by kernel_rfl) (by kernel_rfl) (fun _ _ _ h => h) rfl hX ?_ ?_; rotate_left; (intro W hW; go_simp; try with_reducible rfl); simp only [Act.put, qA, qB, qC]
  refine sg_take (i := 18) (oi := ⟨some 24, _, _, _, _, _⟩) (v := .agg cs.toArray) rfl (by kernel_rfl) (by kernel_rfl) (by kernel_rfl) (fun _ _ _ h => h) rfl hX (fun W hW => ld_keep 27 _ rfl w3.heap.size 0 rfl _ _ HRC.out (hW.block _ L5.out.lt (by simp)) Try.underlying27 rfl (size_rx C6.out)) ?_; simp only [Act.put, qA, qB, qC]
  refine sg_actB (i := 19) (o := ⟨some 25, _, _, _, _, _⟩) rfl (by kernel_rfl) rfl hX (fun K hK => ?_)
  go_wp2_with fail
  have hst := lStep_any tx HN4.out HG.out (97 : UInt8) cs wE (RxD.mono (D3.out.stay fun k hk => absurd hk id) fun k hk => absurd hk id)
  rw [show bv (97 : UInt8) = Value.int .u8 97 from rfl, show (97 : UInt8).toNat = 97 from rfl, HST.out] at hst
  refine hst.mono ?_
  clear hst
  rintro e wF ⟨ds, rfl, hds, hb⟩
  obtain ⟨vd, rfl, _⟩ := hds.row
  clear hds
  go_wp2_with fail
  refine hK _ _ (grown_then hX hb) ?_
  clear hK K
  (try simp only [Act.put, qA, qB, qC])
  replace hX := grown_then hX hb
  have XwF := Lib.hid hb
  clear hb
  refine sg_take (i := 20) (oi := ⟨some 26, _, _, _, _, _⟩) (v := .int .i64 2) rfl (by kernel_rfl) (by kernel_rfl) (by kernel_rfl) (fun _ _ _ h => h) rfl hX (ex_kind (.tmp 25) rfl 2 _ rfl) ?_; simp only [Act.put, qA, qB, qC]
  refine sg_take (i := 21) (oi := ⟨some 27, _, _, _, _, _⟩) (v := ?_) rfl (by kernel_rfl) (by kernel_rfl) (by kernel_rfl) (fun _ _ _ h => h) rfl hX ?_ ?_; rotate_left; (intro W hW; go_simp; try with_reducible rfl); simp only [Act.put, qA, qB, qC]
  refine sg_take (i := 22) (oi := ⟨some 28, _, _, _, _, _⟩) (v := ?_) rfl (by kernel_rfl) (by kernel_rfl) (by kernel_rfl) (fun _ _ _ h => h) rfl hX ?_ ?_; rotate_left; (intro W hW; go_simp; try with_reducible rfl); simp only [Act.put, qA, qB, qC]
  refine sg_take (i := 23) (oi := ⟨some 29, _, _, _, _, _⟩) (v := ?_) rfl (by kernel_rfl) (by kernel_rfl) (by kernel_rfl) (fun _ _ _ h => h) rfl hX ?_ ?_; rotate_left; (intro W hW; go_simp; try with_reducible rfl); simp only [Act.put, qA, qB, qC]
  refine sg_take (i := 24) (oi := ⟨some 30, _, _, _, _, _⟩) (v := .agg cs.toArray) rfl (by kernel_rfl) (by kernel_rfl) (by kernel_rfl) (fun _ _ _ h => h) rfl hX (fun W hW => ld_keep 27 _ rfl w3.heap.size 0 rfl _ _ HRC.out (hW.block _ L5.out.lt (by simp)) Try.underlying27 rfl (size_rx C6.out)) ?_; simp only [Act.put, qA, qB, qC]
  refine sg_take (i := 26) (oi := ⟨some 32, _, _, _, _, _⟩) (v := ?_) rfl (by kernel_rfl) (by kernel_rfl) (by kernel_rfl) (fun _ _ _ h => h) rfl hX ?_ ?_; rotate_left; (intro W hW; go_simp; try with_reducible rfl); simp only [Act.put, qA, qB, qC]
  refine sg_take (i := 27) (oi := ⟨some 33, _, _, _, _, _⟩) (v := .agg (wds q).toArray) rfl (by kernel_rfl) (by kernel_rfl) (by kernel_rfl) (fun _ _ _ h => h) rfl hX (fun W hW => ld_keep 24 _ rfl w3.heap.size 1 rfl _ _ HRQ.out (hW.block _ L5.out.lt (by simp)) Try.underlying24 rfl (size_set q)) ?_; simp only [Act.put, qA, qB, qC]
  refine sg_actB (i := 25) (o := ⟨some 31, _, _, _, _, _⟩) rfl (by kernel_rfl) rfl hX (fun K hK => ?_)
  go_wp2_with fail
  refine (lFirst_any tx HN3.out cs wF (RxD.mono (D3.out.stay fun k hk => absurd hk id) fun k hk => absurd hk id)).mono ?_
  rintro e wG ⟨rfl, hb⟩
  rw [HFI.out]
  go_wp2_with fail
  refine hK _ _ (grown_then hX hb) ?_
  clear hK K
  (try simp only [Act.put, qA, qB, qC])
  replace hX := grown_then hX hb
  have XwG := Lib.hid hb
  clear hb
  refine sg_take (i := 28) (oi := ⟨some 34, _, _, _, _, _⟩) (v := .bool true) rfl (by kernel_rfl) (by kernel_rfl) (by kernel_rfl) (fun _ _ _ h => h) rfl hX (eq_is (eqS_self _) 24 22 (.tmp 31) (.tmp 33) 24 rfl guard_setB Try.underlying24 Try.underlying22 size_u64B rfl rfl) ?_; simp only [Act.put, qA, qB, qC]
  refine sg_take (i := 29) (oi := ⟨some 35, _, _, _, _, _⟩) (v := ?_) rfl (by kernel_rfl) (by kernel_rfl) (by kernel_rfl) (fun _ _ _ h => h) rfl hX ?_ ?_; rotate_left; (intro W hW; go_simp; try with_reducible rfl); simp only [Act.put, qA, qB, qC]
  refine sg_take (i := 30) (oi := ⟨some 0, _, _, _, _, _⟩) (v := ?_) rfl (by kernel_rfl) (by kernel_rfl) (by kernel_rfl) (fun _ _ _ h => h) rfl hX ?_ ?_; rotate_left; (intro W hW; go_simp; try with_reducible rfl); simp only [Act.put, qA, qB, qC]
  refine wpAnyH_done (by kernel_rfl) ?_ _
  have BZ := Lib.hid (B5.out.trans (Below.mono (show Below w5.heap.size w5 wG from ⟨hX.os, hX.tape, hX.output, hX.size, fun k hk => hX.block k hk (by simp)⟩) B5.out.size))
  clear hX
  go_wp2_with fail
  go_ret
  exact ⟨rfl, BZ.out⟩
 ·go_wp2_with fail
  obtain ⟨w7, hw9⟩ : ∃ v, v = wd.alloc (.cells #[.int .u8 97, .int .u8 97] 5) := ⟨_, rfl⟩
  have Xw7 := Lib.hid (show Below wd.heap.size wd w7 by rw [hw9]; exact (Below.refl _ _).alloc (Nat.le_refl _) _)
  have Yw7 := Lib.hid (show Blk w7 wd.heap.size 5 (bvs [UInt8.ofNat 97, UInt8.ofNat 97]) by rw [hw9]; exact blk_two wd 97 97 (by omega) (by omega))
  rw [← hw9]
  clear hw9
  refine hK _ _ (grown_then hX Xw7.out) ?_
  clear hK K
  (try simp only [Act.put, qA, qB, qC])
  replace hX := grown_then hX Xw7.out
  refine sg_two (i := 1) (j := 3) (oi := ⟨some 7, _, _, _, _, _⟩) (oj := ⟨some 9, _, _, _, _, _⟩) rfl rfl (by kernel_rfl) rfl rfl hX (fun K hK => ?_) (fun K hK => ?_)
  ·go_wp2_with fail
   refine (refStar_any tx cs w7 (D := fun _ => False) (fun k hk => absurd hk id) (D3.out.stay fun k hk => absurd hk id) (by have := HN.out; omega) HG.out).mono ?_
   rintro e w6 ⟨es, rfl, hes, hb⟩
   go_wp2_with fail
   refine hK _ _ (grown_then hX hb) ?_
   clear hK K
   (try simp only [Act.put, qA, qB, qC])
   replace hX := grown_then hX hb
   have Xw6 := Lib.hid hb
   have Ew6 := Lib.hid hes
   clear hes hb
   refine sg_actB (i := 3) (o := ⟨some 9, _, _, _, _, _⟩) rfl (by kernel_rfl) rfl hX (fun K hK => ?_)
   refine wp_mark 28 5 _ rfl Try.underlying28 Try.underlying5 wd.heap.size 2 2 (bvs [UInt8.ofNat 97, UInt8.ofNat 97]) rfl (Yw7.out.below Xw6.out Yw7.out.lt) rfl (by omega) ?_
   intro w8 hr9 hg9
   refine hK _ _ (grown_mark hX hg9 HSZ.out) ?_
   clear hK K
   (try simp only [Act.put, qA, qB, qC])
   replace hX := grown_mark hX hg9 HSZ.out
   have Rw8 := Lib.hid hr9
   have Gw8 := Lib.hid hg9
   clear hr9 hg9
   have V8 := Lib.hid (show RxV w8.heap.size w8 es (starT tx) from RxD.mono (RxD.stay Ew6.out fun k hk => Gw8.out.block k hk.2 (fun e => by have := Option.some.inj e; have := hk.1; have := Yw7.out.lt; omega)) fun k hk => Nat.lt_of_lt_of_le hk.2 Gw8.out.size)
   refine sg_actB (i := 4) (o := ⟨some 10, _, _, _, _, _⟩) rfl (by kernel_rfl) rfl hX (fun K hK => ?_)
   go_wp2_with fail
   refine (lIn_any (starT tx) HN2.out [UInt8.ofNat 97, UInt8.ofNat 97] (by decide) _ es w8 Rw8.out V8.out).mono ?_
   rintro e w9 ⟨rfl, hb⟩
   rw [HI1.out]
   go_wp2_with fail
   refine hK _ _ (grown_then hX hb) ?_
   clear hK K
   (try simp only [Act.put, qA, qB, qC])
   replace hX := grown_then hX hb
   have Xw9 := Lib.hid hb
   clear hb
   have HS9 := Lib.hid (show w5.heap.size ≤ w9.heap.size from hX.size)
   refine sg_take (i := 5) (oi := ⟨some 11, _, _, _, _, _⟩) (v := ?_) rfl (by kernel_rfl) (by kernel_rfl) (by kernel_rfl) (fun _ _ _ h => h) rfl hX ?_ ?_; rotate_left; (intro W hW; go_simp; try with_reducible rfl); simp only [Act.put, qA, qB, qC]
   refine sg_take (i := 6) (oi := ⟨some 12, _, _, _, _, _⟩) (v := .agg cs.toArray) rfl (by kernel_rfl) (by kernel_rfl) (by kernel_rfl) (fun _ _ _ h => h) rfl hX (fun W hW => ld_keep 27 _ rfl w3.heap.size 0 rfl _ _ HRC.out (hW.block _ L5.out.lt (by simp)) Try.underlying27 rfl (size_rx C6.out)) ?_; simp only [Act.put, qA, qB, qC]
   refine sg_actB (i := 7) (o := ⟨some 13, _, _, _, _, _⟩) rfl (by kernel_rfl) rfl hX (fun K hK => ?_)
   go_wp2_with fail
   obtain ⟨wA, hw9⟩ : ∃ v, v = w9.alloc (.cells #[.int .u8 97, .int .u8 97] 5) := ⟨_, rfl⟩
   have XwA := Lib.hid (show Below w9.heap.size w9 wA by rw [hw9]; exact (Below.refl _ _).alloc (Nat.le_refl _) _)
   have YwA := Lib.hid (show Blk wA w9.heap.size 5 (bvs [UInt8.ofNat 97, UInt8.ofNat 97]) by rw [hw9]; exact blk_two w9 97 97 (by omega) (by omega))
   rw [← hw9]
   clear hw9
   refine hK _ _ (grown_then hX XwA.out) ?_
   clear hK K
   (try simp only [Act.put, qA, qB, qC])
   replace hX := grown_then hX XwA.out
   refine sg_actB (i := 8) (o := ⟨some 14, _, _, _, _, _⟩) rfl (by kernel_rfl) rfl hX (fun K hK => ?_)
   refine wp_mark 28 5 _ rfl Try.underlying28 Try.underlying5 w9.heap.size 2 2 (bvs [UInt8.ofNat 97, UInt8.ofNat 97]) rfl YwA.out rfl (by omega) ?_
   intro wB hr9 hg9
   refine hK _ _ (grown_mark hX hg9 HS9.out) ?_
   clear hK K
   (try simp only [Act.put, qA, qB, qC])
   replace hX := grown_mark hX hg9 HS9.out
   have RwB := Lib.hid hr9
   have GwB := Lib.hid hg9
   clear hr9 hg9
   refine sg_actB (i := 9) (o := ⟨some 15, _, _, _, _, _⟩) rfl (by kernel_rfl) rfl hX (fun K hK => ?_)
   go_wp2_with fail
   refine (lIn_any tx HN3.out [UInt8.ofNat 97, UInt8.ofNat 97] (by decide) _ cs wB RwB.out (RxD.mono (D3.out.stay fun k hk => absurd hk id) fun k hk => absurd hk id)).mono ?_
   rintro e wC ⟨rfl, hb⟩
   rw [HI2.out]
   go_wp2_with fail
   refine hK _ _ (grown_then hX hb) ?_
   clear hK K
   (try simp only [Act.put, qA, qB, qC])
   replace hX := grown_then hX hb
   have XwC := Lib.hid hb
   clear hb
   clear V8 Ew6
   refine sg_take (i := 10) (oi := ⟨some 16, _, _, _, _, _⟩) (v := ?_) rfl (by kernel_rfl) (by kernel_rfl) (by kernel_rfl) (fun _ _ _ h => h) rfl hX ?_ ?_; rotate_left; (intro W hW; go_simp; try with_reducible rfl); simp only [Act.put, qA, qB, qC]
   refine sg_take (i := 11) (oi := ⟨some 17, _, _, _, _, _⟩) (v := ?_) rfl (by kernel_rfl) (by kernel_rfl) (by kernel_rfl) (fun _ _ _ h => h) rfl hX ?_ ?_; rotate_left; (intro W hW; go_simp; try with_reducible rfl); simp only [Act.put, qA, qB, qC]
   refine sg_take (i := 12) (oi := ⟨some 18, _, _, _, _, _⟩) (v := ?_) rfl (by kernel_rfl) (by kernel_rfl) (by kernel_rfl) (fun _ _ _ h => h) rfl hX ?_ ?_; rotate_left; (intro W hW; go_simp; try with_reducible rfl); simp only [Act.put, qA, qB, qC]
   refine sg_take (i := 13) (oi := ⟨some 19, _, _, _, _, _⟩) (v := .agg cs.toArray) rfl (by kernel_rfl) (by kernel_rfl) (by kernel_rfl) (fun _ _ _ h => h) rfl hX (fun W hW => ld_keep 27 _ rfl w3.heap.size 0 rfl _ _ HRC.out (hW.block _ L5.out.lt (by simp)) Try.underlying27 rfl (size_rx C6.out)) ?_; simp only [Act.put, qA, qB, qC]
   refine sg_actB (i := 14) (o := ⟨some 20, _, _, _, _, _⟩) rfl (by kernel_rfl) rfl hX (fun K hK => ?_)
   go_wp2_with fail
   refine (refStar_any tx cs wC (D := fun _ => False) (fun k hk => absurd hk id) (D3.out.stay fun k hk => absurd hk id) (by have := HN.out; omega) HG.out).mono ?_
   rintro e wD ⟨es, rfl, hes, hb⟩
   go_wp2_with fail
   refine hK _ _ (grown_then hX hb) ?_
   clear hK K
   (try simp only [Act.put, qA, qB, qC])
   replace hX := grown_then hX hb
   have XwD := Lib.hid hb
   have EwD := Lib.hid hes
   clear hes hb
   refine sg_actB (i := 15) (o := ⟨some 21, _, _, _, _, _⟩) rfl (by kernel_rfl) rfl hX (fun K hK => ?_)
   go_wp2_with fail
   refine (lNull_any (starT tx) _ wD (RxD.mono EwD.out fun k hk => hk.2)).mono ?_
   rintro e wE ⟨rfl, hb⟩
   rw [HNU.out]
   go_wp2_with fail
   refine hK _ _ (grown_then hX hb) ?_
   clear hK K
   (try simp only [Act.put, qA, qB, qC])
   replace hX := grown_then hX hb
   have XwE := Lib.hid hb
   clear hb
   refine sg_take (i := 16) (oi := ⟨some 22, _, _, _, _, _⟩) (v := ?_) rfl (by kernel_rfl) (by kernel_rfl) (by kernel_rfl) (fun _ _ _ h => h) rfl hX ?_ ?_; rotate_left; (intro W hW; go_simp; try with_reducible rfl); simp only [Act.put, qA, qB, qC]
   refine sg_take (i := 17) (oi := ⟨some 23, _, _, _, _, _⟩) (v := ?_) rfl (by kernel_rfl) (by kernel_rfl) (by kernel_rfl) (fun _ _ _ h => h) rfl hX ?_ ?_; rotate_left; (intro W hW; go_simp; try with_reducible rfl); simp only [Act.put, qA, qB, qC]
   refine sg_take (i := 18) (oi := ⟨some 24, _, _, _, _, _⟩) (v := .agg cs.toArray) rfl (by kernel_rfl) (by kernel_rfl) (by kernel_rfl) (fun _ _ _ h => h) rfl hX (fun W hW => ld_keep 27 _ rfl w3.heap.size 0 rfl _ _ HRC.out (hW.block _ L5.out.lt (by simp)) Try.underlying27 rfl (size_rx C6.out)) ?_; simp only [Act.put, qA, qB, qC]
   refine sg_actB (i := 19) (o := ⟨some 25, _, _, _, _, _⟩) rfl (by kernel_rfl) rfl hX (fun K hK => ?_)
   go_wp2_with fail
   have hst := lStep_any tx HN4.out HG.out (97 : UInt8) cs wE (RxD.mono (D3.out.stay fun k hk => absurd hk id) fun k hk => absurd hk id)
   rw [show bv (97 : UInt8) = Value.int .u8 97 from rfl, show (97 : UInt8).toNat = 97 from rfl, HST.out] at hst
   refine hst.mono ?_
   clear hst
   rintro e wF ⟨ds, rfl, hds, hb⟩
   obtain ⟨vd, rfl, _⟩ := hds.row
   clear hds
   go_wp2_with fail
   refine hK _ _ (grown_then hX hb) ?_
   clear hK K
   (try simp only [Act.put, qA, qB, qC])
   replace hX := grown_then hX hb
   have XwF := Lib.hid hb
   clear hb
   refine sg_take (i := 20) (oi := ⟨some 26, _, _, _, _, _⟩) (v := .int .i64 2) rfl (by kernel_rfl) (by kernel_rfl) (by kernel_rfl) (fun _ _ _ h => h) rfl hX (ex_kind (.tmp 25) rfl 2 _ rfl) ?_; simp only [Act.put, qA, qB, qC]
   refine sg_take (i := 21) (oi := ⟨some 27, _, _, _, _, _⟩) (v := ?_) rfl (by kernel_rfl) (by kernel_rfl) (by kernel_rfl) (fun _ _ _ h => h) rfl hX ?_ ?_; rotate_left; (intro W hW; go_simp; try with_reducible rfl); simp only [Act.put, qA, qB, qC]
   refine sg_take (i := 22) (oi := ⟨some 28, _, _, _, _, _⟩) (v := ?_) rfl (by kernel_rfl) (by kernel_rfl) (by kernel_rfl) (fun _ _ _ h => h) rfl hX ?_ ?_; rotate_left; (intro W hW; go_simp; try with_reducible rfl); simp only [Act.put, qA, qB, qC]
   refine sg_take (i := 23) (oi := ⟨some 29, _, _, _, _, _⟩) (v := ?_) rfl (by kernel_rfl) (by kernel_rfl) (by kernel_rfl) (fun _ _ _ h => h) rfl hX ?_ ?_; rotate_left; (intro W hW; go_simp; try with_reducible rfl); simp only [Act.put, qA, qB, qC]
   refine sg_take (i := 24) (oi := ⟨some 30, _, _, _, _, _⟩) (v := .agg cs.toArray) rfl (by kernel_rfl) (by kernel_rfl) (by kernel_rfl) (fun _ _ _ h => h) rfl hX (fun W hW => ld_keep 27 _ rfl w3.heap.size 0 rfl _ _ HRC.out (hW.block _ L5.out.lt (by simp)) Try.underlying27 rfl (size_rx C6.out)) ?_; simp only [Act.put, qA, qB, qC]
   refine sg_take (i := 26) (oi := ⟨some 32, _, _, _, _, _⟩) (v := ?_) rfl (by kernel_rfl) (by kernel_rfl) (by kernel_rfl) (fun _ _ _ h => h) rfl hX ?_ ?_; rotate_left; (intro W hW; go_simp; try with_reducible rfl); simp only [Act.put, qA, qB, qC]
   refine sg_take (i := 27) (oi := ⟨some 33, _, _, _, _, _⟩) (v := .agg (wds q).toArray) rfl (by kernel_rfl) (by kernel_rfl) (by kernel_rfl) (fun _ _ _ h => h) rfl hX (fun W hW => ld_keep 24 _ rfl w3.heap.size 1 rfl _ _ HRQ.out (hW.block _ L5.out.lt (by simp)) Try.underlying24 rfl (size_set q)) ?_; simp only [Act.put, qA, qB, qC]
   refine sg_actB (i := 25) (o := ⟨some 31, _, _, _, _, _⟩) rfl (by kernel_rfl) rfl hX (fun K hK => ?_)
   go_wp2_with fail
   refine (lFirst_any tx HN3.out cs wF (RxD.mono (D3.out.stay fun k hk => absurd hk id) fun k hk => absurd hk id)).mono ?_
   rintro e wG ⟨rfl, hb⟩
   rw [HFI.out]
   go_wp2_with fail
   refine hK _ _ (grown_then hX hb) ?_
   clear hK K
   (try simp only [Act.put, qA, qB, qC])
   replace hX := grown_then hX hb
   have XwG := Lib.hid hb
   clear hb
   refine sg_take (i := 28) (oi := ⟨some 34, _, _, _, _, _⟩) (v := .bool true) rfl (by kernel_rfl) (by kernel_rfl) (by kernel_rfl) (fun _ _ _ h => h) rfl hX (eq_is (eqS_self _) 24 22 (.tmp 31) (.tmp 33) 24 rfl guard_setB Try.underlying24 Try.underlying22 size_u64B rfl rfl) ?_; simp only [Act.put, qA, qB, qC]
   refine sg_take (i := 29) (oi := ⟨some 35, _, _, _, _, _⟩) (v := ?_) rfl (by kernel_rfl) (by kernel_rfl) (by kernel_rfl) (fun _ _ _ h => h) rfl hX ?_ ?_; rotate_left; (intro W hW; go_simp; try with_reducible rfl); simp only [Act.put, qA, qB, qC]
   refine sg_take (i := 30) (oi := ⟨some 0, _, _, _, _, _⟩) (v := ?_) rfl (by kernel_rfl) (by kernel_rfl) (by kernel_rfl) (fun _ _ _ h => h) rfl hX ?_ ?_; rotate_left; (intro W hW; go_simp; try with_reducible rfl); simp only [Act.put, qA, qB, qC]
   refine wpAnyH_done (by kernel_rfl) ?_ _
   have BZ := Lib.hid (B5.out.trans (Below.mono (show Below w5.heap.size w5 wG from ⟨hX.os, hX.tape, hX.output, hX.size, fun k hk => hX.block k hk (by simp)⟩) B5.out.size))
   clear hX
   go_wp2_with fail
   go_ret
   exact ⟨rfl, BZ.out⟩
  ·refine wp_mark 28 5 _ rfl Try.underlying28 Try.underlying5 wd.heap.size 2 2 (bvs [UInt8.ofNat 97, UInt8.ofNat 97]) rfl Yw7.out rfl (by omega) ?_
   intro w6 hr9 hg9
   refine hK _ _ (grown_mark hX hg9 HSZ.out) ?_
   clear hK K
   (try simp only [Act.put, qA, qB, qC])
   replace hX := grown_mark hX hg9 HSZ.out
   have Rw6 := Lib.hid hr9
   have Gw6 := Lib.hid hg9
   clear hr9 hg9
   refine sg_actB (i := 1) (o := ⟨some 7, _, _, _, _, _⟩) rfl (by kernel_rfl) rfl hX (fun K hK => ?_)
   go_wp2_with fail
   refine (refStar_any tx cs w6 (D := fun _ => False) (fun k hk => absurd hk id) (D3.out.stay fun k hk => absurd hk id) (by have := HN.out; omega) HG.out).mono ?_
   rintro e w8 ⟨es, rfl, hes, hb⟩
   go_wp2_with fail
   refine hK _ _ (grown_then hX hb) ?_
   clear hK K
   (try simp only [Act.put, qA, qB, qC])
   replace hX := grown_then hX hb
   have Xw8 := Lib.hid hb
   have Ew8 := Lib.hid hes
   clear hes hb
   have V8 := Lib.hid (show RxV w8.heap.size w8 es (starT tx) from RxD.mono Ew8.out fun k hk => hk.2)
   have Rw8 := Lib.hid (Rw6.out.below Xw8.out)
   refine sg_actB (i := 4) (o := ⟨some 10, _, _, _, _, _⟩) rfl (by kernel_rfl) rfl hX (fun K hK => ?_)
   go_wp2_with fail
   refine (lIn_any (starT tx) HN2.out [UInt8.ofNat 97, UInt8.ofNat 97] (by decide) _ es w8 Rw8.out V8.out).mono ?_
   rintro e w9 ⟨rfl, hb⟩
   rw [HI1.out]
   go_wp2_with fail
   refine hK _ _ (grown_then hX hb) ?_
   clear hK K
   (try simp only [Act.put, qA, qB, qC])
   replace hX := grown_then hX hb
   have Xw9 := Lib.hid hb
   clear hb
   have HS9 := Lib.hid (show w5.heap.size ≤ w9.heap.size from hX.size)
   refine sg_take (i := 5) (oi := ⟨some 11, _, _, _, _, _⟩) (v := ?_) rfl (by kernel_rfl) (by kernel_rfl) (by kernel_rfl) (fun _ _ _ h => h) rfl hX ?_ ?_; rotate_left; (intro W hW; go_simp; try with_reducible rfl); simp only [Act.put, qA, qB, qC]
   refine sg_take (i := 6) (oi := ⟨some 12, _, _, _, _, _⟩) (v := .agg cs.toArray) rfl (by kernel_rfl) (by kernel_rfl) (by kernel_rfl) (fun _ _ _ h => h) rfl hX (fun W hW => ld_keep 27 _ rfl w3.heap.size 0 rfl _ _ HRC.out (hW.block _ L5.out.lt (by simp)) Try.underlying27 rfl (size_rx C6.out)) ?_; simp only [Act.put, qA, qB, qC]
   refine sg_actB (i := 7) (o := ⟨some 13, _, _, _, _, _⟩) rfl (by kernel_rfl) rfl hX (fun K hK => ?_)
   go_wp2_with fail
   obtain ⟨wA, hw9⟩ : ∃ v, v = w9.alloc (.cells #[.int .u8 97, .int .u8 97] 5) := ⟨_, rfl⟩
   have XwA := Lib.hid (show Below w9.heap.size w9 wA by rw [hw9]; exact (Below.refl _ _).alloc (Nat.le_refl _) _)
   have YwA := Lib.hid (show Blk wA w9.heap.size 5 (bvs [UInt8.ofNat 97, UInt8.ofNat 97]) by rw [hw9]; exact blk_two w9 97 97 (by omega) (by omega))
   rw [← hw9]
   clear hw9
   refine hK _ _ (grown_then hX XwA.out) ?_
   clear hK K
   (try simp only [Act.put, qA, qB, qC])
   replace hX := grown_then hX XwA.out
   refine sg_actB (i := 8) (o := ⟨some 14, _, _, _, _, _⟩) rfl (by kernel_rfl) rfl hX (fun K hK => ?_)
   refine wp_mark 28 5 _ rfl Try.underlying28 Try.underlying5 w9.heap.size 2 2 (bvs [UInt8.ofNat 97, UInt8.ofNat 97]) rfl YwA.out rfl (by omega) ?_
   intro wB hr9 hg9
   refine hK _ _ (grown_mark hX hg9 HS9.out) ?_
   clear hK K
   (try simp only [Act.put, qA, qB, qC])
   replace hX := grown_mark hX hg9 HS9.out
   have RwB := Lib.hid hr9
   have GwB := Lib.hid hg9
   clear hr9 hg9
   refine sg_actB (i := 9) (o := ⟨some 15, _, _, _, _, _⟩) rfl (by kernel_rfl) rfl hX (fun K hK => ?_)
   go_wp2_with fail
   refine (lIn_any tx HN3.out [UInt8.ofNat 97, UInt8.ofNat 97] (by decide) _ cs wB RwB.out (RxD.mono (D3.out.stay fun k hk => absurd hk id) fun k hk => absurd hk id)).mono ?_
   rintro e wC ⟨rfl, hb⟩
   rw [HI2.out]
   go_wp2_with fail
   refine hK _ _ (grown_then hX hb) ?_
   clear hK K
   (try simp only [Act.put, qA, qB, qC])
   replace hX := grown_then hX hb
   have XwC := Lib.hid hb
   clear hb
   clear V8 Ew8
   refine sg_take (i := 10) (oi := ⟨some 16, _, _, _, _, _⟩) (v := ?_) rfl (by kernel_rfl) (by kernel_rfl) (by kernel_rfl) (fun _ _ _ h => h) rfl hX ?_ ?_; rotate_left; (intro W hW; go_simp; try with_reducible rfl); simp only [Act.put, qA, qB, qC]
   refine sg_take (i := 11) (oi := ⟨some 17, _, _, _, _, _⟩) (v := ?_) rfl (by kernel_rfl) (by kernel_rfl) (by kernel_rfl) (fun _ _ _ h => h) rfl hX ?_ ?_; rotate_left; (intro W hW; go_simp; try with_reducible rfl); simp only [Act.put, qA, qB, qC]
   refine sg_take (i := 12) (oi := ⟨some 18, _, _, _, _, _⟩) (v := ?_) rfl (by kernel_rfl) (by kernel_rfl) (by kernel_rfl) (fun _ _ _ h => h) rfl hX ?_ ?_; rotate_left; (intro W hW; go_simp; try with_reducible rfl); simp only [Act.put, qA, qB, qC]
   refine sg_take (i := 13) (oi := ⟨some 19, _, _, _, _, _⟩) (v := .agg cs.toArray) rfl (by kernel_rfl) (by kernel_rfl) (by kernel_rfl) (fun _ _ _ h => h) rfl hX (fun W hW => ld_keep 27 _ rfl w3.heap.size 0 rfl _ _ HRC.out (hW.block _ L5.out.lt (by simp)) Try.underlying27 rfl (size_rx C6.out)) ?_; simp only [Act.put, qA, qB, qC]
   refine sg_actB (i := 14) (o := ⟨some 20, _, _, _, _, _⟩) rfl (by kernel_rfl) rfl hX (fun K hK => ?_)
   go_wp2_with fail
   refine (refStar_any tx cs wC (D := fun _ => False) (fun k hk => absurd hk id) (D3.out.stay fun k hk => absurd hk id) (by have := HN.out; omega) HG.out).mono ?_
   rintro e wD ⟨es, rfl, hes, hb⟩
   go_wp2_with fail
   refine hK _ _ (grown_then hX hb) ?_
   clear hK K
   (try simp only [Act.put, qA, qB, qC])
   replace hX := grown_then hX hb
   have XwD := Lib.hid hb
   have EwD := Lib.hid hes
   clear hes hb
   refine sg_actB (i := 15) (o := ⟨some 21, _, _, _, _, _⟩) rfl (by kernel_rfl) rfl hX (fun K hK => ?_)
   go_wp2_with fail
   refine (lNull_any (starT tx) _ wD (RxD.mono EwD.out fun k hk => hk.2)).mono ?_
   rintro e wE ⟨rfl, hb⟩
   rw [HNU.out]
   go_wp2_with fail
   refine hK _ _ (grown_then hX hb) ?_
   clear hK K
   (try simp only [Act.put, qA, qB, qC])
   replace hX := grown_then hX hb
   have XwE := Lib.hid hb
   clear hb
   refine sg_take (i := 16) (oi := ⟨some 22, _, _, _, _, _⟩) (v := ?_) rfl (by kernel_rfl) (by kernel_rfl) (by kernel_rfl) (fun _ _ _ h => h) rfl hX ?_ ?_; rotate_left; (intro W hW; go_simp; try with_reducible rfl); simp only [Act.put, qA, qB, qC]
   refine sg_take (i := 17) (oi := ⟨some 23, _, _, _, _, _⟩) (v := ?_) rfl (by kernel_rfl) (by kernel_rfl) (by kernel_rfl) (fun _ _ _ h => h) rfl hX ?_ ?_; rotate_left; (intro W hW; go_simp; try with_reducible rfl); simp only [Act.put, qA, qB, qC]
   refine sg_take (i := 18) (oi := ⟨some 24, _, _, _, _, _⟩) (v := .agg cs.toArray) rfl (by kernel_rfl) (by kernel_rfl) (by kernel_rfl) (fun _ _ _ h => h) rfl hX (fun W hW => ld_keep 27 _ rfl w3.heap.size 0 rfl _ _ HRC.out (hW.block _ L5.out.lt (by simp)) Try.underlying27 rfl (size_rx C6.out)) ?_; simp only [Act.put, qA, qB, qC]
   refine sg_actB (i := 19) (o := ⟨some 25, _, _, _, _, _⟩) rfl (by kernel_rfl) rfl hX (fun K hK => ?_)
   go_wp2_with fail
   have hst := lStep_any tx HN4.out HG.out (97 : UInt8) cs wE (RxD.mono (D3.out.stay fun k hk => absurd hk id) fun k hk => absurd hk id)
   rw [show bv (97 : UInt8) = Value.int .u8 97 from rfl, show (97 : UInt8).toNat = 97 from rfl, HST.out] at hst
   refine hst.mono ?_
   clear hst
   rintro e wF ⟨ds, rfl, hds, hb⟩
   obtain ⟨vd, rfl, _⟩ := hds.row
   clear hds
   go_wp2_with fail
   refine hK _ _ (grown_then hX hb) ?_
   clear hK K
   (try simp only [Act.put, qA, qB, qC])
   replace hX := grown_then hX hb
   have XwF := Lib.hid hb
   clear hb
   refine sg_take (i := 20) (oi := ⟨some 26, _, _, _, _, _⟩) (v := .int .i64 2) rfl (by kernel_rfl) (by kernel_rfl) (by kernel_rfl) (fun _ _ _ h => h) rfl hX (ex_kind (.tmp 25) rfl 2 _ rfl) ?_; simp only [Act.put, qA, qB, qC]
   refine sg_take (i := 21) (oi := ⟨some 27, _, _, _, _, _⟩) (v := ?_) rfl (by kernel_rfl) (by kernel_rfl) (by kernel_rfl) (fun _ _ _ h => h) rfl hX ?_ ?_; rotate_left; (intro W hW; go_simp; try with_reducible rfl); simp only [Act.put, qA, qB, qC]
   refine sg_take (i := 22) (oi := ⟨some 28, _, _, _, _, _⟩) (v := ?_) rfl (by kernel_rfl) (by kernel_rfl) (by kernel_rfl) (fun _ _ _ h => h) rfl hX ?_ ?_; rotate_left; (intro W hW; go_simp; try with_reducible rfl); simp only [Act.put, qA, qB, qC]
   refine sg_take (i := 23) (oi := ⟨some 29, _, _, _, _, _⟩) (v := ?_) rfl (by kernel_rfl) (by kernel_rfl) (by kernel_rfl) (fun _ _ _ h => h) rfl hX ?_ ?_; rotate_left; (intro W hW; go_simp; try with_reducible rfl); simp only [Act.put, qA, qB, qC]
   refine sg_take (i := 24) (oi := ⟨some 30, _, _, _, _, _⟩) (v := .agg cs.toArray) rfl (by kernel_rfl) (by kernel_rfl) (by kernel_rfl) (fun _ _ _ h => h) rfl hX (fun W hW => ld_keep 27 _ rfl w3.heap.size 0 rfl _ _ HRC.out (hW.block _ L5.out.lt (by simp)) Try.underlying27 rfl (size_rx C6.out)) ?_; simp only [Act.put, qA, qB, qC]
   refine sg_take (i := 26) (oi := ⟨some 32, _, _, _, _, _⟩) (v := ?_) rfl (by kernel_rfl) (by kernel_rfl) (by kernel_rfl) (fun _ _ _ h => h) rfl hX ?_ ?_; rotate_left; (intro W hW; go_simp; try with_reducible rfl); simp only [Act.put, qA, qB, qC]
   refine sg_take (i := 27) (oi := ⟨some 33, _, _, _, _, _⟩) (v := .agg (wds q).toArray) rfl (by kernel_rfl) (by kernel_rfl) (by kernel_rfl) (fun _ _ _ h => h) rfl hX (fun W hW => ld_keep 24 _ rfl w3.heap.size 1 rfl _ _ HRQ.out (hW.block _ L5.out.lt (by simp)) Try.underlying24 rfl (size_set q)) ?_; simp only [Act.put, qA, qB, qC]
   refine sg_actB (i := 25) (o := ⟨some 31, _, _, _, _, _⟩) rfl (by kernel_rfl) rfl hX (fun K hK => ?_)
   go_wp2_with fail
   refine (lFirst_any tx HN3.out cs wF (RxD.mono (D3.out.stay fun k hk => absurd hk id) fun k hk => absurd hk id)).mono ?_
   rintro e wG ⟨rfl, hb⟩
   rw [HFI.out]
   go_wp2_with fail
   refine hK _ _ (grown_then hX hb) ?_
   clear hK K
   (try simp only [Act.put, qA, qB, qC])
   replace hX := grown_then hX hb
   have XwG := Lib.hid hb
   clear hb
   refine sg_take (i := 28) (oi := ⟨some 34, _, _, _, _, _⟩) (v := .bool true) rfl (by kernel_rfl) (by kernel_rfl) (by kernel_rfl) (fun _ _ _ h => h) rfl hX (eq_is (eqS_self _) 24 22 (.tmp 31) (.tmp 33) 24 rfl guard_setB Try.underlying24 Try.underlying22 size_u64B rfl rfl) ?_; simp only [Act.put, qA, qB, qC]
   refine sg_take (i := 29) (oi := ⟨some 35, _, _, _, _, _⟩) (v := ?_) rfl (by kernel_rfl) (by kernel_rfl) (by kernel_rfl) (fun _ _ _ h => h) rfl hX ?_ ?_; rotate_left; (intro W hW; go_simp; try with_reducible rfl); simp only [Act.put, qA, qB, qC]
   refine sg_take (i := 30) (oi := ⟨some 0, _, _, _, _, _⟩) (v := ?_) rfl (by kernel_rfl) (by kernel_rfl) (by kernel_rfl) (fun _ _ _ h => h) rfl hX ?_ ?_; rotate_left; (intro W hW; go_simp; try with_reducible rfl); simp only [Act.put, qA, qB, qC]
   refine wpAnyH_done (by kernel_rfl) ?_ _
   have BZ := Lib.hid (B5.out.trans (Below.mono (show Below w5.heap.size w5 wG from ⟨hX.os, hX.tape, hX.output, hX.size, fun k hk => hX.block k hk (by simp)⟩) B5.out.size))
   clear hX
   go_wp2_with fail
   go_ret
   exact ⟨rfl, BZ.out⟩
end Go.Proofs.Ytopnpdobcagcgaa
