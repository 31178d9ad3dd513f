/-
  Texts of this proof, put together: WoA, WoT. No statement is proved here.
-/
import Derived.Test.YtaakdebcagdfgaaZX
import Derived.Test.YtaakdebcagdfgaaZP
import Derived.Test.YtaakdebcagdfgaaZK
import Derived.Test.YtaakdebcagdfgaaZD
import Derived.Test.YtaakdebcagdfgaaZW
import Derived.Test.YtaakdebcagdfgaaZU
import Derived.Test.YtaakdebcagdfgaaZJ
import Derived.Test.YtaakdebcagdfgaaZF
namespace Go.Proofs.Ytaakdebcagdfgaa
open Go.RowKit
set_option linter.unusedSimpArgs false
set_option linter.unusedVariables false
theorem oneEndW {H X : Nat → Nat → Nat → World → Prop} {G : Prop} (main : (∀ g b c w', H g b c w' → X g b c w') → G) (fin : ∀ g b c w', H g b c w' → X g b c w') : G := main fin
abbrev nilS : Value := .slice none 0 0
theorem inf_seS : (Try.prog.info? 65).map (·.size) = some 262 := by kernel_rfl
theorem inf_seZ : (Try.prog.info? 65).map (fun i => i.zero) = some (some (.agg (seC (dcl (ctab [] 0) nilS nilS) nilS 0 nilS nilS).toArray)) := by kernel_rfl
theorem built_se (parts : List (Nat × Value)) : Try.prog.built 65 parts = Instr.fill (fun i => (#[(0, 258), (258, 1), (259, 1), (260, 1), (261, 1)] : Array (Nat × Nat))[i]?) (seC (dcl (ctab [] 0) nilS nilS) nilS 0 nilS nilS).toArray parts := by kernel_rfl
theorem built_se0 {cs : List Value} (hc : cs.length = 258) : Try.prog.built 65 [(0, .agg cs.toArray)] = some (seC cs nilS 0 nilS nilS).toArray := by
 rw [built_se]
 obtain ⟨d0, hd0⟩ : ∃ d0, d0 = dcl (ctab [] 0) nilS nilS := ⟨_, rfl⟩
 have h1 : d0.length = 258 := by rw [hd0]; exact dcl_len (ctab_length _ _)
 rw [← hd0]
 have h2 : (seC d0 nilS 0 nilS nilS).length = 262 := seC_len h1
 obtain ⟨z0, hz0⟩ : ∃ z, z = seC d0 nilS 0 nilS nilS := ⟨_, rfl⟩
 rw [← hz0] at h2 ⊢
 have e : Instr.fill (fun i => (#[(0, 258), (258, 1), (259, 1), (260, 1), (261, 1)] : Array (Nat × Nat))[i]?) z0.toArray [(0, .agg cs.toArray)] = some ((cs.zipIdx 0).foldl (fun c (x : Value × Nat) => c.setIfInBounds (0 + x.2) x.1) z0.toArray) := by
  simp only [Instr.fill, Value.cells]
  rw [show (#[(0, 258), (258, 1), (259, 1), (260, 1), (261, 1)] : Array (Nat × Nat))[0]? = some (0, 258) from rfl]
  simp [hc, h2]
 rw [e]
 congr 1
 obtain ⟨hsz, hk⟩ := Great.foldl_set 0 cs 0 z0.toArray
 apply Array.ext_getElem?
 intro k
 rw [hk k]
 have hz : z0.toArray.size = 262 := by simp [h2]
 by_cases hlt : k < 258
 ·rw [if_pos ⟨by omega, by omega, by omega⟩]
  have := seC_low (cs := cs) (lv := nilS) (uv := nilS) (ov := nilS) (m := 0) hc hlt
  simpa using this.symm
 ·rw [if_neg (by omega)]
  obtain ⟨i, rfl⟩ : ∃ i, k = 258 + i := ⟨k - 258, by omega⟩
  have e1 := seC_top (cs := cs) (lv := nilS) (uv := nilS) (ov := nilS) (m := 0) hc i
  have e2 := seC_top (cs := d0) (lv := nilS) (uv := nilS) (ov := nilS) (m := 0) h1 i
  rw [← hz0] at e2
  rw [List.getElem?_toArray, List.getElem?_toArray, e1, e2]
theorem seC_setL {cs : List Value} {lv uv ov x : Value} {m : Nat} (h : cs.length = 258) : (seC cs lv m uv ov).set 258 x = seC cs x m uv ov := by
 unfold seC
 rw [List.set_append_right _ _ (by rw [h]; decide), h]
 rfl
theorem seC_setM {cs : List Value} {lv uv ov : Value} {m k : Nat} (h : cs.length = 258) : (seC cs lv m uv ov).set 259 (.int .i64 (k : Int)) = seC cs lv k uv ov := by
 unfold seC
 rw [List.set_append_right _ _ (by rw [h]; decide), h]
 rfl
theorem fill_sl {cs : List Value} {lv uv ov : Value} {m : Nat} {A : Option Addr} {n c : Nat} (hc : cs.length = 258) : Instr.fill (fun i => (#[(0, 258), (258, 1), (259, 1), (260, 1), (261, 1)] : Array (Nat × Nat))[i]?) (seC cs lv m uv ov).toArray [(1, .slice A n c)] = some (seC cs (.slice A n c) m uv ov).toArray := by
 have h1 : (seC cs lv m uv ov).length = 262 := seC_len hc
 obtain ⟨d, hd⟩ : ∃ d, d = seC cs lv m uv ov := ⟨_, rfl⟩
 rw [← hd] at h1
 have h2 : d.set 258 (.slice A n c) = seC cs (.slice A n c) m uv ov := by rw [hd]; exact seC_setL hc
 rw [← hd, ← h2]
 simp only [Instr.fill, Value.cells]
 rw [show (#[(0, 258), (258, 1), (259, 1), (260, 1), (261, 1)] : Array (Nat × Nat))[1]? = some (258, 1) from rfl]
 simp [h1, List.zipIdx]
theorem fill_sm {cs : List Value} {lv uv ov : Value} {m k : Nat} (hc : cs.length = 258) : Instr.fill (fun i => (#[(0, 258), (258, 1), (259, 1), (260, 1), (261, 1)] : Array (Nat × Nat))[i]?) (seC cs lv m uv ov).toArray [(2, .int .i64 (k : Int))] = some (seC cs lv k uv ov).toArray := by
 have h1 : (seC cs lv m uv ov).length = 262 := seC_len hc
 obtain ⟨d, hd⟩ : ∃ d, d = seC cs lv m uv ov := ⟨_, rfl⟩
 rw [← hd] at h1
 have h2 : d.set 259 (.int .i64 (k : Int)) = seC cs lv k uv ov := by rw [hd]; exact seC_setM hc
 rw [← hd, ← h2]
 simp only [Instr.fill, Value.cells]
 rw [show (#[(0, 258), (258, 1), (259, 1), (260, 1), (261, 1)] : Array (Nat × Nat))[2]? = some (259, 1) from rfl]
 simp [h1, List.zipIdx]
theorem built_se3 {cs : List Value} {A : Option Addr} {n c k : Nat} (hc : cs.length = 258) : Try.prog.built 65 [(0, .agg cs.toArray), (1, .slice A n c), (2, .int .i64 (k : Int))] = some (seC cs (.slice A n c) k nilS nilS).toArray := by
 rw [built_se, fill_cons, ← built_se, built_se0 hc, Option.bind_some, fill_cons, fill_sl hc, Option.bind_some]
 exact fill_sm hc
theorem ex_bldS {ev : Operand → Value} {o : Oper} (x y z : Operand) (ho : o.op = .build 65 #[(0, x), (1, y), (2, z)]) {u v t : Value} (hx : ev x = u) (hy : ev y = v) (hz : ev z = t) {d : List Value} (h : Try.prog.built 65 [(0, u), (1, v), (2, t)] = some d.toArray) (W : World) : (execOp ev o).run Try.prog W = .ok (.value (.agg d.toArray)) W := by
 have h2 : Try.prog.built 65 ((#[(0, x), (1, y), (2, z)] : Array (Nat × Operand)).map fun (i, x) => (i, ev x)).toList = some d.toArray := by simpa [hx, hy, hz] using h
 unfold execOp
 simp only [ho, Sem.run_bind, run_build W 65 _ d.toArray h2, Result.andThen_ok, Sem.run_pure]
theorem seC_one {cs : List Value} {A : Option Addr} {n c m : Nat} (h : cs.all (·.oneCell') = true) : (seC cs (.slice A n c) m nilS nilS).all (·.oneCell') = true := by
 unfold seC
 rw [List.all_append, h]
 rfl
/-! ### where the tables lie -/
theorem bvs_nobool (cl : List UInt8) : ∀ v ∈ bvs cl, ∀ b, v ≠ .bool b := fun v hv b e => by
 obtain ⟨x, _, rfl⟩ := List.mem_map.1 hv
 cases e
theorem seC_nobool {cl : List UInt8} {A A' B : Option Addr} {n c n' c' k l m : Nat} : ∀ v ∈ seC (dcl cl (.slice A n c) (.slice A' n' c')) (.slice B k l) m nilS nilS, ∀ b, v ≠ .bool b := fun v hv b e => by
 unfold seC dcl at hv
 rcases List.mem_append.1 hv with hv | hv
 ·rcases List.mem_append.1 hv with hv | hv
  ·exact bvs_nobool cl v hv b e
  ·subst e
   simp at hv
 ·subst e
  simp at hv
theorem canV_ne {w : World} {D : Dm} {n N bc g : Nat} {t : TypeId} {cl : List UInt8} {A A' B : Option Addr} {x c x' c' k l m : Nat} (hl : cl.length = 256) (hb : Blk w g t (seC (dcl cl (.slice A x c) (.slice A' x' c')) (.slice B k l) m nilS nilS)) (h : CanV w D n N bc 0) (hN : 0 < N) (hn : 0 < n) :
  bc ≠ g ∧ ∀ (b o : Nat) (y : Bool), w.cell? ⟨b, o, none⟩ = some (.bool y) → b ≠ g := by
 refine ⟨fun e => ?_, fun b o y hc e => ?_⟩
 ·obtain ⟨b, o, c2, hc, _, _⟩ := h.2 0 hN
  rw [e, hb.cell (0 + 0), seC_low (dcl_len hl) (by omega), dcl_cl hl (by omega)] at hc
  obtain ⟨y, hy⟩ : ∃ y, cl[0]? = some y := ⟨_, List.getElem?_eq_getElem (by rw [hl]; decide)⟩
  rw [bvs_get _ _ _ hy] at hc
  cases hc
 ·rw [e, hb.cell o] at hc
  exact seC_nobool _ (List.mem_of_getElem? hc) y rfl
theorem canV_keep {w V : World} {D : Dm} {n N bc g : Nat} (h : CanV w D n N bc 0) (hn : 0 < n) (h1 : bc ≠ g) (h2 : ∀ (b o : Nat) (y : Bool), w.cell? ⟨b, o, none⟩ = some (.bool y) → b ≠ g) (hs : w.heap.size ≤ V.heap.size) (hV : ∀ k, k < w.heap.size → k ≠ g → V.heap[k]? = w.heap[k]?) : CanV V D n N bc 0 := by
 refine ⟨Nat.lt_of_lt_of_le h.1 hs, fun j hj => ?_⟩
 obtain ⟨b, o, c, hc, hb, hce⟩ := h.2 j hj
 have hbg : b ≠ g := h2 b (o + 0) _ (hce 0 hn)
 exact ⟨b, o, c, (World.cell?_of_block (hV bc h.1 h1)).trans hc, Nat.lt_of_lt_of_le hb hs, fun t ht => (World.cell?_of_block (hV b hb hbg)).trans (hce t ht)⟩
theorem dr_keep {w V : World} {cs : List Value} {D : Dm} {n kd bn on cn be oe ce : Nat} (h : Dr w cs D n kd bn on cn be oe ce) (hs : w.heap.size ≤ V.heap.size) (hV : ∀ k, k < w.heap.size → V.heap[k]? = w.heap[k]?) : Dr V cs D n kd bn on cn be oe ce := by
 refine ⟨h.cs, h.hl, Nat.lt_of_lt_of_le h.hbn hs, Nat.lt_of_lt_of_le h.hbe hs, fun s hs2 => ?_, fun s hs2 => (World.cell?_of_block (hV be h.hbe)).trans (h.ends s hs2)⟩
 obtain ⟨b, o, cr, hc, hb, hr⟩ := h.row s hs2
 refine ⟨b, o, cr, (World.cell?_of_block (hV bn h.hbn)).trans hc, Nat.lt_of_lt_of_le hb hs, ?_⟩
 obtain ⟨A, cap, e, h1, h2, h3, h4⟩ := hr
 refine ⟨A, cap, e, h1, h2, h3, fun hne => ?_⟩
 obtain ⟨b2, o2, hA, hb2, hcell⟩ := h4 hne
 injection e with e1 _ _
 rw [hA] at e1
 injection e1 with e1
 injection e1 with e1 e3
 subst e1 e3
 exact ⟨b, o, hA, Nat.lt_of_lt_of_le hb hs, fun i u hu => (World.cell?_of_block (hV b hb)).trans (hcell i u hu)⟩
theorem wrdW_no (D : Dm) {n m : Int} (h : ¬ (0 ≤ n ∧ n ≤ 200 ∧ 1 ≤ m)) : wrdW D n m = [] := by
 unfold wrdW
 rw [if_neg h]
theorem wrdW_yes (D : Dm) {n m : Nat} (hn : n ≤ 200) (hm : 1 ≤ m) (hm2 : m ≤ 1000) : wrdW D (n : Int) (m : Int) = (wrds (accD D 0) n).take m := by
 unfold wrdW
 rw [if_pos ⟨by omega, by omega, by omega⟩, Int.toNat_natCast, Int.toNat_natCast, Nat.min_eq_left hm2]
set_option maxHeartbeats 16000000 in
set_option maxRecDepth 1000000 in
theorem wWords_any (D : Dm) (cs : List Value) (n1 m1 : Int) (w : World) (hm0 : m1 ≤ 1000) (hv : DfaV w cs D) (hm : MayD D) (hac : AllC D) :
  Calls Try.prog 16 #[.agg cs.toArray, .int .i64 n1, .int .i64 m1] w fun e w' => ∃ v, e = .returned v ∧ WrdsE w' v (wrdW D n1 m1) ∧ Below w.heap.size w w' := by
 by_cases h : 0 ≤ n1 ∧ n1 ≤ 200 ∧ 1 ≤ m1
 ·obtain ⟨n0, hn0⟩ : ∃ n0 : Nat, n1 = (n0 : Int) := ⟨n1.toNat, by omega⟩
  obtain ⟨m0, hm00⟩ : ∃ m0 : Nat, m1 = (m0 : Int) := ⟨m1.toNat, by omega⟩
  subst hn0 hm00
  rw [wrdW_yes D (n := n0) (m := m0) (by omega) (by omega) (by omega)]
  have V0 := qH hv
  have HM := qH hm
  have HAC := qH hac
  have HDS := qH hv.size
  obtain ⟨n, hn⟩ : ∃ n, n = D.next.length := ⟨_, rfl⟩
  obtain ⟨kd, hkd⟩ : ∃ k, k = clsA D.cl := ⟨_, rfl⟩
  obtain ⟨bn, on, cn, be, oe, ce, hdr⟩ := dr_of hv hm hn hkd
  have HR := qH hdr
  have HN := qH hn
  have HKD := qH hkd
  have HL := qH hdr.hl
  have HCS := qH hdr.cs
  have HC8 := qH (show cs.length = 258 by rw [hdr.cs]; exact dcl_len HL.out)
  have HONE := qH (show cs.all (·.oneCell') = true by rw [hdr.cs]; exact dcl_one)
  have HNP := qH (show 0 < n by rw [hn]; exact hm.pos)
  have HMY := qH (mayDB_yes hm)
  have HN0 := qH (show n0 ≤ 200 by omega)
  have HM1 := qH (show 1 ≤ m0 by omega)
  have HM0 := qH (show m0 ≤ 1000 by omega)
  have hmin : min (m0 : Int) 1000 = (m0 : Int) := by omega
  have q1 : ¬ ((m0 : Int) < 1) := by omega
  have q2 : ¬ ((n0 : Int) < 0) := by omega
  have q3 : ¬ ((200 : Int) < (n0 : Int)) := by omega
  obtain ⟨is, his, hsz⟩ := Option.map_eq_some_iff.1 inf_seZ
  obtain ⟨z0, hz0⟩ : ∃ z, z = seC (dcl (ctab [] 0) nilS nilS) nilS 0 nilS nilS := ⟨_, rfl⟩
  rw [← hz0] at hsz
  have HSZ := qH hsz
  have HZE := qH hz0
  have HZ0 := qH (show z0.length = 262 by rw [hz0]; exact seC_len (dcl_len (ctab_length _ _)))
  clear hv hm hac hn hkd hdr h hm0 hsz hz0
  go_enter Try.func16, Try.ntmps16
  go_wp2_with (first
   | ((with_reducible refine atDst 3 ?_); refine wpList_box rfl 28 _ rfl cs rfl (Below.refl w.heap.size w) (Nat.le_refl _) ?_; intro w1 hk1 hb1 hs1 _; have K1 := qH hk1; have B1 := qH hb1; clear hk1 hb1 hs1; (try simp only [Act.put, qA, qB, qC]))
   | ((with_reducible refine atDst 19 ?_); refine wpList_ldArr rfl 28 _ rfl w.heap.size rfl 28 _ _ K1.out Try.underlying28 rfl HDS.out ?_; (try simp only [Act.put, qA, qB, qC])))
  refine (mMay_any D cs w1 (V0.out.below B1.out)).mono ?_
  rintro e w2 ⟨rfl, hb⟩
  rw [HMY.out]
  have K2 := qH (K1.out.below hb K1.out.lt)
  have B2 := qH (B1.out.trans (hb.mono B1.out.size))
  clear hb
  go_wp2_with fail
  clear q1 q2 q3
  obtain ⟨H, hH⟩ : ∃ g, g = w2.heap.size := ⟨_, rfl⟩
  have HH := qH hH
  have HWH := qH (show w.heap.size < H by rw [hH]; exact K2.out.lt)
  clear hH
  apply oneEndW (H := fun g bc cc w' => Blk w' g 65 (seC cs (.slice (some ⟨bc, 0, none⟩) (n0 + 1) cc) m0 nilS nilS) ∧ CanV w' D n (n0 + 1) bc 0 ∧ H ≤ g ∧ Below H w2 w')
  case main =>
   intro fin
   have FIN := qH fin
   clear fin
   refine mc_start (fun V => Below H w2 V) (fun _ => True) 9 (by kernel_rfl) (fun wd hwd => ?_)
   have hX : Below H w2 wd := by rw [hwd]; exact (Below.refl _ _).drew
   have hY : True := trivial
   clear hwd
   have HS0 := qH (show H ≤ wd.heap.size by rw [HH.out]; exact hX.size)
   have VD := qH (V0.out.below (B2.out.trans (hX.mono (Nat.le_of_lt HWH.out))))
   have KV := qH (show ∀ V, Below H w2 V → Blk V w.heap.size 28 cs from fun V hV => K2.out.below hV HWH.out)
   refine mc_take (i := 0) (oi := ⟨some 23, _, _, _, _, _⟩) (v := .agg cs.toArray) rfl (by kernel_rfl) (by kernel_rfl) (by kernel_rfl) (fun _ _ _ h => h) rfl hX (fun V hV => ld_blk 28 (.tmp 3) rfl w.heap.size rfl 28 cs _ (KV.out V hV) (KV.out V hV).lt Try.underlying28 rfl HDS.out V (Below.refl _ _)) ?_; simp only [Act.put, qA, qB, qC]
   refine mc_take (i := 1) (oi := ⟨some 24, _, _, _, _, _⟩) (v := .agg cs.toArray) rfl (by kernel_rfl) (by kernel_rfl) (by kernel_rfl) (fun _ _ _ h => h) rfl hX (fun V hV => ld_blk 28 (.tmp 3) rfl w.heap.size rfl 28 cs _ (KV.out V hV) (KV.out V hV).lt Try.underlying28 rfl HDS.out V (Below.refl _ _)) ?_; simp only [Act.put, qA, qB, qC]
   refine mc_take (i := 2) (oi := ⟨some 25, _, _, _, _, _⟩) (v := ?_) rfl (by kernel_rfl) (by kernel_rfl) (by kernel_rfl) (fun _ _ _ h => h) rfl hX ?_ ?_; rotate_left; (intro W hW; go_simp; try with_reducible rfl); simp only [Act.put, qA, qB, qC]
   refine mc_take (i := 4) (oi := ⟨some 27, _, _, _, _, _⟩) (v := ?_) rfl (by kernel_rfl) (by kernel_rfl) (by kernel_rfl) (fun _ _ _ h => h) rfl hX ?_ ?_; rotate_left; (intro W hW; go_simp; try with_reducible rfl); simp only [Act.put, qA, qB, qC]
   refine mc_take (i := 5) (oi := ⟨some 28, _, _, _, _, _⟩) (v := ?_) rfl (by kernel_rfl) (by kernel_rfl) (by kernel_rfl) (fun _ _ _ h => h) rfl hX ?_ ?_; rotate_left; (intro W hW; go_simp; try with_reducible rfl); simp only [Act.put, qA, qB, qC]
   refine mc_two (i := 3) (j := 7) (oi := ⟨some 26, _, _, _, _, _⟩) (oj := ⟨some 7, _, _, _, _, _⟩) rfl rfl (by kernel_rfl) rfl rfl (fun K hK => ?_) (fun K hK => ?_)
   ·go_wp2_with fail
    refine (wLeft_any D cs n n0 wd VD.out HM.out HAC.out HN.out HN0.out).mono ?_
    rintro e wy ⟨bc, cc, rfl, hcan, hb⟩
    have hX2 := hX.trans (hb.mono HS0.out)
    have HS1 := qH (Nat.le_trans HS0.out hb.size)
    have CY := qH hcan
    clear hb hcan
    go_wp2_with fail
    refine hK _ _ hX2 trivial ?_
    clear hK K hX
    (try simp only [Act.put, qA, qB, qC])
    have hX := hX2
    clear hX2
    refine mc_take (i := 6) (oi := ⟨some 29, _, _, _, _, _⟩) (v := .agg (seC cs (.slice (some ⟨bc, 0, none⟩) (n0 + 1) cc) m0 nilS nilS).toArray) rfl (by kernel_rfl) (by kernel_rfl) (by kernel_rfl) (fun _ _ _ h => h) rfl hX (fun V _ => ex_bldS (.tmp 23) (.tmp 26) (.tmp 28) rfl rfl rfl rfl (built_se3 HC8.out) V) ?_; simp only [Act.put, qA, qB, qC]
    refine mc_actB (i := 7) (o := ⟨some 7, _, _, _, _, _⟩) rfl (by kernel_rfl) rfl (fun K hK => ?_)
    refine wp_newL 65 rfl is _ z0 his HSZ.out rfl ?_
    intro wz hk hb
    obtain ⟨gq, hgq⟩ : ∃ g, g = wy.heap.size := ⟨_, rfl⟩
    rw [← hgq] at hk
    rw [← hgq]
    have G7 := qH hk
    have PQ := qH (show H ≤ gq by rw [hgq]; exact HS1.out)
    have CAN := qH (show CanV wz D n (n0 + 1) bc 0 from ⟨Nat.lt_of_lt_of_le CY.out.1 hb.size, fun j hj => by
     obtain ⟨b, o, c, h1, h2, h3⟩ := CY.out.2 j hj
     exact ⟨b, o, c, bl_cell hb h1, Nat.lt_of_lt_of_le h2 hb.size, fun t ht => bl_cell hb (h3 t ht)⟩⟩)
    have hX2 := hX.trans (hb.mono HS1.out)
    clear hk hb hgq
    refine hK _ _ hX2 trivial ?_
    clear hK K hX
    (try simp only [Act.put, qA, qB, qC])
    have hX := hX2
    clear hX2
    refine mc_actB (i := 8) (o := ⟨none, _, _, _, _, _⟩) rfl (by kernel_rfl) rfl (fun K hK => ?_)
    refine wp_stBlk 65 (.tmp 7) (.tmp 29) rfl gq (seC cs (.slice (some ⟨bc, 0, none⟩) (n0 + 1) cc) m0 nilS nilS) rfl rfl 65 _ G7.out (by rw [seC_len HC8.out]; exact inf_seS) (by rw [seC_len HC8.out]; exact HZ0.out) (seC_one HONE.out) hX PQ.out ?_
    intro v4 hk hb hs ho hbb
    refine hK _ _ hb trivial ?_
    clear hK K hX
    (try simp only [Act.put, qA, qB, qC])
    refine wpAnyC_done (by kernel_rfl) ?_ _
    have hcne := canV_ne (ctab_length [] 0) (by rw [HZE.out] at G7; exact G7.out) CAN.out (Nat.succ_pos n0) HNP.out
    exact FIN.out gq bc cc v4 ⟨hk, canV_keep CAN.out HNP.out hcne.1 hcne.2 (Nat.le_of_eq hs.symm) (fun k _ hk2 => ho k hk2), PQ.out, hb⟩
   ·refine wp_newL 65 rfl is _ z0 his HSZ.out rfl ?_
    intro wz hk hb
    obtain ⟨gq, hgq⟩ : ∃ g, g = wd.heap.size := ⟨_, rfl⟩
    rw [← hgq] at hk
    rw [← hgq]
    have G6 := qH hk
    have PQ := qH (show H ≤ gq by rw [hgq]; exact HS0.out)
    have hX2 := hX.trans (hb.mono HS0.out)
    have HS1 := qH (Nat.le_trans HS0.out hb.size)
    have VZ := qH (VD.out.below hb)
    clear hk hb hgq
    refine hK _ _ hX2 trivial ?_
    clear hK K hX
    (try simp only [Act.put, qA, qB, qC])
    have hX := hX2
    clear hX2
    refine mc_actB (i := 3) (o := ⟨some 26, _, _, _, _, _⟩) rfl (by kernel_rfl) rfl (fun K hK => ?_)
    go_wp2_with fail
    refine (wLeft_any D cs n n0 wz VZ.out HM.out HAC.out HN.out HN0.out).mono ?_
    rintro e wy ⟨bc, cc, rfl, hcan, hb⟩
    have hX2 := hX.trans (hb.mono HS1.out)
    have CAN := qH hcan
    have G7 := qH (G6.out.below hb G6.out.lt)
    clear hb hcan
    go_wp2_with fail
    refine hK _ _ hX2 trivial ?_
    clear hK K hX
    (try simp only [Act.put, qA, qB, qC])
    have hX := hX2
    clear hX2
    refine mc_take (i := 6) (oi := ⟨some 29, _, _, _, _, _⟩) (v := .agg (seC cs (.slice (some ⟨bc, 0, none⟩) (n0 + 1) cc) m0 nilS nilS).toArray) rfl (by kernel_rfl) (by kernel_rfl) (by kernel_rfl) (fun _ _ _ h => h) rfl hX (fun V _ => ex_bldS (.tmp 23) (.tmp 26) (.tmp 28) rfl rfl rfl rfl (built_se3 HC8.out) V) ?_; simp only [Act.put, qA, qB, qC]
    refine mc_actB (i := 8) (o := ⟨none, _, _, _, _, _⟩) rfl (by kernel_rfl) rfl (fun K hK => ?_)
    refine wp_stBlk 65 (.tmp 7) (.tmp 29) rfl gq (seC cs (.slice (some ⟨bc, 0, none⟩) (n0 + 1) cc) m0 nilS nilS) rfl rfl 65 _ G7.out (by rw [seC_len HC8.out]; exact inf_seS) (by rw [seC_len HC8.out]; exact HZ0.out) (seC_one HONE.out) hX PQ.out ?_
    intro v4 hk hb hs ho hbb
    refine hK _ _ hb trivial ?_
    clear hK K hX
    (try simp only [Act.put, qA, qB, qC])
    refine wpAnyC_done (by kernel_rfl) ?_ _
    have hcne := canV_ne (ctab_length [] 0) (by rw [HZE.out] at G7; exact G7.out) CAN.out (Nat.succ_pos n0) HNP.out
    exact FIN.out gq bc cc v4 ⟨hk, canV_keep CAN.out HNP.out hcne.1 hcne.2 (Nat.le_of_eq hs.symm) (fun k _ hk2 => ho k hk2), PQ.out, hb⟩
  case fin =>
   rintro g bc cc w3 ⟨hk, hcan, hg, hb⟩
   have K3 := qH hk
   have CAN := qH hcan
   have HG := qH hg
   have B3 := qH hb
   have NE := qH (canV_ne HL.out (by rw [HCS.out] at hk; exact hk) hcan (Nat.succ_pos n0) HNP.out)
   have R3 := qH (HR.out.below (B2.out.trans (hb.mono (Nat.le_of_lt HWH.out))))
   obtain ⟨bj, oj, cj, hcj, hbj, hce⟩ := hcan.2 n0 (Nat.lt_succ_self n0)
   rw [Nat.zero_add] at hcj
   obtain ⟨x, hx⟩ : ∃ x, canC D n0 0 = x := ⟨_, rfl⟩
   have HX := qH hx
   have c258 : w3.cell? ⟨g, 258, none⟩ = some (.slice (some ⟨bc, 0, none⟩) (n0 + 1) cc) := (hk.cell 258).trans (seC_l HC8.out)
   have ctab : w3.cell? ⟨bc, n0, none⟩ = some (.slice (some ⟨bj, oj, none⟩) n cj) := hcj
   have C36 := qH (show w3.cell? ⟨bj, oj + 0, none⟩ = some (.bool x) by rw [hce 0 HNP.out, hx])
   have n1 : (n0 : Int) < ((n0 + 1 : Nat) : Int) := by omega
   clear hk hcan hg hb hcj hbj hce hx hmin
   cases x with
   | false =>
    have c261 : w3.cell? ⟨g, 261, none⟩ = some (.slice none 0 0) := (K3.out.cell 261).trans (seC_o HC8.out)
    have HE := qH (canC_wrds HL.out n0 0 HX.out)
    go_wp2_with (first
     | ((with_reducible refine atDst 33 ?_); refine wpList_plain rfl fun K hK => wp_rd (wl_ixBs (.tmp 31) (.tmp 32) rfl rfl rfl (Nat.lt_succ_self n0) _) ?_; refine hK _ _ ?_; clear hK K; (try simp only [Act.put, qA, qB, qC]))
     | ((with_reducible refine atDst 35 ?_); refine wpList_plain rfl fun K hK => wp_rd (lk_ixB (q := 0) (.tmp 34) (.const (.int .i64 0)) rfl rfl rfl HNP.out _) ?_; refine hK _ _ ?_; clear hK K; (try simp only [Act.put, qA, qB, qC]))
     | ((with_reducible refine atDst 36 ?_); refine wpList_plain rfl fun K hK => wp_rd (lk_ldB (.tmp 35) rfl rfl C36.out) ?_; refine hK _ _ ?_; clear hK K; (try simp only [Act.put, qA, qB, qC])))
    go_ret
    refine ⟨_, rfl, ?_, B2.out.trans (B3.out.mono (Nat.le_of_lt HWH.out))⟩
    rw [HE.out, List.take_nil]
    exact ⟨[], Row.nil _, rfl, fun i l hl => by simp at hl⟩
   | true =>
    go_wp2_with (first
     | ((with_reducible refine atDst 33 ?_); refine wpList_plain rfl fun K hK => wp_rd (wl_ixBs (.tmp 31) (.tmp 32) rfl rfl rfl (Nat.lt_succ_self n0) _) ?_; refine hK _ _ ?_; clear hK K; (try simp only [Act.put, qA, qB, qC]))
     | ((with_reducible refine atDst 35 ?_); refine wpList_plain rfl fun K hK => wp_rd (lk_ixB (q := 0) (.tmp 34) (.const (.int .i64 0)) rfl rfl rfl HNP.out _) ?_; refine hK _ _ ?_; clear hK K; (try simp only [Act.put, qA, qB, qC]))
     | ((with_reducible refine atDst 36 ?_); refine wpList_plain rfl fun K hK => wp_rd (lk_ldB (.tmp 35) rfl rfl C36.out) ?_; refine hK _ _ ?_; clear hK K; (try simp only [Act.put, qA, qB, qC])))
    have SE := qH (show SeV w3 H w3.heap.size g cs (.slice (some ⟨bc, 0, none⟩) (n0 + 1) cc) m0 nilS [] nilS [] [] from
     ⟨K3.out, ownC_nil _ _ _, ownC_nil _ _ _, fun k hk => (by cases hk), ⟨rfl, fun i l hl => by simp at hl⟩, HG.out, K3.out.lt, Nat.le_refl _⟩)
    have HST := qH (show ∀ V, FrE w3 w3.heap.size g V → CanV V D n (n0 + 1) bc 0 ∧ Dr V cs D n kd bn on cn be oe ce from fun V hV =>
     ⟨canV_keep CAN.out HNP.out NE.out.1 NE.out.2 hV.size hV.block, dr_keep HR.out (Nat.le_trans (B2.out.trans (B3.out.mono (Nat.le_of_lt HWH.out))).size hV.size) fun k hk => (hV.block k (Nat.lt_of_lt_of_le hk (B2.out.trans (B3.out.mono (Nat.le_of_lt HWH.out))).size) (Nat.ne_of_lt (Nat.lt_of_lt_of_le (Nat.lt_trans hk HWH.out) HG.out))).trans ((B2.out.trans (B3.out.mono (Nat.le_of_lt HWH.out))).block k hk)⟩)
    refine (wVisit_any HL.out HM.out HN.out HKD.out HCS.out HM0.out HST.out n0 0 [] nilS nilS [] [] w3.heap.size w3 (Nat.lt_succ_self n0) HNP.out (by show 0 + n0 ≤ 200; rw [Nat.zero_add]; exact HN0.out) ⟨Nat.le_refl _, fun _ _ _ => rfl⟩ (Nat.le_refl _) SE.out HM1.out HX.out).mono ?_
    rintro e w9 ⟨rfl, uv9, ov9, os9, hs9, ht9⟩
    obtain ⟨A9, c9, hv9⟩ := own2_slice hs9.lst
    subst hv9
    have S9 := qH hs9
    have T9 := qH ht9
    have c261 : w9.cell? ⟨g, 261, none⟩ = some (.slice A9 os9.length c9) := (hs9.blk.cell 261).trans (seC_o HC8.out)
    clear hs9 ht9 c258 ctab
    go_wp2_with fail
    go_ret
    refine ⟨_, rfl, ?_, B2.out.trans ((B3.out.trans (SE.out.below T9.out)).mono (Nat.le_of_lt HWH.out))⟩
    have h1 := S9.out.rows
    rw [moreW_top] at h1
    exact ⟨os9, Row.of_own S9.out.lst, h1.1, fun i l hl => by
     obtain ⟨v, hv, hr⟩ := h1.2 i l hl
     exact ⟨v, hv, hr.1⟩⟩
 ·rw [wrdW_no D h]
  by_cases h1 : m1 < 1
  ·clear hv hm hac h
   go_enter Try.func16, Try.ntmps16
   go_wp2_with ((with_reducible refine atDst 3 ?_); refine wpList_box rfl 28 _ rfl cs rfl (Below.refl w.heap.size w) (Nat.le_refl _) ?_; intro w1 hk1 hb1 hs1 _; have B1 := qH hb1; clear hk1 hb1 hs1; (try simp only [Act.put, qA, qB, qC]))
   go_ret
   exact ⟨_, rfl, ⟨[], Row.nil _, rfl, fun i l hl => by simp at hl⟩, B1.out⟩
  ·by_cases h2 : n1 < 0
   ·clear hv hm hac h
    go_enter Try.func16, Try.ntmps16
    go_wp2_with ((with_reducible refine atDst 3 ?_); refine wpList_box rfl 28 _ rfl cs rfl (Below.refl w.heap.size w) (Nat.le_refl _) ?_; intro w1 hk1 hb1 hs1 _; have B1 := qH hb1; clear hk1 hb1 hs1; (try simp only [Act.put, qA, qB, qC]))
    go_ret
    exact ⟨_, rfl, ⟨[], Row.nil _, rfl, fun i l hl => by simp at hl⟩, B1.out⟩
   ·have h3 : (200 : Int) < n1 := by omega
    clear hv hm hac h
    go_enter Try.func16, Try.ntmps16
    go_wp2_with ((with_reducible refine atDst 3 ?_); refine wpList_box rfl 28 _ rfl cs rfl (Below.refl w.heap.size w) (Nat.le_refl _) ?_; intro w1 hk1 hb1 hs1 _; have B1 := qH hb1; clear hk1 hb1 hs1; (try simp only [Act.put, qA, qB, qC]))
    go_ret
    exact ⟨_, rfl, ⟨[], Row.nil _, rfl, fun i l hl => by simp at hl⟩, B1.out⟩
theorem Blk.own3 {w : World} {g : Nat} {M : List Stp} {H : Nat} (h : Blk w g 53 (sts M)) (hH : H ≤ g) (hm : M.length ≤ maxLen) : w.ownsRow H 53 3 (.slice (some ⟨g, 0, none⟩) M.length M.length) M.length (sts M) :=
 ⟨sts_len M, .inr ⟨g, M.length, (sts M).toArray, rfl, hH, h, Nat.le_refl _, hm, by simp [sts_len], by rw [List.take_of_length_le (by simp [sts_len])]⟩⟩
theorem get_app {α : Type} {l : List α} {y x : α} {k : Nat} (hx : l[k]? = some x) : (l ++ [y])[k]? = some x := by
 rw [List.getElem?_append_left (List.getElem?_eq_some_iff.1 hx).1]
 exact hx
def ShrE (D : Dm) (w : World) (e : Ending) (w' : World) : Prop := ∃ v b, e = .returned (.tuple #[v, .bool b]) ∧ (b = true → ∃ u, Row w' v (bvs u) ∧ Sho (accD D 0) u) ∧ (b = false → Row w' v [] ∧ ∀ u, accD D 0 u = false) ∧ Below w.heap.size w w'
set_option maxHeartbeats 16000000 in
set_option maxRecDepth 1000000 in
theorem wShortest_any (D : Dm) (cs : List Value) (w : World) (hv : DfaV w cs D) (hm : MayD D) :
  Calls Try.prog 11 #[.agg cs.toArray] w fun e w' => ShrE D w e w' := by
 have V0 := qH hv
 have HM := qH hm
 have HDS := qH hv.size
 obtain ⟨n, hn⟩ : ∃ n, n = D.next.length := ⟨_, rfl⟩
 obtain ⟨kd, hkd⟩ : ∃ k, k = clsA D.cl := ⟨_, rfl⟩
 obtain ⟨bn, on, cn, be, oe, ce, hdr⟩ := dr_of hv hm hn hkd
 have HR := qH hdr
 have HN := qH hn
 have HKD := qH hkd
 have HL := qH hdr.hl
 have HCS := qH hdr.cs
 have HNP := qH (show 0 < n by rw [hn]; exact hm.pos)
 have HNF := qH (show n ≤ 2000 by rw [hn]; exact hm.few)
 have HMY := qH (mayDB_yes hm)
 obtain ⟨i2, hi2, hb0, hb1, hb2⟩ := infoP inf_bool
 have HYB := qH (show i2.bytes * n ≤ 281474976710656 by rw [hb2]; have := HNF.out; omega)
 have HN3 := qH (show n ≤ 9223372036854775807 by have := HNF.out; omega)
 obtain ⟨cb, hcb⟩ : ∃ cb, cb = bvs D.cl := ⟨_, rfl⟩
 have HCB := qH hcb
 have HSC := qH (show (Try.prog.info? 24).map (·.size) = some cb.length by rw [hcb]; exact size_ctab HL.out)
 have p0 : (0 : Int) < (n : Int) := Int.ofNat_lt.2 HNP.out
 clear hv hm hn hkd hdr hcb
 go_enter Try.func11, Try.ntmps11
 go_wp2_with (first
  | ((with_reducible refine atDst 1 ?_); refine wpList_box rfl 28 _ rfl cs rfl (Below.refl w.heap.size w) (Nat.le_refl _) ?_; intro w1 hk1 hb1 hs1 _; have K1 := qH hk1; have B1 := qH hb1; clear hk1 hb1 hs1; (try simp only [Act.put, qA, qB, qC]))
  | ((with_reducible refine atDst 11 ?_); refine wpList_ldArr rfl 28 _ rfl w.heap.size rfl 28 _ _ K1.out Try.underlying28 rfl HDS.out ?_; (try simp only [Act.put, qA, qB, qC])))
 refine (mMay_any D cs w1 (V0.out.below B1.out)).mono ?_
 rintro e w2 ⟨rfl, hb⟩
 rw [HMY.out]
 have K2 := qH (K1.out.below hb K1.out.lt)
 have B2 := qH (B1.out.trans (hb.mono B1.out.size))
 have c256 : w2.cell? ⟨w.heap.size, 256, none⟩ = some (.slice (some ⟨bn, on, none⟩) n cn) := by rw [K2.out.cell 256, HCS.out]; exact dcl_n HL.out
 clear hb
 go_wp2_with (first
  | ((with_reducible refine atDst 17 ?_); refine wpList_mk _ rfl _ _ 26 rfl 4 i2 (.bool false) Try.underlying26 hi2 hb0 hb1 rfl n _ _ _ _ rfl rfl rfl rfl HYB.out HN3.out ?_; intro w3 hk hb hs; clear c256; obtain ⟨gf, hgf⟩ : ∃ g, g = w2.heap.size := ⟨_, rfl⟩; rw [← hgf] at hk; rw [← hgf]; rw [bcs_no] at hk; have F3 := qH hk; have B3 := qH (show Below gf w2 w3 from (by rw [hgf]; exact hb)); have HGF := qH hgf; have c0 : w3.cell? ⟨gf, 0, none⟩ = some (.bool false) := (hk.cell 0).trans (bcs_get _ HNP.out); have f0 := hk.frozen 0; clear hk hb hs hgf; (try simp only [Act.put, qA, qB, qC]))
  | ((with_reducible refine atDst 20 ?_); refine wpList_bld rfl 53 _ rfl (st3 (0, 0, 0)) built_st0 ?_; obtain ⟨w4, hw4⟩ : ∃ v, v = w3.setCell ⟨gf, 0, none⟩ (.bool true) := ⟨_, rfl⟩; rw [← hw4]; have F4 := qH (show Blk w4 gf 4 (bcs n (updB (fun _ => false) 0 true)) from (by rw [hw4, ← bcs_set]; exact F3.out.set 0 (.bool true))); have B4 := qH (show Below gf w2 w4 from (by rw [hw4]; exact B3.out.setCell (p := ⟨gf, 0, none⟩) (Nat.le_refl _) (Value.bool true))); clear c0 f0 hw4 F3 B3; (try simp only [Act.put, qA, qB, qC]))
  | ((with_reducible refine atDst 21 ?_); refine wpList_plain rfl fun K hK => wo_bld1 (.tmp 20) rfl (0, 0, 0) rfl ?_; intro w5 hk hb; have S5 := qH (hk.own3 (H := gf + 1) F4.out.lt (by show 1 ≤ maxLen; unfold maxLen; omega)); have F5 := qH (F4.out.below hb F4.out.lt); have B5 := qH (B4.out.trans (hb.mono (Nat.le_of_lt F4.out.lt))); clear hk hb; refine hK _ _ ?_; clear hK K; (try simp only [Act.put, qA, qB, qC])))
 have HWG := qH (show w.heap.size < gf by rw [HGF.out]; exact K2.out.lt)
 have BS0 := qH (BfS.start (D := D) (by rw [← HN.out]; exact HNP.out))
 have EN := qH (show ∀ V, Below gf w2 V → ∀ b o v, b < gf → w2.cell? ⟨b, o, none⟩ = some v → V.cell? ⟨b, o, none⟩ = some v from fun V hV b o v hb hc => (hV.cell (p := ⟨b, o, none⟩) hb).trans hc)
 have C256 := qH (show ∀ V, Below gf w2 V → V.cell? ⟨w.heap.size, 256, none⟩ = some (.slice (some ⟨bn, on, none⟩) n cn) from fun V hV => EN.out V hV _ _ _ HWG.out (by rw [K2.out.cell 256, HCS.out]; exact dcl_n HL.out))
 have C257 := qH (show ∀ V, Below gf w2 V → V.cell? ⟨w.heap.size, 257, none⟩ = some (.slice (some ⟨be, oe, none⟩) n ce) from fun V hV => EN.out V hV _ _ _ HWG.out (by rw [K2.out.cell 257, HCS.out]; exact dcl_e HL.out))
 have R2 := qH (HR.out.below B2.out)
 have RA := qH (show ∀ V, Below gf w2 V → V.rangeAt w.heap.size 0 cb from fun V hV j v hv => by
  rw [HCB.out] at hv
  have hj := (List.getElem?_eq_some_iff.1 hv).1
  rw [bvs_length, HL.out] at hj
  rw [Nat.zero_add]
  exact EN.out V hV _ _ _ HWG.out (by rw [K2.out.cell j, HCS.out, dcl_cl HL.out hj]; exact hv))
 clear F4 B4
 go_wp2_with fail
 go_loopw [5, 6] (fun sv av wl => ∃ (k : Nat) (t : Nat → Bool) (S : List Stp) (W : List (List UInt8)), k ≤ S.length ∧ av = .int .i64 (k : Int) ∧ BfS D t S W k 0 ∧ wl.ownsRow (gf + 1) 53 3 sv S.length (sts S) ∧ Blk wl gf 4 (bcs n t) ∧ Below gf w2 wl) (fun _ av _ => n - (intOf av).toNat)
 case atStart => exact ⟨0, _, _, _, Nat.zero_le _, rfl, BS0.out, S5.out, F5.out, B5.out⟩
 clear S5 F5 B5 BS0
 obtain ⟨k, t, S, W, hk, rfl, hbf, hown, hfd, hbl⟩ := hrel
 obtain ⟨m, hmm⟩ : ∃ m, m = S.length := ⟨_, rfl⟩
 rw [← hmm] at hown hk
 obtain ⟨A, c, rfl⟩ := own2_slice hown
 have HK := qH hk
 have HMM := qH hmm
 have BF := qH hbf
 have OS := qH hown
 have FD := qH hfd
 have BL := qH hbl
 have HMN := qH (show m ≤ n by rw [hmm, HN.out]; exact hbf.few)
 obtain ⟨wo, hwo⟩ : ∃ v : World, v = wr := ⟨_, rfl⟩
 subst hwo
 clear hk hmm hbf hown hfd hbl
 by_cases hkm : k < m
 ·have k1 : (k : Int) < (m : Int) := Int.ofNat_lt.2 hkm
  have HKM := qH hkm
  have HMK := qH (sub_next (Nat.lt_of_lt_of_le hkm HMN.out))
  obtain ⟨x, hx⟩ : ∃ x, S[k]? = some x := ⟨_, List.getElem?_eq_getElem (by rw [← HMM.out]; exact hkm)⟩
  obtain ⟨u, hu⟩ := BF.out.wat (k := k) (by rw [← HMM.out]; exact hkm)
  obtain ⟨g, c2, hgc, _, _, hcell⟩ := own3_in OS.out (Nat.lt_of_le_of_lt (Nat.zero_le _) hkm)
  injection hgc with hgc _ hcc
  subst hgc
  obtain ⟨s, hs⟩ : ∃ s, s = x.1 := ⟨_, rfl⟩
  have hc0 := (hcell k x hkm hx).1
  rw [← hs] at hc0
  have C31 := qH hc0
  have HSX := qH hs
  have HX := qH hx
  have HU := qH hu
  have HST := qH (show s = toD D 0 u by rw [hs]; exact BF.out.state k x u hx hu)
  have HSN := qH (show s < n by rw [hs, HN.out]; exact BF.out.rng x (List.mem_of_getElem? hx))
  have s1 : (s : Int) < (n : Int) := Int.ofNat_lt.2 HSN.out
  obtain ⟨en, hen⟩ : ∃ b, D.ends.getD s false = b := ⟨_, rfl⟩
  have HEN := qH hen
  have c257 := C257.out wo BL.out
  have cend : wo.cell? ⟨be, oe + s, none⟩ = some (.bool en) := by
   refine EN.out wo BL.out _ _ _ (by rw [HGF.out]; exact R2.out.hbe) ?_
   rw [R2.out.ends s HSN.out, hen]
  clear hkm hx hu hcell hc0 hs hen hcc
  cases en with
  | true =>
   have HSH := qH (BF.out.hit HX.out HU.out (by rw [← HSX.out]; exact HEN.out))
   go_wp2_with (first
    | ((with_reducible refine atDst 30 ?_); refine wpList_plain rfl fun K hK => wp_rd (wo_ix (.tmp 28) (.tmp 29) rfl rfl rfl HKM.out _) ?_; refine hK _ _ ?_; clear hK K; (try simp only [Act.put, qA, qB, qC]))
    | ((with_reducible refine atDst 31 ?_); refine wpList_plain rfl fun K hK => wp_rd (wo_f0 (.tmp 30) rfl rfl _) ?_; refine hK _ _ ?_; clear hK K; (try simp only [Act.put, qA, qB, qC]))
    | ((with_reducible refine atDst 32 ?_); refine wpList_plain rfl fun K hK => wp_rd (lk_ldI (.tmp 31) rfl rfl C31.out) ?_; refine hK _ _ ?_; clear hK K; (try simp only [Act.put, qA, qB, qC])))
   refine (wWord_any BF.out k (gf + 1) m u _ wo HKM.out HU.out HMM.out OS.out (Nat.le_trans HMN.out HNF.out)).mono ?_
   rintro e w9 ⟨r, rfl, hr, hb⟩
   have B9 := qH (B2.out.trans ((BL.out.trans (hb.mono (Nat.le_of_lt FD.out.lt))).mono (Nat.le_of_lt HWG.out)))
   have R9 := qH hr
   clear hr hb
   go_wp2_with fail
   go_ret2
   exact ⟨_, true, rfl, fun _ => ⟨u, R9.out, HSH.out⟩, fun h => (by cases h), B9.out⟩
  | false =>
   have R42 := qH (RA.out wo BL.out)
   go_wp2_with (first
    | ((with_reducible refine atDst 30 ?_); refine wpList_plain rfl fun K hK => wp_rd (wo_ix (.tmp 28) (.tmp 29) rfl rfl rfl HKM.out _) ?_; refine hK _ _ ?_; clear hK K; (try simp only [Act.put, qA, qB, qC]))
    | ((with_reducible refine atDst 31 ?_); refine wpList_plain rfl fun K hK => wp_rd (wo_f0 (.tmp 30) rfl rfl _) ?_; refine hK _ _ ?_; clear hK K; (try simp only [Act.put, qA, qB, qC]))
    | ((with_reducible refine atDst 32 ?_); refine wpList_plain rfl fun K hK => wp_rd (lk_ldI (.tmp 31) rfl rfl C31.out) ?_; refine hK _ _ ?_; clear hK K; (try simp only [Act.put, qA, qB, qC]))
    | ((with_reducible refine atDst 42 ?_); refine wpList_load_mid rfl 24 _ rfl w.heap.size 0 rfl cb _ R42.out Try.underlying24 rfl HSC.out ?_; (try simp only [Act.put, qA, qB, qC])))
   clear c257 cend
   obtain ⟨br, or, cr, hcr, hbr, hrr⟩ := R2.out.row s HSN.out
   have CR := qH (show ∀ V, Below gf w2 V → V.cell? ⟨bn, on + s, none⟩ = some (.slice (some ⟨br, or, none⟩) kd cr) from fun V hV => EN.out V hV _ _ _ (by rw [HGF.out]; exact R2.out.hbn) hcr)
   have CTO := qH (show ∀ V, Below gf w2 V → ∀ k, k < kd → V.cell? ⟨br, or + k, none⟩ = some (.int .i64 (stC D s k : Int)) from fun V hV k hk => EN.out V hV _ _ _ (by rw [HGF.out]; exact hbr) (by
    obtain ⟨b', o', he, _, hc'⟩ := hrr.at_ (by rw [ncs_len]; omega)
    injection he with he
    injection he with h1 h2
    subst h1 h2
    exact hc' k _ (ncs_get (fun c => stC D s c) hk)))
   clear hcr hbr hrr
   go_loopw [5, 43] (fun sv bv2 wl => ∃ (b : Nat) (t : Nat → Bool) (S : List Stp) (W : List (List UInt8)), b ≤ 256 ∧ bv2 = .int .i64 (b : Int) ∧ BfS D t S W k b ∧ S[k]? = some x ∧ W[k]? = some u ∧ wl.ownsRow (gf + 1) 53 3 sv S.length (sts S) ∧ Blk wl gf 4 (bcs n t) ∧ Below gf w2 wl) (fun _ bv2 _ => 256 - (intOf bv2).toNat)
   case atStart => exact ⟨0, t, S, W, Nat.zero_le _, rfl, BF.out, HX.out, HU.out, by rw [← HMM.out]; exact OS.out, FD.out, BL.out⟩
   clear BF OS FD BL HMM HMN HX HU C31 HKM R42 k1
   obtain ⟨b, t, S, W, hb, rfl, hbf, hx, hu, hown, hfd, hbl⟩ := hrel
   obtain ⟨m, hmm⟩ : ∃ m, m = S.length := ⟨_, rfl⟩
   rw [← hmm] at hown
   obtain ⟨A, c, rfl⟩ := own2_slice hown
   have HB := qH hb
   have HMM := qH hmm
   have BF := qH hbf
   have OS := qH hown
   have FD := qH hfd
   have BL := qH hbl
   have HX := qH hx
   have HU := qH hu
   have HMN := qH (show m ≤ n by rw [hmm, HN.out]; exact hbf.few)
   obtain ⟨wi, hwi⟩ : ∃ v : World, v = wr := ⟨_, rfl⟩
   subst hwi
   clear hb hmm hbf hx hu hown hfd hbl
   by_cases hb2 : b < 256
   ·have b1 : (b : Int) < 256 := Int.ofNat_lt.2 hb2
    have HB2 := qH hb2
    have HMB := qH (sub_next hb2)
    have e3 := wrap_one b (lt_256 hb2)
    have e4 := wrap_one' b (lt_256 hb2)
    have e8 := wrap8N b hb2
    obtain ⟨z, hz⟩ : ∃ z, z = UInt8.ofNat b := ⟨_, rfl⟩
    have hzn : z.toNat = b := by rw [hz]; exact toNat_ofNatQ hb2
    have HZN := qH hzn
    obtain ⟨cc, hcc⟩ : ∃ cc, cc = clB D b := ⟨_, rfl⟩
    have HCK := qH (show cc < kd by rw [hcc, HKD.out]; exact clB_lt HL.out hb2)
    have hix : ∀ w, (Instr.index 24 (.agg cb.toArray) (.int .i64 (b : Int))).run Try.prog w = .ok (.int .u8 (cc : Int)) w := fun w => ix_arr cb b _ hb2 (by rw [HCB.out, hcc]; exact clB_cell HL.out hb2) w
    obtain ⟨q, hq⟩ : ∃ q, q = stC D s cc := ⟨_, rfl⟩
    have HQ := qH (show q = toD D 0 (u ++ [z]) by
     rw [toD_snoc, ← HST.out, stD_stC, hzn, hq, hcc]
     rfl)
    have HQN := qH (show q < n by
     rw [hq, HN.out]
     exact stC_lt HM.out (by rw [← HN.out]; exact HSN.out) cc (by rw [← HKD.out]; exact HCK.out))
    have q1 : (q : Int) < (n : Int) := Int.ofNat_lt.2 HQN.out
    have C54 := qH (show wi.cell? ⟨br, or + cc, none⟩ = some (.int .i64 (q : Int)) by rw [hq]; exact CTO.out wi BL.out cc HCK.out)
    have c256 := C256.out wi BL.out
    have crow := CR.out wi BL.out
    obtain ⟨tq, htq⟩ : ∃ b, t q = b := ⟨_, rfl⟩
    have HTQ := qH htq
    have cfo : wi.cell? ⟨gf, q, none⟩ = some (.bool tq) := by rw [FD.out.cell q, bcs_get _ HQN.out, htq]
    have ffo := FD.out.frozen q
    clear hb2 hz hzn hcc hq htq
    cases tq with
    | true =>
     have BFN := qH (BF.out.old HU.out HZN.out (by rw [← HQ.out]; exact HTQ.out))
     go_wp2_with (first
      | ((with_reducible refine atDst 53 ?_); refine wpList_plain rfl fun K hK => wp_rd (lk_ixIu (.tmp 51) (.tmp 52) rfl rfl rfl HCK.out _) ?_; refine hK _ _ ?_; clear hK K; (try simp only [Act.put, qA, qB, qC]))
      | ((with_reducible refine atDst 54 ?_); refine wpList_plain rfl fun K hK => wp_rd (lk_ldI (.tmp 53) rfl rfl C54.out) ?_; refine hK _ _ ?_; clear hK K; (try simp only [Act.put, qA, qB, qC])))
     exact ⟨⟨b + 1, t, S, W, HB2.out, by congr 1, BFN.out, HX.out, HU.out, by rw [← HMM.out]; exact OS.out, FD.out, BL.out⟩, by simpa [intOf] using HMB.out⟩
    | false =>
     have BFN := qH (BF.out.new HU.out HZN.out (by rw [← HQ.out]; exact HTQ.out) (by rw [← HQ.out, ← HN.out]; exact HQN.out))
     rw [← HQ.out] at BFN
     have HLM := qH (show m + 1 ≤ 1048576 by have h1 := HMN.out; have h2 := HNF.out; omega)
     have OSM := qH (show wi.ownsRow (gf + 1) 53 3 (.slice A m c) S.length (sts S) by rw [← HMM.out]; exact OS.out)
     go_wp2_with (first
      | ((with_reducible refine atDst 53 ?_); refine wpList_plain rfl fun K hK => wp_rd (lk_ixIu (.tmp 51) (.tmp 52) rfl rfl rfl HCK.out _) ?_; refine hK _ _ ?_; clear hK K; (try simp only [Act.put, qA, qB, qC]))
      | ((with_reducible refine atDst 54 ?_); refine wpList_plain rfl fun K hK => wp_rd (lk_ldI (.tmp 53) rfl rfl C54.out) ?_; refine hK _ _ ?_; clear hK K; (try simp only [Act.put, qA, qB, qC]))
      | ((with_reducible refine atDst 68 ?_); refine wpList_bld rfl 53 _ rfl (st3 (q, k, z)) (by rw [← HZN.out]; exact built_st3 q k z) ?_; obtain ⟨w6, hw6⟩ : ∃ v, v = wi.setCell ⟨gf, q, none⟩ (.bool true) := ⟨_, rfl⟩; rw [← hw6]; have F6 := qH (show Blk w6 gf 4 (bcs n (updB t q true)) from (by rw [hw6, ← bcs_set]; exact FD.out.set q (.bool true))); have B6 := qH (show Below gf w2 w6 from (by rw [hw6]; exact BL.out.setCell (p := ⟨gf, q, none⟩) (Nat.le_refl _) (Value.bool true))); have S6 := qH (show w6.ownsRow (gf + 1) 53 3 (.slice A m c) S.length (sts S) from (by rw [hw6]; exact own6_stay OSM.out fun j hj => Below.heap_setCell wi ⟨gf, q, none⟩ _ j fun e => absurd (own6_lt OSM.out j hj).2 (by rw [e]; exact Nat.not_succ_le_self gf))); clear hw6 cfo ffo c256 crow; (try simp only [Act.put, qA, qB, qC]))
      | ((with_reducible refine atDst 69 ?_); refine wpList_plain rfl fun K hK => wo_bld1 (.tmp 68) rfl (q, k, z) rfl ?_; intro w7 hk hb; have K7 := qH hk; have F7 := qH (F6.out.below hb F6.out.lt); have B7 := qH (B6.out.trans (hb.mono (Nat.le_of_lt F6.out.lt))); have S7 := qH (own6_stay S6.out fun j hj => hb.block j (own6_lt S6.out j hj).1); have HG7 := qH (show gf + 1 ≤ w7.heap.size from F7.out.lt); clear hk hb; refine hK _ _ ?_; clear hK K; (try simp only [Act.put, qA, qB, qC]))
      | ((with_reducible refine atDst 70 ?_); refine wpList_plain rfl fun K hK => wo_app (base := gf + 1) (.tmp 63) (.tmp 69) rfl _ S rfl S7.out _ _ _ (q, k, z) rfl K7.out (by rw [← HMM.out]; exact HLM.out) HG7.out ?_; intro v8 w8 ho hg hw; have S8 := qH ho; have F8 := qH (F7.out.grown hg fun e => absurd (own6_lt S7.out gf e.symm).2 (Nat.not_succ_le_self gf)); have B8 := qH (B7.out.trans (show Below gf w7 w8 from ⟨hg.os, hg.tape, hg.output, hg.size, fun j hj => hg.block j (Nat.lt_trans hj F7.out.lt) fun e => absurd (own6_lt S7.out j e.symm).2 (by omega)⟩)); clear ho hg hw; refine hK _ _ ?_; clear hK K; (try simp only [Act.put, qA, qB, qC])))
     exact ⟨⟨b + 1, _, _, _, HB2.out, by congr 1, BFN.out, get_app HX.out, get_app HU.out, S8.out, F8.out, B8.out⟩, by simpa [intOf] using HMB.out⟩
   ·obtain rfl : 256 = b := Nat.le_antisymm (Nat.le_of_not_lt hb2) HB.out
    have b1 : ¬ ((256 : Int) < 256) := Int.lt_irrefl _
    have BFN := qH (BF.out.next HX.out (by rw [← HSX.out]; exact HEN.out))
    have HKS := qH (show k + 1 ≤ S.length from (List.getElem?_eq_some_iff.1 HX.out).1)
    have HKN := qH (show k < n by have h1 := HKS.out; have h2 := HMM.out; have h3 := HMN.out; omega)
    have e3 := wrap_one k (lt_bigN HKN.out HNF.out)
    have e4 := wrap_one' k (lt_bigN HKN.out HNF.out)
    clear hb2
    go_wp2_with fail
    exact ⟨⟨k + 1, t, S, W, HKS.out, by congr 1, BFN.out, by rw [← HMM.out]; exact OS.out, FD.out, BL.out⟩, by simpa [intOf] using HMK.out⟩
 ·have k1 : ¬ ((k : Int) < (m : Int)) := fun h => hkm (Int.ofNat_lt.1 h)
  have HNO := qH (BF.out.none (by rw [← HMM.out]; exact Nat.le_of_not_lt hkm))
  have B9 := qH (B2.out.trans (BL.out.mono (Nat.le_of_lt HWG.out)))
  clear hkm
  go_wp2_with fail
  go_ret2
  exact ⟨_, false, rfl, fun h => (by cases h), fun _ => ⟨Row.nil _, HNO.out⟩, B9.out⟩
end Go.Proofs.Ytaakdebcagdfgaa
