/-
  Texts of this proof, put together: TbE, TbF, RxDp. No statement is proved here.
-/
import Derived.Test.YteadghoojeehlaaDoorVT
import Derived.Test.YteadghoojeehlaaDoorVG
import Derived.Test.YteadghoojeehlaaDoorVI
import Derived.Test.YteadghoojeehlaaDoorVD
import Derived.Test.YteadghoojeehlaaDoorVC
import Derived.Test.YteadghoojeehlaaDoorVA
namespace Go.Proofs.YteadghoojeehlaaDoor
open Go.RowKit
set_option linter.unusedSimpArgs false
set_option linter.unusedVariables false
theorem upd_old {fv : Nat → Value} {n i : Nat} {u : Value} (h : i < n) : updV fv n u i = fv i := by unfold updV; rw [if_neg (by omega)]
theorem upd_at (fv : Nat → Value) (n : Nat) (u : Value) : updV fv n u n = u := by unfold updV; rw [if_pos rfl]
theorem bState_end {w w1 w2 : World} {B g : Nat} {D : Nat → Prop} {S : List St} {lv v' : Value} {fv : Nat → Value} (x : Bld w B g lv fv S) (hD : ∀ k, Bd g lv fv S.length k → D k) (hdB : ∀ k, D k → B ≤ k) (hdl : ∀ k, D k → k < w.heap.size) (hB : B ≤ w.heap.size)
  (b1 : Below w.heap.size w w1) (ho : w2.ownsRow B 49 6 v' (S.length + 1) ((cellsN S fv).flatten ++ stc st0 (.slice none 0 0))) (hg : w1.grownBy w2 lv.ownBlock) (hw : ∀ k, v'.ownBlock = some k → lv.ownBlock = some k ∨ w1.heap.size ≤ k) :
  w2.cell? ⟨g, 0, none⟩ = some lv ∧ w2.frozen? ⟨g, 0, none⟩ = false ∧ BPost w B g D (S ++ [st0]) (w2.setCell ⟨g, 0, none⟩ v') := by
 have hs1 := b1.size
 have hs2 := hg.size
 have hgl := x.blk.lt
 have g2 : Blk w2 g 80 [lv] := (x.blk.below b1 hgl).grown hg fun e => x.lg e.symm
 have ng : v'.ownBlock ≠ some g := fun e => by
  rcases hw g e with e | e
  ·exact x.lg e
  ·omega
 have hother : ∀ k, k ≠ g → (w2.setCell ⟨g, 0, none⟩ v').heap[k]? = w2.heap[k]? := fun k hk => Below.heap_setCell w2 ⟨g, 0, none⟩ v' k hk
 have hsz3 : (w2.setCell ⟨g, 0, none⟩ v').heap.size = w2.heap.size := by simp
 refine ⟨g2.cell 0, g2.frozen 0, ⟨⟨⟨v', updV fv S.length (.slice none 0 0), ⟨g2.set 0 v', ?_, fun i s hs => ?_, ng, fun i hi e => ?_, fun i k hi e e' => ?_, fun i j k hi hj hij e e' => ?_⟩, fun k hk => ?_⟩, fun k hk => ?_, fun k hk => ?_⟩, ?_, hB⟩⟩
 ·rw [List.length_append, List.length_singleton, cellsN_app, List.flatten_append]
  refine own6_stay ?_ fun j hj => hother j (by rintro rfl; exact ng hj)
  simpa using ho
 ·by_cases hi : i < S.length
  ·rw [List.getElem?_append_left hi] at hs
   have h0 := x.free i s hs
   rw [upd_old hi]
   have h1 : w1.ownsRow B 3 1 (fv i) s.free.length (nums .i64 s.free) := ownBelow h0 b1 (Nat.le_refl _)
   have h2 : w2.ownsRow B 3 1 (fv i) s.free.length (nums .i64 s.free) := own6_stay h1 fun j hj => hg.block j (own6_lt h1 j hj).1 fun e => x.fl i j hi hj e.symm
   exact own6_stay h2 fun j hj => hother j (by rintro rfl; exact x.fg i hi hj)
  ·have hil : i = S.length := by
    have := (List.getElem?_eq_some_iff.1 hs).1
    simp at this
    omega
   subst hil
   have : s = st0 := by simpa using hs.symm
   subst this
   rw [upd_at]
   exact ownN _ _ _
 ·rw [List.length_append, List.length_singleton] at hi
  by_cases h : i < S.length
  ·rw [upd_old h] at e; exact x.fg i h e
  ·obtain rfl : i = S.length := by omega
   rw [upd_at] at e; cases e
 ·rw [List.length_append, List.length_singleton] at hi
  by_cases h : i < S.length
  ·rw [upd_old h] at e
   rcases hw k e' with e' | e'
   ·exact x.fl i k h e e'
   ·have := x.lt (.inr (.inr ⟨i, h, e⟩)); omega
  ·obtain rfl : i = S.length := by omega
   rw [upd_at] at e; cases e
 ·rw [List.length_append, List.length_singleton] at hi hj
  by_cases h : i < S.length
  ·rw [upd_old h] at e
   by_cases h' : j < S.length
   ·rw [upd_old h'] at e'
    exact x.ff i j k h h' hij e e'
   ·obtain rfl : j = S.length := by omega
    rw [upd_at] at e'; cases e'
  ·obtain rfl : i = S.length := by omega
   rw [upd_at] at e; cases e
 ·rcases hk with rfl | hk | ⟨i, hi, hk⟩
  ·exact .inl (hD _ (.inl rfl))
  ·rcases hw k hk with h | h
   ·exact .inl (hD _ (.inr (.inl h)))
   ·exact .inr ⟨by omega, by rw [hsz3]; exact (own6_lt ho k hk).1⟩
  ·rw [List.length_append, List.length_singleton] at hi
   by_cases h : i < S.length
   ·rw [upd_old h] at hk
    exact .inl (hD _ (.inr (.inr ⟨i, h, hk⟩)))
   ·obtain rfl : i = S.length := by omega
    rw [upd_at] at hk; cases hk
 ·rcases hk with hk | hk
  ·exact hdB k hk
  ·exact Nat.le_trans hB hk.1
 ·rcases hk with hk | hk
  ·have := hdl k hk; rw [hsz3]; omega
  ·exact hk.2
 ·exact ((Off.new D b1).trans (Off.grown hg fun k hk => .inr (hD k (.inr (.inl hk))))).trans (Off.set w2 0 v' (hD g (.inl rfl)))
theorem own_form6 {w : World} {base n k : Nat} {e : TypeId} {v : Value} {xs : List Value} (h : w.ownsRow base e k v n xs) : ∃ A c, v = .slice A n c := by
 rcases h.2 with ⟨rfl, rfl⟩ | ⟨g, cap, cur, rfl, _⟩
 ·exact ⟨_, _, rfl⟩
 ·exact ⟨_, _, rfl⟩
theorem sub_len {n : Nat} (h : n ≤ 2000) : IntKind.i64.wrap (((n + 1 : Nat) : Int) - 1) = (n : Int) := by
 rw [IntWalk.i64_in _ (by omega)]
 omega
theorem sub_len' {n : Nat} (h : n ≤ 2000) : wrap64 (((n + 1 : Nat) : Int) - 1) = (n : Int) := by
 rw [IntWalk.wrap64_in _ (by omega)]
 omega
set_option maxHeartbeats 4000000 in
set_option maxRecDepth 1000000 in
theorem bState_any {B g : Nat} {D : Nat → Prop} {S : List St} (w : World) (h : BldV w B g D S) (hS : S.length ≤ 2000) :
  Calls Tryd.prog 47 #[.pointer (some ⟨g, 0, none⟩)] w fun e w' => e = .returned (.int .i64 (S.length : Int)) ∧ BPost w B g D (S ++ [st0]) w' := by
 have HB := qH h.size
 obtain ⟨⟨lv, fv, hb, hd⟩, hdB, hdl⟩ := h
 obtain ⟨A0, c0, rfl⟩ := own_form6 hb.own
 have X := qH hb
 have HD := qH hd
 have HDB := qH hdB
 have HDL := qH hdl
 have HS := qH hS
 have d0 := hb.blk.cell 0
 simp only [List.getElem?_cons_zero] at d0
 obtain ⟨i0, hi0, hz0, hs0, hy0⟩ := infoP inf_nst
 obtain ⟨zz, hzz⟩ : ∃ z : List Value, z = stc ⟨fun _ => false, 0, []⟩ (.slice none 0 0) := ⟨_, rfl⟩
 have HZL := qH (show zz.length = 6 by rw [hzz]; rfl)
 have HZ0 := qH (show i0.zero = some (.agg zz.toArray) by rw [hzz]; exact hz0)
 obtain ⟨cc, hcc⟩ : ∃ c : List Value, c = stc st0 (.slice none 0 0) := ⟨_, rfl⟩
 have HC := qH hcc
 have HC6 := qH (show cc.length = 6 by rw [hcc]; rfl)
 have HC1 := qH (show ∀ u ∈ cc, u.oneCell' = true by rw [hcc]; exact List.all_eq_true.1 (stc_one _ _ _ _))
 have HBN := qH (show Tryd.prog.built 49 [(1, .int .i64 (-1))] = some cc.toArray by rw [hcc]; exact builtN)
 have s1 := sub_len hS
 have s2 := sub_len' hS
 obtain ⟨m, hm⟩ : ∃ m, m = S.length + 1 := ⟨_, rfl⟩
 rw [← hm] at s1 s2
 have HM := qH hm
 clear hb hd hdB hdl hS hzz hz0 hcc hm
 go_enter Tryd.func47, Tryd.ntmps47
 go_wp2_with (first
  | ((with_reducible refine atDst 8 ?_); refine wpList_bld rfl 49 _ rfl cc HBN.out ?_; (try simp only [Act.put, qA, qB, qC]))
  | ((with_reducible refine atDst 9 ?_); refine wpList_bldN rfl 22 49 (.tmp 8) rfl i0 Tryd.underlying22 hi0 zz HZL.out HZ0.out hs0 cc HC6.out rfl ?_; intro w1 hk1 hb1; have K1 := qH hk1; have B1 := qH hb1; clear hk1 hb1; (try simp only [Act.put, qA, qB, qC]))
  | ((with_reducible refine atDst 10 ?_); refine wpList_appN rfl (.tmp 7) (.tmp 9) 22 rfl 49 i0 zz Tryd.underlying22 hi0 HZL.out HZ0.out hs0 hy0 (.slice A0 S.length c0) S.length (cellsN S fv).flatten rfl (own6_stay X.out.own fun j hj => B1.out.block j (own6_lt X.out.own j hj).1) w.heap.size 1 49 cc HC6.out HC1.out rfl K1.out (by have := HS.out; omega) (Nat.le_trans HB.out B1.out.size) ?_; intro v2 w2 ho2 hg2 hw2; obtain ⟨A2, c2, rfl⟩ : ∃ A c, v2 = .slice A m c := (by rw [HM.out]; exact own_form6 ho2); have O2 := qH (bState_end X.out HD.out HDB.out HDL.out HB.out B1.out (by rw [HC.out] at ho2; exact ho2) hg2 hw2); have e2 := O2.out.1; have f2 := O2.out.2.1; have L2 := qH (World.block_lt_of_cell? _ _ e2); have n2 := World.cell?_setCell_same' w2 _ (.slice A2 m c2) (by rw [e2]; rfl); clear ho2 hg2 hw2; (try simp only [Act.put, qA, qB, qC])))
 go_ret
 exact ⟨rfl, O2.out.2.2⟩
theorem bLink_end {w w4 w5 : World} {B g gl c0 f t : Nat} {D : Nat → Prop} {S : List St} {v5 : Value} {fv : Nat → Value} {s : St} (x : Bld w B g (.slice (some ⟨gl, 0, none⟩) S.length c0) fv S) (hD : ∀ k, Bd g (.slice (some ⟨gl, 0, none⟩) S.length c0) fv S.length k → D k) (hdB : ∀ k, D k → B ≤ k) (hdl : ∀ k, D k → k < w.heap.size)
  (hB : B ≤ w.heap.size) (hs : S[f]? = some s) (b4 : Below w.heap.size w w4) (ho : w5.ownsRow B 3 1 v5 (s.free.length + (nums .i64 [(t : Int)]).length) (nums .i64 s.free ++ nums .i64 [(t : Int)])) (hg : w4.grownBy w5 (fv f).ownBlock) (hw : ∀ k, v5.ownBlock = some k → (fv f).ownBlock = some k ∨ w4.heap.size ≤ k) :
  w5.cell? ⟨gl, f * 6 + 5, none⟩ = some (fv f) ∧ w5.frozen? ⟨gl, f * 6 + 5, none⟩ = false ∧ BPost w B g D (linkI S f [(t : Int)]) (w5.setCell ⟨gl, f * 6 + 5, none⟩ v5) := by
 have hs4 := b4.size
 have hs5 := hg.size
 have hf := (List.getElem?_eq_some_iff.1 hs).1
 have hgl : gl < w.heap.size := x.lt (.inr (.inl rfl))
 have hng : gl ≠ g := fun e => x.lg (by rw [← e]; rfl)
 have nfl : ∀ i, i < S.length → (fv i).ownBlock ≠ some gl := fun i hi e => x.fl i gl hi e rfl
 have hsz : (w5.setCell ⟨gl, f * 6 + 5, none⟩ v5).heap.size = w5.heap.size := by simp
 have hkeep : ∀ k, k < w.heap.size → (fv f).ownBlock ≠ some k → w5.heap[k]? = w.heap[k]? := fun k hk hn => (hg.block k (by omega) fun e => hn e.symm).trans (b4.block k hk)
 have hother : ∀ k, k ≠ gl → (w5.setCell ⟨gl, f * 6 + 5, none⟩ v5).heap[k]? = w5.heap[k]? := fun k hk => Below.heap_setCell w5 ⟨gl, f * 6 + 5, none⟩ v5 k hk
 have n5 : v5.ownBlock ≠ some gl := fun e => by
  rcases hw gl e with e | e
  ·exact nfl f hf e
  ·omega
 have own5 : w5.ownsRow B 49 6 (.slice (some ⟨gl, 0, none⟩) S.length c0) S.length (cellsN S fv).flatten := own6_stay x.own fun j hj => hkeep j (own6_lt x.own j hj).1 fun e => x.fl f j hf e hj
 have hcell : (cellsN S fv).flatten[f * 6 + 5]? = some (fv f) := by rw [cellsN_flat S fv hs (by omega)]; rfl
 have hset : (cellsN S fv).flatten.set (f * 6 + 5) v5 = (cellsN (linkI S f [(t : Int)]) (updV fv f v5)).flatten := by
  have hc : (cellsN S fv)[f]? = some (stc s (fv f)) := by rw [cellsN_get, hs]; rfl
  rw [flat6_set (cellsN_six S fv) v5 hc (by omega)]
  unfold linkI
  rw [cellsN_mod hs _ v5]
  rfl
 have hlen : (linkI S f [(t : Int)]).length = S.length := linkI_len _ _ _
 have hfrees : ∀ i s', (linkI S f [(t : Int)])[i]? = some s' → if i = f then s'.free = s.free ++ [(t : Int)] else S[i]? = some s' := fun i s' h => by
  unfold linkI at h
  rw [List.getElem?_modify] at h
  by_cases hi : f = i
  ·subst hi
   rw [hs] at h
   rw [if_pos rfl]
   simp at h
   rw [← h]
  ·rw [if_neg fun e => hi e.symm]
   cases h0 : S[i]? with
   | none => rw [h0] at h; cases h
   | some a => rw [h0] at h; simp [hi] at h; rw [h]
 have hu : ∀ i, i ≠ f → updV fv f v5 i = fv i := fun i hi => by unfold updV; rw [if_neg hi]
 refine ⟨(own_cell own5 hcell).1, (own_cell own5 hcell).2, ⟨⟨⟨.slice (some ⟨gl, 0, none⟩) S.length c0, updV fv f v5, ⟨?_, ?_, fun i s' hs' => ?_, x.lg, fun i hi e => ?_, fun i k hi e e' => ?_, fun i j k hi hj hij e e' => ?_⟩, fun k hk => ?_⟩, fun k hk => ?_, fun k hk => ?_⟩, ?_, hB⟩⟩
 ·exact (hother g hng.symm).trans ((hkeep g x.blk.lt (x.fg f hf)).trans x.blk)
 ·rw [hlen, ← hset]
  exact own_set own5 (List.getElem?_eq_some_iff.1 hcell).1 v5
 ·have hi : i < S.length := by rw [← hlen]; exact (List.getElem?_eq_some_iff.1 hs').1
  have h1 := hfrees i s' hs'
  by_cases hif : i = f
  ·subst hif
   rw [if_pos rfl] at h1
   rw [upd_at, h1, List.length_append, nums_append]
   exact own6_stay ho fun j hj => hother j (by rintro rfl; exact n5 hj)
  ·rw [if_neg hif] at h1
   rw [hu i hif]
   have h2 := x.free i s' h1
   refine own6_stay h2 fun j hj => (hother j (by rintro rfl; exact nfl i hi hj)).trans (hkeep j (own6_lt h2 j hj).1 fun e => x.ff i f j hi hf hif hj e)
 ·rw [hlen] at hi
  by_cases hif : i = f
  ·subst hif
   rw [upd_at] at e
   rcases hw g e with e | e
   ·exact x.fg i hi e
   ·have := x.blk.lt; omega
  ·rw [hu i hif] at e
   exact x.fg i hi e
 ·rw [hlen] at hi
  by_cases hif : i = f
  ·subst hif
   rw [upd_at] at e
   have : k = gl := by
    have h3 : some gl = some k := e'
    exact (Option.some.inj h3).symm
   rw [this] at e
   exact n5 e
  ·rw [hu i hif] at e
   exact x.fl i k hi e e'
 ·rw [hlen] at hi hj
  by_cases hif : i = f
  ·subst hif
   have hjf : j ≠ i := fun h => hij h.symm
   rw [upd_at] at e
   rw [hu j hjf] at e'
   rcases hw k e with e | e
   ·exact x.ff i j k hi hj hij e e'
   ·have := x.lt (.inr (.inr ⟨j, hj, e'⟩)); omega
  ·rw [hu i hif] at e
   by_cases hjf : j = f
   ·subst hjf
    rw [upd_at] at e'
    rcases hw k e' with e' | e'
    ·exact x.ff i j k hi hj hij e e'
    ·have := x.lt (.inr (.inr ⟨i, hi, e⟩)); omega
   ·rw [hu j hjf] at e'
    exact x.ff i j k hi hj hij e e'
 ·rcases hk with rfl | hk | ⟨i, hi, hk⟩
  ·exact .inl (hD _ (.inl rfl))
  ·exact .inl (hD _ (.inr (.inl hk)))
  ·rw [hlen] at hi
   by_cases hif : i = f
   ·subst hif
    rw [upd_at] at hk
    rcases hw k hk with h | h
    ·exact .inl (hD _ (.inr (.inr ⟨i, hi, h⟩)))
    ·exact .inr ⟨by omega, by rw [hsz]; exact (own6_lt ho k hk).1⟩
   ·rw [hu i hif] at hk
    exact .inl (hD _ (.inr (.inr ⟨i, hi, hk⟩)))
 ·rcases hk with hk | hk
  ·exact hdB k hk
  ·exact Nat.le_trans hB hk.1
 ·rcases hk with hk | hk
  ·have := hdl k hk; rw [hsz]; omega
  ·exact hk.2
 ·exact ((Off.new D b4).trans (Off.grown hg fun k hk => .inr (hD k (.inr (.inr ⟨f, hf, hk⟩))))).trans (Off.set w5 _ v5 (hD gl (.inr (.inl rfl))))
theorem wp_stL {o : Oper} {a : Act} {w : World} {K : Act → World → Prop} {Q : Exit → Act → World → Prop} (x y : Operand) (ho : o.op = .store 43 x y) (g q : Nat) (hx : a.eval x = .pointer (some ⟨g, q, none⟩)) (A : Option Addr) (n c : Nat) (hy : a.eval y = .slice A n c)
  (u : Value) (hc : w.cell? ⟨g, q, none⟩ = some u) (hf : w.frozen? ⟨g, q, none⟩ = false) (h : K (a.put o.dst undef) (w.setCell ⟨g, q, none⟩ (.slice A n c))) : o.wp Tryd.prog a w K Q := by
 unfold Oper.wp execOp
 simp only [ho, hx, hy]
 have hrun : (Instr.storeAt 43 (.pointer (some ⟨g, q, none⟩)) (.slice A n c)).run Tryd.prog w = .ok () (w.setCell ⟨g, q, none⟩ (.slice A n c)) := by
  go_simp
 simp only [Sem.run_bind, hrun, Result.andThen_ok, Sem.run_pure]
 exact h
theorem ld_ints9 {ev : Operand → Value} {o : Oper} (x : Operand) (ho : o.op = .load 43 x) {p : Addr} (hx : ev x = .pointer (some p)) {A : Option Addr} {n c : Nat} {W : World} (hc : W.cell? p = some (.slice A n c)) : (execOp ev o).run Tryd.prog W = .ok (.value (.slice A n c)) W := by
 simp only [execOp, ho, hx]
 go_simp
set_option maxHeartbeats 4000000 in
set_option maxRecDepth 1000000 in
theorem bLink_any {B g : Nat} {D : Nat → Prop} {S : List St} {s : St} (f t : Nat) (w : World) (h : BldV w B g D S) (hs : S[f]? = some s) (hS : S.length ≤ 2000) (hfr : s.free.length ≤ 8) :
  Calls Tryd.prog 49 #[.pointer (some ⟨g, 0, none⟩), .int .i64 (f : Int), .int .i64 (t : Int)] w fun e w' => e = .returned (.tuple #[]) ∧ BPost w B g D (linkS S f t) w' := by
 have HB := qH h.size
 obtain ⟨⟨lv, fv, hb, hd⟩, hdB, hdl⟩ := h
 have hf := (List.getElem?_eq_some_iff.1 hs).1
 obtain ⟨gl, c0, rfl, _⟩ : ∃ gl c0, lv = .slice (some ⟨gl, 0, none⟩) S.length c0 ∧ True := by
  rcases hb.own.2 with ⟨_, h0⟩ | ⟨g', cap, cur, he, _⟩
  ·omega
  ·exact ⟨g', cap, he, trivial⟩
 obtain ⟨nf, hnf⟩ : ∃ n, n = s.free.length := ⟨_, rfl⟩
 obtain ⟨Af, cf, hfv⟩ : ∃ A c, fv f = .slice A nf c := by rw [hnf]; exact own_form6 (hb.free f s hs)
 have X := qH hb
 have HD := qH hd
 have HDB := qH hdB
 have HDL := qH hdl
 have HNS := qH hS
 have HSF := qH hs
 have HNF := qH hnf
 have HF8 := qH (show nf ≤ 8 by omega)
 have HFV := qH hfv
 have f1 : (f : Int) < (S.length : Int) := by omega
 have HGL := qH (show gl < w.heap.size from hb.lt (.inr (.inl rfl)))
 have HG0 := qH hb.blk.lt
 have HD0 := qH (hb.blk.cell 0)
 simp only [List.getElem?_cons_zero] at HD0
 have HCF := qH (show w.cell? ⟨gl, f * 6 + 5, none⟩ = some (.slice Af nf cf) from (own_cell hb.own (by rw [cellsN_flat S fv hs (by omega), ← hfv]; rfl)).1)
 obtain ⟨i1, hi1, hy0, hy1, hy2⟩ := infoP inf_int
 obtain ⟨Dl, hDl⟩ : ∃ P : Nat → Prop, P = fun k => k = gl ∨ (fv f).ownBlock = some k := ⟨_, rfl⟩
 have HNG := qH (show ¬ Dl g by
  rw [hDl]
  rintro (e | e)
  ·exact hb.lg (by rw [e]; rfl)
  ·exact hb.fg f hf e)
 have HDF := qH (show ∀ k, (fv f).ownBlock = some k → Dl k by rw [hDl]; exact fun k hk => .inr hk)
 have HDG := qH (show Dl gl by rw [hDl]; exact .inl rfl)
 clear hb hd hdB hdl hS hs hf hnf hfv hDl hfr
 go_enter Tryd.func49, Tryd.ntmps49
 go_wp2_with fail
 refine sg_start (S := Off Dl w) (by kernel_rfl) (Off.start _ _) (fun wd hwd => ?_)
 have hX : Off Dl w wd := by rw [hwd]; exact Off.start _ _
 have BD := qH (show Below w.heap.size w wd by rw [hwd]; exact (Below.refl _ _).drew)
 clear hwd
 have HCF2 := qH ((BD.out.cell (p := ⟨gl, f * 6 + 5, none⟩) HGL.out).trans HCF.out)
 refine sg_take (i := 0) (oi := ⟨some 6, _, _, _, _, _⟩) (v := ?_) rfl (by kernel_rfl) (by kernel_rfl) (by kernel_rfl) (fun _ _ _ h => h) rfl hX ?_ ?_; rotate_left; (intro W hW; go_simp; try with_reducible rfl); simp only [Act.put, qA, qB, qC]
 refine sg_take (i := 1) (oi := ⟨some 7, _, _, _, _, _⟩) (v := ?_) rfl (by kernel_rfl) (by kernel_rfl) (by kernel_rfl) (fun _ _ _ h => h) rfl hX ?_ ?_; rotate_left; (intro W hW; go_simp; try with_reducible rfl); simp only [Act.put, qA, qB, qC]
 refine sg_take (i := 2) (oi := ⟨some 8, _, _, _, _, _⟩) (v := ?_) rfl (by kernel_rfl) (by kernel_rfl) (by kernel_rfl) (fun _ _ _ h => h) rfl hX ?_ ?_; rotate_left; (intro W hW; go_simp; try with_reducible rfl); simp only [Act.put, qA, qB, qC]
 refine sg_take (i := 3) (oi := ⟨some 9, _, _, _, _, _⟩) (v := .slice (some ⟨gl, 0, none⟩) S.length c0) rfl (by kernel_rfl) (by kernel_rfl) (by kernel_rfl) (fun _ _ _ h => h) rfl hX (fun W hW => ld_sts (.tmp 8) rfl rfl (hW.cell HG0.out HNG.out HD0.out)) ?_; simp only [Act.put, qA, qB, qC]
 refine sg_take (i := 4) (oi := ⟨some 10, _, _, _, _, _⟩) (v := ?_) rfl (by kernel_rfl) (by kernel_rfl) (by kernel_rfl) (fun _ _ _ h => h) rfl hX ?_ ?_; rotate_left; (intro W hW; go_simp; try with_reducible rfl); simp only [Act.put, qA, qB, qC]
 refine sg_take (i := 5) (oi := ⟨some 11, _, _, _, _, _⟩) (v := ?_) rfl (by kernel_rfl) (by kernel_rfl) (by kernel_rfl) (fun _ _ _ h => h) rfl hX ?_ ?_; rotate_left; (intro W hW; go_simp; try with_reducible rfl); simp only [Act.put, qA, qB, qC]
 refine sg_take (i := 6) (oi := ⟨some 12, _, _, _, _, _⟩) (v := ?_) rfl (by kernel_rfl) (by kernel_rfl) (by kernel_rfl) (fun _ _ _ h => h) rfl hX ?_ ?_; rotate_left; (intro W hW; go_simp; try with_reducible rfl); simp only [Act.put, qA, qB, qC]
 refine sg_take (i := 7) (oi := ⟨some 13, _, _, _, _, _⟩) (v := ?_) rfl (by kernel_rfl) (by kernel_rfl) (by kernel_rfl) (fun _ _ _ h => h) rfl hX ?_ ?_; rotate_left; (intro W hW; go_simp; try with_reducible rfl); simp only [Act.put, qA, qB, qC]
 refine sg_take (i := 8) (oi := ⟨some 14, _, _, _, _, _⟩) (v := .slice (some ⟨gl, 0, none⟩) S.length c0) rfl (by kernel_rfl) (by kernel_rfl) (by kernel_rfl) (fun _ _ _ h => h) rfl hX (fun W hW => ld_sts (.tmp 13) rfl rfl (hW.cell HG0.out HNG.out HD0.out)) ?_; simp only [Act.put, qA, qB, qC]
 refine sg_take (i := 9) (oi := ⟨some 15, _, _, _, _, _⟩) (v := ?_) rfl (by kernel_rfl) (by kernel_rfl) (by kernel_rfl) (fun _ _ _ h => h) rfl hX ?_ ?_; rotate_left; (intro W hW; go_simp; try with_reducible rfl); simp only [Act.put, qA, qB, qC]
 refine sg_take (i := 10) (oi := ⟨some 16, _, _, _, _, _⟩) (v := ?_) rfl (by kernel_rfl) (by kernel_rfl) (by kernel_rfl) (fun _ _ _ h => h) rfl hX ?_ ?_; rotate_left; (intro W hW; go_simp; try with_reducible rfl); simp only [Act.put, qA, qB, qC]
 refine sg_take (i := 11) (oi := ⟨some 17, _, _, _, _, _⟩) (v := ?_) rfl (by kernel_rfl) (by kernel_rfl) (by kernel_rfl) (fun _ _ _ h => h) rfl hX ?_ ?_; rotate_left; (intro W hW; go_simp; try with_reducible rfl); simp only [Act.put, qA, qB, qC]
 refine sg_take (i := 13) (oi := ⟨some 19, _, _, _, _, _⟩) (v := ?_) rfl (by kernel_rfl) (by kernel_rfl) (by kernel_rfl) (fun _ _ _ h => h) rfl hX ?_ ?_; rotate_left; (intro W hW; go_simp; try with_reducible rfl); simp only [Act.put, qA, qB, qC]
 refine sg_two (i := 12) (j := 14) (oi := ⟨some 18, _, _, _, _, _⟩) (oj := ⟨some 20, _, _, _, _, _⟩) rfl rfl (by kernel_rfl) rfl rfl hX (fun K hK => ?_) (fun K hK => ?_)
 focus
  refine wp_of_run (ld_ints9 (.tmp 17) rfl rfl HCF2.out) ?_
  refine hK _ _ hX ?_
  clear hK K
  (try simp only [Act.put, qA, qB, qC])
  refine sg_actB (i := 14) (o := ⟨some 20, _, _, _, _, _⟩) rfl (by kernel_rfl) rfl hX (fun K hK => ?_)
  refine wp_bldI 43 3 (.tmp 19) rfl i1 Tryd.underlying43 hi1 0 hy0 hy1 (t : Int) rfl ?_
  intro w4 hr4 hb4
  have R4 := qH hr4
  have B4 := qH (BD.out.trans (hb4.mono BD.out.size))
  refine hK _ _ (hX.trans (Off.new _ hb4)) ?_
  clear hK K
  (try simp only [Act.put, qA, qB, qC])
  replace hX := hX.trans (Off.new _ hb4)
  clear hr4 hb4
 rotate_left
 focus
  refine wp_bldI 43 3 (.tmp 19) rfl i1 Tryd.underlying43 hi1 0 hy0 hy1 (t : Int) rfl ?_
  intro w4 hr4 hb4
  have R4 := qH hr4
  have B4 := qH (BD.out.trans (hb4.mono BD.out.size))
  refine hK _ _ (hX.trans (Off.new _ hb4)) ?_
  clear hK K
  (try simp only [Act.put, qA, qB, qC])
  replace hX := hX.trans (Off.new _ hb4)
  clear hr4 hb4
  have HCF4 := qH ((B4.out.cell (p := ⟨gl, f * 6 + 5, none⟩) HGL.out).trans HCF.out)
  refine sg_actB (i := 12) (o := ⟨some 18, _, _, _, _, _⟩) rfl (by kernel_rfl) rfl hX (fun K hK => ?_)
  refine wp_of_run (ld_ints9 (.tmp 17) rfl rfl HCF4.out) ?_
  refine hK _ _ hX ?_
  clear hK K
  (try simp only [Act.put, qA, qB, qC])
  clear HCF4
 rotate_left
 all_goals
  refine sg_actB (i := 15) (o := ⟨some 21, _, _, _, _, _⟩) rfl (by kernel_rfl) rfl hX (fun K hK => ?_)
  have OF := qH (show w4.ownsRow B 3 1 (fv f) s.free.length (nums .i64 s.free) from ownBelow (X.out.free f s HSF.out) B4.out (Nat.le_refl _))
  refine wp_appW (.tmp 18) (.tmp 20) 43 rfl 3 i1 (.int .i64 0) 8 Tryd.underlying43 hi1 hy0 hy1 hy2 rfl (fv f) s.free.length (nums .i64 s.free) HFV.out.symm OF.out _ (nums .i64 [(t : Int)]) rfl R4.out (nums_one _ _) (by have := HF8.out; rw [HNF.out] at this; rw [nums_length .i64 [(t : Int)]]; simp only [List.length_singleton]; omega) (by omega) (Nat.le_trans HB.out B4.out.size) ?_
  intro v5 w5 ho5 hg5 hw5
  obtain ⟨A5, c5, rfl⟩ := own_form6 ho5
  have hE := bLink_end X.out HD.out HDB.out HDL.out HB.out HSF.out B4.out ho5 hg5 hw5
  have hoff : Off Dl w4 w5 := Off.grown hg5 fun k hk => .inr (HDF.out k hk)
  clear ho5 hg5 hw5
  generalize s.free.length + (nums .i64 [(t : Int)]).length = n5 at hE ⊢
  have E5 := qH hE
  clear hE
  refine hK _ _ (hX.trans hoff) ?_
  clear hK K
  (try simp only [Act.put, qA, qB, qC])
  replace hX := hX.trans hoff
  clear hoff
  refine sg_take (i := 16) (oi := ⟨some 22, _, _, _, _, _⟩) (v := ?_) rfl (by kernel_rfl) (by kernel_rfl) (by kernel_rfl) (fun _ _ _ h => h) rfl hX ?_ ?_; rotate_left; (intro W hW; go_simp; try with_reducible rfl); simp only [Act.put, qA, qB, qC]
  refine sg_take (i := 17) (oi := ⟨some 23, _, _, _, _, _⟩) (v := ?_) rfl (by kernel_rfl) (by kernel_rfl) (by kernel_rfl) (fun _ _ _ h => h) rfl hX ?_ ?_; rotate_left; (intro W hW; go_simp; try with_reducible rfl); simp only [Act.put, qA, qB, qC]
  refine sg_actB (i := 18) (o := ⟨none, _, _, _, _, _⟩) rfl (by kernel_rfl) rfl hX (fun K hK => ?_)
  refine wp_stL (.tmp 23) (.tmp 21) rfl gl (f * 6 + 5) rfl A5 n5 c5 rfl _ E5.out.1 E5.out.2.1 ?_
  refine hK _ _ (hX.trans (Off.set _ _ _ HDG.out)) ?_
  clear hK K
  refine wpAnyH_done (by kernel_rfl) ?_ _
  clear hX
  go_wp2_with fail
  go_end0
  exact ⟨rfl, E5.out.2.2⟩
mutual
theorem depth_nodes : ∀ t : T, t.depth ≤ t.nodes
 | .node _ _ l => by
  have := depthL_nodes l
  simp only [T.depth, T.nodes]
  omega
theorem depthL_nodes : ∀ l : List T, depthL l ≤ nodesL l
 | [] => Nat.le_refl _
 | t :: r => by
  have := depth_nodes t
  have := depthL_nodes r
  simp only [depthL, nodesL]
  omega
end
set_option maxHeartbeats 4000000 in
set_option maxRecDepth 1000000 in
theorem rxDepth_any : ∀ (N : Nat) (t : T), t.nodes ≤ N → t.nodes ≤ 1099511627776 → ∀ (cs : List Value) (w : World), RxV w.heap.size w cs t →
  Calls Tryd.prog 45 #[.agg cs.toArray] w fun e w' => e = .returned (.int .i64 (t.depth : Int)) ∧ Below w.heap.size w w' := by
 intro N
 induction N with
 | zero => intro t h; have := nodes_pos t; omega
 | succ N ih =>
  rintro ⟨k, s, l⟩ hN hM cs w hv
  have IH := qH ih
  clear ih
  obtain ⟨A, cap, f, rfl, h1, h2, h0, h3, h4⟩ := hv.opened
  have H3 := qH h3
  have H4 := qH h4
  have HNN := qH (show T.nodes (.node k s l) = 1 + nodesL l by simp only [T.nodes])
  have HDD := qH (show T.depth (.node k s l) = depthL l + 1 by simp only [T.depth])
  rw [HNN.out] at hN hM
  have HN := qH hN
  have HM := qH hM
  have HCM := qH h2
  have HCL := qH h1
  obtain ⟨cs, hcs⟩ : ∃ cs, cs = Value.int .i64 k :: (wds s ++ [.slice A l.length cap]) := ⟨_, rfl⟩
  have HC5 := qH (show cs[5]? = some (.slice A l.length cap) by rw [hcs]; rfl)
  rw [← hcs]
  obtain ⟨i0, hi0, hz0, hz1, hz2⟩ := inf_rx'
  obtain ⟨z, hz⟩ : ∃ z, z = rxc 0 zeroS (.slice none 0 0) := ⟨_, rfl⟩
  have HZL := qH (show z.length = 6 by rw [hz]; rfl)
  have HZ0 := qH (show i0.zero = some (.agg z.toArray) by rw [hz]; exact hz0)
  have HZ1 := qH hz0
  clear hz hz0
  clear hv h1 h2 h0 h3 h4 hcs hN hM
  rw [HDD.out]
  go_enter Tryd.func45, Tryd.ntmps45
  go_wp2_with ((with_reducible refine atDst 1 ?_); refine wpList_box rfl 58 _ rfl cs rfl (Below.refl w.heap.size w) (Nat.le_refl _) ?_; intro w1 hk1 hb1 hs1 _; have K1 := qH hk1; have B1 := qH hb1; have k5 := hk1.cell 5; rw [HC5.out] at k5; clear hk1 hb1 hs1)
  go_loopw [3, 9] (fun n i wl => ∃ j : Nat, j ≤ l.length ∧ i = .int .i64 (j : Int) ∧ n = .int .i64 ((depthL (l.take j) : Nat) : Int) ∧ Below w1.heap.size w1 wl) (fun _ i _ => l.length - (intOf i).toNat)
  case atStart => exact ⟨0, by omega, by simp, by simp [depthL], Below.refl _ _⟩
  case round =>
   obtain ⟨j, hj, rfl, rfl, hb⟩ := hrel
   have HB := qH hb
   clear hb
   by_cases hjl : j < l.length
   ·have j1 : (j : Int) < (l.length : Int) := Int.ofNat_lt.2 hjl
    obtain ⟨b, off, rfl, hb, hrng⟩ := H3.out (by rintro rfl; simp at hjl)
    have BW := qH (B1.out.trans (HB.out.mono B1.out.size))
    obtain ⟨u, hu⟩ : ∃ u, l[j]? = some u := ⟨_, List.getElem?_eq_getElem hjl⟩
    have HV := qH (RxV.part H4.out BW.out BW.out.size hu)
    have HV6 := qH HV.out.length
    have HV1 := qH (show (f j).all (·.oneCell') = true from List.all_eq_true.2 (RxD.one HV.out))
    have HRG := qH (range_below (hrng j hjl) BW.out hb)
    have HU := qH hu
    have HUN := qH (show u.nodes ≤ N by have h1 := nodes_mem (List.mem_of_getElem? hu); have := HN.out; omega)
    have HUM := qH (show u.nodes ≤ 1099511627776 by have h1 := nodes_mem (List.mem_of_getElem? hu); have := HM.out; omega)
    have HJ1 := qH hjl
    have e3 := wrap_len hjl HCL.out HCM.out
    have e4 := wrap_len' hjl HCL.out HCM.out
    clear hrng hu hb hj hjl
    obtain ⟨a, ha⟩ : ∃ a, a = depthL (l.take j) := ⟨_, rfl⟩
    obtain ⟨c, hc⟩ : ∃ c, c = u.depth := ⟨_, rfl⟩
    have HCC := qH hc
    have HS := qH (show max a c = depthL (l.take (j + 1)) by rw [depthL_next l j u HU.out, ha, hc])
    rw [← ha]
    clear ha hc
    go_wp2_with (first
     | ((with_reducible refine atDst 12 ?_); refine wpList_load_mid rfl 58 _ rfl b (off + j * 6) rfl (f j) _ HRG.out Tryd.underlying58 rfl (size_rx HV6.out) ?_; (try simp only [Act.put, qA, qB, qC]))
     | ((with_reducible refine atDst 5 ?_); refine wpList_new rfl 58 rfl i0 _ z hi0 HZ0.out rfl (Below.refl wr.heap.size wr) (Nat.le_refl _) ?_; intro w4 hk4 hb4 hs4 _; have K4 := qH hk4; have B4 := qH hb4; clear hk4 hb4 hs4; (try simp only [Act.put, qA, qB, qC]))
     | ((with_reducible refine atStore 58 5 12 ?_); refine wpList_stBlk rfl 58 _ _ rfl wr.heap.size (f j) rfl rfl 58 _ K4.out (size_rx HV6.out) (by rw [HZL.out, HV6.out]) HV1.out B4.out (Nat.le_refl _) ?_; intro w5 hk5 hb5 hs5 _; have K5 := qH hk5; have B5 := qH hb5; clear hk5 hb5 hs5; (try simp only [Act.put, qA, qB, qC]))
     | ((with_reducible refine atDst 14 ?_); refine wpList_ldArr rfl 58 _ rfl wr.heap.size rfl 58 _ _ K5.out Tryd.underlying58 rfl (size_rx HV6.out) ?_; (try simp only [Act.put, qA, qB, qC])))
    refine (IH.out u HUN.out HUM.out (f j) w5 (RxV.mono (HV.out.stay B5.out) B5.out.size)).mono ?_
    rintro e w6 ⟨rfl, hb6⟩
    have B6 := qH (HB.out.trans ((B5.out.trans (hb6.mono B5.out.size)).mono HB.out.size))
    clear hb6
    rw [← HCC.out]
    go_wp2_with fail
    exact ⟨⟨j + 1, HJ1.out, by congr 1, by rw [← HS.out]; congr 1; omega, B6.out⟩, by simpa [intOf] using sub_next HJ1.out⟩
   ·obtain rfl : j = l.length := by omega
    have j1 : ¬ ((l.length : Int) < (l.length : Int)) := by omega
    have B9 := qH (B1.out.trans (HB.out.mono B1.out.size))
    rw [List.take_length]
    obtain ⟨a, ha⟩ : ∃ a, a = depthL l := ⟨_, rfl⟩
    have hle : a ≤ 4611686018427387904 := by rw [ha]; have h1 := depthL_nodes l; have := HM.out; omega
    rw [← ha]
    have e5 : IntKind.i64.wrap (1 + (a : Int)) = ((a + 1 : Nat) : Int) := by rw [Int.add_comm]; exact wrap_one' a hle
    have e6 : wrap64 (1 + (a : Int)) = ((a + 1 : Nat) : Int) := by rw [Int.add_comm]; exact wrap_one a hle
    have HAA := qH ha
    clear ha hle
    go_wp2_with fail
    go_ret
    exact ⟨congrArg (fun x : Nat => Ending.returned (.int .i64 ((x : Int) + 1))) HAA.out, B9.out⟩
end Go.Proofs.YteadghoojeehlaaDoor
