/-
  Texts of this proof, put together: LkH. No statement is proved here.
-/
import Derived.Test.YtlohehcfplkjbaaZU
import Derived.Test.YtlohehcfplkjbaaZX
namespace Go.Proofs.Ytlohehcfplkjbaa
open Go.RowKit
set_option linter.unusedSimpArgs false
set_option linter.unusedVariables false
theorem built_ptS (A B C : Option Addr) (n c : Nat) : Try.prog.built 77 [(1, .slice A n c), (2, .slice B n c), (3, .slice C n c)] = some #[.slice none 0 0, .slice A n c, .slice B n c, .slice C n c] := by kernel_rfl
theorem ex_bldPt {ev : Operand → Value} {o : Oper} (x y z : Operand) (ho : o.op = .build 77 #[(1, x), (2, y), (3, z)]) {A B C : Option Addr} {n c : Nat} (hx : ev x = .slice A n c) (hy : ev y = .slice B n c) (hz : ev z = .slice C n c) (W : World) : (execOp ev o).run Try.prog W = .ok (.value (.agg #[.slice none 0 0, .slice A n c, .slice B n c, .slice C n c])) W := by
 have h := built_ptS A B C n c
 have hr := run_build W 77 _ _ h
 unfold execOp
 simp only [ho, Sem.run_bind, List.map_toArray, List.map_cons, List.map_nil, hx, hy, hz, hr, Result.andThen_ok, Sem.run_pure]
theorem oneEndP {H X : Nat → Nat → Nat → Nat → World → Prop} {G : Prop} (main : (∀ p a b c w', H p a b c w' → X p a b c w') → G) (fin : ∀ p a b c w', H p a b c w' → X p a b c w') : G := main fin
theorem prt_one (n : Nat) : prt n (fun _ => 0) 0 = List.range n := by
 unfold prt
 rw [List.filter_eq_self]
 intro s _
 rfl
theorem apt_blks {w : World} {H m : Nat} {G : Nat → Nat} {X : Nat → List Value} (h : ∀ i, i < m → Blk w (G i) (tyU i) (X i)) (hH : ∀ i, i < m → H ≤ G i) (hl : ∀ i, i < m → (X i).length ≤ 2000) (hj : ∀ i j, i < m → j < m → G i = G j → i = j) : Apt w H m (fun i => .slice (some ⟨G i, 0, none⟩) (X i).length (X i).length) X := by
 refine ⟨fun i hi => (h i hi).own (hH i hi) (by have := hl i hi; unfold maxLen; omega), fun i j hi hj2 hne k hk hk2 => ?_⟩
 have e1 : some (G i) = some k := hk
 have e2 : some (G j) = some k := hk2
 exact hne (hj i j hi hj2 (Option.some.inj (e1.trans e2.symm)))
def five {α : Type} (a b c d e : α) : Nat → α
 | 0 => a
 | 1 => b
 | 2 => c
 | 3 => d
 | _ => e
theorem five_all {α : Type} {a b c d e : α} {P : Nat → α → Prop} (h0 : P 0 a) (h1 : P 1 b) (h2 : P 2 c) (h3 : P 3 d) (h4 : P 4 e) (i : Nat) (hi : i < 5) : P i (five a b c d e i) := by
 have : i = 0 ∨ i = 1 ∨ i = 2 ∨ i = 3 ∨ i = 4 := by omega
 rcases this with rfl | rfl | rfl | rfl | rfl
 ·exact h0
 ·exact h1
 ·exact h2
 ·exact h3
 ·exact h4
theorem ncs_range (n : Nat) : ncs n (fun q => q) = nat64 (List.range n) := by
 unfold nat64
 rw [ncs_nums]
def upI (i : Nat) : Nat → Nat := fun q => if q < i then q else 0
theorem upI_zero (n : Nat) : (ncs n fun _ => 0) = ncs n (upI 0) := ncs_congr fun q _ => by unfold upI; rw [if_neg (Nat.not_lt_zero q)]
theorem upI_next {n i : Nat} : ncs n (updN (upI i) i i) = ncs n (upI (i + 1)) := ncs_congr fun q _ => by
 unfold updN upI
 by_cases h : q = i
 ·rw [if_pos h, if_pos (by omega), h]
 ·rw [if_neg h]
  by_cases h2 : q < i
  ·rw [if_pos h2, if_pos (by omega)]
  ·rw [if_neg h2, if_neg (by omega)]
theorem upI_all {n : Nat} : ncs n (upI n) = nat64 (List.range n) := by
 rw [← ncs_range]
 exact ncs_congr fun q hq => by unfold upI; rw [if_pos hq]
theorem pt_made {w : World} {H p n gt gi ga gc gl : Nat} (hn : n ≤ 2000) (hp : Blk w p 77 [.slice (some ⟨gt, 0, none⟩) 1 1, .slice (some ⟨ga, 0, none⟩) n n, .slice (some ⟨gi, 0, none⟩) n n, .slice (some ⟨gc, 0, none⟩) n n])
  (ht : Blk w gt 33 [.slice (some ⟨gl, 0, none⟩) n n]) (ha : Blk w ga 3 (ncs n fun _ => 0)) (hi : Blk w gi 4 (bcs n fun _ => false)) (hc : Blk w gc 3 (ncs n fun _ => 0)) (hl : Blk w gl 3 (nat64 (List.range n)))
  (h0 : H ≤ p) (h1 : H ≤ ga) (h2 : H ≤ gi) (h3 : H ≤ gc) (h4 : H ≤ gl) (h5 : H ≤ gt) (n1 : ga ≠ gi) (n2 : ga ≠ gc) (n3 : gi ≠ gc) (n4 : ga ≠ p) (n5 : gi ≠ p) (n6 : gc ≠ p) (l1 : ga < gl) (l2 : gi < gl) (l3 : gc < gl) (l4 : p < gl) (l5 : gl < gt) :
  PtV w H p (fun k => H ≤ k ∧ k < w.heap.size) n 1 (fun _ => 0) (fun _ => false) (fun _ => 0) := by
 have hA : Apt w H 5 (fun i => .slice (some ⟨five gt gi ga gc gl i, 0, none⟩) (five [.slice (some ⟨gl, 0, none⟩) n n] (bcs n fun _ => false) (ncs n fun _ => 0) (ncs n fun _ => 0) (nat64 (List.range n)) i).length (five [.slice (some ⟨gl, 0, none⟩) n n] (bcs n fun _ => false) (ncs n fun _ => 0) (ncs n fun _ => 0) (nat64 (List.range n)) i).length) (five [.slice (some ⟨gl, 0, none⟩) n n] (bcs n fun _ => false) (ncs n fun _ => 0) (ncs n fun _ => 0) (nat64 (List.range n))) := by
  refine apt_blks (fun i hi5 => ?_) (fun i hi5 => ?_) (fun i hi5 => ?_) (fun i j hi5 hj5 e => ?_)
  ·have : i = 0 ∨ i = 1 ∨ i = 2 ∨ i = 3 ∨ i = 4 := by omega
   rcases this with rfl | rfl | rfl | rfl | rfl
   ·exact ht
   ·exact hi
   ·exact ha
   ·exact hc
   ·exact hl
  ·exact five_all (P := fun _ x => H ≤ x) h5 h2 h1 h3 h4 i hi5
  ·exact five_all (P := fun _ (x : List Value) => x.length ≤ 2000) (by simp) (by rw [bcs_len]; exact hn) (by rw [ncs_len]; exact hn) (by rw [ncs_len]; exact hn) (by rw [nat64_len, List.length_range]; exact hn) i hi5
  ·have q1 : i = 0 ∨ i = 1 ∨ i = 2 ∨ i = 3 ∨ i = 4 := by omega
   have q2 : j = 0 ∨ j = 1 ∨ j = 2 ∨ j = 3 ∨ j = 4 := by omega
   rcases q1 with rfl | rfl | rfl | rfl | rfl <;> rcases q2 with rfl | rfl | rfl | rfl | rfl <;> simp only [five] at e <;> omega
 refine ⟨⟨_, _, ⟨?_, hA, fun i hi5 e => ?_, h0, (by
  show [Value.slice (some ⟨gl, 0, none⟩) n n] = [Value.slice (some ⟨gl, 0, none⟩) (nat64 (List.range n)).length (nat64 (List.range n)).length]
  rw [nat64_len, List.length_range]), rfl, rfl, rfl, fun k hk => ?_⟩, fun k hk => ?_⟩, fun k hk => hk.1, fun k hk => hk.2⟩
 ·show Blk w p _ [.slice (some ⟨gt, 0, none⟩) 1 1, .slice (some ⟨ga, 0, none⟩) (ncs n fun _ => 0).length (ncs n fun _ => 0).length, .slice (some ⟨gi, 0, none⟩) (bcs n fun _ => false).length (bcs n fun _ => false).length, .slice (some ⟨gc, 0, none⟩) (ncs n fun _ => 0).length (ncs n fun _ => 0).length]
  rw [ncs_len, bcs_len]
  exact hp
 ·have e : some (five gt gi ga gc gl i) = some p := e
  have e2 := Option.some.inj e
  exact five_all (P := fun _ x => x ≠ p) (by omega) n5 n4 n6 (by omega) i hi5 e2
 ·obtain rfl : k = 0 := by omega
  show nat64 (List.range n) = _
  rw [prt_one]
 ·rcases hk with rfl | ⟨i, hi5, e⟩
  ·exact ⟨h0, hp.lt⟩
  ·have e2 := Option.some.inj (show some (five gt gi ga gc gl i) = some k from e)
   rw [← e2]
   exact five_all (P := fun _ x => H ≤ x ∧ x < w.heap.size) ⟨h5, ht.lt⟩ ⟨h2, hi.lt⟩ ⟨h1, ha.lt⟩ ⟨h3, hc.lt⟩ ⟨h4, hl.lt⟩ i hi5
set_option maxHeartbeats 8000000 in
set_option maxRecDepth 1000000 in
theorem lNew_any (n : Nat) (w : World) (hn : n ≤ 2000) (hp : 1 ≤ n) :
  Calls Try.prog 48 #[.int .i64 (n : Int)] w fun e w' => ∃ p, e = .returned (.pointer (some ⟨p, 0, none⟩)) ∧ PtV w' w.heap.size p (fun k => w.heap.size ≤ k ∧ k < w'.heap.size) n 1 (fun _ => 0) (fun _ => false) (fun _ => 0) ∧ Below w.heap.size w w' := by
 obtain ⟨i1, hi1, hy0, hy1, hy2⟩ := infoP inf_int
 obtain ⟨i2, hi2, hb0, hb1, hb2⟩ := infoP inf_bool
 obtain ⟨il, hil, hl0, hl1, hl2⟩ := infoP inf_sl
 have HNF := qH hn
 have HNP := qH hp
 have HYB := qH (show i2.bytes * n ≤ 281474976710656 by rw [hb2]; omega)
 have HYI := qH (show i1.bytes * n ≤ 281474976710656 by rw [hy2]; omega)
 have HN3 := qH (show n ≤ 9223372036854775807 by omega)
 clear hn hp
 go_enter Try.func48, Try.ntmps48
 go_wp2_with fail
 apply oneEndP (H := fun gp ga gi gc w' => Blk w' gp 77 [.slice none 0 0, .slice (some ⟨ga, 0, none⟩) n n, .slice (some ⟨gi, 0, none⟩) n n, .slice (some ⟨gc, 0, none⟩) n n] ∧ Blk w' ga 3 (List.replicate n (.int .i64 0)) ∧ Blk w' gi 4 (List.replicate n (.bool false)) ∧ Blk w' gc 3 (List.replicate n (.int .i64 0)) ∧ w.heap.size ≤ gp ∧ w.heap.size ≤ ga ∧ w.heap.size ≤ gi ∧ w.heap.size ≤ gc ∧ ga ≠ gi ∧ ga ≠ gc ∧ gi ≠ gc ∧ ga ≠ gp ∧ gi ≠ gp ∧ gc ≠ gp ∧ Below w.heap.size w w')
 case main =>
  intro fin
  have FIN := qH fin
  clear fin
  refine mc_start (fun V => Below w.heap.size w V) (fun _ => True) 9 (by kernel_rfl) (fun wd hwd => ?_)
  have hX : Below w.heap.size w wd := by rw [hwd]; exact (Below.refl _ _).drew
  clear hwd
  obtain ⟨v0, hv0⟩ : ∃ v : World, v = wd := ⟨_, rfl⟩
  subst hv0
  refine mc_take (i := 0) (oi := ⟨some 6, _, _, _, _, _⟩) (v := ?_) rfl (by kernel_rfl) (by kernel_rfl) (by kernel_rfl) (fun _ _ _ h => h) rfl hX ?_ ?_; rotate_left; (intro W hW; go_simp; try with_reducible rfl); simp only [Act.put, qA, qB, qC]
  refine mc_take (i := 2) (oi := ⟨some 8, _, _, _, _, _⟩) (v := ?_) rfl (by kernel_rfl) (by kernel_rfl) (by kernel_rfl) (fun _ _ _ h => h) rfl hX ?_ ?_; rotate_left; (intro W hW; go_simp; try with_reducible rfl); simp only [Act.put, qA, qB, qC]
  refine mc_take (i := 4) (oi := ⟨some 10, _, _, _, _, _⟩) (v := ?_) rfl (by kernel_rfl) (by kernel_rfl) (by kernel_rfl) (fun _ _ _ h => h) rfl hX ?_ ?_; rotate_left; (intro W hW; go_simp; try with_reducible rfl); simp only [Act.put, qA, qB, qC]
  refine mc_three (i := 1) (j := 3) (k := 5) (oi := ⟨some 7, _, _, _, _, _⟩) (oj := ⟨some 9, _, _, _, _, _⟩) (ok := ⟨some 11, _, _, _, _, _⟩) rfl rfl rfl (by kernel_rfl) rfl rfl rfl (fun K hK => ?_) (fun K hK => ?_) (fun K hK => ?_)
  ·refine wp_mk _ _ 33 rfl 3 i1 (.int .i64 0) Try.underlying33 hi1 hy0 hy1 rfl n rfl rfl HYI.out HN3.out ?_
   intro v1 hk hb _
   obtain ⟨ga, hg⟩ : ∃ g, g = v0.heap.size := ⟨_, rfl⟩
   rw [← hg] at hk
   rw [← hg]
   have G1_1 := qH hk
   have P1 := qH (show w.heap.size ≤ ga by rw [hg]; exact hX.size)
   have hX2 := hX.trans (hb.mono hX.size)
   clear hk hb hg
   refine hK _ _ hX2 trivial ?_
   clear hK K hX
   (try simp only [Act.put, qA, qB, qC])
   have hX := hX2
   clear hX2
   refine mc_two (i := 3) (j := 5) (oi := ⟨some 9, _, _, _, _, _⟩) (oj := ⟨some 11, _, _, _, _, _⟩) rfl rfl (by kernel_rfl) rfl rfl (fun K hK => ?_) (fun K hK => ?_)
   ·refine wp_mk _ _ 26 rfl 4 i2 (.bool false) Try.underlying26 hi2 hb0 hb1 rfl n rfl rfl HYB.out HN3.out ?_
    intro v2 hk hb _
    obtain ⟨gi, hg⟩ : ∃ g, g = v1.heap.size := ⟨_, rfl⟩
    rw [← hg] at hk
    rw [← hg]
    have G3_2 := qH hk
    have P3 := qH (show w.heap.size ≤ gi by rw [hg]; exact hX.size)
    have G1_2 := qH (G1_1.out.below hb G1_1.out.lt)
    have N13 := qH (show ga ≠ gi by rw [hg]; exact Nat.ne_of_lt G1_1.out.lt)
    have hX2 := hX.trans (hb.mono hX.size)
    clear hk hb hg
    refine hK _ _ hX2 trivial ?_
    clear hK K hX
    (try simp only [Act.put, qA, qB, qC])
    have hX := hX2
    clear hX2
    refine mc_actB (i := 5) (o := ⟨some 11, _, _, _, _, _⟩) rfl (by kernel_rfl) rfl (fun K hK => ?_)
    refine wp_mk _ _ 33 rfl 3 i1 (.int .i64 0) Try.underlying33 hi1 hy0 hy1 rfl n rfl rfl HYI.out HN3.out ?_
    intro v3 hk hb _
    obtain ⟨gc, hg⟩ : ∃ g, g = v2.heap.size := ⟨_, rfl⟩
    rw [← hg] at hk
    rw [← hg]
    have G5_3 := qH hk
    have P5 := qH (show w.heap.size ≤ gc by rw [hg]; exact hX.size)
    have G1_3 := qH (G1_2.out.below hb G1_2.out.lt)
    have N15 := qH (show ga ≠ gc by rw [hg]; exact Nat.ne_of_lt G1_2.out.lt)
    have G3_3 := qH (G3_2.out.below hb G3_2.out.lt)
    have N35 := qH (show gi ≠ gc by rw [hg]; exact Nat.ne_of_lt G3_2.out.lt)
    have hX2 := hX.trans (hb.mono hX.size)
    clear hk hb hg
    refine hK _ _ hX2 trivial ?_
    clear hK K hX
    (try simp only [Act.put, qA, qB, qC])
    have hX := hX2
    clear hX2
    refine mc_take (i := 6) (oi := ⟨some 12, _, _, _, _, _⟩) (v := .agg #[.slice none 0 0, .slice (some ⟨ga, 0, none⟩) n n, .slice (some ⟨gi, 0, none⟩) n n, .slice (some ⟨gc, 0, none⟩) n n]) rfl (by kernel_rfl) (by kernel_rfl) (by kernel_rfl) (fun _ _ _ h => h) rfl hX (fun V _ => ex_bldPt (.tmp 7) (.tmp 9) (.tmp 11) rfl rfl rfl rfl V) ?_; simp only [Act.put, qA, qB, qC]
    refine mc_actB (i := 7) (o := ⟨some 13, _, _, _, _, _⟩) rfl (by kernel_rfl) rfl (fun K hK => ?_)
    refine wp_box 77 _ rfl [.slice none 0 0, .slice (some ⟨ga, 0, none⟩) n n, .slice (some ⟨gi, 0, none⟩) n n, .slice (some ⟨gc, 0, none⟩) n n] rfl ?_
    intro v4 hk hb _
    obtain ⟨gp, hg⟩ : ∃ g, g = v3.heap.size := ⟨_, rfl⟩
    rw [← hg] at hk
    rw [← hg]
    have PP := qH (show w.heap.size ≤ gp by rw [hg]; exact hX.size)
    have G1_4 := qH (G1_3.out.below hb G1_3.out.lt)
    have M1 := qH (show ga ≠ gp by rw [hg]; exact Nat.ne_of_lt G1_3.out.lt)
    have G3_4 := qH (G3_3.out.below hb G3_3.out.lt)
    have M3 := qH (show gi ≠ gp by rw [hg]; exact Nat.ne_of_lt G3_3.out.lt)
    have G5_4 := qH (G5_3.out.below hb G5_3.out.lt)
    have M5 := qH (show gc ≠ gp by rw [hg]; exact Nat.ne_of_lt G5_3.out.lt)
    have hX2 := hX.trans (hb.mono hX.size)
    refine hK _ _ hX2 trivial ?_
    clear hK K hX hb hg
    (try simp only [Act.put, qA, qB, qC])
    have hX := hX2
    refine mc_take (i := 8) (oi := ⟨some 3, _, _, _, _, _⟩) (v := ?_) rfl (by kernel_rfl) (by kernel_rfl) (by kernel_rfl) (fun _ _ _ h => h) rfl hX ?_ ?_; rotate_left; (intro W hW; go_simp; try with_reducible rfl); simp only [Act.put, qA, qB, qC]
    refine wpAnyC_done (by kernel_rfl) ?_ _
    exact FIN.out gp ga gi gc v4 ⟨hk, G1_4.out, G3_4.out, G5_4.out, PP.out, P1.out, P3.out, P5.out, N13.out, N15.out, N35.out, M1.out, M3.out, M5.out, hX2⟩
   ·refine wp_mk _ _ 33 rfl 3 i1 (.int .i64 0) Try.underlying33 hi1 hy0 hy1 rfl n rfl rfl HYI.out HN3.out ?_
    intro v2 hk hb _
    obtain ⟨gc, hg⟩ : ∃ g, g = v1.heap.size := ⟨_, rfl⟩
    rw [← hg] at hk
    rw [← hg]
    have G5_2 := qH hk
    have P5 := qH (show w.heap.size ≤ gc by rw [hg]; exact hX.size)
    have G1_2 := qH (G1_1.out.below hb G1_1.out.lt)
    have N15 := qH (show ga ≠ gc by rw [hg]; exact Nat.ne_of_lt G1_1.out.lt)
    have hX2 := hX.trans (hb.mono hX.size)
    clear hk hb hg
    refine hK _ _ hX2 trivial ?_
    clear hK K hX
    (try simp only [Act.put, qA, qB, qC])
    have hX := hX2
    clear hX2
    refine mc_actB (i := 3) (o := ⟨some 9, _, _, _, _, _⟩) rfl (by kernel_rfl) rfl (fun K hK => ?_)
    refine wp_mk _ _ 26 rfl 4 i2 (.bool false) Try.underlying26 hi2 hb0 hb1 rfl n rfl rfl HYB.out HN3.out ?_
    intro v3 hk hb _
    obtain ⟨gi, hg⟩ : ∃ g, g = v2.heap.size := ⟨_, rfl⟩
    rw [← hg] at hk
    rw [← hg]
    have G3_3 := qH hk
    have P3 := qH (show w.heap.size ≤ gi by rw [hg]; exact hX.size)
    have G1_3 := qH (G1_2.out.below hb G1_2.out.lt)
    have N13 := qH (show ga ≠ gi by rw [hg]; exact Nat.ne_of_lt G1_2.out.lt)
    have G5_3 := qH (G5_2.out.below hb G5_2.out.lt)
    have N53 := qH (show gc ≠ gi by rw [hg]; exact Nat.ne_of_lt G5_2.out.lt)
    have hX2 := hX.trans (hb.mono hX.size)
    clear hk hb hg
    refine hK _ _ hX2 trivial ?_
    clear hK K hX
    (try simp only [Act.put, qA, qB, qC])
    have hX := hX2
    clear hX2
    refine mc_take (i := 6) (oi := ⟨some 12, _, _, _, _, _⟩) (v := .agg #[.slice none 0 0, .slice (some ⟨ga, 0, none⟩) n n, .slice (some ⟨gi, 0, none⟩) n n, .slice (some ⟨gc, 0, none⟩) n n]) rfl (by kernel_rfl) (by kernel_rfl) (by kernel_rfl) (fun _ _ _ h => h) rfl hX (fun V _ => ex_bldPt (.tmp 7) (.tmp 9) (.tmp 11) rfl rfl rfl rfl V) ?_; simp only [Act.put, qA, qB, qC]
    refine mc_actB (i := 7) (o := ⟨some 13, _, _, _, _, _⟩) rfl (by kernel_rfl) rfl (fun K hK => ?_)
    refine wp_box 77 _ rfl [.slice none 0 0, .slice (some ⟨ga, 0, none⟩) n n, .slice (some ⟨gi, 0, none⟩) n n, .slice (some ⟨gc, 0, none⟩) n n] rfl ?_
    intro v4 hk hb _
    obtain ⟨gp, hg⟩ : ∃ g, g = v3.heap.size := ⟨_, rfl⟩
    rw [← hg] at hk
    rw [← hg]
    have PP := qH (show w.heap.size ≤ gp by rw [hg]; exact hX.size)
    have G1_4 := qH (G1_3.out.below hb G1_3.out.lt)
    have M1 := qH (show ga ≠ gp by rw [hg]; exact Nat.ne_of_lt G1_3.out.lt)
    have G3_4 := qH (G3_3.out.below hb G3_3.out.lt)
    have M3 := qH (show gi ≠ gp by rw [hg]; exact Nat.ne_of_lt G3_3.out.lt)
    have G5_4 := qH (G5_3.out.below hb G5_3.out.lt)
    have M5 := qH (show gc ≠ gp by rw [hg]; exact Nat.ne_of_lt G5_3.out.lt)
    have hX2 := hX.trans (hb.mono hX.size)
    refine hK _ _ hX2 trivial ?_
    clear hK K hX hb hg
    (try simp only [Act.put, qA, qB, qC])
    have hX := hX2
    refine mc_take (i := 8) (oi := ⟨some 3, _, _, _, _, _⟩) (v := ?_) rfl (by kernel_rfl) (by kernel_rfl) (by kernel_rfl) (fun _ _ _ h => h) rfl hX ?_ ?_; rotate_left; (intro W hW; go_simp; try with_reducible rfl); simp only [Act.put, qA, qB, qC]
    refine wpAnyC_done (by kernel_rfl) ?_ _
    exact FIN.out gp ga gi gc v4 ⟨hk, G1_4.out, G3_4.out, G5_4.out, PP.out, P1.out, P3.out, P5.out, N13.out, N15.out, N53.out.symm, M1.out, M3.out, M5.out, hX2⟩
  ·refine wp_mk _ _ 26 rfl 4 i2 (.bool false) Try.underlying26 hi2 hb0 hb1 rfl n rfl rfl HYB.out HN3.out ?_
   intro v1 hk hb _
   obtain ⟨gi, hg⟩ : ∃ g, g = v0.heap.size := ⟨_, rfl⟩
   rw [← hg] at hk
   rw [← hg]
   have G3_1 := qH hk
   have P3 := qH (show w.heap.size ≤ gi by rw [hg]; exact hX.size)
   have hX2 := hX.trans (hb.mono hX.size)
   clear hk hb hg
   refine hK _ _ hX2 trivial ?_
   clear hK K hX
   (try simp only [Act.put, qA, qB, qC])
   have hX := hX2
   clear hX2
   refine mc_two (i := 1) (j := 5) (oi := ⟨some 7, _, _, _, _, _⟩) (oj := ⟨some 11, _, _, _, _, _⟩) rfl rfl (by kernel_rfl) rfl rfl (fun K hK => ?_) (fun K hK => ?_)
   ·refine wp_mk _ _ 33 rfl 3 i1 (.int .i64 0) Try.underlying33 hi1 hy0 hy1 rfl n rfl rfl HYI.out HN3.out ?_
    intro v2 hk hb _
    obtain ⟨ga, hg⟩ : ∃ g, g = v1.heap.size := ⟨_, rfl⟩
    rw [← hg] at hk
    rw [← hg]
    have G1_2 := qH hk
    have P1 := qH (show w.heap.size ≤ ga by rw [hg]; exact hX.size)
    have G3_2 := qH (G3_1.out.below hb G3_1.out.lt)
    have N31 := qH (show gi ≠ ga by rw [hg]; exact Nat.ne_of_lt G3_1.out.lt)
    have hX2 := hX.trans (hb.mono hX.size)
    clear hk hb hg
    refine hK _ _ hX2 trivial ?_
    clear hK K hX
    (try simp only [Act.put, qA, qB, qC])
    have hX := hX2
    clear hX2
    refine mc_actB (i := 5) (o := ⟨some 11, _, _, _, _, _⟩) rfl (by kernel_rfl) rfl (fun K hK => ?_)
    refine wp_mk _ _ 33 rfl 3 i1 (.int .i64 0) Try.underlying33 hi1 hy0 hy1 rfl n rfl rfl HYI.out HN3.out ?_
    intro v3 hk hb _
    obtain ⟨gc, hg⟩ : ∃ g, g = v2.heap.size := ⟨_, rfl⟩
    rw [← hg] at hk
    rw [← hg]
    have G5_3 := qH hk
    have P5 := qH (show w.heap.size ≤ gc by rw [hg]; exact hX.size)
    have G3_3 := qH (G3_2.out.below hb G3_2.out.lt)
    have N35 := qH (show gi ≠ gc by rw [hg]; exact Nat.ne_of_lt G3_2.out.lt)
    have G1_3 := qH (G1_2.out.below hb G1_2.out.lt)
    have N15 := qH (show ga ≠ gc by rw [hg]; exact Nat.ne_of_lt G1_2.out.lt)
    have hX2 := hX.trans (hb.mono hX.size)
    clear hk hb hg
    refine hK _ _ hX2 trivial ?_
    clear hK K hX
    (try simp only [Act.put, qA, qB, qC])
    have hX := hX2
    clear hX2
    refine mc_take (i := 6) (oi := ⟨some 12, _, _, _, _, _⟩) (v := .agg #[.slice none 0 0, .slice (some ⟨ga, 0, none⟩) n n, .slice (some ⟨gi, 0, none⟩) n n, .slice (some ⟨gc, 0, none⟩) n n]) rfl (by kernel_rfl) (by kernel_rfl) (by kernel_rfl) (fun _ _ _ h => h) rfl hX (fun V _ => ex_bldPt (.tmp 7) (.tmp 9) (.tmp 11) rfl rfl rfl rfl V) ?_; simp only [Act.put, qA, qB, qC]
    refine mc_actB (i := 7) (o := ⟨some 13, _, _, _, _, _⟩) rfl (by kernel_rfl) rfl (fun K hK => ?_)
    refine wp_box 77 _ rfl [.slice none 0 0, .slice (some ⟨ga, 0, none⟩) n n, .slice (some ⟨gi, 0, none⟩) n n, .slice (some ⟨gc, 0, none⟩) n n] rfl ?_
    intro v4 hk hb _
    obtain ⟨gp, hg⟩ : ∃ g, g = v3.heap.size := ⟨_, rfl⟩
    rw [← hg] at hk
    rw [← hg]
    have PP := qH (show w.heap.size ≤ gp by rw [hg]; exact hX.size)
    have G1_4 := qH (G1_3.out.below hb G1_3.out.lt)
    have M1 := qH (show ga ≠ gp by rw [hg]; exact Nat.ne_of_lt G1_3.out.lt)
    have G3_4 := qH (G3_3.out.below hb G3_3.out.lt)
    have M3 := qH (show gi ≠ gp by rw [hg]; exact Nat.ne_of_lt G3_3.out.lt)
    have G5_4 := qH (G5_3.out.below hb G5_3.out.lt)
    have M5 := qH (show gc ≠ gp by rw [hg]; exact Nat.ne_of_lt G5_3.out.lt)
    have hX2 := hX.trans (hb.mono hX.size)
    refine hK _ _ hX2 trivial ?_
    clear hK K hX hb hg
    (try simp only [Act.put, qA, qB, qC])
    have hX := hX2
    refine mc_take (i := 8) (oi := ⟨some 3, _, _, _, _, _⟩) (v := ?_) rfl (by kernel_rfl) (by kernel_rfl) (by kernel_rfl) (fun _ _ _ h => h) rfl hX ?_ ?_; rotate_left; (intro W hW; go_simp; try with_reducible rfl); simp only [Act.put, qA, qB, qC]
    refine wpAnyC_done (by kernel_rfl) ?_ _
    exact FIN.out gp ga gi gc v4 ⟨hk, G1_4.out, G3_4.out, G5_4.out, PP.out, P1.out, P3.out, P5.out, N31.out.symm, N15.out, N35.out, M1.out, M3.out, M5.out, hX2⟩
   ·refine wp_mk _ _ 33 rfl 3 i1 (.int .i64 0) Try.underlying33 hi1 hy0 hy1 rfl n rfl rfl HYI.out HN3.out ?_
    intro v2 hk hb _
    obtain ⟨gc, hg⟩ : ∃ g, g = v1.heap.size := ⟨_, rfl⟩
    rw [← hg] at hk
    rw [← hg]
    have G5_2 := qH hk
    have P5 := qH (show w.heap.size ≤ gc by rw [hg]; exact hX.size)
    have G3_2 := qH (G3_1.out.below hb G3_1.out.lt)
    have N35 := qH (show gi ≠ gc by rw [hg]; exact Nat.ne_of_lt G3_1.out.lt)
    have hX2 := hX.trans (hb.mono hX.size)
    clear hk hb hg
    refine hK _ _ hX2 trivial ?_
    clear hK K hX
    (try simp only [Act.put, qA, qB, qC])
    have hX := hX2
    clear hX2
    refine mc_actB (i := 1) (o := ⟨some 7, _, _, _, _, _⟩) rfl (by kernel_rfl) rfl (fun K hK => ?_)
    refine wp_mk _ _ 33 rfl 3 i1 (.int .i64 0) Try.underlying33 hi1 hy0 hy1 rfl n rfl rfl HYI.out HN3.out ?_
    intro v3 hk hb _
    obtain ⟨ga, hg⟩ : ∃ g, g = v2.heap.size := ⟨_, rfl⟩
    rw [← hg] at hk
    rw [← hg]
    have G1_3 := qH hk
    have P1 := qH (show w.heap.size ≤ ga by rw [hg]; exact hX.size)
    have G3_3 := qH (G3_2.out.below hb G3_2.out.lt)
    have N31 := qH (show gi ≠ ga by rw [hg]; exact Nat.ne_of_lt G3_2.out.lt)
    have G5_3 := qH (G5_2.out.below hb G5_2.out.lt)
    have N51 := qH (show gc ≠ ga by rw [hg]; exact Nat.ne_of_lt G5_2.out.lt)
    have hX2 := hX.trans (hb.mono hX.size)
    clear hk hb hg
    refine hK _ _ hX2 trivial ?_
    clear hK K hX
    (try simp only [Act.put, qA, qB, qC])
    have hX := hX2
    clear hX2
    refine mc_take (i := 6) (oi := ⟨some 12, _, _, _, _, _⟩) (v := .agg #[.slice none 0 0, .slice (some ⟨ga, 0, none⟩) n n, .slice (some ⟨gi, 0, none⟩) n n, .slice (some ⟨gc, 0, none⟩) n n]) rfl (by kernel_rfl) (by kernel_rfl) (by kernel_rfl) (fun _ _ _ h => h) rfl hX (fun V _ => ex_bldPt (.tmp 7) (.tmp 9) (.tmp 11) rfl rfl rfl rfl V) ?_; simp only [Act.put, qA, qB, qC]
    refine mc_actB (i := 7) (o := ⟨some 13, _, _, _, _, _⟩) rfl (by kernel_rfl) rfl (fun K hK => ?_)
    refine wp_box 77 _ rfl [.slice none 0 0, .slice (some ⟨ga, 0, none⟩) n n, .slice (some ⟨gi, 0, none⟩) n n, .slice (some ⟨gc, 0, none⟩) n n] rfl ?_
    intro v4 hk hb _
    obtain ⟨gp, hg⟩ : ∃ g, g = v3.heap.size := ⟨_, rfl⟩
    rw [← hg] at hk
    rw [← hg]
    have PP := qH (show w.heap.size ≤ gp by rw [hg]; exact hX.size)
    have G1_4 := qH (G1_3.out.below hb G1_3.out.lt)
    have M1 := qH (show ga ≠ gp by rw [hg]; exact Nat.ne_of_lt G1_3.out.lt)
    have G3_4 := qH (G3_3.out.below hb G3_3.out.lt)
    have M3 := qH (show gi ≠ gp by rw [hg]; exact Nat.ne_of_lt G3_3.out.lt)
    have G5_4 := qH (G5_3.out.below hb G5_3.out.lt)
    have M5 := qH (show gc ≠ gp by rw [hg]; exact Nat.ne_of_lt G5_3.out.lt)
    have hX2 := hX.trans (hb.mono hX.size)
    refine hK _ _ hX2 trivial ?_
    clear hK K hX hb hg
    (try simp only [Act.put, qA, qB, qC])
    have hX := hX2
    refine mc_take (i := 8) (oi := ⟨some 3, _, _, _, _, _⟩) (v := ?_) rfl (by kernel_rfl) (by kernel_rfl) (by kernel_rfl) (fun _ _ _ h => h) rfl hX ?_ ?_; rotate_left; (intro W hW; go_simp; try with_reducible rfl); simp only [Act.put, qA, qB, qC]
    refine wpAnyC_done (by kernel_rfl) ?_ _
    exact FIN.out gp ga gi gc v4 ⟨hk, G1_4.out, G3_4.out, G5_4.out, PP.out, P1.out, P3.out, P5.out, N31.out.symm, N51.out.symm, N35.out, M1.out, M3.out, M5.out, hX2⟩
  ·refine wp_mk _ _ 33 rfl 3 i1 (.int .i64 0) Try.underlying33 hi1 hy0 hy1 rfl n rfl rfl HYI.out HN3.out ?_
   intro v1 hk hb _
   obtain ⟨gc, hg⟩ : ∃ g, g = v0.heap.size := ⟨_, rfl⟩
   rw [← hg] at hk
   rw [← hg]
   have G5_1 := qH hk
   have P5 := qH (show w.heap.size ≤ gc by rw [hg]; exact hX.size)
   have hX2 := hX.trans (hb.mono hX.size)
   clear hk hb hg
   refine hK _ _ hX2 trivial ?_
   clear hK K hX
   (try simp only [Act.put, qA, qB, qC])
   have hX := hX2
   clear hX2
   refine mc_two (i := 1) (j := 3) (oi := ⟨some 7, _, _, _, _, _⟩) (oj := ⟨some 9, _, _, _, _, _⟩) rfl rfl (by kernel_rfl) rfl rfl (fun K hK => ?_) (fun K hK => ?_)
   ·refine wp_mk _ _ 33 rfl 3 i1 (.int .i64 0) Try.underlying33 hi1 hy0 hy1 rfl n rfl rfl HYI.out HN3.out ?_
    intro v2 hk hb _
    obtain ⟨ga, hg⟩ : ∃ g, g = v1.heap.size := ⟨_, rfl⟩
    rw [← hg] at hk
    rw [← hg]
    have G1_2 := qH hk
    have P1 := qH (show w.heap.size ≤ ga by rw [hg]; exact hX.size)
    have G5_2 := qH (G5_1.out.below hb G5_1.out.lt)
    have N51 := qH (show gc ≠ ga by rw [hg]; exact Nat.ne_of_lt G5_1.out.lt)
    have hX2 := hX.trans (hb.mono hX.size)
    clear hk hb hg
    refine hK _ _ hX2 trivial ?_
    clear hK K hX
    (try simp only [Act.put, qA, qB, qC])
    have hX := hX2
    clear hX2
    refine mc_actB (i := 3) (o := ⟨some 9, _, _, _, _, _⟩) rfl (by kernel_rfl) rfl (fun K hK => ?_)
    refine wp_mk _ _ 26 rfl 4 i2 (.bool false) Try.underlying26 hi2 hb0 hb1 rfl n rfl rfl HYB.out HN3.out ?_
    intro v3 hk hb _
    obtain ⟨gi, hg⟩ : ∃ g, g = v2.heap.size := ⟨_, rfl⟩
    rw [← hg] at hk
    rw [← hg]
    have G3_3 := qH hk
    have P3 := qH (show w.heap.size ≤ gi by rw [hg]; exact hX.size)
    have G5_3 := qH (G5_2.out.below hb G5_2.out.lt)
    have N53 := qH (show gc ≠ gi by rw [hg]; exact Nat.ne_of_lt G5_2.out.lt)
    have G1_3 := qH (G1_2.out.below hb G1_2.out.lt)
    have N13 := qH (show ga ≠ gi by rw [hg]; exact Nat.ne_of_lt G1_2.out.lt)
    have hX2 := hX.trans (hb.mono hX.size)
    clear hk hb hg
    refine hK _ _ hX2 trivial ?_
    clear hK K hX
    (try simp only [Act.put, qA, qB, qC])
    have hX := hX2
    clear hX2
    refine mc_take (i := 6) (oi := ⟨some 12, _, _, _, _, _⟩) (v := .agg #[.slice none 0 0, .slice (some ⟨ga, 0, none⟩) n n, .slice (some ⟨gi, 0, none⟩) n n, .slice (some ⟨gc, 0, none⟩) n n]) rfl (by kernel_rfl) (by kernel_rfl) (by kernel_rfl) (fun _ _ _ h => h) rfl hX (fun V _ => ex_bldPt (.tmp 7) (.tmp 9) (.tmp 11) rfl rfl rfl rfl V) ?_; simp only [Act.put, qA, qB, qC]
    refine mc_actB (i := 7) (o := ⟨some 13, _, _, _, _, _⟩) rfl (by kernel_rfl) rfl (fun K hK => ?_)
    refine wp_box 77 _ rfl [.slice none 0 0, .slice (some ⟨ga, 0, none⟩) n n, .slice (some ⟨gi, 0, none⟩) n n, .slice (some ⟨gc, 0, none⟩) n n] rfl ?_
    intro v4 hk hb _
    obtain ⟨gp, hg⟩ : ∃ g, g = v3.heap.size := ⟨_, rfl⟩
    rw [← hg] at hk
    rw [← hg]
    have PP := qH (show w.heap.size ≤ gp by rw [hg]; exact hX.size)
    have G1_4 := qH (G1_3.out.below hb G1_3.out.lt)
    have M1 := qH (show ga ≠ gp by rw [hg]; exact Nat.ne_of_lt G1_3.out.lt)
    have G3_4 := qH (G3_3.out.below hb G3_3.out.lt)
    have M3 := qH (show gi ≠ gp by rw [hg]; exact Nat.ne_of_lt G3_3.out.lt)
    have G5_4 := qH (G5_3.out.below hb G5_3.out.lt)
    have M5 := qH (show gc ≠ gp by rw [hg]; exact Nat.ne_of_lt G5_3.out.lt)
    have hX2 := hX.trans (hb.mono hX.size)
    refine hK _ _ hX2 trivial ?_
    clear hK K hX hb hg
    (try simp only [Act.put, qA, qB, qC])
    have hX := hX2
    refine mc_take (i := 8) (oi := ⟨some 3, _, _, _, _, _⟩) (v := ?_) rfl (by kernel_rfl) (by kernel_rfl) (by kernel_rfl) (fun _ _ _ h => h) rfl hX ?_ ?_; rotate_left; (intro W hW; go_simp; try with_reducible rfl); simp only [Act.put, qA, qB, qC]
    refine wpAnyC_done (by kernel_rfl) ?_ _
    exact FIN.out gp ga gi gc v4 ⟨hk, G1_4.out, G3_4.out, G5_4.out, PP.out, P1.out, P3.out, P5.out, N13.out, N51.out.symm, N53.out.symm, M1.out, M3.out, M5.out, hX2⟩
   ·refine wp_mk _ _ 26 rfl 4 i2 (.bool false) Try.underlying26 hi2 hb0 hb1 rfl n rfl rfl HYB.out HN3.out ?_
    intro v2 hk hb _
    obtain ⟨gi, hg⟩ : ∃ g, g = v1.heap.size := ⟨_, rfl⟩
    rw [← hg] at hk
    rw [← hg]
    have G3_2 := qH hk
    have P3 := qH (show w.heap.size ≤ gi by rw [hg]; exact hX.size)
    have G5_2 := qH (G5_1.out.below hb G5_1.out.lt)
    have N53 := qH (show gc ≠ gi by rw [hg]; exact Nat.ne_of_lt G5_1.out.lt)
    have hX2 := hX.trans (hb.mono hX.size)
    clear hk hb hg
    refine hK _ _ hX2 trivial ?_
    clear hK K hX
    (try simp only [Act.put, qA, qB, qC])
    have hX := hX2
    clear hX2
    refine mc_actB (i := 1) (o := ⟨some 7, _, _, _, _, _⟩) rfl (by kernel_rfl) rfl (fun K hK => ?_)
    refine wp_mk _ _ 33 rfl 3 i1 (.int .i64 0) Try.underlying33 hi1 hy0 hy1 rfl n rfl rfl HYI.out HN3.out ?_
    intro v3 hk hb _
    obtain ⟨ga, hg⟩ : ∃ g, g = v2.heap.size := ⟨_, rfl⟩
    rw [← hg] at hk
    rw [← hg]
    have G1_3 := qH hk
    have P1 := qH (show w.heap.size ≤ ga by rw [hg]; exact hX.size)
    have G5_3 := qH (G5_2.out.below hb G5_2.out.lt)
    have N51 := qH (show gc ≠ ga by rw [hg]; exact Nat.ne_of_lt G5_2.out.lt)
    have G3_3 := qH (G3_2.out.below hb G3_2.out.lt)
    have N31 := qH (show gi ≠ ga by rw [hg]; exact Nat.ne_of_lt G3_2.out.lt)
    have hX2 := hX.trans (hb.mono hX.size)
    clear hk hb hg
    refine hK _ _ hX2 trivial ?_
    clear hK K hX
    (try simp only [Act.put, qA, qB, qC])
    have hX := hX2
    clear hX2
    refine mc_take (i := 6) (oi := ⟨some 12, _, _, _, _, _⟩) (v := .agg #[.slice none 0 0, .slice (some ⟨ga, 0, none⟩) n n, .slice (some ⟨gi, 0, none⟩) n n, .slice (some ⟨gc, 0, none⟩) n n]) rfl (by kernel_rfl) (by kernel_rfl) (by kernel_rfl) (fun _ _ _ h => h) rfl hX (fun V _ => ex_bldPt (.tmp 7) (.tmp 9) (.tmp 11) rfl rfl rfl rfl V) ?_; simp only [Act.put, qA, qB, qC]
    refine mc_actB (i := 7) (o := ⟨some 13, _, _, _, _, _⟩) rfl (by kernel_rfl) rfl (fun K hK => ?_)
    refine wp_box 77 _ rfl [.slice none 0 0, .slice (some ⟨ga, 0, none⟩) n n, .slice (some ⟨gi, 0, none⟩) n n, .slice (some ⟨gc, 0, none⟩) n n] rfl ?_
    intro v4 hk hb _
    obtain ⟨gp, hg⟩ : ∃ g, g = v3.heap.size := ⟨_, rfl⟩
    rw [← hg] at hk
    rw [← hg]
    have PP := qH (show w.heap.size ≤ gp by rw [hg]; exact hX.size)
    have G1_4 := qH (G1_3.out.below hb G1_3.out.lt)
    have M1 := qH (show ga ≠ gp by rw [hg]; exact Nat.ne_of_lt G1_3.out.lt)
    have G3_4 := qH (G3_3.out.below hb G3_3.out.lt)
    have M3 := qH (show gi ≠ gp by rw [hg]; exact Nat.ne_of_lt G3_3.out.lt)
    have G5_4 := qH (G5_3.out.below hb G5_3.out.lt)
    have M5 := qH (show gc ≠ gp by rw [hg]; exact Nat.ne_of_lt G5_3.out.lt)
    have hX2 := hX.trans (hb.mono hX.size)
    refine hK _ _ hX2 trivial ?_
    clear hK K hX hb hg
    (try simp only [Act.put, qA, qB, qC])
    have hX := hX2
    refine mc_take (i := 8) (oi := ⟨some 3, _, _, _, _, _⟩) (v := ?_) rfl (by kernel_rfl) (by kernel_rfl) (by kernel_rfl) (fun _ _ _ h => h) rfl hX ?_ ?_; rotate_left; (intro W hW; go_simp; try with_reducible rfl); simp only [Act.put, qA, qB, qC]
    refine wpAnyC_done (by kernel_rfl) ?_ _
    exact FIN.out gp ga gi gc v4 ⟨hk, G1_4.out, G3_4.out, G5_4.out, PP.out, P1.out, P3.out, P5.out, N31.out.symm, N51.out.symm, N53.out.symm, M1.out, M3.out, M5.out, hX2⟩
 case fin =>
  rintro gp ga gi gc w1 ⟨KP, KA, KI, KC, h1, h2, h3, h4, n1, n2, n3, n4, n5, n6, hb⟩
  have HKP := qH KP
  have HKA := qH KA
  have HKI := qH KI
  have HKC := qH KC
  have HLE := qH (And.intro h1 (And.intro h2 (And.intro h3 h4)))
  have HNE := qH (And.intro n1 (And.intro n2 (And.intro n3 (And.intro n4 (And.intro n5 n6)))))
  have HB := qH hb
  clear KP KA KI KC h1 h2 h3 h4 n1 n2 n3 n4 n5 n6 hb
  go_wp2_with ((with_reducible refine atDst 15 ?_); refine wpList_mk _ rfl _ _ 33 rfl 3 i1 (.int .i64 0) Try.underlying33 hi1 hy0 hy1 rfl n _ _ _ _ rfl rfl rfl rfl HYI.out HN3.out ?_; intro w2 hk hb hs; have T2 := qH hk; have B2 := qH hb; clear hk hb hs; (try simp only [Act.put, qA, qB, qC]))
  obtain ⟨gl, hgl⟩ : ∃ g, g = w1.heap.size := ⟨_, rfl⟩
  rw [← hgl] at T2
  have HGL := qH hgl
  have BG2 := qH (show Below gl w1 w2 by rw [hgl]; exact B2.out)
  rw [← hgl]
  have K0 := qH (show Blk w2 gl 3 (ncs n (upI 0)) by rw [← upI_zero, ← ncs_no]; exact T2.out)
  clear hgl T2
  go_wp2_with fail
  go_loopw [18] (fun iv wl => ∃ i : Nat, i ≤ n ∧ iv = .int .i64 (i : Int) ∧ Blk wl gl 3 (ncs n (upI i)) ∧ Below gl w1 wl) (fun iv _ => n - (intOf iv).toNat)
  case atStart => exact ⟨0, Nat.zero_le _, rfl, K0.out, BG2.out⟩
  clear K0
  obtain ⟨i, hi, rfl, hk, hb⟩ := hrel
  obtain ⟨wl, hwl⟩ : ∃ v : World, v = wr := ⟨_, rfl⟩
  subst hwl
  have HI := qH hi
  have KI := qH hk
  have BI := qH hb
  clear hi hk hb
  by_cases hin : i < n
  ·have x1 : (i : Int) < (n : Int) := Int.ofNat_lt.2 hin
   have HIN := qH hin
   have HMI := qH (sub_next hin)
   have e3 := wrap_one i (lt_bigN hin HNF.out)
   have e4 := wrap_one' i (lt_bigN hin HNF.out)
   have c0 : wl.cell? ⟨gl, i, none⟩ = some (.int .i64 (upI i i : Int)) := by rw [KI.out.cell, ncs_get _ hin]
   have f0 := KI.out.frozen i
   have KZ := qH (show Blk (wl.setCell ⟨gl, i, none⟩ (.int .i64 (i : Int))) gl 3 (ncs n (upI (i + 1))) by
    have h1 := KI.out.set i (.int .i64 (i : Int))
    rw [ncs_set, upI_next] at h1
    exact h1)
   clear hin
   go_wp2_with fail
   exact ⟨⟨i + 1, HIN.out, rfl, KZ.out, BI.out.setCell (p := ⟨gl, i, none⟩) (Nat.le_refl _) _⟩, by simpa [intOf] using HMI.out⟩
  ·obtain rfl : i = n := Nat.le_antisymm HI.out (Nat.le_of_not_lt hin)
   have x1 : ¬ ((i : Int) < (i : Int)) := Int.lt_irrefl _
   have PL := qH (show gp < gl by rw [HGL.out]; exact HKP.out.lt)
   clear hin
   go_wp2_with ((with_reducible refine atDst 28 ?_); refine wpList_plain rfl fun K hK => wp_bldVk 25 33 (.tmp 27) rfl il (.slice none 0 0) Try.underlying25 hil hl0 hl1 rfl (.slice (some ⟨gl, 0, none⟩) i i) rfl rfl ?_; intro w3 hk3 hb3; have K3 := qH hk3; have B3 := qH hb3; have HP3 := qH ((HKP.out.below BI.out PL.out).below hb3 (HKP.out.below BI.out PL.out).lt); have cp0 := HP3.out.cell 0; have fp0 := HP3.out.frozen 0; clear hk3 hb3; refine hK _ _ ?_; clear hK K; (try simp only [Act.put, qA, qB, qC]))
   go_ret
   have st : ∀ {g : Nat} {t : TypeId} {cs : List Value}, Blk w1 g t cs → g ≠ gp → Blk (w3.setCell ⟨gp, 0, none⟩ (.slice (some ⟨wl.heap.size, 0, none⟩) 1 1)) g t cs := fun {g t cs} hk hne =>
    ((hk.below BI.out (by rw [HGL.out]; exact hk.lt)).below B3.out (hk.below BI.out (by rw [HGL.out]; exact hk.lt)).lt).far (p := ⟨gp, 0, none⟩) hne _
   obtain ⟨h1, h2, h3, h4⟩ := HLE.out
   obtain ⟨n1, n2, n3, n4, n5, n6⟩ := HNE.out
   have hgl : w.heap.size ≤ gl := by rw [HGL.out]; exact HB.out.size
   refine ⟨gp, rfl, pt_made (gt := wl.heap.size) (gi := gi) (ga := ga) (gc := gc) (gl := gl) HNF.out ?_ ?_ ?_ ?_ ?_ ?_ h1 h2 h3 h4 hgl (Nat.le_trans hgl (Nat.le_of_lt KI.out.lt)) n1 n2 n3 n4 n5 n6 (by rw [HGL.out]; exact HKA.out.lt) (by rw [HGL.out]; exact HKI.out.lt) (by rw [HGL.out]; exact HKC.out.lt) PL.out KI.out.lt, ?_⟩
   ·have := HP3.out.set 0 (.slice (some ⟨wl.heap.size, 0, none⟩) 1 1)
    simpa using this
   ·exact K3.out.far (p := ⟨gp, 0, none⟩) (by show wl.heap.size ≠ gp; have := KI.out.lt; have := PL.out; omega) _
   ·rw [← ncs_no]
    exact st HKA.out n4
   ·rw [← bcs_no]
    exact st HKI.out n5
   ·rw [← ncs_no]
    exact st HKC.out n6
   ·have h9 := KI.out.below B3.out KI.out.lt
    rw [upI_all] at h9
    exact h9.far (p := ⟨gp, 0, none⟩) (by show gl ≠ gp; have := PL.out; omega) _
   ·exact (HB.out.trans ((BI.out.mono hgl).trans (B3.out.mono (Nat.le_trans hgl (Nat.le_of_lt KI.out.lt))))).setCell (p := ⟨gp, 0, none⟩) h1 _
end Go.Proofs.Ytlohehcfplkjbaa
