/-
  Texts of this proof, put together: SbK, SbL, ThI. No statement is proved here.
-/
import Derived.Test.YteadghoojeehlaaGreatDoorWL
import Derived.Great.FillDense
import Derived.Test.YteadghoojeehlaaGreatDoorWH
namespace Go.Proofs.YteadghoojeehlaaGreatDoor
open Go.RowKit
set_option linter.unusedSimpArgs false
set_option linter.unusedVariables false
/-! ### cells -/
def nfc (A : Option Addr) (n cap : Nat) (a z : Int) : List Value := [.slice A n cap, .int .i64 a, .int .i64 z]
def mkc (nv : List Value) (cl : List UInt8) (k : Nat) (sg : Value) (mr : Nat) (q : Value) (mn : Nat) : List Value := nv ++ (bvs cl ++ [.int .i64 (k : Int), sg, .map (some mr), q, .map (some mn)])
section
variable {A : Option Addr} {n cap k mr mn : Nat} {a z : Int} {cl : List UInt8} {sg q : Value}
theorem mkc_len (hl : cl.length = 256) : (mkc (nfc A n cap a z) cl k sg mr q mn).length = 264 := by simp [mkc, nfc, bvs_length, hl]
theorem mkc_0 : (mkc (nfc A n cap a z) cl k sg mr q mn)[0]? = some (.slice A n cap) := rfl
theorem mkc_cl (hl : cl.length = 256) {i : Nat} (hi : i < 256) : (mkc (nfc A n cap a z) cl k sg mr q mn)[3 + i]? = (bvs cl)[i]? := by
 unfold mkc
 rw [List.getElem?_append_right (by simp [nfc]), List.getElem?_append_left (by simp [nfc, bvs_length, hl]; omega)]
 congr 1
 simp [nfc]
theorem mkc_end (hl : cl.length = 256) (i : Nat) : (mkc (nfc A n cap a z) cl k sg mr q mn)[259 + i]? = [.int .i64 (k : Int), sg, .map (some mr), q, .map (some mn)][i]? := by
 unfold mkc
 rw [List.getElem?_append_right (by simp [nfc]; omega), List.getElem?_append_right (by simp [nfc, bvs_length, hl]; omega)]
 congr 1
 simp [nfc, bvs_length, hl]
 omega
theorem mkc_k (hl : cl.length = 256) : (mkc (nfc A n cap a z) cl k sg mr q mn)[259]? = some (.int .i64 (k : Int)) := mkc_end hl 0
theorem mkc_sg (hl : cl.length = 256) : (mkc (nfc A n cap a z) cl k sg mr q mn)[260]? = some sg := mkc_end hl 1
theorem mkc_mr (hl : cl.length = 256) : (mkc (nfc A n cap a z) cl k sg mr q mn)[261]? = some (.map (some mr)) := mkc_end hl 2
theorem mkc_q (hl : cl.length = 256) : (mkc (nfc A n cap a z) cl k sg mr q mn)[262]? = some q := mkc_end hl 3
theorem mkc_mn (hl : cl.length = 256) : (mkc (nfc A n cap a z) cl k sg mr q mn)[263]? = some (.map (some mn)) := mkc_end hl 4
theorem mkc_set (hl : cl.length = 256) (i : Nat) (v : Value) : (mkc (nfc A n cap a z) cl k sg mr q mn).set (259 + i) v = nfc A n cap a z ++ (bvs cl ++ [.int .i64 (k : Int), sg, .map (some mr), q, .map (some mn)].set i v) := by
 unfold mkc
 rw [List.set_append_right _ _ (by simp [nfc]; omega), List.set_append_right _ _ (by simp [nfc, bvs_length, hl]; omega)]
 congr 3
 simp [nfc, bvs_length, hl]
 omega
theorem mkc_setk (hl : cl.length = 256) (j : Nat) : (mkc (nfc A n cap a z) cl k sg mr q mn).set 259 (.int .i64 (j : Int)) = mkc (nfc A n cap a z) cl j sg mr q mn := mkc_set hl 0 _
theorem mkc_setsg (hl : cl.length = 256) (v : Value) : (mkc (nfc A n cap a z) cl k sg mr q mn).set 260 v = mkc (nfc A n cap a z) cl k v mr q mn := mkc_set hl 1 _
theorem mkc_setq (hl : cl.length = 256) (v : Value) : (mkc (nfc A n cap a z) cl k sg mr q mn).set 262 v = mkc (nfc A n cap a z) cl k sg mr v mn := mkc_set hl 3 _
end
/-! ### entries -/
def gkey (X : List Int) : Value := .agg (gds (memB X)).toArray
theorem gkey_inj {n : Nat} (hn : n ≤ 2000) {X Y : List Int} (hX : Ris n X) (hY : Ris n Y) (h : gkey X = gkey Y) : X = Y := by
 unfold gkey at h
 injection h with h
 have h2 := congrArg Array.toList h
 exact ris_gds (by omega) hX hY h2
theorem gkey_key (X : List Int) : ∃ l, keyOf Tryz.prog 67 (gkey X) = some l := keyOf_group _
def numE (Qs : List (List Int)) : List (Value × Value) := Qs.mapIdx fun i X => (gkey X, .int .i64 (i : Int))
theorem numE_snoc (Qs : List (List Int)) (X : List Int) : numE (Qs ++ [X]) = numE Qs ++ [(gkey X, .int .i64 (Qs.length : Int))] := by
 unfold numE
 rw [List.mapIdx_concat]
theorem numE_mem {Qs : List (List Int)} {p : Value × Value} (h : p ∈ numE Qs) : ∃ (i : Nat) (X : List Int), Qs[i]? = some X ∧ p = (gkey X, .int .i64 (i : Int)) := by
 unfold numE at h
 obtain ⟨i, hi, rfl⟩ := List.mem_mapIdx.1 h
 exact ⟨i, Qs[i], List.getElem?_eq_getElem hi, rfl⟩
theorem numE_of {Qs : List (List Int)} {i : Nat} {X : List Int} (h : Qs[i]? = some X) : (gkey X, Value.int .i64 (i : Int)) ∈ numE Qs := by
 obtain ⟨hi, rfl⟩ := List.getElem?_eq_some_iff.1 h
 exact List.mem_mapIdx.2 ⟨i, hi, rfl⟩
theorem numE_keys (Qs : List (List Int)) : ∀ p ∈ numE Qs, ∃ l, keyOf Tryz.prog 67 p.1 = some l := fun p hp => by
 obtain ⟨i, X, _, rfl⟩ := numE_mem hp
 exact gkey_key X
noncomputable def reE (S : List St) (Es : List Int) : List (Value × Value) := Es.map fun s => (.int .i64 s, gkey (clsN S [s]))
theorem reE_snoc (S : List St) (Es : List Int) (s : Int) : reE S (Es ++ [s]) = reE S Es ++ [(.int .i64 s, gkey (clsN S [s]))] := by simp [reE]
theorem zero_int (w : World) : (zeroValue 3).run Tryz.prog w = .ok (.int .i64 0) w := by
 obtain ⟨i, hi, hz, _⟩ := infoP inf_int
 simp [zeroValue, typeInfo, hi, hz]
theorem zero_group (w : World) : (zeroValue 67).run Tryz.prog w = .ok (.agg (gds fun _ => false).toArray) w := by
 obtain ⟨i, hi, hz, _⟩ := infoP inf_group
 simp [zeroValue, typeInfo, hi, hz]
theorem look_yes {w : World} {mn n : Nat} {Qs : List (List Int)} {X : List Int} (hm : MapV w mn (numE Qs)) (hn : n ≤ 2000) (hr : ∀ Y ∈ Qs, Ris n Y) (hd : Qs.Nodup) (hX : X ∈ Qs) :
  (Instr.lookup 62 (.map (some mn)) (gkey X) true).run Tryz.prog w = .ok (.tuple #[.int .i64 (ixOf Qs X : Int), .bool true]) w := by
 obtain ⟨l, hl⟩ := gkey_key X
 rcases run_look keyed_group Tryz.underlying62 (zero_int w) hm hl (numE_keys Qs) with ⟨v, hv, hrun⟩ | ⟨hno, _⟩
 ·obtain ⟨i, Y, hY, he⟩ := numE_mem hv
  have e1 := congrArg Prod.fst he
  have e2 := congrArg Prod.snd he
  have hXY := gkey_inj hn (hr X hX) (hr Y (List.mem_of_getElem? hY)) e1
  rw [← hXY] at hY
  rw [hrun, idx_is hd hY, show v = .int .i64 (i : Int) from e2]
 ·exact absurd rfl (hno _ (numE_of (idx_get hX)))
theorem look_no {w : World} {mn n : Nat} {Qs : List (List Int)} {X : List Int} (hm : MapV w mn (numE Qs)) (hn : n ≤ 2000) (hr : ∀ Y ∈ Qs, Ris n Y) (hx : Ris n X) (hX : X ∉ Qs) :
  (Instr.lookup 62 (.map (some mn)) (gkey X) true).run Tryz.prog w = .ok (.tuple #[.int .i64 0, .bool false]) w := by
 obtain ⟨l, hl⟩ := gkey_key X
 rcases run_look keyed_group Tryz.underlying62 (zero_int w) hm hl (numE_keys Qs) with ⟨v, hv, hrun⟩ | ⟨_, hrun⟩
 ·obtain ⟨i, Y, hY, he⟩ := numE_mem hv
  have e1 := congrArg Prod.fst he
  have hXY := gkey_inj hn hx (hr Y (List.mem_of_getElem? hY)) e1
  rw [← hXY] at hY
  exact absurd (List.mem_of_getElem? hY) hX
 ·exact hrun
theorem num_new {n : Nat} {Qs : List (List Int)} {X : List Int} (hn : n ≤ 2000) (hr : ∀ Y ∈ Qs, Ris n Y) (hx : Ris n X) (hX : X ∉ Qs) : ∀ p ∈ numE Qs, p.1 ≠ gkey X := fun p hp e => by
 obtain ⟨i, Y, hY, rfl⟩ := numE_mem hp
 have hXY := gkey_inj hn hx (hr Y (List.mem_of_getElem? hY)) e.symm
 rw [← hXY] at hY
 exact hX (List.mem_of_getElem? hY)
theorem lookR {w : World} {mr : Nat} {S : List St} {Es : List Int} {s : Int} (hm : MapV w mr (reE S Es)) (he : ∀ x ∈ Es, -9223372036854775808 ≤ x ∧ x ≤ 9223372036854775807) (hs : -9223372036854775808 ≤ s ∧ s ≤ 9223372036854775807) :
  (s ∈ Es → (Instr.lookup 60 (.map (some mr)) (.int .i64 s) true).run Tryz.prog w = .ok (.tuple #[gkey (clsN S [s]), .bool true]) w) ∧
   (s ∉ Es → (Instr.lookup 60 (.map (some mr)) (.int .i64 s) true).run Tryz.prog w = .ok (.tuple #[.agg (gds fun _ => false).toArray, .bool false]) w) := by
 obtain ⟨l, hl⟩ := keyOf_int hs
 have hk : ∀ p ∈ reE S Es, ∃ l, keyOf Tryz.prog 3 p.1 = some l := fun p hp => by
  obtain ⟨x, hx, rfl⟩ := List.mem_map.1 hp
  exact keyOf_int (he x hx)
 rcases run_look keyed_int Tryz.underlying60 (zero_group w) hm hl hk with ⟨v, hv, hrun⟩ | ⟨hno, hrun⟩
 ·obtain ⟨x, hx, e⟩ := List.mem_map.1 hv
  have e1 : Value.int .i64 x = .int .i64 s := congrArg Prod.fst e
  have e2 : gkey (clsN S [x]) = v := congrArg Prod.snd e
  injection e1 with _ e1
  rw [e1] at hx e2
  exact ⟨fun _ => by rw [hrun, e2], fun h => absurd hx h⟩
 ·exact ⟨fun h => absurd rfl (hno _ (List.mem_map.2 ⟨s, h, rfl⟩)), fun _ => hrun⟩
/-! ### the whole of it -/
structure MkV (w : World) (B H g mr mn : Nat) (A : Option Addr) (cap : Nat) (a z : Int) (cl : List UInt8) (k : Nat) (sg : Value) (S : List St) (qv : Value) (Qs : List (List Int)) (Es : List Int) : Prop where
 blk : Blk w g 64 (mkc (nfc A S.length cap a z) cl k sg mr qv mn)
 cl : cl.length = 256
 reached : MapV w mr (reE S Es)
 numbers : MapV w mn (numE Qs)
 queue : w.ownsRow H 67 32 qv (Qs.map memB).length (grs (Qs.map memB))
 gB : B ≤ g
 rB : B ≤ mr
 nB : B ≤ mn
 gH : g < H
 rH : mr < H
 nH : mn < H
 hs : H ≤ w.heap.size
 gr : g ≠ mr
 gn : g ≠ mn
 rn : mr ≠ mn
 ris : ∀ X ∈ Qs, Ris S.length X
 nd : Qs.Nodup
 es : ∀ x ∈ Es, -9223372036854775808 ≤ x ∧ x ≤ 9223372036854775807
def Md (g mr mn : Nat) (qv : Value) (k : Nat) : Prop := k = g ∨ k = mr ∨ k = mn ∨ qv.ownBlock = some k
structure MStep (w w' : World) (g mr mn : Nat) (qv qv' : Value) : Prop where
 off : Off (Md g mr mn qv) w w'
 new : ∀ k, qv'.ownBlock = some k → qv.ownBlock = some k ∨ w.heap.size ≤ k
section
variable {w w' w'' : World} {B H g mr mn cap k : Nat} {A : Option Addr} {a z : Int} {cl : List UInt8} {sg : Value} {S : List St} {qv qv' qv'' : Value} {Qs : List (List Int)} {Es : List Int}
theorem MStep.refl (w : World) (g mr mn : Nat) (qv : Value) : MStep w w g mr mn qv qv := ⟨Off.refl _ _, fun k hk => .inl hk⟩
theorem MStep.trans (x : MStep w w' g mr mn qv qv') (y : MStep w' w'' g mr mn qv' qv'') : MStep w w'' g mr mn qv qv'' := by
 refine ⟨⟨y.off.os.trans x.off.os, y.off.tape.trans x.off.tape, y.off.output.trans x.off.output, Nat.le_trans x.off.size y.off.size, fun k hk hn => ?_⟩, fun k hk => ?_⟩
 ·refine (y.off.block k (Nat.lt_of_lt_of_le hk x.off.size) fun hd => ?_).trans (x.off.block k hk hn)
  rcases hd with e | e | e | e
  ·exact hn (.inl e)
  ·exact hn (.inr (.inl e))
  ·exact hn (.inr (.inr (.inl e)))
  ·rcases x.new k e with e | e
   ·exact hn (.inr (.inr (.inr e)))
   ·omega
 ·rcases y.new k hk with e | e
  ·exact x.new k e
  ·exact .inr (Nat.le_trans x.off.size e)
theorem MStep.of (hb : Below w.heap.size w w') (g mr mn : Nat) (qv : Value) : MStep w w' g mr mn qv qv := ⟨Off.new _ hb, fun k hk => .inl hk⟩
theorem MkV.md (x : MkV w B H g mr mn A cap a z cl k sg S qv Qs Es) (hBH : B ≤ H) {j : Nat} (hj : Md g mr mn qv j) : B ≤ j := by
 rcases hj with rfl | rfl | rfl | hj
 ·exact x.gB
 ·exact x.rB
 ·exact x.nB
 ·exact Nat.le_trans hBH (own4_above x.queue j hj)
theorem MkV.bh (x : MkV w B H g mr mn A cap a z cl k sg S qv Qs Es) : B ≤ H := Nat.le_of_lt (Nat.lt_of_le_of_lt x.gB x.gH)
theorem MkV.lts (x : MkV w B H g mr mn A cap a z cl k sg S qv Qs Es) {j : Nat} (hj : Md g mr mn qv j) : j < w.heap.size := by
 rcases hj with rfl | rfl | rfl | hj
 ·exact x.blk.lt
 ·exact x.reached.lt
 ·exact x.numbers.lt
 ·exact own4_lt x.queue j hj
theorem MStep.below (y : MStep w w' g mr mn qv qv') (x : MkV w B H g mr mn A cap a z cl k sg S qv Qs Es) : Below B w w' := y.off.below (fun k hk => x.md x.bh hk) (Nat.le_trans x.bh x.hs)
theorem own32_stay {base n : Nat} {e : TypeId} {v : Value} {xs : List Value} (h : w.ownsRow base e 32 v n xs) (hk : ∀ j, v.ownBlock = some j → w'.heap[j]? = w.heap[j]?) : w'.ownsRow base e 32 v n xs := by
 refine ⟨h.1, ?_⟩
 rcases h.2 with h0 | ⟨g, cap, cur, rfl, hb2, hg, h3⟩
 ·exact .inl h0
 ·exact .inr ⟨g, cap, cur, rfl, hb2, (hk g rfl).trans hg, h3⟩
theorem MkV.stay (x : MkV w B H g mr mn A cap a z cl k sg S qv Qs Es) (hs : w.heap.size ≤ w'.heap.size) (hk : ∀ j, Md g mr mn qv j → w'.heap[j]? = w.heap[j]?) : MkV w' B H g mr mn A cap a z cl k sg S qv Qs Es :=
 {x with blk := (hk g (.inl rfl)).trans x.blk, reached := x.reached.stay (hk mr (.inr (.inl rfl))), numbers := x.numbers.stay (hk mn (.inr (.inr (.inl rfl)))), queue := own32_stay x.queue fun j hj => hk j (.inr (.inr (.inr hj))), hs := Nat.le_trans x.hs hs }
theorem MkV.below (x : MkV w B H g mr mn A cap a z cl k sg S qv Qs Es) (hb : Below w.heap.size w w') : MkV w' B H g mr mn A cap a z cl k sg S qv Qs Es := x.stay hb.size fun j hj => hb.block j (x.lts hj)
theorem MkV.qne (x : MkV w B H g mr mn A cap a z cl k sg S qv Qs Es) {j : Nat} (hj : j < H) : qv.ownBlock ≠ some j := fun e => by
 have := own4_above x.queue j e
 omega
theorem MkV.push (x : MkV w B H g mr mn A cap a z cl k sg S qv Qs Es) {X : List Int} (hX : Ris S.length X) (hno : X ∉ Qs) {w2 w3 w4 : World}
  (h2 : MapV w2 mn (numE Qs ++ [(gkey X, .int .i64 (Qs.length : Int))])) (g2 : w.grownBy w2 (some mn)) (b3 : Below w2.heap.size w2 w3)
  (h4 : w4.ownsRow H 67 32 qv' (Qs.map memB ++ [memB X]).length (grs (Qs.map memB ++ [memB X]))) (g4 : w3.grownBy w4 qv.ownBlock) (hw : ∀ k, qv'.ownBlock = some k → qv.ownBlock = some k ∨ w3.heap.size ≤ k) :
  Blk w4 g 64 (mkc (nfc A S.length cap a z) cl k sg mr qv mn) ∧ MkV (w4.setCell ⟨g, 262, none⟩ qv') B H g mr mn A cap a z cl k sg S qv' (Qs ++ [X]) Es ∧ MStep w (w4.setCell ⟨g, 262, none⟩ qv') g mr mn qv qv' := by
 have hgq := x.qne x.gH
 have hrq := x.qne x.rH
 have hnq := x.qne x.nH
 have s2 : w.heap.size ≤ w3.heap.size := Nat.le_trans g2.size b3.size
 have bg3 : Blk w3 g 64 (mkc (nfc A S.length cap a z) cl k sg mr qv mn) := (x.blk.grown g2 (fun e => x.gn (Option.some.inj e))).below b3 (Nat.lt_of_lt_of_le x.blk.lt g2.size)
 have bg4 := bg3.grown g4 (fun e => hgq e.symm)
 have nq : ∀ j, j < H → qv'.ownBlock ≠ some j := fun j hj e => by
  rcases hw j e with e | e
  ·exact x.qne hj e
  ·have := x.hs; omega
 have st : ∀ j, j < w.heap.size → j ≠ mn → qv.ownBlock ≠ some j → w4.heap[j]? = w.heap[j]? := fun j hj h1 h2' =>
  (g4.block j (Nat.lt_of_lt_of_le hj s2) (fun e => h2' e.symm)).trans ((b3.block j (Nat.lt_of_lt_of_le hj g2.size)).trans (g2.block j hj (fun e => h1 (Option.some.inj e))))
 refine ⟨bg4, ?_, ⟨⟨?_, ?_, ?_, ?_, ?_⟩, ?_⟩⟩
 ·refine ⟨by have := bg4.set 262 qv'; rw [mkc_setq x.cl] at this; exact this, x.cl, ?_, ?_, ?_, x.gB, x.rB, x.nB, x.gH, x.rH, x.nH, ?_, x.gr, x.gn, x.rn, ?_, ?_, x.es⟩
  ·refine x.reached.stay ?_
   rw [Below.heap_setCell w4 ⟨g, 262, none⟩ qv' mr (fun e => x.gr e.symm)]
   exact st mr x.reached.lt x.rn hrq
  ·rw [numE_snoc]
   refine h2.stay ?_
   rw [Below.heap_setCell w4 ⟨g, 262, none⟩ qv' mn (fun e => x.gn e.symm)]
   exact (g4.block mn (Nat.lt_of_lt_of_le h2.lt b3.size) (fun e => hnq e.symm)).trans (b3.block mn h2.lt)
  ·rw [List.map_append, List.map_singleton]
   exact own32_stay h4 fun j hj => Below.heap_setCell w4 ⟨g, 262, none⟩ qv' j (fun e => nq j (by rw [show j = g from e]; exact x.gH) hj)
  ·have := g4.size
   have := x.hs
   simp
   omega
  ·intro Y hY
   rcases List.mem_append.1 hY with hY | hY
   ·exact x.ris Y hY
   ·obtain rfl := List.mem_singleton.1 hY
    exact hX
  ·exact nodup_snoc x.nd hno
 ·exact (g4.os.trans (b3.os.trans g2.os))
 ·exact (g4.tape.trans (b3.tape.trans g2.tape))
 ·exact (g4.output.trans (b3.output.trans g2.output))
 ·have := g4.size
  simp
  omega
 ·intro j hj hn
  rw [Below.heap_setCell w4 ⟨g, 262, none⟩ qv' j (fun e => hn (.inl e))]
  exact st j hj (fun e => hn (.inr (.inr (.inl e)))) (fun e => hn (.inr (.inr (.inr e))))
 ·intro j hj
  rcases hw j hj with e | e
  ·exact .inl e
  ·exact .inr (Nat.le_trans s2 e)
end
section
variable {P : Program} {w : World} {o : Oper} {a : Act} {Q : Exit → Act → World → Prop} {K : Act → World → Prop}
theorem run_bldGr (t e : TypeId) (i : TypeInfo) (ht : P.underlying t = some (.slice e)) (hi : P.info? e = some i) (hz : i.zero = some (.agg (gds fun _ => false).toArray)) (hs : i.size = 32) (q : Nat → Bool) :
  (Instr.buildSlice t 1 #[(0, .agg (gds q).toArray)]).run P w = .ok (.slice (some ⟨w.heap.size, 0, none⟩) 1 1) (w.alloc (.cells (gds q).toArray e)) := by
 have hzv : (zeroValue e).run P w = .ok (.agg (gds fun _ => false).toArray) w := by simp [zeroValue, typeInfo, hi, hz]
 obtain ⟨zc, hzc⟩ : ∃ zc : Array Value, zc = (Array.range (1 * 32)).map (fun j => ((Value.agg (gds fun _ => false).toArray).cells)[j % ((Value.agg (gds fun _ => false).toArray).cells).size]!) := ⟨_, rfl⟩
 have hzs : zc.size = 32 := by rw [hzc]; simp
 have hf := Great.fill_whole (s := 32) (by omega) [.agg (gds q).toArray] zc (fun v hv => by
  obtain rfl := List.mem_singleton.1 hv
  simp [Value.cells, gds_length]) (by rw [hzs]; rfl)
 have hf2 : Instr.fill (fun i => some (i * 32, 32)) zc [(0, .agg (gds q).toArray)] = some (gds q).toArray := by
  rw [show [(0, Value.agg (gds q).toArray)] = (([Value.agg (gds q).toArray].zipIdx 0).map fun x => (x.2, x.1)) from rfl, hf]
  simp [Value.cells]
 subst hzc
 simp only [Nat.one_mul] at hf2
 simp [Instr.buildSlice, run_underlying ht, sizeOf, typeInfo, hi, hs, hzv, hf2, newRow]
theorem wp_bldGr (t e : TypeId) (x : Operand) (ho : o.op = .buildSlice t 1 #[(0, x)]) (i : TypeInfo) (ht : P.underlying t = some (.slice e)) (hi : P.info? e = some i) (hz : i.zero = some (.agg (gds fun _ => false).toArray)) (hs : i.size = 32) (q : Nat → Bool)
  (hx : a.eval x = .agg (gds q).toArray) (h : ∀ w', Blk w' w.heap.size e (gds q) → Below w.heap.size w w' → K (a.put o.dst (.slice (some ⟨w.heap.size, 0, none⟩) 1 1)) w') : o.wp P a w K Q := by
 have hrun := run_bldGr (P := P) (w := w) t e i ht hi hz hs q
 unfold Oper.wp
 simp only [execOp, ho, List.map_toArray, List.map_cons, List.map_nil, hx, hrun, Sem.run_bind, Result.andThen_ok, Sem.run_pure]
 exact h _ (Blk.new w e _) ((Below.refl _ _).alloc (Nat.le_refl _) _)
end
theorem ld_mapN {ev : Operand → Value} {o : Oper} (x : Operand) (ho : o.op = .load 62 x) {p : Addr} (hx : ev x = .pointer (some p)) {m : Option Nat} {W : World} (hc : W.cell? p = some (.map m)) : (execOp ev o).run Tryz.prog W = .ok (.value (.map m)) W := by
 simp only [execOp, ho, hx]
 go_simp
theorem ld_mapR {ev : Operand → Value} {o : Oper} (x : Operand) (ho : o.op = .load 60 x) {p : Addr} (hx : ev x = .pointer (some p)) {m : Option Nat} {W : World} (hc : W.cell? p = some (.map m)) : (execOp ev o).run Tryz.prog W = .ok (.value (.map m)) W := by
 simp only [execOp, ho, hx]
 go_simp
theorem ld_grs {ev : Operand → Value} {o : Oper} (x : Operand) (ho : o.op = .load 61 x) {p : Addr} (hx : ev x = .pointer (some p)) {A : Option Addr} {n c : Nat} {W : World} (hc : W.cell? p = some (.slice A n c)) : (execOp ev o).run Tryz.prog W = .ok (.value (.slice A n c)) W := by
 simp only [execOp, ho, hx]
 go_simp
theorem ex_look {P : Program} {ev : Operand → Value} {o : Oper} {t : TypeId} (x y : Operand) (ho : o.op = .lookup t x y true) {m k v : Value} (hx : ev x = m) (hy : ev y = k) {W : World} (hr : (Instr.lookup t m k true).run P W = .ok v W) : (execOp ev o).run P W = .ok (.value v) W := by
 simp only [execOp, ho, hx, hy, Sem.run_bind, hr, Result.andThen_ok, Sem.run_pure]
theorem wp_stG {o : Oper} {a : Act} {K : Act → World → Prop} {Q : Exit → Act → World → Prop} {w : World} (x y : Operand) (ho : o.op = .store 61 x y) {p : Addr} (hx : a.eval x = .pointer (some p)) {A : Option Addr} {n c : Nat} (hy : a.eval y = .slice A n c) {v : Value} (hc : w.cell? p = some v) (hf : w.frozen? p = false)
  (h : K (a.put o.dst undef) (w.setCell p (.slice A n c))) : o.wp Tryz.prog a w K Q := by
 unfold Oper.wp
 simp only [execOp, ho, hx, hy]
 go_simp
 exact h
theorem grown_undrew {w w2 : World} {r : Option Nat} (h : w.drew.grownBy w2 r) : w.grownBy w2 r := ⟨h.os, h.tape, h.output, h.size, h.block⟩
theorem map_len (Qs : List (List Int)) : (Qs.map memB).length = Qs.length := List.length_map ..
set_option maxHeartbeats 4000000 in
set_option maxRecDepth 1000000 in
theorem mNumber_any {B H g mr mn cap k : Nat} {A : Option Addr} {a z : Int} {cl : List UInt8} {sg : Value} {S : List St} {qv : Value} {Qs : List (List Int)} {Es : List Int} (X : List Int) (w : World) (hm : MkV w B H g mr mn A cap a z cl k sg S qv Qs Es) (hX : Ris S.length X) (hn : S.length ≤ 2000) (hq : Qs.length ≤ 100000) :
  Calls Tryz.prog 19 #[.pointer (some ⟨g, 0, none⟩), gkey X] w fun e w' => e = .returned (.int .i64 (ixOf (extL Qs [X]) X : Int)) ∧ ∃ qv', MkV w' B H g mr mn A cap a z cl k sg S qv' (extL Qs [X]) Es ∧ MStep w w' g mr mn qv qv' := by
 have M0 := qH hm
 have HRX := qH hX
 have HN := qH hn
 have HQL := qH (show (Qs.map memB).length ≤ 1048575 by rw [map_len]; omega)
 obtain ⟨gx, hgx⟩ : ∃ gx, gx = gds (memB X) := ⟨_, rfl⟩
 have HGX := qH hgx
 have HKX := qH (show gkey X = .agg gx.toArray by rw [hgx]; rfl)
 have HSZ := qH (show (Tryz.prog.info? 67).map (·.size) = some gx.length by rw [hgx]; exact size_group _)
 have HG1 := qH (show gx.all (·.oneCell') = true by rw [hgx]; exact gds_all _)
 rw [HKX.out]
 obtain ⟨i3, hi3, hz3, hs3, hy3⟩ := infoP inf_group
 clear hm hX hn hq hgx
 go_enter Tryz.func19, Tryz.ntmps19
 go_wp2_with ((with_reducible refine atDst 3 ?_); refine wpList_box rfl 67 _ rfl gx rfl (Below.refl w.heap.size w) (Nat.le_refl _) ?_; intro w1 hk1 hb1 hs1 _; have K1 := qH hk1; have B1 := qH hb1; clear hk1 hb1 hs1; (try simp only [Act.put, qA, qB, qC]))
 have M := qH (M0.out.below B1.out)
 have BP := qH B1.out
 have HMN := qH (by have := M.out.blk.cell 263; rw [mkc_mn M.out.cl] at this; exact this)
 have HGL := qH M.out.blk.lt
 by_cases hin : X ∈ Qs
 ·have HIN := qH hin
  refine sx_startB (B := w1.heap.size) (w0 := w1) (by kernel_rfl) (Below.refl _ _) (fun wd hwd hX => ?_)
  clear hwd hin
  refine sx_take (i := 0) (oi := ⟨some 8, _, _, _, _, _⟩) (v := ?_) rfl (by kernel_rfl) (by kernel_rfl) (by kernel_rfl) (fun _ _ _ h => h) rfl hX ?_ ?_; rotate_left; (intro W hW; go_simp; try with_reducible rfl); simp only [Act.put, qA, qB, qC]
  refine sx_take (i := 1) (oi := ⟨some 9, _, _, _, _, _⟩) (v := ?_) rfl (by kernel_rfl) (by kernel_rfl) (by kernel_rfl) (fun _ _ _ h => h) rfl hX ?_ ?_; rotate_left; (intro W hW; go_simp; try with_reducible rfl); simp only [Act.put, qA, qB, qC]
  refine sx_take (i := 2) (oi := ⟨some 10, _, _, _, _, _⟩) (v := ?_) rfl (by kernel_rfl) (by kernel_rfl) (by kernel_rfl) (fun _ _ _ h => h) rfl hX ?_ ?_; rotate_left; (intro W hW; go_simp; try with_reducible rfl); simp only [Act.put, qA, qB, qC]
  refine sx_take (i := 3) (oi := ⟨some 11, _, _, _, _, _⟩) (v := .map (some mn)) rfl (by kernel_rfl) (by kernel_rfl) (by kernel_rfl) (fun _ _ _ h => h) rfl hX (fun W hW => ld_mapN (.tmp 10) rfl rfl ((hW.cell (p := ⟨g, 263, none⟩) HGL.out).trans HMN.out)) ?_; simp only [Act.put, qA, qB, qC]
  refine sx_take (i := 4) (oi := ⟨some 12, _, _, _, _, _⟩) (v := .agg gx.toArray) rfl (by kernel_rfl) (by kernel_rfl) (by kernel_rfl) (fun _ _ _ h => h) rfl hX (ld_blk 67 _ rfl w.heap.size rfl 67 gx _ K1.out K1.out.lt Tryz.underlying67 rfl HSZ.out) ?_; simp only [Act.put, qA, qB, qC]
  refine sx_take (i := 5) (oi := ⟨some 13, _, _, _, _, _⟩) (v := .tuple #[.int .i64 (ixOf Qs X : Int), .bool true]) rfl (by kernel_rfl) (by kernel_rfl) (by kernel_rfl) (fun _ _ _ h => h) rfl hX (fun W hW => ex_look (.tmp 11) (.tmp 12) rfl rfl rfl (by rw [← HKX.out]; exact look_yes (M.out.below hW).numbers HN.out M.out.ris M.out.nd HIN.out)) ?_; simp only [Act.put, qA, qB, qC]
  refine sx_take (i := 6) (oi := ⟨some 7, _, _, _, _, _⟩) (v := ?_) rfl (by kernel_rfl) (by kernel_rfl) (by kernel_rfl) (fun _ _ _ h => h) rfl hX ?_ ?_; rotate_left; (intro W hW; go_simp; try with_reducible rfl); simp only [Act.put, qA, qB, qC]
  refine sx_take (i := 7) (oi := ⟨some 14, _, _, _, _, _⟩) (v := ?_) rfl (by kernel_rfl) (by kernel_rfl) (by kernel_rfl) (fun _ _ _ h => h) rfl hX ?_ ?_; rotate_left; (intro W hW; go_simp; try with_reducible rfl); simp only [Act.put, qA, qB, qC]
  refine sx_take (i := 8) (oi := ⟨some 15, _, _, _, _, _⟩) (v := ?_) rfl (by kernel_rfl) (by kernel_rfl) (by kernel_rfl) (fun _ _ _ h => h) rfl hX ?_ ?_; rotate_left; (intro W hW; go_simp; try with_reducible rfl); simp only [Act.put, qA, qB, qC]
  refine sx_take (i := 9) (oi := ⟨some 5, _, _, _, _, _⟩) (v := ?_) rfl (by kernel_rfl) (by kernel_rfl) (by kernel_rfl) (fun _ _ _ h => h) rfl hX ?_ ?_; rotate_left; (intro W hW; go_simp; try with_reducible rfl); simp only [Act.put, qA, qB, qC]
  refine sx_take (i := 10) (oi := ⟨some 6, _, _, _, _, _⟩) (v := ?_) rfl (by kernel_rfl) (by kernel_rfl) (by kernel_rfl) (fun _ _ _ h => h) rfl hX ?_ ?_; rotate_left; (intro W hW; go_simp; try with_reducible rfl); simp only [Act.put, qA, qB, qC]
  refine wpAnyH_done (by kernel_rfl) ?_ _
  have BD := qH hX
  clear hX
  go_wp2_with fail
  go_ret
  rw [extL_in HIN.out]
  exact ⟨rfl, qv, M.out.below BD.out, MStep.of (BP.out.trans (BD.out.mono BP.out.size)) g mr mn qv⟩
 ·have HNO := qH hin
  refine sx_startB (B := w1.heap.size) (w0 := w1) (by kernel_rfl) (Below.refl _ _) (fun wd hwd hX => ?_)
  clear hwd hin
  refine sx_take (i := 0) (oi := ⟨some 8, _, _, _, _, _⟩) (v := ?_) rfl (by kernel_rfl) (by kernel_rfl) (by kernel_rfl) (fun _ _ _ h => h) rfl hX ?_ ?_; rotate_left; (intro W hW; go_simp; try with_reducible rfl); simp only [Act.put, qA, qB, qC]
  refine sx_take (i := 1) (oi := ⟨some 9, _, _, _, _, _⟩) (v := ?_) rfl (by kernel_rfl) (by kernel_rfl) (by kernel_rfl) (fun _ _ _ h => h) rfl hX ?_ ?_; rotate_left; (intro W hW; go_simp; try with_reducible rfl); simp only [Act.put, qA, qB, qC]
  refine sx_take (i := 2) (oi := ⟨some 10, _, _, _, _, _⟩) (v := ?_) rfl (by kernel_rfl) (by kernel_rfl) (by kernel_rfl) (fun _ _ _ h => h) rfl hX ?_ ?_; rotate_left; (intro W hW; go_simp; try with_reducible rfl); simp only [Act.put, qA, qB, qC]
  refine sx_take (i := 3) (oi := ⟨some 11, _, _, _, _, _⟩) (v := .map (some mn)) rfl (by kernel_rfl) (by kernel_rfl) (by kernel_rfl) (fun _ _ _ h => h) rfl hX (fun W hW => ld_mapN (.tmp 10) rfl rfl ((hW.cell (p := ⟨g, 263, none⟩) HGL.out).trans HMN.out)) ?_; simp only [Act.put, qA, qB, qC]
  refine sx_take (i := 4) (oi := ⟨some 12, _, _, _, _, _⟩) (v := .agg gx.toArray) rfl (by kernel_rfl) (by kernel_rfl) (by kernel_rfl) (fun _ _ _ h => h) rfl hX (ld_blk 67 _ rfl w.heap.size rfl 67 gx _ K1.out K1.out.lt Tryz.underlying67 rfl HSZ.out) ?_; simp only [Act.put, qA, qB, qC]
  refine sx_take (i := 5) (oi := ⟨some 13, _, _, _, _, _⟩) (v := .tuple #[.int .i64 0, .bool false]) rfl (by kernel_rfl) (by kernel_rfl) (by kernel_rfl) (fun _ _ _ h => h) rfl hX (fun W hW => ex_look (.tmp 11) (.tmp 12) rfl rfl rfl (by rw [← HKX.out]; exact look_no (M.out.below hW).numbers HN.out M.out.ris HRX.out HNO.out)) ?_; simp only [Act.put, qA, qB, qC]
  refine sx_take (i := 6) (oi := ⟨some 7, _, _, _, _, _⟩) (v := ?_) rfl (by kernel_rfl) (by kernel_rfl) (by kernel_rfl) (fun _ _ _ h => h) rfl hX ?_ ?_; rotate_left; (intro W hW; go_simp; try with_reducible rfl); simp only [Act.put, qA, qB, qC]
  refine sx_take (i := 7) (oi := ⟨some 14, _, _, _, _, _⟩) (v := ?_) rfl (by kernel_rfl) (by kernel_rfl) (by kernel_rfl) (fun _ _ _ h => h) rfl hX ?_ ?_; rotate_left; (intro W hW; go_simp; try with_reducible rfl); simp only [Act.put, qA, qB, qC]
  refine sx_take (i := 8) (oi := ⟨some 15, _, _, _, _, _⟩) (v := ?_) rfl (by kernel_rfl) (by kernel_rfl) (by kernel_rfl) (fun _ _ _ h => h) rfl hX ?_ ?_; rotate_left; (intro W hW; go_simp; try with_reducible rfl); simp only [Act.put, qA, qB, qC]
  refine sx_take (i := 9) (oi := ⟨some 5, _, _, _, _, _⟩) (v := ?_) rfl (by kernel_rfl) (by kernel_rfl) (by kernel_rfl) (fun _ _ _ h => h) rfl hX ?_ ?_; rotate_left; (intro W hW; go_simp; try with_reducible rfl); simp only [Act.put, qA, qB, qC]
  refine sx_take (i := 10) (oi := ⟨some 6, _, _, _, _, _⟩) (v := ?_) rfl (by kernel_rfl) (by kernel_rfl) (by kernel_rfl) (fun _ _ _ h => h) rfl hX ?_ ?_; rotate_left; (intro W hW; go_simp; try with_reducible rfl); simp only [Act.put, qA, qB, qC]
  refine wpAnyH_done (by kernel_rfl) ?_ _
  have BD := qH hX
  clear hX
  have M2 := qH (M.out.below BD.out)
  have K2 := qH (K1.out.below BD.out K1.out.lt)
  obtain ⟨Aq, cq, rfl, _⟩ := own32_row M2.out.queue
  have HNQ := qH (map_len Qs)
  obtain ⟨nq, hnq⟩ : ∃ n, n = (Qs.map memB).length := ⟨_, rfl⟩
  rw [← hnq] at M0 M M2 HNQ
  clear hnq
  have c262 : wd.cell? ⟨g, 262, none⟩ = some (.slice Aq nq cq) := by have := M2.out.blk.cell 262; rw [mkc_q M.out.cl] at this; exact this
  have HMN2 := qH (by have := M2.out.blk.cell 263; rw [mkc_mn M.out.cl] at this; exact this)
  go_wp2_with fail
  clear c262
  refine sg_start (fun W => Off (fun k => k = mn) wd W) (by kernel_rfl) (Off.start _ _) (fun we hwe => ?_)
  have hX : Off (fun k => k = mn) wd we := by rw [hwe]; exact Off.start _ _
  have HBN := qH (show ¬ w.heap.size = mn by have h1 := M0.out.numbers.lt; omega)
  have NE := qH (show MapV we mn (numE Qs) by rw [hwe]; exact M2.out.numbers)
  have HWE := qH hwe
  clear hwe
  obtain ⟨lx, hlx⟩ := gkey_key X
  have HLX := qH hlx
  clear hlx
  refine sg_take (i := 0) (oi := ⟨some 23, _, _, _, _, _⟩) (v := ?_) rfl (by kernel_rfl) (by kernel_rfl) (by kernel_rfl) (fun _ _ _ h => h) rfl hX ?_ ?_; rotate_left; (intro W hW; go_simp; try with_reducible rfl); simp only [Act.put, qA, qB, qC]
  refine sg_take (i := 1) (oi := ⟨some 24, _, _, _, _, _⟩) (v := ?_) rfl (by kernel_rfl) (by kernel_rfl) (by kernel_rfl) (fun _ _ _ h => h) rfl hX ?_ ?_; rotate_left; (intro W hW; go_simp; try with_reducible rfl); simp only [Act.put, qA, qB, qC]
  refine sg_take (i := 2) (oi := ⟨some 25, _, _, _, _, _⟩) (v := ?_) rfl (by kernel_rfl) (by kernel_rfl) (by kernel_rfl) (fun _ _ _ h => h) rfl hX ?_ ?_; rotate_left; (intro W hW; go_simp; try with_reducible rfl); simp only [Act.put, qA, qB, qC]
  refine sg_take (i := 3) (oi := ⟨some 26, _, _, _, _, _⟩) (v := .map (some mn)) rfl (by kernel_rfl) (by kernel_rfl) (by kernel_rfl) (fun _ _ _ h => h) rfl hX (fun W hW => ld_mapN (.tmp 25) rfl rfl (Off.cell hW M2.out.blk.lt (fun e => M2.out.gn e) HMN2.out)) ?_; simp only [Act.put, qA, qB, qC]
  refine sg_take (i := 4) (oi := ⟨some 27, _, _, _, _, _⟩) (v := .agg gx.toArray) rfl (by kernel_rfl) (by kernel_rfl) (by kernel_rfl) (fun _ _ _ h => h) rfl hX (fun W hW => ld_blk 67 _ rfl w.heap.size rfl 67 gx _ (Off.blk hW HBN.out K2.out) (Off.blk hW HBN.out K2.out).lt Tryz.underlying67 rfl HSZ.out W (Below.refl _ _)) ?_; simp only [Act.put, qA, qB, qC]
  refine sg_take (i := 5) (oi := ⟨some 28, _, _, _, _, _⟩) (v := ?_) rfl (by kernel_rfl) (by kernel_rfl) (by kernel_rfl) (fun _ _ _ h => h) rfl hX ?_ ?_; rotate_left; (intro W hW; go_simp; try with_reducible rfl); simp only [Act.put, qA, qB, qC]
  refine sg_actB (i := 6) (o := ⟨none, _, _, _, _, _⟩) rfl (by kernel_rfl) rfl hX (fun K hK => ?_)
  refine wp_putNew (.tmp 26) (.tmp 27) (.tmp 28) rfl keyed_group Tryz.underlying62 rfl NE.out rfl rfl (by rw [HKX.out] at HLX; exact HLX.out) (numE_keys Qs) (by rw [← HKX.out]; exact num_new HN.out M.out.ris HRX.out HNO.out) ?_
  intro w2 hn2 hg2
  have N2 := qH (show MapV w2 mn (numE Qs ++ [(gkey X, .int .i64 (Qs.length : Int))]) by rw [HKX.out, ← HNQ.out]; exact hn2)
  have G2 := qH (show wd.grownBy w2 (some mn) by rw [HWE.out] at hg2; exact grown_undrew hg2)
  refine hK _ _ (Off.grown G2.out fun j hj => .inr (Option.some.inj hj).symm) ?_
  clear hK K hn2 hg2 hX
  (try simp only [Act.put, qA, qB, qC])
  refine wpAnyH_done (by kernel_rfl) ?_ _
  go_wp2_with fail
  have HQ2 := qH (own32_stay M2.out.queue (w' := w2) fun j hj => G2.out.block j (own4_lt M2.out.queue j hj) (fun e => M2.out.qne M2.out.nH (by rw [hj]; exact e)))
  have KB2 := qH (K2.out.grown G2.out (fun e => HBN.out (Option.some.inj e)))
  have BG2 := qH (M2.out.blk.grown G2.out (fun e => M2.out.gn (Option.some.inj e)))
  have HB0 := qH (show ¬ (w.heap.size = g ∨ (Value.slice Aq nq cq).ownBlock = some w.heap.size) by
   rintro (e | e)
   ·have := M0.out.blk.lt; omega
   ·have := own4_lt M0.out.queue _ e; omega)
  refine sg_start (fun W => Off (fun k => k = g ∨ (Value.slice Aq nq cq).ownBlock = some k) w2 W) (by kernel_rfl) (Off.start _ _) (fun wf hwf => ?_)
  have hX : Off (fun k => k = g ∨ (Value.slice Aq nq cq).ownBlock = some k) w2 wf := by rw [hwf]; exact Off.start _ _
  have BW5 := qH (show Below w2.heap.size w2 wf by rw [hwf]; exact (Below.refl _ _).drew)
  have HQ5 := qH (show wf.ownsRow H 67 32 (.slice Aq nq cq) (Qs.map memB).length (grs (Qs.map memB)) by rw [hwf]; exact HQ2.out)
  have HCQ := qH (show wf.cell? ⟨g, 262, none⟩ = some (.slice Aq nq cq) by rw [hwf]; have := BG2.out.cell 262; rw [mkc_q M.out.cl] at this; exact this)
  have HGF := qH (show g < wf.heap.size by rw [hwf]; exact BG2.out.lt)
  clear hwf
  refine sg_take (i := 0) (oi := ⟨some 29, _, _, _, _, _⟩) (v := ?_) rfl (by kernel_rfl) (by kernel_rfl) (by kernel_rfl) (fun _ _ _ h => h) rfl hX ?_ ?_; rotate_left; (intro W hW; go_simp; try with_reducible rfl); simp only [Act.put, qA, qB, qC]
  refine sg_take (i := 1) (oi := ⟨some 30, _, _, _, _, _⟩) (v := ?_) rfl (by kernel_rfl) (by kernel_rfl) (by kernel_rfl) (fun _ _ _ h => h) rfl hX ?_ ?_; rotate_left; (intro W hW; go_simp; try with_reducible rfl); simp only [Act.put, qA, qB, qC]
  refine sg_take (i := 2) (oi := ⟨some 31, _, _, _, _, _⟩) (v := ?_) rfl (by kernel_rfl) (by kernel_rfl) (by kernel_rfl) (fun _ _ _ h => h) rfl hX ?_ ?_; rotate_left; (intro W hW; go_simp; try with_reducible rfl); simp only [Act.put, qA, qB, qC]
  refine sg_take (i := 3) (oi := ⟨some 32, _, _, _, _, _⟩) (v := ?_) rfl (by kernel_rfl) (by kernel_rfl) (by kernel_rfl) (fun _ _ _ h => h) rfl hX ?_ ?_; rotate_left; (intro W hW; go_simp; try with_reducible rfl); simp only [Act.put, qA, qB, qC]
  refine sg_take (i := 5) (oi := ⟨some 34, _, _, _, _, _⟩) (v := .agg gx.toArray) rfl (by kernel_rfl) (by kernel_rfl) (by kernel_rfl) (fun _ _ _ h => h) rfl hX (fun W hW => ld_blk 67 _ rfl w.heap.size rfl 67 gx _ (Off.blk hW HB0.out KB2.out) (Off.blk hW HB0.out KB2.out).lt Tryz.underlying67 rfl HSZ.out W (Below.refl _ _)) ?_; simp only [Act.put, qA, qB, qC]
  refine sg_two (i := 4) (j := 6) (oi := ⟨some 33, _, _, _, _, _⟩) (oj := ⟨some 35, _, _, _, _, _⟩) rfl rfl (by kernel_rfl) rfl rfl hX (fun K hK => ?_) (fun K hK => ?_)
  ·refine wp_of_run (v := .slice Aq nq cq) (ld_grs (.tmp 32) rfl rfl HCQ.out) ?_
   refine hK _ _ hX ?_
   clear hK K
   (try simp only [Act.put, qA, qB, qC])
   refine sg_actB (i := 6) (o := ⟨some 35, _, _, _, _, _⟩) rfl (by kernel_rfl) rfl hX (fun K hK => ?_)
   refine wp_bldGr 61 67 (.tmp 34) rfl i3 Tryz.underlying61 hi3 hz3 hs3 (memB X) (congrArg (fun l : List Value => Value.agg l.toArray) HGX.out) ?_
   intro w4 hk4 hb4
   have K4 := qH hk4
   have B4 := qH hb4
   refine hK _ _ (hX.then hb4) ?_
   clear hK K
   (try simp only [Act.put, qA, qB, qC])
   replace hX := hX.then hb4
   clear hk4 hb4
   refine sg_actB (i := 7) (o := ⟨some 36, _, _, _, _, _⟩) rfl (by kernel_rfl) rfl hX (fun K hK => ?_)
   refine wp_appGr (base := H) (.tmp 33) (.tmp 35) 61 rfl 67 i3 Tryz.underlying61 hi3 hz3 hs3 hy3 _ (Qs.map memB) rfl (own32_stay HQ5.out fun j hj => B4.out.block j (own4_lt HQ5.out j hj)) _ 1 67 (memB X) rfl K4.out HQL.out (Nat.le_trans M2.out.hs (Nat.le_trans G2.out.size (Nat.le_trans BW5.out.size B4.out.size))) ?_
   intro v5 w5 ho5 hg5 hw5
   have PX := qH (M2.out.push HRX.out HNO.out N2.out G2.out (BW5.out.trans (B4.out.mono BW5.out.size)) ho5 hg5 hw5)
   have HC5 := qH (by have := PX.out.1.cell 262; rw [mkc_q M.out.cl] at this; exact this)
   have HF5 := qH (PX.out.1.frozen 262)
   obtain ⟨A5, c5, hv5, _⟩ := own32_row ho5
   obtain ⟨n5, hn5⟩ : ∃ n5, n5 = (Qs.map memB ++ [memB X]).length := ⟨_, rfl⟩
   rw [← hn5] at hv5
   clear hn5
   subst hv5
   refine hK _ _ (hX.trans (Off.grown hg5 fun j hj => .inr (.inr hj))) ?_
   clear hK K
   (try simp only [Act.put, qA, qB, qC])
   replace hX := hX.trans (Off.grown hg5 fun j hj => .inr (.inr hj))
   clear ho5 hg5 hw5
   refine sg_take (i := 8) (oi := ⟨some 37, _, _, _, _, _⟩) (v := ?_) rfl (by kernel_rfl) (by kernel_rfl) (by kernel_rfl) (fun _ _ _ h => h) rfl hX ?_ ?_; rotate_left; (intro W hW; go_simp; try with_reducible rfl); simp only [Act.put, qA, qB, qC]
   refine sg_take (i := 9) (oi := ⟨some 38, _, _, _, _, _⟩) (v := ?_) rfl (by kernel_rfl) (by kernel_rfl) (by kernel_rfl) (fun _ _ _ h => h) rfl hX ?_ ?_; rotate_left; (intro W hW; go_simp; try with_reducible rfl); simp only [Act.put, qA, qB, qC]
   refine sg_actB (i := 10) (o := ⟨none, _, _, _, _, _⟩) rfl (by kernel_rfl) rfl hX (fun K hK => ?_)
   refine wp_stG (.tmp 38) (.tmp 36) rfl rfl rfl HC5.out HF5.out ?_
   refine hK _ _ (hX.trans (Off.set w5 262 _ (.inl rfl))) ?_
   clear hK K
   (try simp only [Act.put, qA, qB, qC])
   clear hX
   refine wpAnyH_done (by kernel_rfl) ?_ _
   go_wp2_with fail
   go_ret
   rw [extL_new HNO.out, idx_new HNO.out, ← HNQ.out]
   exact ⟨rfl, _, PX.out.2.1, (MStep.of (BP.out.trans (BD.out.mono BP.out.size)) g mr mn _).trans PX.out.2.2⟩
  ·refine wp_bldGr 61 67 (.tmp 34) rfl i3 Tryz.underlying61 hi3 hz3 hs3 (memB X) (congrArg (fun l : List Value => Value.agg l.toArray) HGX.out) ?_
   intro w4 hk4 hb4
   have K4 := qH hk4
   have B4 := qH hb4
   refine hK _ _ (hX.then hb4) ?_
   clear hK K
   (try simp only [Act.put, qA, qB, qC])
   replace hX := hX.then hb4
   clear hk4 hb4
   refine sg_actB (i := 4) (o := ⟨some 33, _, _, _, _, _⟩) rfl (by kernel_rfl) rfl hX (fun K hK => ?_)
   refine wp_of_run (v := .slice Aq nq cq) (ld_grs (.tmp 32) rfl rfl ((B4.out.cell (p := ⟨g, 262, none⟩) HGF.out).trans HCQ.out)) ?_
   refine hK _ _ hX ?_
   clear hK K
   (try simp only [Act.put, qA, qB, qC])
   refine sg_actB (i := 7) (o := ⟨some 36, _, _, _, _, _⟩) rfl (by kernel_rfl) rfl hX (fun K hK => ?_)
   refine wp_appGr (base := H) (.tmp 33) (.tmp 35) 61 rfl 67 i3 Tryz.underlying61 hi3 hz3 hs3 hy3 _ (Qs.map memB) rfl (own32_stay HQ5.out fun j hj => B4.out.block j (own4_lt HQ5.out j hj)) _ 1 67 (memB X) rfl K4.out HQL.out (Nat.le_trans M2.out.hs (Nat.le_trans G2.out.size (Nat.le_trans BW5.out.size B4.out.size))) ?_
   intro v5 w5 ho5 hg5 hw5
   have PX := qH (M2.out.push HRX.out HNO.out N2.out G2.out (BW5.out.trans (B4.out.mono BW5.out.size)) ho5 hg5 hw5)
   have HC5 := qH (by have := PX.out.1.cell 262; rw [mkc_q M.out.cl] at this; exact this)
   have HF5 := qH (PX.out.1.frozen 262)
   obtain ⟨A5, c5, hv5, _⟩ := own32_row ho5
   obtain ⟨n5, hn5⟩ : ∃ n5, n5 = (Qs.map memB ++ [memB X]).length := ⟨_, rfl⟩
   rw [← hn5] at hv5
   clear hn5
   subst hv5
   refine hK _ _ (hX.trans (Off.grown hg5 fun j hj => .inr (.inr hj))) ?_
   clear hK K
   (try simp only [Act.put, qA, qB, qC])
   replace hX := hX.trans (Off.grown hg5 fun j hj => .inr (.inr hj))
   clear ho5 hg5 hw5
   refine sg_take (i := 8) (oi := ⟨some 37, _, _, _, _, _⟩) (v := ?_) rfl (by kernel_rfl) (by kernel_rfl) (by kernel_rfl) (fun _ _ _ h => h) rfl hX ?_ ?_; rotate_left; (intro W hW; go_simp; try with_reducible rfl); simp only [Act.put, qA, qB, qC]
   refine sg_take (i := 9) (oi := ⟨some 38, _, _, _, _, _⟩) (v := ?_) rfl (by kernel_rfl) (by kernel_rfl) (by kernel_rfl) (fun _ _ _ h => h) rfl hX ?_ ?_; rotate_left; (intro W hW; go_simp; try with_reducible rfl); simp only [Act.put, qA, qB, qC]
   refine sg_actB (i := 10) (o := ⟨none, _, _, _, _, _⟩) rfl (by kernel_rfl) rfl hX (fun K hK => ?_)
   refine wp_stG (.tmp 38) (.tmp 36) rfl rfl rfl HC5.out HF5.out ?_
   refine hK _ _ (hX.trans (Off.set w5 262 _ (.inl rfl))) ?_
   clear hK K
   (try simp only [Act.put, qA, qB, qC])
   clear hX
   refine wpAnyH_done (by kernel_rfl) ?_ _
   go_wp2_with fail
   go_ret
   rw [extL_new HNO.out, idx_new HNO.out, ← HNQ.out]
   exact ⟨rfl, _, PX.out.2.1, (MStep.of (BP.out.trans (BD.out.mono BP.out.size)) g mr mn _).trans PX.out.2.2⟩
def lightN (S : List St) (k : Nat) : Prop := S.length ≤ k ∧ ∀ s ∈ S, s.free.length ≤ 20
theorem lightN_at {S : List St} {k : Nat} (h : lightN S k) {i : Nat} {s : St} (hs : S[i]? = some s) : s.free.length ≤ 20 := h.2 s (List.mem_of_getElem? hs)
noncomputable def lightB (S : List St) (k : Nat) : Bool := @decide (lightN S k) (Classical.propDecidable _)
theorem lightB_yes {S : List St} {k : Nat} (h : lightN S k) : lightB S k = true := by
 unfold lightB
 exact (@decide_eq_true_iff _ (Classical.propDecidable _)).2 h
theorem lightB_no {S : List St} {k : Nat} (h : ¬ lightN S k) : lightB S k = false := by
 unfold lightB
 exact (@decide_eq_false_iff_not _ (Classical.propDecidable _)).2 h
theorem lightB_iff {S : List St} {k : Nat} : lightB S k = true ↔ lightN S k := by
 unfold lightB
 exact @decide_eq_true_iff _ (Classical.propDecidable _)
set_option maxHeartbeats 4000000 in
set_option maxRecDepth 1000000 in
theorem lightN_any (S : List St) (a z : Int) (k : Nat) (cs : List Value) (w : World) (hv : NfaV w cs S a z) :
  Calls Tryz.prog 6 #[.agg cs.toArray, .int .i64 (k : Int)] w fun e w' => e = .returned (.bool (lightB S k)) ∧ Below w.heap.size w w' := by
 have N0 := qH hv
 obtain ⟨A, cap, rfl, hlc, hcm, hA0⟩ := hv.len
 have HLN := qH (And.intro hlc hcm)
 clear hv hlc hcm hA0
 go_enter Tryz.func6, Tryz.ntmps6
 by_cases h1 : (k : Int) < (S.length : Int)
 ·have HF := qH (show ¬ lightN S k from fun h => by have := h.1; omega)
  go_wp2_with ((with_reducible refine atDst 2 ?_); refine wpList_box rfl 24 _ rfl [.slice A S.length cap, .int .i64 a, .int .i64 z] rfl (Below.refl w.heap.size w) (Nat.le_refl _) ?_; intro w1 hk1 hb1 hs1 _; have B1 := qH hb1; have c0 := hk1.cell 0; clear hk1 hb1 hs1; (try simp only [Act.put, qA, qB, qC]))
  go_ret
  rw [lightB_no HF.out]
  exact ⟨rfl, B1.out⟩
 have HK := qH (show S.length ≤ k by omega)
 go_wp2_with ((with_reducible refine atDst 2 ?_); refine wpList_box rfl 24 _ rfl [.slice A S.length cap, .int .i64 a, .int .i64 z] rfl (Below.refl w.heap.size w) (Nat.le_refl _) ?_; intro w1 hk1 hb1 hs1 _; have K1 := qH hk1; have B1 := qH hb1; have c0 := hk1.cell 0; clear hk1 hb1 hs1; (try simp only [Act.put, qA, qB, qC]))
 have N1 := qH (N0.out.below B1.out)
 go_loopw [5] (fun iv wl => ∃ i : Nat, i ≤ S.length ∧ iv = .int .i64 (i : Int) ∧ (∀ (i' : Nat) (s : St), i' < i → S[i']? = some s → s.free.length ≤ 20) ∧ wl = w1) (fun iv _ => S.length - (intOf iv).toNat)
 case atStart => exact ⟨0, Nat.zero_le _, by simp, fun i' s h => absurd h (Nat.not_lt_zero i'), rfl⟩
 obtain ⟨i, hi, rfl, hok, hw⟩ := hrel
 have hw2 := hw.symm
 subst hw2
 clear hw
 have HOK := qH hok
 clear hok h1
 by_cases hin : i < S.length
 ·have x1 : (i : Int) < (S.length : Int) := Int.ofNat_lt.2 hin
  have HI := qH hin
  have HMI := qH (sub_next hin)
  have e3 := wrap_len HI.out HLN.out.1 HLN.out.2
  have e4 := wrap_len' HI.out HLN.out.1 HLN.out.2
  obtain ⟨s, hs⟩ : ∃ s, S[i]? = some s := ⟨_, List.getElem?_eq_getElem hin⟩
  have HS := qH hs
  obtain ⟨b, off, rfl, _, _, _, Af, cf, hf, _⟩ := N1.out.at_ hs
  obtain ⟨fl, hfl⟩ : ∃ n, n = s.free.length := ⟨_, rfl⟩
  rw [← hfl] at hf
  have HFL := qH hfl
  clear hi hin hs hfl
  by_cases hfl20 : (20 : Int) < (fl : Int)
  ·have HF := qH (show ¬ lightN S k from fun h => by have := lightN_at h HS.out; have := HFL.out; omega)
   go_wp2_with fail
   go_ret
   rw [lightB_no HF.out]
   exact ⟨rfl, B1.out⟩
  ·have HF20 := qH (show s.free.length ≤ 20 by have := HFL.out; omega)
   go_wp2_with fail
   refine ⟨⟨i + 1, HI.out, by congr 1, fun i' s' hi' hs' => ?_, trivial⟩, by simpa [intOf] using HMI.out⟩
   rcases Nat.lt_or_ge i' i with hlt | hge
   ·exact HOK.out i' s' hlt hs'
   ·obtain rfl : i' = i := by omega
    have h9 := HS.out
    rw [hs'] at h9
    injection h9 with h9
    rw [h9]
    exact HF20.out
 ·obtain rfl : i = S.length := by omega
  have x1 : ¬ ((S.length : Int) < (S.length : Int)) := by omega
  have HT := qH (show lightN S k from ⟨HK.out, fun s hs => by
   obtain ⟨i, hi, rfl⟩ := List.getElem_of_mem hs
   exact HOK.out i _ hi (List.getElem?_eq_getElem hi)⟩)
  go_wp2_with fail
  go_ret
  rw [lightB_yes HT.out]
  exact ⟨rfl, B1.out⟩
end Go.Proofs.YteadghoojeehlaaGreatDoor
