/-
  Texts of this proof, put together: SbN, SbO. No statement is proved here.
-/
import Derived.Test.YteadghoojeehlaaGreatDoorXW
namespace Go.Proofs.YteadghoojeehlaaGreatDoor
open Go.RowKit
set_option linter.unusedSimpArgs false
set_option linter.unusedVariables false
/-! ### plain facts -/
noncomputable def rwB (S : List St) (X : List Int) (j b i : Nat) : Bool := (X.take j).any fun x => match S[x.toNat]? with
 | some s => s.set b && memB (clsN S [s.to]) i
 | none => false
theorem rwB_zero (S : List St) (X : List Int) (b : Nat) : rwB S X 0 b = fun _ => false := by
 funext i
 simp [rwB]
theorem rwB_next {S : List St} {X : List Int} {j p : Nat} {s : St} (hx : X[j]? = some (p : Int)) (hs : S[p]? = some s) (b i : Nat) : rwB S X (j + 1) b i = (rwB S X j b i || (s.set b && memB (clsN S [s.to]) i)) := by
 obtain ⟨hj, he⟩ := List.getElem?_eq_some_iff.1 hx
 unfold rwB
 rw [List.take_succ_eq_append_getElem hj, List.any_append, he]
 simp [hs]
theorem rwB_all {S : List St} {X : List Int} (hX : Ris S.length X) (b : Nat) : rwB S X X.length b = memB (stpN S X b) := by
 funext i
 rw [Bool.eq_iff_iff, memB_stp]
 unfold rwB
 rw [List.take_length, List.any_eq_true]
 constructor
 ·rintro ⟨x, hx, h⟩
  obtain ⟨p, rfl, hp⟩ := ris_rng hX hx
  rw [Int.toNat_natCast, List.getElem?_eq_getElem hp] at h
  have h : (S[p].set b && memB (clsN S [S[p].to]) i) = true := h
  rw [Bool.and_eq_true, memB_cls] at h
  exact ⟨p, S[p], hx, List.getElem?_eq_getElem hp, h.1, h.2⟩
 ·rintro ⟨p, s, h1, h2, h3, h4⟩
  refine ⟨(p : Int), h1, ?_⟩
  rw [Int.toNat_natCast, h2]
  show (s.set b && memB (clsN S [s.to]) i) = true
  rw [Bool.and_eq_true, memB_cls]
  exact ⟨h3, h4⟩
noncomputable def tsJ (S : List St) (X : List Int) (j : Nat) : List (Nat → Bool) := (fbN S).map fun b => rwB S X j b
theorem tsJ_zero (S : List St) (X : List Int) : tsJ S X 0 = List.replicate (fbN S).length fun _ => false := by
 unfold tsJ
 rw [List.map_congr_left (g := fun _ => fun _ => false) fun b _ => rwB_zero S X b]
 exact List.map_const' ..
theorem tsJ_all {S : List St} {X : List Int} (hX : Ris S.length X) : tsJ S X X.length = (sucN S X).map memB := by
 unfold tsJ sucN
 rw [List.map_map]
 exact List.map_congr_left fun b _ => rwB_all hX b
def sgL (S : List St) (s : St) : List UInt8 := memJ (fun b => s.set b && decide (b ∈ fbN S)) 256
theorem sgL_len (S : List St) (s : St) : (sgL S s).length ≤ 256 := memJ_len _ _
theorem sgL_in {S : List St} {s : St} {c : UInt8} (h : c ∈ sgL S s) : s.set c.toNat = true ∧ c.toNat ∈ fbN S := by
 have := memJ_in h
 rw [Bool.and_eq_true, decide_eq_true_iff] at this
 exact this
theorem sgL_mem {S : List St} {s : St} {b : Nat} (hb : b ∈ fbN S) : decide (UInt8.ofNat b ∈ sgL S s) = s.set b := by
 unfold sgL
 rw [memJ_mem _ b (fbN_lt hb)]
 simp [hb]
def inSg (S : List St) (s : St) (m b : Nat) : Bool := decide (UInt8.ofNat b ∈ (sgL S s).take m)
theorem inSg_zero (S : List St) (s : St) (b : Nat) : inSg S s 0 b = false := by simp [inSg]
theorem inSg_all {S : List St} {s : St} {b : Nat} (hb : b ∈ fbN S) : inSg S s (sgL S s).length b = s.set b := by
 unfold inSg
 rw [List.take_length, sgL_mem hb]
theorem inSg_this {S : List St} {s : St} {m : Nat} {c : UInt8} (hc : (sgL S s)[m]? = some c) : inSg S s (m + 1) c.toNat = true := by
 obtain ⟨hm, hce⟩ := List.getElem?_eq_some_iff.1 hc
 refine decide_eq_true ?_
 rw [List.take_succ_eq_append_getElem hm, hce, UInt8.ofNat_toNat]
 exact List.mem_append_right _ (List.mem_singleton.2 rfl)
theorem inSg_other {S : List St} {s : St} {m b : Nat} {c : UInt8} (hc : (sgL S s)[m]? = some c) (hb : b < 256) (hne : b ≠ c.toNat) : inSg S s (m + 1) b = inSg S s m b := by
 obtain ⟨hm, hce⟩ := List.getElem?_eq_some_iff.1 hc
 refine decide_eq_decide.2 ?_
 rw [List.take_succ_eq_append_getElem hm, hce, List.mem_append, List.mem_singleton]
 refine ⟨fun h => h.resolve_right fun e => hne ?_, .inl⟩
 rw [← e, UInt8.toNat_ofNat', Nat.mod_eq_of_lt hb]
noncomputable def tsM (S : List St) (X : List Int) (j : Nat) (s : St) (m : Nat) : List (Nat → Bool) := (fbN S).map fun b i => rwB S X j b i || (inSg S s m b && memB (clsN S [s.to]) i)
theorem tsM_len (S : List St) (X : List Int) (j : Nat) (s : St) (m : Nat) : (tsM S X j s m).length = (fbN S).length := by simp [tsM]
theorem tsM_zero (S : List St) (X : List Int) (j : Nat) (s : St) : tsM S X j s 0 = tsJ S X j := by
 unfold tsM tsJ
 refine List.map_congr_left fun b _ => ?_
 funext i
 rw [inSg_zero, Bool.false_and, Bool.or_false]
theorem tsM_all {S : List St} {X : List Int} {j p : Nat} {s : St} (hx : X[j]? = some (p : Int)) (hs : S[p]? = some s) : tsM S X j s (sgL S s).length = tsJ S X (j + 1) := by
 unfold tsM tsJ
 refine List.map_congr_left fun b hb => ?_
 funext i
 rw [inSg_all hb, rwB_next hx hs]
theorem fbN_inj {S : List St} {i j b : Nat} (hi : (fbN S)[i]? = some b) (hj : (fbN S)[j]? = some b) : i = j := by rw [← clN_fb hi, ← clN_fb hj]
theorem or_or3 (x y z : Bool) : (x || y && z || z) = (x || true && z) := by cases x <;> cases y <;> cases z <;> rfl
theorem tsM_get {S : List St} {X : List Int} {j q b : Nat} {s : St} (m : Nat) (h : (fbN S)[q]? = some b) : (tsM S X j s m)[q]? = some fun i => rwB S X j b i || (inSg S s m b && memB (clsN S [s.to]) i) := by
 unfold tsM
 rw [List.getElem?_map, h]
 rfl
theorem tsM_next {S : List St} {X : List Int} {j m q : Nat} {s : St} {c : UInt8} (hc : (sgL S s)[m]? = some c) (hq : (fbN S)[q]? = some c.toNat) :
  ∃ t, (tsM S X j s m)[q]? = some t ∧ (tsM S X j s m).set q (fun i => t i || memB (clsN S [s.to]) i) = tsM S X j s (m + 1) := by
 obtain ⟨hql, hqe⟩ := List.getElem?_eq_some_iff.1 hq
 refine ⟨_, tsM_get m hq, ?_⟩
 apply List.ext_getElem?
 intro k
 by_cases hqk : q = k
 ·subst hqk
  rw [List.getElem?_set_self (by rw [tsM_len]; exact hql), tsM_get (m + 1) hq]
  refine congrArg some (funext fun i => ?_)
  rw [inSg_this hc]
  exact or_or3 _ _ _
 ·rw [List.getElem?_set_ne hqk]
  cases hk : (fbN S)[k]? with
  | none =>
   have hl := List.getElem?_eq_none_iff.1 hk
   rw [List.getElem?_eq_none (by rw [tsM_len]; exact hl), List.getElem?_eq_none (by rw [tsM_len]; exact hl)]
  | some b =>
   rw [tsM_get m hk, tsM_get (m + 1) hk]
   refine congrArg some (funext fun i => ?_)
   have hb : b < 256 := fbN_lt (List.mem_of_getElem? hk)
   rw [inSg_other hc hb fun e => hqk (fbN_inj hq (by rw [hk, e]))]
theorem sgL_cls {S : List St} {s : St} {m : Nat} {c : UInt8} (hc : (sgL S s)[m]? = some c) : (fbN S)[clN S c.toNat]? = some c.toNat := by
 have h := (sgL_in (List.mem_of_getElem? hc)).2
 obtain ⟨i, hi, he⟩ := List.getElem_of_mem h
 have h1 : (fbN S)[i]? = some c.toNat := by rw [List.getElem?_eq_getElem hi, he]
 rw [clN_fb h1]
 exact h1
/-! ### the signs in memory -/
def SgV (w : World) (H g mr mn : Nat) (sg : Value) (LL : List (List UInt8)) : Prop :=
 ∃ (A : Option Addr) (cap : Nat) (vf : Nat → Value), sg = .slice A LL.length cap ∧ (LL ≠ [] → ∃ b off, A = some ⟨b, off, none⟩ ∧ (b < H ∧ b ≠ g ∧ b ≠ mr ∧ b ≠ mn) ∧ b < w.heap.size ∧ ∀ i, i < LL.length → w.cell? ⟨b, off + i, none⟩ = some (vf i)) ∧
  ∀ i l, LL[i]? = some l → ∃ Ai ci, vf i = .slice Ai l.length ci ∧ (l ≠ [] → ∃ b off, Ai = some ⟨b, off, none⟩ ∧ (b < H ∧ b ≠ g ∧ b ≠ mr ∧ b ≠ mn) ∧ b < w.heap.size ∧ ∀ j c, l[j]? = some c → w.cell? ⟨b, off + j, none⟩ = some (bv c))
theorem SgV.stay {w w' : World} {H g mr mn : Nat} {sg : Value} {LL : List (List UInt8)} (h : SgV w H g mr mn sg LL) (hs : w.heap.size ≤ w'.heap.size) (hk : ∀ k, k < H → k ≠ g → k ≠ mr → k ≠ mn → w'.heap[k]? = w.heap[k]?) : SgV w' H g mr mn sg LL := by
 obtain ⟨A, cap, vf, h1, h2, h3⟩ := h
 have key : ∀ b o v, (b < H ∧ b ≠ g ∧ b ≠ mr ∧ b ≠ mn) → w.cell? ⟨b, o, none⟩ = some v → w'.cell? ⟨b, o, none⟩ = some v := fun b o v hb hc => by
  have := hk b hb.1 hb.2.1 hb.2.2.1 hb.2.2.2
  unfold World.cell? at hc ⊢
  simp only [this]
  exact hc
 refine ⟨A, cap, vf, h1, fun hne => ?_, fun i l hl => ?_⟩
 ·obtain ⟨b, off, e, hb, hlt, hc⟩ := h2 hne
  exact ⟨b, off, e, hb, Nat.lt_of_lt_of_le hlt hs, fun i hi => key _ _ _ hb (hc i hi)⟩
 ·obtain ⟨Ai, ci, e, h4⟩ := h3 i l hl
  refine ⟨Ai, ci, e, fun hne => ?_⟩
  obtain ⟨b, off, e, hb, hlt, hc⟩ := h4 hne
  exact ⟨b, off, e, hb, Nat.lt_of_lt_of_le hlt hs, fun j c hj => key _ _ _ hb (hc j c hj)⟩
/-! ### a run of steps -/
structure MO (D : Nat → Prop) (w w' : World) (g mr mn : Nat) (qv qv' : Value) : Prop where
 off : Off (fun k => Md g mr mn qv k ∨ D k) w w'
 new : ∀ k, qv'.ownBlock = some k → qv.ownBlock = some k ∨ w.heap.size ≤ k
section
variable {D : Nat → Prop} {w w' w'' : World} {g mr mn : Nat} {qv qv' qv'' : Value}
theorem MO.refl (D : Nat → Prop) (w : World) (g mr mn : Nat) (qv : Value) : MO D w w g mr mn qv qv := ⟨Off.refl _ _, fun k hk => .inl hk⟩
theorem MO.step (x : MO D w w' g mr mn qv qv') (y : MStep w' w'' g mr mn qv' qv'') : MO D w w'' g mr mn qv qv'' := by
 refine ⟨⟨y.off.os.trans x.off.os, y.off.tape.trans x.off.tape, y.off.output.trans x.off.output, Nat.le_trans x.off.size y.off.size, fun k hk hn => ?_⟩, fun k hk => ?_⟩
 ·refine (y.off.block k (Nat.lt_of_lt_of_le hk x.off.size) fun hd => ?_).trans (x.off.block k hk hn)
  rcases hd with e | e | e | e
  ·exact hn (.inl (.inl e))
  ·exact hn (.inl (.inr (.inl e)))
  ·exact hn (.inl (.inr (.inr (.inl e))))
  ·rcases x.new k e with e | e
   ·exact hn (.inl (.inr (.inr (.inr e))))
   ·omega
 ·rcases y.new k hk with e | e
  ·exact x.new k e
  ·exact .inr (Nat.le_trans x.off.size e)
theorem MO.put (x : MO D w w' g mr mn qv qv') {D' : Nat → Prop} (y : Off D' w' w'') (hD : ∀ k, D' k → D k ∨ w.heap.size ≤ k) : MO D w w'' g mr mn qv qv' := by
 refine ⟨⟨y.os.trans x.off.os, y.tape.trans x.off.tape, y.output.trans x.off.output, Nat.le_trans x.off.size y.size, fun k hk hn => ?_⟩, x.new⟩
 refine (y.block k (Nat.lt_of_lt_of_le hk x.off.size) fun hd => ?_).trans (x.off.block k hk hn)
 rcases hD k hd with e | e
 ·exact hn (.inr e)
 ·omega
theorem MO.then (x : MO D w w' g mr mn qv qv') (hb : Below w'.heap.size w' w'') : MO D w w'' g mr mn qv qv' := x.put (Off.new (fun _ => False) hb) fun k h => h.elim
theorem MO.trans (x : MO D w w' g mr mn qv qv') {D' : Nat → Prop} (y : MO D' w' w'' g mr mn qv' qv'') (hD : ∀ k, D' k → D k ∨ w.heap.size ≤ k) : MO D w w'' g mr mn qv qv'' := by
 refine ⟨⟨y.off.os.trans x.off.os, y.off.tape.trans x.off.tape, y.off.output.trans x.off.output, Nat.le_trans x.off.size y.off.size, fun k hk hn => ?_⟩, fun k hk => ?_⟩
 ·refine (y.off.block k (Nat.lt_of_lt_of_le hk x.off.size) fun hd => ?_).trans (x.off.block k hk hn)
  rcases hd with (e | e | e | e) | e
  ·exact hn (.inl (.inl e))
  ·exact hn (.inl (.inr (.inl e)))
  ·exact hn (.inl (.inr (.inr (.inl e))))
  ·rcases x.new k e with e | e
   ·exact hn (.inl (.inr (.inr (.inr e))))
   ·omega
  ·rcases hD k e with e | e
   ·exact hn (.inr e)
   ·omega
 ·rcases y.new k hk with e | e
  ·exact x.new k e
  ·exact .inr (Nat.le_trans x.off.size e)
theorem MO.isnt (x : MO D w w' g mr mn qv qv') {b : Nat} (hb : b < w.heap.size) (h : ¬ Md g mr mn qv b) : ¬ Md g mr mn qv' b := by
 rintro (e | e | e | e)
 ·exact h (.inl e)
 ·exact h (.inr (.inl e))
 ·exact h (.inr (.inr (.inl e)))
 ·rcases x.new b e with e | e
  ·exact h (.inr (.inr (.inr e)))
  ·omega
theorem MO.toStep (x : MO D w w' g mr mn qv qv') (hD : ∀ k, D k → w.heap.size ≤ k) : MStep w w' g mr mn qv qv' := by
 refine ⟨⟨x.off.os, x.off.tape, x.off.output, x.off.size, fun k hk hn => x.off.block k hk ?_⟩, x.new⟩
 rintro (h | h)
 ·exact hn h
 ·have := hD k h; omega
theorem MO.blk (x : MO D w w' g mr mn qv qv') {b : Nat} {t : TypeId} {cs : List Value} (hb : Blk w b t cs) (h1 : ¬ Md g mr mn qv b) (h2 : ¬ D b) : Blk w' b t cs := Off.blk x.off (fun h => h.elim h1 h2) hb
theorem MO.cell (x : MO D w w' g mr mn qv qv') {b o : Nat} {v : Value} (hb : b < w.heap.size) (h1 : ¬ Md g mr mn qv b) (h2 : ¬ D b) (hc : w.cell? ⟨b, o, none⟩ = some v) : w'.cell? ⟨b, o, none⟩ = some v := Off.cell x.off hb (fun h => h.elim h1 h2) hc
theorem SgV.mo {H : Nat} {sg : Value} {LL : List (List UInt8)} (h : SgV w H g mr mn sg LL) (x : MO D w w' g mr mn qv qv') (hH : H ≤ w.heap.size) (hq : ∀ k, qv.ownBlock = some k → H ≤ k) (hD : ∀ k, D k → H ≤ k) : SgV w' H g mr mn sg LL :=
 h.stay x.off.size fun k hk h1 h2 h3 => x.off.block k (Nat.lt_of_lt_of_le hk hH) (by
  rintro ((e | e | e | e) | e)
  ·exact h1 e
  ·exact h2 e
  ·exact h3 e
  ·have := hq k e; omega
  ·have := hD k e; omega)
end
section
variable {P : Program} {w : World} {ops : Array Oper} {rest : List Oper} {o : Oper} {a : Act} {Q : Exit → Act → World → Prop}
theorem made_grs (n : Nat) : madeCells (gds fun _ => false).toArray (n * 32) = (grs (List.replicate n fun _ => false)).toArray := by
 apply Array.ext'
 simp only [madeCells, Array.toList_map, Array.toList_range]
 induction n with
 | zero => simp [grs]
 | succ n ih =>
  rw [show (n + 1) * 32 = n * 32 + 32 from by omega, List.range_add, List.map_append, ih, List.replicate_succ', grs_append]
  congr 1
  have e : grs [fun _ => false] = gds fun _ => false := by simp [grs]
  rw [e]
  apply List.ext_getElem
  ·simp [gds_length]
  ·intro j h1 h2
   have hj : j < 32 := by simpa using h1
   have hm : (n * 32 + j) % 32 = j := by omega
   simp [gds, hm, hj]
theorem wpList_mkGr (hg : o.guard = none) (l c : Operand) (t : TypeId) (hop : o.op = Op.makeSlice t l c)
  (e : TypeId) (i : TypeInfo) (h1 : P.underlying t = some (.slice e)) (h2 : P.info? e = some i) (h3 : i.zero = some (.agg (gds fun _ => false).toArray)) (h4 : i.size = 32) (h5 : i.bytes = 256)
  (n : Nat) (hl : a.eval l = .int .i64 (n : Int)) (hc : a.eval c = .int .i64 (n : Int)) (hn : n ≤ 1048576)
  (hK : ∀ w', Blk w' w.heap.size e (grs (List.replicate n fun _ => false)) → Below w.heap.size w w' → w'.heap.size = w.heap.size + 1 → wpList P ops Q rest (a.put o.dst (.slice (some ⟨w.heap.size, 0, none⟩) n n)) w') :
  wpList P ops Q (o :: rest) a w := by
 refine wpList_plain hg fun K hK' => ?_
 have hrun := run_make (P := P) w t e i _ h1 h2 h3 .i64 .i64 n n (by omega) (Int.le_refl _) (by rw [h5]; omega) (by omega)
 simp only [Int.toNat_natCast, h4] at hrun
 rw [show (Value.agg (gds fun _ => false).toArray).cells = (gds fun _ => false).toArray from rfl, made_grs] at hrun
 unfold Oper.wp
 simp [execOp, hop, hl, hc, hrun, Result.andThen]
 exact hK' _ _ (hK _ (Blk.new w e _) ((Below.refl _ _).alloc (Nat.le_refl _) _) (by simp))
end
theorem cell_k {w : World} {B H g mr mn cap k : Nat} {A : Option Addr} {a z : Int} {cl : List UInt8} {sg : Value} {S : List St} {qv : Value} {Qs : List (List Int)} {Es : List Int} (M : MkV w B H g mr mn A cap a z cl k sg S qv Qs Es) : w.cell? ⟨g, 259, none⟩ = some (.int .i64 (k : Int)) := by
 have := M.blk.cell 259
 rw [mkc_k M.cl] at this
 exact this
noncomputable def sgS (S : List St) : List (List UInt8) := S.map fun s => sgL S s
theorem sgS_get {S : List St} {p : Nat} {s : St} (h : S[p]? = some s) : (sgS S)[p]? = some (sgL S s) := by simp [sgS, h]
theorem sgS_len (S : List St) : (sgS S).length = S.length := by simp [sgS]
theorem blk_range0 {w : World} {g : Nat} {t : TypeId} {cs : List Value} (h : Blk w g t cs) : w.rangeAt g 0 cs := fun j v hv => by
 rw [Nat.zero_add, h.cell]
 exact hv
theorem ris_2048 {n : Nat} {X : List Int} (h : Ris n X) (hn : n ≤ 2000) : risJ (memB X) 2048 = X := by
 have e := risJ_skip (memB X) n (2048 - n) fun j _ => by
  rw [h, memB_ris, decide_eq_false (by omega), Bool.false_and]
 rw [show n + (2048 - n) = 2048 from by omega, ← h] at e
 exact e
theorem sg_form {w : World} {H g mr mn : Nat} {sg : Value} {S : List St} (h : SgV w H g mr mn sg (sgS S)) : ∃ As cs, sg = .slice As S.length cs := by
 obtain ⟨A, cap, vf, e, _⟩ := h
 rw [sgS_len] at e
 exact ⟨A, cap, e⟩
theorem sg_at {w : World} {H g mr mn n cs : Nat} {As : Option Addr} {S : List St} (h : SgV w H g mr mn (.slice As n cs) (sgS S)) {p : Nat} {s : St} (hp : S[p]? = some s) :
  ∃ b off Ai ci, As = some ⟨b, off, none⟩ ∧ w.cell? ⟨b, off + p, none⟩ = some (.slice Ai (sgL S s).length ci) ∧ ∀ m c, (sgL S s)[m]? = some c → ∃ bi oi, Ai = some ⟨bi, oi, none⟩ ∧ bi < H ∧ bi < w.heap.size ∧ (bi ≠ g ∧ bi ≠ mr ∧ bi ≠ mn) ∧ w.cell? ⟨bi, oi + m, none⟩ = some (bv c) := by
 obtain ⟨A, cap, vf, e, h2, h3⟩ := h
 have hpl := (List.getElem?_eq_some_iff.1 hp).1
 injection e with e1 e2 e3
 obtain ⟨b, off, hA, _, _, hc⟩ := h2 (by intro e0; have := sgS_len S; rw [e0] at this; simp at this; omega)
 obtain ⟨Ai, ci, hvf, h4⟩ := h3 p _ (sgS_get hp)
 refine ⟨b, off, Ai, ci, by rw [e1, hA], by rw [hc p (by rw [sgS_len]; exact hpl), hvf], fun m c hm => ?_⟩
 obtain ⟨bi, oi, hAi, hb1, hb2, hc2⟩ := h4 (by intro e0; rw [e0] at hm; simp at hm)
 exact ⟨bi, oi, hAi, hb1.1, hb2, hb1.2, hc2 m c hm⟩
theorem cell_n {w : World} {B H g mr mn cap k : Nat} {A : Option Addr} {a z : Int} {cl : List UInt8} {sg : Value} {S : List St} {qv : Value} {Qs : List (List Int)} {Es : List Int} (M : MkV w B H g mr mn A cap a z cl k sg S qv Qs Es) : w.cell? ⟨g, 0, none⟩ = some (.slice A S.length cap) := by
 have := M.blk.cell 0
 rw [mkc_0] at this
 exact this
theorem cell_sg {w : World} {B H g mr mn cap k : Nat} {A : Option Addr} {a z : Int} {cl : List UInt8} {sg : Value} {S : List St} {qv : Value} {Qs : List (List Int)} {Es : List Int} (M : MkV w B H g mr mn A cap a z cl k sg S qv Qs Es) : w.cell? ⟨g, 260, none⟩ = some sg := by
 have := M.blk.cell 260
 rw [mkc_sg M.cl] at this
 exact this
theorem cell_cl {w : World} {B H g mr mn cap k x : Nat} {A : Option Addr} {a z : Int} {cl : List UInt8} {sg : Value} {S : List St} {qv : Value} {Qs : List (List Int)} {Es : List Int} (M : MkV w B H g mr mn A cap a z cl k sg S qv Qs Es) (hx : x < 256) : w.cell? ⟨g, 3 + x, none⟩ = (bvs cl)[x]? := by
 have := M.blk.cell (3 + x)
 rw [mkc_cl M.cl hx] at this
 exact this
theorem row_set {A : List Int} {k c : Nat} (hA : A.length = c) (hc : c < k) (v : Int) : (nums .i64 (A ++ List.replicate (k - c) 0)).set c (.int .i64 v) = nums .i64 ((A ++ [v]) ++ List.replicate (k - (c + 1)) 0) := by
 have e : k - c = (k - (c + 1)) + 1 := by omega
 rw [e, List.replicate_succ, nums_append, nums_append, nums_append, List.append_assoc]
 have hl : (nums .i64 A).length = c := by rw [nums_length, hA]
 rw [List.set_append_right _ _ (by omega), hl, Nat.sub_self]
 rfl
theorem row_get {A : List Int} {k c : Nat} (hA : A.length = c) (hc : c < k) : (nums .i64 (A ++ List.replicate (k - c) 0))[c]? = some (.int .i64 0) := by
 have e : k - c = (k - (c + 1)) + 1 := by omega
 have hl : (nums .i64 A).length = c := by rw [nums_length, hA]
 rw [e, List.replicate_succ, nums_append, List.getElem?_append_right (by omega), hl, Nat.sub_self]
 rfl
theorem rowI_next {Qs F : List (List Int)} {c : Nat} {Y : List Int} (h : F[c]? = some Y) : extL Qs (F.take (c + 1)) = extL (extL Qs (F.take c)) [Y] ∧
  rowI (extL Qs (F.take (c + 1))) (F.take (c + 1)) = rowI (extL Qs (F.take c)) (F.take c) ++ [(ixOf (extL (extL Qs (F.take c)) [Y]) Y : Int)] := by
 have e := extL_take (L := Qs) h
 refine ⟨e, ?_⟩
 obtain ⟨hc, rfl⟩ := List.getElem?_eq_some_iff.1 h
 obtain ⟨M, hM⟩ := extL_pre [F[c]] (extL Qs (F.take c))
 rw [e]
 conv => lhs; rw [List.take_succ_eq_append_getElem hc]
 unfold rowI
 rw [List.map_append, List.map_singleton]
 congr 1
 refine List.map_congr_left fun x hx => ?_
 rw [hM, idx_app ((extL_mem _ _).2 (.inr hx))]
theorem lt_2k {i n : Nat} (h : i < n) (hn : n ≤ 2000) : i ≤ 4611686018427387904 := by omega
set_option maxHeartbeats 8000000 in
set_option maxRecDepth 1000000 in
theorem mRow_any (w0 : World) {H g mr mn cap : Nat} {A : Option Addr} {a z : Int} {sg : Value} {S : List St} {qv : Value} {Qs : List (List Int)} {Es : List Int} (X : List Int) (w : World)
  (hv : NfaV w0 (nfc A S.length cap a z) S a z) (hmy : MayN S a z) (hlo : ∀ s ∈ S, -9223372036854775808 ≤ s.to) (hT : Tb w0) (hb : Below w0.heap.size w0 w)
  (hm : MkV w w0.heap.size H g mr mn A cap a z (ctab (setsN S) 256) (fbN S).length sg S qv Qs Es) (hg : SgV w H g mr mn sg (sgS S)) (hX : Ris S.length X) (hQ : Qs.length ≤ 90000) :
  Calls Tryz.prog 22 #[.pointer (some ⟨g, 0, none⟩), gkey X] w fun e w' => ∃ h, e = .returned (.slice (some ⟨h, 0, none⟩) (fbN S).length (fbN S).length) ∧ Blk w' h 3 (nums .i64 (rowI (extL Qs (sucN S X)) (sucN S X))) ∧ w.heap.size ≤ h ∧
   ∃ qv' Es', MkV w' w0.heap.size H g mr mn A cap a z (ctab (setsN S) 256) (fbN S).length sg S qv' (extL Qs (sucN S X)) Es' ∧ MStep w w' g mr mn qv qv' ∧ qv'.ownBlock ≠ some h := by
 have V := qH hv
 have HM := qH hmy
 have HLO := qH hlo
 have HT := qH hT
 have HB0 := qH hb
 have M0 := qH hm
 have SG0 := qH hg
 have HRX := qH hX
 have HQL := qH hQ
 obtain ⟨i3, hi3, hz3, hs3, hy3⟩ := infoP inf_group
 obtain ⟨zg, hzg⟩ : ∃ zg, zg = gds (fun _ => false) := ⟨_, rfl⟩
 have HZ3 := qH (show i3.zero = some (.agg zg.toArray) by rw [hzg]; exact hz3)
 have HZ3' := qH hz3
 have HZL := qH (show zg.length = 32 by rw [hzg]; exact gds_length _)
 obtain ⟨gx, hgx⟩ : ∃ gx, gx = gds (memB X) := ⟨_, rfl⟩
 have HGX := qH hgx
 have HKX := qH (show gkey X = .agg gx.toArray by rw [hgx]; rfl)
 obtain ⟨i1, hi1, hy0, hy1, hy2⟩ := infoP inf_int
 have HFB := qH (fbN_len S)
 obtain ⟨k, hk⟩ : ∃ k, k = (fbN S).length := ⟨_, rfl⟩
 have HK := qH hk
 rw [← hk] at M0 HFB ⊢
 obtain ⟨cl, hcl⟩ : ∃ cl, cl = ctab (setsN S) 256 := ⟨_, rfl⟩
 have HCL := qH hcl
 rw [← hcl] at M0 ⊢
 rw [HKX.out]
 clear hv hmy hlo hT hb hm hg hX hQ hgx hzg hk hcl hz3
 go_enter Tryz.func22, Tryz.ntmps22
 go_wp2_with (first
  | ((with_reducible refine atDst 3 ?_); refine wpList_box rfl 67 _ rfl gx rfl (Below.refl w.heap.size w) (Nat.le_refl _) ?_; intro w1 hk1 hb1 hs1 _; have K1 := qH (show Blk w1 w.heap.size 67 (gds (memB X)) by rw [← HGX.out]; exact hk1); have B1 := qH hb1; have M1 := qH (M0.out.below hb1); have c259 := cell_k (M0.out.below hb1); clear hk1 hb1 hs1; (try simp only [Act.put, qA, qB, qC]))
  | ((with_reducible refine atDst 18 ?_); refine wpList_mkGr rfl (.tmp 17) (.tmp 17) 61 rfl 67 i3 Tryz.underlying61 hi3 HZ3'.out hs3 hy3 k rfl rfl (by have := HFB.out; omega) ?_; intro w2 hk2 hb2 hs2; have K2 := qH hk2; have B2 := qH hb2; clear hk2 hb2 hs2 c259; (try simp only [Act.put, qA, qB, qC])))
 have B12 := qH (B1.out.trans (B2.out.mono B1.out.size))
 have HP2 := qH (K1.out.below B2.out K1.out.lt)
 have M2 := qH (M1.out.below B2.out)
 have HB2 := qH (HB0.out.trans (B12.out.mono HB0.out.size))
 have HT2 := qH (HT.out.belowG HB2.out HT.out.lt)
 have S1 := qH (show w.heap.size < w1.heap.size from K1.out.lt)
 have S2 := qH (show w1.heap.size < w2.heap.size from K2.out.lt)
 refine (gStates_any (memB X) w.heap.size 0 w2 HP2.out.lt (blk_range0 HP2.out) HT2.out).mono ?_
 rintro e w3 ⟨v3, rfl, ho3, hb3⟩
 rw [ris_2048 HRX.out HM.out.few] at ho3
 have B3 := qH hb3
 have M3 := qH (M2.out.below hb3)
 have HK3 := qH (K2.out.below hb3 K2.out.lt)
 have HB3 := qH (HB2.out.trans (hb3.mono HB2.out.size))
 have SG3 := qH (SG0.out.stay (Nat.le_trans B12.out.size hb3.size) fun j hj _ _ _ => ((B12.out.trans (hb3.mono B12.out.size)).block j (Nat.lt_of_lt_of_le hj M0.out.hs)))
 have R3 := qH (Row.of_own ho3)
 have HAB := qH (own_above ho3)
 obtain ⟨A3, c3, rfl, _⟩ := Row.of_own ho3
 obtain ⟨nx, hnx⟩ : ∃ nx, nx = X.length := ⟨_, rfl⟩
 have HNX := qH hnx
 rw [nums_length, ← hnx] at R3 HAB ⊢
 have HNL := qH (show nx ≤ 2000 by rw [hnx]; have h1 := ris_len HRX.out; have h2 := HM.out.few; omega)
 obtain ⟨As, csg, rfl⟩ := sg_form SG0.out
 have HMD := qH (show ∀ j, Md g mr mn qv j → j < w.heap.size from fun j hj => M0.out.lts hj)
 have HNH := qH (show ¬ Md g mr mn qv w1.heap.size from fun h => by have h1 := HMD.out _ h; have h2 := S1.out; omega)
 clear ho3 hb3 hnx
 go_wp2_with fail
 go_loopw [21] (fun iv wl => ∃ (j : Nat) (Es' : List Int), j ≤ nx ∧ iv = .int .i64 (j : Int) ∧ MkV wl w0.heap.size H g mr mn A cap a z cl k (.slice As S.length csg) S qv Qs Es' ∧ Blk wl w1.heap.size 67 (grs (tsJ S X j)) ∧ MO (fun b => b = w1.heap.size) w3 wl g mr mn qv qv) (fun iv _ => nx - (intOf iv).toNat)
 case atStart => exact ⟨0, Es, Nat.zero_le _, by simp, M3.out, by rw [tsJ_zero, ← HK.out]; exact HK3.out, MO.refl _ _ _ _ _ _⟩
 case round =>
  obtain ⟨j, Es', hj, rfl, hm, hk, ho⟩ := hrel
  have MJ := qH hm
  have KJ := qH hk
  have OJ := qH ho
  clear hm hk ho
  obtain ⟨wq, hwq⟩ : ∃ v : World, v = wr := ⟨_, rfl⟩
  subst hwq
  by_cases hjl : j < nx
  ·have x1 : (j : Int) < (nx : Int) := Int.ofNat_lt.2 hjl
   have HJ := qH hjl
   have HMN := qH (sub_next hjl)
   obtain ⟨x, hx⟩ : ∃ x, X[j]? = some x := ⟨_, List.getElem?_eq_getElem (by rw [← HNX.out]; exact hjl)⟩
   obtain ⟨p, rfl, hp⟩ := ris_rng HRX.out (List.mem_of_getElem? hx)
   obtain ⟨s, hs⟩ : ∃ s, S[p]? = some s := ⟨_, List.getElem?_eq_getElem hp⟩
   have HX := qH hx
   have HS := qH hs
   have HPN := qH hp
   obtain ⟨b3, o3, rfl, hl3, hc3⟩ := R3.out.at_ (by rw [nums_length, ← HNX.out]; exact Nat.lt_of_le_of_lt (Nat.zero_le _) hjl)
   have hb3 := HAB.out b3 rfl
   have hcx := OJ.out.cell hl3 (fun h => Nat.lt_irrefl _ (Nat.lt_of_lt_of_le (HMD.out _ h) (Nat.le_trans (Nat.le_of_lt (Nat.lt_trans S1.out S2.out)) hb3))) (Nat.ne_of_gt (Nat.lt_of_lt_of_le S2.out hb3)) (hc3 j (.int .i64 (p : Int)) (by simp [nums, hx]))
   have HBQ := qH (show Below w0.heap.size w0 wq from HB3.out.trans (OJ.out.off.below (fun k hk => by
    rcases hk with h | h
    ·exact M0.out.md M0.out.bh h
    ·rw [h]; exact Nat.le_trans HB0.out.size (Nat.le_of_lt S1.out)) HB3.out.size))
   obtain ⟨b, off, rfl, hlt, _, hto, _⟩ := (V.out.below HBQ.out).at_ hs
   have HTO := qH hto
   have c0 := cell_n MJ.out
   have hpn : (p : Int) < (S.length : Int) := Int.ofNat_lt.2 hp
   obtain ⟨to, hto2⟩ : ∃ to, to = s.to := ⟨_, rfl⟩
   have HTV := qH hto2
   rw [← hto2] at hto
   have HRT := qH (show -9223372036854775808 ≤ to ∧ to ≤ 9223372036854775807 by
    rw [hto2]
    have h1 := HLO.out s (List.mem_of_getElem? hs)
    have h2 := HM.out.to s (List.mem_of_getElem? hs)
    have h3 := HM.out.few
    omega)
   clear hj hjl hx hs hp hl3 hc3 hb3 hlt hto2
   go_wp2_with fail
   refine (mReach_any w0 to wq V.out HM.out HBQ.out MJ.out HRT.out).mono ?_
   rintro e w4 ⟨rfl, Es2, hm4, hs4⟩
   have M4 := qH hm4
   have O4 := qH (OJ.out.step hs4)
   have K4 := qH (show Blk w4 w1.heap.size 67 (grs (tsJ S X j)) from Off.blk hs4.off HNH.out KJ.out)
   obtain ⟨gu, hgu⟩ : ∃ gu, gu = gds (memB (clsN S [to])) := ⟨_, rfl⟩
   have HGU := qH hgu
   have HKU := qH (show gkey (clsN S [to]) = .agg gu.toArray by rw [hgu]; rfl)
   have HSU := qH (show (Tryz.prog.info? 67).map (·.size) = some gu.length by rw [hgu]; exact size_group _)
   have HUL := qH (show gu.length = 32 by rw [hgu]; exact gds_length _)
   have HU1 := qH (show gu.all (·.oneCell') = true by rw [hgu]; exact gds_all _)
   rw [HKU.out]
   have HP4 := qH (Nat.lt_of_lt_of_le K2.out.lt (Nat.le_trans B3.out.size (Nat.le_trans OJ.out.off.size hs4.off.size)))
   clear hm4 hs4 hgu c0 hto hcx hpn
   go_wp2_with (first
    | ((with_reducible refine atDst 8 ?_); refine wpList_new rfl 67 rfl i3 _ zg hi3 HZ3.out rfl (Below.refl w4.heap.size w4) (Nat.le_refl _) ?_; intro w5 hk hb hs _; have K5 := qH hk; have B5 := qH hb; clear hk hb hs; (try simp only [Act.put, qA, qB, qC]))
    | ((with_reducible refine atStore 67 8 35 ?_); refine wpList_stBlk rfl 67 _ _ rfl w4.heap.size gu rfl rfl 67 _ K5.out HSU.out (by rw [HZL.out, HUL.out]) HU1.out B5.out (Nat.le_refl _) ?_; intro w6 hk hb hs ho; have K6 := qH hk; have B6 := qH hb; have O6 := qH (O4.out.then hb); have M6 := qH (M4.out.below hb); have T6 := qH (K4.out.below hb K4.out.lt); have SG6 := qH (SG3.out.mo (O4.out.then hb) M3.out.hs (own4_above M3.out.queue) (fun k hk => by rw [hk]; exact M1.out.hs)); have c260 := cell_sg (M4.out.below hb); obtain ⟨bs, os, Ai, ci, rfl, hcp, hsg⟩ := sg_at SG6.out HS.out; have HSG := qH hsg; obtain ⟨nl, hnl⟩ : ∃ nl, nl = (sgL S s).length := ⟨_, rfl⟩; rw [← hnl] at hcp; have HNLL := qH hnl; have hpn : (p : Int) < (S.length : Int) := Int.ofNat_lt.2 HPN.out; clear hnl hsg hk hb hs ho; (try simp only [Act.put, qA, qB, qC])))
   have HNL2 := qH (show nl ≤ 256 by rw [HNLL.out]; exact sgL_len _ _)
   clear c260 hcp hpn
   go_loopw [44] (fun iv wl => ∃ m : Nat, m ≤ nl ∧ iv = .int .i64 (m : Int) ∧ Blk wl w1.heap.size 67 (grs (tsM S X j s m)) ∧ Off (fun b => b = w1.heap.size) w6 wl) (fun iv _ => nl - (intOf iv).toNat)
   case atStart => exact ⟨0, Nat.zero_le _, by simp, by rw [tsM_zero]; exact T6.out, Off.refl _ _⟩
   obtain ⟨m, hm, rfl, hk, ho⟩ := hrel
   have KM := qH hk
   have OM := qH ho
   clear hk ho
   obtain ⟨wm, hwm⟩ : ∃ v : World, v = wr := ⟨_, rfl⟩
   subst hwm
   by_cases hml : m < nl
   ·have y1 : (m : Int) < (nl : Int) := Int.ofNat_lt.2 hml
    have HMM := qH hml
    have HMX := qH (sub_next hml)
    obtain ⟨c, hc⟩ : ∃ c, (sgL S s)[m]? = some c := ⟨_, List.getElem?_eq_getElem (by rw [← HNLL.out]; exact hml)⟩
    have HC := qH hc
    obtain ⟨bi, oi, rfl, hbH, hbl, _, hcc⟩ := HSG.out m c hc
    have HBH := qH (show bi ≠ w1.heap.size from Nat.ne_of_lt (Nat.lt_of_lt_of_le hbH M1.out.hs))
    obtain ⟨x, hx⟩ : ∃ x, x = c.toNat := ⟨_, rfl⟩
    have HXC := qH hx
    have HX2 := qH (show x < 256 by rw [hx]; exact c.toNat_lt)
    have hcx : wm.cell? ⟨bi, oi + m, none⟩ = some (.int .u8 (x : Int)) := by rw [hx]; exact OM.out.cell hbl (fun e => HBH.out e) hcc
    obtain ⟨q, hq⟩ : ∃ q, q = clN S x := ⟨_, rfl⟩
    have HQ := qH hq
    have HQ3 := qH (show q < k by rw [hq, HK.out]; exact clN_lt HX2.out)
    have hqk : (q : Int) < (k : Int) := Int.ofNat_lt.2 HQ3.out
    have HGH := qH (show ¬ g = w1.heap.size from fun e => HNH.out (.inl e.symm))
    have hcq : wm.cell? ⟨g, 3 + x, none⟩ = some (.int .u8 (q : Int)) := by
     refine OM.out.cell M6.out.blk.lt HGH.out ?_
     rw [cell_cl M6.out HX2.out, HCL.out, bvs_get _ _ _ (ctab_at (setsN S) HX2.out), hq]
     exact congrArg some (bv_ofNat (clsOf_256 _ HX2.out))
    have x2 : (x : Int) < 256 := Int.ofNat_lt.2 HX2.out
    have f3 := wrap_one m (lt_big256 hml HNL2.out)
    have f4 := wrap_one' m (lt_big256 hml HNL2.out)
    clear hm hml hc hbH hbl hcc hx hq
    go_wp2_with fail
    obtain ⟨t, ht, hset⟩ := tsM_next (X := X) (j := j) HC.out (sgL_cls HC.out)
    rw [← HXC.out, ← HQ.out] at ht hset
    have HST := qH hset
    clear hset hcx hcq hqk x2
    refine (gJoin_any (tsM S X j s m) q t (memB (clsN S [s.to])) w1.heap.size w4.heap.size 0 67 wm KM.out ht (by rw [tsM_len, ← HK.out]; have := HFB.out; exact Nat.le_trans this (by decide)) (Off.range OM.out K6.out.lt (fun e => Nat.ne_of_gt HP4.out e) (by rw [← HTV.out, ← HGU.out]; exact blk_range0 K6.out)) (Nat.lt_of_lt_of_le K6.out.lt OM.out.size) (Nat.ne_of_gt HP4.out)).mono ?_
    rintro e w7 ⟨rfl, hk7, ho7⟩
    rw [HST.out] at hk7
    have K7 := qH hk7
    have O7 := qH (OM.out.trans ho7)
    clear hk7 ho7 ht
    go_wp2_with fail
    exact ⟨⟨m + 1, HMM.out, by congr 1, K7.out, O7.out⟩, by simpa [intOf] using HMX.out⟩
   ·obtain rfl : m = nl := Nat.le_antisymm hm (Nat.not_lt.1 hml)
    have y1 : ¬ ((m : Int) < (m : Int)) := Int.lt_irrefl _
    have KE := qH (show Blk wm w1.heap.size 67 (grs (tsJ S X (j + 1))) by
     have h1 := KM.out
     rw [HNLL.out, tsM_all HX.out HS.out] at h1
     exact h1)
    have ME := qH (M6.out.stay (w' := wm) OM.out.size fun i hi => OM.out.block i (M6.out.lts hi) (fun e => HNH.out (by rw [← e]; exact hi)))
    have OE := qH (O6.out.put OM.out (fun i hi => .inl hi))
    have e3 := wrap_one j (lt_2k HJ.out HNL.out)
    have e4 := wrap_one' j (lt_2k HJ.out HNL.out)
    clear hm hml KM
    go_wp2_with fail
    exact ⟨⟨j + 1, Es2, HJ.out, by congr 1, ME.out, KE.out, OE.out⟩, by simpa [intOf] using HMN.out⟩
  ·obtain rfl : j = nx := Nat.le_antisymm hj (Nat.not_lt.1 hjl)
   have x1 : ¬ ((j : Int) < (j : Int)) := Int.lt_irrefl _
   have KT := qH (show Blk wq w1.heap.size 67 (grs ((sucN S X).map memB)) by
    have h1 := KJ.out
    rw [HNX.out, tsJ_all HRX.out] at h1
    exact h1)
   have c259 := cell_k MJ.out
   have HKM := qH (show (k : Nat) ≤ 9223372036854775807 by have := HFB.out; omega)
   clear hj hjl KJ
   have HR1 := qH (show Blk wq w1.heap.size 67 (grs ((sucN S X).map memB)) from KT.out)
   go_wp2_with ((with_reducible refine atDst 63 ?_); refine wpList_mk wq rfl (.tmp 62) (.tmp 62) 53 rfl 3 i1 (.int .i64 0) Tryz.underlying53 hi1 hy0 hy1 rfl k .i64 .i64 _ _ rfl rfl rfl rfl (by rw [hy2]; have := HFB.out; omega) HKM.out ?_; intro w8 hk hb hs; have K8 := qH hk; have B8 := qH hb; clear hk hb hs c259; (try simp only [Act.put, qA, qB, qC]))
   have O8 := qH (show MO (fun i => w.heap.size ≤ i) w w8 g mr mn qv qv from (((((MO.refl _ w g mr mn qv).then B1.out).then B2.out).then B3.out).trans OJ.out (fun i hi => .inl (by rw [hi]; exact Nat.le_of_lt S1.out))).then B8.out)
   have M8 := qH (MJ.out.below B8.out)
   have KT8 := qH (KT.out.below B8.out KT.out.lt)
   have HTR := qH (show w1.heap.size < wq.heap.size from KT.out.lt)
   have HNR := qH (show ¬ Md g mr mn qv wq.heap.size from fun h => by have h1 := HMD.out _ h; have h2 := S1.out; have h3 := HTR.out; omega)
   have HSL := qH (show (sucN S X).length = k by rw [sucN_len, HK.out])
   obtain ⟨F, hF⟩ : ∃ F, F = sucN S X := ⟨_, rfl⟩
   have HF := qH (show ∀ Y ∈ F, Ris S.length Y from fun Y hY => by
    rw [hF] at hY
    obtain ⟨b, _, rfl⟩ := List.mem_map.1 hY
    exact ris_stp _ _ _)
   rw [← hF] at KT8 HSL
   have HFE := qH hF
   clear hF
   go_loopw [66] (fun iv wl => ∃ (c : Nat) (qv' : Value) (Es'' : List Int), c ≤ k ∧ iv = .int .i64 (c : Int) ∧ MkV wl w0.heap.size H g mr mn A cap a z cl k (.slice As S.length csg) S qv' (extL Qs (F.take c)) Es'' ∧ Blk wl wq.heap.size 3 (nums .i64 (rowI (extL Qs (F.take c)) (F.take c) ++ List.replicate (k - c) 0)) ∧ MO (fun b => b = wq.heap.size) w8 wl g mr mn qv qv') (fun iv _ => k - (intOf iv).toNat)
   case atStart => exact ⟨0, qv, Es', Nat.zero_le _, by simp, M8.out, by have h1 := K8.out; rw [show (List.replicate k (Value.int .i64 0)) = nums .i64 (rowI (extL Qs (F.take 0)) (F.take 0) ++ List.replicate (k - 0) 0) by simp [rowI, nums]] at h1; exact h1, MO.refl _ _ _ _ _ _⟩
   obtain ⟨c, qc, Ec, hc, rfl, hm, hk, ho⟩ := hrel
   have MC := qH hm
   have KC := qH hk
   have OC := qH ho
   clear hm hk ho
   obtain ⟨wc, hwc⟩ : ∃ v : World, v = wr := ⟨_, rfl⟩
   subst hwc
   by_cases hck : c < k
   ·have y1 : (c : Int) < (k : Int) := Int.ofNat_lt.2 hck
    have HCK := qH hck
    have HCX := qH (sub_next hck)
    obtain ⟨Y, hY⟩ : ∃ Y, F[c]? = some Y := ⟨_, List.getElem?_eq_getElem (by rw [HSL.out]; exact hck)⟩
    have HYR := qH (HF.out Y (List.mem_of_getElem? hY))
    have HNX2 := qH (rowI_next (Qs := Qs) hY)
    have HAL := qH (show (rowI (extL Qs (F.take c)) (F.take c)).length = c by rw [rowI_len, List.length_take, HSL.out]; exact Nat.min_eq_left (Nat.le_of_lt hck))
    have KTC := qH (show Blk wc w1.heap.size 67 (grs (F.map memB)) from OC.out.blk KT8.out HNH.out (Nat.ne_of_lt HTR.out))
    have HRG := qH (show wc.rangeAt w1.heap.size (c * 32) (gds (memB Y)) from grs_range KTC.out (by rw [List.getElem?_map, hY]; rfl))
    obtain ⟨gy, hgy⟩ : ∃ gy, gy = gds (memB Y) := ⟨_, rfl⟩
    have HKY := qH (show gkey Y = .agg gy.toArray by rw [hgy]; rfl)
    have HSY := qH (show (Tryz.prog.info? 67).map (·.size) = some gy.length by rw [hgy]; exact size_group _)
    have HYL := qH (show gy.length = 32 by rw [hgy]; exact gds_length _)
    have HY1 := qH (show gy.all (·.oneCell') = true by rw [hgy]; exact gds_all _)
    rw [← hgy] at HRG
    have HQC := qH (show (extL Qs (F.take c)).length ≤ 100000 by
     have h1 := extL_len (F.take c) Qs
     rw [List.length_take] at h1
     have h2 := HQL.out
     have h3 := HFB.out
     omega)
    have HNC := qH (OC.out.isnt K8.out.lt HNR.out)
    have f3 := wrap_one c (lt_big256 hck HFB.out)
    have f4 := wrap_one' c (lt_big256 hck HFB.out)
    clear hc hck hY hgy
    go_wp2_with (first
     | ((with_reducible refine atDst 70 ?_); refine wpList_load_mid rfl 67 _ rfl w1.heap.size (c * 32) rfl gy _ HRG.out Tryz.underlying67 rfl HSY.out ?_; (try simp only [Act.put, qA, qB, qC]))
     | ((with_reducible refine atDst 13 ?_); refine wpList_new rfl 67 rfl i3 _ zg hi3 HZ3.out rfl (Below.refl wc.heap.size wc) (Nat.le_refl _) ?_; intro w9 hk hb hs _; have K9 := qH hk; have B9 := qH hb; clear hk hb hs; (try simp only [Act.put, qA, qB, qC]))
     | ((with_reducible refine atStore 67 13 70 ?_); refine wpList_stBlk rfl 67 _ _ rfl wc.heap.size gy rfl rfl 67 _ K9.out HSY.out (by rw [HZL.out, HYL.out]) HY1.out B9.out (Nat.le_refl _) ?_; intro wA hk hb hs _; have KA := qH hk; have BA := qH hb; have MA := qH (MC.out.below hb); clear hk hb hs; (try simp only [Act.put, qA, qB, qC]))
     | ((with_reducible refine atDst 74 ?_); refine wpList_ldArr rfl 67 _ rfl wc.heap.size rfl 67 _ _ KA.out Tryz.underlying67 rfl HSY.out ?_; (try simp only [Act.put, qA, qB, qC])))
    rw [← HKY.out]
    refine (mNumber_any Y wA MA.out HYR.out HM.out.few HQC.out).mono ?_
    rintro e wB ⟨rfl, qB, hmB, hsB⟩
    have MB := qH (show MkV wB w0.heap.size H g mr mn A cap a z cl k (.slice As S.length csg) S qB (extL Qs (F.take (c + 1))) Ec by rw [HNX2.out.1]; exact hmB)
    have OB := qH ((OC.out.then BA.out).step hsB)
    have KB := qH (show Blk wB wq.heap.size 3 (nums .i64 (rowI (extL Qs (F.take c)) (F.take c) ++ List.replicate (k - c) 0)) from Off.blk hsB.off HNC.out (KC.out.below BA.out KC.out.lt))
    have hgc := KB.out.cell c
    rw [row_get HAL.out HCK.out] at hgc
    have hfz := KB.out.frozen c
    obtain ⟨ix, hix⟩ : ∃ ix, ix = ixOf (extL (extL Qs (F.take c)) [Y]) Y := ⟨_, rfl⟩
    have HIX := qH hix
    rw [← hix]
    clear hmB hsB hix
    go_wp2_with fail
    have HE := qH (show Blk (wB.setCell ⟨wq.heap.size, c, none⟩ (.int .i64 (ix : Int))) wq.heap.size 3 (nums .i64 (rowI (extL Qs (F.take (c + 1))) (F.take (c + 1)) ++ List.replicate (k - (c + 1)) 0)) from by
     have h1 := KB.out.set c (.int .i64 (ix : Int))
     rw [row_set HAL.out HCK.out] at h1
     rw [HNX2.out.2, ← HIX.out]
     exact h1)
    have ME := qH (MB.out.stay (w' := wB.setCell ⟨wq.heap.size, c, none⟩ (.int .i64 (ix : Int))) (by simp) fun i hi => Below.heap_setCell wB ⟨wq.heap.size, c, none⟩ _ i (fun e => OB.out.isnt K8.out.lt HNR.out (by rw [← show i = wq.heap.size from e]; exact hi)))
    have OE := qH (OB.out.put (Off.set wB c (.int .i64 (ix : Int)) (D := fun b => b = wq.heap.size) rfl) fun i hi => .inl hi)
    exact ⟨⟨c + 1, qB, Ec, HCK.out, by congr 1, ME.out, HE.out, OE.out⟩, by simpa [intOf] using HCX.out⟩
   ·obtain rfl : c = k := Nat.le_antisymm hc (Nat.not_lt.1 hck)
    have y1 : ¬ ((c : Int) < (c : Int)) := Int.lt_irrefl _
    have HTK := qH (show F.take c = F by rw [← HSL.out]; exact List.take_length ..)
    have ME := qH (show MkV wc w0.heap.size H g mr mn A cap a z cl c (.slice As S.length csg) S qc (extL Qs F) Ec by have h1 := MC.out; rw [HTK.out] at h1; exact h1)
    have KE := qH (show Blk wc wq.heap.size 3 (nums .i64 (rowI (extL Qs F) F)) by
     have h1 := KC.out
     rw [HTK.out, Nat.sub_self] at h1
     simpa using h1)
    have OE := qH ((O8.out.trans OC.out fun i hi => .inl (by rw [hi]; exact Nat.le_trans (Nat.le_of_lt S1.out) (Nat.le_of_lt HTR.out))).toStep fun i hi => hi)
    have HNE := qH (OC.out.isnt K8.out.lt HNR.out)
    clear hc hck MC KC
    go_wp2_with fail
    go_ret
    rw [← HFE.out]
    exact ⟨wq.heap.size, rfl, KE.out, Nat.le_trans (Nat.le_of_lt S1.out) (Nat.le_of_lt HTR.out), qc, ⟨Ec, ME.out⟩, OE.out, fun e => HNE.out (.inr (.inr (.inr e)))⟩
end Go.Proofs.YteadghoojeehlaaGreatDoor
