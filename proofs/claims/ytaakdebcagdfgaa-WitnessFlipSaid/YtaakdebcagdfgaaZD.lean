/-
  Texts of this proof, put together: TgD, TgE, SbM, SbN, RegL, SbP, SbR, SbS, SbT, SbU, SbV. No statement is proved here.
-/
import Derived.Test.YtaakdebcagdfgaaZC
import Derived.Test.YtaakdebcagdfgaaZA
import Derived.Test.YtaakdebcagdfgaaProg
import Derived.Shelf.Slices.In.SortNone
import Derived.Lib.OwnBridge
import Derived.Sort.Grow
import Derived.Test.YtaakdebcagdfgaaZB
namespace Go.Proofs.Ytaakdebcagdfgaa
open Go.RowKit
set_option linter.unusedSimpArgs false
set_option linter.unusedVariables false
structure Cl (S : List St) (P : Nat → Prop) (t : Nat → Bool) (L : List Int) (i kk : Nat) : Prop where
 seeds : ∀ q, q < S.length → P q → t q = true
 sound : ∀ q, q < S.length → t q = true → Rc S P q
 done : ∀ (j : Nat) (x : Int) (s : St), j < i → L[j]? = some x → S[x.toNat]? = some s → ∀ f ∈ s.free, t f.toNat = true
 part : ∀ (x : Int) (s : St), L[i]? = some x → S[x.toNat]? = some s → ∀ (m : Nat) (f : Int), m < kk → s.free[m]? = some f → t f.toNat = true
section
variable {S : List St} {P : Nat → Prop} {t : Nat → Bool} {L : List Int} {i kk : Nat}
theorem Cl.start (h1 : ∀ q, q < S.length → P q → t q = true) (h2 : ∀ q, q < S.length → t q = true → P q) : Cl S P t L 0 0 :=
 ⟨h1, fun q hq ht => .base (h2 q hq ht) hq, fun j x s h => absurd h (Nat.not_lt_zero j), fun x s _ _ m f h => absurd h (Nat.not_lt_zero m)⟩
theorem addT_up {n : Nat} {x : Int} {q : Nat} (h : t q = true) : addT n t x q = true := by
 unfold addT
 split
 ·unfold updB; split; rfl; exact h
 ·exact h
theorem Cl.mark (h : Cl S P t L i kk) {x f : Int} {s : St} (hx : L[i]? = some x) (h0 : 0 ≤ x) (hs : S[x.toNat]? = some s) (ht : t x.toNat = true) (hf : s.free[kk]? = some f) (hf0 : 0 ≤ f) (hf1 : f < (S.length : Int)) :
  Cl S P (addT S.length t f) (addL S.length t L f) i (kk + 1) := by
 obtain ⟨m, hm⟩ := addL_app S.length t L f
 have hfn : f.toNat < S.length := by omega
 have key : ∀ q, q < S.length → (addT S.length t f q = true ↔ t q = true ∨ f = (q : Int)) := fun q hq => addT_iff hq
 have hi : i < L.length := (List.getElem?_eq_some_iff.1 hx).1
 refine ⟨fun q hq hp => addT_up (h.seeds q hq hp), fun q hq hu => ?_, fun j y u hj hy hu f' hf' => ?_, fun y u hy hu k f' hk hf' => ?_⟩
 ·rcases (key q hq).1 hu with hu | hu
  ·exact h.sound q hq hu
  ·exact .go (h.sound _ (by have := (List.getElem?_eq_some_iff.1 hs).1; exact this) ht) hs (by rw [← hu]; exact List.mem_of_getElem? hf) hq
 ·rw [hm, List.getElem?_append_left (by omega)] at hy
  exact addT_up (h.done j y u hj hy hu f' hf')
 ·rw [hm, List.getElem?_append_left hi, hx] at hy
  injection hy with hy
  subst hy
  rw [hs] at hu
  injection hu with hu
  subst hu
  rcases Nat.lt_or_ge k kk with hlt | hge
  ·exact addT_up (h.part x s hx hs k f' hlt hf')
  ·obtain rfl : k = kk := by omega
   rw [hf] at hf'
   injection hf' with hf'
   subst hf'
   exact (key _ hfn).2 (.inr (by omega))
theorem Cl.next (h : Cl S P t L i kk) {x : Int} {s : St} (hx : L[i]? = some x) (hs : S[x.toNat]? = some s) (hk : kk = s.free.length) : Cl S P t L (i + 1) 0 := by
 refine ⟨h.seeds, h.sound, fun j y u hj hy hu f hf => ?_, fun y u _ _ m f h => absurd h (Nat.not_lt_zero m)⟩
 rcases Nat.lt_or_ge j i with hlt | hge
 ·exact h.done j y u hlt hy hu f hf
 ·obtain rfl : j = i := by omega
  rw [hx] at hy
  injection hy with hy
  subst hy
  rw [hs] at hu
  injection hu with hu
  subst hu
  obtain ⟨m, hm, hmf⟩ := List.getElem_of_mem hf
  exact h.part x s hx hs m f (by omega) (by rw [List.getElem?_eq_getElem hm, hmf])
theorem Cl.end_ (h : Cl S P t L L.length kk) (g : GL S.length t L) {q : Nat} (hq : q < S.length) : t q = true ↔ Rc S P q :=
 rc_is h.seeds (fun i s hs ht j hj => by
  have hi : i < S.length := (List.getElem?_eq_some_iff.1 hs).1
  obtain ⟨k, hk, hkx⟩ := List.getElem_of_mem ((g.is i hi).1 ht)
  have := h.done k (i : Int) s hk (by rw [List.getElem?_eq_getElem hk, hkx]) (by simpa using hs) _ hj
  simpa using this) h.sound q hq
end
theorem ld_ints {ev : Operand → Value} {o : Oper} (x : Operand) (ho : o.op = .load 47 x) {p : Addr} (hx : ev x = .pointer (some p)) {A : Option Addr} {n c : Nat} {W : World} (hc : W.cell? p = some (.slice A n c)) : (execOp ev o).run Try.prog W = .ok (.value (.slice A n c)) W := by
 simp only [execOp, ho, hx]
 go_simp
def Sp (S : List St) (t0 : Nat → Bool) (l : List Int) (b j : Nat) (t : Nat → Bool) : Prop := ∀ q, q < S.length → (t q = true ↔ t0 q = true ∨ (q : Int) ∈ goN S (l.take j) b)
theorem Sp.start (S : List St) (t0 : Nat → Bool) (l : List Int) (b : Nat) : Sp S t0 l b 0 t0 := fun q _ => by rw [goN_nil]; simp
theorem Sp.out {S : List St} {t0 t : Nat → Bool} {l : List Int} {b j : Nat} (h : Sp S t0 l b j t) (e : goN S (l.take (j + 1)) b = goN S (l.take j) b) : Sp S t0 l b (j + 1) t := fun q hq => by rw [e]; exact h q hq
section
variable {w w' w2 : World} {B H g mr mn cap k : Nat} {A : Option Addr} {a z : Int} {cl : List UInt8} {sg : Value} {S : List St} {qv : Value} {Qs : List (List Int)} {Es : List Int}
end
theorem MStep.behind {w w' w'' : World} {g mr mn : Nat} {qv qv' : Value} (x : MStep w w' g mr mn qv qv') (hb : Below w.heap.size w' w'') : MStep w w'' g mr mn qv qv' :=
 ⟨⟨hb.os.trans x.off.os, hb.tape.trans x.off.tape, hb.output.trans x.off.output, Nat.le_trans x.off.size hb.size, fun k hk hn => (hb.block k hk).trans (x.off.block k hk hn)⟩, x.new⟩
/-! ### plain facts -/
/-! ### the signs in memory -/
def SgV (w : World) (H g mr mn : Nat) (sg : Value) (LL : List (List UInt8)) : Prop :=
 ∃ (A : Option Addr) (cap : Nat) (vf : Nat → Value), sg = .slice A LL.length cap ∧ (LL ≠ [] → ∃ b off, A = some ⟨b, off, none⟩ ∧ (b < H ∧ b ≠ g ∧ b ≠ mr ∧ b ≠ mn) ∧ b < w.heap.size ∧ ∀ i, i < LL.length → w.cell? ⟨b, off + i, none⟩ = some (vf i)) ∧
  ∀ i l, LL[i]? = some l → ∃ Ai ci, vf i = .slice Ai l.length ci ∧ (l ≠ [] → ∃ b off, Ai = some ⟨b, off, none⟩ ∧ (b < H ∧ b ≠ g ∧ b ≠ mr ∧ b ≠ mn) ∧ b < w.heap.size ∧ ∀ j c, l[j]? = some c → w.cell? ⟨b, off + j, none⟩ = some (bv c))
theorem SgV.stay {w w' : World} {H g mr mn : Nat} {sg : Value} {LL : List (List UInt8)} (h : SgV w H g mr mn sg LL) (hs : w.heap.size ≤ w'.heap.size) (hk : ∀ k, k < H → k ≠ g → k ≠ mr → k ≠ mn → w'.heap[k]? = w.heap[k]?) : SgV w' H g mr mn sg LL := by
 obtain ⟨A, cap, vf, h1, h2, h3⟩ := h
 have key : ∀ b o v, (b < H ∧ b ≠ g ∧ b ≠ mr ∧ b ≠ mn) → w.cell? ⟨b, o, none⟩ = some v → w'.cell? ⟨b, o, none⟩ = some v := fun b o v hb hc => by
  have := hk b hb.1 hb.2.1 hb.2.2.1 hb.2.2.2
  unfold World.cell? at hc ⊢
  simp only [this]
  exact hc
 refine ⟨A, cap, vf, h1, fun hne => ?_, fun i l hl => ?_⟩
 ·obtain ⟨b, off, e, hb, hlt, hc⟩ := h2 hne
  exact ⟨b, off, e, hb, Nat.lt_of_lt_of_le hlt hs, fun i hi => key _ _ _ hb (hc i hi)⟩
 ·obtain ⟨Ai, ci, e, h4⟩ := h3 i l hl
  refine ⟨Ai, ci, e, fun hne => ?_⟩
  obtain ⟨b, off, e, hb, hlt, hc⟩ := h4 hne
  exact ⟨b, off, e, hb, Nat.lt_of_lt_of_le hlt hs, fun j c hj => key _ _ _ hb (hc j c hj)⟩
/-! ### a run of steps -/
structure MO (D : Nat → Prop) (w w' : World) (g mr mn : Nat) (qv qv' : Value) : Prop where
 off : Off (fun k => Md g mr mn qv k ∨ D k) w w'
 new : ∀ k, qv'.ownBlock = some k → qv.ownBlock = some k ∨ w.heap.size ≤ k
section
variable {D : Nat → Prop} {w w' w'' : World} {g mr mn : Nat} {qv qv' qv'' : Value}
theorem MO.refl (D : Nat → Prop) (w : World) (g mr mn : Nat) (qv : Value) : MO D w w g mr mn qv qv := ⟨Off.refl _ _, fun k hk => .inl hk⟩
theorem MO.step (x : MO D w w' g mr mn qv qv') (y : MStep w' w'' g mr mn qv' qv'') : MO D w w'' g mr mn qv qv'' := by
 refine ⟨⟨y.off.os.trans x.off.os, y.off.tape.trans x.off.tape, y.off.output.trans x.off.output, Nat.le_trans x.off.size y.off.size, fun k hk hn => ?_⟩, fun k hk => ?_⟩
 ·refine (y.off.block k (Nat.lt_of_lt_of_le hk x.off.size) fun hd => ?_).trans (x.off.block k hk hn)
  rcases hd with e | e | e | e
  ·exact hn (.inl (.inl e))
  ·exact hn (.inl (.inr (.inl e)))
  ·exact hn (.inl (.inr (.inr (.inl e))))
  ·rcases x.new k e with e | e
   ·exact hn (.inl (.inr (.inr (.inr e))))
   ·omega
 ·rcases y.new k hk with e | e
  ·exact x.new k e
  ·exact .inr (Nat.le_trans x.off.size e)
theorem MO.put (x : MO D w w' g mr mn qv qv') {D' : Nat → Prop} (y : Off D' w' w'') (hD : ∀ k, D' k → D k ∨ w.heap.size ≤ k) : MO D w w'' g mr mn qv qv' := by
 refine ⟨⟨y.os.trans x.off.os, y.tape.trans x.off.tape, y.output.trans x.off.output, Nat.le_trans x.off.size y.size, fun k hk hn => ?_⟩, x.new⟩
 refine (y.block k (Nat.lt_of_lt_of_le hk x.off.size) fun hd => ?_).trans (x.off.block k hk hn)
 rcases hD k hd with e | e
 ·exact hn (.inr e)
 ·omega
theorem MO.then (x : MO D w w' g mr mn qv qv') (hb : Below w'.heap.size w' w'') : MO D w w'' g mr mn qv qv' := x.put (Off.new (fun _ => False) hb) fun k h => h.elim
theorem MO.trans (x : MO D w w' g mr mn qv qv') {D' : Nat → Prop} (y : MO D' w' w'' g mr mn qv' qv'') (hD : ∀ k, D' k → D k ∨ w.heap.size ≤ k) : MO D w w'' g mr mn qv qv'' := by
 refine ⟨⟨y.off.os.trans x.off.os, y.off.tape.trans x.off.tape, y.off.output.trans x.off.output, Nat.le_trans x.off.size y.off.size, fun k hk hn => ?_⟩, fun k hk => ?_⟩
 ·refine (y.off.block k (Nat.lt_of_lt_of_le hk x.off.size) fun hd => ?_).trans (x.off.block k hk hn)
  rcases hd with (e | e | e | e) | e
  ·exact hn (.inl (.inl e))
  ·exact hn (.inl (.inr (.inl e)))
  ·exact hn (.inl (.inr (.inr (.inl e))))
  ·rcases x.new k e with e | e
   ·exact hn (.inl (.inr (.inr (.inr e))))
   ·omega
  ·rcases hD k e with e | e
   ·exact hn (.inr e)
   ·omega
 ·rcases y.new k hk with e | e
  ·exact x.new k e
  ·exact .inr (Nat.le_trans x.off.size e)
theorem MO.blk (x : MO D w w' g mr mn qv qv') {b : Nat} {t : TypeId} {cs : List Value} (hb : Blk w b t cs) (h1 : ¬ Md g mr mn qv b) (h2 : ¬ D b) : Blk w' b t cs := Off.blk x.off (fun h => h.elim h1 h2) hb
theorem MO.cell (x : MO D w w' g mr mn qv qv') {b o : Nat} {v : Value} (hb : b < w.heap.size) (h1 : ¬ Md g mr mn qv b) (h2 : ¬ D b) (hc : w.cell? ⟨b, o, none⟩ = some v) : w'.cell? ⟨b, o, none⟩ = some v := Off.cell x.off hb (fun h => h.elim h1 h2) hc
end
section
variable {P : Program} {ops : Array Oper} {Q : Exit → Act → World → Prop} {md : Region.Mode} {S : World → Prop} {n : Nat}
def waitsFor (md : Region.Mode) (ops : Array Oper) (n i : Nat) : Bool := match ops[n]? with
 | some o => o.after.any fun e => Region.binds md e && e.on == i
 | none => true
theorem waits_not {i : Nat} (h : waitsFor md ops n i = true) {listed : Array Bool} (hi : i ∈ Region.ready md ops listed) : n ∉ Region.ready md ops listed := by
 intro hn
 obtain ⟨_, o, ho, hall⟩ := mem_ready.1 hn
 unfold waitsFor at h
 rw [ho] at h
 obtain ⟨e, he, hb⟩ := Array.any_eq_true'.1 h
 rw [Bool.and_eq_true, beq_iff_eq] at hb
 have h1 := hall e he hb.1
 have h0 := (mem_ready.1 hi).1
 rw [hb.2] at h1
 rcases Nat.lt_or_ge i listed.size with h' | h'
 ·simp [h'] at h0 h1; rw [h0] at h1; cases h1
 ·simp [Array.getElem?_eq_none h'] at h1
end
section
variable {P : Program} {w : World} {ops : Array Oper} {rest : List Oper} {o : Oper} {a : Act} {Q : Exit → Act → World → Prop} {K : Act → World → Prop}
theorem wp_bldV (t e : TypeId) (x : Operand) (ho : o.op = .buildSlice t 1 #[(0, x)]) (i : TypeInfo) (z : Value) (ht : P.underlying t = some (.slice e)) (hi : P.info? e = some i) (hz : i.zero = some z) (hs : i.size = 1) (hzc : z.cells = #[z]) (v : Value) (hx : a.eval x = v) (hv : v.cells = #[v])
  (h : ∀ w', Row w' (.slice (some ⟨w.heap.size, 0, none⟩) 1 1) [v] → Below w.heap.size w w' → K (a.put o.dst (.slice (some ⟨w.heap.size, 0, none⟩) 1 1)) w') : o.wp P a w K Q := by
 have hzv : (zeroValue e).run P w = .ok z w := by simp [zeroValue, typeInfo, hi, hz]
 have hrun : (Instr.buildSlice t 1 #[(0, v)]).run P w = .ok (.slice (some ⟨w.heap.size, 0, none⟩) 1 1) (w.alloc (.cells [v].toArray e)) := by
  simp [Instr.buildSlice, run_underlying ht, sizeOf, typeInfo, hi, hs, hzv, hzc, hv, Instr.fill, Array.range_succ, Array.range_zero', newRow]
 unfold Oper.wp
 simp only [execOp, ho, List.map_toArray, List.map_cons, List.map_nil, hx, hrun, Sem.run_bind, Result.andThen_ok, Sem.run_pure]
 exact h _ (rowB (Blk.new w e _) rfl (by omega)) ((Below.refl _ _).alloc (Nat.le_refl _) _)
end
def SgR (w : World) (base : Nat) (sgv v : Value) (l : List UInt8) : Prop :=
 ∃ A c, v = .slice A l.length c ∧ (l ≠ [] → ∃ b off, A = some ⟨b, off, none⟩ ∧ base ≤ b ∧ b < w.heap.size ∧ sgv.ownBlock ≠ some b ∧ ∀ m x, l[m]? = some x → w.cell? ⟨b, off + m, none⟩ = some (bv x))
theorem SgR.step {w w' : World} {base g : Nat} {sgv sgv' v : Value} {l : List UInt8} (h : SgR w base sgv v l) (ho : Off (fun k => k = g ∨ sgv.ownBlock = some k) w w') (hg : g < base) (hn : ∀ k, sgv'.ownBlock = some k → sgv.ownBlock = some k ∨ w.heap.size ≤ k) : SgR w' base sgv' v l := by
 obtain ⟨A, c, e, h2⟩ := h
 refine ⟨A, c, e, fun hne => ?_⟩
 obtain ⟨b, off, hA, h3, h4, h5, h6⟩ := h2 hne
 refine ⟨b, off, hA, h3, Nat.lt_of_lt_of_le h4 ho.size, fun e => ?_, fun m x hx => ho.cell h4 (fun e => ?_) (h6 m x hx)⟩
 ·rcases hn b e with e | e
  ·exact h5 e
  ·omega
 ·rcases e with e | e
  ·omega
  ·exact h5 e
theorem range_snoc (j : Nat) (vf : Nat → Value) (v : Value) : (List.range (j + 1)).map (fun i => if i = j then v else vf i) = (List.range j).map vf ++ [v] := by
 rw [List.range_succ, List.map_append, List.map_singleton, if_pos rfl]
 congr 1
 refine List.map_congr_left fun i hi => ?_
 have := List.mem_range.1 hi
 rw [if_neg (by omega)]
def dcl (cl : List UInt8) (vn ve : Value) : List Value := bvs cl ++ [vn, ve]
section
variable {cl : List UInt8} {vn ve : Value}
theorem dcl_len (hl : cl.length = 256) : (dcl cl vn ve).length = 258 := by simp [dcl, bvs_length, hl]
theorem dcl_end (hl : cl.length = 256) (i : Nat) : (dcl cl vn ve)[256 + i]? = [vn, ve][i]? := by
 unfold dcl
 rw [List.getElem?_append_right (by rw [bvs_length, hl]; omega), bvs_length, hl, Nat.add_sub_cancel_left]
theorem dcl_n (hl : cl.length = 256) : (dcl cl vn ve)[256]? = some vn := dcl_end hl 0
theorem dcl_e (hl : cl.length = 256) : (dcl cl vn ve)[257]? = some ve := dcl_end hl 1
theorem dcl_cl (hl : cl.length = 256) {i : Nat} (hi : i < 256) : (dcl cl vn ve)[i]? = (bvs cl)[i]? := by
 unfold dcl
 rw [List.getElem?_append_left (by rw [bvs_length, hl]; exact hi)]
theorem dcl_set (hl : cl.length = 256) (i : Nat) (v : Value) : (dcl cl vn ve).set (256 + i) v = bvs cl ++ [vn, ve].set i v := by
 unfold dcl
 rw [List.set_append_right _ _ (by rw [bvs_length, hl]; omega), bvs_length, hl, Nat.add_sub_cancel_left]
theorem dcl_setn (hl : cl.length = 256) (v : Value) : (dcl cl vn ve).set 256 v = dcl cl v ve := dcl_set hl 0 v
theorem dcl_sete (hl : cl.length = 256) (v : Value) : (dcl cl vn ve).set 257 v = dcl cl vn v := dcl_set hl 1 v
theorem dcl_one {A : Option Addr} {n c : Nat} {A' : Option Addr} {n' c' : Nat} : (dcl cl (.slice A n c) (.slice A' n' c')).all (·.oneCell') = true := by
 unfold dcl
 rw [List.all_append, bvs_all']
 rfl
theorem size_dfa (hl : cl.length = 256) : (Try.prog.info? 28).map (·.size) = some (dcl cl vn ve).length := by
 rw [dcl_len hl]
 kernel_rfl
end
theorem inf_dfa : (Try.prog.info? 28).map (fun i => i.zero) = some (some (.agg (dcl (ctab [] 0) (.slice none 0 0) (.slice none 0 0)).toArray)) := by kernel_rfl
theorem built_d0 : Try.prog.built 28 [] = some (dcl (ctab [] 0) (.slice none 0 0) (.slice none 0 0)).toArray := by kernel_rfl
theorem ctab_no : ctab [] 0 = List.replicate 256 0 := by
 unfold ctab
 rw [List.map_congr_left (g := fun _ => 0) fun b _ => if_neg (by omega), List.map_const']
 simp
def DfaV (w : World) (cs : List Value) (D : Dm) : Prop :=
 D.cl.length = 256 ∧ ∃ (vn ve : Value) (vf : Nat → Value), cs = dcl D.cl vn ve ∧ Row w vn ((List.range D.next.length).map vf) ∧ (∀ i r, D.next[i]? = some r → Row w (vf i) (nums .i64 r)) ∧ Row w ve (bools D.ends)
theorem DfaV.below {w w' : World} {cs : List Value} {D : Dm} (h : DfaV w cs D) (hb : Below w.heap.size w w') : DfaV w' cs D := by
 obtain ⟨hl, vn, ve, vf, h1, h2, h3, h4⟩ := h
 exact ⟨hl, vn, ve, vf, h1, h2.below hb, fun i r hr => (h3 i r hr).below hb, h4.below hb⟩
def IntR (w : World) (base gd : Nat) (vn ve qv v : Value) (l : List Int) : Prop :=
 ∃ h, v = .slice (some ⟨h, 0, none⟩) l.length l.length ∧ Blk w h 3 (nums .i64 l) ∧ base ≤ h ∧ h ≠ gd ∧ vn.ownBlock ≠ some h ∧ ve.ownBlock ≠ some h ∧ qv.ownBlock ≠ some h ∧ l.length ≤ 256
structure DV (w : World) (base gd : Nat) (cl : List UInt8) (qv vn ve : Value) (vf : Nat → Value) (r : Nat) (R : List (List Int)) (E : List Bool) : Prop where
 blk : Blk w gd 28 (dcl cl vn ve)
 cl : cl.length = 256
 gB : base ≤ gd
 ownn : w.ownsRow base 47 1 vn r ((List.range r).map vf)
 owne : w.ownsRow base 4 1 ve E.length (bools E)
 rows : ∀ i l, R[i]? = some l → IntR w base gd vn ve qv (vf i) l
 qn : ∀ k, qv.ownBlock = some k → k ≠ gd ∧ vn.ownBlock ≠ some k ∧ ve.ownBlock ≠ some k
 nd : vn.ownBlock ≠ some gd
 ed : ve.ownBlock ≠ some gd
 ne : ∀ k, vn.ownBlock = some k → ve.ownBlock ≠ some k
 len : R.length = r
section
variable {w w' w'' : World} {base gd g mr mn r : Nat} {cl : List UInt8} {qv qv' vn ve vn' ve' : Value} {vf : Nat → Value} {R : List (List Int)} {E : List Bool}
theorem DV.below (x : DV w base gd cl qv vn ve vf r R E) (hb : Below w.heap.size w w') : DV w' base gd cl qv vn ve vf r R E := by
 have ln : ∀ k, vn.ownBlock = some k → k < w.heap.size := fun k hk => (own6_lt x.ownn k hk).1
 have le : ∀ k, ve.ownBlock = some k → k < w.heap.size := fun k hk => (own6_lt x.owne k hk).1
 refine { x with blk := (hb.block gd x.blk.lt).trans x.blk, ownn := own6_stay x.ownn fun j hj => hb.block j (ln j hj), owne := own6_stay x.owne fun j hj => hb.block j (le j hj), rows := fun i l hl => ?_ }
 obtain ⟨h, h1, h2, h3⟩ := x.rows i l hl
 exact ⟨h, h1, (hb.block h h2.lt).trans h2, h3⟩
theorem DV.ends (x : DV w base gd cl qv vn ve vf r R E) (hb : Below w.heap.size w w') (b : Bool) (ho : w''.ownsRow base 4 1 ve' (E ++ [b]).length (bools (E ++ [b]))) (hg : w'.grownBy w'' ve.ownBlock) (hw : ∀ k, ve'.ownBlock = some k → ve.ownBlock = some k ∨ w'.heap.size ≤ k) (hq : ∀ k, qv.ownBlock = some k → k < w.heap.size) :
  Blk w'' gd 28 (dcl cl vn ve) ∧ DV (w''.setCell ⟨gd, 257, none⟩ ve') base gd cl qv vn ve' vf r R (E ++ [b]) ∧ Off (fun k => k = gd ∨ ve.ownBlock = some k) w (w''.setCell ⟨gd, 257, none⟩ ve') := by
 have ln : ∀ k, vn.ownBlock = some k → k < w.heap.size := fun k hk => (own6_lt x.ownn k hk).1
 have st : ∀ k, k < w.heap.size → k ≠ gd → ve.ownBlock ≠ some k → (w''.setCell ⟨gd, 257, none⟩ ve').heap[k]? = w.heap[k]? := fun k hk h1 h2 => by
  rw [Below.heap_setCell w'' ⟨gd, 257, none⟩ ve' k h1]
  exact (hg.block k (Nat.lt_of_lt_of_le hk hb.size) (fun e => h2 e.symm)).trans (hb.block k hk)
 have hgd : Blk w'' gd 28 (dcl cl vn ve) := ((hg.block gd (Nat.lt_of_lt_of_le x.blk.lt hb.size) (fun e => x.ed e.symm)).trans (hb.block gd x.blk.lt)).trans x.blk
 have ne' : ∀ k, k < w.heap.size → ve.ownBlock ≠ some k → ve'.ownBlock ≠ some k := fun k hk h1 e => by
  rcases hw k e with e | e
  ·exact h1 e
  ·have := hb.size; omega
 refine ⟨hgd, ⟨by have := hgd.set 257 ve'; rw [dcl_sete x.cl] at this; exact this, x.cl, x.gB, own6_stay x.ownn fun j hj => st j (ln j hj) (fun e => x.nd (by rw [← e]; exact hj)) (x.ne j hj), ?_, fun i l hl => ?_, fun k hk => ?_, x.nd, ne' gd x.blk.lt x.ed, fun k hk => ne' k (ln k hk) (x.ne k hk), x.len⟩, ?_⟩
 ·refine own6_stay ho fun j hj => Below.heap_setCell w'' ⟨gd, 257, none⟩ ve' j (fun e => ne' gd x.blk.lt x.ed (by rw [← show j = gd from e]; exact hj))
 ·obtain ⟨h, h1, h2, h3, h4, h5, h6, h7⟩ := x.rows i l hl
  exact ⟨h, h1, (st h h2.lt h4 h6).trans h2, h3, h4, h5, ne' h h2.lt h6, h7⟩
 ·obtain ⟨h1, h2, h3⟩ := x.qn k hk
  exact ⟨h1, h2, ne' k (hq k hk) h3⟩
 ·refine ⟨hg.os.trans hb.os, hg.tape.trans hb.tape, hg.output.trans hb.output, ?_, fun k hk hn => st k hk (fun e => hn (.inl e)) (fun e => hn (.inr e))⟩
  have h1 := hg.size
  have h2 := hb.size
  simp
  omega
theorem DV.next (x : DV w base gd cl qv vn ve vf r R E) {h : Nat} {l : List Int} (hh : Blk w h 3 (nums .i64 l)) (hb2 : base ≤ h) (hgd2 : h ≠ gd) (hvn : vn.ownBlock ≠ some h) (hve : ve.ownBlock ≠ some h) (hqh : qv.ownBlock ≠ some h) (hlen : l.length ≤ 256) (hb : Below w.heap.size w w')
  (ho : w''.ownsRow base 47 1 vn' (r + 1) ((List.range r).map vf ++ [.slice (some ⟨h, 0, none⟩) l.length l.length])) (hg : w'.grownBy w'' vn.ownBlock) (hw : ∀ k, vn'.ownBlock = some k → vn.ownBlock = some k ∨ w'.heap.size ≤ k) (hq : ∀ k, qv.ownBlock = some k → k < w.heap.size) :
  Blk w'' gd 28 (dcl cl vn ve) ∧ DV (w''.setCell ⟨gd, 256, none⟩ vn') base gd cl qv vn' ve (fun i => if i = r then .slice (some ⟨h, 0, none⟩) l.length l.length else vf i) (r + 1) (R ++ [l]) E ∧ Off (fun k => k = gd ∨ vn.ownBlock = some k) w (w''.setCell ⟨gd, 256, none⟩ vn') := by
 have le : ∀ k, ve.ownBlock = some k → k < w.heap.size := fun k hk => (own6_lt x.owne k hk).1
 have st : ∀ k, k < w.heap.size → k ≠ gd → vn.ownBlock ≠ some k → (w''.setCell ⟨gd, 256, none⟩ vn').heap[k]? = w.heap[k]? := fun k hk h1 h2 => by
  rw [Below.heap_setCell w'' ⟨gd, 256, none⟩ vn' k h1]
  exact (hg.block k (Nat.lt_of_lt_of_le hk hb.size) (fun e => h2 e.symm)).trans (hb.block k hk)
 have hgd : Blk w'' gd 28 (dcl cl vn ve) := ((hg.block gd (Nat.lt_of_lt_of_le x.blk.lt hb.size) (fun e => x.nd e.symm)).trans (hb.block gd x.blk.lt)).trans x.blk
 have ne' : ∀ k, k < w.heap.size → vn.ownBlock ≠ some k → vn'.ownBlock ≠ some k := fun k hk h1 e => by
  rcases hw k e with e | e
  ·exact h1 e
  ·have := hb.size; omega
 refine ⟨hgd, ⟨by have := hgd.set 256 vn'; rw [dcl_setn x.cl] at this; exact this, x.cl, x.gB, ?_, own6_stay x.owne fun j hj => st j (le j hj) (fun e => x.ed (by rw [← e]; exact hj)) (fun e => x.ne j e hj), fun i m hm => ?_, fun k hk => ?_, ne' gd x.blk.lt x.nd, x.ed, fun k hk e => ?_, by rw [List.length_append, x.len]; rfl⟩, ?_⟩
 ·rw [range_snoc]
  exact own6_stay ho fun j hj => Below.heap_setCell w'' ⟨gd, 256, none⟩ vn' j (fun e => ne' gd x.blk.lt x.nd (by rw [← show j = gd from e]; exact hj))
 ·show IntR _ base gd vn' ve qv (if i = r then _ else vf i) m
  by_cases hir : i = r
  ·rw [if_pos hir]
   have hml : m = l := by
    subst hir
    rw [← x.len, List.getElem?_append_right (Nat.le_refl _), Nat.sub_self] at hm
    simpa using hm.symm
   subst hml
   exact ⟨h, rfl, (st h hh.lt hgd2 hvn).trans hh, hb2, hgd2, ne' h hh.lt hvn, hve, hqh, hlen⟩
  ·rw [if_neg hir]
   have hi : i < R.length := by
    have := (List.getElem?_eq_some_iff.1 hm).1
    rw [List.length_append, List.length_singleton] at this
    have := x.len
    omega
   rw [List.getElem?_append_left hi] at hm
   obtain ⟨h', h1, h2, h3, h4, h5, h6, h7⟩ := x.rows i m hm
   exact ⟨h', h1, (st h' h2.lt h4 h5).trans h2, h3, h4, ne' h' h2.lt h5, h6, h7⟩
 ·obtain ⟨h1, h2, h3⟩ := x.qn k hk
  exact ⟨h1, ne' k (hq k hk) h2, h3⟩
 ·rcases hw k hk with e' | e'
  ·exact x.ne k e' e
  ·have h1 := le k e
   have h2 := hb.size
   omega
 ·refine ⟨hg.os.trans hb.os, hg.tape.trans hb.tape, hg.output.trans hb.output, ?_, fun k hk hn => st k hk (fun e => hn (.inl e)) (fun e => hn (.inr e))⟩
  have h1 := hg.size
  have h2 := hb.size
  simp
  omega
theorem DV.dfa (x : DV w base gd cl qv vn ve vf r R E) : DfaV w (dcl cl vn ve) ⟨cl, R, E⟩ :=
 ⟨x.cl, vn, ve, vf, rfl, by
  show Row w vn ((List.range R.length).map vf)
  rw [x.len]
  exact Row.of_own x.ownn, fun i l hl => by
  obtain ⟨h, h1, h2, _, _, _, _, _, h8⟩ := x.rows i l hl
  rw [h1]
  exact rowB (n := l.length) h2 (nums_length .i64 l) (by omega), Row.of_own x.owne⟩
end
theorem ld_bls {ev : Operand → Value} {o : Oper} (x : Operand) (ho : o.op = .load 26 x) {p : Addr} (hx : ev x = .pointer (some p)) {A : Option Addr} {n c : Nat} {W : World} (hc : W.cell? p = some (.slice A n c)) : (execOp ev o).run Try.prog W = .ok (.value (.slice A n c)) W := by
 simp only [execOp, ho, hx]
 go_simp
theorem ld_inss {ev : Operand → Value} {o : Oper} (x : Operand) (ho : o.op = .load 25 x) {p : Addr} (hx : ev x = .pointer (some p)) {A : Option Addr} {n c : Nat} {W : World} (hc : W.cell? p = some (.slice A n c)) : (execOp ev o).run Try.prog W = .ok (.value (.slice A n c)) W := by
 simp only [execOp, ho, hx]
 go_simp
theorem wp_stBls {o : Oper} {a : Act} {K : Act → World → Prop} {Q : Exit → Act → World → Prop} {w : World} (x y : Operand) (ho : o.op = .store 26 x y) {p : Addr} (hx : a.eval x = .pointer (some p)) {A : Option Addr} {n c : Nat} (hy : a.eval y = .slice A n c) {v : Value} (hc : w.cell? p = some v) (hf : w.frozen? p = false)
  (h : K (a.put o.dst undef) (w.setCell p (.slice A n c))) : o.wp Try.prog a w K Q := by
 unfold Oper.wp
 simp only [execOp, ho, hx, hy]
 go_simp
 exact h
theorem wp_stIns {o : Oper} {a : Act} {K : Act → World → Prop} {Q : Exit → Act → World → Prop} {w : World} (x y : Operand) (ho : o.op = .store 25 x y) {p : Addr} (hx : a.eval x = .pointer (some p)) {A : Option Addr} {n c : Nat} (hy : a.eval y = .slice A n c) {v : Value} (hc : w.cell? p = some v) (hf : w.frozen? p = false)
  (h : K (a.put o.dst undef) (w.setCell p (.slice A n c))) : o.wp Try.prog a w K Q := by
 unfold Oper.wp
 simp only [execOp, ho, hx, hy]
 go_simp
 exact h
theorem inf_sl : (Try.prog.info? 47).map (fun i => (i.zero, i.size, i.bytes)) = some (some (.slice none 0 0), 1, 24) := by kernel_rfl
theorem built_df (parts : List (Nat × Value)) : Try.prog.built 28 parts = Instr.fill (fun i => (#[(0, 256), (256, 1), (257, 1)] : Array (Nat × Nat))[i]?) (dcl (ctab [] 0) (.slice none 0 0) (.slice none 0 0)).toArray parts := by kernel_rfl
theorem built_d1 (cl : List UInt8) (hl : cl.length = 256) : Try.prog.built 28 [(0, .agg (bvs cl).toArray)] = some (dcl cl (.slice none 0 0) (.slice none 0 0)).toArray := by
 rw [built_df]
 obtain ⟨d0, hd0⟩ : ∃ d0, d0 = dcl (ctab [] 0) (.slice none 0 0) (.slice none 0 0) := ⟨_, rfl⟩
 have h1 : d0.length = 258 := by rw [hd0]; exact dcl_len (ctab_length _ _)
 have hb : (bvs cl).length = 256 := by rw [bvs_length, hl]
 rw [← hd0]
 have e : Instr.fill (fun i => (#[(0, 256), (256, 1), (257, 1)] : Array (Nat × Nat))[i]?) d0.toArray [(0, .agg (bvs cl).toArray)] = some (((bvs cl).zipIdx 0).foldl (fun cs (x : Value × Nat) => cs.setIfInBounds (0 + x.2) x.1) d0.toArray) := by
  have c1 : ¬ ((bvs cl).toArray.size ≠ 256 || decide (0 + (bvs cl).toArray.size > d0.toArray.size)) = true := by simp [hb, h1]
  simp only [Instr.fill, Value.cells]
  rw [show (#[(0, 256), (256, 1), (257, 1)] : Array (Nat × Nat))[0]? = some (0, 256) from rfl]
  simp [hb, h1]
 rw [e]
 congr 1
 obtain ⟨hsz, hk⟩ := Great.foldl_set 0 (bvs cl) 0 d0.toArray
 apply Array.ext_getElem?
 intro k
 rw [hk k]
 have hz : d0.toArray.size = 258 := by simp [h1]
 by_cases hlt : k < 256
 ·rw [if_pos ⟨by omega, by omega, by omega⟩]
  have := dcl_cl (vn := .slice none 0 0) (ve := .slice none 0 0) hl hlt
  simpa using this.symm
 ·rw [if_neg (by omega)]
  obtain ⟨i, rfl⟩ : ∃ i, k = 256 + i := ⟨k - 256, by omega⟩
  have e1 := dcl_end (vn := .slice none 0 0) (ve := .slice none 0 0) hl i
  have e2 := dcl_end (vn := .slice none 0 0) (ve := .slice none 0 0) (ctab_length [] 0) i
  rw [← hd0] at e2
  rw [List.getElem?_toArray, List.getElem?_toArray, e1, e2]
def clsD (cl : List UInt8) (i : Nat) : Nat := (cl.take i).foldl (fun n c => max n (c.toNat + 1)) 0
theorem clsD_zero (cl : List UInt8) : clsD cl 0 = 0 := rfl
theorem clsD_next {cl : List UInt8} {i : Nat} {c : UInt8} (h : cl[i]? = some c) : clsD cl (i + 1) = max (clsD cl i) (c.toNat + 1) := by
 obtain ⟨hi, rfl⟩ := List.getElem?_eq_some_iff.1 h
 unfold clsD
 rw [List.take_succ_eq_append_getElem hi, List.foldl_append]
 rfl
theorem clsD_le (cl : List UInt8) : ∀ i, clsD cl i ≤ 256
 | 0 => Nat.zero_le _
 | i + 1 => by
  rcases Nat.lt_or_ge i cl.length with h | h
  ·rw [clsD_next (List.getElem?_eq_getElem h)]
   have h1 := clsD_le cl i
   have h2 := (cl[i]).toNat_lt
   omega
  ·have : clsD cl (i + 1) = clsD cl i := by
    unfold clsD
    rw [List.take_of_length_le h, List.take_of_length_le (by omega)]
   rw [this]
   exact clsD_le cl i
def clsA (cl : List UInt8) : Nat := clsD cl 256
theorem clsD_lt {cl : List UInt8} {j : Nat} {c : UInt8} (h : cl[j]? = some c) : ∀ i, j < i → c.toNat < clsD cl i
 | 0, hj => absurd hj (Nat.not_lt_zero j)
 | i + 1, hj => by
  rcases Nat.lt_or_ge i cl.length with hi | hi
  ·rw [clsD_next (List.getElem?_eq_getElem hi)]
   rcases Nat.lt_or_ge j i with h1 | h1
   ·have := clsD_lt h i h1
    omega
   ·obtain rfl : i = j := by omega
    have h2 : cl[i] = c := Option.some.inj ((List.getElem?_eq_getElem hi).symm.trans h)
    rw [h2]
    omega
  ·have hjl := (List.getElem?_eq_some_iff.1 h).1
   have : clsD cl (i + 1) = clsD cl i := by
    unfold clsD
    rw [List.take_of_length_le hi, List.take_of_length_le (by omega)]
   rw [this]
   exact clsD_lt h i (by omega)
theorem clsA_lt {cl : List UInt8} (hl : cl.length = 256) {j : Nat} {c : UInt8} (h : cl[j]? = some c) : c.toNat < clsA cl :=
 clsD_lt h 256 (by have := (List.getElem?_eq_some_iff.1 h).1; omega)
theorem lt_256 {i : Nat} (h : i < 256) : i ≤ 4611686018427387904 := by omega
theorem sub_256 {i : Nat} (h : i < 256) : 256 - (i + 1) < 256 - i := by omega
theorem max_int' (m x : Nat) : Value.int .i64 (max (m : Int) ((x : Int) + 1)) = Value.int .i64 ((max m (x + 1) : Nat) : Int) := by
 congr 1
 omega
set_option maxHeartbeats 4000000 in
set_option maxRecDepth 1000000 in
theorem refClasses11_any (D : Dm) (cs : List Value) (w : World) (hv : DfaV w cs D) :
  Calls Try.prog 28 #[.agg cs.toArray] w fun e w' => e = .returned (.int .i64 (clsA D.cl : Int)) ∧ Below w.heap.size w w' := by
 obtain ⟨hl, vn, ve, vf, hcs, _, _, _⟩ := hv
 have HL := qH hl
 have HCS := qH hcs
 obtain ⟨cl, hcl⟩ : ∃ cl, cl = D.cl := ⟨_, rfl⟩
 rw [← hcl] at HL HCS ⊢
 clear hl hcs hcl
 go_enter Try.func28, Try.ntmps28
 go_wp2_with ((with_reducible refine atDst 1 ?_); refine wpList_box rfl 28 _ rfl cs rfl (Below.refl w.heap.size w) (Nat.le_refl _) ?_; intro w1 hk1 hb1 hs1 _; have K1 := qH hk1; have B1 := qH hb1; clear hk1 hb1 hs1; (try simp only [Act.put, qA, qB, qC]))
 go_loopw [3, 4] (fun v iv wl => ∃ i : Nat, i ≤ 256 ∧ iv = .int .i64 (i : Int) ∧ v = .int .i64 (clsD cl i : Int) ∧ wl = w1) (fun _ iv _ => 256 - (intOf iv).toNat)
 case atStart => exact ⟨0, Nat.zero_le _, by simp, by simp [clsD_zero], rfl⟩
 obtain ⟨i, hi, rfl, rfl, hw⟩ := hrel
 have hw2 := hw.symm
 subst hw2
 clear hw
 by_cases hin : i < 256
 ·have x1 : (i : Int) < 256 := Int.ofNat_lt.2 hin
  have HI := qH hin
  have HMI := qH (sub_256 hin)
  obtain ⟨c, hc⟩ : ∃ c, cl[i]? = some c := ⟨_, List.getElem?_eq_getElem (by rw [HL.out]; exact hin)⟩
  obtain ⟨x, hx⟩ : ∃ x, x = c.toNat := ⟨_, rfl⟩
  have HX2 := qH (show x < 256 by rw [hx]; exact c.toNat_lt)
  have hcx : w1.cell? ⟨w.heap.size, i, none⟩ = some (.int .u8 (x : Int)) := by
   rw [K1.out.cell i, HCS.out, dcl_cl HL.out hin, bvs_get _ _ _ hc, hx]
  obtain ⟨m, hm⟩ : ∃ m, m = clsD cl i := ⟨_, rfl⟩
  have HNX := qH (show max m (x + 1) = clsD cl (i + 1) by rw [clsD_next hc, hm, hx])
  rw [← hm]
  have e3 := wrap_one i (lt_256 hin)
  have e4 := wrap_one' i (lt_256 hin)
  have f3 := wrap_one x (lt_256 HX2.out)
  have f4 := wrap_one' x (lt_256 HX2.out)
  have g4 : IntKind.i64.wrap (x : Int) = (x : Int) := IntWalk.i64_in _ (by have := HX2.out; omega)
  clear hi hin hc hx hm
  go_wp2_with fail
  exact ⟨⟨i + 1, HI.out, by congr 1, by rw [← HNX.out]; exact max_int' m x, trivial⟩, by simpa [intOf] using HMI.out⟩
 ·obtain rfl : i = 256 := by omega
  have x1 : ¬ ((256 : Int) < 256) := Int.lt_irrefl _
  clear hi hin
  go_wp2_with fail
  go_ret
  exact ⟨rfl, B1.out⟩
structure MayD (D : Dm) : Prop where
 pos : 1 ≤ D.next.length
 few : D.next.length ≤ 2000
 ends : D.ends.length = D.next.length
 rows : ∀ r ∈ D.next, r.length = clsA D.cl
 to : ∀ r ∈ D.next, ∀ x ∈ r, 0 ≤ x ∧ x < (D.next.length : Int)
theorem DfaV.form {w : World} {cs : List Value} {D : Dm} (h : DfaV w cs D) : ∃ (An Ae : Option Addr) (cn ce : Nat) (vf : Nat → Value), D.cl.length = 256 ∧ cs = dcl D.cl (.slice An D.next.length cn) (.slice Ae D.ends.length ce) ∧
  Row w (.slice An D.next.length cn) ((List.range D.next.length).map vf) ∧ (∀ i r, D.next[i]? = some r → Row w (vf i) (nums .i64 r)) ∧ Row w (.slice Ae D.ends.length ce) (bools D.ends) := by
 obtain ⟨hl, vn, ve, vf, hcs, hn, hr, he⟩ := h
 have hn' := hn
 have he' := he
 obtain ⟨An, cn, rfl, _⟩ := hn
 obtain ⟨Ae, ce, rfl, _⟩ := he
 rw [show ((List.range D.next.length).map vf).length = D.next.length by simp] at hcs hn'
 rw [bools_length] at hcs he'
 exact ⟨An, Ae, cn, ce, vf, hl, hcs, hn', hr, he'⟩
theorem DfaV.size {w : World} {cs : List Value} {D : Dm} (h : DfaV w cs D) : (Try.prog.info? 28).map (·.size) = some cs.length := by
 obtain ⟨hl, vn, ve, vf, hcs, _⟩ := h
 rw [hcs]
 exact size_dfa hl
theorem clsA_le (cl : List UInt8) : clsA cl ≤ 256 := clsD_le cl 256
theorem lt_k256 {i k : Nat} (h : i < k) (hk : k ≤ 256) : i ≤ 4611686018427387904 := by omega
set_option maxHeartbeats 4000000 in
set_option maxRecDepth 1000000 in
theorem refMay11_any (D : Dm) (cs : List Value) (w : World) (hv : DfaV w cs D) (hm : MayD D) :
  Calls Try.prog 26 #[.agg cs.toArray] w fun e w' => e = .returned (.bool true) ∧ Below w.heap.size w w' := by
 have V0 := qH hv
 have HM := qH hm
 have HDS := qH hv.size
 obtain ⟨An, Ae, cn, ce, vf, hl, hcs, hn, hr, he⟩ := hv.form
 have HL := qH hl
 obtain ⟨n, hnn⟩ : ∃ n, n = D.next.length := ⟨_, rfl⟩
 have HN := qH hnn
 rw [hm.ends, ← hnn] at hcs
 rw [← hnn] at hn
 have HCS := qH hcs
 have HRN := qH hn
 have HR := qH hr
 have HNP := qH (show 1 ≤ n by rw [hnn]; exact hm.pos)
 have HNF := qH (show n ≤ 2000 by rw [hnn]; exact hm.few)
 obtain ⟨k, hk⟩ : ∃ k, k = clsA D.cl := ⟨_, rfl⟩
 have HK := qH hk
 have HK2 := qH (show k ≤ 256 by rw [hk]; exact clsA_le _)
 clear hv hm hl hcs hn hr he hnn hk
 go_enter Try.func26, Try.ntmps26
 go_wp2_with ((with_reducible refine atDst 1 ?_); refine wpList_box rfl 28 _ rfl cs rfl (Below.refl w.heap.size w) (Nat.le_refl _) ?_; intro w1 hk1 hb1 hs1 _; have K1 := qH hk1; have B1 := qH hb1; clear hk1 hb1 hs1; (try simp only [Act.put, qA, qB, qC]))
 have C256 := qH (show w1.cell? ⟨w.heap.size, 256, none⟩ = some (.slice An n cn) by rw [K1.out.cell 256, HCS.out]; exact dcl_n HL.out)
 refine sx_startB (B := w1.heap.size) (w0 := w1) (by kernel_rfl) (Below.refl _ _) (fun wd hwd hX => ?_)
 clear hwd
 refine sx_take (i := 0) (oi := ⟨some 7, _, _, _, _, _⟩) (v := ?_) rfl (by kernel_rfl) (by kernel_rfl) (by kernel_rfl) (fun _ _ _ h => h) rfl hX ?_ ?_; rotate_left; (intro W hW; go_simp; try with_reducible rfl); simp only [Act.put, qA, qB, qC]
 refine sx_take (i := 1) (oi := ⟨some 8, _, _, _, _, _⟩) (v := .slice An n cn) rfl (by kernel_rfl) (by kernel_rfl) (by kernel_rfl) (fun _ _ _ h => h) rfl hX (fun V hV => ld_inss (.tmp 7) rfl rfl ((hV.cell (p := ⟨w.heap.size, 256, none⟩) K1.out.lt).trans C256.out)) ?_; simp only [Act.put, qA, qB, qC]
 refine sx_take (i := 2) (oi := ⟨some 9, _, _, _, _, _⟩) (v := ?_) rfl (by kernel_rfl) (by kernel_rfl) (by kernel_rfl) (fun _ _ _ h => h) rfl hX ?_ ?_; rotate_left; (intro W hW; go_simp; try with_reducible rfl); simp only [Act.put, qA, qB, qC]
 refine sx_take (i := 3) (oi := ⟨some 10, _, _, _, _, _⟩) (v := .agg cs.toArray) rfl (by kernel_rfl) (by kernel_rfl) (by kernel_rfl) (fun _ _ _ h => h) rfl hX (ld_blk 28 _ rfl w.heap.size rfl 28 cs _ K1.out K1.out.lt Try.underlying28 rfl HDS.out) ?_; simp only [Act.put, qA, qB, qC]
 refine sx_actB (i := 4) (o := ⟨some 11, _, _, _, _, _⟩) rfl (by kernel_rfl) rfl hX (fun K hK => ?_)
 go_wp2_with fail
 refine (refClasses11_any D cs wd (V0.out.below (B1.out.trans (hX.mono B1.out.size)))).mono ?_
 rintro e w2 ⟨rfl, hb⟩
 rw [← HK.out]
 go_wp2_with fail
 refine hK _ _ (hb.mono hX.size) ?_
 clear hK K
 (try simp only [Act.put, qA, qB, qC])
 replace hX := hX.trans (hb.mono hX.size)
 clear hb
 refine sx_take (i := 5) (oi := ⟨some 3, _, _, _, _, _⟩) (v := ?_) rfl (by kernel_rfl) (by kernel_rfl) (by kernel_rfl) (fun _ _ _ h => h) rfl hX ?_ ?_; rotate_left; (intro W hW; go_simp; try with_reducible rfl); simp only [Act.put, qA, qB, qC]
 refine sx_take (i := 6) (oi := ⟨some 4, _, _, _, _, _⟩) (v := ?_) rfl (by kernel_rfl) (by kernel_rfl) (by kernel_rfl) (fun _ _ _ h => h) rfl hX ?_ ?_; rotate_left; (intro W hW; go_simp; try with_reducible rfl); simp only [Act.put, qA, qB, qC]
 refine wpAnyH_done (by kernel_rfl) ?_ _
 have B2 := qH (B1.out.trans (hX.mono B1.out.size))
 have K2 := qH (K1.out.below hX K1.out.lt)
 have c256 : w2.cell? ⟨w.heap.size, 256, none⟩ = some (.slice An n cn) := by rw [K2.out.cell 256, HCS.out]; exact dcl_n HL.out
 have c257 : w2.cell? ⟨w.heap.size, 257, none⟩ = some (.slice Ae n ce) := by rw [K2.out.cell 257, HCS.out]; exact dcl_e HL.out
 have d1 : decide ((n : Int) < 1) = false := decide_eq_false (by have := HNP.out; omega)
 have d2 : decide ((2000 : Int) < (n : Int)) = false := decide_eq_false (by have := HNF.out; omega)
 clear hX
 go_wp2_with fail
 go_loopw [5] (fun iv wl => ∃ i : Nat, i ≤ n ∧ iv = .int .i64 (i : Int) ∧ wl = w2) (fun iv _ => n - (intOf iv).toNat)
 case atStart => exact ⟨0, Nat.zero_le _, by simp, rfl⟩
 obtain ⟨i, hi, rfl, hw⟩ := hrel
 have hw2 := hw.symm
 subst hw2
 clear hw
 by_cases hin : i < n
 ·have x1 : (i : Int) < (n : Int) := Int.ofNat_lt.2 hin
  have HI := qH hin
  have HMI := qH (sub_next hin)
  have e3 := wrap_one i (lt_bigN hin HNF.out)
  have e4 := wrap_one' i (lt_bigN hin HNF.out)
  obtain ⟨r, hr⟩ : ∃ r, D.next[i]? = some r := ⟨_, List.getElem?_eq_getElem (by rw [← HN.out]; exact hin)⟩
  have HRM := qH (List.mem_of_getElem? hr)
  have HRL := qH (show r.length = k by rw [HM.out.rows r HRM.out, HK.out])
  have hri := (HR.out i r hr).below B2.out
  have HRI := qH hri
  obtain ⟨Ar, cr, hvr, _⟩ := hri
  rw [nums_length, HRL.out] at hvr
  obtain ⟨b, off, rfl, _, hcc⟩ := (HRN.out.below B2.out).at_ (by simp; exact Nat.lt_of_lt_of_le Nat.zero_lt_one HNP.out)
  have hci : w2.cell? ⟨b, off + i, none⟩ = some (.slice Ar k cr) := hcc i _ (by simp [hin, hvr])
  rw [hvr] at HRI
  clear hi hin hr hcc
  go_wp2_with fail
  go_loopw [6] (fun jv wl => ∃ j : Nat, j ≤ k ∧ jv = .int .i64 (j : Int) ∧ wl = w2) (fun jv _ => k - (intOf jv).toNat)
  case atStart => exact ⟨0, Nat.zero_le _, by simp, rfl⟩
  obtain ⟨j, hj, rfl, hw⟩ := hrel
  have hw2 := hw.symm
  subst hw2
  clear hw
  by_cases hjk : j < k
  ·have y1 : (j : Int) < (k : Int) := Int.ofNat_lt.2 hjk
   have HJ := qH hjk
   have HMJ := qH (sub_next hjk)
   have f3 := wrap_one j (lt_k256 hjk HK2.out)
   have f4 := wrap_one' j (lt_k256 hjk HK2.out)
   obtain ⟨x, hx⟩ : ∃ x, r[j]? = some x := ⟨_, List.getElem?_eq_getElem (by rw [HRL.out]; exact hjk)⟩
   have hto := HM.out.to r HRM.out x (List.mem_of_getElem? hx)
   obtain ⟨br, or, rfl, _, hcr⟩ := HRI.out.at_ (by rw [nums_length, HRL.out]; exact Nat.lt_of_le_of_lt (Nat.zero_le _) hjk)
   have hcx : w2.cell? ⟨br, or + j, none⟩ = some (.int .i64 x) := hcr j _ (by simp [nums, hx])
   have z1 : ¬ (x < 0) := by omega
   have z2 : ¬ ((n : Int) ≤ x) := by have := HN.out; omega
   clear hj hjk hx hcr hto
   go_wp2_with fail
   exact ⟨⟨j + 1, HJ.out, by congr 1, trivial⟩, by simpa [intOf] using HMJ.out⟩
  ·obtain rfl : j = k := by omega
   have y1 : ¬ ((j : Int) < (j : Int)) := Int.lt_irrefl _
   clear hj hjk
   go_wp2_with fail
   exact ⟨⟨i + 1, HI.out, by congr 1, trivial⟩, by simpa [intOf] using HMI.out⟩
 ·obtain rfl : i = n := by omega
  have x1 : ¬ ((i : Int) < (i : Int)) := Int.lt_irrefl _
  clear hi hin
  go_wp2_with fail
  go_ret
  exact ⟨rfl, B2.out⟩
theorem inf_byte : (Try.prog.info? 5).map (·.size) = some 1 := by kernel_rfl
theorem size_byte : ∀ w, (sizeOf 5).run Try.prog w = .ok 1 w := by
 intro w
 have h := inf_byte
 cases hi : Try.prog.info? 5 with
 | none => rw [hi] at h; cases h
 | some i =>
  rw [hi] at h
  have h' : i.size = 1 := by simpa using h
  simp [sizeOf, typeInfo, hi, h']
end Go.Proofs.Ytaakdebcagdfgaa
