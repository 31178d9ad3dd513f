/-
  What package cause's which answers and leaves. No statement is proved here.
-/
import Derived.Test.YtiagcbedmdfjpaaDoorCauseB
import Derived.Test.YtiagcbedmdfjpaaDoorErrIs
import Derived.Maps.OwnSet
import Derived.Maps.Keyed
import Derived.Maps.Views
namespace Go.Proofs.YtiagcbedmdfjpaaDoor
open Go.RowKit Go.Extern.Stop Go.Stop Go.Extern Go.Maps
set_option linter.unusedSimpArgs false
set_option linter.unusedVariables false

theorem lawE : Keyed Tryd.prog 26 := int_keyed Tryd.underlying26
theorem zeroInt (w : World) : (zeroValue 3).run Tryd.prog w = .ok (.int .i64 0) w := by kernel_rfl
theorem info_bool : (Tryd.prog.info? 4).map (fun i => (i.zero, i.size, i.bytes)) = some (some (.bool false), 1, 1) := by kernel_rfl
theorem info_parts' {P : Program} {e : TypeId} {z : Value} {s b : Nat} (h : (P.info? e).map (fun i => (i.zero, i.size, i.bytes)) = some (some z, s, b)) : ∃ i, P.info? e = some i ∧ i.zero = some z ∧ i.size = s ∧ i.bytes = b := by
  obtain ⟨i, hi, h2⟩ := Option.map_eq_some_iff.1 h
  simp only [Prod.mk.injEq] at h2
  exact ⟨i, hi, h2.1, h2.2.1, h2.2.2⟩

/-- The answers behind j rounds. -/
def isl (l qs : List Int) (j : Nat) : List Bool := (qs.take j).map (fun k => decide (k ∈ l)) ++ List.replicate (qs.length - j) false
theorem isl_length (l qs : List Int) (j : Nat) (h : j ≤ qs.length) : (isl l qs j).length = qs.length := by simp [isl]; omega
theorem isl_zero (l qs : List Int) : isl l qs 0 = List.replicate qs.length false := by simp [isl]
theorem isl_all (l qs : List Int) : isl l qs qs.length = qs.map (fun k => decide (k ∈ l)) := by simp [isl]
theorem isl_get (l qs : List Int) (j i : Nat) (h : i < j) (hj : j ≤ qs.length) : (isl l qs j)[i]? = some (decide (qs[i] ∈ l)) := by
  unfold isl
  rw [List.getElem?_append_left (by simp; omega)]
  simp [h, show i < qs.length by omega]
theorem isl_step (l qs : List Int) (j : Nat) (h : j < qs.length) : (isl l qs j).set j (decide (qs[j] ∈ l)) = isl l qs (j + 1) := by
  unfold isl
  rw [List.take_succ_eq_append_getElem h, List.map_append, List.set_append_right _ _ (by simp; omega)]
  simp only [List.length_map, List.length_take, Nat.min_eq_left (Nat.le_of_lt h), Nat.sub_self]
  obtain ⟨m, hm⟩ : ∃ m, qs.length - j = m + 1 := ⟨qs.length - j - 1, by omega⟩
  rw [hm, show qs.length - (j + 1) = m by omega, List.replicate_succ, List.set_cons_zero]
  simp
theorem bools_set (l : List Bool) (j : Nat) (b : Bool) : (bools l).set j (.bool b) = bools (l.set j b) := by
  simp [bools, List.map_set]
theorem bools_rep (n : Nat) : bools (List.replicate n false) = List.replicate n (.bool false) := by simp [bools]

theorem blk_cell_lt {w : World} {g : Nat} {t : TypeId} {cs : List Value} (h : Blk w g t cs) (i : Nat) (hi : i < cs.length) : ∃ u, w.cell? ⟨g, i, none⟩ = some u :=
  ⟨cs[i], by rw [h.cell i, List.getElem?_eq_getElem hi]⟩

/-- What the map holds behind j rounds: of a kind that it has, a place below j where it stands. -/
def mapAt {H : Type} (qs : List Int) (j : Nat) (D : DataW H) : Prop :=
  ∀ k, has D (.int .i64 k) = true → ∃ i, i < j ∧ qs[i]? = some k ∧ ∀ z, D.atKey (.int .i64 k) z = .lit (.int .i64 (i : Int))
theorem mapAt_zero {H : Type} (qs : List Int) : mapAt (H := H) qs 0 (.map []) := by
  intro k hk
  simp [has_eq] at hk
theorem mapAt_same {H : Type} {qs : List Int} {j : Nat} {D : DataW H} (h : mapAt qs j D) : mapAt qs (j + 1) D := by
  intro k hk
  obtain ⟨i, h1, h2, h3⟩ := h k hk
  exact ⟨i, by omega, h2, h3⟩
theorem mapAt_put {H : Type} {qs : List Int} {j : Nat} {D : DataW H} (h : mapAt qs j D) (hm : IsMap D) (hj : j < qs.length) : mapAt qs (j + 1) (D.put (.int .i64 qs[j]) (.lit (.int .i64 (j : Int)))) := by
  intro k hk
  by_cases he : k = qs[j]
  · subst he
    exact ⟨j, by omega, by simp [hj], fun z => atKey_put_same hm (by simp [WideAt.IsKeyLit]) _ z⟩
  · have hne : (Lit.int .i64 k) ≠ .int .i64 qs[j] := by simpa using he
    rw [has_put_other hne] at hk
    obtain ⟨i, h1, h2, h3⟩ := h k hk
    exact ⟨i, by omega, h2, fun z => by rw [atKey_put_other hne]; exact h3 z⟩

section
variable {H : Type} {P : Program} {w : World} {ops : Array Oper} {rest : List Oper} {o : Oper} {a : Act} {Q : Exit → Act → World → Prop}
/-- 'v, ok := m[k]', the key there. -/
theorem wpList_hit (hg : o.guard = none) (m x : Operand) (t : TypeId) (hop : o.op = Op.lookup t m x true)
    (k e : TypeId) (q : IntKind) (K : Keyed P k) (ht : P.underlying t = some (.map k e)) (he : P.underlying e = some (.int q)) (hz : (zeroValue e).run P w = .ok (.int q 0) w) (b n : Nat) (D : DataW H)
    (hm : a.eval m = .map (some b)) (hown : w.ownsMap P k (plainElem P e) b n D) (key : Value) (kl : Lit) (hx : a.eval x = key) (hkey : keyOf P k key = some kl)
    (hh : has D kl = true) (i : Int) (hi : ∀ z, D.atKey kl z = .lit (.int q i)) (hK : wpList P ops Q rest (a.put o.dst (.tuple #[.int q i, .bool true])) w) : wpList P ops Q (o :: rest) a w := by
  refine wpList_lookup_own_ok_int w hg m x t hop k e q K ht he hz b n D hm hown key kl hx hkey fun c hc _ => ?_
  rw [hi] at hc
  cases hc
  rw [hh]
  exact hK
/-- 'v, ok := m[k]', the key not there. -/
theorem wpList_miss (hg : o.guard = none) (m x : Operand) (t : TypeId) (hop : o.op = Op.lookup t m x true)
    (k e : TypeId) (q : IntKind) (K : Keyed P k) (ht : P.underlying t = some (.map k e)) (he : P.underlying e = some (.int q)) (hz : (zeroValue e).run P w = .ok (.int q 0) w) (b n : Nat) (D : DataW H)
    (hm : a.eval m = .map (some b)) (hown : w.ownsMap P k (plainElem P e) b n D) (key : Value) (kl : Lit) (hx : a.eval x = key) (hkey : keyOf P k key = some kl)
    (hh : has D kl = false) (hK : wpList P ops Q rest (a.put o.dst (.tuple #[.int q 0, .bool false])) w) : wpList P ops Q (o :: rest) a w := by
  refine wpList_lookup_own_ok_int w hg m x t hop k e q K ht he hz b n D hm hown key kl hx hkey fun c hc _ => ?_
  rw [atKey_of_not_has hh] at hc
  cases hc
  rw [hh]
  exact hK
end

set_option maxHeartbeats 4000000 in
set_option maxRecDepth 1000000 in
/-- cause.which at a chain. -/
theorem which_any {W : World} (E : Value) (l : List Int) (p : Option Int) (hch : Ch W E l p) (va : Value) (qs : List Int) (hr : Row W va (ints qs)) (hl : qs.length ≤ 1000) (hw : ∀ k ∈ qs, (Lit.int .i64 k).wf = true) :
    Calls Tryd.prog 14 #[E, va] W fun e w' => ∃ g, W.heap.size ≤ g ∧ e = .returned (.slice (some ⟨g, 0, none⟩) qs.length qs.length) ∧ Blk w' g 4 (bools (qs.map fun k => decide (k ∈ l))) ∧ Below W.heap.size W w' := by
  have HR := Lib.hid hr
  have HC := Lib.hid hch
  have HWF := Lib.hid hw
  obtain ⟨A, cap, rfl, a1, a2, a0, a3⟩ := hr
  rw [nums_length] at a1 HR ⊢
  clear a3 a0 a1 a2 hw hch
  obtain ⟨i0, hi0, hz0, hz1, hz2⟩ := info_parts' info_bool
  have hmm := @run_makeMap Tryd.prog
  go_enter Tryd.func14, Tryd.ntmps14
  go_wp2_with (first
    | (at_make; refine wpList_mk _ rfl _ _ _ rfl 4 i0 (.bool false) Tryd.underlying25 hi0 hz0 hz1 rfl qs.length _ _ _ _ rfl rfl (by omega) (by omega) (by rw [hz2]; omega) (by omega) ?_; intro w1 hb1 hB1 hs1; have HB1 := Lib.hid hb1; clear hb1)
    | go_in)
  go_loopw [17] (fun i wl => ∃ (j : Nat) (D : DataW Unit), j ≤ qs.length ∧ i = .int .i64 (j : Int) ∧ wl.ownsMap Tryd.prog 26 (plainElem Tryd.prog 3) w1.heap.size j D ∧ mapAt qs j D ∧
      Blk wl W.heap.size 4 (bools (isl l qs j)) ∧ Below W.heap.size W wl) (fun i _ => qs.length - (intOf i).toNat)
  case atStart =>
    exact ⟨0, .map [], by omega, by simp, World.ownsMap_made _ _ _ _, mapAt_zero _, by rw [isl_zero, bools_rep]; exact HB1.out.alloc _, hB1.alloc hB1.size _⟩
  case round =>
    obtain ⟨j, D, hj, rfl, hown, hat, hblk, hB⟩ := hrel
    have HO := Lib.hid hown
    have HAT := Lib.hid hat
    have HBK := Lib.hid hblk
    have HB := Lib.hid hB
    have HS1 := Lib.hid hs1
    have hwsz := hown.lt
    clear hown hat hblk hB1
    by_cases hjl : j < qs.length
    · obtain ⟨b0, off, rfl, hb0, hcell⟩ := (HR.out.below hB).at_ (by rw [nums_length]; omega)
      have hcj := hcell j _ (nums_get _ qs j hjl)
      have i1 : (j : Int) < (qs.length : Int) := by omega
      obtain ⟨k, hk⟩ : ∃ k, k = qs[j] := ⟨_, rfl⟩
      have hwk : (Lit.int .i64 k).wf = true := HWF.out k (by rw [hk]; exact List.getElem_mem hjl)
      rw [← hk] at hcj
      have HK := Lib.hid hk
      have HWK := Lib.hid hwk
      clear hcell hk hwk hs1
      by_cases hh : has D (.int .i64 k) = true
      · obtain ⟨i, hij, hik, hiz⟩ := HAT.out k hh
        have hil : i < qs.length := by omega
        have hki : qs[i] = qs[j] := by
          have := List.getElem?_eq_getElem hil
          rw [hik] at this
          rw [← HK.out]
          injection this with this
          exact this.symm
        have hci : wr.cell? ⟨W.heap.size, i, none⟩ = some (.bool (decide (k ∈ l))) := by
          rw [HBK.out.cell i]
          unfold bools
          rw [List.getElem?_map, isl_get l qs j i hij hj, hki, HK.out]
          rfl
        have hst : ∀ v, v = decide (k ∈ l) → Blk (wr.setCell ⟨W.heap.size, j, none⟩ (.bool v)) W.heap.size 4 (bools (isl l qs (j + 1))) := by
          intro v hv
          have := HBK.out.set j (.bool v)
          rw [bools_set, hv, HK.out, isl_step l qs j hjl] at this
          rw [hv, HK.out]
          exact this
        have HST := Lib.hid hst
        have HHH := Lib.hid hh
        have HIZ := Lib.hid hiz
        have i2 : (i : Int) < (qs.length : Int) := by omega
        obtain ⟨old, hof⟩ := blk_cell_lt HBK.out j (by rw [bools_length, isl_length l qs j hj]; exact hjl)
        have hfz := HBK.out.frozen j
        clear hst hh hiz hik hki hij hB
        go_wp2_with (first
          | (at_lookup; refine wpList_hit rfl _ _ 54 rfl 26 3 .i64 lawE Tryd.underlying54 Tryd.underlying3 (zeroInt _) w1.heap.size j D rfl HO.out _ _ rfl (keyOf_int_mk Tryd.underlying26 HWK.out) HHH.out (i : Int) HIZ.out ?_)
          | go_in)
        exact ⟨⟨j + 1, D, by omega, by congr 1, (HO.out.mono (Nat.le_succ j)).setCell (by show w1.heap.size ≠ W.heap.size; have := HS1.out; omega) _, mapAt_same HAT.out, HST.out _ rfl, HB.out.setCell (Nat.le_refl _) _⟩, by simp [intOf] <;> omega⟩
      · have hh' : has D (.int .i64 k) = false := by simpa using hh
        have HHH := Lib.hid hh'
        have hwj : (Lit.int .i64 (j : Int)).wf = true := by
          have h1 : IntKind.i64.min = -9223372036854775808 := rfl
          have h2 : IntKind.i64.max = 9223372036854775807 := rfl
          simp only [Lit.wf, Bool.and_eq_true, decide_eq_true_eq, h1, h2]
          omega
        have HWJ := Lib.hid hwj
        clear hh hh' hwj hB
        go_wp2_with (first
          | (at_lookup; refine wpList_miss rfl _ _ 54 rfl 26 3 .i64 lawE Tryd.underlying54 Tryd.underlying3 (zeroInt _) w1.heap.size j D rfl HO.out _ _ rfl (keyOf_int_mk Tryd.underlying26 HWK.out) HHH.out ?_)
          | (at_mapUpdate; refine wpList_mapUpdate_own _ rfl _ _ _ 54 rfl 26 3 lawE Tryd.underlying54 _ w1.heap.size j D rfl HO.out (by unfold maxLen; omega) _ _ _ rfl rfl (keyOf_int_mk Tryd.underlying26 HWK.out) (.lit (.int .i64 (j : Int))) [] (plainElem_int Tryd.underlying3 HWJ.out) ?_
             intro w2 hown2 hgrow2
             have HO2 := Lib.hid hown2
             have HBK2 := Lib.hid (HBK.out.grown hgrow2 (by have := HS1.out; simp; omega))
             have HB2 := Lib.hid (HB.out.grown hgrow2 HB.out.size (fun k hk => by cases hk; have := HS1.out; omega))
             obtain ⟨old, hof⟩ := blk_cell_lt HBK2.out j (by rw [bools_length, isl_length l qs j hj]; exact hjl)
             have hfz := HBK2.out.frozen j
             clear hown2 hgrow2)
          | (go_at_call 20; refine (is_any k E l p (HC.out.stay HB2.out)).mono ?_; rintro e w' ⟨rfl, rfl⟩)
          | go_in)
        exact ⟨⟨j + 1, _, by omega, by congr 1, HO2.out.setCell (by show w1.heap.size ≠ W.heap.size; have := HS1.out; omega) _, by have := mapAt_put HAT.out HO.out.isMap hjl; rw [← HK.out] at this; exact this, by have := HBK2.out.set j (.bool (decide (k ∈ l))); rw [bools_set] at this; conv at this => { arg 4; rw [HK.out, isl_step l qs j hjl] }; exact this, HB2.out.setCell (Nat.le_refl _) _⟩, by simp [intOf] <;> omega⟩
    · obtain rfl : j = qs.length := by omega
      have i1 : ¬ ((qs.length : Int) < (qs.length : Int)) := by omega
      go_wp2
      go_ret
      exact ⟨W.heap.size, Nat.le_refl _, rfl, by have := HBK.out; rw [isl_all] at this; exact this, HB.out⟩
end Go.Proofs.YtiagcbedmdfjpaaDoor
