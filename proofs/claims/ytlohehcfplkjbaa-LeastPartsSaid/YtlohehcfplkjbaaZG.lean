/-
  Texts of this proof, put together: LsA, FlD, LsB, LsC, ScA, LsD. No statement is proved here.
-/
import Derived.Test.YtlohehcfplkjbaaZF
import Derived.Test.YtlohehcfplkjbaaZE
import Derived.Test.YtlohehcfplkjbaaZC
namespace Go.Proofs.Ytlohehcfplkjbaa
open Go.RowKit
set_option linter.unusedSimpArgs false
set_option linter.unusedVariables false
/-! ### finding comes to an end -/
theorem least_nat {P : Nat → Prop} : ∀ N, (∃ r, r ≤ N ∧ P r) → ∃ r, r ≤ N ∧ P r ∧ ∀ i, i < r → ¬ P i
 | 0, ⟨r, hr, hp⟩ => by
  obtain rfl : r = 0 := by omega
  exact ⟨0, Nat.le_refl _, hp, fun i h => absurd h (Nat.not_lt_zero i)⟩
 | N + 1, ⟨r, hr, hp⟩ => by
  by_cases h : ∃ q, q ≤ N ∧ P q
  ·obtain ⟨q, h1, h2, h3⟩ := least_nat N h
   exact ⟨q, by omega, h2, h3⟩
  ·have e : r = N + 1 := by
    refine Nat.le_antisymm hr (Nat.lt_of_not_le fun hle => h ⟨r, hle, hp⟩)
   exact ⟨r, hr, hp, fun i hi hpi => h ⟨i, by omega, hpi⟩⟩
theorem fit_ex {α : Type} [DecidableEq α] {f : α → List α} {x0 : α} {N : Nat} (h : ∀ r, (Lq f x0 r).length ≤ N) : ∃ n, n ≤ N ∧ Fit f x0 n := by
 obtain ⟨r, h1, h2, h3⟩ := least_nat (P := fun r => (Lq f x0 r).length ≤ r) N ⟨N, Nat.le_refl _, h N⟩
 exact ⟨r, h1, Nat.le_antisymm h2 (Lq_turn fun i hi => Nat.lt_of_not_le (h3 i hi))⟩
theorem nodup_sub {α : Type} [DecidableEq α] : ∀ (L M : List α), L.Nodup → (∀ x ∈ L, x ∈ M) → L.length ≤ M.length
 | [], M, _, _ => Nat.zero_le _
 | x :: r, M, hn, hs => by
  have hx : x ∈ M := hs x (by simp)
  have hn2 := List.nodup_cons.1 hn
  have h1 := nodup_sub r (M.erase x) hn2.2 fun y hy => (List.mem_erase_of_ne (fun e => hn2.1 (by rw [← e]; exact hy))).2 (hs y (List.mem_cons_of_mem _ hy))
  rw [List.length_erase_of_mem hx] at h1
  have h2 : 0 < M.length := List.length_pos_of_mem hx
  simp only [List.length_cons]
  omega
/-! ### classes by a relation -/
noncomputable def psR (R : Nat → Nat → Prop) (N : Nat) : List (Nat → Bool) := (List.range N).map fun c b => @decide (R b c) (Classical.propDecidable _)
theorem psR_alike {R : Nat → Nat → Prop} {N a b : Nat} (ha : a < N) (hb : b < N) (hr : ∀ a, R a a) (hs : ∀ a b, R a b → R b a) (ht : ∀ a b c, R a b → R b c → R a c) : alikeS (psR R N) a b = true ↔ R a b := by
 rw [alikeS_iff]
 constructor
 ·intro h
  have h1 := h _ (List.mem_map.2 ⟨b, List.mem_range.2 hb, rfl⟩)
  have h2 : @decide (R a b) (Classical.propDecidable _) = true := by
   rw [h1]
   exact @decide_eq_true _ (Classical.propDecidable _) (hr b)
  exact @of_decide_eq_true _ (Classical.propDecidable _) h2
 ·intro h p hp
  obtain ⟨c, _, rfl⟩ := List.mem_map.1 hp
  have e : R a c = R b c := propext ⟨fun k => ht _ _ _ (hs _ _ h) k, fun k => ht _ _ _ h k⟩
  show @decide (R a c) (Classical.propDecidable _) = @decide (R b c) (Classical.propDecidable _)
  rw [Bool.eq_iff_iff, @decide_eq_true_iff _ (Classical.propDecidable _), @decide_eq_true_iff _ (Classical.propDecidable _), e]
theorem clsA_ctabN (ps : List (Nat → Bool)) (N : Nat) (hN : N = 256) : clsA (ctab ps N) = (firstJ ps N).length := by
 have hat : ∀ {j : Nat}, j < N → (ctab ps N)[j]? = some (UInt8.ofNat (clsOf ps j)) := fun {j} hj => by
  have := ctab_at ps (j := j) (by omega)
  rw [← hN] at this
  exact this
 have hlt : ∀ {j : Nat}, j < N → clsOf ps j < (firstJ ps N).length := fun hj => clsOf_ltN ps hj
 have h256 : ∀ {j : Nat}, j < N → clsOf ps j < 256 := fun {j} hj => clsOf_256 ps (by omega)
 apply Nat.le_antisymm
 ·refine clsD_up (fun c hc => ?_) 256
  obtain ⟨j, hj, rfl⟩ := List.getElem_of_mem hc
  have hj' : j < N := by rw [ctab_length] at hj; omega
  have h1 := hat hj'
  rw [List.getElem?_eq_getElem hj] at h1
  injection h1 with h1
  rw [h1, ofNat_toNat (h256 hj')]
  exact hlt hj'
 ·have hp : 0 < (firstJ ps N).length := Nat.lt_of_le_of_lt (Nat.zero_le _) (hlt (j := 0) (by omega))
  obtain ⟨c, hc⟩ : ∃ c, (firstJ ps N)[(firstJ ps N).length - 1]? = some c := ⟨_, List.getElem?_eq_getElem (by omega)⟩
  have hcN := firstJ_lt ps N c (List.mem_of_getElem? hc)
  obtain ⟨hk, hce⟩ := List.getElem?_eq_some_iff.1 hc
  have h1 : clsOf ps c = (firstJ ps N).length - 1 := (clsOf_is ps N c hcN _ hk).2 (by rw [hce]; exact alikeS_refl _ _)
  have h3 := clsA_lt (by rw [ctab_length]) (hat hcN)
  rw [ofNat_toNat (h256 hcN), h1] at h3
  omega
/-! ### languages -/
abbrev Lang := List UInt8 → Bool
noncomputable instance langDec : DecidableEq Lang := fun _ _ => Classical.propDecidable _
def res (l : Lang) (b : Nat) : Lang := fun w => l (UInt8.ofNat b :: w)
def resW (l : Lang) (u : List UInt8) : Lang := fun w => l (u ++ w)
theorem res_resW (l : Lang) (u : List UInt8) (b : Nat) : res (resW l u) b = resW l (u ++ [UInt8.ofNat b]) := by
 funext w
 unfold res resW
 rw [List.append_assoc]
 rfl
def alL (L : Lang) (b c : Nat) : Prop := ∀ u w, L (u ++ UInt8.ofNat b :: w) = L (u ++ UInt8.ofNat c :: w)
noncomputable def psL (L : Lang) : List (Nat → Bool) := psR (alL L) 256
theorem psL_alike {L : Lang} {a b : Nat} (ha : a < 256) (hb : b < 256) : alikeS (psL L) a b = true ↔ alL L a b :=
 psR_alike ha hb (fun _ _ _ => rfl) (fun _ _ h u w => (h u w).symm) (fun _ _ _ h k u w => (h u w).trans (k u w))
noncomputable def fbL (L : Lang) : List Nat := firstJ (psL L) 256
noncomputable def sucL (L : Lang) (l : Lang) : List Lang := (fbL L).map fun b => res l b
theorem sucL_len (L l : Lang) : (sucL L l).length = (fbL L).length := by simp [sucL]
noncomputable def QL (L : Lang) (r : Nat) : List Lang := Lq (sucL L) L r
def FitL (L : Lang) (n : Nat) : Prop := Fit (sucL L) L n
theorem QL_zero (L : Lang) (n : Nat) : (QL L n)[0]? = some L := Lq_zero n
theorem QL_nodup (L : Lang) (n : Nat) : (QL L n).Nodup := Lq_nodup n
theorem QL_res (L : Lang) (r : Nat) : ∀ l ∈ QL L r, ∃ u, l = resW L u :=
 Lq_all (p := fun l => ∃ u, l = resW L u) ⟨[], rfl⟩ (fun l hl m hm => by
  obtain ⟨u, rfl⟩ := hl
  obtain ⟨b, _, rfl⟩ := List.mem_map.1 hm
  exact ⟨u ++ [UInt8.ofNat b], res_resW L u b⟩) r
noncomputable def canN (L : Lang) (n : Nat) : Dm := ⟨ctab (psL L) 256, rowsI (sucL L) (QL L n) n, endsI (fun l => l []) (QL L n) n⟩
noncomputable def canD (L : Lang) : Dm := by
 classical exact if h : ∃ n, FitL L n then canN L h.choose else noDm
theorem canD_is {L : Lang} {n : Nat} (h : FitL L n) : canD L = canN L n := by
 have he : ∃ n, FitL L n := ⟨n, h⟩
 unfold canD
 rw [dif_pos he]
 rw [fit_one he.choose_spec h]
theorem clL_first (L : Lang) {b : Nat} (hb : b < 256) : ∃ c, (fbL L)[clsOf (psL L) b]? = some c ∧ c < 256 ∧ alL L c b := by
 have h := clsOf_lt (psL L) hb
 have h1 := (clsOf_is (psL L) 256 b hb (clsOf (psL L) b) h).1 rfl
 have hc := firstJ_lt (psL L) 256 _ (List.getElem_mem h)
 exact ⟨_, List.getElem?_eq_getElem h, hc, (psL_alike hc hb).1 h1⟩
theorem res_alike {L : Lang} {b c : Nat} (h : alL L b c) (u : List UInt8) : res (resW L u) b = res (resW L u) c := by
 funext w
 exact h u w
theorem sucL_cls {L l : Lang} {u : List UInt8} (hl : l = resW L u) {b : Nat} (hb : b < 256) : (sucL L l)[clsOf (psL L) b]? = some (res l b) := by
 obtain ⟨c, h1, _, h2⟩ := clL_first L hb
 unfold sucL
 rw [List.getElem?_map, h1, Option.map_some, hl, res_alike h2]
section
variable {L : Lang} {n : Nat}
theorem canN_len (h : FitL L n) : (canN L n).next.length = n := rowsI_len (Nat.le_of_eq (show (QL L n).length = n from h).symm)
theorem canN_ends (h : FitL L n) : (canN L n).ends.length = n := endsI_len (Nat.le_of_eq (show (QL L n).length = n from h).symm)
theorem canN_clE (L : Lang) (n : Nat) : (canN L n).cl = ctab (psL L) 256 := rfl
theorem canN_cls (L : Lang) (n : Nat) : clsA (canN L n).cl = (fbL L).length := by
 rw [canN_clE]
 exact clsA_ctabN (psL L) 256 rfl
theorem canN_at {i : Nat} {l : Lang} (hl : (QL L n)[i]? = some l) (hi : i < n) : (canN L n).next[i]? = some (rowI (QL L n) (sucL L l)) := by
 show (((QL L n).take n).map fun x => rowI (QL L n) (sucL L x))[i]? = _
 rw [List.getElem?_map, List.getElem?_take_of_lt hi, hl]
 rfl
theorem canN_end {i : Nat} {l : Lang} (hl : (QL L n)[i]? = some l) (hi : i < n) : (canN L n).ends[i]? = some (l []) := by
 show (((QL L n).take n).map fun l : Lang => l [])[i]? = _
 rw [List.getElem?_map, List.getElem?_take_of_lt hi, hl]
 rfl
theorem canN_key {r : List Int} (hr : r ∈ (canN L n).next) : ∃ l ∈ QL L n, r = rowI (QL L n) (sucL L l) := by
 obtain ⟨l, hl, he⟩ := List.mem_map.1 (show r ∈ ((QL L n).take n).map (fun x => rowI (QL L n) (sucL L x)) from hr)
 exact ⟨l, List.mem_of_mem_take hl, he.symm⟩
theorem fitL_pos (h : FitL L n) : 1 ≤ n := by
 have h1 := Lq_pos (f := sucL L) (x0 := L) n
 have h2 : (Lq (sucL L) L n).length = n := h
 omega
theorem canN_may (h : FitL L n) (hn : n ≤ 2000) : MayD (canN L n) := by
 have hl := canN_len h
 refine ⟨by rw [hl]; exact fitL_pos h, by rw [hl]; exact hn, by rw [hl]; exact canN_ends h, fun r hr => ?_, fun r hr x hx => ?_⟩
 ·obtain ⟨l, _, he⟩ := canN_key hr
  rw [he, rowI_len, sucL_len, canN_cls]
 ·obtain ⟨l, hm, he⟩ := canN_key hr
  rw [he] at hx
  obtain ⟨y, hy, he2⟩ := List.mem_map.1 (show x ∈ (sucL L l).map (fun y => (ixOf (QL L n) y : Int)) from hx)
  have h1 := idx_lt (fit_closed (f := sucL L) (x0 := L) h hm y hy)
  rw [hl, ← he2]
  have h2 : (QL L n).length = n := h
  unfold QL at h2 ⊢
  omega
theorem stD_canN (h : FitL L n) {i : Nat} {l : Lang} (hl : (QL L n)[i]? = some l) (b : UInt8) :
  (QL L n)[stD (canN L n) i b]? = some (res l b.toNat) := by
 have hi : i < n := by have h1 := (List.getElem?_eq_some_iff.1 hl).1; rw [show (QL L n).length = n from h] at h1; exact h1
 have hb := b.toNat_lt
 obtain ⟨u, hu⟩ := QL_res L n l (List.mem_of_getElem? hl)
 have hs := sucL_cls hu hb
 have hm : res l b.toNat ∈ QL L n := fit_closed (f := sucL L) (x0 := L) h (List.mem_of_getElem? hl) _ (List.mem_of_getElem? hs)
 have hc : (ctab (psL L) 256).getD b.toNat 0 = UInt8.ofNat (clsOf (psL L) b.toNat) := by
  rw [List.getD_eq_getElem?_getD, ctab_at (psL L) hb]
  rfl
 have e : stD (canN L n) i b = ixOf (QL L n) (res l b.toNat) := by
  unfold stD
  rw [canN_at hl hi, canN_clE, Option.getD_some, hc, ofNat_toNat (clsOf_256 _ hb), List.getD_eq_getElem?_getD]
  have h2 : (rowI (QL L n) (sucL L l))[clsOf (psL L) b.toNat]? = some ((ixOf (QL L n) (res l b.toNat) : Nat) : Int) := by
   unfold rowI
   rw [List.getElem?_map, hs, Option.map_some]
  rw [h2]
  rfl
 rw [e]
 exact idx_get hm
theorem toD_canN (h : FitL L n) : ∀ (w : List UInt8) (i : Nat) (l : Lang), (QL L n)[i]? = some l → (QL L n)[toD (canN L n) i w]? = some (resW l w)
 | [], i, l, hl => hl
 | b :: w, i, l, hl => by
  have h1 := toD_canN h w _ _ (stD_canN h hl b)
  have e : resW (res l b.toNat) w = resW l (b :: w) := by
   funext v
   unfold resW res
   rw [UInt8.ofNat_toNat]
   rfl
  rw [e] at h1
  exact h1
def accD (D : Dm) (s : Nat) : Lang := fun w => D.ends.getD (toD D s w) false
theorem accD_canN (h : FitL L n) {i : Nat} {l : Lang} (hl : (QL L n)[i]? = some l) : accD (canN L n) i = l := by
 funext w
 have h1 := toD_canN h w i l hl
 have hi : toD (canN L n) i w < n := by have h2 := (List.getElem?_eq_some_iff.1 h1).1; rw [show (QL L n).length = n from h] at h2; exact h2
 unfold accD
 rw [List.getD_eq_getElem?_getD, canN_end h1 hi]
 show l (w ++ []) = l w
 rw [List.append_nil]
end
/-! ### the least machine of a machine -/
theorem toD_app (D : Dm) : ∀ (u v : List UInt8) (s : Nat), toD D s (u ++ v) = toD D (toD D s u) v
 | [], _, _ => rfl
 | b :: u, v, s => toD_app D u v (stD D s b)
theorem resW_acc (D : Dm) (s : Nat) (u : List UInt8) : resW (accD D s) u = accD D (toD D s u) := by
 funext w
 unfold resW accD
 rw [toD_app]
noncomputable def lstD (D : Dm) : Dm := canD (accD D 0)
theorem toD_ltA {D : Dm} (h : MayD D) (hl : D.cl.length = 256) : ∀ (w : List UInt8) (s : Nat), s < D.next.length → toD D s w < D.next.length
 | [], _, hs => hs
 | b :: w, s, hs => by
  refine toD_ltA h hl w _ ?_
  obtain ⟨r, hr⟩ : ∃ r, D.next[s]? = some r := ⟨_, List.getElem?_eq_getElem hs⟩
  obtain ⟨c, hc⟩ : ∃ c, D.cl[b.toNat]? = some c := ⟨_, List.getElem?_eq_getElem (by rw [hl]; exact b.toNat_lt)⟩
  have hm := List.mem_of_getElem? hr
  have hk : c.toNat < r.length := by rw [h.rows r hm]; exact clsA_lt hl hc
  obtain ⟨x, hx⟩ : ∃ x, r[c.toNat]? = some x := ⟨_, List.getElem?_eq_getElem hk⟩
  have h2 := h.to r hm x (List.mem_of_getElem? hx)
  have e : stD D s b = x.toNat := by
   unfold stD
   rw [hr, List.getD_eq_getElem?_getD, List.getD_eq_getElem?_getD, hc]
   show (r[c.toNat]?.getD 0).toNat = _
   rw [hx]
   rfl
  rw [e]
  omega
theorem lst_fit {D : Dm} (h : MayD D) (hl : D.cl.length = 256) : ∃ n, n ≤ D.next.length ∧ FitL (accD D 0) n := by
 refine fit_ex fun r => ?_
 have h1 := nodup_sub (Lq (sucL (accD D 0)) (accD D 0) r) ((List.range D.next.length).map fun i => accD D i) (Lq_nodup r) fun l hm => by
  obtain ⟨u, hu⟩ := QL_res (accD D 0) r l hm
  rw [hu, resW_acc]
  exact List.mem_map.2 ⟨_, List.mem_range.2 (toD_ltA h hl u 0 (by have := h.pos; omega)), rfl⟩
 rw [List.length_map, List.length_range] at h1
 exact h1
theorem lst_is {D : Dm} (h : MayD D) (hl : D.cl.length = 256) : ∃ n, n ≤ D.next.length ∧ FitL (accD D 0) n ∧ lstD D = canN (accD D 0) n := by
 obtain ⟨n, h1, h2⟩ := lst_fit h hl
 exact ⟨n, h1, h2, canD_is h2⟩
theorem lst_may {D : Dm} (h : MayD D) (hl : D.cl.length = 256) : MayD (lstD D) := by
 obtain ⟨n, h1, h2, h3⟩ := lst_is h hl
 rw [h3]
 exact canN_may h2 (Nat.le_trans h1 h.few)
theorem lst_acc {D : Dm} (h : MayD D) (hl : D.cl.length = 256) : accD (lstD D) 0 = accD D 0 := by
 obtain ⟨n, _, h2, h3⟩ := lst_is h hl
 rw [h3]
 exact accD_canN h2 (QL_zero _ n)
theorem lst_twice {D : Dm} (h : MayD D) (hl : D.cl.length = 256) : lstD (lstD D) = lstD D := by
 show canD (accD (lstD D) 0) = canD (accD D 0)
 rw [lst_acc h hl]
theorem lst_len {D : Dm} (h : MayD D) (hl : D.cl.length = 256) : (lstD D).next.length ≤ D.next.length := by
 obtain ⟨n, h1, h2, h3⟩ := lst_is h hl
 rw [h3, canN_len h2]
 exact h1
theorem lst_same {D E : Dm} (h : MayD D) (hl : D.cl.length = 256) (h' : MayD E) (hl' : E.cl.length = 256) : lstD D = lstD E ↔ accD D 0 = accD E 0 := by
 constructor
 ·intro e
  rw [← lst_acc h hl, e, lst_acc h' hl']
 ·intro e
  show canD (accD D 0) = canD (accD E 0)
  rw [e]
theorem lst_cls {D : Dm} (h : MayD D) (hl : D.cl.length = 256) : clsA (lstD D).cl ≤ clsA D.cl := by
 obtain ⟨n, _, _, h3⟩ := lst_is h hl
 rw [h3, canN_cls]
 have hcl : ∀ b c : Nat, b < 256 → c < 256 → D.cl.getD b 0 = D.cl.getD c 0 → alL (accD D 0) b c := fun b c hb hc he u w => by
  unfold accD
  rw [toD_app, toD_app]
  have e : ∀ s, stD D s (UInt8.ofNat b) = stD D s (UInt8.ofNat c) := fun s => by
   unfold stD
   rw [ofNat_toNat hb, ofNat_toNat hc, he]
  show D.ends.getD (toD D (stD D _ (UInt8.ofNat b)) w) false = D.ends.getD (toD D (stD D _ (UInt8.ofNat c)) w) false
  rw [e]
 have h1 := nodup_sub ((fbL (accD D 0)).map fun b => (D.cl.getD b 0).toNat) (List.range (clsA D.cl)) ?_ ?_
 ·rw [List.length_map, List.length_range] at h1
  exact h1
 ·rw [List.Nodup, List.pairwise_map]
  have hp := (firstJ_facts (psL (accD D 0)) 256).1
  refine (List.Pairwise.and_mem.1 hp).imp fun {a b} hab he => ?_
  have ha := firstJ_lt _ _ a hab.1
  have hb := firstJ_lt _ _ b hab.2.1
  have h2 := (psL_alike ha hb).2 (hcl a b ha hb (UInt8.toNat_inj.1 he))
  rw [hab.2.2.2] at h2
  cases h2
 ·intro x hx
  obtain ⟨b, hb, rfl⟩ := List.mem_map.1 hx
  have hb2 := firstJ_lt _ _ b hb
  obtain ⟨c, hc⟩ : ∃ c, D.cl[b]? = some c := ⟨_, List.getElem?_eq_getElem (by rw [hl]; exact hb2)⟩
  rw [List.mem_range, List.getD_eq_getElem?_getD, hc]
  exact clsA_lt hl hc
def flipD (D : Dm) : Dm := ⟨D.cl, D.next, D.ends.map fun b => !b⟩
theorem flipD_may {D : Dm} (h : MayD D) : MayD (flipD D) := ⟨h.pos, h.few, by
 show (D.ends.map _).length = D.next.length
 rw [List.length_map]
 exact h.ends, h.rows, h.to⟩
/-! ### finding, under another name for each thing -/
section
variable {α β : Type} [DecidableEq α] [DecidableEq β] {φ : α → β}
theorem extL_map (hφ : ∀ a b, φ a = φ b → a = b) : ∀ (xs L : List α), extL (L.map φ) (xs.map φ) = (extL L xs).map φ
 | [], _ => rfl
 | x :: xs, L => by
  have hm : φ x ∈ L.map φ ↔ x ∈ L := by
   rw [List.mem_map]
   exact ⟨fun ⟨y, hy, he⟩ => by rw [← hφ _ _ he]; exact hy, fun h => ⟨x, h, rfl⟩⟩
  simp only [List.map_cons, extL]
  by_cases h : x ∈ L
  ·rw [if_pos h, if_pos (hm.2 h)]
   exact extL_map hφ xs L
  ·rw [if_neg h, if_neg (fun k => h (hm.1 k)), ← extL_map hφ xs (L ++ [x]), List.map_append]
   rfl
theorem Lq_map (hφ : ∀ a b, φ a = φ b → a = b) {f : α → List α} {g : β → List β} {x0 : α} (hg : ∀ x, g (φ x) = (f x).map φ) : ∀ r, Lq g (φ x0) r = (Lq f x0 r).map φ
 | 0 => rfl
 | r + 1 => by
  have ih := Lq_map hφ (x0 := x0) hg r
  rcases Nat.lt_or_ge r (Lq f x0 r).length with h | h
  ·have e1 := List.getElem?_eq_getElem h
   have e2 : (Lq g (φ x0) r)[r]? = some (φ (Lq f x0 r)[r]) := by rw [ih, List.getElem?_map, e1]; rfl
   rw [Lq_step e1, Lq_step e2, ih, hg, extL_map hφ]
  ·rw [Lq_stop h, Lq_stop (by rw [ih, List.length_map]; exact h), ih]
theorem ixOf_map (hφ : ∀ a b, φ a = φ b → a = b) (L : List α) (x : α) : ixOf (L.map φ) (φ x) = ixOf L x := by
 unfold ixOf
 induction L with
 | nil => rfl
 | cons y r ih =>
  rw [List.map_cons, List.idxOf_cons, List.idxOf_cons, ih]
  by_cases h : y = x
  ·rw [h]; simp
  ·have h2 : φ y ≠ φ x := fun e => h (hφ _ _ e)
   have e1 : (y == x) = false := by simpa using h
   have e2 : (φ y == φ x) = false := by simpa using h2
   rw [e1, e2]
theorem rowI_map (hφ : ∀ a b, φ a = φ b → a = b) (L xs : List α) : rowI (L.map φ) (xs.map φ) = rowI L xs := by
 unfold rowI
 rw [List.map_map]
 refine List.map_congr_left fun x _ => ?_
 show ((ixOf (L.map φ) (φ x) : Nat) : Int) = _
 rw [ixOf_map hφ]
theorem rowsI_map (hφ : ∀ a b, φ a = φ b → a = b) {f : α → List α} {g : β → List β} (hg : ∀ x, g (φ x) = (f x).map φ) (L : List α) (m : Nat) : rowsI g (L.map φ) m = rowsI f L m := by
 unfold rowsI
 rw [← List.map_take, List.map_map]
 refine List.map_congr_left fun x _ => ?_
 show rowI (L.map φ) (g (φ x)) = _
 rw [hg, rowI_map hφ]
omit [DecidableEq α] [DecidableEq β] in
theorem endsI_map {p : β → Bool} (L : List α) (m : Nat) : endsI p (L.map φ) m = endsI (fun x => p (φ x)) L m := by
 unfold endsI
 rw [← List.map_take, List.map_map]
 rfl
end
/-! ### flipped -/
def notL (l : Lang) : Lang := fun w => !l w
theorem notL_inj (a b : Lang) (h : notL a = notL b) : a = b := by
 funext w
 have := congrFun h w
 unfold notL at this
 simpa using this
theorem alL_not (L : Lang) : alL (notL L) = alL L := by
 funext b c
 apply propext
 unfold alL notL
 constructor
 ·intro h u w
  simpa using h u w
 ·intro h u w
  rw [h u w]
theorem psL_not (L : Lang) : psL (notL L) = psL L := by unfold psL; rw [alL_not]
theorem sucL_not (L l : Lang) : sucL (notL L) (notL l) = (sucL L l).map notL := by
 unfold sucL fbL
 rw [psL_not, List.map_map]
 rfl
theorem QL_not (L : Lang) (r : Nat) : QL (notL L) r = (QL L r).map notL := Lq_map notL_inj (sucL_not L) r
theorem FitL_not {L : Lang} {n : Nat} (h : FitL L n) : FitL (notL L) n := by
 show (QL (notL L) n).length = n
 rw [QL_not, List.length_map]
 exact h
theorem canN_not (L : Lang) (n : Nat) : canN (notL L) n = flipD (canN L n) := by
 unfold canN flipD
 rw [psL_not, QL_not, rowsI_map notL_inj (sucL_not L), endsI_map]
 have e : (endsI (fun l : Lang => l []) (QL L n) n).map (fun b => !b) = endsI (fun x => (fun l : Lang => l []) (notL x)) (QL L n) n := by
  unfold endsI
  rw [List.map_map]
  rfl
 show Dm.mk _ _ _ = Dm.mk _ _ _
 rw [e]
theorem toD_flip (D : Dm) : ∀ (w : List UInt8) (s : Nat), toD (flipD D) s w = toD D s w
 | [], _ => rfl
 | b :: w, s => toD_flip D w (stD D s b)
theorem accD_flip {D : Dm} (h : MayD D) (hl : D.cl.length = 256) {s : Nat} (hs : s < D.next.length) : accD (flipD D) s = notL (accD D s) := by
 funext w
 have h1 := toD_ltA h hl w s hs
 rw [← h.ends] at h1
 unfold accD notL
 rw [toD_flip]
 show (D.ends.map fun b => !b).getD (toD D s w) false = !(D.ends.getD (toD D s w) false)
 rw [List.getD_eq_getElem?_getD, List.getD_eq_getElem?_getD, List.getElem?_map, List.getElem?_eq_getElem h1]
 rfl
theorem lst_flip {D : Dm} (h : MayD D) (hl : D.cl.length = 256) : lstD (flipD D) = flipD (lstD D) := by
 obtain ⟨n, _, h2, h3⟩ := lst_is h hl
 have e := accD_flip h hl (s := 0) (by have := h.pos; omega)
 show canD (accD (flipD D) 0) = _
 rw [h3, e, canD_is (FitL_not h2), canN_not]
/-! ### numbered otherwise -/
structure Turn (D E : Dm) (σ : Nat → Nat) : Prop where
 cl : E.cl = D.cl
 zero : σ 0 = 0
 next : ∀ i r, D.next[i]? = some r → ∃ r', E.next[σ i]? = some r' ∧ r' = r.map fun x => ((σ x.toNat : Nat) : Int)
 ends : ∀ i b, D.ends[i]? = some b → E.ends[σ i]? = some b
theorem stD_turn {D E : Dm} {σ : Nat → Nat} (h : Turn D E σ) (hm : MayD D) (hl : D.cl.length = 256) {s : Nat} (hs : s < D.next.length) (b : UInt8) : stD E (σ s) b = σ (stD D s b) := by
 obtain ⟨r, hr⟩ : ∃ r, D.next[s]? = some r := ⟨_, List.getElem?_eq_getElem hs⟩
 obtain ⟨r', hr', he⟩ := h.next s r hr
 obtain ⟨c, hc⟩ : ∃ c, D.cl[b.toNat]? = some c := ⟨_, List.getElem?_eq_getElem (by rw [hl]; exact b.toNat_lt)⟩
 have hk : c.toNat < r.length := by rw [hm.rows r (List.mem_of_getElem? hr)]; exact clsA_lt hl hc
 obtain ⟨x, hx⟩ : ∃ x, r[c.toNat]? = some x := ⟨_, List.getElem?_eq_getElem hk⟩
 unfold stD
 rw [h.cl, hr', hr, Option.getD_some, Option.getD_some]
 rw [List.getD_eq_getElem?_getD (l := D.cl), hc, Option.getD_some, he, List.getD_eq_getElem?_getD, List.getD_eq_getElem?_getD, List.getElem?_map, hx]
 rfl
theorem toD_turn {D E : Dm} {σ : Nat → Nat} (h : Turn D E σ) (hm : MayD D) (hl : D.cl.length = 256) : ∀ (w : List UInt8) (s : Nat), s < D.next.length → toD E (σ s) w = σ (toD D s w)
 | [], _, _ => rfl
 | b :: w, s, hs => by
  show toD E (stD E (σ s) b) w = σ (toD D (stD D s b) w)
  rw [stD_turn h hm hl hs b]
  exact toD_turn h hm hl w _ (toD_ltA hm hl [b] s hs)
theorem lst_turn {D E : Dm} {σ : Nat → Nat} (h : Turn D E σ) (hm : MayD D) (hl : D.cl.length = 256) : lstD E = lstD D := by
 have e : accD E 0 = accD D 0 := by
  funext w
  have h0 : 0 < D.next.length := by have := hm.pos; omega
  have h1 := toD_turn h hm hl w 0 h0
  rw [h.zero] at h1
  have h2 := toD_ltA hm hl w 0 h0
  rw [← hm.ends] at h2
  unfold accD
  rw [h1, List.getD_eq_getElem?_getD, List.getD_eq_getElem?_getD, h.ends _ _ (List.getElem?_eq_getElem h2), List.getElem?_eq_getElem h2]
 show canD (accD E 0) = canD (accD D 0)
 rw [e]
/-! ### parts -/
noncomputable def parD (D : Dm) (i : Nat) : Nat := ((List.range (i + 1)).find? fun j => @decide (accD D j = accD D i) (Classical.propDecidable _)).getD i
theorem parD_spec (D : Dm) (i : Nat) : accD D (parD D i) = accD D i ∧ parD D i ≤ i ∧ ∀ j, j < parD D i → accD D j ≠ accD D i := by
 unfold parD
 cases h : (List.range (i + 1)).find? fun j => @decide (accD D j = accD D i) (Classical.propDecidable _) with
 | none =>
  rw [List.find?_eq_none] at h
  have := h i (List.mem_range.2 (Nat.lt_succ_self i))
  simp at this
 | some k =>
  have h1 := List.find?_some h
  have h2 : accD D k = accD D i := by simpa using h1
  have h3 := List.mem_range.1 (List.mem_of_find?_eq_some h)
  refine ⟨h2, by show k ≤ i; omega, fun j hj he => ?_⟩
  have hj : j < k := hj
  obtain ⟨_, l1, l2, hab, hno⟩ := List.find?_eq_some_iff_append.1 h
  have hlen : l1.length = k := by
   have h4 : (List.range (i + 1))[l1.length]? = some k := by rw [hab]; simp
   rw [List.getElem?_range (by
    have := congrArg List.length hab
    simp at this
    omega)] at h4
   simpa using h4
  have hj2 : j ∈ l1 := by
   have h4 : (List.range (i + 1))[j]? = some j := List.getElem?_range (by omega)
   rw [hab, List.getElem?_append_left (by omega)] at h4
   exact List.mem_of_getElem? h4
  have := hno j hj2
  simp [he] at this
theorem parD_same {D : Dm} {i j : Nat} (h : accD D i = accD D j) : parD D i = parD D j := by
 obtain ⟨a1, a2, a3⟩ := parD_spec D i
 obtain ⟨b1, b2, b3⟩ := parD_spec D j
 rcases Nat.lt_trichotomy (parD D i) (parD D j) with k | k | k
 ·exact absurd (a1.trans h) (b3 _ k)
 ·exact k
 ·exact absurd (b1.trans h.symm) (a3 _ k)
theorem parD_iff {D : Dm} {i j : Nat} : parD D i = parD D j ↔ accD D i = accD D j := by
 constructor
 ·intro h
  rw [← (parD_spec D i).1, h, (parD_spec D j).1]
 ·exact parD_same
theorem parD_twice (D : Dm) (i : Nat) : parD D (parD D i) = parD D i := parD_same (parD_spec D i).1
theorem parD_step {D : Dm} {i j : Nat} (h : accD D i = accD D j) (b : UInt8) : accD D (stD D i b) = accD D (stD D j b) := by
 have h1 := congrArg (fun l => resW l [b]) h
 simp only [resW_acc] at h1
 exact h1
theorem parD_end {D : Dm} {i j : Nat} (h : accD D i = accD D j) : D.ends.getD i false = D.ends.getD j false := congrFun h []
def stC (D : Dm) (s k : Nat) : Nat := ((D.next[s]?.getD []).getD k 0).toNat
def toC (D : Dm) : Nat → List Nat → Nat
 | s, [] => s
 | s, k :: v => toC D (stC D s k) v
def accC (D : Dm) (s : Nat) (v : List Nat) : Bool := D.ends.getD (toC D s v) false
theorem stC_lt {D : Dm} (h : MayD D) {s : Nat} (hs : s < D.next.length) (k : Nat) (hk : k < clsA D.cl) : stC D s k < D.next.length := by
 obtain ⟨r, hr⟩ : ∃ r, D.next[s]? = some r := ⟨_, List.getElem?_eq_getElem hs⟩
 have hm := List.mem_of_getElem? hr
 obtain ⟨x, hx⟩ : ∃ x, r[k]? = some x := ⟨_, List.getElem?_eq_getElem (by rw [h.rows r hm]; exact hk)⟩
 have h2 := h.to r hm x (List.mem_of_getElem? hx)
 unfold stC
 rw [hr, Option.getD_some, List.getD_eq_getElem?_getD, hx, Option.getD_some]
 omega
def eqC (D : Dm) (r i j : Nat) : Prop := ∀ v : List Nat, v.length ≤ r → (∀ k ∈ v, k < clsA D.cl) → accC D i v = accC D j v
section
variable {D : Dm} {r i j : Nat}
theorem eqC.refl (D : Dm) (r i : Nat) : eqC D r i i := fun _ _ _ => rfl
theorem eqC.symm (h : eqC D r i j) : eqC D r j i := fun v hv hk => (h v hv hk).symm
theorem eqC.trans {k : Nat} (h : eqC D r i j) (h2 : eqC D r j k) : eqC D r i k := fun v hv hk => (h v hv hk).trans (h2 v hv hk)
theorem eqC.less {q : Nat} (h : eqC D r i j) (hq : q ≤ r) : eqC D q i j := fun v hv hk => h v (Nat.le_trans hv hq) hk
theorem eqC.step (h : eqC D (r + 1) i j) {k : Nat} (hk : k < clsA D.cl) : eqC D r (stC D i k) (stC D j k) := fun v hv hks =>
 h (k :: v) (by simp only [List.length_cons]; omega) fun q hq => by
  rcases List.mem_cons.1 hq with rfl | hq
  ·exact hk
  ·exact hks q hq
theorem eqC_succ : eqC D (r + 1) i j ↔ D.ends.getD i false = D.ends.getD j false ∧ ∀ k, k < clsA D.cl → eqC D r (stC D i k) (stC D j k) := by
 constructor
 ·intro h
  exact ⟨h [] (Nat.zero_le _) fun k hk => (by cases hk), fun k hk => h.step hk⟩
 ·rintro ⟨h1, h2⟩ v hv hks
  cases v with
  | nil => exact h1
  | cons k v => exact h2 k (hks k (by simp)) v (by simp only [List.length_cons] at hv; omega) fun q hq => hks q (List.mem_cons_of_mem _ hq)
theorem eqC_stable (h : MayD D) (hst : ∀ i j, i < D.next.length → j < D.next.length → eqC D r i j → eqC D (r + 1) i j) : ∀ m i j, i < D.next.length → j < D.next.length → eqC D r i j → eqC D m i j
 | 0, i, j, hi, hj, he => he.less (Nat.zero_le _)
 | m + 1, i, j, hi, hj, he => by
  have h1 := hst i j hi hj he
  exact eqC_succ.2 ⟨(eqC_succ.1 h1).1, fun k hk => eqC_stable h hst m _ _ (stC_lt h hi k hk) (stC_lt h hj k hk) (h1.step hk)⟩
end
noncomputable def repsC (D : Dm) (r : Nat) : List Nat := (List.range D.next.length).filter fun i => @decide (∀ j, j < i → ¬ eqC D r i j) (Classical.propDecidable _)
theorem repsC_mem {D : Dm} {r i : Nat} : i ∈ repsC D r ↔ i < D.next.length ∧ ∀ j, j < i → ¬ eqC D r i j := by
 unfold repsC
 rw [List.mem_filter, List.mem_range]
 exact and_congr Iff.rfl (@decide_eq_true_iff _ (Classical.propDecidable _))
theorem repsC_nodup (D : Dm) (r : Nat) : (repsC D r).Nodup := List.nodup_range.filter _
theorem repsC_le (D : Dm) (r : Nat) : (repsC D r).length ≤ D.next.length := by
 have := List.length_filter_le (fun i => @decide (∀ j, j < i → ¬ eqC D r i j) (Classical.propDecidable _)) (List.range D.next.length)
 rwa [List.length_range] at this
theorem rep_ex (D : Dm) (r i : Nat) : ∃ k, k ≤ i ∧ eqC D r i k ∧ ∀ j, j < k → ¬ eqC D r i j := least_nat (P := fun k => eqC D r i k) i ⟨i, Nat.le_refl _, eqC.refl D r i⟩
theorem repsC_more {D : Dm} {r i j : Nat} (hi : i < D.next.length) (hj : j < D.next.length) (h : eqC D r i j) (hn : ¬ eqC D (r + 1) i j) : (repsC D r).length < (repsC D (r + 1)).length := by
 have sub : ∀ x ∈ repsC D r, x ∈ repsC D (r + 1) := fun x hx => by
  obtain ⟨h1, h2⟩ := repsC_mem.1 hx
  exact repsC_mem.2 ⟨h1, fun q hq he => h2 q hq (he.less (Nat.le_succ r))⟩
 have key : ∃ x, x ∈ repsC D (r + 1) ∧ x ∉ repsC D r := by
  obtain ⟨a, a1, a2, a3⟩ := rep_ex D (r + 1) i
  obtain ⟨b, b1, b2, b3⟩ := rep_ex D (r + 1) j
  have hab : eqC D r a b := ((a2.less (Nat.le_succ r)).symm.trans h).trans (b2.less (Nat.le_succ r))
  have ha : a ∈ repsC D (r + 1) := repsC_mem.2 ⟨by omega, fun q hq he => a3 q hq (a2.trans he)⟩
  have hb : b ∈ repsC D (r + 1) := repsC_mem.2 ⟨by omega, fun q hq he => b3 q hq (b2.trans he)⟩
  rcases Nat.lt_trichotomy a b with k | k | k
  ·exact ⟨b, hb, fun hm => (repsC_mem.1 hm).2 a k hab.symm⟩
  ·exact absurd (a2.trans (k ▸ b2.symm)) hn
  ·exact ⟨a, ha, fun hm => (repsC_mem.1 hm).2 b k hab⟩
 obtain ⟨x, hx, hx2⟩ := key
 have h3 := nodup_sub (x :: repsC D r) (repsC D (r + 1)) (List.nodup_cons.2 ⟨hx2, repsC_nodup D r⟩) fun y hy => by
  rcases List.mem_cons.1 hy with rfl | hy
  ·exact hx
  ·exact sub y hy
 simp only [List.length_cons] at h3
 omega
theorem eqC_all {D : Dm} (h : MayD D) {i j : Nat} (hi : i < D.next.length) (hj : j < D.next.length) (he : eqC D D.next.length i j) : ∀ m, eqC D m i j := by
 have key : ∀ r, (∃ q, q < r ∧ ∀ i j, i < D.next.length → j < D.next.length → eqC D q i j → eqC D (q + 1) i j) ∨ r ≤ (repsC D r).length := by
  intro r
  induction r with
  | zero => exact .inr (Nat.zero_le _)
  | succ r ih =>
   rcases ih with ⟨q, hq, hs⟩ | ih
   ·exact .inl ⟨q, by omega, hs⟩
   ·by_cases hs : ∀ i j, i < D.next.length → j < D.next.length → eqC D r i j → eqC D (r + 1) i j
    ·exact .inl ⟨r, Nat.lt_succ_self r, hs⟩
    ·right
     have : ∃ i j, i < D.next.length ∧ j < D.next.length ∧ eqC D r i j ∧ ¬ eqC D (r + 1) i j := Classical.byContradiction fun hno => hs fun i j h1 h2 h3 => Classical.byContradiction fun h4 => hno ⟨i, j, h1, h2, h3, h4⟩
     obtain ⟨a, b, h1, h2, h3, h4⟩ := this
     have := repsC_more h1 h2 h3 h4
     omega
 intro m
 rcases key (D.next.length + 1) with ⟨q, hq, hs⟩ | hk
 ·exact eqC_stable h hs m i j hi hj (he.less (by omega))
 ·have := repsC_le D (D.next.length + 1)
  omega
/-! ### words of bytes and words of classes -/
theorem stD_stC (D : Dm) (s : Nat) (b : UInt8) : stD D s b = stC D s (D.cl.getD b.toNat 0).toNat := rfl
def clsW (D : Dm) (w : List UInt8) : List Nat := w.map fun b => (D.cl.getD b.toNat 0).toNat
theorem toD_toC (D : Dm) : ∀ (w : List UInt8) (s : Nat), toD D s w = toC D s (clsW D w)
 | [], _ => rfl
 | b :: w, s => toD_toC D w (stD D s b)
theorem accD_accC (D : Dm) (s : Nat) (w : List UInt8) : accD D s w = accC D s (clsW D w) := by
 unfold accD accC
 rw [toD_toC]
def AllC (D : Dm) : Prop := ∀ k, k < clsA D.cl → ∃ b : UInt8, (D.cl.getD b.toNat 0).toNat = k
theorem clsW_lt {D : Dm} (hl : D.cl.length = 256) (w : List UInt8) : ∀ k ∈ clsW D w, k < clsA D.cl := fun k hk => by
 obtain ⟨b, _, rfl⟩ := List.mem_map.1 hk
 obtain ⟨c, hc⟩ : ∃ c, D.cl[b.toNat]? = some c := ⟨_, List.getElem?_eq_getElem (by rw [hl]; exact b.toNat_lt)⟩
 rw [List.getD_eq_getElem?_getD, hc]
 exact clsA_lt hl hc
theorem words_ex {D : Dm} (h : AllC D) : ∀ v : List Nat, (∀ k ∈ v, k < clsA D.cl) → ∃ w, clsW D w = v
 | [], _ => ⟨[], rfl⟩
 | k :: v, hk => by
  obtain ⟨b, hb⟩ := h k (hk k (by simp))
  obtain ⟨w, hw⟩ := words_ex h v fun q hq => hk q (List.mem_cons_of_mem _ hq)
  exact ⟨b :: w, by show (D.cl.getD b.toNat 0).toNat :: clsW D w = _; rw [hb, hw]⟩
theorem acc_eq {D : Dm} (h : AllC D) (hl : D.cl.length = 256) {i j : Nat} : accD D i = accD D j ↔ ∀ m, eqC D m i j := by
 constructor
 ·intro he m v _ hk
  obtain ⟨w, rfl⟩ := words_ex h v hk
  rw [← accD_accC, ← accD_accC, he]
 ·intro he
  funext w
  rw [accD_accC, accD_accC]
  exact he (clsW D w).length _ (Nat.le_refl _) (clsW_lt hl w)
theorem clsOf_first {ps : List (Nat → Bool)} {N k c : Nat} (h : (firstJ ps N)[k]? = some c) : clsOf ps c = k := by
 obtain ⟨hk, rfl⟩ := List.getElem?_eq_some_iff.1 h
 exact (clsOf_is ps N _ (firstJ_lt ps N _ (List.getElem_mem hk)) k hk).2 (alikeS_refl _ _)
theorem canN_allC (L : Lang) (n : Nat) : AllC (canN L n) := fun k hk => by
 rw [canN_cls] at hk
 obtain ⟨c, hc⟩ : ∃ c, (fbL L)[k]? = some c := ⟨_, List.getElem?_eq_getElem hk⟩
 have hc2 := firstJ_lt _ _ c (List.mem_of_getElem? hc)
 have h1 : clsOf (psL L) c = k := clsOf_first (N := 256) hc
 refine ⟨UInt8.ofNat c, ?_⟩
 rw [ofNat_toNat hc2, canN_clE, List.getD_eq_getElem?_getD, ctab_at (psL L) hc2, Option.getD_some, ofNat_toNat (clsOf_256 _ hc2), h1]
theorem canN_apart {L : Lang} {n i j : Nat} (h : FitL L n) (hi : i < n) (hj : j < n) (he : accD (canN L n) i = accD (canN L n) j) : i = j := by
 have hl : (QL L n).length = n := h
 obtain ⟨a, ha⟩ : ∃ a, (QL L n)[i]? = some a := ⟨_, List.getElem?_eq_getElem (by omega)⟩
 obtain ⟨b, hb⟩ : ∃ b, (QL L n)[j]? = some b := ⟨_, List.getElem?_eq_getElem (by omega)⟩
 rw [accD_canN h ha, accD_canN h hb] at he
 have h1 := idx_is (QL_nodup L n) ha
 have h2 := idx_is (QL_nodup L n) hb
 rw [← h1, ← h2, he]
def stsD (D : Dm) : List St := D.next.map fun r => ⟨fun _ => false, 0, r⟩
theorem stsD_len (D : Dm) : (stsD D).length = D.next.length := by simp [stsD]
theorem stsD_get {D : Dm} {i : Nat} {r : List Int} (h : D.next[i]? = some r) : (stsD D)[i]? = some ⟨fun _ => false, 0, r⟩ := by simp [stsD, h]
noncomputable def reaB (D : Dm) (i : Nat) : Bool := rcB (stsD D) (ofL [0]) i
/-! ### finding, under another name for each thing of a kind -/
section
variable {α β : Type} [DecidableEq α] [DecidableEq β] {φ : α → β} {p : α → Prop}
theorem extL_mapP (hφ : ∀ a b, p a → p b → φ a = φ b → a = b) : ∀ (xs L : List α), (∀ x ∈ xs, p x) → (∀ x ∈ L, p x) → extL (L.map φ) (xs.map φ) = (extL L xs).map φ
 | [], _, _, _ => rfl
 | x :: xs, L, hx, hL => by
  have px := hx x (by simp)
  have hm : φ x ∈ L.map φ ↔ x ∈ L := by
   rw [List.mem_map]
   exact ⟨fun ⟨y, hy, he⟩ => by rw [← hφ _ _ (hL y hy) px he]; exact hy, fun h => ⟨x, h, rfl⟩⟩
  have hx2 : ∀ y ∈ xs, p y := fun y hy => hx y (List.mem_cons_of_mem _ hy)
  simp only [List.map_cons, extL]
  by_cases h : x ∈ L
  ·rw [if_pos h, if_pos (hm.2 h)]
   exact extL_mapP hφ xs L hx2 hL
  ·rw [if_neg h, if_neg (fun k => h (hm.1 k)), ← extL_mapP hφ xs (L ++ [x]) hx2 (fun y hy => by
    rcases List.mem_append.1 hy with hy | hy
    ·exact hL y hy
    ·rw [List.mem_singleton.1 hy]; exact px), List.map_append]
   rfl
theorem Lq_mapP (hφ : ∀ a b, p a → p b → φ a = φ b → a = b) {f : α → List α} {g : β → List β} {x0 : α} (h0 : p x0) (hf : ∀ x, p x → ∀ y ∈ f x, p y) (hg : ∀ x, p x → g (φ x) = (f x).map φ) : ∀ r, Lq g (φ x0) r = (Lq f x0 r).map φ
 | 0 => rfl
 | r + 1 => by
  have ih := Lq_mapP hφ h0 hf hg r
  have hall := Lq_all h0 hf r
  rcases Nat.lt_or_ge r (Lq f x0 r).length with h | h
  ·have e1 := List.getElem?_eq_getElem h
   have e2 : (Lq g (φ x0) r)[r]? = some (φ (Lq f x0 r)[r]) := by rw [ih, List.getElem?_map, e1]; rfl
   have hp := hall _ (List.getElem_mem h)
   rw [Lq_step e1, Lq_step e2, ih, hg _ hp, extL_mapP hφ _ _ (hf _ hp) hall]
  ·rw [Lq_stop h, Lq_stop (by rw [ih, List.length_map]; exact h), ih]
theorem ixOf_mapP (hφ : ∀ a b, p a → p b → φ a = φ b → a = b) {x : α} (hx : p x) : ∀ (L : List α), (∀ y ∈ L, p y) → ixOf (L.map φ) (φ x) = ixOf L x
 | [], _ => rfl
 | y :: r, hL => by
  have ih := ixOf_mapP hφ hx r fun z hz => hL z (List.mem_cons_of_mem _ hz)
  unfold ixOf at ih ⊢
  rw [List.map_cons, List.idxOf_cons, List.idxOf_cons, ih]
  by_cases h : y = x
  ·rw [h]; simp
  ·have h2 : φ y ≠ φ x := fun e => h (hφ _ _ (hL y (by simp)) hx e)
   have e1 : (y == x) = false := by simpa using h
   have e2 : (φ y == φ x) = false := by simpa using h2
   rw [e1, e2]
theorem rowI_mapP (hφ : ∀ a b, p a → p b → φ a = φ b → a = b) {L xs : List α} (hL : ∀ x ∈ L, p x) (hx : ∀ x ∈ xs, p x) : rowI (L.map φ) (xs.map φ) = rowI L xs := by
 unfold rowI
 rw [List.map_map]
 refine List.map_congr_left fun x hm => ?_
 show ((ixOf (L.map φ) (φ x) : Nat) : Int) = _
 rw [ixOf_mapP hφ (hx x hm) L hL]
theorem rowsI_mapP (hφ : ∀ a b, p a → p b → φ a = φ b → a = b) {f : α → List α} {g : β → List β} (hf : ∀ x, p x → ∀ y ∈ f x, p y) (hg : ∀ x, p x → g (φ x) = (f x).map φ) {L : List α} (hL : ∀ x ∈ L, p x) (m : Nat) : rowsI g (L.map φ) m = rowsI f L m := by
 unfold rowsI
 rw [← List.map_take, List.map_map]
 refine List.map_congr_left fun x hx => ?_
 have px := hL x (List.mem_of_mem_take hx)
 show rowI (L.map φ) (g (φ x)) = _
 rw [hg x px, rowI_mapP hφ hL (hf x px)]
end
/-! ### parts in the place of languages -/
noncomputable def fP (D : Dm) (q : Nat) : List Nat := (fbL (accD D 0)).map fun b => parD D (stD D q (UInt8.ofNat b))
noncomputable def QP (D : Dm) (r : Nat) : List Nat := Lq (fP D) (parD D 0) r
def isP (D : Dm) (q : Nat) : Prop := parD D q = q
theorem isP_par (D : Dm) (q : Nat) : isP D (parD D q) := parD_twice D q
theorem isP_inj {D : Dm} {a b : Nat} (ha : isP D a) (hb : isP D b) (h : accD D a = accD D b) : a = b := by
 rw [← ha, ← hb]
 exact parD_same h
theorem fP_isP {D : Dm} (q : Nat) : ∀ y ∈ fP D q, isP D y := fun y hy => by
 obtain ⟨b, _, rfl⟩ := List.mem_map.1 hy
 exact isP_par D _
theorem res_acc (D : Dm) (q : Nat) (b : Nat) : res (accD D q) b = accD D (stD D q (UInt8.ofNat b)) := rfl
theorem suc_fP (D : Dm) (q : Nat) : sucL (accD D 0) (accD D q) = (fP D q).map (accD D) := by
 unfold sucL fP
 rw [List.map_map]
 refine List.map_congr_left fun b _ => ?_
 show res (accD D q) b = accD D (parD D (stD D q (UInt8.ofNat b)))
 rw [res_acc, (parD_spec D _).1]
theorem QP_isP (D : Dm) (r : Nat) : ∀ q ∈ QP D r, isP D q := Lq_all (p := isP D) (isP_par D 0) (fun q _ => fP_isP q) r
theorem QL_QP (D : Dm) (r : Nat) : QL (accD D 0) r = (QP D r).map (accD D) := by
 have h := Lq_mapP (φ := accD D) (p := isP D) (fun a b => isP_inj) (f := fP D) (g := sucL (accD D 0)) (x0 := parD D 0) (isP_par D 0) (fun q _ => fP_isP q) (fun q _ => suc_fP D q) r
 rw [(parD_spec D 0).1] at h
 exact h
theorem canN_par (D : Dm) (n : Nat) : canN (accD D 0) n = ⟨ctab (psL (accD D 0)) 256, rowsI (fP D) (QP D n) n, endsI (fun q => D.ends.getD q false) (QP D n) n⟩ := by
 unfold canN
 rw [QL_QP, rowsI_mapP (p := isP D) (fun a b => isP_inj) (fun q _ => fP_isP q) (fun q _ => suc_fP D q) (QP_isP D n), endsI_map]
 rfl
/-! ### what is come to -/
theorem stD_mem {D : Dm} (h : MayD D) (hl : D.cl.length = 256) {s : Nat} (hs : s < D.next.length) (b : UInt8) : ∃ r, D.next[s]? = some r ∧ ((stD D s b : Nat) : Int) ∈ r := by
 obtain ⟨r, hr⟩ : ∃ r, D.next[s]? = some r := ⟨_, List.getElem?_eq_getElem hs⟩
 obtain ⟨c, hc⟩ : ∃ c, D.cl[b.toNat]? = some c := ⟨_, List.getElem?_eq_getElem (by rw [hl]; exact b.toNat_lt)⟩
 have hm := List.mem_of_getElem? hr
 have hk : c.toNat < r.length := by rw [h.rows r hm]; exact clsA_lt hl hc
 obtain ⟨x, hx⟩ : ∃ x, r[c.toNat]? = some x := ⟨_, List.getElem?_eq_getElem hk⟩
 have h2 := h.to r hm x (List.mem_of_getElem? hx)
 have e : stD D s b = x.toNat := by
  unfold stD
  rw [hr, List.getD_eq_getElem?_getD, List.getD_eq_getElem?_getD, hc]
  show (r[c.toNat]?.getD 0).toNat = _
  rw [hx]
  rfl
 refine ⟨r, hr, ?_⟩
 rw [e, Int.toNat_of_nonneg h2.1]
 exact List.mem_of_getElem? hx
theorem rea_word {D : Dm} (h : MayD D) (hl : D.cl.length = 256) (w : List UInt8) : reaB D (toD D 0 w) = true := by
 have h0 : 0 < D.next.length := by have := h.pos; omega
 have key : ∀ (w : List UInt8) (s : Nat), s < D.next.length → Rc (stsD D) (ofL [0]) s → Rc (stsD D) (ofL [0]) (toD D s w) := by
  intro w
  induction w with
  | nil => exact fun s _ hs => hs
  | cons b w ih =>
   intro s hs hr
   obtain ⟨r, h1, h2⟩ := stD_mem h hl hs b
   have hlt := toD_ltA h hl [b] s hs
   exact ih _ hlt (.go hr (stsD_get h1) h2 (by rw [stsD_len]; exact hlt))
 exact rcB_iff.2 (key w 0 h0 (.base (by simp [ofL]) (by rw [stsD_len]; exact h0)))
theorem word_rea {D : Dm} (h : MayD D) (ha : AllC D) {i : Nat} (hr : reaB D i = true) : ∃ w, toD D 0 w = i := by
 have hq := rcB_iff.1 hr
 clear hr
 induction hq with
 | @base q h1 _ =>
  have : q = 0 := by
   have h1 : (q : Int) ∈ [(0 : Int)] := h1
   have := List.mem_singleton.1 h1
   omega
  exact ⟨[], this.symm⟩
 | @go q j s _ h2 h3 _ ih =>
  obtain ⟨w, hw⟩ := ih
  obtain ⟨r, hr, hs⟩ : ∃ r, D.next[q]? = some r ∧ s.free = r := by
   unfold stsD at h2
   rw [List.getElem?_map] at h2
   cases hq : D.next[q]? with
   | none => rw [hq] at h2; cases h2
   | some r =>
    rw [hq] at h2
    injection h2 with h2
    exact ⟨r, rfl, by rw [← h2]⟩
  rw [hs] at h3
  obtain ⟨k, hk, hkj⟩ := List.getElem_of_mem h3
  have hkc : k < clsA D.cl := by rw [← h.rows r (List.mem_of_getElem? hr)]; exact hk
  obtain ⟨b, hb⟩ := ha k hkc
  refine ⟨w ++ [b], ?_⟩
  rw [toD_app, hw]
  show stD D q b = j
  rw [stD_stC, hb]
  unfold stC
  rw [hr, Option.getD_some, List.getD_eq_getElem?_getD, List.getElem?_eq_getElem hk, Option.getD_some, hkj]
  exact Int.toNat_natCast j
theorem alL_par {D : Dm} (h : MayD D) (hl : D.cl.length = 256) (ha : AllC D) (b c : Nat) :
  alL (accD D 0) b c ↔ ∀ i, i < D.next.length → reaB D i = true → parD D (stD D i (UInt8.ofNat b)) = parD D (stD D i (UInt8.ofNat c)) := by
 constructor
 ·intro hal i _ hr
  obtain ⟨u, hu⟩ := word_rea h ha hr
  refine parD_same ?_
  funext w
  have h1 := hal u w
  unfold accD at h1 ⊢
  rw [toD_app, toD_app, hu] at h1
  exact h1
 ·intro hp u w
  have hlt := toD_ltA h hl u 0 (by have := h.pos; omega)
  have h1 := parD_iff.1 (hp _ hlt (rea_word h hl u))
  have h2 := congrFun h1 w
  unfold accD at h2 ⊢
  rw [toD_app, toD_app]
  exact h2
/-! ### parts, round by round -/
noncomputable def leR (R : Nat → Nat → Prop) (i : Nat) : Nat := ((List.range (i + 1)).find? fun j => @decide (R j i) (Classical.propDecidable _)).getD i
theorem leR_spec {R : Nat → Nat → Prop} (hr : ∀ i, R i i) (i : Nat) : R (leR R i) i ∧ leR R i ≤ i ∧ ∀ j, j < leR R i → ¬ R j i := by
 unfold leR
 cases h : (List.range (i + 1)).find? fun j => @decide (R j i) (Classical.propDecidable _) with
 | none =>
  rw [List.find?_eq_none] at h
  have := h i (List.mem_range.2 (Nat.lt_succ_self i))
  exact absurd (@decide_eq_true _ (Classical.propDecidable _) (hr i)) this
 | some k =>
  have h6 := List.find?_some h
  have h2 : R k i := @of_decide_eq_true _ (Classical.propDecidable _) h6
  have h3 := List.mem_range.1 (List.mem_of_find?_eq_some h)
  refine ⟨h2, by show k ≤ i; omega, fun j hj he => ?_⟩
  have hj : j < k := hj
  obtain ⟨_, l1, l2, hab, hno⟩ := List.find?_eq_some_iff_append.1 h
  have hlen : l1.length = k := by
   have h4 : (List.range (i + 1))[l1.length]? = some k := by rw [hab]; simp
   rw [List.getElem?_range (by
    have := congrArg List.length hab
    simp at this
    omega)] at h4
   simpa using h4
  have hj2 : j ∈ l1 := by
   have h4 : (List.range (i + 1))[j]? = some j := List.getElem?_range (by omega)
   rw [hab, List.getElem?_append_left (by omega)] at h4
   exact List.mem_of_getElem? h4
  have h5 := hno j hj2
  rw [@decide_eq_true _ (Classical.propDecidable _) he] at h5
  cases h5
theorem leR_is {R : Nat → Nat → Prop} (hr : ∀ i, R i i) {i k : Nat} (hk : R k i) (hki : k ≤ i) (hno : ∀ j, j < k → ¬ R j i) : leR R i = k := by
 obtain ⟨h1, h2, h3⟩ := leR_spec hr i
 rcases Nat.lt_trichotomy (leR R i) k with h | h | h
 ·exact absurd h1 (hno _ h)
 ·exact h
 ·exact absurd hk (h3 _ h)
theorem leR_iff {R : Nat → Nat → Prop} (hr : ∀ i, R i i) (hs : ∀ i j, R i j → R j i) (ht : ∀ i j k, R i j → R j k → R i k) {i j : Nat} : leR R i = leR R j ↔ R i j := by
 obtain ⟨a1, a2, a3⟩ := leR_spec hr i
 obtain ⟨b1, b2, b3⟩ := leR_spec hr j
 constructor
 ·intro h
  rw [← h] at b1
  exact ht _ _ _ (hs _ _ a1) b1
 ·intro h
  rcases Nat.lt_trichotomy (leR R i) (leR R j) with k | k | k
  ·exact absurd (ht _ _ _ a1 h) (b3 _ k)
  ·exact k
  ·exact absurd (ht _ _ _ b1 (hs _ _ h)) (a3 _ k)
noncomputable def parR (D : Dm) (r i : Nat) : Nat := leR (eqC D r) i
theorem parR_iff {D : Dm} {r i j : Nat} : parR D r i = parR D r j ↔ eqC D r i j := leR_iff (eqC.refl D r) (fun _ _ h => h.symm) (fun _ _ _ h k => h.trans k)
theorem parR_next {D : Dm} {r i j : Nat} : parR D (r + 1) i = parR D (r + 1) j ↔ parR D r i = parR D r j ∧ ∀ k, k < clsA D.cl → parR D r (stC D i k) = parR D r (stC D j k) := by
 rw [parR_iff, parR_iff]
 constructor
 ·intro h
  exact ⟨h.less (Nat.le_succ r), fun k hk => parR_iff.2 (h.step hk)⟩
 ·rintro ⟨h1, h2⟩
  exact eqC_succ.2 ⟨h1 [] (Nat.zero_le _) fun k hk => (by cases hk), fun k hk => parR_iff.1 (h2 k hk)⟩
theorem parR_zero {D : Dm} {i j : Nat} : parR D 0 i = parR D 0 j ↔ D.ends.getD i false = D.ends.getD j false := by
 rw [parR_iff]
 constructor
 ·intro h
  exact h [] (Nat.le_refl _) fun k hk => (by cases hk)
 ·intro h v hv _
  have : v = [] := List.length_eq_zero_iff.1 (by omega)
  subst this
  exact h
theorem parR_done {D : Dm} (h : MayD D) (hl : D.cl.length = 256) (ha : AllC D) {r : Nat} (hst : ∀ i, i < D.next.length → parR D (r + 1) i = parR D r i) : ∀ i, i < D.next.length → parR D r i = parD D i := by
 have hs : ∀ i j, i < D.next.length → j < D.next.length → eqC D r i j → eqC D (r + 1) i j := fun i j hi hj he => by
  rw [← parR_iff, hst i hi, hst j hj]
  exact parR_iff.2 he
 intro i hi
 refine leR_is (eqC.refl D r) ?_ (parD_spec D i).2.1 fun j hj he => ?_
 ·exact ((acc_eq ha hl).1 (parD_spec D i).1) r
 ·have hji : j < D.next.length := by have := (parD_spec D i).2.1; omega
  exact (parD_spec D i).2.2 j hj ((acc_eq ha hl).2 fun m => eqC_stable h hs m j i hji hi he)
end Go.Proofs.Ytlohehcfplkjbaa
