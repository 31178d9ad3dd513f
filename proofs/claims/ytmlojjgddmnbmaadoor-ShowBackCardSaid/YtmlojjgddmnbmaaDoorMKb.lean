/-
  Texts of this proof, put together: (ShI) Plain facts: how long the text is of an expression that is made of few numbers, and that it is none that is empty. No statement is proved here. (ShJ) Plain facts: the text of what is made of at most 100 numbers is no longer than 4,000 bytes, and not empty. No statement is proved here. (ShK) Plain facts: what is made of at most 100 numbers is shown. No statement is proved here.
-/
import Derived.Test.YtmlojjgddmnbmaaDoorMDb
import Derived.Test.YtmlojjgddmnbmaaDoorMEb
namespace Go.Proofs.YtmlojjgddmnbmaaDoor
open Go.RowKit
set_option linter.unusedSimpArgs false
set_option linter.unusedVariables false

/-! ### counting -/
theorem filter_union {α : Type} {p q r : α → Bool} (h : ∀ b, p b = true → q b = true ∨ r b = true) : ∀ l : List α, (l.filter p).length ≤ (l.filter q).length + (l.filter r).length
  | [] => by simp
  | a :: l => by
    have ih := filter_union h l
    have ha := h a
    cases hp : p a with
    | false =>
      rw [List.filter_cons_of_neg (by simp [hp])]
      have h1 : (l.filter q).length ≤ ((a :: l).filter q).length := by
        cases hq : q a <;> simp [hq]
      have h2 : (l.filter r).length ≤ ((a :: l).filter r).length := by
        cases hr : r a <;> simp [hr]
      omega
    | true =>
      rw [List.filter_cons_of_pos (by simp [hp]), List.length_cons]
      rcases ha hp with hq | hr
      · rw [List.filter_cons_of_pos (p := q) hq, List.length_cons]
        have h2 : (l.filter r).length ≤ ((a :: l).filter r).length := by
          cases hr : r a <;> simp [hr]
        omega
      · rw [List.filter_cons_of_pos (p := r) hr, List.length_cons]
        have h1 : (l.filter q).length ≤ ((a :: l).filter q).length := by
          cases hq : q a <;> simp [hq]
        omega
theorem filter_one (c : Nat) : ∀ n, ((List.range n).filter fun b => decide (b = c)).length ≤ if c < n then 1 else 0
  | 0 => by simp
  | n + 1 => by
    have ih := filter_one c n
    rw [List.range_succ, List.filter_append, List.length_append]
    by_cases h : n = c
    · subst h
      rw [if_neg (by omega)] at ih
      rw [if_pos (by omega)]
      simp
      simp at ih
      exact ih
    · have : ([n].filter fun b => decide (b = c)).length = 0 := by simp [h]
      rw [this]
      by_cases h2 : c < n
      · rw [if_pos h2] at ih; rw [if_pos (by omega)]; omega
      · rw [if_neg h2] at ih; rw [if_neg (by omega)]; omega
theorem filter_few : ∀ (l : List Nat) (p : Nat → Bool), (∀ b, p b = true → b ∈ l) → ((List.range 256).filter p).length ≤ l.length
  | [], p, h => by
    have : (List.range 256).filter p = [] := List.filter_eq_nil_iff.2 fun b _ hb => by have := h b hb; cases this
    rw [this]
    simp
  | c :: l, p, h => by
    have h1 := filter_union (p := p) (q := fun b => decide (b = c)) (r := fun b => p b && decide (b ∈ l)) (fun b hb => by
      rcases List.mem_cons.1 (h b hb) with e | e
      · exact .inl (by simpa using e)
      · exact .inr (by simp [hb, e])) (List.range 256)
    have h2 := filter_one c 256
    have h3 := filter_few l (fun b => p b && decide (b ∈ l)) (fun b hb => by
      simp only [Bool.and_eq_true, decide_eq_true_eq] at hb
      exact hb.2)
    have h4 : (if c < 256 then 1 else 0) ≤ 1 := by split <;> omega
    rw [List.length_cons]
    omega
/-- Does a run begin there? -/
def begS (s : Nat → Bool) (b : Nat) : Bool := s b && !(decide (0 < b) && s (b - 1))
/-- How many runs a set has. -/
def rn (s : Nat → Bool) : Nat := ((List.range 256).filter (begS s)).length
theorem rn_or (s t : Nat → Bool) : rn (fun b => s b || t b) ≤ rn s + rn t :=
  filter_union (fun b hb => by
    have hb : ((s b || t b) && !(decide (0 < b) && (s (b - 1) || t (b - 1)))) = true := hb
    show (s b && !(decide (0 < b) && s (b - 1))) = true ∨ (t b && !(decide (0 < b) && t (b - 1))) = true
    revert hb
    cases s b <;> cases t b <;> cases decide (0 < b) <;> cases s (b - 1) <;> cases t (b - 1) <;> simp) _
theorem rn_few {s : Nat → Bool} (l : List Nat) (h : ∀ b, begS s b = true → b ∈ l) : rn s ≤ l.length := filter_few l _ h
theorem rn_list (l : List Nat) : rn (listS l) ≤ l.length := rn_few l fun b hb => by
  unfold begS listS at hb
  simp only [Bool.and_eq_true, decide_eq_true_eq] at hb
  exact hb.1
theorem rn_range (a b : Nat) : rn (rangeS a b) ≤ 1 := rn_few [a] fun x hx => by
  unfold begS rangeS at hx
  simp only [Bool.and_eq_true, decide_eq_true_eq, Bool.not_eq_true', Bool.and_eq_false_iff, decide_eq_false_iff_not] at hx
  simp only [List.mem_singleton]
  omega
theorem rn_not (c : Nat) : rn (notS (listS [c])) ≤ 2 := rn_few [0, c + 1] fun x hx => by
  unfold begS notS listS at hx
  simp only [Bool.and_eq_true, decide_eq_true_eq, Bool.not_eq_true', Bool.and_eq_false_iff, decide_eq_false_iff_not, List.mem_singleton, Bool.not_eq_false'] at hx
  simp only [List.mem_cons, List.not_mem_nil, or_false]
  omega
theorem rn_zero : rn zeroS = 0 := by
  unfold rn
  rw [List.length_eq_zero_iff, List.filter_eq_nil_iff]
  intro b _
  simp [begS, zeroS]

/-! ### the text of a set -/
def brk (b : Nat) : List Nat → Nat
  | [] => 0
  | c :: r => (if c = b + 1 then 0 else 1) + brk c r
theorem goR_brk : ∀ (r : List Nat) (a b : Nat), (goR a b r).length ≤ 9 * (1 + brk b r)
  | [], a, b => by have := runB_len a b; simp only [goR, brk]; omega
  | c :: r, a, b => by
    simp only [goR, brk]
    by_cases h : c = b + 1
    · rw [if_pos h, if_pos h]
      have := goR_brk r a c
      omega
    · rw [if_neg h, if_neg h, List.length_append]
      have h1 := goR_brk r c c
      have h2 := runB_len a b
      omega
theorem brk_beg (s : Nat → Bool) : ∀ (r : List Nat) (b : Nat) (pre : List Nat), memN s = pre ++ b :: r → brk b r ≤ (r.filter (begS s)).length
  | [], b, pre, h => by simp [brk]
  | c :: r, b, pre, h => by
    have hn : memN s = (pre ++ [b]) ++ c :: r := by rw [h]; simp
    have ih := brk_beg s r c (pre ++ [b]) hn
    simp only [brk]
    by_cases hc : c = b + 1
    · rw [if_pos hc]
      have : (r.filter (begS s)).length ≤ ((c :: r).filter (begS s)).length := by cases hq : begS s c <;> simp [hq]
      omega
    · rw [if_neg hc]
      have hasc := memN_asc s
      rw [h] at hasc
      have h1 := List.pairwise_append.1 hasc
      have h2 := List.pairwise_cons.1 h1.2.1
      have h3 := List.pairwise_cons.1 h2.2
      have hbc := h2.1 c (by simp)
      have hmc : c ∈ memN s := by rw [h]; simp
      have hbeg : begS s c = true := by
        unfold begS
        rw [(memN_mem.1 hmc).2]
        cases hp : decide (0 < c) && s (c - 1) with
        | false => rfl
        | true =>
          simp only [Bool.and_eq_true, decide_eq_true_eq] at hp
          have hlt := (memN_mem.1 hmc).1
          have hm : c - 1 ∈ memN s := memN_mem.2 ⟨by omega, hp.2⟩
          rw [h] at hm
          rcases List.mem_append.1 hm with e | e
          · have := h1.2.2 (c - 1) e b (by simp); omega
          · rcases List.mem_cons.1 e with e | e
            · omega
            · rcases List.mem_cons.1 e with e | e
              · omega
              · have := h3.1 (c - 1) e; omega
      rw [List.filter_cons_of_pos hbeg, List.length_cons]
      omega
theorem rn_mem (s : Nat → Bool) : ((memN s).filter (begS s)).length = rn s := by
  unfold memN rn
  rw [List.filter_filter]
  congr 1
  apply List.filter_congr
  intro b _
  unfold begS
  cases s b <;> simp
theorem runs_rn (s : Nat → Bool) : (runsB (memN s)).length ≤ 9 * rn s ∧ (memN s ≠ [] → 1 ≤ rn s) := by
  cases h : memN s with
  | nil => exact ⟨by simp [runsB], fun h => absurd rfl h⟩
  | cons c r =>
    have h1 := goR_brk r c c
    have h2 := brk_beg s r c [] (by rw [h]; rfl)
    have hmc : c ∈ memN s := by rw [h]; simp
    have hasc := memN_asc s
    rw [h] at hasc
    have h3 := List.pairwise_cons.1 hasc
    have hbeg : begS s c = true := by
      unfold begS
      rw [(memN_mem.1 hmc).2]
      cases hp : decide (0 < c) && s (c - 1) with
      | false => rfl
      | true =>
        simp only [Bool.and_eq_true, decide_eq_true_eq] at hp
        have hlt := (memN_mem.1 hmc).1
        have hm : c - 1 ∈ memN s := memN_mem.2 ⟨by omega, hp.2⟩
        rw [h] at hm
        rcases List.mem_cons.1 hm with e | e
        · omega
        · have := h3.1 (c - 1) e; omega
    have h4 := rn_mem s
    rw [h, List.filter_cons_of_pos hbeg, List.length_cons] at h4
    refine ⟨?_, fun _ => by omega⟩
    show (goR c c r).length ≤ _
    omega
theorem setB_rn (s : Nat → Bool) : (setB s).length ≤ 2 + 9 * rn s := by
  obtain ⟨h1, h2⟩ := runs_rn s
  unfold setB
  by_cases h256 : (memN s).length = 256
  · rw [if_pos h256]
    have := h2 (by intro he; rw [he] at h256; simp at h256)
    simp
    omega
  · rw [if_neg h256]
    by_cases hone : (memN s).length = 1
    · rw [if_pos hone]
      have := h2 (by intro he; rw [he] at hone; simp at hone)
      have := signB_len ((memN s).headD 0)
      omega
    · rw [if_neg hone, List.length_cons, List.length_append]
      simp only [List.length_cons, List.length_nil]
      omega
end Go.Proofs.YtmlojjgddmnbmaaDoor
namespace Go.Proofs.YtmlojjgddmnbmaaDoor
open Go.RowKit
set_option linter.unusedSimpArgs false
set_option linter.unusedVariables false

mutual
/-- A measure of an expression's text. -/
def T.bulk : T → Nat
  | .node k s l => 4 + (if k = 3 then 9 * rn s else 0) + bulkL l
def bulkL : List T → Nat
  | [] => 0
  | t :: r => t.bulk + bulkL r
end
theorem bulkL_append : ∀ a b : List T, bulkL (a ++ b) = bulkL a + bulkL b
  | [], b => by simp [bulkL]
  | t :: r, b => by
    have := bulkL_append r b
    simp only [List.cons_append, bulkL, this]
    omega
mutual
theorem text_bulk : ∀ t : T, (textT t).length + 2 ≤ t.bulk
  | .node k s l => by
    have h1 := setB_rn s
    have h2 := star_bulk l
    have h3 := cat_bulk l
    have h4 := alt_bulk true l
    simp only [textT, T.bulk]
    split
    · simp; omega
    · split
      · simp; omega
      · split
        · omega
        · split
          · omega
          · split <;> omega
theorem star_bulk : ∀ l : List T, (starL l).length ≤ bulkL l + 1
  | [] => by simp [starL, bulkL]
  | x :: r => by
    have h := text_bulk x
    simp only [starL, bulkL]
    split
    · rw [List.length_cons, List.length_append]
      simp only [List.length_cons, List.length_nil]
      omega
    · rw [List.length_append]
      simp only [List.length_cons, List.length_nil]
      omega
theorem cat_bulk : ∀ l : List T, (catL l).length ≤ bulkL l
  | [] => by simp [catL, bulkL]
  | x :: r => by
    have h := text_bulk x
    have h2 := cat_bulk r
    simp only [catL, bulkL]
    rw [List.length_append]
    split
    · rw [List.length_cons, List.length_append]
      simp only [List.length_cons, List.length_nil]
      omega
    · omega
theorem alt_bulk : ∀ (b : Bool) (l : List T), (altL b l).length ≤ bulkL l
  | _, [] => by simp [altL, bulkL]
  | b, x :: r => by
    have h := text_bulk x
    have h2 := alt_bulk false r
    simp only [altL, bulkL]
    rw [List.length_append, List.length_append]
    cases b <;> by_cases hk : x.kind = 2 <;> simp [hk] <;> omega
end
theorem bulk_without (k : Int) : ∀ l : List T, bulkL (withoutT k l) ≤ bulkL l
  | [] => Nat.le_refl _
  | t :: r => by
    have ih := bulk_without k r
    unfold withoutT at *
    by_cases hk : t.kind = k
    · rw [List.filter_cons_of_neg (by simp [hk])]
      simp only [bulkL]; omega
    · rw [List.filter_cons_of_pos (by simp [hk])]
      simp only [bulkL]; omega
theorem bulk_args (t : T) : bulkL t.args + 4 ≤ t.bulk := by
  cases t with
  | node k s l => simp only [T.args, T.bulk]; omega
theorem bulk_flat (k : Int) : ∀ l : List T, bulkL (flatT k l) ≤ bulkL l
  | [] => Nat.le_refl _
  | t :: r => by
    have ih := bulk_flat k r
    have e : flatT k (t :: r) = (if t.kind = k then t.args else [t]) ++ flatT k r := by simp [flatT]
    have h := bulk_args t
    rw [e, bulkL_append]
    split
    · simp only [bulkL]; omega
    · simp only [bulkL]; omega
theorem bulk_wrap (k : Int) (n : T) (hk : k ≠ 3) (hn : n.bulk = 4) (l : List T) : (wrapT k n l).bulk ≤ 4 + bulkL l := by
  match l with
  | [] => show n.bulk ≤ _; omega
  | [t] => show t.bulk ≤ _; simp only [bulkL]; omega
  | a :: b :: r =>
    show (T.node k zeroS (a :: b :: r)).bulk ≤ _
    simp only [T.bulk]
    rw [if_neg hk]
    omega
theorem bulk_cat (l : List T) : (catT l).bulk ≤ 4 + bulkL l := by
  have h1 := bulk_without 2 (flatT 4 l)
  have h2 := bulk_flat 4 l
  unfold catT
  split
  · show 4 + 0 + 0 ≤ _; omega
  · have := bulk_wrap 4 emptyT (by omega) rfl (withoutT 2 (flatT 4 l))
    omega
theorem bulk_or : ∀ E : List T, 9 * rn (orT E) + bulkL (withoutT 3 E) ≤ bulkL E
  | [] => by
    have : orT [] = zeroS := by funext b; simp [orT, zeroS]
    rw [this, rn_zero]
    simp [withoutT, bulkL]
  | t :: r => by
    have ih := bulk_or r
    by_cases hk : t.kind = 3
    · have e1 : orT (t :: r) = fun b => t.set b || orT r b := by funext b; simp [orT, hk]
      have e2 : withoutT 3 (t :: r) = withoutT 3 r := by unfold withoutT; rw [List.filter_cons_of_neg (by simp [hk])]
      have h1 := rn_or t.set (orT r)
      have h2 : 9 * rn t.set ≤ t.bulk := by
        cases t with
        | node k s l =>
          have hk' : k = 3 := hk
          simp only [T.set, T.bulk]
          rw [if_pos hk']
          omega
      rw [e1, e2]
      simp only [bulkL]
      omega
    · have e1 : orT (t :: r) = orT r := by funext b; simp [orT, hk]
      have e2 : withoutT 3 (t :: r) = t :: withoutT 3 r := by unfold withoutT; rw [List.filter_cons_of_pos (by simp [hk])]
      rw [e1, e2]
      simp only [bulkL]
      omega
theorem bulk_items (E : List T) : bulkL (itemsT E) ≤ bulkL E + 4 := by
  have h := bulk_or E
  unfold itemsT
  rw [bulkL_append]
  split
  · simp only [bulkL]; omega
  · simp only [bulkL, T.bulk, if_pos]
    omega
theorem bulk_ins (r : T) : ∀ l : List T, bulkL (insT r l) ≤ r.bulk + bulkL l
  | [] => by simp [insT, bulkL]
  | a :: l => by
    have ih := bulk_ins r l
    simp only [insT]
    by_cases h1 : cmpT a r < 0
    · rw [if_pos h1]; simp only [bulkL]; omega
    · rw [if_neg h1]
      by_cases h2 : cmpT a r = 0
      · rw [if_pos h2]; omega
      · rw [if_neg h2]; simp only [bulkL]; omega
theorem bulk_sort (l : List T) : bulkL (sortU l) ≤ bulkL l := by
  have : ∀ (m acc : List T), bulkL (m.foldl (fun acc t => insT t acc) acc) ≤ bulkL m + bulkL acc := by
    intro m
    induction m with
    | nil => intro acc; simp [bulkL]
    | cons t r ih =>
      intro acc
      have h1 := ih (insT t acc)
      have h2 := bulk_ins t acc
      rw [List.foldl_cons]
      simp only [bulkL]
      omega
  have := this l []
  simp only [bulkL] at this
  exact this
theorem bulk_alt (l : List T) : (altT l).bulk ≤ 8 + bulkL l := by
  unfold altT
  have h1 := bulk_wrap 5 noneT (by omega) rfl (sortU (itemsT (withoutT 1 (flatT 5 l))))
  have h2 := bulk_sort (itemsT (withoutT 1 (flatT 5 l)))
  have h3 := bulk_items (withoutT 1 (flatT 5 l))
  have h4 := bulk_without 1 (flatT 5 l)
  have h5 := bulk_flat 5 l
  omega
theorem bulk_four (t : T) : 4 ≤ t.bulk := by
  have := bulk_args t
  omega
theorem bulk_star1 (r : T) : (star1T r).bulk ≤ r.bulk + 4 := by
  have := bulk_four r
  unfold star1T
  split
  · omega
  · split
    · show 4 + 0 + 0 ≤ _; omega
    · simp only [T.bulk, bulkL]
      rw [if_neg (by omega)]
      omega
theorem bulk_star (r : T) : (starT r).bulk ≤ r.bulk + 8 := by
  unfold starT
  split
  · have h1 := bulk_star1 (altT (withoutT 2 r.args))
    have h2 := bulk_alt (withoutT 2 r.args)
    have h3 := bulk_without 2 r.args
    have h4 := bulk_args r
    omega
  · have := bulk_star1 r
    omega
theorem bulk_bytes (s : Nat → Bool) : (bytesT s).bulk ≤ 4 + 9 * rn s := by
  unfold bytesT
  split
  · show 4 + 0 + 0 ≤ _; omega
  · simp [T.bulk, bulkL]
theorem setP_rn (ps : List UInt8) (n : Nat) : rn (setP ps n).1 ≤ 3 ∧ n ≤ (setP ps n).2 ∧ (n ≤ ps.length → (setP ps n).2 ≤ ps.length) ∧ (ps.length ≤ n → rn (setP ps n).1 ≤ 1) := by
  have hge := fun k => numN_ge ps k
  have hle := fun (k : Nat) (h : k ≤ ps.length) => numN_le h
  have h8 : ps.length ≤ n → numV ps n 8 = 0 := fun h => by unfold numV; rw [if_pos h]
  unfold setP
  by_cases c0 : numV ps n 8 = 0
  · rw [if_pos c0]
    have := rn_range 97 100
    exact ⟨by show rn (rangeS 97 100) ≤ 3; omega, hge n, fun h => hle n h, fun _ => this⟩
  rw [if_neg c0]
  have hno : ps.length ≤ n → False := fun h => c0 (h8 h)
  by_cases c1 : numV ps n 8 = 1
  · rw [if_pos c1]
    have := rn_range (numV ps (numN ps n) 256) (numV ps (numN ps (numN ps n)) 256)
    exact ⟨by show rn (rangeS _ _) ≤ 3; omega, by show n ≤ numN ps (numN ps (numN ps n)); have a := hge n; have b := hge (numN ps n); have c := hge (numN ps (numN ps n)); omega, fun h => hle _ (hle _ (hle _ h)), fun h => (hno h).elim⟩
  rw [if_neg c1]
  by_cases c2 : numV ps n 8 = 2
  · rw [if_pos c2]
    have := rn_not (97 + numV ps (numN ps n) 4)
    exact ⟨by show rn (notS _) ≤ 3; omega, by show n ≤ numN ps (numN ps n); have a := hge n; have b := hge (numN ps n); omega, fun h => hle _ (hle _ h), fun h => (hno h).elim⟩
  rw [if_neg c2]
  by_cases c3 : numV ps n 8 = 3
  · rw [if_pos c3]
    have := rn_list [97 + numV ps (numN ps n) 4, 97 + numV ps (numN ps (numN ps n)) 4, numV ps (numN ps (numN ps (numN ps n))) 256]
    exact ⟨this, by show n ≤ numN ps (numN ps (numN ps (numN ps n))); have a := hge n; have b := hge (numN ps n); have c := hge (numN ps (numN ps n)); have d := hge (numN ps (numN ps (numN ps n))); omega, fun h => hle _ (hle _ (hle _ (hle _ h))), fun h => (hno h).elim⟩
  rw [if_neg c3]
  by_cases c4 : numV ps n 8 = 4
  · rw [if_pos c4]
    have := rn_range 0 255
    exact ⟨by show rn (rangeS 0 255) ≤ 3; omega, hge n, fun h => hle n h, fun h => (hno h).elim⟩
  rw [if_neg c4]
  have := rn_list [97 + numV ps (numN ps n) 4]
  exact ⟨by show rn (listS _) ≤ 3; simp at this; omega, by show n ≤ numN ps (numN ps n); have a := hge n; have b := hge (numN ps n); omega, fun h => hle _ (hle _ h), fun h => (hno h).elim⟩
end Go.Proofs.YtmlojjgddmnbmaaDoor
namespace Go.Proofs.YtmlojjgddmnbmaaDoor
open Go.RowKit
set_option linter.unusedSimpArgs false
set_option linter.unusedVariables false

theorem rxP_bulk (ps : List UInt8) : ∀ N deep n, n ≤ ps.length → (rxP ps N deep n).1.bulk + 21 * n ≤ 21 * (rxP ps N deep n).2 + 13 ∧ n ≤ (rxP ps N deep n).2 ∧ (rxP ps N deep n).2 ≤ ps.length
  | 0, _, n, h => ⟨by show 4 + 0 + 0 + 21 * n ≤ 21 * n + 13; omega, Nat.le_refl _, h⟩
  | N + 1, deep, n, h => by
    have hn1 := numN_le h
    have hge := numN_ge ps n
    obtain ⟨n1, e1⟩ : ∃ x, x = numN ps n := ⟨_, rfl⟩
    have hstep : ps.length ≤ n1 ∨ n1 = n + 1 := by
      rw [e1]
      unfold numN
      by_cases hx : ps.length ≤ n
      · rw [if_pos hx]; exact .inl hx
      · rw [if_neg hx]; exact .inr rfl
    have hstep2 : n1 = n → ps.length ≤ n1 := by
      intro he
      rcases hstep with hs | hs
      · exact hs
      · omega
    rw [← e1] at hn1 hge
    have ih1 := rxP_bulk ps N (deep + 1) n1 hn1
    obtain ⟨tx, ex⟩ : ∃ x, x = (rxP ps N (deep + 1) n1).1 := ⟨_, rfl⟩
    obtain ⟨n2, e2⟩ : ∃ x, x = (rxP ps N (deep + 1) n1).2 := ⟨_, rfl⟩
    rw [← ex, ← e2] at ih1
    have ih2 := rxP_bulk ps N (deep + 1) n2 ih1.2.2
    obtain ⟨ty, ey⟩ : ∃ x, x = (rxP ps N (deep + 1) n2).1 := ⟨_, rfl⟩
    obtain ⟨n3, e3⟩ : ∃ x, x = (rxP ps N (deep + 1) n2).2 := ⟨_, rfl⟩
    rw [← ey, ← e3] at ih2
    have hs := setP_rn ps n1
    have hb := bulk_bytes (setP ps n1).1
    have hc := bulk_cat [tx, ty]
    have ha := bulk_alt [tx, ty]
    have hst := bulk_star tx
    have hm1 := numN_ge ps n1
    have hm2 := numN_le hn1
    simp only [bulkL] at hc ha
    simp only [rxP]
    rw [← e1, ← ex, ← e2, ← ey, ← e3]
    by_cases hl : ps.length ≤ n1 ∨ 8 < deep ∨ numV ps n 9 < 3
    · rw [if_pos hl]
      by_cases hl2 : ps.length ≤ n1 ∨ 0 < numV ps n 9
      · rw [if_pos hl2]
        refine ⟨?_, by show n ≤ (setP ps n1).2; omega, hs.2.2.1 hn1⟩
        show (bytesT (setP ps n1).1).bulk + 21 * n ≤ 21 * (setP ps n1).2 + 13
        by_cases ho : ps.length ≤ n1
        · have := hs.2.2.2 ho
          omega
        · have : n + 1 ≤ n1 := by
            rcases hstep with hq | hq
            · exact absurd hq ho
            · omega
          omega
      · rw [if_neg hl2]
        split
        · exact ⟨by show 4 + 0 + 0 + 21 * n ≤ 21 * numN ps n1 + 13; omega, by show n ≤ numN ps n1; omega, hm2⟩
        · exact ⟨by show 4 + 0 + 0 + 21 * n ≤ 21 * numN ps n1 + 13; omega, by show n ≤ numN ps n1; omega, hm2⟩
    · rw [if_neg hl]
      have hno : ¬ ps.length ≤ n1 := fun hq => hl (.inl hq)
      have hn : n1 = n + 1 := hstep.resolve_left hno
      split
      · exact ⟨by show (catT [tx, ty]).bulk + 21 * n ≤ 21 * n3 + 13; omega, by show n ≤ n3; omega, ih2.2.2⟩
      · split
        · exact ⟨by show (altT [tx, ty]).bulk + 21 * n ≤ 21 * n3 + 13; omega, by show n ≤ n3; omega, ih2.2.2⟩
        · exact ⟨by show (starT tx).bulk + 21 * n ≤ 21 * n2 + 13; omega, by show n ≤ n2; omega, ih1.2.2⟩
theorem madeT_len (ps : List UInt8) : (textT (madeT ps)).length ≤ 21 * ps.length + 11 := by
  have h1 := rxP_bulk ps 10 0 0 (Nat.zero_le _)
  have h2 := text_bulk (madeT ps)
  have h3 : (madeT ps).bulk = (rxP ps 10 0 0).1.bulk := rfl
  omega
mutual
theorem text_ne : ∀ t : T, plainT t = true → textT t ≠ []
  | .node k s l, h => by
    have hc := cat_ne l
    simp only [plainT, Bool.and_eq_true, Bool.or_eq_true, decide_eq_true_eq] at h
    obtain ⟨⟨⟨p1, p2⟩, p3⟩, p4⟩ := h
    simp only [textT]
    by_cases k1 : k = 1
    · rw [if_pos k1]; simp
    rw [if_neg k1]
    by_cases k2 : k = 2
    · rw [if_pos k2]; simp
    rw [if_neg k2]
    by_cases k3 : k = 3
    · rw [if_pos k3]
      intro he
      unfold setB at he
      by_cases c1 : (memN s).length = 256
      · rw [if_pos c1] at he; cases he
      · rw [if_neg c1] at he
        by_cases c2 : (memN s).length = 1
        · rw [if_pos c2] at he
          have h2 := signB_len ((memN s).headD 0)
          rw [he] at h2
          simp at h2
        · rw [if_neg c2] at he; cases he
    rw [if_neg k3]
    by_cases k6 : k = 6
    · rw [if_pos k6]
      have hl : l.length = 1 := by
        unfold countT at p2
        rw [if_neg k3, if_neg (by omega), if_neg (by omega)] at p2
        simp only [Bool.and_eq_true, decide_eq_true_eq] at p2
        exact p2.2
      match l, hl with
      | [x], _ =>
        simp only [starL]
        split <;> simp
    rw [if_neg k6]
    have h2 : 2 ≤ l.length := by
      unfold countT at p2
      rw [if_neg k3, if_neg (by omega)] at p2
      by_cases h45 : k = 4 ∨ k = 5
      · rw [if_pos h45] at p2
        simpa using p2
      · rw [if_neg h45] at p2
        simp [k6] at p2
    by_cases k4 : k = 4
    · rw [if_pos k4]
      exact hc (fun t ht => (plainL_iff.1 p3 t ht).2) (by intro he; rw [he] at h2; simp at h2)
    · rw [if_neg k4]
      match l, h2 with
      | a :: b :: r, _ =>
        simp [altL]
theorem cat_ne : ∀ l : List T, (∀ t ∈ l, plainT t = true) → l ≠ [] → catL l ≠ []
  | [], _, h => absurd rfl h
  | x :: r, h, _ => by
    have hx := text_ne x (h x (by simp))
    simp only [catL]
    split
    · simp
    · intro he
      exact hx (List.append_eq_nil_iff.1 he).1
end
theorem madeT_shown (ps : List UInt8) (h : ps.length ≤ 100) : showT (madeT ps) = textT (madeT ps) ∧ showT (madeT ps) ≠ [] := by
  have hp := (madeT_good ps).2
  have hl := madeT_len ps
  have e : showT (madeT ps) = textT (madeT ps) := by
    unfold showT
    rw [if_pos ⟨hp, by omega⟩]
  exact ⟨e, by rw [e]; exact text_ne _ hp⟩
end Go.Proofs.YtmlojjgddmnbmaaDoor
