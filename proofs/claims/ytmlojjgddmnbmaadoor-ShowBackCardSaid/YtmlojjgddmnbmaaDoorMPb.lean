/-
  Texts of this proof, put together: (PrA) The document's answer to parse: the reader's small functions. No statement is proved here. (PrB) The document's answer to parse, where a text is one: a sign. No statement is proved here. (PrC) The document's answer to parse, where a text is one: a class. No statement is proved here. (PrD) The document's answer to parse, where a text is one: what was made may be. No statement is proved here. (PrE) Texts of plain expressions, part by part: alternatives, sequences, what may be repeated. No statement is proved here. (PrF) Texts of plain expressions: how parts begin, how great they are. No statement is proved here. (PrG) The document's answer to parse, where a text is one: an atom. No statement is proved here. (PrH) The document's answer to parse, where a text is one: every atom; what may be repeated. No statement is proved here. (PrI) The document's answer to parse, where a text is one: alternatives. No statement is proved here. (PrJ) The document's answer to parse, where a text is one: every expression of the kind that constructors make. No statement is proved here. (PrK) The document's answer to parse: Parse, of the text of an expression that constructors make, or of a text that is too long. No statement is proved here. (ShP) What numbers make is neat, and not deep. No statement is proved here. (ShQ) No two plain expressions that numbers make have one text. No statement is proved here.
-/
import Derived.Test.YtmlojjgddmnbmaaDoorMEb
import Derived.Test.YtmlojjgddmnbmaaDoorMDb
import Derived.Test.YtmlojjgddmnbmaaDoorMC
namespace Go.Proofs.YtmlojjgddmnbmaaDoor
open Go.RowKit
set_option linter.unusedSimpArgs false
set_option linter.unusedVariables false

/-- A reader's state: the next byte's place, the brackets that are open, where it is none (if so), is it too much. -/
structure St where
  at_ : Nat
  deep : Nat
  bad : Option Nat
  much : Bool
def St.badI (s : St) : Int := match s.bad with
  | none => -1
  | some n => (n : Int)
def St.over (s : St) : Bool := s.bad.isSome || s.much
def St.fail (s : St) (n : Nat) : St := if s.over then s else { s with bad := some n }
def stc (S : ByteArray) (s : St) : List Value := [.string S, .int .i64 (s.at_ : Int), .int .i64 (s.deep : Int), .int .i64 s.badI, .bool s.much]
/-- Block g holds a reader of the text S. -/
def Rd (w : World) (g : Nat) (S : ByteArray) (s : St) : Prop := Blk w g 56 (stc S s)
theorem badI_over (s : St) : decide (0 ≤ s.badI) = s.bad.isSome := by
  unfold St.badI
  cases s.bad with
  | none => rfl
  | some n => simp
set_option maxHeartbeats 4000000 in
set_option maxRecDepth 1000000 in
theorem rdOver_any (w : World) (g : Nat) (S : ByteArray) (s : St) (h : Rd w g S s) :
    Calls Tryd.prog 30 #[.pointer (some ⟨g, 0, none⟩)] w fun e w' => e = .returned (.bool s.over) ∧ Below w.heap.size w w' := by
  have c3 : w.cell? ⟨g, 3, none⟩ = some (.int .i64 s.badI) := h.cell 3
  have c4 : w.cell? ⟨g, 4, none⟩ = some (.bool s.much) := h.cell 4
  have HO := Lib.hid (show s.over = (s.bad.isSome || s.much) from rfl)
  have HI := Lib.hid (badI_over s)
  obtain ⟨b, hb⟩ : ∃ b, b = s.badI := ⟨_, rfl⟩
  obtain ⟨m, hm⟩ : ∃ m, m = s.much := ⟨_, rfl⟩
  obtain ⟨r, hr⟩ : ∃ r, r = s.over := ⟨_, rfl⟩
  rw [← hb] at c3 HI
  rw [← hm] at c4 HO
  rw [← hr] at HO ⊢
  clear h hb hm hr
  by_cases h0 : 0 ≤ b
  · have d1 : (0 : Int) ≤ b := h0
    have HR := Lib.hid (show r = true by rw [HO.out, ← HI.out, decide_eq_true h0]; rfl)
    clear h0
    go_enter Tryd.func30, Tryd.ntmps30
    go_wp2_with fail
    go_ret
    rw [HR.out]
    exact ⟨rfl, Below.refl _ _⟩
  · have d1 : ¬ ((0 : Int) ≤ b) := h0
    have HR := Lib.hid (show r = m by rw [HO.out, ← HI.out, decide_eq_false h0]; rfl)
    clear h0
    go_enter Tryd.func30, Tryd.ntmps30
    go_wp2_with fail
    go_ret
    rw [HR.out]
    exact ⟨rfl, Below.refl _ _⟩
set_option maxHeartbeats 4000000 in
set_option maxRecDepth 1000000 in
theorem rdNext_any (w : World) (g : Nat) (l : List UInt8) (S : ByteArray) (hS : S = ⟨l.toArray⟩) (s : St) (h : Rd w g S s) (hl : l.length ≤ 1048576) (ha : s.at_ ≤ 1048576) :
    Calls Tryd.prog 58 #[.pointer (some ⟨g, 0, none⟩)] w fun e w' => e = .returned (.tuple #[.int .u8 (((l.getD s.at_ 0).toNat : Nat) : Int), .bool (decide (s.at_ < l.length))]) ∧ Below w.heap.size w w' := by
  have hsz : S.size = l.length := by rw [hS, str_sizeOf]
  have c0 : w.cell? ⟨g, 0, none⟩ = some (.string S) := h.cell 0
  have c1 : w.cell? ⟨g, 1, none⟩ = some (.int .i64 (s.at_ : Int)) := h.cell 1
  obtain ⟨a, haa⟩ : ∃ a, a = s.at_ := ⟨_, rfl⟩
  rw [← haa] at c1 ha ⊢
  have HS := Lib.hid hS
  have HZ := Lib.hid hsz
  clear h hS hsz haa
  by_cases hal : a < l.length
  · have i1 : (a : Int) < (S.size : Int) := by have := HZ.out; omega
    have hix := ix_strOf (P := Tryd.prog) 9 Tryd.underlying9 l S HS.out a hal
    obtain ⟨x, hx⟩ : ∃ x : Nat, x = l[a].toNat := ⟨_, rfl⟩
    rw [← hx] at hix
    have HX := Lib.hid (show ((l.getD a 0).toNat : Nat) = x by rw [hx, List.getD_eq_getElem?_getD, List.getElem?_eq_getElem hal]; rfl)
    have HD := Lib.hid (decide_eq_true hal)
    clear hx hal
    go_enter Tryd.func58, Tryd.ntmps58
    go_wp2_with fail
    go_quiet (fail)
    go_wp2_with fail
    go_quiet (fail)
    go_wp2_with fail
    go_ret2
    rw [HX.out, HD.out]
    exact ⟨rfl, below_drewN (below_drewN (Below.refl _ _) _) _⟩
  · have i1 : ¬ ((a : Int) < (S.size : Int)) := by have := HZ.out; omega
    have HX := Lib.hid (show ((l.getD a 0).toNat : Nat) = 0 by rw [List.getD_eq_getElem?_getD, List.getElem?_eq_none (by omega)]; rfl)
    have HD := Lib.hid (decide_eq_false hal)
    clear hal
    go_enter Tryd.func58, Tryd.ntmps58
    go_wp2_with fail
    go_quiet (fail)
    go_wp2_with fail
    go_ret2
    rw [HX.out, HD.out]
    exact ⟨rfl, below_drewN (Below.refl _ _) _⟩
set_option maxHeartbeats 4000000 in
set_option maxRecDepth 1000000 in
theorem rdIs_any (w : World) (g : Nat) (l : List UInt8) (S : ByteArray) (hS : S = ⟨l.toArray⟩) (s : St) (h : Rd w g S s) (hl : l.length ≤ 1048576) (ha : s.at_ ≤ 1048576) (c : Nat) (r : Bool) (hr : (decide (s.at_ < l.length) && decide ((l.getD s.at_ 0).toNat = c)) = r) :
    Calls Tryd.prog 45 #[.pointer (some ⟨g, 0, none⟩), .int .u8 (c : Int)] w fun e w' => e = .returned (.bool r) ∧ Below w.heap.size w w' := by
  have HN := Lib.hid (rdNext_any w g l S hS s h hl ha)
  have HR := Lib.hid hr
  clear h hS hl hr
  obtain ⟨x, hx⟩ : ∃ x, x = (l.getD s.at_ 0).toNat := ⟨_, rfl⟩
  obtain ⟨b, hb⟩ : ∃ b, b = decide (s.at_ < l.length) := ⟨_, rfl⟩
  rw [← hx, ← hb] at HN HR
  clear hx hb ha
  cases b with
  | false =>
    have HF := Lib.hid (show r = false by rw [← HR.out]; rfl)
    go_enter Tryd.func45, Tryd.ntmps45
    go_wp2_with fail
    refine HN.out.mono ?_
    rintro e w1 ⟨rfl, hb⟩
    have B1 := Lib.hid hb
    clear hb
    go_wp2_with fail
    go_ret
    rw [HF.out]
    exact ⟨rfl, B1.out⟩
  | true =>
    by_cases hxc : x = c
    · have q : ((x : Int) == (c : Int)) = true := by rw [beq_iff_eq]; omega
      have HF := Lib.hid (show r = true by rw [← HR.out, decide_eq_true hxc]; rfl)
      clear hxc
      go_enter Tryd.func45, Tryd.ntmps45
      go_wp2_with fail
      refine HN.out.mono ?_
      rintro e w1 ⟨rfl, hb⟩
      have B1 := Lib.hid hb
      clear hb
      go_wp2_with fail
      go_ret
      rw [HF.out]
      exact ⟨rfl, B1.out⟩
    · have q : ((x : Int) == (c : Int)) = false := by rw [beq_eq_false_iff_ne]; omega
      have HF := Lib.hid (show r = false by rw [← HR.out, decide_eq_false hxc]; rfl)
      clear hxc
      go_enter Tryd.func45, Tryd.ntmps45
      go_wp2_with fail
      refine HN.out.mono ?_
      rintro e w1 ⟨rfl, hb⟩
      have B1 := Lib.hid hb
      clear hb
      go_wp2_with fail
      go_ret
      rw [HF.out]
      exact ⟨rfl, B1.out⟩
end Go.Proofs.YtmlojjgddmnbmaaDoor
namespace Go.Proofs.YtmlojjgddmnbmaaDoor
open Go.RowKit
set_option linter.unusedSimpArgs false
set_option linter.unusedVariables false

/-- Block g holds a reader of S at place a, d brackets open, with nothing wrong so far. -/
def Rg (w : World) (g : Nat) (S : ByteArray) (a d : Nat) : Prop := Rd w g S ⟨a, d, none, false⟩
section
variable {w w' : World} {g a d : Nat} {S : ByteArray}
theorem Rg.lt (h : Rg w g S a d) : g < w.heap.size := Blk.lt h
theorem Rg.below (h : Rg w g S a d) (hb : Below w.heap.size w w') : Rg w' g S a d := Blk.below (B := w.heap.size) h hb (Blk.lt h)
theorem Rg.set1 (h : Rg w g S a d) (n : Nat) : Rg (w.setCell ⟨g, 1, none⟩ (.int .i64 (n : Int))) g S n d := Blk.set (cs := stc S ⟨a, d, none, false⟩) h 1 (.int .i64 (n : Int))
theorem Rg.set2 (h : Rg w g S a d) (n : Nat) : Rg (w.setCell ⟨g, 2, none⟩ (.int .i64 (n : Int))) g S a n := Blk.set (cs := stc S ⟨a, d, none, false⟩) h 2 (.int .i64 (n : Int))
theorem Rg.c0 (h : Rg w g S a d) : w.cell? ⟨g, 0, none⟩ = some (.string S) := Blk.cell (cs := stc S ⟨a, d, none, false⟩) h 0
theorem Rg.c1 (h : Rg w g S a d) : w.cell? ⟨g, 1, none⟩ = some (.int .i64 (a : Int)) := Blk.cell (cs := stc S ⟨a, d, none, false⟩) h 1
theorem Rg.c2 (h : Rg w g S a d) : w.cell? ⟨g, 2, none⟩ = some (.int .i64 (d : Int)) := Blk.cell (cs := stc S ⟨a, d, none, false⟩) h 2
theorem Rg.c3 (h : Rg w g S a d) : w.cell? ⟨g, 3, none⟩ = some (.int .i64 (-1)) := Blk.cell (cs := stc S ⟨a, d, none, false⟩) h 3
theorem Rg.c4 (h : Rg w g S a d) : w.cell? ⟨g, 4, none⟩ = some (.bool false) := Blk.cell (cs := stc S ⟨a, d, none, false⟩) h 4
theorem Rg.fz (h : Rg w g S a d) (i : Nat) : w.frozen? ⟨g, i, none⟩ = false := Blk.frozen h i
theorem Rg.at1 (h : Rg w g S a d) (e : Int) (n : Nat) (he : e = (n : Int)) : Rg (w.setCell ⟨g, 1, none⟩ (.int .i64 e)) g S n d ∧ w.grownBy (w.setCell ⟨g, 1, none⟩ (.int .i64 e)) (some g) := by
  subst he
  exact ⟨h.set1 n, grown_setCell (below_grownG g (Below.refl _ _))⟩
theorem Rg.at2 (h : Rg w g S a d) (e : Int) (n : Nat) (he : e = (n : Int)) : Rg (w.setCell ⟨g, 2, none⟩ (.int .i64 e)) g S a n ∧ w.grownBy (w.setCell ⟨g, 2, none⟩ (.int .i64 e)) (some g) := by
  subst he
  exact ⟨h.set2 n, grown_setCell (below_grownG g (Below.refl _ _))⟩
end
theorem over_no (w : World) (g : Nat) (S : ByteArray) (a d : Nat) (h : Rg w g S a d) :
    Calls Tryd.prog 30 #[.pointer (some ⟨g, 0, none⟩)] w fun e w' => e = .returned (.bool false) ∧ Below w.heap.size w w' := rdOver_any w g S _ h
/-- The byte at place a, as a number. -/
def byteAt (l : List UInt8) (a : Nat) : Nat := (l.getD a 0).toNat
theorem next_at (w : World) (g : Nat) (l : List UInt8) (S : ByteArray) (hS : S = ⟨l.toArray⟩) (a d : Nat) (h : Rg w g S a d) (hl : l.length ≤ 200) (ha : a < l.length) (c : Nat) (hc : byteAt l a = c) :
    Calls Tryd.prog 58 #[.pointer (some ⟨g, 0, none⟩)] w fun e w' => e = .returned (.tuple #[.int .u8 (c : Int), .bool true]) ∧ Below w.heap.size w w' := by
  have h1 := rdNext_any w g l S hS _ h (by omega) (by show a ≤ 1048576; omega)
  have e1 : (l.getD (St.at_ ⟨a, d, none, false⟩) 0).toNat = c := hc
  have e2 : decide ((St.at_ ⟨a, d, none, false⟩) < l.length) = true := decide_eq_true ha
  rw [e1, e2] at h1
  exact h1
theorem is_at (w : World) (g : Nat) (l : List UInt8) (S : ByteArray) (hS : S = ⟨l.toArray⟩) (a d : Nat) (h : Rg w g S a d) (hl : l.length ≤ 200) (ha : a ≤ l.length) (c : Nat) (r : Bool) (hr : (decide (a < l.length) && decide (byteAt l a = c)) = r) :
    Calls Tryd.prog 45 #[.pointer (some ⟨g, 0, none⟩), .int .u8 (c : Int)] w fun e w' => e = .returned (.bool r) ∧ Below w.heap.size w w' :=
  rdIs_any w g l S hS _ h (by omega) (by show a ≤ 1048576; omega) c r hr
theorem step_wrap (a : Nat) (h : a ≤ 1000) : wrap64 ((a : Int) + 1) = ((a + 1 : Nat) : Int) := wrapN64 a (by omega)
theorem step_wrap' (a : Nat) (h : a ≤ 1000) : IntKind.i64.wrap ((a : Int) + 1) = ((a + 1 : Nat) : Int) := wrapN64' a (by omega)

/-! ### a sign -/
theorem hex_code : ∀ n : Fin 16, (hexB n.val).toNat = if n.val < 10 then 48 + n.val else 87 + n.val := by decide +kernel
set_option maxHeartbeats 1000000 in
set_option maxRecDepth 100000 in
theorem hexD_any (n : Nat) (hn : n < 16) (x : Nat) (hx : x = (hexB n).toNat) (w : World) :
    Calls Tryd.prog 82 #[.int .u8 (x : Int)] w fun e w' => e = .returned (.int .i64 (n : Int)) ∧ w' = w := by
  have hc := hex_code ⟨n, hn⟩
  simp only at hc
  rw [← hx] at hc
  have f1 : IntKind.i64.wrap (n : Int) = (n : Int) := IntWalk.i64_in _ (by omega)
  by_cases h10 : n < 10
  · rw [if_pos h10] at hc
    have d1 : (x : Int) ≥ 48 := by omega
    have d2 : (x : Int) ≤ 57 := by omega
    have e1 : IntKind.u8.wrap ((x : Int) - 48) = (n : Int) := by rw [show (x : Int) - 48 = (n : Int) by omega]; exact wrap_u8 (by omega)
    clear hx hc h10
    go_enter Tryd.func82, Tryd.ntmps82
    go_wp2_with fail
    go_ret
    exact ⟨rfl, rfl⟩
  · rw [if_neg h10] at hc
    have d1 : (x : Int) ≥ 48 := by omega
    have d2 : ¬ ((x : Int) ≤ 57) := by omega
    have d3 : (x : Int) ≥ 97 := by omega
    have d4 : (x : Int) ≤ 102 := by omega
    obtain ⟨m, hm⟩ : ∃ m, n = m + 10 := ⟨n - 10, by omega⟩
    have e1 : IntKind.u8.wrap ((x : Int) - 97) = (m : Int) := by rw [show (x : Int) - 97 = (m : Int) by omega]; exact wrap_u8 (by omega)
    have f2 : IntKind.i64.wrap (m : Int) = (m : Int) := IntWalk.i64_in _ (by omega)
    have f3 : wrap64 ((m : Int) + 10) = (n : Int) := by rw [show (m : Int) + 10 = (n : Int) by omega]; exact IntWalk.wrap64_in _ (by omega)
    have f4 : IntKind.i64.wrap ((m : Int) + 10) = (n : Int) := by rw [show (m : Int) + 10 = (n : Int) by omega]; exact f1
    have HM := Lib.hid hm
    clear hx hc h10 hm
    go_enter Tryd.func82, Tryd.ntmps82
    go_wp2_with fail
    go_ret
    exact ⟨rfl, rfl⟩
theorem bAt {l : List UInt8} {a : Nat} {c : UInt8} (h : l[a]? = some c) : byteAt l a = c.toNat ∧ a < l.length := by
  obtain ⟨h1, h2⟩ := List.getElem?_eq_some_iff.1 h
  refine ⟨?_, h1⟩
  unfold byteAt
  rw [List.getD_eq_getElem?_getD, h]
  rfl
/-- What stands from place a on. -/
theorem at_drop {l : List UInt8} {a : Nat} {p r : List UInt8} (h : l.drop a = p ++ r) {i : Nat} {c : UInt8} (hc : p[i]? = some c) : l[a + i]? = some c := by
  rw [← List.getElem?_drop, h, List.getElem?_append_left (List.getElem?_eq_some_iff.1 hc).1]
  exact hc
theorem drop_on {l : List UInt8} {a : Nat} {p r : List UInt8} (h : l.drop a = p ++ r) : l.drop (a + p.length) = r := by
  rw [← List.drop_drop, h, List.drop_left]
theorem drop_len {l : List UInt8} {a : Nat} {p r : List UInt8} (h : l.drop a = p ++ r) (hp : p ≠ [] ∨ a ≤ l.length) : a + p.length + r.length = l.length := by
  have h1 := congrArg List.length h
  rw [List.length_drop, List.length_append] at h1
  rcases hp with hp | hp
  · have : 0 < p.length := List.length_pos_iff.2 hp
    omega
  · omega
theorem addw {a b : Nat} (ha : a ≤ 1000) (hb : b ≤ 1000) : wrap64 ((a : Int) + (b : Int)) = ((a + b : Nat) : Int) := by rw [← Int.natCast_add]; exact IntWalk.wrap64_in _ (by omega)
theorem addw' {a b : Nat} (ha : a ≤ 1000) (hb : b ≤ 1000) : IntKind.i64.wrap ((a : Int) + (b : Int)) = ((a + b : Nat) : Int) := by rw [← Int.natCast_add]; exact IntWalk.i64_in _ (by omega)
theorem mulw {a : Nat} (ha : a ≤ 1000) : wrap64 ((a : Int) * 16) = ((a * 16 : Nat) : Int) := by rw [show (a : Int) * 16 = ((a * 16 : Nat) : Int) by omega]; exact IntWalk.wrap64_in _ (by omega)
theorem mulw' {a : Nat} (ha : a ≤ 1000) : IntKind.i64.wrap ((a : Int) * 16) = ((a * 16 : Nat) : Int) := by rw [show (a : Int) * 16 = ((a * 16 : Nat) : Int) by omega]; exact IntWalk.i64_in _ (by omega)
def gotS (w : World) (g : Nat) (S : ByteArray) (a d c : Nat) (e : Ending) (w' : World) : Prop := e = .returned (.int .u8 (c : Int)) ∧ w.grownBy w' (some g) ∧ Rg w' g S a d
set_option maxHeartbeats 4000000 in
set_option maxRecDepth 1000000 in
theorem escA_any (w : World) (g : Nat) (l : List UInt8) (S : ByteArray) (hS : S = ⟨l.toArray⟩) (a d c : Nat) (hl : l.length ≤ 200) (h : Rg w g S a d) (hc : byteAt l (a + 1) = c) (hlt : a + 1 < l.length) (hin : inB escs c = true) :
    Calls Tryd.prog 79 #[.pointer (some ⟨g, 0, none⟩)] w fun e w' => gotS w g S (a + 2) d c e w' := by
  have H := Lib.hid h
  have HS := Lib.hid hS
  have HC := Lib.hid hc
  have HL := Lib.hid hl
  have HLT := Lib.hid hlt
  have HIN := Lib.hid (fun w => refIn_any escs ⟨escs.toArray⟩ rfl c w (by decide))
  rw [hin] at HIN
  have c1 := h.c1
  have z1 := h.fz 1
  have e1 := step_wrap a (by omega)
  have e2 := step_wrap' a (by omega)
  clear h hS hc hl hlt hin
  go_enter Tryd.func79, Tryd.ntmps79
  go_wp2_with fail
  obtain ⟨b, hb⟩ : ∃ x, x = a + 1 := ⟨_, rfl⟩
  obtain ⟨w1, hw1⟩ : ∃ x, x = World.setCell w ⟨g, 1, none⟩ (.int .i64 ((a : Int) + 1)) := ⟨_, rfl⟩
  have rw1 := H.out.at1 ((a : Int) + 1) b (by rw [hb]; rfl)
  rw [← hw1] at rw1 ⊢
  have Rw1 := Lib.hid rw1.1
  have Gw1 := Lib.hid rw1.2
  have Eb := Lib.hid hb
  clear hw1 rw1 hb
  clear c1 z1 e1 e2
  refine (next_at w1 g l S HS.out b d Rw1.out HL.out (by rw [Eb.out]; exact HLT.out) c (by rw [Eb.out]; exact HC.out)).mono ?_
  rintro e w2 ⟨rfl, hb⟩
  have Rw2 := Lib.hid (Rw1.out.below hb)
  have Gw2 := Lib.hid (grownG_trans Gw1.out (below_grownG g hb))
  clear hb
  have cw2 := Rw2.out.c1
  have zw2 := Rw2.out.fz 1
  have ew2 := step_wrap b (by have := Eb.out; have := HLT.out; have := HL.out; omega)
  have fw2 := step_wrap' b (by have := Eb.out; have := HLT.out; have := HL.out; omega)
  go_wp2_with fail
  refine (HIN.out w2).mono ?_
  rintro e w3 ⟨rfl, hw⟩
  have hw' := hw.symm
  subst hw'
  go_wp2_with fail
  obtain ⟨k, hk⟩ : ∃ x, x = b + 1 := ⟨_, rfl⟩
  obtain ⟨w4, hw4⟩ : ∃ x, x = World.setCell w2 ⟨g, 1, none⟩ (.int .i64 ((b : Int) + 1)) := ⟨_, rfl⟩
  have rw4 := Rw2.out.at1 ((b : Int) + 1) k (by rw [hk]; rfl)
  rw [← hw4] at rw4 ⊢
  have Rw4 := Lib.hid rw4.1
  have Gw4 := Lib.hid rw4.2
  have Ek := Lib.hid hk
  clear hw4 rw4 hk
  go_ret
  exact ⟨rfl, grownG_trans Gw2.out Gw4.out, by have := Rw4.out; rw [Ek.out, Eb.out] at this; exact this⟩
set_option maxHeartbeats 4000000 in
set_option maxRecDepth 1000000 in
theorem escB_any (w : World) (g : Nat) (l : List UInt8) (S : ByteArray) (hS : S = ⟨l.toArray⟩) (a d c : Nat) (hl : l.length ≤ 200) (h : Rg w g S a d) (hc : c < 256) (h1 : byteAt l (a + 1) = 120) (h2 : byteAt l (a + 2) = (hexB (c / 16)).toNat) (h3 : byteAt l (a + 3) = (hexB (c % 16)).toNat) (hlt : a + 3 < l.length) :
    Calls Tryd.prog 79 #[.pointer (some ⟨g, 0, none⟩)] w fun e w' => gotS w g S (a + 4) d c e w' := by
  have H := Lib.hid h
  have HS := Lib.hid hS
  have HC := Lib.hid hc
  have H1 := Lib.hid h1
  have H2 := Lib.hid h2
  have H3 := Lib.hid h3
  have HL := Lib.hid hl
  have HLT := Lib.hid hlt
  have HIN := Lib.hid (fun w => refIn_any escs ⟨escs.toArray⟩ rfl 120 w (by decide))
  rw [show inB escs 120 = false by decide] at HIN
  have c1 := h.c1
  have z1 := h.fz 1
  have e1 := step_wrap a (by omega)
  have e2 := step_wrap' a (by omega)
  have e9 : IntKind.u8.wrap (c : Int) = (c : Int) := wrap_u8 hc
  clear h hS hc hl hlt h1 h2 h3
  go_enter Tryd.func79, Tryd.ntmps79
  go_wp2_with fail
  obtain ⟨b, hb⟩ : ∃ x, x = a + 1 := ⟨_, rfl⟩
  obtain ⟨w1, hw1⟩ : ∃ x, x = World.setCell w ⟨g, 1, none⟩ (.int .i64 ((a : Int) + 1)) := ⟨_, rfl⟩
  have rw1 := H.out.at1 ((a : Int) + 1) b (by rw [hb]; rfl)
  rw [← hw1] at rw1 ⊢
  have Rw1 := Lib.hid rw1.1
  have Gw1 := Lib.hid rw1.2
  have Eb := Lib.hid hb
  clear hw1 rw1 hb
  clear c1 z1 e1 e2
  refine (next_at w1 g l S HS.out b d Rw1.out HL.out (by have := Eb.out; have := HLT.out; omega) 120 (by rw [Eb.out]; exact H1.out)).mono ?_
  rintro e w2 ⟨rfl, hb⟩
  have Rw2 := Lib.hid (Rw1.out.below hb)
  have Gw2 := Lib.hid (grownG_trans Gw1.out (below_grownG g hb))
  clear hb
  go_wp2_with fail
  refine (show Calls Tryd.prog 70 #[.string ⟨escs.toArray⟩, .int .u8 120] w2 _ from HIN.out w2).mono ?_
  rintro e w3 ⟨rfl, hw⟩
  have hw' := hw.symm
  subst hw'
  clear hw
  go_wp2_with fail
  go_loopw [3, 4, 5, 6] (fun _ _ v i wl => ∃ (j k u : Nat), j ≤ 2 ∧ i = .int .i64 (j : Int) ∧ v = .int .i64 (u : Int) ∧ Hid (k = a + 1 + j) ∧ Hid ((j = 0 ∧ u = 0) ∨ (j = 1 ∧ u = c / 16) ∨ (j = 2 ∧ u = c)) ∧ Hid (Rg wl g S k d) ∧ Hid (w.grownBy wl (some g))) (fun _ _ _ i _ => 2 - (intOf i).toNat)
  case atStart => exact ⟨0, b, 0, by omega, by simp, by simp, Lib.hid (by have := Eb.out; omega), Lib.hid (.inl ⟨rfl, rfl⟩), Rw2, Gw2⟩
  case round =>
    obtain ⟨j, k, u, hj, rfl, rfl, HK, HU, RK, GK⟩ := hrel
    by_cases hjl : j < 2
    · have j1 : (j : Int) < 2 := by omega
      obtain ⟨n, hn⟩ : ∃ n, n = if j = 0 then c / 16 else c % 16 := ⟨_, rfl⟩
      have hn16 : n < 16 := by rw [hn]; have := HC.out; split <;> omega
      have hu : u ≤ 15 := by have := HC.out; rcases HU.out with ⟨_, h⟩ | ⟨_, h⟩ | ⟨h, _⟩ <;> omega
      have HB := Lib.hid (show byteAt l (k + 1) = (hexB n).toNat by
        rw [HK.out, hn]
        by_cases h0 : j = 0
        · rw [if_pos h0, h0]; exact H2.out
        · rw [if_neg h0, show j = 1 by omega]; exact H3.out)
      have HKL := Lib.hid (show k + 1 < l.length by have := HK.out; have := HLT.out; omega)
      obtain ⟨x, hx⟩ : ∃ x, x = (hexB n).toNat := ⟨_, rfl⟩
      have HX := Lib.hid hx
      have HD := Lib.hid (hexD_any n hn16 x hx)
      have HNU := Lib.hid (show (j + 1 = 0 ∧ u * 16 + n = 0) ∨ (j + 1 = 1 ∧ u * 16 + n = c / 16) ∨ (j + 1 = 2 ∧ u * 16 + n = c) by
        rcases HU.out with ⟨h, h'⟩ | ⟨h, h'⟩ | ⟨h, _⟩
        · rw [if_pos h] at hn; exact .inr (.inl ⟨by omega, by omega⟩)
        · rw [if_neg (by omega)] at hn; exact .inr (.inr ⟨by omega, by omega⟩)
        · omega)
      clear hn
      have n0 : ¬ ((n : Int) < 0) := by omega
      have hj1 : j ≤ 1000 := by omega
      have hk1 : k ≤ 1000 := by have := HKL.out; have := HL.out; omega
      have hu1 : u ≤ 1000 := Nat.le_trans hu (by decide)
      have m1 := mulw hu1
      have m2 := mulw' hu1
      obtain ⟨v, hv⟩ : ∃ v, v = u * 16 := ⟨_, rfl⟩
      rw [← hv] at m1 m2
      have hv1 : v ≤ 1000 := by rw [hv]; exact Nat.le_trans (Nat.mul_le_mul_right 16 hu) (by decide)
      have hn1 : n ≤ 1000 := Nat.le_trans (Nat.le_of_lt hn16) (by decide)
      have m3 := addw (a := v) (b := n) hv1 hn1
      have m4 := addw' (a := v) (b := n) hv1 hn1
      have q1 := step_wrap j hj1
      have q2 := step_wrap' j hj1
      have c1 := RK.out.c1
      have z1 := RK.out.fz 1
      have e1 := step_wrap k hk1
      have e2 := step_wrap' k hk1
      have HV := Lib.hid hv
      clear hn16 hu hx hv hv1 hu1 hn1 hj1 hk1
      go_wp2_with fail
      obtain ⟨p, hp⟩ : ∃ x, x = k + 1 := ⟨_, rfl⟩
      obtain ⟨w4, hw4⟩ : ∃ x, x = World.setCell wr ⟨g, 1, none⟩ (.int .i64 ((k : Int) + 1)) := ⟨_, rfl⟩
      have rw4 := RK.out.at1 ((k : Int) + 1) p (by rw [hp]; rfl)
      rw [← hw4] at rw4 ⊢
      have Rw4 := Lib.hid rw4.1
      have Gw4 := Lib.hid rw4.2
      have Ep := Lib.hid hp
      clear hw4 rw4 hp
      clear c1 z1 e1 e2
      refine (next_at w4 g l S HS.out p d Rw4.out HL.out (by rw [Ep.out]; exact HKL.out) x (by rw [Ep.out, HX.out]; exact HB.out)).mono ?_
      rintro e w5 ⟨rfl, hb⟩
      have Rw5 := Lib.hid (Rw4.out.below hb)
      have Gw5 := Lib.hid (grownG_trans Gw4.out (below_grownG g hb))
      clear hb
      go_wp2_with fail
      refine (HD.out w5).mono ?_
      rintro e w6 ⟨rfl, hw⟩
      have hw' := hw.symm
      subst hw'
      clear hw
      go_wp2_with fail
      refine (HD.out w5).mono ?_
      rintro e w6 ⟨rfl, hw⟩
      have hw' := hw.symm
      subst hw'
      clear hw
      go_wp2_with fail
      clear m1 m2 m3 m4 q1 q2 e9
      refine ⟨⟨j + 1, p, v + n, hjl, rfl, rfl, Lib.hid ?_, Lib.hid ?_, Rw5, Lib.hid (grownG_trans GK.out Gw5.out)⟩, by simp [intOf] <;> omega⟩
      · have h1 := Ep.out; have h2 := HK.out; omega
      · rw [HV.out]; exact HNU.out
    · obtain rfl : j = 2 := by omega
      have j1 : ¬ ((2 : Int) < 2) := by omega
      have HKL := Lib.hid (show k = a + 3 from by have := HK.out; omega)
      have HUC := Lib.hid (show u = c by rcases HU.out with ⟨h, _⟩ | ⟨h, _⟩ | ⟨_, h⟩ <;> omega)
      have hk1 : k ≤ 1000 := by have h1 := HKL.out; have h2 := HL.out; have h3 := HLT.out; omega
      have e9' : IntKind.u8.wrap (u : Int) = (u : Int) := by rw [HUC.out]; exact e9
      have c1 := RK.out.c1
      have z1 := RK.out.fz 1
      have e1 := step_wrap k hk1
      have e2 := step_wrap' k hk1
      go_wp2_with fail
      obtain ⟨p, hp⟩ : ∃ x, x = k + 1 := ⟨_, rfl⟩
      obtain ⟨w4, hw4⟩ : ∃ x, x = World.setCell wr ⟨g, 1, none⟩ (.int .i64 ((k : Int) + 1)) := ⟨_, rfl⟩
      have rw4 := RK.out.at1 ((k : Int) + 1) p (by rw [hp]; rfl)
      rw [← hw4] at rw4 ⊢
      have Rw4 := Lib.hid rw4.1
      have Gw4 := Lib.hid rw4.2
      have Ep := Lib.hid hp
      clear hw4 rw4 hp
      go_ret
      refine ⟨by rw [← HUC.out]; rfl, grownG_trans GK.out Gw4.out, ?_⟩
      have h1 := Rw4.out
      rw [Ep.out, HKL.out] at h1
      exact h1
def specs : List UInt8 := [92, 124, 42, 43, 63, 40, 41, 91, 93, 46]
theorem spec_no : ∀ c : Fin 256, inB escs c.val = false → inB specs c.val = false ∧ c.val ≠ 92 ∧ c.val ≠ 94 ∧ c.val ≠ 45 := by decide +kernel
theorem ofNat_val {c : Nat} (h : c < 256) : (UInt8.ofNat c).toNat = c := by rw [UInt8.toNat_ofNat', Nat.mod_eq_of_lt h]
set_option maxHeartbeats 4000000 in
set_option maxRecDepth 1000000 in
theorem sign_at (w : World) (g : Nat) (l : List UInt8) (S : ByteArray) (hS : S = ⟨l.toArray⟩) (a d c : Nat) (rest : List UInt8) (cls : Bool) (hl : l.length ≤ 200) (h : Rg w g S a d) (hc : c < 256) (ht : l.drop a = signB c ++ rest) :
    Calls Tryd.prog 72 #[.pointer (some ⟨g, 0, none⟩), .bool cls] w fun e w' => gotS w g S (a + (signB c).length) d c e w' := by
  have H := Lib.hid h
  have HS := Lib.hid hS
  have HL := Lib.hid hl
  obtain ⟨r, hr⟩ : ∃ r, r = signB c := ⟨_, rfl⟩
  rw [← hr] at ht ⊢
  unfold signB at hr
  cases hin : inB escs c with
  | true =>
    rw [hin, if_pos rfl] at hr
    have g0 := bAt (at_drop ht (i := 0) (c := 92) (by rw [hr]; rfl))
    have g1 := bAt (at_drop ht (i := 1) (c := UInt8.ofNat c) (by rw [hr]; rfl))
    rw [ofNat_val hc] at g1
    have HC := Lib.hid (show byteAt l a = 92 from g0.1)
    have HA := Lib.hid (show a < l.length from g0.2)
    have HC1 := Lib.hid g1.1
    have HA1 := Lib.hid g1.2
    have HIN := Lib.hid hin
    have HLN := Lib.hid (show a + r.length = a + 2 by rw [hr]; rfl)
    rw [HLN.out]
    clear hr ht hl hS hin h g0 g1
    go_enter Tryd.func72, Tryd.ntmps72
    go_wp2_with fail
    refine (next_at w g l S HS.out a d H.out HL.out HA.out 92 HC.out).mono ?_
    rintro e w1 ⟨rfl, hb⟩
    have R1 := Lib.hid (H.out.below hb)
    have G1 := Lib.hid (below_grownG g hb)
    clear hb
    go_wp2_with fail
    refine (escA_any w1 g l S HS.out a d c HL.out R1.out HC1.out HA1.out HIN.out).mono ?_
    rintro e w2 ⟨rfl, hg, hR⟩
    have G2 := Lib.hid (grownG_trans G1.out hg)
    have R2 := Lib.hid hR
    clear hg hR
    go_wp2_with fail
    go_ret
    exact ⟨rfl, G2.out, R2.out⟩
  | false =>
    rw [hin] at hr
    by_cases hm : 32 ≤ c ∧ c ≤ 126
    · rw [if_neg (by simp), if_pos hm] at hr
      obtain ⟨s0, s1, s2, s3⟩ := spec_no ⟨c, hc⟩ hin
      have g0 := bAt (at_drop ht (i := 0) (c := UInt8.ofNat c) (by rw [hr]; rfl))
      rw [ofNat_val hc] at g0
      have HC := Lib.hid (show byteAt l a = c from g0.1)
      have HA := Lib.hid (show a < l.length from g0.2)
      have HIN := Lib.hid (fun w => refIn_any specs ⟨specs.toArray⟩ rfl c w (by decide))
      rw [s0] at HIN
      have q1 : ((c : Int) == 92) = false := by rw [beq_eq_false_iff_ne]; simp only at s1; omega
      have q2 : ((c : Int) == 94) = false := by rw [beq_eq_false_iff_ne]; simp only at s2; omega
      have q3 : ((c : Int) == 45) = false := by rw [beq_eq_false_iff_ne]; simp only at s3; omega
      have d1 : ¬ ((c : Int) < 32) := by omega
      have d2 : ¬ ((c : Int) > 126) := by omega
      have HLN := Lib.hid (show a + r.length = a + 1 by rw [hr]; rfl)
      have ha1 : a ≤ 1000 := by have := HA.out; omega
      rw [HLN.out]
      clear hr ht hl hS hin h g0 s0 s1 s2 s3 hm
      cases cls with
      | true =>
        go_enter Tryd.func72, Tryd.ntmps72
        go_wp2_with fail
        refine (next_at w g l S HS.out a d H.out HL.out HA.out c HC.out).mono ?_
        rintro e w1 ⟨rfl, hb⟩
        have R1 := Lib.hid (H.out.below hb)
        have G1 := Lib.hid (below_grownG g hb)
        clear hb
        go_wp2_with fail
        refine (show Calls Tryd.prog 70 #[.string ⟨specs.toArray⟩, .int .u8 (c : Int)] w1 _ from HIN.out w1).mono ?_
        rintro e w3 ⟨rfl, hw⟩
        have hw' := hw.symm
        subst hw'
        clear hw
        have c1 := R1.out.c1
        have z1 := R1.out.fz 1
        have e1 := step_wrap a ha1
        have e2 := step_wrap' a ha1
        go_wp2_with fail
        obtain ⟨p, hp⟩ : ∃ x, x = a + 1 := ⟨_, rfl⟩
        obtain ⟨w4, hw4⟩ : ∃ x, x = World.setCell w1 ⟨g, 1, none⟩ (.int .i64 ((a : Int) + 1)) := ⟨_, rfl⟩
        have rw4 := R1.out.at1 ((a : Int) + 1) p (by rw [hp]; rfl)
        rw [← hw4] at rw4 ⊢
        have Rw4 := Lib.hid rw4.1
        have Gw4 := Lib.hid rw4.2
        have Ep := Lib.hid hp
        clear hw4 rw4 hp
        go_ret
        exact ⟨rfl, grownG_trans G1.out Gw4.out, by have := Rw4.out; rw [Ep.out] at this; exact this⟩
      | false =>
        go_enter Tryd.func72, Tryd.ntmps72
        go_wp2_with fail
        refine (next_at w g l S HS.out a d H.out HL.out HA.out c HC.out).mono ?_
        rintro e w1 ⟨rfl, hb⟩
        have R1 := Lib.hid (H.out.below hb)
        have G1 := Lib.hid (below_grownG g hb)
        clear hb
        go_wp2_with fail
        refine (show Calls Tryd.prog 70 #[.string ⟨specs.toArray⟩, .int .u8 (c : Int)] w1 _ from HIN.out w1).mono ?_
        rintro e w3 ⟨rfl, hw⟩
        have hw' := hw.symm
        subst hw'
        clear hw
        have c1 := R1.out.c1
        have z1 := R1.out.fz 1
        have e1 := step_wrap a ha1
        have e2 := step_wrap' a ha1
        go_wp2_with fail
        obtain ⟨p, hp⟩ : ∃ x, x = a + 1 := ⟨_, rfl⟩
        obtain ⟨w4, hw4⟩ : ∃ x, x = World.setCell w1 ⟨g, 1, none⟩ (.int .i64 ((a : Int) + 1)) := ⟨_, rfl⟩
        have rw4 := R1.out.at1 ((a : Int) + 1) p (by rw [hp]; rfl)
        rw [← hw4] at rw4 ⊢
        have Rw4 := Lib.hid rw4.1
        have Gw4 := Lib.hid rw4.2
        have Ep := Lib.hid hp
        clear hw4 rw4 hp
        go_ret
        exact ⟨rfl, grownG_trans G1.out Gw4.out, by have := Rw4.out; rw [Ep.out] at this; exact this⟩
    · rw [if_neg (by simp), if_neg hm] at hr
      have g0 := bAt (at_drop ht (i := 0) (c := 92) (by rw [hr]; rfl))
      have g1 := bAt (at_drop ht (i := 1) (c := 120) (by rw [hr]; rfl))
      have g2 := bAt (at_drop ht (i := 2) (c := hexB (c / 16)) (by rw [hr]; rfl))
      have g3 := bAt (at_drop ht (i := 3) (c := hexB (c % 16)) (by rw [hr]; rfl))
      have HC := Lib.hid (show byteAt l a = 92 from g0.1)
      have HA := Lib.hid (show a < l.length from g0.2)
      have HC1 := Lib.hid (show byteAt l (a + 1) = 120 from g1.1)
      have HC2 := Lib.hid g2.1
      have HC3 := Lib.hid g3.1
      have HA3 := Lib.hid g3.2
      have HCC := Lib.hid hc
      have HLN := Lib.hid (show a + r.length = a + 4 by rw [hr]; rfl)
      rw [HLN.out]
      clear hr ht hl hS hin h g0 g1 g2 g3 hm hc
      go_enter Tryd.func72, Tryd.ntmps72
      go_wp2_with fail
      refine (next_at w g l S HS.out a d H.out HL.out HA.out 92 HC.out).mono ?_
      rintro e w1 ⟨rfl, hb⟩
      have R1 := Lib.hid (H.out.below hb)
      have G1 := Lib.hid (below_grownG g hb)
      clear hb
      go_wp2_with fail
      refine (escB_any w1 g l S HS.out a d c HL.out R1.out HCC.out HC1.out HC2.out HC3.out HA3.out).mono ?_
      rintro e w2 ⟨rfl, hg, hR⟩
      have G2 := Lib.hid (grownG_trans G1.out hg)
      have R2 := Lib.hid hR
      clear hg hR
      go_wp2_with fail
      go_ret
      exact ⟨rfl, G2.out, R2.out⟩
end Go.Proofs.YtmlojjgddmnbmaaDoor
namespace Go.Proofs.YtmlojjgddmnbmaaDoor
open Go.RowKit
set_option linter.unusedSimpArgs false
set_option linter.unusedVariables false

/-! ### the ranges of a class -/
/-- The text of ranges, one behind the other. -/
def iT : List (Nat × Nat) → List UInt8
  | [] => []
  | p :: r => (if p.1 = p.2 then signB p.1 else signB p.1 ++ (45 :: signB p.2)) ++ iT r
def cov (its : List (Nat × Nat)) (x : Nat) : Prop := ∃ p ∈ its, p.1 ≤ x ∧ x ≤ p.2
def okI (its : List (Nat × Nat)) : Prop := ∀ p ∈ its, p.1 ≤ p.2 ∧ p.2 < 256
theorem iT_app : ∀ l m : List (Nat × Nat), iT (l ++ m) = iT l ++ iT m
  | [], m => rfl
  | p :: r, m => by rw [List.cons_append]; simp only [iT]; rw [iT_app r m, List.append_assoc]
theorem cov_app (l m : List (Nat × Nat)) (x : Nat) : cov (l ++ m) x ↔ cov l x ∨ cov m x := by
  unfold cov
  constructor
  · rintro ⟨p, hp, h⟩
    rcases List.mem_append.1 hp with hp | hp
    · exact .inl ⟨p, hp, h⟩
    · exact .inr ⟨p, hp, h⟩
  · rintro (⟨p, hp, h⟩ | ⟨p, hp, h⟩)
    · exact ⟨p, List.mem_append.2 (.inl hp), h⟩
    · exact ⟨p, List.mem_append.2 (.inr hp), h⟩
theorem cov_one (a b x : Nat) : cov [(a, b)] x ↔ a ≤ x ∧ x ≤ b := by simp [cov]
theorem run_items (a b : Nat) (h : a ≤ b) (hb : b < 256) : ∃ its, runB a b = iT its ∧ okI its ∧ ∀ x, cov its x ↔ a ≤ x ∧ x ≤ b := by
  unfold runB
  by_cases h1 : a = b
  · refine ⟨[(a, b)], by simp [iT, h1], fun p hp => ?_, cov_one a b⟩
    obtain rfl := List.mem_singleton.1 hp
    exact ⟨h, hb⟩
  · rw [if_neg h1]
    by_cases h2 : b = a + 1
    · refine ⟨[(a, a), (b, b)], by rw [if_pos h2]; simp [iT], fun p hp => ?_, fun x => ?_⟩
      · rcases List.mem_cons.1 hp with rfl | hp
        · exact ⟨Nat.le_refl _, by omega⟩
        · obtain rfl := List.mem_singleton.1 hp
          exact ⟨Nat.le_refl _, hb⟩
      · simp only [cov, List.mem_cons, List.not_mem_nil, or_false, exists_eq_or_imp, exists_eq_left]
        omega
    · refine ⟨[(a, b)], by rw [if_neg h2]; simp [iT, h1], fun p hp => ?_, cov_one a b⟩
      obtain rfl := List.mem_singleton.1 hp
      exact ⟨h, hb⟩
theorem go_items : ∀ (r : List Nat) (a b : Nat), a ≤ b → b < 256 → (b :: r).Pairwise (· < ·) → (∀ x ∈ r, x < 256) → ∃ its, goR a b r = iT its ∧ okI its ∧ ∀ x, cov its x ↔ (a ≤ x ∧ x ≤ b) ∨ x ∈ r
  | [], a, b, h, hb, _, _ => by
    obtain ⟨its, h1, h2, h3⟩ := run_items a b h hb
    exact ⟨its, h1, h2, fun x => by rw [h3]; simp⟩
  | c :: r, a, b, h, hb, hp, hr => by
    have hp' := List.pairwise_cons.1 hp
    have hbc := hp'.1 c (by simp)
    have hc := hr c (by simp)
    have hr' : ∀ x ∈ r, x < 256 := fun x hx => hr x (by simp [hx])
    simp only [goR]
    by_cases h1 : c = b + 1
    · rw [if_pos h1]
      obtain ⟨its, i1, i2, i3⟩ := go_items r a c (by omega) hc hp'.2 hr'
      refine ⟨its, i1, i2, fun x => ?_⟩
      rw [i3, List.mem_cons]
      constructor
      · rintro (h | h)
        · by_cases hx : x = c
          · exact .inr (.inl hx)
          · exact .inl ⟨h.1, by omega⟩
        · exact .inr (.inr h)
      · rintro (h | h | h)
        · exact .inl ⟨h.1, by omega⟩
        · exact .inl ⟨by omega, by omega⟩
        · exact .inr h
    · rw [if_neg h1]
      obtain ⟨its, i1, i2, i3⟩ := go_items r c c (Nat.le_refl _) hc hp'.2 hr'
      obtain ⟨jts, j1, j2, j3⟩ := run_items a b h hb
      refine ⟨jts ++ its, by rw [iT_app, j1, i1], fun p hp => ?_, fun x => ?_⟩
      · rcases List.mem_append.1 hp with hp | hp
        · exact j2 p hp
        · exact i2 p hp
      · rw [cov_app, j3, i3, List.mem_cons]
        constructor
        · rintro (h | h | h)
          · exact .inl h
          · exact .inr (.inl (by omega))
          · exact .inr (.inr h)
        · rintro (h | h | h)
          · exact .inl h
          · exact .inr (.inl (by omega))
          · exact .inr (.inr h)
theorem set_items (s : Nat → Bool) : ∃ its, runsB (memN s) = iT its ∧ okI its ∧ ∀ x, cov its x ↔ x ∈ memN s := by
  have ha := memN_asc s
  have hl : ∀ n ∈ memN s, n < 256 := fun n h => memN_lt h
  cases hm : memN s with
  | nil => exact ⟨[], rfl, (fun p hp => by cases hp), fun x => by simp [cov]⟩
  | cons c r =>
    rw [hm] at ha hl
    obtain ⟨its, i1, i2, i3⟩ := go_items r c c (Nat.le_refl _) (hl c (by simp)) ha (fun x hx => hl x (by simp [hx]))
    refine ⟨its, i1, i2, fun x => ?_⟩
    rw [i3, List.mem_cons]
    constructor
    · rintro (h | h)
      · exact .inl (by omega)
      · exact .inr h
    · rintro (h | h)
      · exact .inl (by omega)
      · exact .inr h
/-- How a sign begins: with a stroke back, or with a byte that means itself. -/
theorem sign_head {c : Nat} (hc : c < 256) : ∃ b r, signB c = b :: r ∧ (b.toNat = 92 ∨ (b.toNat = c ∧ inB escs c = false)) := by
  unfold signB
  cases h : inB escs c with
  | true => exact ⟨92, [UInt8.ofNat c], by simp, .inl rfl⟩
  | false =>
    by_cases hm : 32 ≤ c ∧ c ≤ 126
    · exact ⟨UInt8.ofNat c, [], by simp [hm], .inr ⟨ofNat_val hc, rfl⟩⟩
    · exact ⟨92, _, by rw [if_neg (by simp), if_neg hm], .inl rfl⟩
theorem head_not {c x : Nat} (hc : c < 256) (hx : inB escs x = true) (h92 : x ≠ 92) {l : List UInt8} {a : Nat} {r : List UInt8} (h : l.drop a = signB c ++ r) : byteAt l a ≠ x ∧ a < l.length := by
  obtain ⟨b, q, h1, h2⟩ := sign_head hc
  have g := bAt (at_drop h (i := 0) (c := b) (by rw [h1]; rfl))
  refine ⟨?_, g.2⟩
  have g1 : byteAt l a = b.toNat := g.1
  rw [g1]
  rintro rfl
  rcases h2 with h2 | ⟨h2, h3⟩
  · exact h92 h2
  · rw [h2, h3] at hx
    cases hx
/-- Within 'class': the reader, the result's block g2 and the set's block q, begun in world w. -/
structure Cl (w : World) (g q : Nat) (S : ByteArray) (k d : Nat) (z : List Value) (p : Nat → Bool) (w' : World) : Prop where
  lt : g < w.heap.size
  gq : w.heap.size < q
  rd : Rg w' g S k d
  gr : w.grownBy w' (some g)
  rz : Blk w' w.heap.size 27 z
  st : Blk w' q 24 (wds p)
section
variable {w w' w'' : World} {g q k d : Nat} {S : ByteArray} {z : List Value} {p : Nat → Bool}
theorem Cl.below (h : Cl w g q S k d z p w') (hb : Below w'.heap.size w' w'') : Cl w g q S k d z p w'' :=
  ⟨h.lt, h.gq, h.rd.below hb, grownG_below h.gr (hb.mono h.gr.size), h.rz.below hb h.rz.lt, h.st.below hb h.st.lt⟩
theorem Cl.step {k' d' : Nat} (h : Cl w g q S k d z p w') (hg : w'.grownBy w'' (some g)) (hr : Rg w'' g S k' d') : Cl w g q S k' d' z p w'' :=
  ⟨h.lt, h.gq, hr, grownG_trans h.gr hg, h.rz.grown hg (fun he => by have := Option.some.inj he; have := h.lt; omega), h.st.grown hg (fun he => by have := Option.some.inj he; have h1 := h.lt; have h2 := h.gq; omega)⟩
theorem Cl.put {p' : Nat → Bool} (h : Cl w g q S k d z p w') (hb : Below w.heap.size w' w'') (hk : ∀ i, i ≠ q → w''.heap[i]? = w'.heap[i]?) (hs : Blk w'' q 24 (wds p')) : Cl w g q S k d z p' w'' :=
  ⟨h.lt, h.gq, (hk g (by have h1 := h.lt; have h2 := h.gq; omega)).trans h.rd, grownG_below h.gr hb, (hk _ (by have h2 := h.gq; omega)).trans h.rz, hs⟩
theorem ovC (h : Cl w g q S k d z p w') : Calls Tryd.prog 30 #[.pointer (some ⟨g, 0, none⟩)] w' fun e w'' => e = .returned (.bool false) ∧ Cl w g q S k d z p w'' := by
  refine (over_no w' g S k d h.rd).mono ?_
  rintro e w2 ⟨rfl, hb⟩
  exact ⟨rfl, h.below hb⟩
theorem isC {l : List UInt8} (h : Cl w g q S k d z p w') (hS : S = ⟨l.toArray⟩) (hl : l.length ≤ 200) (hk : k ≤ l.length) (c : Nat) (r : Bool) (hr : (decide (k < l.length) && decide (byteAt l k = c)) = r) :
    Calls Tryd.prog 45 #[.pointer (some ⟨g, 0, none⟩), .int .u8 (c : Int)] w' fun e w'' => e = .returned (.bool r) ∧ Cl w g q S k d z p w'' := by
  refine (is_at w' g l S hS k d h.rd hl hk c r hr).mono ?_
  rintro e w2 ⟨rfl, hb⟩
  exact ⟨rfl, h.below hb⟩
theorem sgC {l : List UInt8} (h : Cl w g q S k d z p w') (hS : S = ⟨l.toArray⟩) (hl : l.length ≤ 200) (c : Nat) (rest : List UInt8) (hc : c < 256) (ht : l.drop k = signB c ++ rest) :
    Calls Tryd.prog 72 #[.pointer (some ⟨g, 0, none⟩), .bool true] w' fun e w'' => e = .returned (.int .u8 (c : Int)) ∧ Cl w g q S (k + (signB c).length) d z p w'' := by
  refine (sign_at w' g l S hS k d c rest true hl h.rd hc ht).mono ?_
  rintro e w2 ⟨rfl, hg, hr⟩
  exact ⟨rfl, h.step hg hr⟩
theorem Cl.inc (h : Cl w g q S k d z p w') (e : Int) (n : Nat) (he : e = (n : Int)) : Cl w g q S n d z p (w'.setCell ⟨g, 1, none⟩ (.int .i64 e)) := by
  have := h.rd.at1 e n he
  exact h.step this.2 this.1
end
/-- What the reader's functions hand back: the expression t, in blocks of the call's own. -/
def gotX (w : World) (g : Nat) (S : ByteArray) (a d : Nat) (t : T) (e : Ending) (w' : World) : Prop := ∃ cs, e = .returned (.agg cs.toArray) ∧ RxD (fun k => w.heap.size ≤ k ∧ k < w'.heap.size) w' cs t ∧ w.grownBy w' (some g) ∧ Rg w' g S a d
/-- Where the reader in block g stands. -/
def plOf (w : World) (g : Nat) : Nat := match w.cell? ⟨g, 1, none⟩ with
  | some (.int _ n) => n.toNat
  | _ => 0
theorem Cl.pl {w w' : World} {g q k d : Nat} {S : ByteArray} {z : List Value} {p : Nat → Bool} (h : Cl w g q S k d z p w') : plOf w' g = k := by
  unfold plOf
  rw [h.rd.c1]
  simp
set_option maxHeartbeats 8000000 in
set_option maxRecDepth 1000000 in
theorem class_at (w : World) (g : Nat) (l : List UInt8) (S : ByteArray) (hS : S = ⟨l.toArray⟩) (a d : Nat) (s : Nat → Bool) (rest : List UInt8) (hl : l.length ≤ 200) (h : Rg w g S a d) (ht : l.drop a = 91 :: (runsB (memN s) ++ 93 :: rest)) :
    Calls Tryd.prog 71 #[.pointer (some ⟨g, 0, none⟩)] w fun e w' => gotX w g S (a + ((runsB (memN s)).length + 2)) d (bytesT s) e w' := by
  obtain ⟨its, i1, i2, i3⟩ := set_items s
  rw [i1] at ht ⊢
  have H := Lib.hid h
  have HS := Lib.hid hS
  have HL := Lib.hid hl
  have HI := Lib.hid i2
  have HM := Lib.hid i3
  have HT := Lib.hid (show l.drop a = [91] ++ (iT its ++ 93 :: rest) from ht)
  have HLEN := Lib.hid (drop_len (l := l) (a := a) (p := 91 :: (iT its ++ [93])) (r := rest) (by rw [ht]; simp) (.inl (by simp)))
  obtain ⟨i0, hi0, hz0, hz1, hz2⟩ := inf_rx'
  obtain ⟨z, hz⟩ : ∃ z, z = rxc 0 zeroS (.slice none 0 0) := ⟨_, rfl⟩
  have HZL := Lib.hid (show z.length = 6 by rw [hz]; rfl)
  have HZ0 := Lib.hid (show i0.zero = some (.agg z.toArray) by rw [hz]; exact hz0)
  obtain ⟨i5, hi5, hy5⟩ := info_set
  obtain ⟨y, hy⟩ : ∃ y : Nat → Bool, y = fun _ => false := ⟨_, rfl⟩
  have HY5 := Lib.hid (show i5.zero = some (.agg (wds y).toArray) by rw [hy]; exact hy5)
  have HYF := Lib.hid hy
  have ha1 : a ≤ 200 := by have := HLEN.out; omega
  have HN94 := Lib.hid (show (decide (a + 1 < l.length) && decide (byteAt l (a + 1) = 94)) = false from by
    have h1 := drop_on HT.out
    cases its with
    | nil =>
      have g1 := bAt (at_drop (p := [93]) (r := rest) (a := a + 1) (by simpa [iT] using h1) (i := 0) (c := 93) rfl)
      rw [show byteAt l (a + 1) = 93 from g1.1]
      simp
    | cons p r =>
      have hp := i2 p (by simp)
      have h2 : ∃ q, l.drop (a + 1) = signB p.1 ++ q := by
        simp only [iT] at h1
        by_cases hpp : p.1 = p.2
        · rw [if_pos hpp, List.append_assoc] at h1; exact ⟨_, h1⟩
        · rw [if_neg hpp, List.append_assoc, List.append_assoc] at h1; exact ⟨_, h1⟩
      obtain ⟨q, h2⟩ := h2
      have g1 := head_not (x := 94) (by omega) (by decide) (by decide) h2
      simp [g1.1])
  clear h hS hl ht i1 i2 i3 hz hz0 hy hy5
  go_enter Tryd.func71, Tryd.ntmps71
  go_wp2_with ((with_reducible refine atDst 2 ?_); refine wpList_new rfl 27 rfl i0 _ z hi0 HZ0.out rfl (Below.refl w.heap.size w) (Nat.le_refl _) ?_; intro w1 hk hb hs ho; have K1 := Lib.hid hk; have B1 := Lib.hid hb; have R1 := Lib.hid (H.out.below hb); have c1 := R1.out.c1; have z1 := R1.out.fz 1; have e1 := step_wrap a (by omega); have e2 := step_wrap' a (by omega); clear hk hb hs ho; (try simp only [Act.put, List.setIfInBounds_toArray, List.set_cons_zero, List.set_cons_succ]))
  obtain ⟨b, hb⟩ : ∃ x, x = a + 1 := ⟨_, rfl⟩
  obtain ⟨w2, hw2⟩ : ∃ x, x = World.setCell w1 ⟨g, 1, none⟩ (.int .i64 ((a : Int) + 1)) := ⟨_, rfl⟩
  have rw2 := R1.out.at1 ((a : Int) + 1) b (by rw [hb]; rfl)
  rw [← hw2] at rw2 ⊢
  have Rw2 := Lib.hid rw2.1
  have Gw2 := Lib.hid rw2.2
  have Eb := Lib.hid hb
  clear hw2 rw2 hb
  clear c1 z1 e1 e2
  refine (is_at w2 g l S HS.out b d Rw2.out HL.out (by have h1 := Eb.out; have h2 := HLEN.out; simp only [List.length_cons, List.length_append] at h2; omega) 94 false (by rw [Eb.out]; exact HN94.out)).mono ?_
  rintro e w3 ⟨rfl, hb3⟩
  have C3 := Lib.hid (show Rg w3 g S b d ∧ w.grownBy w3 (some g) ∧ Blk w3 w.heap.size 27 z from ⟨Rw2.out.below hb3, grownG_below (grownG_trans (below_grownG g B1.out) Gw2.out) (hb3.mono (grownG_trans (below_grownG g B1.out) Gw2.out).size),
    (K1.out.grown Gw2.out (fun he => by have h1 := Option.some.inj he; have h2 := H.out.lt; omega)).below hb3 (K1.out.grown Gw2.out (fun he => by have h1 := Option.some.inj he; have h2 := H.out.lt; omega)).lt⟩)
  clear hb3
  go_wp2_with ((with_reducible refine atDst 4 ?_); refine wpList_new rfl 24 rfl i5 _ (wds y) hi5 HY5.out rfl (Below.refl w3.heap.size w3) (Nat.le_refl _) ?_; intro w4 hk hb hs ho; have C4 := Lib.hid (show Cl w g w3.heap.size S b d z y w4 from ⟨H.out.lt, C3.out.2.2.lt, C3.out.1.below hb, grownG_below C3.out.2.1 (hb.mono C3.out.2.1.size), C3.out.2.2.below hb C3.out.2.2.lt, hk⟩); clear hk hb hs ho; (try simp only [Act.put, List.setIfInBounds_toArray, List.set_cons_zero, List.set_cons_succ]))
  obtain ⟨q, hq⟩ : ∃ q, q = w3.heap.size := ⟨_, rfl⟩
  rw [← hq] at C4 ⊢
  clear hq C3
  go_loopw [5, 6, 7] (fun _ _ _ wl => ∃ (js : List (Nat × Nat)) (k : Nat) (p : Nat → Bool), Hid (Cl w g q S k d z p wl) ∧ Hid (l.drop k = iT js ++ 93 :: rest) ∧ Hid (okI js) ∧ Hid (∀ x, x < 256 → ((p x = true ∨ cov js x) ↔ cov its x)) ∧ Hid (k ≤ l.length)) (fun _ _ _ wl => l.length - plOf wl g)
  case atStart => exact ⟨its, b, y, C4, Lib.hid (by rw [Eb.out]; exact drop_on HT.out), HI, Lib.hid (fun x _ => by rw [HYF.out]; simp), Lib.hid (by have h1 := Eb.out; have h2 := HLEN.out; simp only [List.length_cons, List.length_append] at h2; omega)⟩
  case round =>
    obtain ⟨js, k, p, HC, HTX, HOK, HCV, HKL⟩ := hrel
    cases js with
    | nil =>
      have g1 := bAt (at_drop (p := [93]) (r := rest) (a := k) (by simpa [iT] using HTX.out) (i := 0) (c := 93) rfl)
      have HB := Lib.hid (show (decide (k < l.length) && decide (byteAt l k = 93)) = true by rw [show byteAt l k = 93 from g1.1, decide_eq_true (show k < l.length from g1.2)]; rfl)
      have HEND := Lib.hid (show k = a + ((iT its).length + 1) by
        have h1 := congrArg List.length HTX.out
        have h2 := HLEN.out
        have h3 : k < l.length := g1.2
        rw [List.length_drop] at h1
        simp only [iT, List.nil_append, List.length_cons, List.length_append, List.length_nil] at h1 h2
        omega)
      have HWS := Lib.hid (show wds p = wds s from wds_congr fun x hx => by
        rw [Bool.eq_iff_iff]
        have h1 := HCV.out x hx
        rw [HM.out x, memN_mem] at h1
        simp only [cov, List.not_mem_nil, false_and, exists_false, or_false] at h1
        rw [h1]
        exact ⟨fun h => h.2, fun h => ⟨hx, h⟩⟩)
      have hk1 : k ≤ 1000 := by have h1 := HKL.out; have h2 := HL.out; omega
      clear g1
      go_wp2_with fail
      refine (ovC HC.out).mono ?_
      rintro e w5 ⟨rfl, h5⟩
      have C5 := Lib.hid h5
      clear h5
      go_wp2_with fail
      refine (isC C5.out HS.out HL.out HKL.out 93 true HB.out).mono ?_
      rintro e w6 ⟨rfl, h6⟩
      have C6 := Lib.hid h6
      clear h6
      have cw6 := C6.out.rd.c1
      have zw6 := C6.out.rd.fz 1
      have ew6 := step_wrap k (hk1)
      have fw6 := step_wrap' k (hk1)
      go_wp2_with ((with_reducible refine atDst 77 ?_); refine wpList_ldArr rfl 24 _ rfl q rfl 24 _ _ (C6.out.inc ((k : Int) + 1) (k + 1) rfl).st Tryd.underlying24 rfl (size_set p) ?_; (try simp only [Act.put, List.setIfInBounds_toArray, List.set_cons_zero, List.set_cons_succ]))
      obtain ⟨k2, hk2⟩ : ∃ x, x = k + 1 := ⟨_, rfl⟩
      obtain ⟨w7, hw7⟩ : ∃ x, x = World.setCell w6 ⟨g, 1, none⟩ (.int .i64 ((k : Int) + 1)) := ⟨_, rfl⟩
      have rw7 := C6.out.inc ((k : Int) + 1) k2 (by rw [hk2]; rfl)
      rw [← hw7] at rw7 ⊢
      have Cw7 := Lib.hid rw7
      have Ek2 := Lib.hid hk2
      clear hw7 rw7 hk2
      rw [HWS.out]
      refine (refBytes_any s w7).mono ?_
      rintro e w8 ⟨ds, rfl, hds, hb8⟩
      have C8 := Lib.hid (Cw7.out.below hb8)
      have DA := Lib.hid hds
      have D6 := Lib.hid (hds (fun _ => False)).length
      have D1 := Lib.hid (show ds.all (·.oneCell') = true from List.all_eq_true.2 (hds (fun _ => False)).one)
      clear hds hb8
      go_wp2_with ((with_reducible refine atStore 27 2 78 ?_); refine wpList_stBlk rfl 27 _ _ rfl w.heap.size ds rfl rfl 27 _ C8.out.rz (size_rx D6.out) (by rw [HZL.out, D6.out]) D1.out (Below.refl w.heap.size w8) (Nat.le_refl _) ?_; intro w9 hk hb hs ho; have K9 := Lib.hid hk; have G9 := Lib.hid (grownG_below C8.out.gr hb); have R9 := Lib.hid (show Rg w9 g S k2 d from (ho g (by have := C8.out.lt; omega)).trans C8.out.rd); have D9 := Lib.hid (RxD.mono ((DA.out (fun _ => False)).stay (w' := w9) fun k hk => absurd hk id) (D' := fun k => w.heap.size ≤ k ∧ k < w9.heap.size) fun k hk => absurd hk id); clear hk hb hs ho; (try simp only [Act.put, List.setIfInBounds_toArray, List.set_cons_zero, List.set_cons_succ]))
      refine bodyPost_ret (results_blk rfl _ _ w.heap.size 27 _ _ rfl K9.out Tryd.underlying27 rfl (size_rx D6.out)) rfl ?_
      refine ⟨ds, rfl, D9.out, G9.out, ?_⟩
      have h1 := R9.out
      rw [Ek2.out, HEND.out] at h1
      exact h1
    | cons pr js =>
      obtain ⟨f, u⟩ := pr
      have hfu := HOK.out (f, u) (by simp)
      have HF := Lib.hid (show f < 256 by have h1 := hfu.1; have h2 := hfu.2; simp only at h1 h2; omega)
      have HU := Lib.hid (show u < 256 from hfu.2)
      have HFU := Lib.hid (show f ≤ u from hfu.1)
      have HOK' := Lib.hid (show okI js from fun x hx => HOK.out x (by simp [hx]))
      obtain ⟨pp, hpp⟩ : ∃ pp : Nat → Bool, pp = fun b => p b || rangeS f u b := ⟨_, rfl⟩
      have HPP := Lib.hid hpp
      have HCV' := Lib.hid (show ∀ x, x < 256 → ((pp x = true ∨ cov js x) ↔ cov its x) from fun x hx => by
        rw [← HCV.out x hx, hpp]
        simp only [Bool.or_eq_true, rangeS, decide_eq_true_eq]
        rw [show (f, u) :: js = [(f, u)] ++ js from rfl, cov_app, cov_one]
        exact ⟨fun h => by rcases h with (h | h) | h; exact .inl h; exact .inr (.inl h); exact .inr (.inr h), fun h => by rcases h with h | h | h; exact .inl (.inl h); exact .inl (.inr h); exact .inr h⟩)
      obtain ⟨rg, hrg⟩ : ∃ rg, rg = rangeS f u := ⟨_, rfl⟩
      have HRG := Lib.hid hrg
      have HORQ := Lib.hid (show (fun b => p b || rg b) = pp by rw [hrg, hpp])
      have HLS := Lib.hid (signB_len f)
      have HLU := Lib.hid (signB_len u)
      by_cases hfe : f = u
      · have HT1 := Lib.hid (show l.drop k = signB f ++ (iT js ++ 93 :: rest) by rw [HTX.out]; simp only [iT]; rw [if_pos hfe, List.append_assoc])
        have HN93 := Lib.hid (show (decide (k < l.length) && decide (byteAt l k = 93)) = false by have h1 := head_not (x := 93) HF.out (by decide) (by decide) HT1.out; simp [h1.1])
        have HT2 := Lib.hid (drop_on HT1.out)
        have HN45 := Lib.hid (show (decide (k + (signB f).length < l.length) && decide (byteAt l (k + (signB f).length) = 45)) = false by
          have h1 := HT2.out
          cases js with
          | nil =>
            have g1 := bAt (at_drop (p := [93]) (r := rest) (by simpa [iT] using h1) (i := 0) (c := 93) rfl)
            rw [show byteAt l (k + (signB f).length) = 93 from g1.1]
            simp
          | cons pr r =>
            have hp := HOK'.out pr (by simp)
            have h2 : ∃ q, l.drop (k + (signB f).length) = signB pr.1 ++ q := by
              simp only [iT] at h1
              by_cases hpp : pr.1 = pr.2
              · rw [if_pos hpp, List.append_assoc] at h1; exact ⟨_, h1⟩
              · rw [if_neg hpp, List.append_assoc, List.append_assoc] at h1; exact ⟨_, h1⟩
            obtain ⟨q, h2⟩ := h2
            have g1 := head_not (x := 45) (by omega) (by decide) (by decide) h2
            simp [g1.1])
        have HKL2 := Lib.hid (show k + (signB f).length ≤ l.length by have h1 := drop_len HT1.out (.inr HKL.out); omega)
        obtain ⟨k1, hk1⟩ : ∃ k1, k1 = k + (signB f).length := ⟨_, rfl⟩
        rw [← hk1] at HT2 HN45 HKL2
        have HK1 := Lib.hid hk1
        have HFE := Lib.hid hfe
        clear hfu hpp hrg hfe hk1
        go_wp2_with fail
        refine (ovC HC.out).mono ?_
        rintro e w5 ⟨rfl, h5⟩
        have C5 := Lib.hid h5
        clear h5
        go_wp2_with fail
        refine (isC C5.out HS.out HL.out HKL.out 93 false HN93.out).mono ?_
        rintro e w6 ⟨rfl, h6⟩
        have C6 := Lib.hid h6
        clear h6
        go_wp2_with fail
        refine (sgC C6.out HS.out HL.out f _ HF.out HT1.out).mono ?_
        rintro e w7 ⟨rfl, h7⟩
        rw [← HK1.out] at h7
        have C7 := Lib.hid h7
        clear h7
        go_wp2_with fail
        refine (ovC C7.out).mono ?_
        rintro e w8 ⟨rfl, h8⟩
        have C8 := Lib.hid h8
        clear h8
        go_wp2_with fail
        refine (isC C8.out HS.out HL.out HKL2.out 45 false HN45.out).mono ?_
        rintro e w9 ⟨rfl, h9⟩
        have C9 := Lib.hid h9
        clear h9
        go_wp2_with fail
        have HRQ := Lib.hid (fun w => refRangeQ f f HF.out HF.out w rg (by rw [HRG.out, ← HFE.out]))
        refine sx_startB (B := q) (w0 := w9) (by kernel_rfl) (Below.refl _ _) (fun wd hwd hX => ?_)
        have CD := Lib.hid (show Cl w g q S k1 d z p wd by rw [hwd]; exact C9.out.below (Below.refl w9.heap.size w9).drew)
        clear hwd
        refine sx_take (i := 1) (oi := ⟨some 63, _, _, _, _, _⟩) (v := ?_) rfl (by kernel_rfl) (by kernel_rfl) (by kernel_rfl) (fun _ _ _ h => h) rfl hX ?_ ?_; rotate_left; (intro W hW; go_simp; try with_reducible rfl); simp only [Act.put, List.setIfInBounds_toArray, List.set_cons_zero, List.set_cons_succ]
        refine sx_take (i := 2) (oi := ⟨some 64, _, _, _, _, _⟩) (v := ?_) rfl (by kernel_rfl) (by kernel_rfl) (by kernel_rfl) (fun _ _ _ h => h) rfl hX ?_ ?_; rotate_left; (intro W hW; go_simp; try with_reducible rfl); simp only [Act.put, List.setIfInBounds_toArray, List.set_cons_zero, List.set_cons_succ]
        refine sx_two (i := 0) (j := 3) (oi := ⟨some 62, _, _, _, _, _⟩) (oj := ⟨some 65, _, _, _, _, _⟩) rfl rfl (by kernel_rfl) rfl rfl hX (fun K hK => ?_) (fun K hK => ?_)
        · refine wp_of_run (ld_blk 24 _ rfl q rfl 24 _ _ CD.out.st CD.out.st.lt Tryd.underlying24 rfl (size_set p) wd (Below.refl _ _)) ?_
          refine hK _ _ (Below.refl _ _) ?_
          (try simp only [Act.put, List.setIfInBounds_toArray, List.set_cons_zero, List.set_cons_succ])
          clear hK K
          refine sx_actB (i := 3) (o := ⟨some 65, _, _, _, _, _⟩) rfl (by kernel_rfl) rfl hX (fun K hK => ?_)
          go_wp2_with fail
          refine (HRQ.out wd).mono ?_
          rintro e wa ⟨rfl, hb⟩
          have CA := Lib.hid (CD.out.below hb)
          go_wp2_with fail
          refine hK _ _ (hb.mono (Nat.le_of_lt CD.out.st.lt)) ?_
          (try simp only [Act.put, List.setIfInBounds_toArray, List.set_cons_zero, List.set_cons_succ])
          clear hK K
          replace hX := hX.trans (hb.mono (Nat.le_of_lt CD.out.st.lt))
          clear hb
          refine sx_actB (i := 4) (o := ⟨some 66, _, _, _, _, _⟩) rfl (by kernel_rfl) rfl hX (fun K hK => ?_)
          go_wp2_with fail
          refine (refOr_any p rg wa).mono ?_
          rintro e wb ⟨rfl, hb⟩
          rw [HORQ.out]
          have CB := Lib.hid (CA.out.below hb)
          go_wp2_with fail
          refine hK _ _ (hb.mono (Nat.le_of_lt CA.out.st.lt)) ?_
          (try simp only [Act.put, List.setIfInBounds_toArray, List.set_cons_zero, List.set_cons_succ])
          clear hK K
          replace hX := hX.trans (hb.mono (Nat.le_of_lt CA.out.st.lt))
          clear hb
          refine sx_actB (i := 5) (o := ⟨none, _, _, _, _, _⟩) rfl (by kernel_rfl) rfl hX (fun K hK => ?_)
          refine wp_stBlk 24 _ _ rfl q (wds pp) rfl rfl 24 (wds p) CB.out.st (size_set pp) rfl (wds_all pp) (Below.refl w.heap.size wb) (Nat.le_of_lt CB.out.gq) ?_
          intro wc hk hbw hs ho hall
          have CC := Lib.hid (CB.out.put hbw ho hk)
          refine hK _ _ (hall q (Nat.le_refl _)) ?_
          (try simp only [Act.put, List.setIfInBounds_toArray, List.set_cons_zero, List.set_cons_succ])
          clear hK K
          replace hX := hX.trans (hall q (Nat.le_refl _))
          clear hk hbw hs ho hall
          refine wpAnyH_done (by kernel_rfl) ?_ _
          clear hX
          go_wp2_with fail
          exact ⟨⟨js, k1, pp, CC, HT2, HOK', HCV', HKL2⟩, by rw [HC.out.pl, CC.out.pl]; have h1 := HKL2.out; have h2 := HK1.out; have h3 := HLS.out; omega⟩
        · go_wp2_with fail
          refine (HRQ.out wd).mono ?_
          rintro e wa ⟨rfl, hb⟩
          have CA := Lib.hid (CD.out.below hb)
          go_wp2_with fail
          refine hK _ _ (hb.mono (Nat.le_of_lt CD.out.st.lt)) ?_
          (try simp only [Act.put, List.setIfInBounds_toArray, List.set_cons_zero, List.set_cons_succ])
          clear hK K
          replace hX := hX.trans (hb.mono (Nat.le_of_lt CD.out.st.lt))
          clear hb
          refine sx_actB (i := 0) (o := ⟨some 62, _, _, _, _, _⟩) rfl (by kernel_rfl) rfl hX (fun K hK => ?_)
          refine wp_of_run (ld_blk 24 _ rfl q rfl 24 _ _ CA.out.st CA.out.st.lt Tryd.underlying24 rfl (size_set p) wa (Below.refl _ _)) ?_
          refine hK _ _ (Below.refl _ _) ?_
          (try simp only [Act.put, List.setIfInBounds_toArray, List.set_cons_zero, List.set_cons_succ])
          clear hK K
          refine sx_actB (i := 4) (o := ⟨some 66, _, _, _, _, _⟩) rfl (by kernel_rfl) rfl hX (fun K hK => ?_)
          go_wp2_with fail
          refine (refOr_any p rg wa).mono ?_
          rintro e wb ⟨rfl, hb⟩
          rw [HORQ.out]
          have CB := Lib.hid (CA.out.below hb)
          go_wp2_with fail
          refine hK _ _ (hb.mono (Nat.le_of_lt CA.out.st.lt)) ?_
          (try simp only [Act.put, List.setIfInBounds_toArray, List.set_cons_zero, List.set_cons_succ])
          clear hK K
          replace hX := hX.trans (hb.mono (Nat.le_of_lt CA.out.st.lt))
          clear hb
          refine sx_actB (i := 5) (o := ⟨none, _, _, _, _, _⟩) rfl (by kernel_rfl) rfl hX (fun K hK => ?_)
          refine wp_stBlk 24 _ _ rfl q (wds pp) rfl rfl 24 (wds p) CB.out.st (size_set pp) rfl (wds_all pp) (Below.refl w.heap.size wb) (Nat.le_of_lt CB.out.gq) ?_
          intro wc hk hbw hs ho hall
          have CC := Lib.hid (CB.out.put hbw ho hk)
          refine hK _ _ (hall q (Nat.le_refl _)) ?_
          (try simp only [Act.put, List.setIfInBounds_toArray, List.set_cons_zero, List.set_cons_succ])
          clear hK K
          replace hX := hX.trans (hall q (Nat.le_refl _))
          clear hk hbw hs ho hall
          refine wpAnyH_done (by kernel_rfl) ?_ _
          clear hX
          go_wp2_with fail
          exact ⟨⟨js, k1, pp, CC, HT2, HOK', HCV', HKL2⟩, by rw [HC.out.pl, CC.out.pl]; have h1 := HKL2.out; have h2 := HK1.out; have h3 := HLS.out; omega⟩
      · have HT1 := Lib.hid (show l.drop k = signB f ++ ([45] ++ (signB u ++ (iT js ++ 93 :: rest))) by rw [HTX.out]; simp only [iT]; rw [if_neg hfe]; simp)
        have HN93 := Lib.hid (show (decide (k < l.length) && decide (byteAt l k = 93)) = false by have h1 := head_not (x := 93) HF.out (by decide) (by decide) HT1.out; simp [h1.1])
        have ht2 := drop_on HT1.out
        have ht3 := drop_on ht2
        have ht4 := drop_on ht3
        have HY45 := Lib.hid (show (decide (k + (signB f).length < l.length) && decide (byteAt l (k + (signB f).length) = 45)) = true by
          have g1 := bAt (at_drop ht2 (i := 0) (c := 45) rfl)
          rw [show byteAt l (k + (signB f).length) = 45 from g1.1, decide_eq_true (show k + (signB f).length < l.length from g1.2)]; rfl)
        have hlen := drop_len HT1.out (.inr HKL.out)
        simp only [List.length_append, List.length_cons, List.length_nil] at hlen
        obtain ⟨k1, hk1⟩ : ∃ k1, k1 = k + (signB f).length := ⟨_, rfl⟩
        rw [← hk1] at HY45 ht2 ht3 ht4
        obtain ⟨k2, hk2⟩ : ∃ k2, k2 = k1 + 1 := ⟨_, rfl⟩
        rw [show k1 + ([45] : List UInt8).length = k2 from hk2.symm] at ht3 ht4
        obtain ⟨k3, hk3⟩ : ∃ k3, k3 = k2 + (signB u).length := ⟨_, rfl⟩
        rw [← hk3] at ht4
        have HT3 := Lib.hid ht3
        have HT2 := Lib.hid ht4
        have HKL1 := Lib.hid (show k1 ≤ l.length by omega)
        have HKL2 := Lib.hid (show k3 ≤ l.length by omega)
        have HK1 := Lib.hid (show k3 = k + ((signB f).length + 1 + (signB u).length) by omega)
        have HKA := Lib.hid hk1
        have HKB := Lib.hid hk2
        have HKC := Lib.hid hk3
        have hk1' : k1 ≤ 1000 := by have := HL.out; omega
        have n1 : ¬ ((u : Int) < (f : Int)) := by have := HFU.out; omega
        clear hfu hpp hrg hfe hk1 hk2 hk3 ht2 ht3 ht4 hlen
        go_wp2_with fail
        refine (ovC HC.out).mono ?_
        rintro e w5 ⟨rfl, h5⟩
        have C5 := Lib.hid h5
        clear h5
        go_wp2_with fail
        refine (isC C5.out HS.out HL.out HKL.out 93 false HN93.out).mono ?_
        rintro e w6 ⟨rfl, h6⟩
        have C6 := Lib.hid h6
        clear h6
        go_wp2_with fail
        refine (sgC C6.out HS.out HL.out f _ HF.out HT1.out).mono ?_
        rintro e w7 ⟨rfl, h7⟩
        rw [← HKA.out] at h7
        have C7 := Lib.hid h7
        clear h7
        go_wp2_with fail
        refine (ovC C7.out).mono ?_
        rintro e w8 ⟨rfl, h8⟩
        have C8 := Lib.hid h8
        clear h8
        go_wp2_with fail
        refine (isC C8.out HS.out HL.out HKL1.out 45 true HY45.out).mono ?_
        rintro e w10 ⟨rfl, h9⟩
        have C10 := Lib.hid h9
        clear h9
        have cw10 := C10.out.rd.c1
        have zw10 := C10.out.rd.fz 1
        have ew10 := step_wrap k1 (hk1')
        have fw10 := step_wrap' k1 (hk1')
        have y1 := (C10.out.inc ((k1 : Int) + 1) (k1 + 1) rfl).rd.c1
        go_wp2_with fail
        obtain ⟨w11, hw11⟩ : ∃ x, x = World.setCell w10 ⟨g, 1, none⟩ (.int .i64 ((k1 : Int) + 1)) := ⟨_, rfl⟩
        have c11 := C10.out.inc ((k1 : Int) + 1) k2 (by rw [HKB.out]; rfl)
        rw [← hw11] at c11 ⊢
        have C11 := Lib.hid c11
        clear c11 hw11 y1 cw10 zw10 ew10 fw10
        refine (sgC C11.out HS.out HL.out u _ HU.out HT3.out).mono ?_
        rintro e w9 ⟨rfl, h9⟩
        rw [← HKC.out] at h9
        have C9 := Lib.hid h9
        clear h9
        go_wp2_with fail
        have HRQ := Lib.hid (fun w => refRangeQ f u HF.out HU.out w rg HRG.out)
        refine sx_startB (B := q) (w0 := w9) (by kernel_rfl) (Below.refl _ _) (fun wd hwd hX => ?_)
        have CD := Lib.hid (show Cl w g q S k3 d z p wd by rw [hwd]; exact C9.out.below (Below.refl w9.heap.size w9).drew)
        clear hwd
        refine sx_take (i := 1) (oi := ⟨some 63, _, _, _, _, _⟩) (v := ?_) rfl (by kernel_rfl) (by kernel_rfl) (by kernel_rfl) (fun _ _ _ h => h) rfl hX ?_ ?_; rotate_left; (intro W hW; go_simp; try with_reducible rfl); simp only [Act.put, List.setIfInBounds_toArray, List.set_cons_zero, List.set_cons_succ]
        refine sx_take (i := 2) (oi := ⟨some 64, _, _, _, _, _⟩) (v := ?_) rfl (by kernel_rfl) (by kernel_rfl) (by kernel_rfl) (fun _ _ _ h => h) rfl hX ?_ ?_; rotate_left; (intro W hW; go_simp; try with_reducible rfl); simp only [Act.put, List.setIfInBounds_toArray, List.set_cons_zero, List.set_cons_succ]
        refine sx_two (i := 0) (j := 3) (oi := ⟨some 62, _, _, _, _, _⟩) (oj := ⟨some 65, _, _, _, _, _⟩) rfl rfl (by kernel_rfl) rfl rfl hX (fun K hK => ?_) (fun K hK => ?_)
        · refine wp_of_run (ld_blk 24 _ rfl q rfl 24 _ _ CD.out.st CD.out.st.lt Tryd.underlying24 rfl (size_set p) wd (Below.refl _ _)) ?_
          refine hK _ _ (Below.refl _ _) ?_
          (try simp only [Act.put, List.setIfInBounds_toArray, List.set_cons_zero, List.set_cons_succ])
          clear hK K
          refine sx_actB (i := 3) (o := ⟨some 65, _, _, _, _, _⟩) rfl (by kernel_rfl) rfl hX (fun K hK => ?_)
          go_wp2_with fail
          refine (HRQ.out wd).mono ?_
          rintro e wa ⟨rfl, hb⟩
          have CA := Lib.hid (CD.out.below hb)
          go_wp2_with fail
          refine hK _ _ (hb.mono (Nat.le_of_lt CD.out.st.lt)) ?_
          (try simp only [Act.put, List.setIfInBounds_toArray, List.set_cons_zero, List.set_cons_succ])
          clear hK K
          replace hX := hX.trans (hb.mono (Nat.le_of_lt CD.out.st.lt))
          clear hb
          refine sx_actB (i := 4) (o := ⟨some 66, _, _, _, _, _⟩) rfl (by kernel_rfl) rfl hX (fun K hK => ?_)
          go_wp2_with fail
          refine (refOr_any p rg wa).mono ?_
          rintro e wb ⟨rfl, hb⟩
          rw [HORQ.out]
          have CB := Lib.hid (CA.out.below hb)
          go_wp2_with fail
          refine hK _ _ (hb.mono (Nat.le_of_lt CA.out.st.lt)) ?_
          (try simp only [Act.put, List.setIfInBounds_toArray, List.set_cons_zero, List.set_cons_succ])
          clear hK K
          replace hX := hX.trans (hb.mono (Nat.le_of_lt CA.out.st.lt))
          clear hb
          refine sx_actB (i := 5) (o := ⟨none, _, _, _, _, _⟩) rfl (by kernel_rfl) rfl hX (fun K hK => ?_)
          refine wp_stBlk 24 _ _ rfl q (wds pp) rfl rfl 24 (wds p) CB.out.st (size_set pp) rfl (wds_all pp) (Below.refl w.heap.size wb) (Nat.le_of_lt CB.out.gq) ?_
          intro wc hk hbw hs ho hall
          have CC := Lib.hid (CB.out.put hbw ho hk)
          refine hK _ _ (hall q (Nat.le_refl _)) ?_
          (try simp only [Act.put, List.setIfInBounds_toArray, List.set_cons_zero, List.set_cons_succ])
          clear hK K
          replace hX := hX.trans (hall q (Nat.le_refl _))
          clear hk hbw hs ho hall
          refine wpAnyH_done (by kernel_rfl) ?_ _
          clear hX
          go_wp2_with fail
          exact ⟨⟨js, k3, pp, CC, HT2, HOK', HCV', HKL2⟩, by rw [HC.out.pl, CC.out.pl]; have h1 := HKL2.out; have h2 := HK1.out; have h3 := HLS.out; omega⟩
        · go_wp2_with fail
          refine (HRQ.out wd).mono ?_
          rintro e wa ⟨rfl, hb⟩
          have CA := Lib.hid (CD.out.below hb)
          go_wp2_with fail
          refine hK _ _ (hb.mono (Nat.le_of_lt CD.out.st.lt)) ?_
          (try simp only [Act.put, List.setIfInBounds_toArray, List.set_cons_zero, List.set_cons_succ])
          clear hK K
          replace hX := hX.trans (hb.mono (Nat.le_of_lt CD.out.st.lt))
          clear hb
          refine sx_actB (i := 0) (o := ⟨some 62, _, _, _, _, _⟩) rfl (by kernel_rfl) rfl hX (fun K hK => ?_)
          refine wp_of_run (ld_blk 24 _ rfl q rfl 24 _ _ CA.out.st CA.out.st.lt Tryd.underlying24 rfl (size_set p) wa (Below.refl _ _)) ?_
          refine hK _ _ (Below.refl _ _) ?_
          (try simp only [Act.put, List.setIfInBounds_toArray, List.set_cons_zero, List.set_cons_succ])
          clear hK K
          refine sx_actB (i := 4) (o := ⟨some 66, _, _, _, _, _⟩) rfl (by kernel_rfl) rfl hX (fun K hK => ?_)
          go_wp2_with fail
          refine (refOr_any p rg wa).mono ?_
          rintro e wb ⟨rfl, hb⟩
          rw [HORQ.out]
          have CB := Lib.hid (CA.out.below hb)
          go_wp2_with fail
          refine hK _ _ (hb.mono (Nat.le_of_lt CA.out.st.lt)) ?_
          (try simp only [Act.put, List.setIfInBounds_toArray, List.set_cons_zero, List.set_cons_succ])
          clear hK K
          replace hX := hX.trans (hb.mono (Nat.le_of_lt CA.out.st.lt))
          clear hb
          refine sx_actB (i := 5) (o := ⟨none, _, _, _, _, _⟩) rfl (by kernel_rfl) rfl hX (fun K hK => ?_)
          refine wp_stBlk 24 _ _ rfl q (wds pp) rfl rfl 24 (wds p) CB.out.st (size_set pp) rfl (wds_all pp) (Below.refl w.heap.size wb) (Nat.le_of_lt CB.out.gq) ?_
          intro wc hk hbw hs ho hall
          have CC := Lib.hid (CB.out.put hbw ho hk)
          refine hK _ _ (hall q (Nat.le_refl _)) ?_
          (try simp only [Act.put, List.setIfInBounds_toArray, List.set_cons_zero, List.set_cons_succ])
          clear hK K
          replace hX := hX.trans (hall q (Nat.le_refl _))
          clear hk hbw hs ho hall
          refine wpAnyH_done (by kernel_rfl) ?_ _
          clear hX
          go_wp2_with fail
          exact ⟨⟨js, k3, pp, CC, HT2, HOK', HCV', HKL2⟩, by rw [HC.out.pl, CC.out.pl]; have h1 := HKL2.out; have h2 := HK1.out; have h3 := HLS.out; omega⟩
end Go.Proofs.YtmlojjgddmnbmaaDoor
namespace Go.Proofs.YtmlojjgddmnbmaaDoor
open Go.RowKit
set_option linter.unusedSimpArgs false
set_option linter.unusedVariables false

/-- Plain, and within the limits. -/
def fine (t : T) : Prop := good t ∧ t.nodes ≤ 400 ∧ t.depth ≤ 30
set_option maxHeartbeats 4000000 in
set_option maxRecDepth 1000000 in
theorem may_at (t : T) (ht : fine t) (cs : List Value) (w : World) (hv : RxV w.heap.size w cs t) :
    Calls Tryd.prog 60 #[.agg cs.toArray] w fun e w' => e = .returned (.int .i64 0) ∧ Below w.heap.size w w' := by
  have V := Lib.hid hv
  have HC6 := Lib.hid hv.length
  have HF := Lib.hid ht
  have n1 : ¬ ((t.nodes : Int) > 400) := by have := ht.2.1; omega
  have n2 : ¬ ((t.depth : Int) > 30) := by have := ht.2.2; omega
  obtain ⟨n, hn⟩ : ∃ n, n = t.nodes := ⟨_, rfl⟩
  obtain ⟨m, hm⟩ : ∃ m, m = t.depth := ⟨_, rfl⟩
  have HN := Lib.hid hn
  have HM := Lib.hid hm
  rw [← hn] at n1
  rw [← hm] at n2
  clear hv ht hn hm
  go_enter Tryd.func60, Tryd.ntmps60
  go_wp2_with (first
    | ((with_reducible refine atDst 1 ?_); refine wpList_box rfl 27 _ rfl cs rfl (Below.refl w.heap.size w) (Nat.le_refl _) ?_; intro w1 hk1 hb1 hs1 _; have K1 := Lib.hid hk1; have B1 := Lib.hid hb1; clear hk1 hb1 hs1; (try simp only [Act.put, List.setIfInBounds_toArray, List.set_cons_zero, List.set_cons_succ]))
    | ((with_reducible refine atDst 4 ?_); refine wpList_ldArr rfl 27 _ rfl w.heap.size rfl 27 _ _ K1.out Tryd.underlying27 rfl (size_rx HC6.out) ?_; (try simp only [Act.put, List.setIfInBounds_toArray, List.set_cons_zero, List.set_cons_succ])))
  refine (refNodes_any t.nodes t (Nat.le_refl _) (by have := HF.out.2.1; omega) cs w1 ((V.out.stay B1.out).mono B1.out.size)).mono ?_
  rintro e w2 ⟨rfl, hb⟩
  rw [← HN.out]
  have B2 := Lib.hid (B1.out.trans (hb.mono B1.out.size))
  have K2 := Lib.hid (K1.out.below hb K1.out.lt)
  clear hb
  go_wp2_with ((with_reducible refine atDst 8 ?_); refine wpList_ldArr rfl 27 _ rfl w.heap.size rfl 27 _ _ K2.out Tryd.underlying27 rfl (size_rx HC6.out) ?_; (try simp only [Act.put, List.setIfInBounds_toArray, List.set_cons_zero, List.set_cons_succ]))
  refine (refDepth_any t.nodes t (Nat.le_refl _) (by have := HF.out.2.1; omega) cs w2 ((V.out.stay B2.out).mono B2.out.size)).mono ?_
  rintro e w3 ⟨rfl, hb⟩
  rw [← HM.out]
  have B3 := Lib.hid (B2.out.trans (hb.mono B2.out.size))
  have K3 := Lib.hid (K2.out.below hb K2.out.lt)
  clear hb
  go_wp2_with ((with_reducible refine atDst 12 ?_); refine wpList_ldArr rfl 27 _ rfl w.heap.size rfl 27 _ _ K3.out Tryd.underlying27 rfl (size_rx HC6.out) ?_; (try simp only [Act.put, List.setIfInBounds_toArray, List.set_cons_zero, List.set_cons_succ]))
  refine (refPlain_any t.nodes t (Nat.le_refl _) (by have := HF.out.2.1; omega) HF.out.1.1 cs w3 ((V.out.stay B3.out).mono B3.out.size)).mono ?_
  rintro e w4 ⟨rfl, hb⟩
  rw [HF.out.1.2]
  have B4 := Lib.hid (B3.out.trans (hb.mono B3.out.size))
  clear hb
  go_wp2_with fail
  go_ret
  exact ⟨rfl, B4.out⟩
set_option maxHeartbeats 4000000 in
set_option maxRecDepth 1000000 in
theorem made_at (t : T) (ht : fine t) (cs : List Value) (w : World) (g : Nat) (S : ByteArray) (a d : Nat) (h : Rg w g S a d) (hv : RxV w.heap.size w cs t) :
    Calls Tryd.prog 47 #[.pointer (some ⟨g, 0, none⟩), .agg cs.toArray] w fun e w' => e = .returned (.agg cs.toArray) ∧ Below w.heap.size w w' := by
  have V := Lib.hid hv
  have H := Lib.hid h
  have HC6 := Lib.hid hv.length
  have HC1 := Lib.hid (show cs.all (·.oneCell') = true from List.all_eq_true.2 (RxD.one hv))
  have HF := Lib.hid ht
  obtain ⟨i0, hi0, hz0, hz1, hz2⟩ := inf_rx'
  obtain ⟨z, hz⟩ : ∃ z, z = rxc 0 zeroS (.slice none 0 0) := ⟨_, rfl⟩
  have HZL := Lib.hid (show z.length = 6 by rw [hz]; rfl)
  have HZ0 := Lib.hid (show i0.zero = some (.agg z.toArray) by rw [hz]; exact hz0)
  clear hv ht h hz hz0
  go_enter Tryd.func47, Tryd.ntmps47
  go_wp2_with (first
    | ((with_reducible refine atDst 3 ?_); refine wpList_box rfl 27 _ rfl cs rfl (Below.refl w.heap.size w) (Nat.le_refl _) ?_; intro w1 hk1 hb1 hs1 _; have K1 := Lib.hid hk1; have B1 := Lib.hid hb1; clear hk1 hb1 hs1; (try simp only [Act.put, List.setIfInBounds_toArray, List.set_cons_zero, List.set_cons_succ]))
    | ((with_reducible refine atDst 4 ?_); refine wpList_new rfl 27 rfl i0 _ z hi0 HZ0.out rfl (Below.refl w1.heap.size w1) (Nat.le_refl _) ?_; intro w2 hk2 hb2 hs2 ho2; have L2 := Lib.hid hk2; have B2 := Lib.hid (B1.out.trans (hb2.mono B1.out.size)); have K2 := Lib.hid (K1.out.below hb2 K1.out.lt); have G2 := Lib.hid K1.out.lt; clear hk2 hb2 hs2 ho2; (try simp only [Act.put, List.setIfInBounds_toArray, List.set_cons_zero, List.set_cons_succ])))
  refine (over_no w2 g S a d (H.out.below B2.out)).mono ?_
  rintro e w3 ⟨rfl, hb⟩
  have B3 := Lib.hid (B2.out.trans (hb.mono B2.out.size))
  have K3 := Lib.hid (K2.out.below hb K2.out.lt)
  have L3 := Lib.hid (L2.out.below hb L2.out.lt)
  clear hb
  go_wp2_with ((with_reducible refine atDst 9 ?_); refine wpList_ldArr rfl 27 _ rfl w.heap.size rfl 27 _ _ K3.out Tryd.underlying27 rfl (size_rx HC6.out) ?_; (try simp only [Act.put, List.setIfInBounds_toArray, List.set_cons_zero, List.set_cons_succ]))
  refine (may_at t HF.out cs w3 ((V.out.stay B3.out).mono B3.out.size)).mono ?_
  rintro e w4 ⟨rfl, hb⟩
  have B4 := Lib.hid (B3.out.trans (hb.mono B3.out.size))
  have K4 := Lib.hid (K3.out.below hb K3.out.lt)
  have L4 := Lib.hid (L3.out.below hb L3.out.lt)
  clear hb
  go_wp2_with (first
    | ((with_reducible refine atDst 16 ?_); refine wpList_ldArr rfl 27 _ rfl w.heap.size rfl 27 _ _ K4.out Tryd.underlying27 rfl (size_rx HC6.out) ?_; (try simp only [Act.put, List.setIfInBounds_toArray, List.set_cons_zero, List.set_cons_succ]))
    | ((with_reducible refine atStore 27 4 16 ?_); refine wpList_stBlk rfl 27 _ _ rfl w1.heap.size cs rfl rfl 27 _ L4.out (size_rx HC6.out) (by rw [HZL.out, HC6.out]) HC1.out B4.out (Nat.le_of_lt G2.out) ?_; intro w5 hk5 hb5 hs5 ho5; have K5 := Lib.hid hk5; have B5 := Lib.hid hb5; clear hk5 hb5 hs5 ho5; (try simp only [Act.put, List.setIfInBounds_toArray, List.set_cons_zero, List.set_cons_succ])))
  refine bodyPost_ret (results_blk rfl _ _ w1.heap.size 27 _ _ rfl K5.out Tryd.underlying27 rfl (size_rx HC6.out)) rfl ?_
  exact ⟨rfl, B5.out⟩
end Go.Proofs.YtmlojjgddmnbmaaDoor
namespace Go.Proofs.YtmlojjgddmnbmaaDoor
open Go.RowKit
set_option linter.unusedSimpArgs false
set_option linter.unusedVariables false

mutual
/-- No star's part is an alternative with the empty one. -/
def niceT : T → Bool
  | .node k _ l => (decide (k ≠ 6) || !(l.any fun x => decide (x.kind = 5) && anyK 2 x.args)) && niceL l
def niceL : List T → Bool
  | [] => true
  | t :: r => niceT t && niceL r
end
theorem niceL_iff : ∀ {l : List T}, niceL l = true ↔ ∀ t ∈ l, niceT t = true
  | [] => by simp [niceL]
  | t :: r => by simp [niceL, @niceL_iff r]
def neat (t : T) : Prop := good t ∧ niceT t = true
theorem neat_part {t x : T} (h : neat t) (hx : x ∈ t.args) : neat x := by
  cases t with
  | node k s l =>
    have h2 := h.2
    simp only [niceT, Bool.and_eq_true] at h2
    exact ⟨(good_node.1 h.1).2.1 x hx, niceL_iff.1 h2.2 x hx⟩
theorem fit_part {t x : T} (h : good t) (hx : x ∈ t.args) : fitsT x.kind t.kind = true := by
  cases t with
  | node k s l => exact (good_node.1 h).2.2.2.2.1 x hx
theorem fits4 {k : Int} (h : fitsT k 4 = true) : k ≠ 1 ∧ k ≠ 2 ∧ k ≠ 4 := by
  unfold fitsT at h
  by_cases h2 : k = 2
  · rw [if_pos h2] at h; simp at h
  · rw [if_neg h2] at h; simp at h; exact ⟨h.1, h2, h.2⟩
theorem fits5 {k : Int} (h : fitsT k 5 = true) : k ≠ 1 ∧ k ≠ 5 := by
  unfold fitsT at h
  by_cases h2 : k = 2
  · omega
  · rw [if_neg h2] at h; simp at h; exact h
theorem fits6 {k : Int} (h : fitsT k 6 = true) : k ≠ 1 ∧ k ≠ 2 ∧ k ≠ 6 := by
  unfold fitsT at h
  by_cases h2 : k = 2
  · rw [if_pos h2] at h; simp at h
  · rw [if_neg h2] at h; simp at h; exact ⟨h.1, h2, h.2⟩
theorem cat_eq {s : Nat → Bool} {l : List T} (h : good (.node 4 s l)) : catT l = .node 4 s l := by
  obtain ⟨h1, h2, h3, h4, h5, _⟩ := good_node.1 h
  have hl : 2 ≤ l.length := by rw [count45 (.inl rfl)] at h4; simpa using h4
  exact sameT_eq _ _ (good_cat h2).1 h.1 ((cat_same h2 hl h1 (h3.resolve_left (by omega))).2 h5)
theorem alt_eq {s : Nat → Bool} {l : List T} (h : good (.node 5 s l)) : altT l = .node 5 s l := by
  obtain ⟨h1, h2, h3, h4, h5, h6⟩ := good_node.1 h
  have hl : 2 ≤ l.length := by rw [count45 (.inr rfl)] at h4; simpa using h4
  exact sameT_eq _ _ (good_alt h2).1 h.1 ((alt_same h2 hl h1 (h3.resolve_left (by omega))).2 ⟨h5, h6 rfl⟩)
theorem star_one {s : Nat → Bool} {l : List T} (h : good (.node 6 s l)) : ∃ x, l = [x] ∧ s = zeroS := by
  obtain ⟨h1, h2, h3, h4, h5, h6⟩ := good_node.1 h
  rw [count6] at h4
  have h4 : l.length = 1 := by simpa using h4
  match l, h4 with
  | [x], _ => exact ⟨x, rfl, can_eq h1 can_zero (h3.resolve_left (by omega))⟩
theorem star_eq {s : Nat → Bool} {x : T} (h : neat (.node 6 s [x])) : starT x = .node 6 s [x] := by
  obtain ⟨_, hx, hs⟩ := star_one h.1
  have hf := fits6 (fit_part h.1 (x := x) (by simp [T.args]))
  have hn := h.2
  simp only [niceT, Bool.and_eq_true, Bool.or_eq_true] at hn
  have hn1 : ¬ (x.kind = 5 ∧ anyK 2 x.args = true) := by
    rcases hn.1 with h0 | h0
    · simp at h0
    · simp only [List.any_cons, List.any_nil, Bool.or_false, Bool.not_eq_true', Bool.and_eq_false_iff, decide_eq_false_iff_not] at h0
      rintro ⟨a, b⟩
      rcases h0 with h0 | h0
      · exact h0 a
      · rw [b] at h0; cases h0
  unfold starT star1T
  rw [if_neg hn1, if_neg hf.2.2, if_neg (by omega), hs]
theorem leaf_eq {t : T} (h : good t) (hk : t.kind = 1 ∨ t.kind = 2) : t = .node t.kind zeroS [] := by
  cases t with
  | node k s l =>
    obtain ⟨h1, h2, h3, h4, h5, h6⟩ := good_node.1 h
    have hk : k = 1 ∨ k = 2 := hk
    rw [count12 hk] at h4
    have hl : l = [] := List.eq_nil_of_length_eq_zero (by simpa using h4)
    show T.node k s l = .node k zeroS []
    rw [hl, can_eq h1 can_zero (h3.resolve_left (by omega))]
/-! ### parts -/
def repsA (y : T) : List T := if y.kind = 2 then [] else if y.kind = 4 then y.args else [y]
def repsX (x : T) : List T := if x.kind = 4 then x.args else [x]
def altsX (x : T) : List (List T) := if x.kind = 5 then x.args.map repsA else [repsX x]
/-- .. of what stands in brackets. -/
def altsP (z : T) : List (List T) := if z.kind = 2 then [[]] else altsX z
def repT (y : T) : List UInt8 := if y.kind = 5 then 40 :: (textT y ++ [41]) else textT y
def atomT (z : T) : List UInt8 := if z.kind = 4 ∨ z.kind = 5 then 40 :: (textT z ++ [41]) else textT z
def joinA (b : Bool) : List (List T) → List UInt8
  | [] => []
  | r :: s => (if b then [] else [124]) ++ (catL r ++ joinA false s)
theorem catL_cons (y : T) (r : List T) : catL (y :: r) = repT y ++ catL r := rfl
theorem cat_one {y : T} (h : y.kind ≠ 5) : catL [y] = textT y := by
  rw [catL_cons]
  unfold repT
  rw [if_neg h]
  simp [catL]
theorem text_cat {y : T} (h : y.kind = 4) : textT y = catL y.args := by
  cases y with
  | node k s l =>
    have hk : k = 4 := h
    subst hk
    simp [textT, T.args]
theorem repsA_text {y : T} (h : fitsT y.kind 5 = true) : catL (repsA y) = if y.kind = 2 then [] else textT y := by
  unfold repsA
  by_cases h2 : y.kind = 2
  · rw [if_pos h2, if_pos h2]; rfl
  · rw [if_neg h2, if_neg h2]
    by_cases h4 : y.kind = 4
    · rw [if_pos h4, text_cat h4]
    · rw [if_neg h4, cat_one (fits5 h).2]
theorem join_alt : ∀ (b : Bool) (l : List T), (∀ y ∈ l, fitsT y.kind 5 = true) → altL b l = joinA b (l.map repsA)
  | b, [], _ => rfl
  | b, y :: r, h => by
    simp only [altL, List.map_cons, joinA]
    rw [repsA_text (h y (by simp)), join_alt false r fun x hx => h x (by simp [hx])]
theorem text_join {x : T} (h : good x) : textT x = joinA true (altsX x) := by
  unfold altsX
  by_cases h5 : x.kind = 5
  · rw [if_pos h5]
    cases x with
    | node k s l =>
      have hk : k = 5 := h5
      subst hk
      rw [show T.args (.node 5 s l) = l from rfl, ← join_alt true l fun y hy => fit_part h hy]
      simp [textT]
  · rw [if_neg h5]
    simp only [joinA, List.append_nil, if_true, List.nil_append]
    unfold repsX
    by_cases h4 : x.kind = 4
    · rw [if_pos h4, text_cat h4]
    · rw [if_neg h4, cat_one h5]
theorem cat_of_one {y : T} (h : good y) (h4 : y.kind ≠ 4) : catT [y] = y := by
  unfold catT
  have hf : flatT 4 [y] = [y] := by simp [flatT, h4]
  rw [hf]
  by_cases h1 : y.kind = 1
  · rw [if_pos (by simp [anyK, h1]), leaf_eq h (.inl h1), h1]; rfl
  · rw [if_neg (by simp [anyK, h1])]
    by_cases h2 : y.kind = 2
    · rw [show withoutT 2 [y] = [] by simp [withoutT, h2], leaf_eq h (.inr h2), h2]; rfl
    · rw [show withoutT 2 [y] = [y] by simp [withoutT, h2]]; rfl
theorem cat_args {y : T} (h : good y) (h4 : y.kind = 4) : catT y.args = y := by
  cases y with
  | node k s l =>
    have hk : k = 4 := h4
    subst hk
    exact cat_eq h
theorem repsA_tree {y : T} (h : good y) (hf : fitsT y.kind 5 = true) : catT (repsA y) = y := by
  unfold repsA
  by_cases h2 : y.kind = 2
  · rw [if_pos h2, leaf_eq h (.inr h2), h2]; rfl
  · rw [if_neg h2]
    by_cases h4 : y.kind = 4
    · rw [if_pos h4, cat_args h h4]
    · rw [if_neg h4, cat_of_one h h4]
theorem repsX_tree {x : T} (h : good x) : catT (repsX x) = x := by
  unfold repsX
  by_cases h4 : x.kind = 4
  · rw [if_pos h4, cat_args h h4]
  · rw [if_neg h4, cat_of_one h h4]
theorem alt_of_one {x : T} (h : good x) (h5 : x.kind ≠ 5) : altT [x] = x := by
  unfold altT
  have hf : flatT 5 [x] = [x] := by simp [flatT, h5]
  rw [hf]
  by_cases h1 : x.kind = 1
  · rw [show withoutT 1 [x] = [] by simp [withoutT, h1], leaf_eq h (.inl h1), h1]
    show wrapT 5 noneT (sortU (itemsT [])) = noneT
    rfl
  · rw [show withoutT 1 [x] = [x] by simp [withoutT, h1]]
    by_cases h3 : x.kind = 3
    · obtain ⟨e1, e2⟩ := good_three h h3
      have hor : orT [x] = x.set := by
        funext b
        simp [orT, h3]
      unfold itemsT
      rw [hor, e2, show withoutT 3 [x] = [] by simp [withoutT, h3], ← e1]
      rfl
    · have hor : eqS (orT [x]) zeroS = true := (eqS_iff _ _).2 fun b _ => by simp [orT, h3, zeroS]
      unfold itemsT
      rw [hor, show withoutT 3 [x] = [x] by simp [withoutT, h3]]
      rfl
theorem altsX_tree {x : T} (h : good x) : altT ((altsX x).map catT) = x := by
  unfold altsX
  by_cases h5 : x.kind = 5
  · rw [if_pos h5, List.map_map]
    cases x with
    | node k s l =>
      have hk : k = 5 := h5
      subst hk
      have : (T.args (.node 5 s l)).map (catT ∘ repsA) = l := by
        conv => rhs; rw [← List.map_id l]
        exact List.map_congr_left fun y hy => repsA_tree ((good_node.1 h).2.1 y hy) (fit_part h hy)
      rw [this]
      exact alt_eq h
  · rw [if_neg h5]
    simp only [List.map_cons, List.map_nil]
    rw [repsX_tree h, alt_of_one h h5]
theorem altsP_tree {z : T} (h : good z) : altT ((altsP z).map catT) = z := by
  unfold altsP
  by_cases h2 : z.kind = 2
  · rw [if_pos h2, leaf_eq h (.inr h2), h2]
    show altT [catT []] = _
    exact alt_of_one (x := emptyT) good_empty (by show (2 : Int) ≠ 5; omega)
  · rw [if_neg h2, altsX_tree h]
end Go.Proofs.YtmlojjgddmnbmaaDoor
namespace Go.Proofs.YtmlojjgddmnbmaaDoor
open Go.RowKit
set_option linter.unusedSimpArgs false
set_option linter.unusedVariables false

theorem good_kind {t : T} (h : good t) : t.kind = 1 ∨ t.kind = 2 ∨ t.kind = 3 ∨ t.kind = 4 ∨ t.kind = 5 ∨ t.kind = 6 := by
  cases t with
  | node k s l =>
    have h4 := (good_node.1 h).2.2.2.1
    by_cases h1 : k = 1
    · exact .inl h1
    by_cases h2 : k = 2
    · exact .inr (.inl h2)
    by_cases h3 : k = 3
    · exact .inr (.inr (.inl h3))
    by_cases h5 : k = 4
    · exact .inr (.inr (.inr (.inl h5)))
    by_cases h6 : k = 5
    · exact .inr (.inr (.inr (.inr (.inl h6))))
    by_cases h7 : k = 6
    · exact .inr (.inr (.inr (.inr (.inr h7))))
    · rw [count_no h1 h2 h3 h5 h6 h7] at h4; cases h4
/-- None of the signs that mean something behind a part. -/
def noOp (n : Nat) : Prop := n ≠ 124 ∧ n ≠ 41 ∧ n ≠ 42 ∧ n ≠ 43 ∧ n ≠ 63
theorem noOp_lit (b : UInt8) (h : (b.toNat != 124 && b.toNat != 41 && b.toNat != 42 && b.toNat != 43 && b.toNat != 63) = true) : noOp b.toNat := by
  unfold noOp
  simpa [and_assoc] using h
theorem noOp_sign {c : Nat} (hc : c < 256) : ∃ b r, signB c = b :: r ∧ noOp b.toNat := by
  obtain ⟨b, r, h1, h2⟩ := sign_head hc
  refine ⟨b, r, h1, ?_⟩
  unfold noOp
  rcases h2 with h2 | ⟨h2, h3⟩
  · omega
  · rw [h2]
    refine ⟨?_, ?_, ?_, ?_, ?_⟩ <;> (rintro rfl; revert h3; decide)
theorem set_cases (s : Nat → Bool) (h : memN s ≠ []) : setB s = [46] ∧ (memN s).length = 256 ∨ (∃ c, c < 256 ∧ memN s = [c] ∧ setB s = signB c) ∨ setB s = 91 :: (runsB (memN s) ++ [93]) := by
  unfold setB
  by_cases h1 : (memN s).length = 256
  · rw [if_pos h1]; exact .inl ⟨rfl, h1⟩
  · rw [if_neg h1]
    by_cases h2 : (memN s).length = 1
    · rw [if_pos h2]
      match hm : memN s, h2 with
      | [c], _ => exact .inr (.inl ⟨c, memN_lt (by rw [hm]; simp), rfl, rfl⟩)
    · rw [if_neg h2]; exact .inr (.inr rfl)
theorem set_text {t : T} (h : good t) (h3 : t.kind = 3) : textT t = setB t.set ∧ memN t.set ≠ [] := by
  obtain ⟨e1, e2⟩ := good_three h h3
  refine ⟨?_, setN_ne e2⟩
  rw [e1]
  rfl
theorem set_head {s : Nat → Bool} (h : memN s ≠ []) : ∃ b r, setB s = b :: r ∧ noOp b.toNat := by
  rcases set_cases s h with ⟨h1, _⟩ | ⟨c, hc, _, h1⟩ | h1
  · exact ⟨46, [], h1, noOp_lit _ (by decide)⟩
  · rw [h1]; exact noOp_sign hc
  · exact ⟨91, _, h1, noOp_lit _ (by decide)⟩
theorem rep_head {y : T} (h : good y) (h4 : y.kind ≠ 4) : ∃ b r, repT y = b :: r ∧ noOp b.toNat := by
  unfold repT
  by_cases h5 : y.kind = 5
  · rw [if_pos h5]; exact ⟨40, _, rfl, noOp_lit _ (by decide)⟩
  · rw [if_neg h5]
    rcases good_kind h with k | k | k | k | k | k
    · cases y with
      | node k' s l => have hk : k' = 1 := k; subst hk; exact ⟨91, [93], by simp [textT], noOp_lit _ (by decide)⟩
    · cases y with
      | node k' s l => have hk : k' = 2 := k; subst hk; exact ⟨40, [41], by simp [textT], noOp_lit _ (by decide)⟩
    · obtain ⟨e1, e2⟩ := set_text h k
      rw [e1]; exact set_head e2
    · exact absurd k h4
    · exact absurd k h5
    · cases y with
      | node k' s l =>
        have hk : k' = 6 := k
        subst hk
        obtain ⟨x, rfl, _⟩ := star_one h
        have hx := (good_node.1 h).2.1 x (by simp)
        have hf := fits6 (fit_part h (x := x) (by simp [T.args]))
        have e : textT (.node 6 s [x]) = if x.kind = 4 ∨ x.kind = 5 then 40 :: (textT x ++ [41, 42]) else textT x ++ [42] := by simp [textT, starL]
        rw [e]
        by_cases h45 : x.kind = 4 ∨ x.kind = 5
        · rw [if_pos h45]; exact ⟨40, _, rfl, noOp_lit _ (by decide)⟩
        · rw [if_neg h45]
          have h3 : x.kind = 3 := by rcases good_kind hx with k | k | k | k | k | k <;> omega
          obtain ⟨e1, e2⟩ := set_text hx h3
          obtain ⟨b, r, e3, e4⟩ := set_head e2
          exact ⟨b, r ++ [42], by rw [e1, e3]; rfl, e4⟩
theorem noOp_at {l : List UInt8} {a : Nat} {b : UInt8} {r : List UInt8} (h : l.drop a = b :: r) : byteAt l a = b.toNat ∧ a < l.length :=
  bAt (at_drop (p := b :: r) (r := []) (by simpa using h) (i := 0) (c := b) rfl)
theorem star_text {s : Nat → Bool} {x : T} : textT (.node 6 s [x]) = atomT x ++ [42] := by
  unfold atomT
  have e : textT (.node 6 s [x]) = if x.kind = 4 ∨ x.kind = 5 then 40 :: (textT x ++ [41, 42]) else textT x ++ [42] := by simp [textT, starL]
  rw [e]
  by_cases h45 : x.kind = 4 ∨ x.kind = 5
  · rw [if_pos h45, if_pos h45]; simp
  · rw [if_neg h45, if_neg h45]
/-! ### how great parts are -/
theorem nodes_args {t x : T} (h : x ∈ t.args) : x.nodes < t.nodes := by
  cases t with
  | node k s l =>
    have := nodes_mem (l := l) h
    simp only [T.nodes]
    omega
theorem depth_args {t x : T} (h : x ∈ t.args) : x.depth < t.depth := by
  cases t with
  | node k s l =>
    have := depth_mem (l := l) h
    simp only [T.depth]
    omega
theorem fine_part {t x : T} (h : fine t) (hx : x ∈ t.args) : fine x := by
  refine ⟨?_, by have := nodes_args hx; have := h.2.1; omega, by have := depth_args hx; have := h.2.2; omega⟩
  cases t with
  | node k s l => exact (good_node.1 h.1).2.1 x hx
theorem nodesL_args (t : T) : nodesL t.args < t.nodes := by
  cases t with
  | node k s l => simp only [T.nodes, T.args]; omega
theorem fine_empty : fine emptyT := ⟨good_empty, by decide +kernel, by decide +kernel⟩
/-- What the parts of what stands in a text, or in brackets, are. -/
theorem repsA_part {y p : T} (h : neat y) (hf : fitsT y.kind 5 = true) (hp : p ∈ repsA y) : neat p ∧ p.kind ≠ 4 ∧ p.nodes ≤ y.nodes ∧ p.depth ≤ y.depth := by
  unfold repsA at hp
  by_cases h2 : y.kind = 2
  · rw [if_pos h2] at hp; cases hp
  · rw [if_neg h2] at hp
    by_cases h4 : y.kind = 4
    · rw [if_pos h4] at hp
      have hfp := fit_part h.1 hp
      rw [h4] at hfp
      exact ⟨neat_part h hp, (fits4 hfp).2.2, Nat.le_of_lt (nodes_args hp), Nat.le_of_lt (depth_args hp)⟩
    · rw [if_neg h4] at hp
      obtain rfl := List.mem_singleton.1 hp
      exact ⟨h, h4, Nat.le_refl _, Nat.le_refl _⟩
theorem altsX_part {x p : T} (h : neat x) {r : List T} (hr : r ∈ altsX x) (hp : p ∈ r) : neat p ∧ p.kind ≠ 4 ∧ p.nodes ≤ x.nodes ∧ p.depth ≤ x.depth ∧ ((x.kind = 4 ∨ x.kind = 5) → p.nodes < x.nodes ∧ p.depth < x.depth) := by
  unfold altsX at hr
  by_cases h5 : x.kind = 5
  · rw [if_pos h5] at hr
    obtain ⟨y, hy, rfl⟩ := List.mem_map.1 hr
    have hf := fit_part h.1 hy
    rw [h5] at hf
    obtain ⟨i1, i2, i3, i4⟩ := repsA_part (neat_part h hy) hf hp
    have j1 := nodes_args hy
    have j2 := depth_args hy
    exact ⟨i1, i2, by omega, by omega, fun _ => ⟨by omega, by omega⟩⟩
  · rw [if_neg h5] at hr
    obtain rfl := List.mem_singleton.1 hr
    unfold repsX at hp
    by_cases h4 : x.kind = 4
    · rw [if_pos h4] at hp
      have hfp := fit_part h.1 hp
      rw [h4] at hfp
      have j1 := nodes_args hp
      have j2 := depth_args hp
      exact ⟨neat_part h hp, (fits4 hfp).2.2, by omega, by omega, fun _ => ⟨j1, j2⟩⟩
    · rw [if_neg h4] at hp
      obtain rfl := List.mem_singleton.1 hp
      exact ⟨h, h4, Nat.le_refl _, Nat.le_refl _, fun hk => by omega⟩
theorem altsX_fine {x : T} (h : fine x) {r : List T} (hr : r ∈ altsX x) : fine (catT r) ∧ nodesL r ≤ x.nodes := by
  unfold altsX at hr
  by_cases h5 : x.kind = 5
  · rw [if_pos h5] at hr
    obtain ⟨y, hy, rfl⟩ := List.mem_map.1 hr
    have hf := fit_part h.1 hy
    rw [h5] at hf
    have hfy := fine_part h hy
    refine ⟨by rw [repsA_tree hfy.1 hf]; exact hfy, ?_⟩
    have j1 := nodes_args hy
    unfold repsA
    split
    · simp [nodesL]
    · split
      · have := nodesL_args y; omega
      · simp only [nodesL]; omega
  · rw [if_neg h5] at hr
    obtain rfl := List.mem_singleton.1 hr
    refine ⟨by rw [repsX_tree h.1]; exact h, ?_⟩
    unfold repsX
    split
    · exact Nat.le_of_lt (nodesL_args x)
    · simp [nodesL]
theorem altsX_len (x : T) : (altsX x).length ≤ x.nodes := by
  unfold altsX
  split
  · rw [List.length_map]
    have h1 := len_nodes x.args
    have h2 := nodesL_args x
    omega
  · have := nodes_pos x
    simp
    omega
end Go.Proofs.YtmlojjgddmnbmaaDoor
namespace Go.Proofs.YtmlojjgddmnbmaaDoor
open Go.RowKit
set_option linter.unusedSimpArgs false
set_option linter.unusedVariables false

/-- Alternatives of sequences, read: what they come to. -/
def AltC (A : List (List T)) (x : T) : Prop := ∀ (w : World) (g : Nat) (l : List UInt8) (S : ByteArray) (a d : Nat) (rest : List UInt8), S = ⟨l.toArray⟩ → l.length ≤ 200 → Rg w g S a d → l.drop a = joinA true A ++ rest → a ≤ l.length → (rest = [] ∨ ∃ r, rest = 41 :: r) →
  (∀ r ∈ A, ∀ y ∈ r, d + y.depth ≤ 30) → Calls Tryd.prog 29 #[.pointer (some ⟨g, 0, none⟩)] w fun e w' => gotX w g S (a + (joinA true A).length) d x e w'
/-- An atom, read. -/
def AtomC (z : T) : Prop := ∀ (w : World) (g : Nat) (l : List UInt8) (S : ByteArray) (a d : Nat) (rest : List UInt8), S = ⟨l.toArray⟩ → l.length ≤ 200 → Rg w g S a d → l.drop a = atomT z ++ rest → d + z.depth ≤ 30 →
  Calls Tryd.prog 59 #[.pointer (some ⟨g, 0, none⟩)] w fun e w' => gotX w g S (a + (atomT z).length) d z e w'
/-- Within 'atom' and 'rep': the reader, and the result's block. -/
structure Ax (w : World) (g : Nat) (S : ByteArray) (k d : Nat) (z : List Value) (w' : World) : Prop where
  lt : g < w.heap.size
  rd : Rg w' g S k d
  gr : w.grownBy w' (some g)
  rz : Blk w' w.heap.size 27 z
section
variable {w w' w'' : World} {g k d : Nat} {S : ByteArray} {z : List Value}
theorem Ax.below (h : Ax w g S k d z w') (hb : Below w'.heap.size w' w'') : Ax w g S k d z w'' :=
  ⟨h.lt, h.rd.below hb, grownG_below h.gr (hb.mono h.gr.size), h.rz.below hb h.rz.lt⟩
theorem Ax.step {k' d' : Nat} (h : Ax w g S k d z w') (hg : w'.grownBy w'' (some g)) (hr : Rg w'' g S k' d') : Ax w g S k' d' z w'' :=
  ⟨h.lt, hr, grownG_trans h.gr hg, h.rz.grown hg (fun he => by have := Option.some.inj he; have := h.lt; omega)⟩
theorem Ax.inc (h : Ax w g S k d z w') (e : Int) (n : Nat) (he : e = (n : Int)) : Ax w g S n d z (w'.setCell ⟨g, 1, none⟩ (.int .i64 e)) := by
  have := h.rd.at1 e n he
  exact h.step this.2 this.1
theorem Ax.inc2 (h : Ax w g S k d z w') (e : Int) (n : Nat) (he : e = (n : Int)) : Ax w g S k n z (w'.setCell ⟨g, 2, none⟩ (.int .i64 e)) := by
  have := h.rd.at2 e n he
  exact h.step this.2 this.1
theorem ovA (h : Ax w g S k d z w') : Calls Tryd.prog 30 #[.pointer (some ⟨g, 0, none⟩)] w' fun e w'' => e = .returned (.bool false) ∧ Ax w g S k d z w'' := by
  refine (over_no w' g S k d h.rd).mono ?_
  rintro e w2 ⟨rfl, hb⟩
  exact ⟨rfl, h.below hb⟩
theorem isA {l : List UInt8} (h : Ax w g S k d z w') (hS : S = ⟨l.toArray⟩) (hl : l.length ≤ 200) (hk : k ≤ l.length) (c : Nat) (r : Bool) (hr : (decide (k < l.length) && decide (byteAt l k = c)) = r) :
    Calls Tryd.prog 45 #[.pointer (some ⟨g, 0, none⟩), .int .u8 (c : Int)] w' fun e w'' => e = .returned (.bool r) ∧ Ax w g S k d z w'' := by
  refine (is_at w' g l S hS k d h.rd hl hk c r hr).mono ?_
  rintro e w2 ⟨rfl, hb⟩
  exact ⟨rfl, h.below hb⟩
theorem nxA {l : List UInt8} (h : Ax w g S k d z w') (hS : S = ⟨l.toArray⟩) (hl : l.length ≤ 200) (hk : k < l.length) (c : Nat) (hc : byteAt l k = c) :
    Calls Tryd.prog 58 #[.pointer (some ⟨g, 0, none⟩)] w' fun e w'' => e = .returned (.tuple #[.int .u8 (c : Int), .bool true]) ∧ Ax w g S k d z w'' := by
  refine (next_at w' g l S hS k d h.rd hl hk c hc).mono ?_
  rintro e w2 ⟨rfl, hb⟩
  exact ⟨rfl, h.below hb⟩
/-- What was made behind the beginning is of the call's own. -/
theorem Ax.fresh {cs : List Value} {t : T} (h : Ax w g S k d z w') (hv : RxD (fun k => w'.heap.size ≤ k ∧ k < w''.heap.size) w'' cs t) : RxD (fun k => w.heap.size < k ∧ k < w''.heap.size) w'' cs t :=
  RxD.mono hv fun k hk => ⟨Nat.lt_of_lt_of_le h.rz.lt hk.1, hk.2⟩
/-- The result, stored. -/
theorem Ax.done {cs : List Value} {t : T} (h : Ax w g S k d z w') (hv : RxD (fun k => w.heap.size < k ∧ k < w'.heap.size) w' cs t) (hb : Below w.heap.size w' w'') (ho : ∀ k, k ≠ w.heap.size → w''.heap[k]? = w'.heap[k]?) :
    RxD (fun k => w.heap.size ≤ k ∧ k < w''.heap.size) w'' cs t ∧ w.grownBy w'' (some g) ∧ Rg w'' g S k d :=
  ⟨RxD.mono (hv.stay fun k hk => ho k (by omega)) fun k hk => ⟨Nat.le_of_lt hk.1, Nat.lt_of_lt_of_le hk.2 hb.size⟩, grownG_below h.gr hb, (ho g (by have := h.lt; omega)).trans h.rd⟩
end
set_option maxHeartbeats 4000000 in
set_option maxRecDepth 1000000 in
/-- .. a class. -/
theorem atom_class (w : World) (g : Nat) (l : List UInt8) (S : ByteArray) (a d : Nat) (s : Nat → Bool) (rest : List UInt8) (hS : S = ⟨l.toArray⟩) (hl : l.length ≤ 200) (h : Rg w g S a d) (ht : l.drop a = 91 :: (runsB (memN s) ++ 93 :: rest)) :
    Calls Tryd.prog 59 #[.pointer (some ⟨g, 0, none⟩)] w fun e w' => gotX w g S (a + ((runsB (memN s)).length + 2)) d (bytesT s) e w' := by
  have g1 := noOp_at ht
  have HB := Lib.hid (show byteAt l a = 91 from g1.1)
  have HA := Lib.hid g1.2
  have HT := Lib.hid ht
  clear g1 ht
  have H := Lib.hid h
  have HS := Lib.hid hS
  have HL := Lib.hid hl
  obtain ⟨i0, hi0, hz0, hz1, hz2⟩ := inf_rx'
  obtain ⟨z0, hz⟩ : ∃ z, z = rxc 0 zeroS (.slice none 0 0) := ⟨_, rfl⟩
  have HZL := Lib.hid (show z0.length = 6 by rw [hz]; rfl)
  have HZ0 := Lib.hid (show i0.zero = some (.agg z0.toArray) by rw [hz]; exact hz0)
  clear h hS hl hz hz0
  go_enter Tryd.func59, Tryd.ntmps59
  go_wp2_with ((with_reducible refine atDst 2 ?_); refine wpList_new rfl 27 rfl i0 _ z0 hi0 HZ0.out rfl (Below.refl w.heap.size w) (Nat.le_refl _) ?_; intro w1 hk hb hs ho; have X1 := Lib.hid (show Ax w g S a d z0 w1 from ⟨H.out.lt, H.out.below hb, below_grownG g hb, hk⟩); clear hk hb hs ho; (try simp only [Act.put, List.setIfInBounds_toArray, List.set_cons_zero, List.set_cons_succ]))
  refine (nxA X1.out HS.out HL.out HA.out 91 HB.out).mono ?_
  rintro e w2 ⟨rfl, h2⟩
  have X2 := Lib.hid h2
  clear h2
  go_wp2_with fail
  refine (class_at w2 g l S HS.out a d s rest HL.out X2.out.rd HT.out).mono ?_
  rintro e w3 ⟨ds, rfl, hv, hg, hr⟩
  have X3 := Lib.hid (X2.out.step hg hr)
  have DV := Lib.hid (X2.out.fresh hv)
  have D6 := Lib.hid hv.length
  have D1 := Lib.hid (show ds.all (·.oneCell') = true from List.all_eq_true.2 (RxD.one hv))
  clear hv hg hr
  go_wp2_with ((with_reducible refine atStore 27 2 18 ?_); refine wpList_stBlk rfl 27 _ _ rfl w.heap.size ds rfl rfl 27 _ X3.out.rz (size_rx D6.out) (by rw [HZL.out, D6.out]) D1.out (Below.refl w.heap.size w3) (Nat.le_refl _) ?_; intro w9 hk hb hs ho; have K9 := Lib.hid hk; have E9 := Lib.hid (X3.out.done DV.out hb ho); clear hk hb hs ho; (try simp only [Act.put, List.setIfInBounds_toArray, List.set_cons_zero, List.set_cons_succ]))
  refine bodyPost_ret (results_blk rfl _ _ w.heap.size 27 _ _ rfl K9.out Tryd.underlying27 rfl (size_rx D6.out)) rfl ?_
  exact ⟨ds, rfl, E9.out.1, E9.out.2.1, E9.out.2.2⟩
set_option maxHeartbeats 4000000 in
set_option maxRecDepth 1000000 in
/-- .. any byte. -/
theorem atom_dot (w : World) (g : Nat) (l : List UInt8) (S : ByteArray) (a d : Nat) (s : Nat → Bool) (rest : List UInt8) (hS : S = ⟨l.toArray⟩) (hl : l.length ≤ 200) (h : Rg w g S a d) (ht : l.drop a = 46 :: rest) (hs : wds (rangeS 0 255) = wds s) :
    Calls Tryd.prog 59 #[.pointer (some ⟨g, 0, none⟩)] w fun e w' => gotX w g S (a + 1) d (bytesT s) e w' := by
  have g1 := noOp_at ht
  have HB := Lib.hid (show byteAt l a = 46 from g1.1)
  have HA := Lib.hid g1.2
  have HWS := Lib.hid hs
  have ha1 : a ≤ 1000 := by have := g1.2; omega
  clear g1 ht hs
  have H := Lib.hid h
  have HS := Lib.hid hS
  have HL := Lib.hid hl
  obtain ⟨i0, hi0, hz0, hz1, hz2⟩ := inf_rx'
  obtain ⟨z0, hz⟩ : ∃ z, z = rxc 0 zeroS (.slice none 0 0) := ⟨_, rfl⟩
  have HZL := Lib.hid (show z0.length = 6 by rw [hz]; rfl)
  have HZ0 := Lib.hid (show i0.zero = some (.agg z0.toArray) by rw [hz]; exact hz0)
  clear h hS hl hz hz0
  obtain ⟨q, hq⟩ : ∃ q, q = rangeS 0 255 := ⟨_, rfl⟩
  have HQ := Lib.hid hq
  rw [← hq] at HWS
  clear hq
  go_enter Tryd.func59, Tryd.ntmps59
  go_wp2_with ((with_reducible refine atDst 2 ?_); refine wpList_new rfl 27 rfl i0 _ z0 hi0 HZ0.out rfl (Below.refl w.heap.size w) (Nat.le_refl _) ?_; intro w1 hk hb hs ho; have X1 := Lib.hid (show Ax w g S a d z0 w1 from ⟨H.out.lt, H.out.below hb, below_grownG g hb, hk⟩); clear hk hb hs ho; (try simp only [Act.put, List.setIfInBounds_toArray, List.set_cons_zero, List.set_cons_succ]))
  refine (nxA X1.out HS.out HL.out HA.out 46 HB.out).mono ?_
  rintro e w2 ⟨rfl, h2⟩
  have X2 := Lib.hid h2
  clear h2
  have cw2 := X2.out.rd.c1
  have zw2 := X2.out.rd.fz 1
  have ew2 := step_wrap a (ha1)
  have fw2 := step_wrap' a (ha1)
  go_wp2_with fail
  obtain ⟨b, hb⟩ : ∃ x, x = a + 1 := ⟨_, rfl⟩
  obtain ⟨w3, hw3⟩ : ∃ x, x = World.setCell w2 ⟨g, 1, none⟩ (.int .i64 ((a : Int) + 1)) := ⟨_, rfl⟩
  have rw3 := X2.out.inc ((a : Int) + 1) b (by rw [hb]; rfl)
  rw [← hw3] at rw3 ⊢
  have Xw3 := Lib.hid rw3
  have Eb := Lib.hid hb
  clear hw3 rw3 hb
  clear cw2 zw2 ew2 fw2
  refine (show Calls Tryd.prog 19 #[.int .u8 0, .int .u8 255] w3 _ from refRangeQ 0 255 (by omega) (by omega) w3 q HQ.out).mono ?_
  rintro e w4 ⟨rfl, hb⟩
  have X4 := Lib.hid (Xw3.out.below hb)
  clear hb
  go_wp2_with fail
  rw [HWS.out]
  refine (refBytes_any s w4).mono ?_
  rintro e w8 ⟨ds, rfl, hds, hb⟩
  have X8 := Lib.hid (X4.out.below hb)
  have DV := Lib.hid (RxD.mono (hds (fun _ => False)) (D' := fun k => w.heap.size < k ∧ k < w8.heap.size) fun k hk => absurd hk id)
  have D6 := Lib.hid (hds (fun _ => False)).length
  have D1 := Lib.hid (show ds.all (·.oneCell') = true from List.all_eq_true.2 (hds (fun _ => False)).one)
  clear hds hb
  go_wp2_with ((with_reducible refine atStore 27 2 32 ?_); refine wpList_stBlk rfl 27 _ _ rfl w.heap.size ds rfl rfl 27 _ X8.out.rz (size_rx D6.out) (by rw [HZL.out, D6.out]) D1.out (Below.refl w.heap.size w8) (Nat.le_refl _) ?_; intro w9 hk hb hs ho; have K9 := Lib.hid hk; have E9 := Lib.hid (X8.out.done DV.out hb ho); clear hk hb hs ho; (try simp only [Act.put, List.setIfInBounds_toArray, List.set_cons_zero, List.set_cons_succ]))
  refine bodyPost_ret (results_blk rfl _ _ w.heap.size 27 _ _ rfl K9.out Tryd.underlying27 rfl (size_rx D6.out)) rfl ?_
  exact ⟨ds, rfl, E9.out.1, E9.out.2.1, by have := E9.out.2.2; rw [Eb.out] at this; exact this⟩
set_option maxHeartbeats 4000000 in
set_option maxRecDepth 1000000 in
/-- .. one byte. -/
theorem atom_sign (w : World) (g : Nat) (l : List UInt8) (S : ByteArray) (a d c : Nat) (s : Nat → Bool) (rest : List UInt8) (hS : S = ⟨l.toArray⟩) (hl : l.length ≤ 200) (h : Rg w g S a d) (hc : c < 256) (ht : l.drop a = signB c ++ rest) (hs : wds (listS [c]) = wds s) :
    Calls Tryd.prog 59 #[.pointer (some ⟨g, 0, none⟩)] w fun e w' => gotX w g S (a + (signB c).length) d (bytesT s) e w' := by
  obtain ⟨x, hx⟩ : ∃ x, x = byteAt l a := ⟨_, rfl⟩
  have n91 := head_not (x := 91) hc (by decide) (by decide) ht
  have n46 := head_not (x := 46) hc (by decide) (by decide) ht
  have n40 := head_not (x := 40) hc (by decide) (by decide) ht
  rw [← hx] at n91 n46 n40
  have HB := Lib.hid hx.symm
  have HA := Lib.hid n91.2
  have q91 : ((x : Int) == 91) = false := by rw [beq_eq_false_iff_ne]; have := n91.1; omega
  have q46 : ((x : Int) == 46) = false := by rw [beq_eq_false_iff_ne]; have := n46.1; omega
  have q40 : ((x : Int) != 40) = true := by have := n40.1; simp; omega
  have HWS := Lib.hid hs
  have HT := Lib.hid ht
  have HC := Lib.hid hc
  have HBV := Lib.hid (bv_ofNat hc)
  obtain ⟨i1, hi1, hy0, hy1⟩ := info_u8
  have HY0 := Lib.hid hy0
  clear n91 n46 n40 ht hs hx hy0 hc
  have H := Lib.hid h
  have HS := Lib.hid hS
  have HL := Lib.hid hl
  obtain ⟨i0, hi0, hz0, hz1, hz2⟩ := inf_rx'
  obtain ⟨z0, hz⟩ : ∃ z, z = rxc 0 zeroS (.slice none 0 0) := ⟨_, rfl⟩
  have HZL := Lib.hid (show z0.length = 6 by rw [hz]; rfl)
  have HZ0 := Lib.hid (show i0.zero = some (.agg z0.toArray) by rw [hz]; exact hz0)
  clear h hS hl hz hz0
  obtain ⟨q, hq⟩ : ∃ q, q = listS [c] := ⟨_, rfl⟩
  have HQ := Lib.hid hq
  rw [← hq] at HWS
  clear hq
  go_enter Tryd.func59, Tryd.ntmps59
  go_wp2_with ((with_reducible refine atDst 2 ?_); refine wpList_new rfl 27 rfl i0 _ z0 hi0 HZ0.out rfl (Below.refl w.heap.size w) (Nat.le_refl _) ?_; intro w1 hk hb hs ho; have X1 := Lib.hid (show Ax w g S a d z0 w1 from ⟨H.out.lt, H.out.below hb, below_grownG g hb, hk⟩); clear hk hb hs ho; (try simp only [Act.put, List.setIfInBounds_toArray, List.set_cons_zero, List.set_cons_succ]))
  refine (nxA X1.out HS.out HL.out HA.out x HB.out).mono ?_
  rintro e w2 ⟨rfl, h2⟩
  have X2 := Lib.hid h2
  clear h2
  go_wp2_with fail
  refine (sign_at w2 g l S HS.out a d c rest false HL.out X2.out.rd HC.out HT.out).mono ?_
  rintro e w3 ⟨rfl, hg, hr⟩
  have X3 := Lib.hid (X2.out.step hg hr)
  clear hg hr
  go_wp2_with ((with_reducible refine atDst 42 ?_); refine wpList_bldB1 rfl 34 5 _ rfl i1 Tryd.underlying34 hi1 HY0.out hy1 (UInt8.ofNat c) HBV.out.symm ?_; intro w4 _ hr4 hb4 _; have R4 := Lib.hid hr4; have X4 := Lib.hid (X3.out.below hb4); clear hr4 hb4; (try simp only [Act.put, List.setIfInBounds_toArray, List.set_cons_zero, List.set_cons_succ]))
  refine (refOf1 c HC.out _ w4 R4.out q HQ.out).mono ?_
  rintro e w5 ⟨rfl, hb⟩
  have X5 := Lib.hid (X4.out.below hb)
  clear hb
  go_wp2_with fail
  rw [HWS.out]
  refine (refBytes_any s w5).mono ?_
  rintro e w8 ⟨ds, rfl, hds, hb⟩
  have X8 := Lib.hid (X5.out.below hb)
  have DV := Lib.hid (RxD.mono (hds (fun _ => False)) (D' := fun k => w.heap.size < k ∧ k < w8.heap.size) fun k hk => absurd hk id)
  have D6 := Lib.hid (hds (fun _ => False)).length
  have D1 := Lib.hid (show ds.all (·.oneCell') = true from List.all_eq_true.2 (hds (fun _ => False)).one)
  clear hds hb
  go_wp2_with ((with_reducible refine atStore 27 2 44 ?_); refine wpList_stBlk rfl 27 _ _ rfl w.heap.size ds rfl rfl 27 _ X8.out.rz (size_rx D6.out) (by rw [HZL.out, D6.out]) D1.out (Below.refl w.heap.size w8) (Nat.le_refl _) ?_; intro w9 hk hb hs ho; have K9 := Lib.hid hk; have E9 := Lib.hid (X8.out.done DV.out hb ho); clear hk hb hs ho; (try simp only [Act.put, List.setIfInBounds_toArray, List.set_cons_zero, List.set_cons_succ]))
  refine bodyPost_ret (results_blk rfl _ _ w.heap.size 27 _ _ rfl K9.out Tryd.underlying27 rfl (size_rx D6.out)) rfl ?_
  exact ⟨ds, rfl, E9.out.1, E9.out.2.1, E9.out.2.2⟩
set_option maxHeartbeats 4000000 in
set_option maxRecDepth 1000000 in
/-- .. in brackets. -/
theorem atom_par (A : List (List T)) (x : T) (hx : AltC A x) (w : World) (g : Nat) (l : List UInt8) (S : ByteArray) (a d : Nat) (rest : List UInt8) (hS : S = ⟨l.toArray⟩) (hl : l.length ≤ 200) (h : Rg w g S a d) (ht : l.drop a = [40] ++ (joinA true A ++ (41 :: rest))) (hd : d + 1 ≤ 30)
    (hy : ∀ r ∈ A, ∀ y ∈ r, d + 1 + y.depth ≤ 30) :
    Calls Tryd.prog 59 #[.pointer (some ⟨g, 0, none⟩)] w fun e w' => gotX w g S (a + ((joinA true A).length + 2)) d x e w' := by
  have g1 := noOp_at (b := 40) ht
  have HB := Lib.hid (show byteAt l a = 40 from g1.1)
  have HA := Lib.hid g1.2
  have h2 := drop_on ht
  have h3 := drop_on h2
  have HT2 := Lib.hid (show l.drop (a + 1) = joinA true A ++ (41 :: rest) from h2)
  have g3 := noOp_at h3
  have HE := Lib.hid (show (decide (a + 1 + (joinA true A).length < l.length) && decide (byteAt l (a + 1 + (joinA true A).length) = 41)) = true by
    have e1 : byteAt l (a + 1 + (joinA true A).length) = 41 := g3.1
    have e2 : a + 1 + (joinA true A).length < l.length := g3.2
    rw [e1, decide_eq_true e2]; rfl)
  have HEL := Lib.hid (show a + 1 + (joinA true A).length < l.length from g3.2)
  have ha1 : a ≤ 1000 := by have := g1.2; omega
  have hd1 : d ≤ 1000 := by omega
  have n30 : ¬ ((d : Int) + 1 > 30) := by omega
  have HX := Lib.hid hx
  have HY := Lib.hid hy
  clear g1 h2 h3 g3 ht hx hy hd
  have H := Lib.hid h
  have HS := Lib.hid hS
  have HL := Lib.hid hl
  obtain ⟨i0, hi0, hz0, hz1, hz2⟩ := inf_rx'
  obtain ⟨z0, hz⟩ : ∃ z, z = rxc 0 zeroS (.slice none 0 0) := ⟨_, rfl⟩
  have HZL := Lib.hid (show z0.length = 6 by rw [hz]; rfl)
  have HZ0 := Lib.hid (show i0.zero = some (.agg z0.toArray) by rw [hz]; exact hz0)
  clear h hS hl hz hz0
  go_enter Tryd.func59, Tryd.ntmps59
  go_wp2_with ((with_reducible refine atDst 2 ?_); refine wpList_new rfl 27 rfl i0 _ z0 hi0 HZ0.out rfl (Below.refl w.heap.size w) (Nat.le_refl _) ?_; intro w1 hk hb hs ho; have X1 := Lib.hid (show Ax w g S a d z0 w1 from ⟨H.out.lt, H.out.below hb, below_grownG g hb, hk⟩); clear hk hb hs ho; (try simp only [Act.put, List.setIfInBounds_toArray, List.set_cons_zero, List.set_cons_succ]))
  refine (nxA X1.out HS.out HL.out HA.out 40 HB.out).mono ?_
  rintro e w2 ⟨rfl, h2⟩
  have X2 := Lib.hid h2
  clear h2
  have c2 := X2.out.rd.c2
  have z2 := X2.out.rd.fz 2
  have e2 := step_wrap d hd1
  have f2 := step_wrap' d hd1
  have y2 := (X2.out.inc2 ((d : Int) + 1) (d + 1) rfl).rd.c2
  go_wp2_with fail
  obtain ⟨d2, hd2⟩ : ∃ d2, d2 = d + 1 := ⟨_, rfl⟩
  obtain ⟨w3, hw3⟩ : ∃ x, x = World.setCell w2 ⟨g, 2, none⟩ (.int .i64 ((d : Int) + 1)) := ⟨_, rfl⟩
  have r3 := X2.out.inc2 ((d : Int) + 1) d2 (by rw [hd2]; rfl)
  rw [← hw3] at r3 ⊢
  have X3 := Lib.hid r3
  have ED := Lib.hid hd2
  clear r3 hw3 hd2 c2 z2 e2 f2 y2
  refine (ovA X3.out).mono ?_
  rintro e w4 ⟨rfl, h4⟩
  have X4 := Lib.hid h4
  clear h4
  have cw4 := X4.out.rd.c1
  have zw4 := X4.out.rd.fz 1
  have ew4 := step_wrap a (ha1)
  have fw4 := step_wrap' a (ha1)
  go_wp2_with fail
  obtain ⟨b, hb⟩ : ∃ x, x = a + 1 := ⟨_, rfl⟩
  obtain ⟨w5, hw5⟩ : ∃ x, x = World.setCell w4 ⟨g, 1, none⟩ (.int .i64 ((a : Int) + 1)) := ⟨_, rfl⟩
  have rw5 := X4.out.inc ((a : Int) + 1) b (by rw [hb]; rfl)
  rw [← hw5] at rw5 ⊢
  have Xw5 := Lib.hid rw5
  have Eb := Lib.hid hb
  clear hw5 rw5 hb
  clear cw4 zw4 ew4 fw4
  refine (HX.out w5 g l S b d2 (41 :: rest) HS.out HL.out Xw5.out.rd (by rw [Eb.out]; exact HT2.out) (by have h1 := Eb.out; have h2 := HEL.out; omega) (.inr ⟨rest, rfl⟩) (fun r hr y hy => by rw [ED.out]; exact HY.out r hr y hy)).mono ?_
  rintro e w6 ⟨ds, rfl, hv, hg, hr⟩
  obtain ⟨k, hk⟩ : ∃ k, k = b + (joinA true A).length := ⟨_, rfl⟩
  rw [← hk] at hr
  have EK := Lib.hid (show k = a + 1 + (joinA true A).length by rw [hk, Eb.out])
  have X6 := Lib.hid (Xw5.out.step hg hr)
  have DV6 := Lib.hid (Xw5.out.fresh hv)
  have D6 := Lib.hid hv.length
  have D1 := Lib.hid (show ds.all (·.oneCell') = true from List.all_eq_true.2 (RxD.one hv))
  clear hv hg hr hk
  go_wp2_with (first
    | ((with_reducible refine atDst 6 ?_); refine wpList_new rfl 27 rfl i0 _ z0 hi0 HZ0.out rfl (Below.refl w6.heap.size w6) (Nat.le_refl _) ?_; intro w7 hk hb hs ho; have L7 := Lib.hid hk; have B7 := Lib.hid hb; clear hk hb hs ho; (try simp only [Act.put, List.setIfInBounds_toArray, List.set_cons_zero, List.set_cons_succ]))
    | ((with_reducible refine atStore 27 6 76 ?_); refine wpList_stBlk rfl 27 _ _ rfl w6.heap.size ds rfl rfl 27 _ L7.out (size_rx D6.out) (by rw [HZL.out, D6.out]) D1.out B7.out (Nat.le_refl _) ?_; intro w8 hk hb hs ho; have K8 := Lib.hid hk; have X8 := Lib.hid (X6.out.below hb); have DV8 := Lib.hid (show RxD (fun k => w.heap.size < k ∧ k < w8.heap.size) w8 ds x from RxD.mono (DV6.out.stay fun k hk => hb.block k hk.2) fun k hk => ⟨hk.1, Nat.lt_of_lt_of_le hk.2 hb.size⟩); clear hk hb hs ho; (try simp only [Act.put, List.setIfInBounds_toArray, List.set_cons_zero, List.set_cons_succ])))
  have HKL := Lib.hid (show k < l.length by rw [EK.out]; exact HEL.out)
  refine (is_at w8 g l S HS.out k d2 X8.out.rd HL.out (Nat.le_of_lt HKL.out) 41 true (by rw [EK.out]; exact HE.out)).mono ?_
  rintro e w9 ⟨rfl, hb⟩
  have X9 := Lib.hid (X8.out.below hb)
  have K9 := Lib.hid (K8.out.below hb K8.out.lt)
  have DV9 := Lib.hid (show RxD (fun k => w.heap.size < k ∧ k < w9.heap.size) w9 ds x from RxD.mono (DV8.out.stay fun k hk => hb.block k hk.2) fun k hk => ⟨hk.1, Nat.lt_of_lt_of_le hk.2 hb.size⟩)
  have HNE := Lib.hid (show w6.heap.size ≠ g by have h1 := X6.out.rd.lt; omega)
  clear hb
  have hk1 : k ≤ 1000 := by have h1 := HKL.out; have h2 := HL.out; omega
  have hdd : (d2 : Int) - 1 = (d : Int) := by have := ED.out; omega
  have cw9 := X9.out.rd.c1
  have zw9 := X9.out.rd.fz 1
  have ew9 := step_wrap k (hk1)
  have fw9 := step_wrap' k (hk1)
  have y2 := (X9.out.inc ((k : Int) + 1) (k + 1) rfl).rd.c2
  have y3 := (X9.out.inc ((k : Int) + 1) (k + 1) rfl).rd.fz 2
  have e8 : wrap64 ((d2 : Int) - 1) = (d : Int) := by rw [hdd]; exact IntWalk.wrap64_in _ (by omega)
  have e9 : IntKind.i64.wrap ((d2 : Int) - 1) = (d : Int) := by rw [hdd]; exact IntWalk.i64_in _ (by omega)
  have XQ := Lib.hid ((X9.out.inc ((k : Int) + 1) (k + 1) rfl).inc2 (d : Int) d rfl)
  have KQ := Lib.hid ((K9.out.far (p := ⟨g, 1, none⟩) HNE.out (.int .i64 ((k : Int) + 1))).far (p := ⟨g, 2, none⟩) HNE.out (.int .i64 (d : Int)))
  clear hdd
  go_wp2_with (first
    | ((with_reducible refine atDst 100 ?_); refine wpList_ldArr rfl 27 _ rfl w6.heap.size rfl 27 _ _ KQ.out Tryd.underlying27 rfl (size_rx D6.out) ?_; (try simp only [Act.put, List.setIfInBounds_toArray, List.set_cons_zero, List.set_cons_succ]))
    | ((with_reducible refine atStore 27 2 100 ?_); refine wpList_stBlk rfl 27 _ _ rfl w.heap.size ds rfl rfl 27 _ XQ.out.rz (size_rx D6.out) (by rw [HZL.out, D6.out]) D1.out (Below.refl w.heap.size _) (Nat.le_refl _) ?_; intro wz hk hb hs ho; have KZ := Lib.hid hk; have EZ := Lib.hid (XQ.out.done (t := x) (cs := ds) (RxD.mono (DV9.out.stay fun k hk => by rw [Below.heap_setCell _ _ _ k (by have h1 := hk.1; have h2 := XQ.out.lt; show k ≠ g; omega), Below.heap_setCell _ _ _ k (by have h1 := hk.1; have h2 := XQ.out.lt; show k ≠ g; omega)]) fun k hk => ⟨hk.1, by simpa using hk.2⟩) hb ho); clear hk hb hs ho; (try simp only [Act.put, List.setIfInBounds_toArray, List.set_cons_zero, List.set_cons_succ])))
  refine bodyPost_ret (results_blk rfl _ _ w.heap.size 27 _ _ rfl KZ.out Tryd.underlying27 rfl (size_rx D6.out)) rfl ?_
  refine ⟨ds, rfl, EZ.out.1, EZ.out.2.1, ?_⟩
  have h1 := EZ.out.2.2
  rw [show k + 1 = a + ((joinA true A).length + 2) by have h2 := EK.out; omega] at h1
  exact h1
end Go.Proofs.YtmlojjgddmnbmaaDoor
namespace Go.Proofs.YtmlojjgddmnbmaaDoor
open Go.RowKit
set_option linter.unusedSimpArgs false
set_option linter.unusedVariables false

theorem full_wds {s : Nat → Bool} (h : (memN s).length = 256) : wds (rangeS 0 255) = wds s := wds_congr fun b hb => by
  have h1 : ∀ a ∈ List.range 256, s a = true := List.length_filter_eq_length_iff.1 (by rw [List.length_range]; exact h)
  rw [h1 b (List.mem_range.2 hb)]
  unfold rangeS
  exact decide_eq_true ⟨Nat.zero_le _, by omega⟩
theorem one_wds {s : Nat → Bool} {c : Nat} (h : memN s = [c]) : wds (listS [c]) = wds s := wds_congr fun b hb => by
  unfold listS
  rw [Bool.eq_iff_iff, decide_eq_true_iff, ← h, memN_mem]
  exact ⟨fun h => h.2, fun h => ⟨hb, h⟩⟩
theorem bytes_node {s : Nat → Bool} (h : eqS s zeroS = false) : bytesT s = .node 3 s [] := by
  unfold bytesT
  rw [h]
  rfl
theorem memN_zero : memN zeroS = [] := by
  unfold memN zeroS
  simp
theorem bytes_zero : bytesT zeroS = noneT := by
  unfold bytesT
  rw [if_pos (eqS_self _)]
theorem atom_at (z : T) (hz : good z) (h6 : z.kind ≠ 6) (ih : z.kind = 2 ∨ z.kind = 4 ∨ z.kind = 5 → AltC (altsP z) z ∧ ∀ r ∈ altsP z, ∀ y ∈ r, y.depth < z.depth) : AtomC z := by
  intro w g l S a d rest hS hl h ht hd
  have hpar : (hk : z.kind = 2 ∨ z.kind = 4 ∨ z.kind = 5) → (he : atomT z = ([40] : List UInt8) ++ (joinA true (altsP z) ++ [41])) → Calls Tryd.prog 59 #[.pointer (some ⟨g, 0, none⟩)] w fun e w' => gotX w g S (a + (atomT z).length) d z e w' := fun hk he => by
    obtain ⟨i1, i2⟩ := ih hk
    rw [he] at ht ⊢
    have h1 := atom_par (altsP z) z i1 w g l S a d rest hS hl h (by rw [ht]; simp) (by have := depth_pos z; omega) (fun r hr y hy => by have := i2 r hr y hy; omega)
    have e3 : (([40] : List UInt8) ++ (joinA true (altsP z) ++ [41])).length = (joinA true (altsP z)).length + 2 := by simp
    rw [e3]
    exact h1
  rcases good_kind hz with k | k | k | k | k | k
  · have e := leaf_eq hz (.inl k)
    rw [k] at e
    rw [e] at ht ⊢
    have ht' : l.drop a = 91 :: (runsB (memN zeroS) ++ 93 :: rest) := by rw [ht, memN_zero]; simp [atomT, textT, T.kind, runsB]
    have h1 := atom_class w g l S a d zeroS rest hS hl h ht'
    rw [memN_zero, bytes_zero] at h1
    exact h1
  · refine hpar (.inl k) ?_
    have e := leaf_eq hz (.inr k)
    rw [k] at e
    rw [e]
    simp [atomT, textT, T.kind, altsP, joinA, catL]
  · obtain ⟨e1, e2⟩ := good_three hz k
    obtain ⟨t1, t2⟩ := set_text hz k
    have ea : atomT z = setB z.set := by unfold atomT; rw [if_neg (by omega), t1]
    rw [ea] at ht ⊢
    have eb : bytesT z.set = z := by rw [bytes_node e2]; exact e1.symm
    rcases set_cases z.set t2 with ⟨c1, c2⟩ | ⟨c, c1, c2, c3⟩ | c1
    · rw [c1] at ht ⊢
      have h1 := atom_dot w g l S a d z.set rest hS hl h ht (full_wds c2)
      rw [eb] at h1
      exact h1
    · rw [c3] at ht ⊢
      have h1 := atom_sign w g l S a d c z.set rest hS hl h c1 ht (one_wds c2)
      rw [eb] at h1
      exact h1
    · rw [c1] at ht ⊢
      have h1 := atom_class w g l S a d z.set rest hS hl h (by rw [ht]; simp)
      rw [eb] at h1
      have e3 : (91 :: (runsB (memN z.set) ++ [93]) : List UInt8).length = (runsB (memN z.set)).length + 2 := by simp
      rw [e3]
      exact h1
  · refine hpar (.inr (.inl k)) ?_
    unfold atomT altsP
    rw [if_pos (.inl k), if_neg (by omega), text_join hz]
    rfl
  · refine hpar (.inr (.inr k)) ?_
    unfold atomT altsP
    rw [if_pos (.inr k), if_neg (by omega), text_join hz]
    rfl
  · exact absurd k h6
/-- What may be repeated, read. -/
def RepC (y : T) : Prop := ∀ (w : World) (g : Nat) (l : List UInt8) (S : ByteArray) (a d : Nat) (rest : List UInt8), S = ⟨l.toArray⟩ → l.length ≤ 200 → Rg w g S a d → l.drop a = repT y ++ rest →
  (∀ b r, rest = b :: r → b.toNat ≠ 42 ∧ b.toNat ≠ 43 ∧ b.toNat ≠ 63) → d + y.depth ≤ 30 →
  Calls Tryd.prog 46 #[.pointer (some ⟨g, 0, none⟩)] w fun e w' => gotX w g S (a + (repT y).length) d y e w'
theorem Ax.pl {w w' : World} {g k d : Nat} {S : ByteArray} {z : List Value} (h : Ax w g S k d z w') : plOf w' g = k := by
  unfold plOf
  rw [h.rd.c1]
  simp
theorem isNot {l : List UInt8} {k : Nat} {rest : List UInt8} (h : l.drop k = rest) (c : Nat) (hn : ∀ b r, rest = b :: r → b.toNat ≠ c) : (decide (k < l.length) && decide (byteAt l k = c)) = false := by
  cases rest with
  | nil =>
    have := List.drop_eq_nil_iff.1 h
    rw [decide_eq_false (by omega)]
    rfl
  | cons b r =>
    have g1 := noOp_at h
    rw [g1.1, decide_eq_false (hn b r rfl)]
    simp
/-- The expression in block q, whose parts lie elsewhere, in blocks behind n. -/
def Hold (n q : Nat) (w : World) (t : T) : Prop := ∃ ds, Blk w q 27 ds ∧ RxD (fun k => n < k ∧ k < w.heap.size ∧ k ≠ q) w ds t
theorem Hold.below {n q : Nat} {w w' : World} {t : T} (h : Hold n q w t) (hb : Below w.heap.size w w') : Hold n q w' t := by
  obtain ⟨ds, h1, h2⟩ := h
  exact ⟨ds, h1.below hb h1.lt, RxD.mono (h2.stay fun k hk => hb.block k hk.2.1) fun k hk => ⟨hk.1, Nat.lt_of_lt_of_le hk.2.1 hb.size, hk.2.2⟩⟩
theorem Hold.grown {n q g : Nat} {w w' : World} {t : T} (h : Hold n q w t) (hg : w.grownBy w' (some g)) (hgn : g < n) (hq : n < q) : Hold n q w' t := by
  obtain ⟨ds, h1, h2⟩ := h
  exact ⟨ds, h1.grown hg (fun he => by have := Option.some.inj he; omega), RxD.mono (h2.stay fun k hk => hg.block k hk.2.1 (fun he => by have := Option.some.inj he; omega)) fun k hk => ⟨hk.1, Nat.lt_of_lt_of_le hk.2.1 hg.size, hk.2.2⟩⟩
theorem Ax.putq {w w' w'' : World} {g k d q : Nat} {S : ByteArray} {z : List Value} (h : Ax w g S k d z w') (hq : w.heap.size < q) (hb : Below w.heap.size w' w'') (ho : ∀ i, i ≠ q → w''.heap[i]? = w'.heap[i]?) : Ax w g S k d z w'' :=
  ⟨h.lt, (ho g (by have := h.lt; omega)).trans h.rd, grownG_below h.gr hb, (ho _ (by omega)).trans h.rz⟩
set_option maxHeartbeats 8000000 in
set_option maxRecDepth 1000000 in
theorem rep_walk (z y : T) (tail : List UInt8) (hz : AtomC z) (hy : fine y) (hzg : fine z) (htl : tail = [42] ∧ starT z = y ∨ tail = [] ∧ z = y) (w : World) (g : Nat) (l : List UInt8) (S : ByteArray) (a d : Nat) (rest : List UInt8) (hS : S = ⟨l.toArray⟩) (hl : l.length ≤ 200) (h : Rg w g S a d)
    (ht : l.drop a = atomT z ++ (tail ++ rest)) (hn : ∀ b r, rest = b :: r → b.toNat ≠ 42 ∧ b.toNat ≠ 43 ∧ b.toNat ≠ 63) (hd : d + z.depth ≤ 30) :
    Calls Tryd.prog 46 #[.pointer (some ⟨g, 0, none⟩)] w fun e w' => gotX w g S (a + ((atomT z).length + tail.length)) d y e w' := by
  have HZ := Lib.hid hz
  have HYF := Lib.hid hy
  have HZF := Lib.hid hzg
  have HTL := Lib.hid htl
  have HT := Lib.hid ht
  have HN := Lib.hid hn
  have HD := Lib.hid hd
  have HT2 := Lib.hid (drop_on ht)
  have HEND := Lib.hid (drop_len (l := l) (a := a) (p := atomT z ++ tail) (r := rest) (by rw [ht]; simp) (.inl (by
    unfold atomT
    intro he
    have h1 := List.append_eq_nil_iff.1 he
    by_cases hk : z.kind = 4 ∨ z.kind = 5
    · rw [if_pos hk] at h1; cases h1.1
    · rw [if_neg hk] at h1
      have h4 : z.kind ≠ 4 := fun hh => hk (.inl hh)
      have h5 : z.kind ≠ 5 := fun hh => hk (.inr hh)
      obtain ⟨b, r, h6, _⟩ := rep_head hzg.1 h4
      unfold repT at h6
      rw [if_neg h5, h1.1] at h6
      cases h6)))
  clear hz hy hzg htl ht hn hd
  have H := Lib.hid h
  have HS := Lib.hid hS
  have HL := Lib.hid hl
  obtain ⟨i0, hi0, hz0, hz1, hz2⟩ := inf_rx'
  obtain ⟨z0, hz⟩ : ∃ z, z = rxc 0 zeroS (.slice none 0 0) := ⟨_, rfl⟩
  have HZL := Lib.hid (show z0.length = 6 by rw [hz]; rfl)
  have HZ0 := Lib.hid (show i0.zero = some (.agg z0.toArray) by rw [hz]; exact hz0)
  clear h hS hl hz hz0
  go_enter Tryd.func46, Tryd.ntmps46
  go_wp2_with ((with_reducible refine atDst 2 ?_); refine wpList_new rfl 27 rfl i0 _ z0 hi0 HZ0.out rfl (Below.refl w.heap.size w) (Nat.le_refl _) ?_; intro w1 hk hb hs ho; have X1 := Lib.hid (show Ax w g S a d z0 w1 from ⟨H.out.lt, H.out.below hb, below_grownG g hb, hk⟩); clear hk hb hs ho; (try simp only [Act.put, List.setIfInBounds_toArray, List.set_cons_zero, List.set_cons_succ]))
  refine (HZ.out w1 g l S a d (tail ++ rest) HS.out HL.out X1.out.rd HT.out HD.out).mono ?_
  rintro e w2 ⟨ds, rfl, hv, hg, hr⟩
  obtain ⟨k0, hk0⟩ : ∃ k, k = a + (atomT z).length := ⟨_, rfl⟩
  rw [← hk0] at hr
  have EK := Lib.hid hk0
  have X2 := Lib.hid (X1.out.step hg hr)
  have DV2 := Lib.hid (X1.out.fresh hv)
  have D6 := Lib.hid hv.length
  have D1 := Lib.hid (show ds.all (·.oneCell') = true from List.all_eq_true.2 (RxD.one hv))
  clear hv hg hr hk0
  go_wp2_with (first
    | ((with_reducible refine atDst 3 ?_); refine wpList_new rfl 27 rfl i0 _ z0 hi0 HZ0.out rfl (Below.refl w2.heap.size w2) (Nat.le_refl _) ?_; intro w3 hk hb hs ho; have L3 := Lib.hid hk; have B3 := Lib.hid hb; clear hk hb hs ho; (try simp only [Act.put, List.setIfInBounds_toArray, List.set_cons_zero, List.set_cons_succ]))
    | ((with_reducible refine atStore 27 3 7 ?_); refine wpList_stBlk rfl 27 _ _ rfl w2.heap.size ds rfl rfl 27 _ L3.out (size_rx D6.out) (by rw [HZL.out, D6.out]) D1.out B3.out (Nat.le_refl _) ?_; intro w4 hk hb hs ho; have X4 := Lib.hid (X2.out.below hb); have H4 := Lib.hid (show Hold w.heap.size w2.heap.size w4 z from ⟨ds, hk, RxD.mono (DV2.out.stay fun k hk => hb.block k hk.2) fun k hk => ⟨hk.1, Nat.lt_of_lt_of_le hk.2 hb.size, by omega⟩⟩); clear hk hb hs ho; (try simp only [Act.put, List.setIfInBounds_toArray, List.set_cons_zero, List.set_cons_succ])))
  obtain ⟨q, hq⟩ : ∃ q, q = w2.heap.size := ⟨_, rfl⟩
  have HQ := Lib.hid (show w.heap.size < q by rw [hq]; exact X2.out.rz.lt)
  rw [← hq] at H4 ⊢
  clear hq D6 D1 DV2
  go_loopw [4, 5] (fun _ _ wl => ∃ (k : Nat) (t : T) (tl : List UInt8), Hid (Ax w g S k d z0 wl) ∧ Hid (Hold w.heap.size q wl t) ∧ Hid (l.drop k = tl ++ rest) ∧ Hid (tl = [42] ∧ starT t = y ∧ t = z ∨ tl = [] ∧ t = y) ∧ Hid (k + tl.length = a + ((atomT z).length + tail.length))) (fun _ _ wl => l.length - plOf wl g)
  case atStart =>
    refine ⟨k0, z, tail, X4, H4, Lib.hid (by rw [EK.out]; exact HT2.out), Lib.hid ?_, Lib.hid (by rw [EK.out]; omega)⟩
    rcases HTL.out with ⟨h1, h2⟩ | ⟨h1, h2⟩
    · exact .inl ⟨h1, h2, rfl⟩
    · exact .inr ⟨h1, h2⟩
  case round =>
    obtain ⟨k, t, tl, HX, HH, HTX, HCS, HSUM⟩ := hrel
    have HKL := Lib.hid (show k ≤ l.length by have h1 := HEND.out; have h2 := HSUM.out; rw [List.length_append] at h1; omega)
    have hk1 : k ≤ 1000 := by have h1 := HKL.out; have h2 := HL.out; omega
    by_cases htl : tl = [42]
    · have hst : starT t = y ∧ t = z := by
        rcases HCS.out with h1 | h1
        · exact h1.2
        · rw [htl] at h1; cases h1.1
      have HST := Lib.hid hst
      have hdr : l.drop k = 42 :: rest := by rw [HTX.out, htl]; rfl
      have g1 := noOp_at hdr
      have HB := Lib.hid (show byteAt l k = 42 from g1.1)
      have HLT := Lib.hid g1.2
      have HB2 := Lib.hid (show (decide (k < l.length) && decide (byteAt l k = 42)) = true by rw [show byteAt l k = 42 from g1.1, decide_eq_true g1.2]; rfl)
      have HNX := Lib.hid (show l.drop (k + 1) = rest by rw [← List.drop_drop, hdr]; rfl)
      have HS2 := Lib.hid (show k + 1 = a + ((atomT z).length + tail.length) by have h1 := HSUM.out; rw [htl] at h1; exact h1)
      clear hst hdr g1 htl
      go_wp2_with fail
      refine (over_no wr g S k d HX.out.rd).mono ?_
      rintro e w5 ⟨rfl, hb⟩
      have Xw5 := Lib.hid (HX.out.below hb)
      have Hw5 := Lib.hid (HH.out.below hb)
      clear hb
      go_wp2_with fail
      refine (is_at w5 g l S HS.out k d Xw5.out.rd HL.out HKL.out 42 true (HB2.out)).mono ?_
      rintro e w6 ⟨rfl, hb⟩
      have Xw6 := Lib.hid (Xw5.out.below hb)
      have Hw6 := Lib.hid (Hw5.out.below hb)
      clear hb
      go_wp2_with fail
      refine (next_at w6 g l S HS.out k d Xw6.out.rd HL.out HLT.out 42 HB.out).mono ?_
      rintro e w7 ⟨rfl, hb⟩
      have X7 := Lib.hid (Xw6.out.below hb)
      have H7 := Lib.hid (Hw6.out.below hb)
      clear hb
      have cw7 := X7.out.rd.c1
      have zw7 := X7.out.rd.fz 1
      have ew7 := step_wrap k (hk1)
      have fw7 := step_wrap' k (hk1)
      obtain ⟨es, hkk, hvv⟩ := H7.out.grown (X7.out.rd.at1 ((k : Int) + 1) (k + 1) rfl).2 X7.out.lt HQ.out
      have KK := Lib.hid hkk
      have VV := Lib.hid hvv
      have E6 := Lib.hid hvv.length
      clear hkk hvv
      go_wp2_with ((with_reducible refine atDst 42 ?_); refine wpList_ldArr rfl 27 _ rfl q rfl 27 _ _ KK.out Tryd.underlying27 rfl (size_rx E6.out) ?_; (try simp only [Act.put, List.setIfInBounds_toArray, List.set_cons_zero, List.set_cons_succ]))
      obtain ⟨w8, hw8⟩ : ∃ x, x = World.setCell w7 ⟨g, 1, none⟩ (.int .i64 ((k : Int) + 1)) := ⟨_, rfl⟩
      have r8 := X7.out.inc ((k : Int) + 1) (k + 1) rfl
      rw [← hw8] at r8 KK VV ⊢
      have X8 := Lib.hid r8
      clear r8 hw8 cw7 zw7 ew7 fw7
      refine (refStar_any t es w8 (fun j hj => hj.2.1) VV.out (by rw [HST.out.2]; have := HZF.out.2.1; omega) (by rw [HST.out.2]; exact HZF.out.1)).mono ?_
      rintro e w9 ⟨fs, rfl, hfs, hb⟩
      rw [HST.out.1] at hfs
      have X9 := Lib.hid (X8.out.below hb)
      have K9 := Lib.hid (KK.out.below hb KK.out.lt)
      have F6 := Lib.hid hfs.length
      have F1 := Lib.hid (show fs.all (·.oneCell') = true from List.all_eq_true.2 (RxD.one hfs))
      have V9 := Lib.hid (show RxD (fun j => w.heap.size < j ∧ j < w9.heap.size ∧ j ≠ q) w9 fs y from RxD.mono hfs fun j hj => by have h1 := KK.out.lt; have h2 := HQ.out; exact ⟨by omega, hj.2, by omega⟩)
      clear hfs hb
      go_wp2_with (first
        | ((with_reducible refine atStore 27 3 43 ?_); refine wpList_stBlk rfl 27 _ _ rfl q fs rfl rfl 27 _ K9.out (size_rx F6.out) (by rw [E6.out, F6.out]) F1.out (Below.refl w.heap.size w9) (Nat.le_of_lt HQ.out) ?_; intro wa hk hb hs ho; have XA := Lib.hid (X9.out.putq HQ.out hb ho); have KA := Lib.hid hk; have VA := Lib.hid (show RxD (fun j => w.heap.size < j ∧ j < wa.heap.size ∧ j ≠ q) wa fs y from RxD.mono (V9.out.stay fun j hj => ho j hj.2.2) fun j hj => ⟨hj.1, by omega, hj.2.2⟩); clear hk hb hs ho; (try simp only [Act.put, List.setIfInBounds_toArray, List.set_cons_zero, List.set_cons_succ]))
        | ((with_reducible refine atDst 52 ?_); refine wpList_ldArr rfl 27 _ rfl q rfl 27 _ _ KA.out Tryd.underlying27 rfl (size_rx F6.out) ?_; (try simp only [Act.put, List.setIfInBounds_toArray, List.set_cons_zero, List.set_cons_succ])))
      refine (made_at y HYF.out fs wa g S (k + 1) d XA.out.rd (RxD.mono VA.out fun j hj => hj.2.1)).mono ?_
      rintro e wb ⟨rfl, hb⟩
      have XB := Lib.hid (XA.out.below hb)
      have KB := Lib.hid (KA.out.below hb KA.out.lt)
      have VB := Lib.hid (show RxD (fun j => w.heap.size < j ∧ j < wb.heap.size ∧ j ≠ q) wb fs y from RxD.mono (VA.out.stay fun j hj => hb.block j hj.2.1) fun j hj => ⟨hj.1, Nat.lt_of_lt_of_le hj.2.1 hb.size, hj.2.2⟩)
      clear hb
      go_wp2_with ((with_reducible refine atStore 27 3 53 ?_); refine wpList_stBlk rfl 27 _ _ rfl q fs rfl rfl 27 _ KB.out (size_rx F6.out) rfl F1.out (Below.refl w.heap.size wb) (Nat.le_of_lt HQ.out) ?_; intro wc hk hb hs ho; have XC := Lib.hid (XB.out.putq HQ.out hb ho); have HC := Lib.hid (show Hold w.heap.size q wc y from ⟨fs, hk, RxD.mono (VB.out.stay fun j hj => ho j hj.2.2) fun j hj => ⟨hj.1, by omega, hj.2.2⟩⟩); clear hk hb hs ho; (try simp only [Act.put, List.setIfInBounds_toArray, List.set_cons_zero, List.set_cons_succ]))
      exact ⟨⟨k + 1, y, [], XC, HC, Lib.hid (by rw [HNX.out]; rfl), Lib.hid (.inr ⟨rfl, rfl⟩), Lib.hid (by rw [← HS2.out]; rfl)⟩, by rw [HX.out.pl, XC.out.pl]; have := HLT.out; omega⟩
    · have hst : tl = [] ∧ t = y := by
        rcases HCS.out with h1 | h1
        · exact absurd h1.1 htl
        · exact h1
      have hdr : l.drop k = rest := by rw [HTX.out, hst.1]; rfl
      have N42 := Lib.hid (isNot hdr 42 fun b r hb => (HN.out b r hb).1)
      have N43 := Lib.hid (isNot hdr 43 fun b r hb => (HN.out b r hb).2.1)
      have N63 := Lib.hid (isNot hdr 63 fun b r hb => (HN.out b r hb).2.2)
      have HS2 := Lib.hid (show k = a + ((atomT z).length + tail.length) by have h1 := HSUM.out; rw [hst.1] at h1; exact h1)
      have HTY := Lib.hid hst.2
      clear hst hdr htl
      go_wp2_with fail
      refine (over_no wr g S k d HX.out.rd).mono ?_
      rintro e w5 ⟨rfl, hb⟩
      have Xw5 := Lib.hid (HX.out.below hb)
      have Hw5 := Lib.hid (HH.out.below hb)
      clear hb
      go_wp2_with fail
      refine (is_at w5 g l S HS.out k d Xw5.out.rd HL.out HKL.out 42 false (N42.out)).mono ?_
      rintro e w6 ⟨rfl, hb⟩
      have Xw6 := Lib.hid (Xw5.out.below hb)
      have Hw6 := Lib.hid (Hw5.out.below hb)
      clear hb
      go_wp2_with fail
      refine (is_at w6 g l S HS.out k d Xw6.out.rd HL.out HKL.out 43 false (N43.out)).mono ?_
      rintro e w7 ⟨rfl, hb⟩
      have Xw7 := Lib.hid (Xw6.out.below hb)
      have Hw7 := Lib.hid (Hw6.out.below hb)
      clear hb
      go_wp2_with fail
      refine (is_at w7 g l S HS.out k d Xw7.out.rd HL.out HKL.out 63 false (N63.out)).mono ?_
      rintro e w8 ⟨rfl, hb⟩
      have Xw8 := Lib.hid (Xw7.out.below hb)
      have Hw8 := Lib.hid (Hw7.out.below hb)
      clear hb
      obtain ⟨es, hkk, hvv⟩ := Hw8.out
      have KK := Lib.hid hkk
      have VV := Lib.hid (show RxD (fun k => w.heap.size < k ∧ k < w8.heap.size) w8 es y from HTY.out ▸ RxD.mono hvv fun j hj => ⟨hj.1, hj.2.1⟩)
      have E6 := Lib.hid hvv.length
      have E1 := Lib.hid (show es.all (·.oneCell') = true from List.all_eq_true.2 (RxD.one hvv))
      clear hkk hvv
      go_wp2_with (first
        | ((with_reducible refine atDst 54 ?_); refine wpList_ldArr rfl 27 _ rfl q rfl 27 _ _ KK.out Tryd.underlying27 rfl (size_rx E6.out) ?_; (try simp only [Act.put, List.setIfInBounds_toArray, List.set_cons_zero, List.set_cons_succ]))
        | ((with_reducible refine atStore 27 2 54 ?_); refine wpList_stBlk rfl 27 _ _ rfl w.heap.size es rfl rfl 27 _ Xw8.out.rz (size_rx E6.out) (by rw [HZL.out, E6.out]) E1.out (Below.refl w.heap.size w8) (Nat.le_refl _) ?_; intro w9 hk hb hs ho; have K9 := Lib.hid hk; have E9 := Lib.hid (Xw8.out.done VV.out hb ho); clear hk hb hs ho; (try simp only [Act.put, List.setIfInBounds_toArray, List.set_cons_zero, List.set_cons_succ])))
      refine bodyPost_ret (results_blk rfl _ _ w.heap.size 27 _ _ rfl K9.out Tryd.underlying27 rfl (size_rx E6.out)) rfl ?_
      exact ⟨es, rfl, E9.out.1, E9.out.2.1, by rw [← HS2.out]; exact E9.out.2.2⟩
end Go.Proofs.YtmlojjgddmnbmaaDoor
namespace Go.Proofs.YtmlojjgddmnbmaaDoor
open Go.RowKit
set_option linter.unusedSimpArgs false
set_option linter.unusedVariables false

theorem ld_i64 {ev : Operand → Value} {o : Oper} (x : Operand) (ho : o.op = .load 3 x) {p : Addr} (hx : ev x = .pointer (some p)) {n : Int} {W : World} (hc : W.cell? p = some (.int .i64 n)) : (execOp ev o).run Tryd.prog W = .ok (.value (.int .i64 n)) W := by
  simp only [execOp, ho, hx]
  go_simp
theorem ld_str {ev : Operand → Value} {o : Oper} (x : Operand) (ho : o.op = .load 9 x) {p : Addr} (hx : ev x = .pointer (some p)) {Z : ByteArray} {W : World} (hc : W.cell? p = some (.string Z)) : (execOp ev o).run Tryd.prog W = .ok (.value (.string Z)) W := by
  simp only [execOp, ho, hx]
  go_simp
/-- Within 'alt': the reader and the result's block; the alternatives so far, as they stood in world wr; the sequence so far. -/
structure Al (w wr : World) (g : Nat) (S : ByteArray) (k d : Nat) (z : List Value) (v : Value) (ts : List T) (u : Value) (ys : List T) (w' : World) : Prop where
  ax : Ax w g S k d z w'
  gr : wr.grownBy w' (some g)
  rs : w.heap.size < wr.heap.size
  vs : OwnT (fun k => w.heap.size < k) (w.heap.size + 1) wr v ts
  us : OwnT (fun k => wr.heap.size ≤ k) wr.heap.size w' u ys
section
variable {w wr w' w'' : World} {g k d : Nat} {S : ByteArray} {z : List Value} {v u : Value} {ts ys : List T}
theorem Al.below (h : Al w wr g S k d z v ts u ys w') (hb : Below w'.heap.size w' w'') : Al w wr g S k d z v ts u ys w'' :=
  ⟨h.ax.below hb, grownG_below h.gr (hb.mono h.gr.size), h.rs, h.vs, h.us.stay hb⟩
theorem Al.step {k' d' : Nat} (h : Al w wr g S k d z v ts u ys w') (hg : w'.grownBy w'' (some g)) (hr : Rg w'' g S k' d') : Al w wr g S k' d' z v ts u ys w'' :=
  ⟨h.ax.step hg hr, grownG_trans h.gr hg, h.rs, h.vs, h.us.keepX hg.size fun j hj hD => hg.block j hj (fun he => by have h1 := Option.some.inj he; have h2 := h.ax.lt; have h3 := h.rs; rcases hD with h4 | h4 <;> omega)⟩
/-- One more in the sequence. -/
theorem Al.more {u' : Value} {ys' : List T} (h : Al w wr g S k d z v ts u ys w') (ho : OwnT (fun k => wr.heap.size ≤ k) wr.heap.size w'' u' ys') (hg : w'.grownBy w'' u.ownBlock) : Al w wr g S k d z v ts u' ys' w'' := by
  have hge : ∀ j, u.ownBlock = some j → wr.heap.size ≤ j := fun j hj => h.us.ge j hj
  have hne : some g ≠ u.ownBlock := fun he => by have h1 := hge g he.symm; have h2 := h.ax.lt; have h3 := h.rs; omega
  refine ⟨⟨h.ax.lt, (hg.block g h.ax.rd.lt hne).trans h.ax.rd, grown_own h.ax.gr hg fun q hq => by have h1 := hge q hq; have h3 := h.rs; omega, (hg.block _ h.ax.rz.lt (fun he => by have h1 := hge _ he.symm; have h3 := h.rs; omega)).trans h.ax.rz⟩, grown_own h.gr hg hge, h.rs, h.vs, ho⟩
/-- The alternatives so far, as they stand. -/
theorem Al.alts (h : Al w wr g S k d z v ts u ys w') : OwnT (fun k => w.heap.size < k) (w.heap.size + 1) w' v ts :=
  h.vs.keepX h.gr.size fun j hj hD => h.gr.block j hj (fun he => by have h1 := Option.some.inj he; have h2 := h.ax.lt; rcases hD with h4 | h4 <;> omega)
/-- The sequence, as a row. -/
theorem Al.row (h : Al w wr g S k d z v ts u ys w') : RowT w'.heap.size w' u ys := RowD.rowT (RowD.mono h.us.rowD fun j hj => hj.2)
end
theorem joinA_drop {A : List (List T)} {i : Nat} {r : List T} (h : A[i]? = some r) : joinA true (A.drop i) = catL r ++ joinA false (A.drop (i + 1)) := by
  obtain ⟨hi, rfl⟩ := List.getElem?_eq_some_iff.1 h
  rw [List.drop_eq_getElem_cons hi]
  simp [joinA]
theorem joinA_bar {A : List (List T)} (h : A ≠ []) : joinA false A = 124 :: joinA true A := by
  cases A with
  | nil => exact absurd rfl h
  | cons r s => simp [joinA]
theorem catL_drop {r : List T} {j : Nat} {y : T} (h : r[j]? = some y) : catL (r.drop j) = repT y ++ catL (r.drop (j + 1)) := by
  obtain ⟨hj, rfl⟩ := List.getElem?_eq_some_iff.1 h
  rw [List.drop_eq_getElem_cons hj, catL_cons]
theorem Ax.grow {w w' w'' : World} {g k d : Nat} {S : ByteArray} {z : List Value} {row : Option Nat} (h : Ax w g S k d z w') (hg : w'.grownBy w'' row) (hr : ∀ q, row = some q → w.heap.size < q) : Ax w g S k d z w'' :=
  ⟨h.lt, (hg.block g h.rd.lt (fun he => by have h1 := hr g he.symm; have h2 := h.lt; omega)).trans h.rd, grown_own h.gr hg fun q hq => Nat.le_of_lt (hr q hq), (hg.block _ h.rz.lt (fun he => by have h1 := hr _ he.symm; omega)).trans h.rz⟩
theorem is_yes {l : List UInt8} {k : Nat} {b : UInt8} {r : List UInt8} (h : l.drop k = b :: r) (c : Nat) (hc : b.toNat = c) : (decide (k < l.length) && decide (byteAt l k = c)) = true := by
  have g1 := noOp_at h
  rw [g1.1, decide_eq_true g1.2, decide_eq_true hc]
  rfl
/-- Nothing that repeats stands behind a sequence. -/
def quiet (r : List UInt8) : Prop := ∀ (b : UInt8) (q : List UInt8), r = b :: q → b.toNat ≠ 42 ∧ b.toNat ≠ 43 ∧ b.toNat ≠ 63
theorem quiet_cat {ys : List T} (h : ∀ y ∈ ys, good y ∧ y.kind ≠ 4) {tl : List UInt8} (ht : quiet tl) : quiet (catL ys ++ tl) := by
  cases ys with
  | nil => exact ht
  | cons y r =>
    obtain ⟨b, q, h1, h2⟩ := rep_head (h y (by simp)).1 (h y (by simp)).2
    rintro b' q' he
    rw [catL_cons, h1] at he
    injection he with he
    rw [← he]
    exact ⟨h2.2.2.1, h2.2.2.2.1, h2.2.2.2.2⟩
theorem quiet_tail {A : List (List T)} {rest : List UInt8} (hr : rest = [] ∨ ∃ r, rest = 41 :: r) : quiet (joinA false A ++ rest) := by
  by_cases hA : A = []
  · rw [hA]
    rcases hr with rfl | ⟨r, rfl⟩
    · rintro b q he; cases he
    · rintro b q he
      have he : (41 : UInt8) :: r = b :: q := he
      injection he with he
      rw [← he]
      decide
  · rw [joinA_bar hA]
    rintro b q he
    have he : (124 : UInt8) :: (joinA true A ++ rest) = b :: q := he
    injection he with he
    rw [← he]
    decide
set_option maxHeartbeats 16000000 in
set_option maxRecDepth 1000000 in
theorem alt_walk (A : List (List T)) (x : T) (hA : A ≠ []) (hx : altT (A.map catT) = x) (hfx : fine x) (hf : ∀ r ∈ A, fine (catT r) ∧ nodesL r ≤ 400) (hlen : A.length ≤ 400) (hrep : ∀ r ∈ A, ∀ y ∈ r, RepC y ∧ good y ∧ y.kind ≠ 4) : AltC A x := by
  intro w g l S a d rest hS hl h ht ha hrest hdep
  have HF := Lib.hid hf
  have HFX := Lib.hid hfx
  have HXE := Lib.hid hx
  have HREP := Lib.hid hrep
  have HT := Lib.hid ht
  have HA := Lib.hid ha
  have HR := Lib.hid hrest
  have HDP := Lib.hid hdep
  have HAN := Lib.hid (List.length_pos_iff.2 hA)
  have HAL := Lib.hid hlen
  have HQT := Lib.hid (fun (B : List (List T)) => quiet_tail (A := B) hrest)
  clear hf hfx hx hrep ht ha hrest hdep hA hlen
  have H := Lib.hid h
  have HS := Lib.hid hS
  have HL := Lib.hid hl
  have HSZ := Lib.hid (show S.size = l.length by rw [hS, str_sizeOf])
  obtain ⟨i0, hi0, hz0, hz1, hz2⟩ := infoP inf_rx
  obtain ⟨z0, hz⟩ : ∃ z, z = rxc 0 zeroS (.slice none 0 0) := ⟨_, rfl⟩
  have HZL := Lib.hid (show z0.length = 6 by rw [hz]; rfl)
  have HZ0 := Lib.hid (show i0.zero = some (.agg z0.toArray) by rw [hz]; exact hz0)
  have HZ1 := Lib.hid hz0
  clear h hS hl hz hz0
  go_enter Tryd.func29, Tryd.ntmps29
  go_wp2_with ((with_reducible refine atDst 2 ?_); refine wpList_new rfl 27 rfl i0 _ z0 hi0 HZ0.out rfl (Below.refl w.heap.size w) (Nat.le_refl _) ?_; intro w1 hk hb hs ho; have X1 := Lib.hid (show Ax w g S a d z0 w1 from ⟨H.out.lt, H.out.below hb, below_grownG g hb, hk⟩); clear hk hb hs ho; (try simp only [Act.put, List.setIfInBounds_toArray, List.set_cons_zero, List.set_cons_succ]))
  go_loopw [3, 4] (fun v _ wl => ∃ (i k : Nat), i < A.length ∧ Hid (Ax w g S k d z0 wl) ∧ Hid (OwnT (fun k => w.heap.size < k) (w.heap.size + 1) wl v ((A.take i).map catT)) ∧ Hid (l.drop k = joinA true (A.drop i) ++ rest) ∧ Hid (k + (joinA true (A.drop i)).length = a + (joinA true A).length ∧ k ≤ l.length)) (fun _ _ wl => l.length - plOf wl g)
  case atStart => exact ⟨0, a, HAN.out, X1, Lib.hid (OwnT.nil _ _ _), HT, Lib.hid ⟨rfl, HA.out⟩⟩
  case round =>
    obtain ⟨i, k0, hi, HX, HV, HTX, HSUM⟩ := hrel
    obtain ⟨wo, hwo⟩ : ∃ x, x = wr := ⟨_, rfl⟩
    rw [← hwo] at HX HV ⊢
    clear hwo
    obtain ⟨r, hr⟩ : ∃ r, A[i]? = some r := ⟨_, List.getElem?_eq_getElem hi⟩
    have HRA := Lib.hid (List.mem_of_getElem? hr)
    have HRI := Lib.hid hr
    have HJ := Lib.hid (joinA_drop hr)
    obtain ⟨tl, htl⟩ : ∃ tl, tl = joinA false (A.drop (i + 1)) ++ rest := ⟨_, rfl⟩
    have HTL := Lib.hid htl
    have HTX2 := Lib.hid (show l.drop k0 = catL r ++ tl by rw [HTX.out, HJ.out, htl, List.append_assoc])
    have HQ := Lib.hid (show quiet tl by rw [htl]; exact HQT.out _)
    have HGD := Lib.hid (fun y (hy : y ∈ r) => (HREP.out r HRA.out y hy).2)
    obtain ⟨ts, hts⟩ : ∃ ts, ts = (A.take i).map catT := ⟨_, rfl⟩
    rw [← hts] at HV
    have HTS := Lib.hid hts
    have HI0 := Lib.hid (show Al w wo g S k0 d z0 u3 ts (.slice none 0 0) [] wo from ⟨HX.out, grownG_refl wo g, HX.out.rz.lt, HV.out, OwnT.nil _ _ _⟩)
    clear hr htl hts
    go_wp2_with fail
    go_loopw [4] (fun u wl => ∃ (j k : Nat), j ≤ r.length ∧ Hid (Al w wo g S k d z0 u3 ts u (r.take j) wl) ∧ Hid (l.drop k = catL (r.drop j) ++ tl) ∧ Hid (k + (catL (r.drop j)).length = k0 + (catL r).length ∧ k ≤ l.length)) (fun _ wl => l.length - plOf wl g)
    case atStart => exact ⟨0, k0, Nat.zero_le _, HI0, HTX2, Lib.hid ⟨rfl, HSUM.out.2⟩⟩
    case round =>
      obtain ⟨j, k, hj, HI, HIT, HIS⟩ := hrel
      have HKL := Lib.hid HIS.out.2
      by_cases hjl : j < r.length
      · obtain ⟨y, hy⟩ : ∃ y, r[j]? = some y := ⟨_, List.getElem?_eq_getElem hjl⟩
        have HYR := Lib.hid (List.mem_of_getElem? hy)
        have HD := Lib.hid (catL_drop hy)
        have HTK := Lib.hid (show r.take (j + 1) = r.take j ++ [y] by
          obtain ⟨h1, h2⟩ := List.getElem?_eq_some_iff.1 hy
          rw [List.take_succ_eq_append_getElem h1, h2])
        have HY := Lib.hid (HREP.out r HRA.out y HYR.out)
        have HDY := Lib.hid (HDP.out r HRA.out y HYR.out)
        obtain ⟨b, q, hb1, hb2⟩ := rep_head HY.out.2.1 HY.out.2.2
        have HYT := Lib.hid (show l.drop k = repT y ++ (catL (r.drop (j + 1)) ++ tl) by rw [HIT.out, HD.out, List.append_assoc])
        have hdr : l.drop k = b :: (q ++ (catL (r.drop (j + 1)) ++ tl)) := by rw [HYT.out, hb1]; rfl
        have g1 := noOp_at hdr
        have j1 : (k : Int) < (S.size : Int) := by have h1 := HSZ.out; have h2 := g1.2; omega
        have HN124 := Lib.hid (isNot hdr 124 fun b' r' he => by injection he with he; rw [← he]; exact hb2.1)
        have HN41 := Lib.hid (isNot hdr 41 fun b' r' he => by injection he with he; rw [← he]; exact hb2.2.1)
        have HYL := Lib.hid (show 1 ≤ (repT y).length by rw [hb1]; simp)
        have HQY := Lib.hid (show quiet (catL (r.drop (j + 1)) ++ tl) from quiet_cat (fun y hy => HGD.out y (List.mem_of_mem_drop hy)) HQ.out)
        have HNX := Lib.hid (drop_on HYT.out)
        have HLN := Lib.hid (drop_len HYT.out (.inr HKL.out))
        clear hy hb1 hb2 hdr g1
        go_wp2_with fail
        refine sx_start (by kernel_rfl) (fun wS hS hSz => ?_)
        have XC := Lib.hid (HI.out.below hS)
        clear hSz hS
        have hX := Below.refl wS.heap.size wS
        refine sx_take (i := 0) (oi := ⟨some 5, _, _, _, _, _⟩) (v := ?_) rfl (by kernel_rfl) (by kernel_rfl) (by kernel_rfl) (fun _ _ _ h => h) rfl hX ?_ ?_; rotate_left; (intro W hW; go_simp; try with_reducible rfl); simp only [Act.put, List.setIfInBounds_toArray, List.set_cons_zero, List.set_cons_succ]
        refine sx_act (i := 1) (o := ⟨some 6, _, _, _, _, _⟩) rfl (by kernel_rfl) rfl hX (Nat.le_refl _) (fun K hK => ?_)
        go_wp2_with fail
        refine (over_no wS g S k d XC.out.ax.rd).mono ?_
        rintro e w5 ⟨rfl, hb⟩
        go_wp2_with fail
        refine hK _ _ hb ?_
        (try simp only [Act.put, List.setIfInBounds_toArray, List.set_cons_zero, List.set_cons_succ])
        clear hK K hX
        have hX := Below.refl w5.heap.size w5
        replace XC := Lib.hid (XC.out.below hb)
        clear hb
        refine sx_take (i := 2) (oi := ⟨some 7, _, _, _, _, _⟩) (v := ?_) rfl (by kernel_rfl) (by kernel_rfl) (by kernel_rfl) (fun _ _ _ h => h) rfl hX ?_ ?_; rotate_left; (intro W hW; go_simp; try with_reducible rfl); simp only [Act.put, List.setIfInBounds_toArray, List.set_cons_zero, List.set_cons_succ]
        refine sx_take (i := 3) (oi := ⟨some 8, _, _, _, _, _⟩) (v := ?_) rfl (by kernel_rfl) (by kernel_rfl) (by kernel_rfl) (fun _ _ _ h => h) rfl hX ?_ ?_; rotate_left; (intro W hW; go_simp; try with_reducible rfl); simp only [Act.put, List.setIfInBounds_toArray, List.set_cons_zero, List.set_cons_succ]
        refine sx_take (i := 4) (oi := ⟨some 9, _, _, _, _, _⟩) (v := ?_) rfl (by kernel_rfl) (by kernel_rfl) (by kernel_rfl) (fun _ _ _ h => h) rfl hX ?_ ?_; rotate_left; (intro W hW; go_simp; try with_reducible rfl); simp only [Act.put, List.setIfInBounds_toArray, List.set_cons_zero, List.set_cons_succ]
        refine sx_take (i := 5) (oi := ⟨some 10, _, _, _, _, _⟩) (v := ?_) rfl (by kernel_rfl) (by kernel_rfl) (by kernel_rfl) (fun _ _ _ h => h) rfl hX ?_ ?_; rotate_left; (intro W hW; go_simp; try with_reducible rfl); simp only [Act.put, List.setIfInBounds_toArray, List.set_cons_zero, List.set_cons_succ]
        refine sx_take (i := 6) (oi := ⟨some 11, _, _, _, _, _⟩) (v := ?_) rfl (by kernel_rfl) (by kernel_rfl) (by kernel_rfl) (fun _ _ _ h => h) rfl hX ?_ ?_; rotate_left; (intro W hW; go_simp; try with_reducible rfl); simp only [Act.put, List.setIfInBounds_toArray, List.set_cons_zero, List.set_cons_succ]
        refine sx_take (i := 7) (oi := ⟨some 12, _, _, _, _, _⟩) (v := .int .i64 (k : Int)) rfl (by kernel_rfl) (by kernel_rfl) (by kernel_rfl) (fun _ _ _ h => h) rfl hX (fun W hW => ld_i64 (.tmp 11) rfl rfl (XC.out.below hW).ax.rd.c1) ?_; simp only [Act.put, List.setIfInBounds_toArray, List.set_cons_zero, List.set_cons_succ]
        refine sx_take (i := 8) (oi := ⟨some 13, _, _, _, _, _⟩) (v := ?_) rfl (by kernel_rfl) (by kernel_rfl) (by kernel_rfl) (fun _ _ _ h => h) rfl hX ?_ ?_; rotate_left; (intro W hW; go_simp; try with_reducible rfl); simp only [Act.put, List.setIfInBounds_toArray, List.set_cons_zero, List.set_cons_succ]
        refine sx_take (i := 9) (oi := ⟨some 14, _, _, _, _, _⟩) (v := ?_) rfl (by kernel_rfl) (by kernel_rfl) (by kernel_rfl) (fun _ _ _ h => h) rfl hX ?_ ?_; rotate_left; (intro W hW; go_simp; try with_reducible rfl); simp only [Act.put, List.setIfInBounds_toArray, List.set_cons_zero, List.set_cons_succ]
        refine sx_take (i := 10) (oi := ⟨some 15, _, _, _, _, _⟩) (v := ?_) rfl (by kernel_rfl) (by kernel_rfl) (by kernel_rfl) (fun _ _ _ h => h) rfl hX ?_ ?_; rotate_left; (intro W hW; go_simp; try with_reducible rfl); simp only [Act.put, List.setIfInBounds_toArray, List.set_cons_zero, List.set_cons_succ]
        refine sx_take (i := 11) (oi := ⟨some 16, _, _, _, _, _⟩) (v := .string S) rfl (by kernel_rfl) (by kernel_rfl) (by kernel_rfl) (fun _ _ _ h => h) rfl hX (fun W hW => ld_str (.tmp 15) rfl rfl (XC.out.below hW).ax.rd.c0) ?_; simp only [Act.put, List.setIfInBounds_toArray, List.set_cons_zero, List.set_cons_succ]
        refine sx_take (i := 12) (oi := ⟨some 17, _, _, _, _, _⟩) (v := ?_) rfl (by kernel_rfl) (by kernel_rfl) (by kernel_rfl) (fun _ _ _ h => h) rfl hX ?_ ?_; rotate_left; (intro W hW; go_simp; try with_reducible rfl); simp only [Act.put, List.setIfInBounds_toArray, List.set_cons_zero, List.set_cons_succ]
        refine sx_take (i := 13) (oi := ⟨some 18, _, _, _, _, _⟩) (v := ?_) rfl (by kernel_rfl) (by kernel_rfl) (by kernel_rfl) (fun _ _ _ h => h) rfl hX ?_ ?_; rotate_left; (intro W hW; go_simp; try with_reducible rfl); simp only [Act.put, List.setIfInBounds_toArray, List.set_cons_zero, List.set_cons_succ]
        refine sx_take (i := 14) (oi := ⟨some 19, _, _, _, _, _⟩) (v := ?_) rfl (by kernel_rfl) (by kernel_rfl) (by kernel_rfl) (fun _ _ _ h => h) rfl hX ?_ ?_; rotate_left; (intro W hW; go_simp; try with_reducible rfl); simp only [Act.put, List.setIfInBounds_toArray, List.set_cons_zero, List.set_cons_succ]
        refine sx_take (i := 15) (oi := ⟨some 20, _, _, _, _, _⟩) (v := ?_) rfl (by kernel_rfl) (by kernel_rfl) (by kernel_rfl) (fun _ _ _ h => h) rfl hX ?_ ?_; rotate_left; (intro W hW; go_simp; try with_reducible rfl); simp only [Act.put, List.setIfInBounds_toArray, List.set_cons_zero, List.set_cons_succ]
        refine sx_take (i := 16) (oi := ⟨some 21, _, _, _, _, _⟩) (v := ?_) rfl (by kernel_rfl) (by kernel_rfl) (by kernel_rfl) (fun _ _ _ h => h) rfl hX ?_ ?_; rotate_left; (intro W hW; go_simp; try with_reducible rfl); simp only [Act.put, List.setIfInBounds_toArray, List.set_cons_zero, List.set_cons_succ]
        refine sx_act (i := 17) (o := ⟨some 22, _, _, _, _, _⟩) rfl (by kernel_rfl) rfl hX (Nat.le_refl _) (fun K hK => ?_)
        go_wp2_with fail
        refine (is_at w5 g l S HS.out k d XC.out.ax.rd HL.out HKL.out 124 false (HN124.out)).mono ?_
        rintro e w6 ⟨rfl, hb⟩
        go_wp2_with fail
        refine hK _ _ hb ?_
        (try simp only [Act.put, List.setIfInBounds_toArray, List.set_cons_zero, List.set_cons_succ])
        clear hK K hX
        have hX := Below.refl w6.heap.size w6
        replace XC := Lib.hid (XC.out.below hb)
        clear hb
        refine sx_take (i := 18) (oi := ⟨some 23, _, _, _, _, _⟩) (v := ?_) rfl (by kernel_rfl) (by kernel_rfl) (by kernel_rfl) (fun _ _ _ h => h) rfl hX ?_ ?_; rotate_left; (intro W hW; go_simp; try with_reducible rfl); simp only [Act.put, List.setIfInBounds_toArray, List.set_cons_zero, List.set_cons_succ]
        refine sx_take (i := 19) (oi := ⟨some 24, _, _, _, _, _⟩) (v := ?_) rfl (by kernel_rfl) (by kernel_rfl) (by kernel_rfl) (fun _ _ _ h => h) rfl hX ?_ ?_; rotate_left; (intro W hW; go_simp; try with_reducible rfl); simp only [Act.put, List.setIfInBounds_toArray, List.set_cons_zero, List.set_cons_succ]
        refine sx_take (i := 20) (oi := ⟨some 25, _, _, _, _, _⟩) (v := ?_) rfl (by kernel_rfl) (by kernel_rfl) (by kernel_rfl) (fun _ _ _ h => h) rfl hX ?_ ?_; rotate_left; (intro W hW; go_simp; try with_reducible rfl); simp only [Act.put, List.setIfInBounds_toArray, List.set_cons_zero, List.set_cons_succ]
        refine sx_take (i := 21) (oi := ⟨some 26, _, _, _, _, _⟩) (v := ?_) rfl (by kernel_rfl) (by kernel_rfl) (by kernel_rfl) (fun _ _ _ h => h) rfl hX ?_ ?_; rotate_left; (intro W hW; go_simp; try with_reducible rfl); simp only [Act.put, List.setIfInBounds_toArray, List.set_cons_zero, List.set_cons_succ]
        refine sx_act (i := 22) (o := ⟨some 27, _, _, _, _, _⟩) rfl (by kernel_rfl) rfl hX (Nat.le_refl _) (fun K hK => ?_)
        go_wp2_with fail
        refine (is_at w6 g l S HS.out k d XC.out.ax.rd HL.out HKL.out 41 false (HN41.out)).mono ?_
        rintro e w7 ⟨rfl, hb⟩
        go_wp2_with fail
        refine hK _ _ hb ?_
        (try simp only [Act.put, List.setIfInBounds_toArray, List.set_cons_zero, List.set_cons_succ])
        clear hK K hX
        have hX := Below.refl w7.heap.size w7
        replace XC := Lib.hid (XC.out.below hb)
        clear hb
        refine sx_take (i := 23) (oi := ⟨some 28, _, _, _, _, _⟩) (v := ?_) rfl (by kernel_rfl) (by kernel_rfl) (by kernel_rfl) (fun _ _ _ h => h) rfl hX ?_ ?_; rotate_left; (intro W hW; go_simp; try with_reducible rfl); simp only [Act.put, List.setIfInBounds_toArray, List.set_cons_zero, List.set_cons_succ]
        refine sx_take (i := 24) (oi := ⟨some 29, _, _, _, _, _⟩) (v := ?_) rfl (by kernel_rfl) (by kernel_rfl) (by kernel_rfl) (fun _ _ _ h => h) rfl hX ?_ ?_; rotate_left; (intro W hW; go_simp; try with_reducible rfl); simp only [Act.put, List.setIfInBounds_toArray, List.set_cons_zero, List.set_cons_succ]
        refine wpAnyH_done (by kernel_rfl) ?_ _
        clear hX j1
        go_wp2_with fail
        refine (HY.out.1 w7 g l S k d (catL (r.drop (j + 1)) ++ tl) HS.out HL.out XC.out.ax.rd HYT.out HQY.out HDY.out).mono ?_
        rintro e w8 ⟨cs, rfl, hv, hg, hr⟩
        have X8 := Lib.hid (XC.out.step hg hr)
        have C6 := Lib.hid hv.length
        have V8 := Lib.hid hv
        have HNE := Lib.hid (fun j (hj : w7.heap.size ≤ j) => show some j ≠ u4.ownBlock from fun he => by have := XC.out.us.lt j he.symm; omega)
        have HWO := Lib.hid (XC.out.gr.size)
        clear hv hg hr
        go_wp2_with (first
          | ((with_reducible refine atDst 33 ?_); refine wpList_bldT1 rfl 25 27 (.tmp 32) rfl i0 Tryd.underlying25 hi0 HZ1.out hz1 cs C6.out rfl ?_; intro w9 hk hb hs; have K9 := Lib.hid hk; have X9 := Lib.hid (X8.out.below hb); have V9 := Lib.hid (show RxD (fun k => wo.heap.size ≤ k ∧ k < w9.heap.size ∧ some k ≠ u4.ownBlock) w9 cs y from RxD.mono (V8.out.stay fun k hk => hb.block k hk.2) fun k hk => ⟨Nat.le_trans HWO.out hk.1, Nat.lt_of_lt_of_le hk.2 hb.size, HNE.out k hk.1⟩); clear hk hb hs; (try simp only [Act.put, List.setIfInBounds_toArray, List.set_cons_zero, List.set_cons_succ]))
          | ((with_reducible refine atDst 34 ?_); refine wpList_appT rfl (.tmp 30) (.tmp 33) rfl i0 hi0 HZ1.out hz1 hz2 u4 (r.take j) rfl X9.out.us w8.heap.size 1 27 cs y rfl K9.out V9.out (by have h1 := (HF.out r HRA.out).2; have h2 := len_nodes r; rw [List.length_take]; omega) X9.out.gr.size ?_; intro v' w' ho hg; have XE := Lib.hid (X9.out.more (ys' := r.take (j + 1)) (by rw [HTK.out]; exact ho) hg); clear ho hg; (try simp only [Act.put, List.setIfInBounds_toArray, List.set_cons_zero, List.set_cons_succ])))
        exact ⟨⟨j + 1, k + (repT y).length, hjl, XE, HNX, Lib.hid ⟨by have h1 := HIS.out.1; have h2 := congrArg List.length HD.out; rw [List.length_append] at h2; omega, by have h1 := HLN.out; omega⟩⟩, by rw [HI.out.ax.pl, XE.out.ax.pl]; have h1 := HYL.out; have h2 := HLN.out; omega⟩
      · obtain rfl : j = r.length := by omega
        have hd0 : l.drop k = tl := by have h1 := HIT.out; rw [List.drop_length] at h1; exact h1
        have hk0 : k = k0 + (catL r).length := by have h1 := HIS.out.1; rw [List.drop_length] at h1; exact h1
        have hir : Al w wo g S k d z0 u3 ts u4 r wr := by have h1 := HI.out; rw [List.take_length] at h1; exact h1
        have HNT := Lib.hid (show (A.take (i + 1)).map catT = ts ++ [catT r] by
          obtain ⟨h1, h2⟩ := List.getElem?_eq_some_iff.1 HRI.out
          rw [List.take_succ_eq_append_getElem h1, h2, List.map_append, HTS.out]
          rfl)
        replace HI := Lib.hid hir
        have hk1 : k ≤ 1000 := by have h1 := HKL.out; have h2 := HL.out; omega
        clear hir hj hjl
        by_cases hlast : i + 1 < A.length
        · have hdn : A.drop (i + 1) ≠ [] := fun he => by have := List.drop_eq_nil_iff.1 he; omega
          have htx : tl = 124 :: (joinA true (A.drop (i + 1)) ++ rest) := by rw [HTL.out, joinA_bar hdn]; rfl
          rw [htx] at hd0
          have g1 := noOp_at hd0
          have j1 : (k : Int) < (S.size : Int) := by have h1 := HSZ.out; have h2 := g1.2; omega
          have HY124 := Lib.hid (is_yes hd0 124 rfl)
          have HNX := Lib.hid (show l.drop (k + 1) = joinA true (A.drop (i + 1)) ++ rest by rw [← List.drop_drop, hd0]; rfl)
          have HSM := Lib.hid (show k + 1 + (joinA true (A.drop (i + 1))).length = a + (joinA true A).length ∧ k + 1 ≤ l.length from ⟨by
            have h1 := HSUM.out.1
            have h2 := congrArg List.length HJ.out
            rw [joinA_bar hdn, List.length_append, List.length_cons] at h2
            omega, g1.2⟩)
          have HLA := Lib.hid hlast
          have HK0 := Lib.hid hk0
          clear hdn htx hd0 g1 hlast hk0
          go_wp2_with fail
          refine sx_start (by kernel_rfl) (fun wS hS hSz => ?_)
          have XC := Lib.hid (HI.out.below hS)
          clear hSz hS
          have hX := Below.refl wS.heap.size wS
          refine sx_take (i := 0) (oi := ⟨some 5, _, _, _, _, _⟩) (v := ?_) rfl (by kernel_rfl) (by kernel_rfl) (by kernel_rfl) (fun _ _ _ h => h) rfl hX ?_ ?_; rotate_left; (intro W hW; go_simp; try with_reducible rfl); simp only [Act.put, List.setIfInBounds_toArray, List.set_cons_zero, List.set_cons_succ]
          refine sx_act (i := 1) (o := ⟨some 6, _, _, _, _, _⟩) rfl (by kernel_rfl) rfl hX (Nat.le_refl _) (fun K hK => ?_)
          go_wp2_with fail
          refine (over_no wS g S k d XC.out.ax.rd).mono ?_
          rintro e w5 ⟨rfl, hb⟩
          go_wp2_with fail
          refine hK _ _ hb ?_
          (try simp only [Act.put, List.setIfInBounds_toArray, List.set_cons_zero, List.set_cons_succ])
          clear hK K hX
          have hX := Below.refl w5.heap.size w5
          replace XC := Lib.hid (XC.out.below hb)
          clear hb
          refine sx_take (i := 2) (oi := ⟨some 7, _, _, _, _, _⟩) (v := ?_) rfl (by kernel_rfl) (by kernel_rfl) (by kernel_rfl) (fun _ _ _ h => h) rfl hX ?_ ?_; rotate_left; (intro W hW; go_simp; try with_reducible rfl); simp only [Act.put, List.setIfInBounds_toArray, List.set_cons_zero, List.set_cons_succ]
          refine sx_take (i := 3) (oi := ⟨some 8, _, _, _, _, _⟩) (v := ?_) rfl (by kernel_rfl) (by kernel_rfl) (by kernel_rfl) (fun _ _ _ h => h) rfl hX ?_ ?_; rotate_left; (intro W hW; go_simp; try with_reducible rfl); simp only [Act.put, List.setIfInBounds_toArray, List.set_cons_zero, List.set_cons_succ]
          refine sx_take (i := 4) (oi := ⟨some 9, _, _, _, _, _⟩) (v := ?_) rfl (by kernel_rfl) (by kernel_rfl) (by kernel_rfl) (fun _ _ _ h => h) rfl hX ?_ ?_; rotate_left; (intro W hW; go_simp; try with_reducible rfl); simp only [Act.put, List.setIfInBounds_toArray, List.set_cons_zero, List.set_cons_succ]
          refine sx_take (i := 5) (oi := ⟨some 10, _, _, _, _, _⟩) (v := ?_) rfl (by kernel_rfl) (by kernel_rfl) (by kernel_rfl) (fun _ _ _ h => h) rfl hX ?_ ?_; rotate_left; (intro W hW; go_simp; try with_reducible rfl); simp only [Act.put, List.setIfInBounds_toArray, List.set_cons_zero, List.set_cons_succ]
          refine sx_take (i := 6) (oi := ⟨some 11, _, _, _, _, _⟩) (v := ?_) rfl (by kernel_rfl) (by kernel_rfl) (by kernel_rfl) (fun _ _ _ h => h) rfl hX ?_ ?_; rotate_left; (intro W hW; go_simp; try with_reducible rfl); simp only [Act.put, List.setIfInBounds_toArray, List.set_cons_zero, List.set_cons_succ]
          refine sx_take (i := 7) (oi := ⟨some 12, _, _, _, _, _⟩) (v := .int .i64 (k : Int)) rfl (by kernel_rfl) (by kernel_rfl) (by kernel_rfl) (fun _ _ _ h => h) rfl hX (fun W hW => ld_i64 (.tmp 11) rfl rfl (XC.out.below hW).ax.rd.c1) ?_; simp only [Act.put, List.setIfInBounds_toArray, List.set_cons_zero, List.set_cons_succ]
          refine sx_take (i := 8) (oi := ⟨some 13, _, _, _, _, _⟩) (v := ?_) rfl (by kernel_rfl) (by kernel_rfl) (by kernel_rfl) (fun _ _ _ h => h) rfl hX ?_ ?_; rotate_left; (intro W hW; go_simp; try with_reducible rfl); simp only [Act.put, List.setIfInBounds_toArray, List.set_cons_zero, List.set_cons_succ]
          refine sx_take (i := 9) (oi := ⟨some 14, _, _, _, _, _⟩) (v := ?_) rfl (by kernel_rfl) (by kernel_rfl) (by kernel_rfl) (fun _ _ _ h => h) rfl hX ?_ ?_; rotate_left; (intro W hW; go_simp; try with_reducible rfl); simp only [Act.put, List.setIfInBounds_toArray, List.set_cons_zero, List.set_cons_succ]
          refine sx_take (i := 10) (oi := ⟨some 15, _, _, _, _, _⟩) (v := ?_) rfl (by kernel_rfl) (by kernel_rfl) (by kernel_rfl) (fun _ _ _ h => h) rfl hX ?_ ?_; rotate_left; (intro W hW; go_simp; try with_reducible rfl); simp only [Act.put, List.setIfInBounds_toArray, List.set_cons_zero, List.set_cons_succ]
          refine sx_take (i := 11) (oi := ⟨some 16, _, _, _, _, _⟩) (v := .string S) rfl (by kernel_rfl) (by kernel_rfl) (by kernel_rfl) (fun _ _ _ h => h) rfl hX (fun W hW => ld_str (.tmp 15) rfl rfl (XC.out.below hW).ax.rd.c0) ?_; simp only [Act.put, List.setIfInBounds_toArray, List.set_cons_zero, List.set_cons_succ]
          refine sx_take (i := 12) (oi := ⟨some 17, _, _, _, _, _⟩) (v := ?_) rfl (by kernel_rfl) (by kernel_rfl) (by kernel_rfl) (fun _ _ _ h => h) rfl hX ?_ ?_; rotate_left; (intro W hW; go_simp; try with_reducible rfl); simp only [Act.put, List.setIfInBounds_toArray, List.set_cons_zero, List.set_cons_succ]
          refine sx_take (i := 13) (oi := ⟨some 18, _, _, _, _, _⟩) (v := ?_) rfl (by kernel_rfl) (by kernel_rfl) (by kernel_rfl) (fun _ _ _ h => h) rfl hX ?_ ?_; rotate_left; (intro W hW; go_simp; try with_reducible rfl); simp only [Act.put, List.setIfInBounds_toArray, List.set_cons_zero, List.set_cons_succ]
          refine sx_take (i := 14) (oi := ⟨some 19, _, _, _, _, _⟩) (v := ?_) rfl (by kernel_rfl) (by kernel_rfl) (by kernel_rfl) (fun _ _ _ h => h) rfl hX ?_ ?_; rotate_left; (intro W hW; go_simp; try with_reducible rfl); simp only [Act.put, List.setIfInBounds_toArray, List.set_cons_zero, List.set_cons_succ]
          refine sx_take (i := 15) (oi := ⟨some 20, _, _, _, _, _⟩) (v := ?_) rfl (by kernel_rfl) (by kernel_rfl) (by kernel_rfl) (fun _ _ _ h => h) rfl hX ?_ ?_; rotate_left; (intro W hW; go_simp; try with_reducible rfl); simp only [Act.put, List.setIfInBounds_toArray, List.set_cons_zero, List.set_cons_succ]
          refine sx_take (i := 16) (oi := ⟨some 21, _, _, _, _, _⟩) (v := ?_) rfl (by kernel_rfl) (by kernel_rfl) (by kernel_rfl) (fun _ _ _ h => h) rfl hX ?_ ?_; rotate_left; (intro W hW; go_simp; try with_reducible rfl); simp only [Act.put, List.setIfInBounds_toArray, List.set_cons_zero, List.set_cons_succ]
          refine sx_act (i := 17) (o := ⟨some 22, _, _, _, _, _⟩) rfl (by kernel_rfl) rfl hX (Nat.le_refl _) (fun K hK => ?_)
          go_wp2_with fail
          refine (is_at w5 g l S HS.out k d XC.out.ax.rd HL.out HKL.out 124 true (HY124.out)).mono ?_
          rintro e w6 ⟨rfl, hb⟩
          go_wp2_with fail
          refine hK _ _ hb ?_
          (try simp only [Act.put, List.setIfInBounds_toArray, List.set_cons_zero, List.set_cons_succ])
          clear hK K hX
          have hX := Below.refl w6.heap.size w6
          replace XC := Lib.hid (XC.out.below hb)
          clear hb
          refine sx_take (i := 18) (oi := ⟨some 23, _, _, _, _, _⟩) (v := ?_) rfl (by kernel_rfl) (by kernel_rfl) (by kernel_rfl) (fun _ _ _ h => h) rfl hX ?_ ?_; rotate_left; (intro W hW; go_simp; try with_reducible rfl); simp only [Act.put, List.setIfInBounds_toArray, List.set_cons_zero, List.set_cons_succ]
          refine sx_take (i := 19) (oi := ⟨some 24, _, _, _, _, _⟩) (v := ?_) rfl (by kernel_rfl) (by kernel_rfl) (by kernel_rfl) (fun _ _ _ h => h) rfl hX ?_ ?_; rotate_left; (intro W hW; go_simp; try with_reducible rfl); simp only [Act.put, List.setIfInBounds_toArray, List.set_cons_zero, List.set_cons_succ]
          refine sx_take (i := 20) (oi := ⟨some 25, _, _, _, _, _⟩) (v := ?_) rfl (by kernel_rfl) (by kernel_rfl) (by kernel_rfl) (fun _ _ _ h => h) rfl hX ?_ ?_; rotate_left; (intro W hW; go_simp; try with_reducible rfl); simp only [Act.put, List.setIfInBounds_toArray, List.set_cons_zero, List.set_cons_succ]
          refine sx_skip (i := 21) (oi := ⟨some 26, _, _, _, _, _⟩) rfl (by kernel_rfl) (by kernel_rfl) (by kernel_rfl) (fun _ _ _ h => h) rfl hX ?_; simp only [Act.put, List.setIfInBounds_toArray, List.set_cons_zero, List.set_cons_succ]
          refine sx_skip (i := 22) (oi := ⟨some 27, _, _, _, _, _⟩) rfl (by kernel_rfl) (by kernel_rfl) (by kernel_rfl) (fun _ _ _ h => h) rfl hX ?_; simp only [Act.put, List.setIfInBounds_toArray, List.set_cons_zero, List.set_cons_succ]
          refine sx_skip (i := 23) (oi := ⟨some 28, _, _, _, _, _⟩) rfl (by kernel_rfl) (by kernel_rfl) (by kernel_rfl) (fun _ _ _ h => h) rfl hX ?_; simp only [Act.put, List.setIfInBounds_toArray, List.set_cons_zero, List.set_cons_succ]
          refine sx_take (i := 24) (oi := ⟨some 29, _, _, _, _, _⟩) (v := ?_) rfl (by kernel_rfl) (by kernel_rfl) (by kernel_rfl) (fun _ _ _ h => h) rfl hX ?_ ?_; rotate_left; (intro W hW; go_simp; try with_reducible rfl); simp only [Act.put, List.setIfInBounds_toArray, List.set_cons_zero, List.set_cons_succ]
          refine wpAnyH_done (by kernel_rfl) ?_ _
          clear hX j1
          go_wp2_with fail
          refine (over_no w6 g S k d XC.out.ax.rd).mono ?_
          rintro e wa ⟨rfl, hb⟩
          replace XC := Lib.hid (XC.out.below hb)
          clear hb
          go_wp2_with fail
          refine (refCat_any r u4 wa XC.out.row (by have := (HF.out r HRA.out).2; omega)).mono ?_
          rintro e wb ⟨cs, rfl, hv, hb⟩
          have XB := Lib.hid (XC.out.below hb)
          have C6 := Lib.hid hv.length
          have VB := Lib.hid hv
          have HNE := Lib.hid (fun j (hj : wa.heap.size ≤ j) => show some j ≠ u3.ownBlock from fun he => by have h1 := XC.out.vs.lt j he.symm; have h2 := XC.out.gr.size; omega)
          have HWA := Lib.hid (show w.heap.size < wa.heap.size from XC.out.ax.rz.lt)
          clear hv hb
          go_wp2_with fail
          refine (made_at (catT r) (HF.out r HRA.out).1 cs wb g S k d XB.out.ax.rd (RxD.mono VB.out fun j hj => hj.2)).mono ?_
          rintro e wc ⟨rfl, hb⟩
          have XD := Lib.hid (XB.out.below hb)
          have VD := Lib.hid (show RxD (fun j => wa.heap.size ≤ j ∧ j < wc.heap.size) wc cs (catT r) from RxD.mono (VB.out.stay fun j hj => hb.block j hj.2) fun j hj => ⟨hj.1, Nat.lt_of_lt_of_le hj.2 hb.size⟩)
          clear hb
          go_wp2_with (first
            | ((with_reducible refine atDst 43 ?_); refine wpList_bldT1 rfl 25 27 (.tmp 42) rfl i0 Tryd.underlying25 hi0 HZ1.out hz1 cs C6.out rfl ?_; intro wd hk hb hs; have KE := Lib.hid hk; have XE := Lib.hid (XD.out.below hb); have VE := Lib.hid (show RxD (fun j => w.heap.size < j ∧ j < wd.heap.size ∧ some j ≠ u3.ownBlock) wd cs (catT r) from RxD.mono (VD.out.stay fun j hj => hb.block j hj.2) fun j hj => ⟨Nat.lt_of_lt_of_le HWA.out hj.1, Nat.lt_of_lt_of_le hj.2 hb.size, HNE.out j hj.1⟩); clear hk hb hs; (try simp only [Act.put, List.setIfInBounds_toArray, List.set_cons_zero, List.set_cons_succ]))
            | ((with_reducible refine atDst 44 ?_); refine wpList_appT rfl (.tmp 38) (.tmp 43) rfl i0 hi0 HZ1.out hz1 hz2 u3 ts rfl XE.out.alts wc.heap.size 1 27 cs (catT r) rfl KE.out VE.out (by rw [HTS.out, List.length_map, List.length_take]; have := HAL.out; omega) XE.out.ax.rz.lt ?_; intro v' wf ho hg; have AF := Lib.hid (XE.out.ax.grow hg fun q hq => by have := XE.out.vs.ge q hq; omega); have OF := Lib.hid (show OwnT (fun k => w.heap.size < k) (w.heap.size + 1) wf v' ((A.take (i + 1)).map catT) by rw [HNT.out]; exact ho); clear ho hg; (try simp only [Act.put, List.setIfInBounds_toArray, List.set_cons_zero, List.set_cons_succ])))
          refine (over_no wf g S k d AF.out.rd).mono ?_
          rintro e wg ⟨rfl, hb⟩
          have AG := Lib.hid (AF.out.below hb)
          have OG := Lib.hid (OF.out.stay hb)
          clear hb
          go_wp2_with fail
          refine (is_at wg g l S HS.out k d AG.out.rd HL.out HKL.out 124 true (HY124.out)).mono ?_
          rintro e wh ⟨rfl, hb⟩
          have AH := Lib.hid (AG.out.below hb)
          have OH := Lib.hid (OG.out.stay hb)
          clear hb
          have cwh := AH.out.rd.c1
          have zwh := AH.out.rd.fz 1
          have ewh := step_wrap k (hk1)
          have fwh := step_wrap' k (hk1)
          go_wp2_with fail
          have XZ := Lib.hid (AH.out.inc ((k : Int) + 1) (k + 1) rfl)
          have OZ := Lib.hid (show OwnT (fun k => w.heap.size < k) (w.heap.size + 1) (wh.setCell ⟨g, 1, none⟩ (.int .i64 ((k : Int) + 1))) v' ((A.take (i + 1)).map catT) from OH.out.keepX (by simp) fun j hj hD => Below.heap_setCell _ _ _ j (by show j ≠ g; have h1 := AH.out.lt; rcases hD with h2 | h2 <;> omega))
          clear cwh zwh ewh fwh
          exact ⟨⟨i + 1, k + 1, HLA.out, XZ, OZ, HNX, HSM⟩, by rw [HX.out.pl, XZ.out.pl]; have h1 := HSM.out.2; have h2 := HK0.out; omega⟩
        · have hin : i + 1 = A.length := by omega
          have hdn : A.drop (i + 1) = [] := List.drop_eq_nil_iff.2 (by omega)
          have htx : tl = rest := by rw [HTL.out, hdn]; rfl
          have HALL := Lib.hid (show (A.take (i + 1)).map catT = A.map catT by rw [hin, List.take_length])
          have HNA := Lib.hid (show nodesL (A.map catT) ≤ 549755813887 by
            have h1 : ∀ B : List (List T), (∀ r ∈ B, fine (catT r)) → nodesL (B.map catT) ≤ 400 * B.length := by
              intro B
              induction B with
              | nil => intro _; simp [nodesL]
              | cons r s ih =>
                intro hB
                have h2 := ih fun r hr => hB r (by simp [hr])
                have h3 := (hB r (by simp)).2.1
                simp only [List.map_cons, nodesL, List.length_cons]
                omega
            have h2 := h1 A fun r hr => (HF.out r hr).1
            have h3 := HAL.out
            omega)
          have HEND := Lib.hid (show k = a + (joinA true A).length by
            have h1 := HSUM.out.1
            have h2 := congrArg List.length HJ.out
            rw [hdn] at h2
            simp only [joinA, List.append_nil] at h2
            omega)
          rw [htx] at hd0
          have HN124 := Lib.hid (isNot hd0 124 fun b q hb => by
            rcases HR.out with h1 | ⟨r', h1⟩
            · rw [h1] at hb; cases hb
            · rw [h1] at hb; injection hb with hb; rw [← hb]; decide)
          rcases HR.out with h1 | ⟨r', h1⟩
          · rw [h1] at hd0
            have hkl := List.drop_eq_nil_iff.1 hd0
            have j1 : ¬ ((k : Int) < (S.size : Int)) := by have h1 := HSZ.out; omega
            clear hin hdn htx hd0 h1 hkl hlast hk0
            go_wp2_with fail
            refine sx_start (by kernel_rfl) (fun wS hS hSz => ?_)
            have XC := Lib.hid (HI.out.below hS)
            clear hSz hS
            have hX := Below.refl wS.heap.size wS
            refine sx_take (i := 0) (oi := ⟨some 5, _, _, _, _, _⟩) (v := ?_) rfl (by kernel_rfl) (by kernel_rfl) (by kernel_rfl) (fun _ _ _ h => h) rfl hX ?_ ?_; rotate_left; (intro W hW; go_simp; try with_reducible rfl); simp only [Act.put, List.setIfInBounds_toArray, List.set_cons_zero, List.set_cons_succ]
            refine sx_act (i := 1) (o := ⟨some 6, _, _, _, _, _⟩) rfl (by kernel_rfl) rfl hX (Nat.le_refl _) (fun K hK => ?_)
            go_wp2_with fail
            refine (over_no wS g S k d XC.out.ax.rd).mono ?_
            rintro e w5 ⟨rfl, hb⟩
            go_wp2_with fail
            refine hK _ _ hb ?_
            (try simp only [Act.put, List.setIfInBounds_toArray, List.set_cons_zero, List.set_cons_succ])
            clear hK K hX
            have hX := Below.refl w5.heap.size w5
            replace XC := Lib.hid (XC.out.below hb)
            clear hb
            refine sx_take (i := 2) (oi := ⟨some 7, _, _, _, _, _⟩) (v := ?_) rfl (by kernel_rfl) (by kernel_rfl) (by kernel_rfl) (fun _ _ _ h => h) rfl hX ?_ ?_; rotate_left; (intro W hW; go_simp; try with_reducible rfl); simp only [Act.put, List.setIfInBounds_toArray, List.set_cons_zero, List.set_cons_succ]
            refine sx_take (i := 3) (oi := ⟨some 8, _, _, _, _, _⟩) (v := ?_) rfl (by kernel_rfl) (by kernel_rfl) (by kernel_rfl) (fun _ _ _ h => h) rfl hX ?_ ?_; rotate_left; (intro W hW; go_simp; try with_reducible rfl); simp only [Act.put, List.setIfInBounds_toArray, List.set_cons_zero, List.set_cons_succ]
            refine sx_take (i := 4) (oi := ⟨some 9, _, _, _, _, _⟩) (v := ?_) rfl (by kernel_rfl) (by kernel_rfl) (by kernel_rfl) (fun _ _ _ h => h) rfl hX ?_ ?_; rotate_left; (intro W hW; go_simp; try with_reducible rfl); simp only [Act.put, List.setIfInBounds_toArray, List.set_cons_zero, List.set_cons_succ]
            refine sx_take (i := 5) (oi := ⟨some 10, _, _, _, _, _⟩) (v := ?_) rfl (by kernel_rfl) (by kernel_rfl) (by kernel_rfl) (fun _ _ _ h => h) rfl hX ?_ ?_; rotate_left; (intro W hW; go_simp; try with_reducible rfl); simp only [Act.put, List.setIfInBounds_toArray, List.set_cons_zero, List.set_cons_succ]
            refine sx_take (i := 6) (oi := ⟨some 11, _, _, _, _, _⟩) (v := ?_) rfl (by kernel_rfl) (by kernel_rfl) (by kernel_rfl) (fun _ _ _ h => h) rfl hX ?_ ?_; rotate_left; (intro W hW; go_simp; try with_reducible rfl); simp only [Act.put, List.setIfInBounds_toArray, List.set_cons_zero, List.set_cons_succ]
            refine sx_take (i := 7) (oi := ⟨some 12, _, _, _, _, _⟩) (v := .int .i64 (k : Int)) rfl (by kernel_rfl) (by kernel_rfl) (by kernel_rfl) (fun _ _ _ h => h) rfl hX (fun W hW => ld_i64 (.tmp 11) rfl rfl (XC.out.below hW).ax.rd.c1) ?_; simp only [Act.put, List.setIfInBounds_toArray, List.set_cons_zero, List.set_cons_succ]
            refine sx_take (i := 8) (oi := ⟨some 13, _, _, _, _, _⟩) (v := ?_) rfl (by kernel_rfl) (by kernel_rfl) (by kernel_rfl) (fun _ _ _ h => h) rfl hX ?_ ?_; rotate_left; (intro W hW; go_simp; try with_reducible rfl); simp only [Act.put, List.setIfInBounds_toArray, List.set_cons_zero, List.set_cons_succ]
            refine sx_take (i := 9) (oi := ⟨some 14, _, _, _, _, _⟩) (v := ?_) rfl (by kernel_rfl) (by kernel_rfl) (by kernel_rfl) (fun _ _ _ h => h) rfl hX ?_ ?_; rotate_left; (intro W hW; go_simp; try with_reducible rfl); simp only [Act.put, List.setIfInBounds_toArray, List.set_cons_zero, List.set_cons_succ]
            refine sx_take (i := 10) (oi := ⟨some 15, _, _, _, _, _⟩) (v := ?_) rfl (by kernel_rfl) (by kernel_rfl) (by kernel_rfl) (fun _ _ _ h => h) rfl hX ?_ ?_; rotate_left; (intro W hW; go_simp; try with_reducible rfl); simp only [Act.put, List.setIfInBounds_toArray, List.set_cons_zero, List.set_cons_succ]
            refine sx_take (i := 11) (oi := ⟨some 16, _, _, _, _, _⟩) (v := .string S) rfl (by kernel_rfl) (by kernel_rfl) (by kernel_rfl) (fun _ _ _ h => h) rfl hX (fun W hW => ld_str (.tmp 15) rfl rfl (XC.out.below hW).ax.rd.c0) ?_; simp only [Act.put, List.setIfInBounds_toArray, List.set_cons_zero, List.set_cons_succ]
            refine sx_take (i := 12) (oi := ⟨some 17, _, _, _, _, _⟩) (v := ?_) rfl (by kernel_rfl) (by kernel_rfl) (by kernel_rfl) (fun _ _ _ h => h) rfl hX ?_ ?_; rotate_left; (intro W hW; go_simp; try with_reducible rfl); simp only [Act.put, List.setIfInBounds_toArray, List.set_cons_zero, List.set_cons_succ]
            refine sx_take (i := 13) (oi := ⟨some 18, _, _, _, _, _⟩) (v := .bool false) rfl (by kernel_rfl) (by kernel_rfl) (by kernel_rfl) (fun _ _ _ h => h) rfl hX (fun W _ => (by go_simp; omega)) ?_; simp only [Act.put, List.setIfInBounds_toArray, List.set_cons_zero, List.set_cons_succ]
            refine sx_take (i := 14) (oi := ⟨some 19, _, _, _, _, _⟩) (v := ?_) rfl (by kernel_rfl) (by kernel_rfl) (by kernel_rfl) (fun _ _ _ h => h) rfl hX ?_ ?_; rotate_left; (intro W hW; go_simp; try with_reducible rfl); simp only [Act.put, List.setIfInBounds_toArray, List.set_cons_zero, List.set_cons_succ]
            refine sx_take (i := 15) (oi := ⟨some 20, _, _, _, _, _⟩) (v := ?_) rfl (by kernel_rfl) (by kernel_rfl) (by kernel_rfl) (fun _ _ _ h => h) rfl hX ?_ ?_; rotate_left; (intro W hW; go_simp; try with_reducible rfl); simp only [Act.put, List.setIfInBounds_toArray, List.set_cons_zero, List.set_cons_succ]
            refine sx_skip (i := 16) (oi := ⟨some 21, _, _, _, _, _⟩) rfl (by kernel_rfl) (by kernel_rfl) (by kernel_rfl) (fun _ _ _ h => h) rfl hX ?_; simp only [Act.put, List.setIfInBounds_toArray, List.set_cons_zero, List.set_cons_succ]
            refine sx_skip (i := 17) (oi := ⟨some 22, _, _, _, _, _⟩) rfl (by kernel_rfl) (by kernel_rfl) (by kernel_rfl) (fun _ _ _ h => h) rfl hX ?_; simp only [Act.put, List.setIfInBounds_toArray, List.set_cons_zero, List.set_cons_succ]
            refine sx_skip (i := 18) (oi := ⟨some 23, _, _, _, _, _⟩) rfl (by kernel_rfl) (by kernel_rfl) (by kernel_rfl) (fun _ _ _ h => h) rfl hX ?_; simp only [Act.put, List.setIfInBounds_toArray, List.set_cons_zero, List.set_cons_succ]
            refine sx_take (i := 19) (oi := ⟨some 24, _, _, _, _, _⟩) (v := ?_) rfl (by kernel_rfl) (by kernel_rfl) (by kernel_rfl) (fun _ _ _ h => h) rfl hX ?_ ?_; rotate_left; (intro W hW; go_simp; try with_reducible rfl); simp only [Act.put, List.setIfInBounds_toArray, List.set_cons_zero, List.set_cons_succ]
            refine sx_take (i := 20) (oi := ⟨some 25, _, _, _, _, _⟩) (v := ?_) rfl (by kernel_rfl) (by kernel_rfl) (by kernel_rfl) (fun _ _ _ h => h) rfl hX ?_ ?_; rotate_left; (intro W hW; go_simp; try with_reducible rfl); simp only [Act.put, List.setIfInBounds_toArray, List.set_cons_zero, List.set_cons_succ]
            refine sx_skip (i := 21) (oi := ⟨some 26, _, _, _, _, _⟩) rfl (by kernel_rfl) (by kernel_rfl) (by kernel_rfl) (fun _ _ _ h => h) rfl hX ?_; simp only [Act.put, List.setIfInBounds_toArray, List.set_cons_zero, List.set_cons_succ]
            refine sx_skip (i := 22) (oi := ⟨some 27, _, _, _, _, _⟩) rfl (by kernel_rfl) (by kernel_rfl) (by kernel_rfl) (fun _ _ _ h => h) rfl hX ?_; simp only [Act.put, List.setIfInBounds_toArray, List.set_cons_zero, List.set_cons_succ]
            refine sx_skip (i := 23) (oi := ⟨some 28, _, _, _, _, _⟩) rfl (by kernel_rfl) (by kernel_rfl) (by kernel_rfl) (fun _ _ _ h => h) rfl hX ?_; simp only [Act.put, List.setIfInBounds_toArray, List.set_cons_zero, List.set_cons_succ]
            refine sx_take (i := 24) (oi := ⟨some 29, _, _, _, _, _⟩) (v := ?_) rfl (by kernel_rfl) (by kernel_rfl) (by kernel_rfl) (fun _ _ _ h => h) rfl hX ?_ ?_; rotate_left; (intro W hW; go_simp; try with_reducible rfl); simp only [Act.put, List.setIfInBounds_toArray, List.set_cons_zero, List.set_cons_succ]
            refine wpAnyH_done (by kernel_rfl) ?_ _
            clear hX j1
            go_wp2_with fail
            refine (over_no w5 g S k d XC.out.ax.rd).mono ?_
            rintro e wa ⟨rfl, hb⟩
            replace XC := Lib.hid (XC.out.below hb)
            clear hb
            go_wp2_with fail
            refine (refCat_any r u4 wa XC.out.row (by have := (HF.out r HRA.out).2; omega)).mono ?_
            rintro e wb ⟨cs, rfl, hv, hb⟩
            have XB := Lib.hid (XC.out.below hb)
            have C6 := Lib.hid hv.length
            have VB := Lib.hid hv
            have HNE := Lib.hid (fun j (hj : wa.heap.size ≤ j) => show some j ≠ u3.ownBlock from fun he => by have h1 := XC.out.vs.lt j he.symm; have h2 := XC.out.gr.size; omega)
            have HWA := Lib.hid (show w.heap.size < wa.heap.size from XC.out.ax.rz.lt)
            clear hv hb
            go_wp2_with fail
            refine (made_at (catT r) (HF.out r HRA.out).1 cs wb g S k d XB.out.ax.rd (RxD.mono VB.out fun j hj => hj.2)).mono ?_
            rintro e wc ⟨rfl, hb⟩
            have XD := Lib.hid (XB.out.below hb)
            have VD := Lib.hid (show RxD (fun j => wa.heap.size ≤ j ∧ j < wc.heap.size) wc cs (catT r) from RxD.mono (VB.out.stay fun j hj => hb.block j hj.2) fun j hj => ⟨hj.1, Nat.lt_of_lt_of_le hj.2 hb.size⟩)
            clear hb
            go_wp2_with (first
              | ((with_reducible refine atDst 43 ?_); refine wpList_bldT1 rfl 25 27 (.tmp 42) rfl i0 Tryd.underlying25 hi0 HZ1.out hz1 cs C6.out rfl ?_; intro wd hk hb hs; have KE := Lib.hid hk; have XE := Lib.hid (XD.out.below hb); have VE := Lib.hid (show RxD (fun j => w.heap.size < j ∧ j < wd.heap.size ∧ some j ≠ u3.ownBlock) wd cs (catT r) from RxD.mono (VD.out.stay fun j hj => hb.block j hj.2) fun j hj => ⟨Nat.lt_of_lt_of_le HWA.out hj.1, Nat.lt_of_lt_of_le hj.2 hb.size, HNE.out j hj.1⟩); clear hk hb hs; (try simp only [Act.put, List.setIfInBounds_toArray, List.set_cons_zero, List.set_cons_succ]))
              | ((with_reducible refine atDst 44 ?_); refine wpList_appT rfl (.tmp 38) (.tmp 43) rfl i0 hi0 HZ1.out hz1 hz2 u3 ts rfl XE.out.alts wc.heap.size 1 27 cs (catT r) rfl KE.out VE.out (by rw [HTS.out, List.length_map, List.length_take]; have := HAL.out; omega) XE.out.ax.rz.lt ?_; intro v' wf ho hg; have AF := Lib.hid (XE.out.ax.grow hg fun q hq => by have := XE.out.vs.ge q hq; omega); have OF := Lib.hid (show OwnT (fun k => w.heap.size < k) (w.heap.size + 1) wf v' ((A.take (i + 1)).map catT) by rw [HNT.out]; exact ho); clear ho hg; (try simp only [Act.put, List.setIfInBounds_toArray, List.set_cons_zero, List.set_cons_succ])))
            refine (over_no wf g S k d AF.out.rd).mono ?_
            rintro e wg ⟨rfl, hb⟩
            have AG := Lib.hid (AF.out.below hb)
            have OG := Lib.hid (OF.out.stay hb)
            clear hb
            go_wp2_with fail
            refine (is_at wg g l S HS.out k d AG.out.rd HL.out HKL.out 124 false (HN124.out)).mono ?_
            rintro e wh ⟨rfl, hb⟩
            have AH := Lib.hid (AG.out.below hb)
            have OH := Lib.hid (OG.out.stay hb)
            clear hb
            go_wp2_with fail
            refine (over_no wh g S k d AH.out.rd).mono ?_
            rintro e wi ⟨rfl, hb⟩
            have AI := Lib.hid (AH.out.below hb)
            have OI := Lib.hid (OH.out.stay hb)
            clear hb
            go_wp2_with fail
            refine (refAlt_any (A.map catT) v' wi (RowD.rowT (RowD.mono (HALL.out ▸ OI.out).rowD fun j hj => hj.2)) HNA.out).mono ?_
            rintro e wj ⟨cs, rfl, hv, hb⟩
            rw [HXE.out] at hv
            have AJ := Lib.hid (AI.out.below hb)
            have D6 := Lib.hid hv.length
            have D1 := Lib.hid (show cs.all (·.oneCell') = true from List.all_eq_true.2 (RxD.one hv))
            have VJ := Lib.hid (AI.out.fresh hv)
            clear hv hb
            go_wp2_with fail
            refine (made_at x HFX.out cs wj g S k d AJ.out.rd (RxD.mono VJ.out fun j hj => hj.2)).mono ?_
            rintro e wk ⟨rfl, hb⟩
            have AK := Lib.hid (AJ.out.below hb)
            have VK := Lib.hid (show RxD (fun j => w.heap.size < j ∧ j < wk.heap.size) wk cs x from RxD.mono (VJ.out.stay fun j hj => hb.block j hj.2) fun j hj => ⟨hj.1, Nat.lt_of_lt_of_le hj.2 hb.size⟩)
            clear hb
            go_wp2_with ((with_reducible refine atStore 27 2 65 ?_); refine wpList_stBlk rfl 27 _ _ rfl w.heap.size cs rfl rfl 27 _ AK.out.rz (size_rx D6.out) (by rw [HZL.out, D6.out]) D1.out (Below.refl w.heap.size wk) (Nat.le_refl _) ?_; intro w9 hk hb hs ho; have K9 := Lib.hid hk; have E9 := Lib.hid (AK.out.done VK.out hb ho); clear hk hb hs ho; (try simp only [Act.put, List.setIfInBounds_toArray, List.set_cons_zero, List.set_cons_succ]))
            refine bodyPost_ret (results_blk rfl _ _ w.heap.size 27 _ _ rfl K9.out Tryd.underlying27 rfl (size_rx D6.out)) rfl ?_
            exact ⟨cs, rfl, E9.out.1, E9.out.2.1, by rw [← HEND.out]; exact E9.out.2.2⟩
          · rw [h1] at hd0
            have g1 := noOp_at hd0
            have j1 : (k : Int) < (S.size : Int) := by have h1 := HSZ.out; have h2 := g1.2; omega
            have HY41 := Lib.hid (is_yes hd0 41 rfl)
            clear hin hdn htx hd0 h1 g1 hlast hk0
            go_wp2_with fail
            refine sx_start (by kernel_rfl) (fun wS hS hSz => ?_)
            have XC := Lib.hid (HI.out.below hS)
            clear hSz hS
            have hX := Below.refl wS.heap.size wS
            refine sx_take (i := 0) (oi := ⟨some 5, _, _, _, _, _⟩) (v := ?_) rfl (by kernel_rfl) (by kernel_rfl) (by kernel_rfl) (fun _ _ _ h => h) rfl hX ?_ ?_; rotate_left; (intro W hW; go_simp; try with_reducible rfl); simp only [Act.put, List.setIfInBounds_toArray, List.set_cons_zero, List.set_cons_succ]
            refine sx_act (i := 1) (o := ⟨some 6, _, _, _, _, _⟩) rfl (by kernel_rfl) rfl hX (Nat.le_refl _) (fun K hK => ?_)
            go_wp2_with fail
            refine (over_no wS g S k d XC.out.ax.rd).mono ?_
            rintro e w5 ⟨rfl, hb⟩
            go_wp2_with fail
            refine hK _ _ hb ?_
            (try simp only [Act.put, List.setIfInBounds_toArray, List.set_cons_zero, List.set_cons_succ])
            clear hK K hX
            have hX := Below.refl w5.heap.size w5
            replace XC := Lib.hid (XC.out.below hb)
            clear hb
            refine sx_take (i := 2) (oi := ⟨some 7, _, _, _, _, _⟩) (v := ?_) rfl (by kernel_rfl) (by kernel_rfl) (by kernel_rfl) (fun _ _ _ h => h) rfl hX ?_ ?_; rotate_left; (intro W hW; go_simp; try with_reducible rfl); simp only [Act.put, List.setIfInBounds_toArray, List.set_cons_zero, List.set_cons_succ]
            refine sx_take (i := 3) (oi := ⟨some 8, _, _, _, _, _⟩) (v := ?_) rfl (by kernel_rfl) (by kernel_rfl) (by kernel_rfl) (fun _ _ _ h => h) rfl hX ?_ ?_; rotate_left; (intro W hW; go_simp; try with_reducible rfl); simp only [Act.put, List.setIfInBounds_toArray, List.set_cons_zero, List.set_cons_succ]
            refine sx_take (i := 4) (oi := ⟨some 9, _, _, _, _, _⟩) (v := ?_) rfl (by kernel_rfl) (by kernel_rfl) (by kernel_rfl) (fun _ _ _ h => h) rfl hX ?_ ?_; rotate_left; (intro W hW; go_simp; try with_reducible rfl); simp only [Act.put, List.setIfInBounds_toArray, List.set_cons_zero, List.set_cons_succ]
            refine sx_take (i := 5) (oi := ⟨some 10, _, _, _, _, _⟩) (v := ?_) rfl (by kernel_rfl) (by kernel_rfl) (by kernel_rfl) (fun _ _ _ h => h) rfl hX ?_ ?_; rotate_left; (intro W hW; go_simp; try with_reducible rfl); simp only [Act.put, List.setIfInBounds_toArray, List.set_cons_zero, List.set_cons_succ]
            refine sx_take (i := 6) (oi := ⟨some 11, _, _, _, _, _⟩) (v := ?_) rfl (by kernel_rfl) (by kernel_rfl) (by kernel_rfl) (fun _ _ _ h => h) rfl hX ?_ ?_; rotate_left; (intro W hW; go_simp; try with_reducible rfl); simp only [Act.put, List.setIfInBounds_toArray, List.set_cons_zero, List.set_cons_succ]
            refine sx_take (i := 7) (oi := ⟨some 12, _, _, _, _, _⟩) (v := .int .i64 (k : Int)) rfl (by kernel_rfl) (by kernel_rfl) (by kernel_rfl) (fun _ _ _ h => h) rfl hX (fun W hW => ld_i64 (.tmp 11) rfl rfl (XC.out.below hW).ax.rd.c1) ?_; simp only [Act.put, List.setIfInBounds_toArray, List.set_cons_zero, List.set_cons_succ]
            refine sx_take (i := 8) (oi := ⟨some 13, _, _, _, _, _⟩) (v := ?_) rfl (by kernel_rfl) (by kernel_rfl) (by kernel_rfl) (fun _ _ _ h => h) rfl hX ?_ ?_; rotate_left; (intro W hW; go_simp; try with_reducible rfl); simp only [Act.put, List.setIfInBounds_toArray, List.set_cons_zero, List.set_cons_succ]
            refine sx_take (i := 9) (oi := ⟨some 14, _, _, _, _, _⟩) (v := ?_) rfl (by kernel_rfl) (by kernel_rfl) (by kernel_rfl) (fun _ _ _ h => h) rfl hX ?_ ?_; rotate_left; (intro W hW; go_simp; try with_reducible rfl); simp only [Act.put, List.setIfInBounds_toArray, List.set_cons_zero, List.set_cons_succ]
            refine sx_take (i := 10) (oi := ⟨some 15, _, _, _, _, _⟩) (v := ?_) rfl (by kernel_rfl) (by kernel_rfl) (by kernel_rfl) (fun _ _ _ h => h) rfl hX ?_ ?_; rotate_left; (intro W hW; go_simp; try with_reducible rfl); simp only [Act.put, List.setIfInBounds_toArray, List.set_cons_zero, List.set_cons_succ]
            refine sx_take (i := 11) (oi := ⟨some 16, _, _, _, _, _⟩) (v := .string S) rfl (by kernel_rfl) (by kernel_rfl) (by kernel_rfl) (fun _ _ _ h => h) rfl hX (fun W hW => ld_str (.tmp 15) rfl rfl (XC.out.below hW).ax.rd.c0) ?_; simp only [Act.put, List.setIfInBounds_toArray, List.set_cons_zero, List.set_cons_succ]
            refine sx_take (i := 12) (oi := ⟨some 17, _, _, _, _, _⟩) (v := ?_) rfl (by kernel_rfl) (by kernel_rfl) (by kernel_rfl) (fun _ _ _ h => h) rfl hX ?_ ?_; rotate_left; (intro W hW; go_simp; try with_reducible rfl); simp only [Act.put, List.setIfInBounds_toArray, List.set_cons_zero, List.set_cons_succ]
            refine sx_take (i := 13) (oi := ⟨some 18, _, _, _, _, _⟩) (v := ?_) rfl (by kernel_rfl) (by kernel_rfl) (by kernel_rfl) (fun _ _ _ h => h) rfl hX ?_ ?_; rotate_left; (intro W hW; go_simp; try with_reducible rfl); simp only [Act.put, List.setIfInBounds_toArray, List.set_cons_zero, List.set_cons_succ]
            refine sx_take (i := 14) (oi := ⟨some 19, _, _, _, _, _⟩) (v := ?_) rfl (by kernel_rfl) (by kernel_rfl) (by kernel_rfl) (fun _ _ _ h => h) rfl hX ?_ ?_; rotate_left; (intro W hW; go_simp; try with_reducible rfl); simp only [Act.put, List.setIfInBounds_toArray, List.set_cons_zero, List.set_cons_succ]
            refine sx_take (i := 15) (oi := ⟨some 20, _, _, _, _, _⟩) (v := ?_) rfl (by kernel_rfl) (by kernel_rfl) (by kernel_rfl) (fun _ _ _ h => h) rfl hX ?_ ?_; rotate_left; (intro W hW; go_simp; try with_reducible rfl); simp only [Act.put, List.setIfInBounds_toArray, List.set_cons_zero, List.set_cons_succ]
            refine sx_take (i := 16) (oi := ⟨some 21, _, _, _, _, _⟩) (v := ?_) rfl (by kernel_rfl) (by kernel_rfl) (by kernel_rfl) (fun _ _ _ h => h) rfl hX ?_ ?_; rotate_left; (intro W hW; go_simp; try with_reducible rfl); simp only [Act.put, List.setIfInBounds_toArray, List.set_cons_zero, List.set_cons_succ]
            refine sx_act (i := 17) (o := ⟨some 22, _, _, _, _, _⟩) rfl (by kernel_rfl) rfl hX (Nat.le_refl _) (fun K hK => ?_)
            go_wp2_with fail
            refine (is_at w5 g l S HS.out k d XC.out.ax.rd HL.out HKL.out 124 false (HN124.out)).mono ?_
            rintro e w6 ⟨rfl, hb⟩
            go_wp2_with fail
            refine hK _ _ hb ?_
            (try simp only [Act.put, List.setIfInBounds_toArray, List.set_cons_zero, List.set_cons_succ])
            clear hK K hX
            have hX := Below.refl w6.heap.size w6
            replace XC := Lib.hid (XC.out.below hb)
            clear hb
            refine sx_take (i := 18) (oi := ⟨some 23, _, _, _, _, _⟩) (v := ?_) rfl (by kernel_rfl) (by kernel_rfl) (by kernel_rfl) (fun _ _ _ h => h) rfl hX ?_ ?_; rotate_left; (intro W hW; go_simp; try with_reducible rfl); simp only [Act.put, List.setIfInBounds_toArray, List.set_cons_zero, List.set_cons_succ]
            refine sx_take (i := 19) (oi := ⟨some 24, _, _, _, _, _⟩) (v := ?_) rfl (by kernel_rfl) (by kernel_rfl) (by kernel_rfl) (fun _ _ _ h => h) rfl hX ?_ ?_; rotate_left; (intro W hW; go_simp; try with_reducible rfl); simp only [Act.put, List.setIfInBounds_toArray, List.set_cons_zero, List.set_cons_succ]
            refine sx_take (i := 20) (oi := ⟨some 25, _, _, _, _, _⟩) (v := ?_) rfl (by kernel_rfl) (by kernel_rfl) (by kernel_rfl) (fun _ _ _ h => h) rfl hX ?_ ?_; rotate_left; (intro W hW; go_simp; try with_reducible rfl); simp only [Act.put, List.setIfInBounds_toArray, List.set_cons_zero, List.set_cons_succ]
            refine sx_take (i := 21) (oi := ⟨some 26, _, _, _, _, _⟩) (v := ?_) rfl (by kernel_rfl) (by kernel_rfl) (by kernel_rfl) (fun _ _ _ h => h) rfl hX ?_ ?_; rotate_left; (intro W hW; go_simp; try with_reducible rfl); simp only [Act.put, List.setIfInBounds_toArray, List.set_cons_zero, List.set_cons_succ]
            refine sx_act (i := 22) (o := ⟨some 27, _, _, _, _, _⟩) rfl (by kernel_rfl) rfl hX (Nat.le_refl _) (fun K hK => ?_)
            go_wp2_with fail
            refine (is_at w6 g l S HS.out k d XC.out.ax.rd HL.out HKL.out 41 true (HY41.out)).mono ?_
            rintro e w7 ⟨rfl, hb⟩
            go_wp2_with fail
            refine hK _ _ hb ?_
            (try simp only [Act.put, List.setIfInBounds_toArray, List.set_cons_zero, List.set_cons_succ])
            clear hK K hX
            have hX := Below.refl w7.heap.size w7
            replace XC := Lib.hid (XC.out.below hb)
            clear hb
            refine sx_take (i := 23) (oi := ⟨some 28, _, _, _, _, _⟩) (v := ?_) rfl (by kernel_rfl) (by kernel_rfl) (by kernel_rfl) (fun _ _ _ h => h) rfl hX ?_ ?_; rotate_left; (intro W hW; go_simp; try with_reducible rfl); simp only [Act.put, List.setIfInBounds_toArray, List.set_cons_zero, List.set_cons_succ]
            refine sx_take (i := 24) (oi := ⟨some 29, _, _, _, _, _⟩) (v := ?_) rfl (by kernel_rfl) (by kernel_rfl) (by kernel_rfl) (fun _ _ _ h => h) rfl hX ?_ ?_; rotate_left; (intro W hW; go_simp; try with_reducible rfl); simp only [Act.put, List.setIfInBounds_toArray, List.set_cons_zero, List.set_cons_succ]
            refine wpAnyH_done (by kernel_rfl) ?_ _
            clear hX j1
            go_wp2_with fail
            refine (over_no w7 g S k d XC.out.ax.rd).mono ?_
            rintro e wa ⟨rfl, hb⟩
            replace XC := Lib.hid (XC.out.below hb)
            clear hb
            go_wp2_with fail
            refine (refCat_any r u4 wa XC.out.row (by have := (HF.out r HRA.out).2; omega)).mono ?_
            rintro e wb ⟨cs, rfl, hv, hb⟩
            have XB := Lib.hid (XC.out.below hb)
            have C6 := Lib.hid hv.length
            have VB := Lib.hid hv
            have HNE := Lib.hid (fun j (hj : wa.heap.size ≤ j) => show some j ≠ u3.ownBlock from fun he => by have h1 := XC.out.vs.lt j he.symm; have h2 := XC.out.gr.size; omega)
            have HWA := Lib.hid (show w.heap.size < wa.heap.size from XC.out.ax.rz.lt)
            clear hv hb
            go_wp2_with fail
            refine (made_at (catT r) (HF.out r HRA.out).1 cs wb g S k d XB.out.ax.rd (RxD.mono VB.out fun j hj => hj.2)).mono ?_
            rintro e wc ⟨rfl, hb⟩
            have XD := Lib.hid (XB.out.below hb)
            have VD := Lib.hid (show RxD (fun j => wa.heap.size ≤ j ∧ j < wc.heap.size) wc cs (catT r) from RxD.mono (VB.out.stay fun j hj => hb.block j hj.2) fun j hj => ⟨hj.1, Nat.lt_of_lt_of_le hj.2 hb.size⟩)
            clear hb
            go_wp2_with (first
              | ((with_reducible refine atDst 43 ?_); refine wpList_bldT1 rfl 25 27 (.tmp 42) rfl i0 Tryd.underlying25 hi0 HZ1.out hz1 cs C6.out rfl ?_; intro wd hk hb hs; have KE := Lib.hid hk; have XE := Lib.hid (XD.out.below hb); have VE := Lib.hid (show RxD (fun j => w.heap.size < j ∧ j < wd.heap.size ∧ some j ≠ u3.ownBlock) wd cs (catT r) from RxD.mono (VD.out.stay fun j hj => hb.block j hj.2) fun j hj => ⟨Nat.lt_of_lt_of_le HWA.out hj.1, Nat.lt_of_lt_of_le hj.2 hb.size, HNE.out j hj.1⟩); clear hk hb hs; (try simp only [Act.put, List.setIfInBounds_toArray, List.set_cons_zero, List.set_cons_succ]))
              | ((with_reducible refine atDst 44 ?_); refine wpList_appT rfl (.tmp 38) (.tmp 43) rfl i0 hi0 HZ1.out hz1 hz2 u3 ts rfl XE.out.alts wc.heap.size 1 27 cs (catT r) rfl KE.out VE.out (by rw [HTS.out, List.length_map, List.length_take]; have := HAL.out; omega) XE.out.ax.rz.lt ?_; intro v' wf ho hg; have AF := Lib.hid (XE.out.ax.grow hg fun q hq => by have := XE.out.vs.ge q hq; omega); have OF := Lib.hid (show OwnT (fun k => w.heap.size < k) (w.heap.size + 1) wf v' ((A.take (i + 1)).map catT) by rw [HNT.out]; exact ho); clear ho hg; (try simp only [Act.put, List.setIfInBounds_toArray, List.set_cons_zero, List.set_cons_succ])))
            refine (over_no wf g S k d AF.out.rd).mono ?_
            rintro e wg ⟨rfl, hb⟩
            have AG := Lib.hid (AF.out.below hb)
            have OG := Lib.hid (OF.out.stay hb)
            clear hb
            go_wp2_with fail
            refine (is_at wg g l S HS.out k d AG.out.rd HL.out HKL.out 124 false (HN124.out)).mono ?_
            rintro e wh ⟨rfl, hb⟩
            have AH := Lib.hid (AG.out.below hb)
            have OH := Lib.hid (OG.out.stay hb)
            clear hb
            go_wp2_with fail
            refine (over_no wh g S k d AH.out.rd).mono ?_
            rintro e wi ⟨rfl, hb⟩
            have AI := Lib.hid (AH.out.below hb)
            have OI := Lib.hid (OH.out.stay hb)
            clear hb
            go_wp2_with fail
            refine (refAlt_any (A.map catT) v' wi (RowD.rowT (RowD.mono (HALL.out ▸ OI.out).rowD fun j hj => hj.2)) HNA.out).mono ?_
            rintro e wj ⟨cs, rfl, hv, hb⟩
            rw [HXE.out] at hv
            have AJ := Lib.hid (AI.out.below hb)
            have D6 := Lib.hid hv.length
            have D1 := Lib.hid (show cs.all (·.oneCell') = true from List.all_eq_true.2 (RxD.one hv))
            have VJ := Lib.hid (AI.out.fresh hv)
            clear hv hb
            go_wp2_with fail
            refine (made_at x HFX.out cs wj g S k d AJ.out.rd (RxD.mono VJ.out fun j hj => hj.2)).mono ?_
            rintro e wk ⟨rfl, hb⟩
            have AK := Lib.hid (AJ.out.below hb)
            have VK := Lib.hid (show RxD (fun j => w.heap.size < j ∧ j < wk.heap.size) wk cs x from RxD.mono (VJ.out.stay fun j hj => hb.block j hj.2) fun j hj => ⟨hj.1, Nat.lt_of_lt_of_le hj.2 hb.size⟩)
            clear hb
            go_wp2_with ((with_reducible refine atStore 27 2 65 ?_); refine wpList_stBlk rfl 27 _ _ rfl w.heap.size cs rfl rfl 27 _ AK.out.rz (size_rx D6.out) (by rw [HZL.out, D6.out]) D1.out (Below.refl w.heap.size wk) (Nat.le_refl _) ?_; intro w9 hk hb hs ho; have K9 := Lib.hid hk; have E9 := Lib.hid (AK.out.done VK.out hb ho); clear hk hb hs ho; (try simp only [Act.put, List.setIfInBounds_toArray, List.set_cons_zero, List.set_cons_succ]))
            refine bodyPost_ret (results_blk rfl _ _ w.heap.size 27 _ _ rfl K9.out Tryd.underlying27 rfl (size_rx D6.out)) rfl ?_
            exact ⟨cs, rfl, E9.out.1, E9.out.2.1, by rw [← HEND.out]; exact E9.out.2.2⟩
end Go.Proofs.YtmlojjgddmnbmaaDoor
namespace Go.Proofs.YtmlojjgddmnbmaaDoor
open Go.RowKit
set_option linter.unusedSimpArgs false
set_option linter.unusedVariables false

theorem fine_less {p t : T} (h : fine t) (hp : good p) (hn : p.nodes ≤ t.nodes) (hd : p.depth ≤ t.depth) : fine p := ⟨hp, by have := h.2.1; omega, by have := h.2.2; omega⟩
theorem altsX_ne {z : T} (h : good z) : altsX z ≠ [] := by
  unfold altsX
  by_cases h5 : z.kind = 5
  · rw [if_pos h5]
    cases z with
    | node k s l =>
      have hk : k = 5 := h5
      subst hk
      have h4 := (good_node.1 h).2.2.2.1
      rw [count45 (.inr rfl)] at h4
      have h4 : 2 ≤ l.length := by simpa using h4
      intro he
      have h6 := congrArg List.length he
      rw [List.length_map] at h6
      have h7 : l.length = 0 := h6
      omega
  · rw [if_neg h5]
    simp
/-- Alternatives, where parts are known. -/
theorem alts_known (z : T) (hn : neat z) (hf : fine z) (ih : ∀ r ∈ altsX z, ∀ p ∈ r, RepC p) : AltC (altsX z) z :=
  alt_walk (altsX z) z (altsX_ne hn.1) (altsX_tree hn.1) hf (fun r hr => ⟨(altsX_fine hf hr).1, Nat.le_trans (altsX_fine hf hr).2 hf.2.1⟩) (Nat.le_trans (altsX_len z) hf.2.1)
    fun r hr p hp => ⟨ih r hr p hp, (altsX_part hn hr hp).1.1, (altsX_part hn hr hp).2.1⟩
theorem atom_known (z : T) (hn : neat z) (hf : fine z) (h6 : z.kind ≠ 6) (ih : z.kind = 4 ∨ z.kind = 5 → ∀ r ∈ altsX z, ∀ p ∈ r, RepC p) : AtomC z := by
  refine atom_at z hn.1 h6 fun hk => ?_
  by_cases h2 : z.kind = 2
  · have he : altsP z = [[]] := by unfold altsP; rw [if_pos h2]
    refine ⟨?_, fun r hr y hy => ?_⟩
    · have ht := altsP_tree hn.1
      rw [he] at ht ⊢
      refine alt_walk [[]] z (by simp) ht hf (fun r hr => ?_) (by simp) fun r hr p hp => ?_
      · obtain rfl := List.mem_singleton.1 hr
        exact ⟨fine_empty, by simp [nodesL]⟩
      · obtain rfl := List.mem_singleton.1 hr
        cases hp
    · rw [he] at hr
      obtain rfl := List.mem_singleton.1 hr
      cases hy
  · have he : altsP z = altsX z := by unfold altsP; rw [if_neg h2]
    have hk' : z.kind = 4 ∨ z.kind = 5 := by omega
    rw [he]
    exact ⟨alts_known z hn hf (ih hk'), fun r hr y hy => ((altsX_part hn hr hy).2.2.2.2 hk').2⟩
theorem rep_all : ∀ (N : Nat) (y : T), y.nodes ≤ N → neat y → fine y → y.kind ≠ 4 → RepC y := by
  intro N
  induction N with
  | zero => intro y h; have := nodes_pos y; omega
  | succ N ih =>
    intro y hN hn hf h4
    have part : ∀ z : T, neat z → fine z → z.nodes ≤ N + 1 → (z.kind = 4 ∨ z.kind = 5 → ∀ r ∈ altsX z, ∀ p ∈ r, RepC p) := fun z hz hfz hzn hk r hr p hp => by
      obtain ⟨i1, i2, i3, i4, i5⟩ := altsX_part hz hr hp
      have := i5 hk
      exact ih p (by omega) i1 (fine_less hfz i1.1 i3 i4) i2
    by_cases h6 : y.kind = 6
    · cases y with
      | node k s l =>
        have hk : k = 6 := h6
        subst hk
        obtain ⟨x, rfl, _⟩ := star_one hn.1
        have hx : x ∈ T.args (.node 6 s [x]) := by simp [T.args]
        have hnx := neat_part hn hx
        have hfx := fine_part hf hx
        have hf6 := fits6 (fit_part hn.1 hx)
        have hxn := nodes_args hx
        have ha := atom_known x hnx hfx hf6.2.2 (part x hnx hfx (by omega))
        intro w g l S a d rest hS hl h ht hq hd
        have e : repT (.node 6 s [x]) = atomT x ++ [42] := by unfold repT; rw [if_neg (by show (6 : Int) ≠ 5; omega), star_text]
        rw [e] at ht ⊢
        have h1 := rep_walk x (.node 6 s [x]) [42] ha hf hfx (.inl ⟨rfl, star_eq hn⟩) w g l S a d rest hS hl h (by rw [ht, List.append_assoc]) hq (by have := depth_args hx; omega)
        rw [List.length_append]
        exact h1
    · have ha := atom_known y hn hf h6 (part y hn hf hN)
      intro w g l S a d rest hS hl h ht hq hd
      have e : repT y = atomT y := by
        unfold repT atomT
        by_cases h5 : y.kind = 5
        · rw [if_pos h5, if_pos (.inr h5)]
        · rw [if_neg h5, if_neg (by omega)]
      rw [e] at ht ⊢
      have h1 := rep_walk y y [] ha hf hf (.inr ⟨rfl, rfl⟩) w g l S a d rest hS hl h (by rw [ht]; rfl) hq hd
      exact h1
theorem alt_all (x : T) (hn : neat x) (hf : fine x) : AltC (altsX x) x := alts_known x hn hf fun r hr p hp => by
  obtain ⟨i1, i2, i3, i4, _⟩ := altsX_part hn hr hp
  exact rep_all p.nodes p (Nat.le_refl _) i1 (fine_less hf i1.1 i3 i4) i2
/-! ### how great an expression of a short text is -/
theorem one_empty (l : List T) (h : ∀ t ∈ l, good t) (ha : ascF l = true) : (l.filter fun x => decide (x.kind = 2)).length ≤ 1 := by
  have hp := (ascF_pairs l ha).filter (fun x => decide (x.kind = 2))
  obtain ⟨L, hL⟩ : ∃ L, L = l.filter fun x => decide (x.kind = 2) := ⟨_, rfl⟩
  have hm : ∀ x ∈ L, x ∈ l ∧ x.kind = 2 := fun x hx => by
    rw [hL] at hx
    exact ⟨(List.mem_filter.1 hx).1, by simpa using (List.mem_filter.1 hx).2⟩
  rw [← hL] at hp ⊢
  clear hL
  match L, hp, hm with
  | [], _, _ => simp
  | [a], _, _ => simp
  | a :: b :: r, hp, hm =>
    have h1 := ((List.pairwise_cons.1 hp).1 b (by simp)).1
    have ha2 := hm a (by simp)
    have hb2 := hm b (by simp)
    have ea := leaf_eq (h a ha2.1) (.inr ha2.2)
    have eb := leaf_eq (h b hb2.1) (.inr hb2.2)
    rw [ha2.2] at ea
    rw [hb2.2] at eb
    rw [ea, eb, cmpT_self] at h1
    omega
mutual
theorem short_text : ∀ t : T, good t → t.nodes + 1 ≤ 2 * (textT t).length
  | .node k s l, h => by
    obtain ⟨h1, h2, h3, h4, h5, h6⟩ := good_node.1 h
    rcases good_kind h with hk | hk | hk | hk | hk | hk
    · have hk : k = 1 := hk
      subst hk
      rw [count12 (.inl rfl)] at h4
      obtain rfl := List.eq_nil_of_length_eq_zero (l := l) (by simpa using h4)
      simp [textT, T.nodes, nodesL]
    · have hk : k = 2 := hk
      subst hk
      rw [count12 (.inr rfl)] at h4
      obtain rfl := List.eq_nil_of_length_eq_zero (l := l) (by simpa using h4)
      simp [textT, T.nodes, nodesL]
    · have hk : k = 3 := hk
      subst hk
      obtain ⟨e1, e2⟩ := set_text h rfl
      obtain ⟨b, r, e3, _⟩ := set_head e2
      rw [count3] at h4
      have hl : l = [] := List.eq_nil_of_length_eq_zero (by simp at h4; exact h4.2 ▸ rfl)
      rw [e1, e3, hl]
      simp only [T.nodes, nodesL, List.length_cons]
      omega
    · have hk : k = 4 := hk
      subst hk
      rw [count45 (.inl rfl)] at h4
      have h4 : 2 ≤ l.length := by simpa using h4
      have h7 := short_cat l h2
      simp only [textT, T.nodes]
      simp only [show ¬ ((4 : Int) = 1) by omega, show ¬ ((4 : Int) = 2) by omega, show ¬ ((4 : Int) = 3) by omega, show ¬ ((4 : Int) = 6) by omega, if_false, if_true]
      omega
    · have hk : k = 5 := hk
      subst hk
      rw [count45 (.inr rfl)] at h4
      have h4 : 2 ≤ l.length := by simpa using h4
      have h7 := short_altT l h2
      have h8 := one_empty l h2 (h6 rfl)
      simp only [textT, T.nodes]
      simp only [show ¬ ((5 : Int) = 1) by omega, show ¬ ((5 : Int) = 2) by omega, show ¬ ((5 : Int) = 3) by omega, show ¬ ((5 : Int) = 4) by omega, show ¬ ((5 : Int) = 6) by omega, if_false, if_true]
      omega
    · have hk : k = 6 := hk
      subst hk
      rw [count6] at h4
      match l, h4 with
      | [x], _ =>
        have h7 := short_text x (h2 x (by simp))
        have h8 : (textT x).length ≤ (atomT x).length := by unfold atomT; split <;> simp; omega
        rw [star_text, List.length_append]
        simp only [T.nodes, nodesL, List.length_cons, List.length_nil]
        omega
theorem short_cat : ∀ l : List T, (∀ t ∈ l, good t) → nodesL l + l.length ≤ 2 * (catL l).length
  | [], _ => by simp [nodesL, catL]
  | x :: r, h => by
    have h1 := short_text x (h x (by simp))
    have h2 := short_cat r fun t ht => h t (by simp [ht])
    simp only [nodesL, catL, List.length_cons, List.length_append]
    split
    · simp only [List.length_cons, List.length_append, List.length_nil]
      omega
    · omega
theorem short_altF : ∀ l : List T, (∀ t ∈ l, good t) → nodesL l + 3 * l.length ≤ 2 * (altL false l).length + 2 * (l.filter fun x => decide (x.kind = 2)).length
  | [], _ => by simp [nodesL, altL]
  | x :: r, h => by
    have h1 := short_text x (h x (by simp))
    have h2 := short_altF r fun t ht => h t (by simp [ht])
    have h3 : x.kind = 2 → x.nodes = 1 := fun hk => by rw [leaf_eq (h x (by simp)) (.inr hk)]; simp [T.nodes, nodesL]
    simp only [nodesL, altL, List.length_cons, List.length_append, List.length_nil, List.filter_cons]
    by_cases hk : x.kind = 2
    · have h4 := h3 hk
      simp only [hk, if_true, decide_true, List.length_cons, List.length_nil, Bool.false_eq_true, if_false]
      omega
    · simp only [hk, if_false, decide_false, List.length_cons, List.length_nil, Bool.false_eq_true]
      omega
theorem short_altT : ∀ l : List T, (∀ t ∈ l, good t) → nodesL l + 3 * l.length ≤ 2 * (altL true l).length + 2 * (l.filter fun x => decide (x.kind = 2)).length + 2
  | [], _ => by simp [nodesL, altL]
  | x :: r, h => by
    have h1 := short_text x (h x (by simp))
    have h2 := short_altF r fun t ht => h t (by simp [ht])
    have h3 : x.kind = 2 → x.nodes = 1 := fun hk => by rw [leaf_eq (h x (by simp)) (.inr hk)]; simp [T.nodes, nodesL]
    simp only [nodesL, altL, List.length_cons, List.length_append, List.length_nil, List.filter_cons]
    by_cases hk : x.kind = 2
    · have h4 := h3 hk
      simp only [hk, if_true, decide_true, List.length_cons, List.length_nil]
      omega
    · simp only [hk, if_false, if_true, decide_false, List.length_cons, List.length_nil, Bool.false_eq_true]
      omega
end
end Go.Proofs.YtmlojjgddmnbmaaDoor
namespace Go.Proofs.YtmlojjgddmnbmaaDoor
open Go.RowKit
set_option linter.unusedSimpArgs false
set_option linter.unusedVariables false

section
variable {P : Program}
theorem results_blk3 {fn : Func} {p u v : Tmp} {ty : TypeId} (h : fn.results = #[.cell p ty, .tmp u, .tmp v]) (tmps : Array Value) (w : World) (g : Nat) (t : TypeId) (cs : List Value) (d : TypeDesc) (x y : Value)
    (hp : tmps.getD p undef = .pointer (some ⟨g, 0, none⟩)) (hx : tmps.getD u undef = x) (hy : tmps.getD v undef = y) (hg : Blk w g t cs)
    (hu : P.underlying ty = some d) (hd : (match d with | .struct _ | .array _ _ => true | _ => false) = true) (hi : (P.info? ty).map (·.size) = some cs.length) :
    (results fn tmps).run P w = .ok (.tuple #[.agg cs.toArray, x, y]) w := by
  have hl := run_loadVar_row (P := P) w g t ty cs.toArray (0, 0) d hg hu hd (by simpa using hi)
  have hp' : tmps[p]?.getD undef = .pointer (some ⟨g, 0, none⟩) := by simpa using hp
  have hx' : tmps[u]?.getD undef = x := by simpa using hx
  have hy' : tmps[v]?.getD undef = y := by simpa using hy
  simp [results, h, hp', hx', hy', asAddr, hl]
end
theorem built_rd (S : ByteArray) : Tryd.prog.built 56 [(0, .string S), (3, .int .i64 (-1))] = some (stc S ⟨0, 0, none, false⟩).toArray := by kernel_rfl
theorem built_rx : Tryd.prog.built 27 [] = some (rxc 0 zeroS (.slice none 0 0)).toArray := by kernel_rfl
/-- What Parse answers: an expression, and a kind of error. -/
def gotP (w : World) (t : T) (n : Nat) (e : Ending) (w' : World) : Prop := ∃ cs, e = .returned (.tuple #[.agg cs.toArray, .int .i64 0, .int .i64 (n : Int)]) ∧ RxV w'.heap.size w' cs t ∧ Below w.heap.size w w'
set_option maxHeartbeats 4000000 in
set_option maxRecDepth 1000000 in
theorem parse_long (l : List UInt8) (S : ByteArray) (hS : S = ⟨l.toArray⟩) (hl : 200 < l.length) (w : World) :
    Calls Tryd.prog 17 #[.string S] w fun e w' => gotP w (.node 0 zeroS []) 8 e w' := by
  have hsz : S.size = l.length := by rw [hS, str_sizeOf]
  have j1 : (S.size : Int) > 200 := by omega
  clear hS hl hsz
  obtain ⟨i0, hi0, hz0, hz1, hz2⟩ := inf_rx'
  obtain ⟨z0, hz⟩ : ∃ z, z = rxc 0 zeroS (.slice none 0 0) := ⟨_, rfl⟩
  have HZL := Lib.hid (show z0.length = 6 by rw [hz]; rfl)
  have HZ1 := Lib.hid (show z0.all (·.oneCell') = true by rw [hz]; rfl)
  have HZ0 := Lib.hid (show i0.zero = some (.agg z0.toArray) by rw [hz]; exact hz0)
  have HBZ := Lib.hid (show Tryd.prog.built 27 [] = some z0.toArray by rw [hz]; exact built_rx)
  have HZE := Lib.hid hz
  clear hz hz0
  go_enter Tryd.func17, Tryd.ntmps17
  go_wp2_with (first
    | ((with_reducible refine atDst 2 ?_); refine wpList_new rfl 27 rfl i0 _ z0 hi0 HZ0.out rfl (Below.refl w.heap.size w) (Nat.le_refl _) ?_; intro w1 hk hb hs ho; have K1 := Lib.hid hk; have B1 := Lib.hid hb; clear hk hb hs ho; (try simp only [Act.put, List.setIfInBounds_toArray, List.set_cons_zero, List.set_cons_succ]))
    | ((with_reducible refine atDst 10 ?_); refine wpList_bld rfl 27 _ rfl z0 HBZ.out ?_; (try simp only [Act.put, List.setIfInBounds_toArray, List.set_cons_zero, List.set_cons_succ]))
    | ((with_reducible refine atStore 27 2 10 ?_); refine wpList_stBlk rfl 27 _ _ rfl w.heap.size z0 rfl rfl 27 _ K1.out (size_rx HZL.out) rfl HZ1.out B1.out (Nat.le_refl _) ?_; intro w2 hk hb hs ho; have K2 := Lib.hid hk; have B2 := Lib.hid hb; clear hk hb hs ho; (try simp only [Act.put, List.setIfInBounds_toArray, List.set_cons_zero, List.set_cons_succ])))
  refine bodyPost_ret (results_blk3 rfl _ _ w.heap.size 27 _ _ _ _ rfl rfl rfl K2.out Tryd.underlying27 rfl (size_rx HZL.out)) rfl ?_
  exact ⟨z0, rfl, by rw [HZE.out]; exact rx_leaf _ _ _ _, B2.out⟩
set_option maxHeartbeats 4000000 in
set_option maxRecDepth 1000000 in
theorem parse_text (x : T) (hn : neat x) (hf : fine x) (l : List UInt8) (S : ByteArray) (hS : S = ⟨l.toArray⟩) (hl : l.length ≤ 200) (hx : l = textT x) (w : World) :
    Calls Tryd.prog 17 #[.string S] w fun e w' => gotP w x 0 e w' := by
  have hsz : S.size = l.length := by rw [hS, str_sizeOf]
  have j1 : ¬ ((S.size : Int) > 200) := by omega
  have HALT := Lib.hid (alt_all x hn hf)
  have HS := Lib.hid hS
  have HL := Lib.hid hl
  have HSZ := Lib.hid hsz
  have HXT := Lib.hid (show l = joinA true (altsX x) by rw [hx]; exact text_join hn.1)
  have HD := Lib.hid (fun r (hr : r ∈ altsX x) p (hp : p ∈ r) => show 0 + p.depth ≤ 30 by have h1 := (altsX_part hn hr hp).2.2.2.1; have h2 := hf.2.2; omega)
  have HBR := Lib.hid (built_rd S)
  obtain ⟨rs, hrs⟩ : ∃ rs, rs = stc S ⟨0, 0, none, false⟩ := ⟨_, rfl⟩
  rw [← hrs] at HBR
  have HRS := Lib.hid hrs
  clear hS hl hsz hx hn hf hrs
  obtain ⟨i0, hi0, hz0, hz1, hz2⟩ := inf_rx'
  obtain ⟨z0, hz⟩ : ∃ z, z = rxc 0 zeroS (.slice none 0 0) := ⟨_, rfl⟩
  have HZL := Lib.hid (show z0.length = 6 by rw [hz]; rfl)
  have HZ1 := Lib.hid (show z0.all (·.oneCell') = true by rw [hz]; rfl)
  have HZ0 := Lib.hid (show i0.zero = some (.agg z0.toArray) by rw [hz]; exact hz0)
  have HBZ := Lib.hid (show Tryd.prog.built 27 [] = some z0.toArray by rw [hz]; exact built_rx)
  have HZE := Lib.hid hz
  clear hz hz0
  go_enter Tryd.func17, Tryd.ntmps17
  go_wp2_with (first
    | ((with_reducible refine atDst 2 ?_); refine wpList_new rfl 27 rfl i0 _ z0 hi0 HZ0.out rfl (Below.refl w.heap.size w) (Nat.le_refl _) ?_; intro w1 hk hb hs ho; have K1 := Lib.hid hk; have B1 := Lib.hid hb; clear hk hb hs ho; (try simp only [Act.put, List.setIfInBounds_toArray, List.set_cons_zero, List.set_cons_succ]))
    | ((with_reducible refine atDst 12 ?_); refine wpList_bld rfl 56 _ rfl rs HBR.out ?_; (try simp only [Act.put, List.setIfInBounds_toArray, List.set_cons_zero, List.set_cons_succ]))
    | ((with_reducible refine atDst 13 ?_); refine wpList_box rfl 56 _ rfl rs rfl (Below.refl w1.heap.size w1) (Nat.le_refl _) ?_; intro w2 hk hb hs _; have R2 := Lib.hid (show Rg w2 w1.heap.size S 0 0 by have h1 := hk; rw [HRS.out] at h1; exact h1); have K2 := Lib.hid (K1.out.below hb K1.out.lt); have B2 := Lib.hid (B1.out.trans (hb.mono B1.out.size)); clear hk hb hs; (try simp only [Act.put, List.setIfInBounds_toArray, List.set_cons_zero, List.set_cons_succ])))
  obtain ⟨g, hg⟩ : ∃ g, g = w1.heap.size := ⟨_, rfl⟩
  have HG := Lib.hid (show w.heap.size < g by rw [hg]; exact K1.out.lt)
  rw [← hg] at R2 ⊢
  clear hg
  refine (HALT.out w2 g l S 0 0 [] HS.out HL.out R2.out (by rw [List.drop_zero, List.append_nil]; exact HXT.out) (Nat.zero_le _) (.inl rfl) HD.out).mono ?_
  rintro e w3 ⟨ds, rfl, hv, hgr, hr⟩
  rw [Nat.zero_add, ← HXT.out] at hr
  have R3 := Lib.hid hr
  have K3 := Lib.hid (K2.out.grown hgr (fun he => by have h1 := Option.some.inj he; have h2 := HG.out; omega))
  have B3 := Lib.hid (B2.out.trans ((grown_belowG hgr R2.out.lt).mono (Nat.le_of_lt HG.out)))
  have V3 := Lib.hid (show RxD (fun k => w.heap.size < k ∧ k < w3.heap.size) w3 ds x from RxD.mono hv fun k hk => ⟨Nat.lt_of_lt_of_le K2.out.lt hk.1, hk.2⟩)
  have D6 := Lib.hid hv.length
  have D1 := Lib.hid (show ds.all (·.oneCell') = true from List.all_eq_true.2 (RxD.one hv))
  clear hv hgr hr
  go_wp2_with (first
    | ((with_reducible refine atDst 6 ?_); refine wpList_new rfl 27 rfl i0 _ z0 hi0 HZ0.out rfl (Below.refl w3.heap.size w3) (Nat.le_refl _) ?_; intro w4 hk hb hs ho; have L4 := Lib.hid hk; have B4 := Lib.hid hb; clear hk hb hs ho; (try simp only [Act.put, List.setIfInBounds_toArray, List.set_cons_zero, List.set_cons_succ]))
    | ((with_reducible refine atStore 27 6 15 ?_); refine wpList_stBlk rfl 27 _ _ rfl w3.heap.size ds rfl rfl 27 _ L4.out (size_rx D6.out) (by rw [HZL.out, D6.out]) D1.out B4.out (Nat.le_refl _) ?_; intro w5 hk hb hs ho; have L5 := Lib.hid hk; have R5 := Lib.hid (R3.out.below hb); have K5 := Lib.hid (K3.out.below hb K3.out.lt); have B5 := Lib.hid (B3.out.trans (hb.mono B3.out.size)); have V5 := Lib.hid (show RxD (fun k => w.heap.size < k ∧ k < w5.heap.size) w5 ds x from RxD.mono (V3.out.stay fun k hk => hb.block k hk.2) fun k hk => ⟨hk.1, Nat.lt_of_lt_of_le hk.2 hb.size⟩); clear hk hb hs ho; (try simp only [Act.put, List.setIfInBounds_toArray, List.set_cons_zero, List.set_cons_succ])))
  refine (over_no w5 g S l.length 0 R5.out).mono ?_
  rintro e w6 ⟨rfl, hb⟩
  have R6 := Lib.hid (R5.out.below hb)
  have K6 := Lib.hid (K5.out.below hb K5.out.lt)
  have L6 := Lib.hid (L5.out.below hb L5.out.lt)
  have B6 := Lib.hid (B5.out.trans (hb.mono B5.out.size))
  have V6 := Lib.hid (show RxD (fun k => w.heap.size < k ∧ k < w6.heap.size) w6 ds x from RxD.mono (V5.out.stay fun k hk => hb.block k hk.2) fun k hk => ⟨hk.1, Nat.lt_of_lt_of_le hk.2 hb.size⟩)
  clear hb
  have c1 := R6.out.c1
  have c3 := R6.out.c3
  have c4 := R6.out.c4
  have j2 : ¬ ((l.length : Int) < (S.size : Int)) := by have := HSZ.out; omega
  go_wp2_with (first
    | ((with_reducible refine atDst 49 ?_); refine wpList_ldArr rfl 27 _ rfl w3.heap.size rfl 27 _ _ L6.out Tryd.underlying27 rfl (size_rx D6.out) ?_; (try simp only [Act.put, List.setIfInBounds_toArray, List.set_cons_zero, List.set_cons_succ]))
    | ((with_reducible refine atStore 27 2 49 ?_); refine wpList_stBlk rfl 27 _ _ rfl w.heap.size ds rfl rfl 27 _ K6.out (size_rx D6.out) (by rw [HZL.out, D6.out]) D1.out B6.out (Nat.le_refl _) ?_; intro w7 hk hb hs ho; have K7 := Lib.hid hk; have B7 := Lib.hid hb; have V7 := Lib.hid (show RxV w7.heap.size w7 ds x from RxD.mono (V6.out.stay fun k hk => ho k (by have := hk.1; omega)) fun k hk => by have := hk.2; omega); clear hk hb hs ho; (try simp only [Act.put, List.setIfInBounds_toArray, List.set_cons_zero, List.set_cons_succ])))
  refine bodyPost_ret (results_blk3 rfl _ _ w.heap.size 27 _ _ _ _ rfl rfl rfl K7.out Tryd.underlying27 rfl (size_rx D6.out)) rfl ?_
  exact ⟨ds, rfl, V7.out, B7.out⟩
end Go.Proofs.YtmlojjgddmnbmaaDoor
namespace Go.Proofs.YtmlojjgddmnbmaaDoor
open Go.RowKit
set_option linter.unusedSimpArgs false
set_option linter.unusedVariables false

/-- Plain, nice, and of a depth. -/
def okD (d : Nat) (t : T) : Prop := good t ∧ niceT t = true ∧ t.depth ≤ d
theorem okD.mono {d e : Nat} {t : T} (h : okD d t) (hd : d ≤ e) : okD e t := ⟨h.1, h.2.1, by have := h.2.2; omega⟩
theorem okD.neat {d : Nat} {t : T} (h : okD d t) : neat t := ⟨h.1, h.2.1⟩
theorem okD.part {d : Nat} {t x : T} (h : okD d t) (hx : x ∈ t.args) : okD d x := by
  have h1 := neat_part h.neat hx
  have h2 := depth_args hx
  exact ⟨h1.1, h1.2, by have := h.2.2; omega⟩
theorem depthL_max {d : Nat} : ∀ {l : List T}, (∀ t ∈ l, t.depth ≤ d) → depthL l ≤ d
  | [], _ => by simp [depthL]
  | t :: r, h => by
    have h1 := h t (by simp)
    have h2 := depthL_max (l := r) fun x hx => h x (by simp [hx])
    simp only [depthL]
    omega
theorem ok_none {d : Nat} (h : 1 ≤ d) : okD d noneT := ⟨good_none, by simp [noneT, niceT, niceL], by simp [noneT, T.depth, depthL]; omega⟩
theorem ok_empty {d : Nat} (h : 1 ≤ d) : okD d emptyT := ⟨good_empty, by simp [emptyT, niceT, niceL], by simp [emptyT, T.depth, depthL]; omega⟩
theorem ok_bytes {d : Nat} {s : Nat → Bool} (h : canS s) (hd : 1 ≤ d) : okD d (bytesT s) := by
  refine ⟨good_bytes h, ?_, ?_⟩
  · unfold bytesT; split <;> simp [niceT, niceL, noneT]
  · unfold bytesT; split <;> simp [T.depth, depthL, noneT] <;> omega
theorem ok_flat {k : Int} {d : Nat} {l : List T} (h : ∀ t ∈ l, okD d t) : ∀ t ∈ flatT k l, okD d t := fun t ht => by
  unfold flatT at ht
  obtain ⟨u, hu, hu2⟩ := List.mem_flatMap.1 ht
  by_cases hk : u.kind = k
  · rw [if_pos hk] at hu2; exact (h u hu).part hu2
  · rw [if_neg hk] at hu2
    obtain rfl := List.mem_singleton.1 hu2
    exact h _ hu
theorem ok_wrap {k : Int} {d : Nat} {n : T} (hk : k ≠ 6) (hn : okD (d + 1) n) : ∀ l : List T, (∀ t ∈ l, okD d t) → good (wrapT k n l) → okD (d + 1) (wrapT k n l)
  | [], _, _ => hn
  | [t], h, _ => (h t (by simp)).mono (by omega)
  | a :: b :: r, h, hg => by
    refine ⟨hg, ?_, ?_⟩
    · show niceT (.node k zeroS (a :: b :: r)) = true
      rw [niceT, Bool.and_eq_true]
      exact ⟨by simp [hk], niceL_iff.2 fun t ht => (h t ht).2.1⟩
    · show (T.node k zeroS (a :: b :: r)).depth ≤ d + 1
      have := depthL_max (l := a :: b :: r) fun t ht => (h t ht).2.2
      rw [T.depth]
      omega
theorem ok_cat {d : Nat} (hd : 1 ≤ d) {l : List T} (h : ∀ t ∈ l, okD d t) : okD (d + 1) (catT l) := by
  have hg := good_cat fun t ht => (h t ht).1
  unfold catT at hg ⊢
  split
  · exact ok_none (by omega)
  · rename_i hx
    rw [if_neg hx] at hg
    exact ok_wrap (by omega) (ok_empty (by omega)) _ (fun t ht => ok_flat h t (List.mem_filter.1 ht).1) hg
theorem ok_items {d : Nat} (hd : 1 ≤ d) {E : List T} (h : ∀ t ∈ E, okD d t) : ∀ t ∈ itemsT E, okD d t := fun t ht => by
  have hg := good_items (fun t ht => (h t ht).1) t ht
  unfold itemsT at ht
  rcases List.mem_append.1 ht with ht | ht
  · exact h t (List.mem_filter.1 ht).1
  · split at ht
    · cases ht
    · obtain rfl := List.mem_singleton.1 ht
      exact ⟨hg, by simp [niceT, niceL], by simp [T.depth, depthL]; omega⟩
theorem ok_alt {d : Nat} (hd : 1 ≤ d) {l : List T} (h : ∀ t ∈ l, okD d t) : okD (d + 1) (altT l) := by
  have hg := good_alt fun t ht => (h t ht).1
  have h1 := ok_flat (k := 5) h
  have h2 : ∀ t ∈ withoutT 1 (flatT 5 l), okD d t := fun t ht => h1 t (List.mem_filter.1 ht).1
  have h3 := ok_items hd h2
  have h4 := sortU_mem fun t ht => (h3 t ht).1
  unfold altT at hg ⊢
  exact ok_wrap (by omega) (ok_none (by omega)) _ (fun t ht => h3 t ((h4 t).1 ht)) hg
/-- Alternatives of parts none of which is empty, or alternatives, hold no empty one. -/
theorem alt_noTwo {l : List T} (hg : ∀ t ∈ l, good t) (h5 : ∀ t ∈ l, t.kind ≠ 5) (h2 : ∀ t ∈ l, t.kind ≠ 2) : ¬ ((altT l).kind = 5 ∧ anyK 2 (altT l).args = true) := by
  have hf : flatT 5 l = l := by
    clear hg h2
    unfold flatT
    induction l with
    | nil => rfl
    | cons a r ih =>
      rw [List.flatMap_cons, ih fun t ht => h5 t (by simp [ht]), if_neg (h5 a (by simp))]
      rfl
  have hw : ∀ t ∈ withoutT 1 l, good t ∧ t.kind ≠ 5 ∧ t.kind ≠ 2 := fun t ht => by
    have hm := (List.mem_filter.1 ht).1
    exact ⟨hg t hm, h5 t hm, h2 t hm⟩
  have hi : ∀ t ∈ itemsT (withoutT 1 l), t.kind ≠ 5 ∧ t.kind ≠ 2 := fun t ht => by
    unfold itemsT at ht
    rcases List.mem_append.1 ht with ht | ht
    · exact (hw t (List.mem_filter.1 ht).1).2
    · split at ht
      · cases ht
      · obtain rfl := List.mem_singleton.1 ht
        exact ⟨by show (3 : Int) ≠ 5; omega, by show (3 : Int) ≠ 2; omega⟩
  have hs : ∀ t ∈ sortU (itemsT (withoutT 1 l)), t.kind ≠ 5 ∧ t.kind ≠ 2 := fun t ht => hi t ((sortU_mem (good_items fun t ht => (hw t ht).1) t).1 ht)
  unfold altT
  rw [hf]
  obtain ⟨m, hm⟩ : ∃ m, m = sortU (itemsT (withoutT 1 l)) := ⟨_, rfl⟩
  rw [← hm] at hs ⊢
  match m, hs with
  | [], _ => rintro ⟨h, _⟩; exact absurd (show (1 : Int) = 5 from h) (by omega)
  | [t], hs => rintro ⟨h, _⟩; exact (hs t (by simp)).1 h
  | a :: b :: r, hs =>
    rintro ⟨_, h⟩
    obtain ⟨t, ht, hk⟩ := List.any_eq_true.1 (show List.any (a :: b :: r) (fun t => decide (t.kind = 2)) = true from h)
    exact (hs t ht).2 (by simpa using hk)
theorem ok_star1 {d : Nat} (hd : 1 ≤ d) {r : T} (h : okD d r) (hn : ¬ (r.kind = 5 ∧ anyK 2 r.args = true)) : okD (d + 1) (star1T r) := by
  have hg := good_star1 h.1
  unfold star1T at hg ⊢
  split
  · exact h.mono (by omega)
  · rename_i h6
    rw [if_neg h6] at hg
    split
    · exact ok_empty (by omega)
    · rename_i h12
      rw [if_neg h12] at hg
      refine ⟨hg, ?_, ?_⟩
      · rw [niceT, Bool.and_eq_true, niceL, niceL, Bool.and_true]
        refine ⟨?_, h.2.1⟩
        rw [Bool.or_eq_true]
        refine .inr ?_
        simp only [List.any_cons, List.any_nil, Bool.or_false, Bool.not_eq_true', Bool.and_eq_false_iff, decide_eq_false_iff_not]
        by_cases h5 : r.kind = 5
        · exact .inr (by cases ha : anyK 2 r.args with
            | true => exact absurd ⟨h5, ha⟩ hn
            | false => rfl)
        · exact .inl h5
      · rw [T.depth]
        have := h.2.2
        simp only [depthL]
        omega
theorem ok_star {d : Nat} (hd : 1 ≤ d) {r : T} (h : okD d r) : okD (d + 2) (starT r) := by
  unfold starT
  split
  · rename_i h5
    have hp : ∀ t ∈ withoutT 2 r.args, okD d t ∧ t.kind ≠ 5 ∧ t.kind ≠ 2 := fun t ht => by
      have hm := (List.mem_filter.1 ht).1
      have hf := fit_part h.1 hm
      rw [h5.1] at hf
      exact ⟨h.part hm, (fits5 hf).2, without_kind t ht⟩
    exact ok_star1 (by omega) (ok_alt hd fun t ht => (hp t ht).1) (alt_noTwo (fun t ht => (hp t ht).1.1) (fun t ht => (hp t ht).2.1) fun t ht => (hp t ht).2.2)
  · rename_i hn
    exact (ok_star1 hd h hn).mono (by omega)
theorem rxP_ok (ps : List UInt8) : ∀ N deep n, okD (2 * N + 1) (rxP ps N deep n).1
  | 0, _, _ => ok_none (by omega)
  | N + 1, deep, n => by
    have h1 := rxP_ok ps N (deep + 1) (numN ps n)
    have h2 := rxP_ok ps N (deep + 1) (rxP ps N (deep + 1) (numN ps n)).2
    have h12 : ∀ t ∈ [(rxP ps N (deep + 1) (numN ps n)).1, (rxP ps N (deep + 1) (rxP ps N (deep + 1) (numN ps n)).2).1], okD (2 * N + 1) t := fun t ht => by
      simp only [List.mem_cons, List.not_mem_nil, or_false] at ht
      rcases ht with rfl | rfl
      · exact h1
      · exact h2
    simp only [rxP]
    split
    · split
      · exact ok_bytes (setP_can _ _) (by omega)
      · split
        · exact ok_none (by omega)
        · exact ok_empty (by omega)
    · split
      · exact (ok_cat (by omega) h12).mono (by omega)
      · split
        · exact (ok_alt (by omega) h12).mono (by omega)
        · exact (ok_star (by omega) h1).mono (by omega)
theorem madeT_ok (ps : List UInt8) : neat (madeT ps) ∧ (madeT ps).depth ≤ 21 := by
  have h := rxP_ok ps 10 0 0
  exact ⟨h.neat, h.2.2⟩
end Go.Proofs.YtmlojjgddmnbmaaDoor
namespace Go.Proofs.YtmlojjgddmnbmaaDoor
open Go.RowKit
set_option linter.unusedSimpArgs false
set_option linter.unusedVariables false

theorem ofNat_same {c d : Nat} (hc : c < 256) (hd : d < 256) (h : UInt8.ofNat c = UInt8.ofNat d) : c = d := by
  have := congrArg UInt8.toNat h
  rwa [ofNat_val hc, ofNat_val hd] at this
theorem hexB_inj : ∀ m n : Fin 16, hexB m.val = hexB n.val → m = n := by decide +kernel
theorem esc_not {c : Nat} (hc : c < 256) {b : UInt8} (hb : inB escs b.toNat = true) (h : inB escs c = false) : UInt8.ofNat c ≠ b := by
  rintro rfl
  rw [ofNat_val hc, h] at hb
  cases hb
theorem esc_is {c : Nat} (hc : c < 256) {b : UInt8} (hb : inB escs b.toNat = false) (h : inB escs c = true) : UInt8.ofNat c ≠ b := by
  rintro rfl
  rw [ofNat_val hc, h] at hb
  cases hb
theorem sign_inj {c d : Nat} (hc : c < 256) (hd : d < 256) {r q : List UInt8} (h : signB c ++ r = signB d ++ q) : c = d ∧ r = q := by
  unfold signB at h
  cases h1 : inB escs c with
  | true =>
    rw [h1, if_pos rfl] at h
    cases h2 : inB escs d with
    | true =>
      rw [h2, if_pos rfl] at h
      injection h with _ h
      injection h with h h'
      exact ⟨ofNat_same hc hd h, h'⟩
    | false =>
      rw [h2, if_neg (show ¬ (false = true) by simp)] at h
      split at h
      · injection h with h _
        exact absurd h.symm (esc_not hd (by decide) h2)
      · injection h with _ h
        injection h with h _
        exact absurd h (esc_is hc (by decide) h1)
  | false =>
    rw [h1, if_neg (show ¬ (false = true) by simp)] at h
    cases h2 : inB escs d with
    | true =>
      rw [h2, if_pos rfl] at h
      split at h
      · injection h with h _
        exact absurd h (esc_not hc (by decide) h1)
      · injection h with _ h
        injection h with h _
        exact absurd h.symm (esc_is hd (by decide) h2)
    | false =>
      rw [h2, if_neg (show ¬ (false = true) by simp)] at h
      by_cases p1 : 32 ≤ c ∧ c ≤ 126
      · rw [if_pos p1] at h
        by_cases p2 : 32 ≤ d ∧ d ≤ 126
        · rw [if_pos p2] at h
          injection h with h h'
          exact ⟨ofNat_same hc hd h, h'⟩
        · rw [if_neg p2] at h
          injection h with h _
          exact absurd h (esc_not hc (by decide) h1)
      · rw [if_neg p1] at h
        by_cases p2 : 32 ≤ d ∧ d ≤ 126
        · rw [if_pos p2] at h
          injection h with h _
          exact absurd h.symm (esc_not hd (by decide) h2)
        · rw [if_neg p2] at h
          injection h with _ h
          injection h with _ h
          injection h with h3 h
          injection h with h4 h
          have e1 := hexB_inj ⟨c / 16, by omega⟩ ⟨d / 16, by omega⟩ h3
          have e2 := hexB_inj ⟨c % 16, by omega⟩ ⟨d % 16, by omega⟩ h4
          have e1 : c / 16 = d / 16 := congrArg Fin.val e1
          have e2 : c % 16 = d % 16 := congrArg Fin.val e2
          exact ⟨by omega, h⟩
/-- A sign begins with no sign that means something. -/
theorem sign_no {c : Nat} (hc : c < 256) {b : UInt8} (hb : inB escs b.toNat = true) (h92 : b.toNat ≠ 92) {r q : List UInt8} (h : signB c ++ r = b :: q) : False := by
  obtain ⟨b', r', h1, h2⟩ := sign_head hc
  rw [h1] at h
  injection h with h _
  rw [← h] at hb h92
  rcases h2 with h2 | ⟨h2, h3⟩
  · exact h92 h2
  · rw [h2, h3] at hb
    cases hb
def tlI (p : Nat × Nat) : List UInt8 := if p.1 = p.2 then [] else 45 :: signB p.2
theorem iT_cons (p : Nat × Nat) (r : List (Nat × Nat)) : iT (p :: r) = signB p.1 ++ (tlI p ++ iT r) := by
  simp only [iT]
  unfold tlI
  split <;> simp
theorem okI_tail {p : Nat × Nat} {r : List (Nat × Nat)} (h : okI (p :: r)) : okI r := fun q hq => h q (by simp [hq])
theorem iT_no45 : ∀ {l : List (Nat × Nat)}, okI l → ∀ {r q : List UInt8}, iT l ++ 93 :: r = 45 :: q → False
  | [], _, r, q, h => by
    have h : (93 : UInt8) :: r = 45 :: q := h
    injection h with h _
    exact absurd h (by decide)
  | p :: l, hl, r, q, h => by
    have hp := hl p (by simp)
    rw [iT_cons, List.append_assoc] at h
    exact sign_no (by omega) (by decide) (by decide) h
theorem items_inj : ∀ {l m : List (Nat × Nat)}, okI l → okI m → ∀ {r q : List UInt8}, iT l ++ 93 :: r = iT m ++ 93 :: q → l = m ∧ r = q
  | [], [], _, _, r, q, h => by
    have h : (93 : UInt8) :: r = 93 :: q := h
    injection h with _ h
    exact ⟨rfl, h⟩
  | [], p :: m, _, hm, r, q, h => by
    have hp := hm p (by simp)
    rw [iT_cons, List.append_assoc] at h
    exact (sign_no (by omega) (b := 93) (by decide) (by decide) h.symm).elim
  | p :: l, [], hl, _, r, q, h => by
    have hp := hl p (by simp)
    rw [iT_cons, List.append_assoc] at h
    exact (sign_no (by omega) (b := 93) (by decide) (by decide) h).elim
  | (a, b) :: l, (c, d) :: m, hl, hm, r, q, h => by
    have hp : a ≤ b ∧ b < 256 := hl (a, b) (by simp)
    have hq : c ≤ d ∧ d < 256 := hm (c, d) (by simp)
    rw [iT_cons, iT_cons, List.append_assoc, List.append_assoc, List.append_assoc, List.append_assoc] at h
    obtain ⟨e1, h⟩ := sign_inj (c := a) (d := c) (by omega) (by omega) h
    subst e1
    unfold tlI at h
    by_cases e1 : a = b
    · by_cases e2 : a = d
      · rw [if_pos e1, if_pos e2] at h
        obtain ⟨h1, h2⟩ := items_inj (okI_tail hl) (okI_tail hm) h
        exact ⟨by rw [h1, ← e1, ← e2], h2⟩
      · rw [if_pos e1, if_neg e2] at h
        exact (iT_no45 (okI_tail hl) h).elim
    · by_cases e2 : a = d
      · rw [if_neg e1, if_pos e2] at h
        exact (iT_no45 (okI_tail hm) h.symm).elim
      · rw [if_neg e1, if_neg e2] at h
        injection h with _ h
        obtain ⟨e3, h⟩ := sign_inj hp.2 hq.2 h
        have e3 : b = d := e3
        obtain ⟨h1, h2⟩ := items_inj (okI_tail hl) (okI_tail hm) h
        exact ⟨by rw [h1, e3], h2⟩
/-- The three forms of a set's text. -/
theorem set_form (s : Nat → Bool) : (textT (bytesT s) = [46] ∧ memN s = List.range 256) ∨ (∃ c, c < 256 ∧ memN s = [c] ∧ textT (bytesT s) = signB c) ∨ ∃ its, okI its ∧ (∀ x, cov its x ↔ x ∈ memN s) ∧ textT (bytesT s) = 91 :: (iT its ++ [93]) := by
  cases hs : eqS s zeroS with
  | true =>
    have e : bytesT s = noneT := by unfold bytesT; rw [hs]; rfl
    have hm : memN s = [] := by
      rw [← memN_zero]
      unfold memN
      refine List.filter_congr fun b hb => ?_
      exact (eqS_iff _ _).1 hs b (List.mem_range.1 hb)
    rw [e, hm]
    exact .inr (.inr ⟨[], fun p hp => (by cases hp), fun x => by simp [cov], rfl⟩)
  | false =>
    rw [bytes_node hs]
    have e : textT (.node 3 s []) = setB s := by simp [textT]
    rw [e]
    rcases set_cases s (setN_ne hs) with ⟨h1, h2⟩ | ⟨c, hc, h2, h1⟩ | h1
    · exact .inl ⟨h1, List.filter_sublist.eq_of_length (by rw [List.length_range]; exact h2)⟩
    · exact .inr (.inl ⟨c, hc, h2, h1⟩)
    · obtain ⟨its, i1, i2, i3⟩ := set_items s
      exact .inr (.inr ⟨its, i2, i3, by rw [h1, i1]⟩)
theorem set_inj {s p : Nat → Bool} {r q : List UInt8} (h : textT (bytesT s) ++ r = textT (bytesT p) ++ q) : (∀ x, x ∈ memN s ↔ x ∈ memN p) ∧ r = q := by
  rcases set_form s with ⟨h1, h2⟩ | ⟨c, hc, h2, h1⟩ | ⟨its, hi, h2, h1⟩ <;> rcases set_form p with ⟨g1, g2⟩ | ⟨d, hd, g2, g1⟩ | ⟨jts, hj, g2, g1⟩ <;> rw [h1, g1] at h
  · injection h with _ h
    exact ⟨fun x => by rw [h2, g2], h⟩
  · exact (sign_no hd (b := 46) (by decide) (by decide) h.symm).elim
  · injection h with h _
    exact absurd h (by decide)
  · exact (sign_no hc (b := 46) (by decide) (by decide) h).elim
  · obtain ⟨e1, e2⟩ := sign_inj hc hd h
    exact ⟨fun x => by rw [h2, g2, e1], e2⟩
  · exact (sign_no hc (b := 91) (by decide) (by decide) h).elim
  · injection h with h _
    exact absurd h (by decide)
  · exact (sign_no hd (b := 91) (by decide) (by decide) h.symm).elim
  · injection h with _ h
    have h : (iT its ++ [93]) ++ r = (iT jts ++ [93]) ++ q := h
    rw [List.append_assoc, List.append_assoc] at h
    obtain ⟨e1, e2⟩ := items_inj hi hj (r := r) (q := q) h
    exact ⟨fun x => by rw [← h2 x, ← g2 x, e1], e2⟩
theorem set_same {s p : Nat → Bool} (hs : canS s) (hp : canS p) (h : ∀ x, x ∈ memN s ↔ x ∈ memN p) : s = p := by
  funext b
  by_cases hb : b < 256
  · have h1 := h b
    rw [memN_mem, memN_mem] at h1
    cases e1 : s b <;> cases e2 : p b <;> simp_all
  · rw [hs b (by omega), hp b (by omega)]
/-- No bracket begins a set's text. -/
theorem set_no40 (s : Nat → Bool) {r q : List UInt8} (h : textT (bytesT s) ++ r = 40 :: q) : False := by
  rcases set_form s with ⟨h1, _⟩ | ⟨c, hc, _, h1⟩ | ⟨its, _, _, h1⟩ <;> rw [h1] at h
  · injection h with h _
    exact absurd h (by decide)
  · exact sign_no hc (b := 40) (by decide) (by decide) h
  · injection h with h _
    exact absurd h (by decide)
/-- What stands for bytes alone. -/
theorem leaf_set {z : T} (h : good z) (hk : z.kind = 1 ∨ z.kind = 3) : z = bytesT z.set ∧ canS z.set ∧ atomT z = textT (bytesT z.set) := by
  have h1 : z = bytesT z.set ∧ canS z.set := by
    rcases hk with hk | hk
    · have e := leaf_eq h (.inl hk)
      rw [hk] at e
      have e2 : z.set = zeroS := by rw [e]; rfl
      rw [e2, bytes_zero]
      exact ⟨e, can_zero⟩
    · obtain ⟨e1, e2⟩ := good_three h hk
      refine ⟨?_, ?_⟩
      · rw [bytes_node e2]; exact e1
      · cases z with
        | node k s l => exact (good_node.1 h).1
  refine ⟨h1.1, h1.2, ?_⟩
  unfold atomT
  rw [if_neg (by omega), ← h1.1]
theorem par_text {z : T} (h : good z) (hk : z.kind = 2 ∨ z.kind = 4 ∨ z.kind = 5) : atomT z = 40 :: (joinA true (altsP z) ++ [41]) := by
  unfold atomT altsP
  by_cases h2 : z.kind = 2
  · rw [if_neg (by omega), if_pos h2, leaf_eq h (.inr h2), h2]
    rfl
  · rw [if_pos (by omega), if_neg h2, text_join h]
/-! ### from parts to the whole -/
def RepU (y : T) : Prop := ∀ (y' : T), neat y' → y'.kind ≠ 4 → ∀ r r', quiet r → quiet r' → repT y ++ r = repT y' ++ r' → y = y' ∧ r = r'
def endR (r : List UInt8) : Prop := ∀ (b : UInt8) (q : List UInt8), r = b :: q → b.toNat = 41 ∨ b.toNat = 124
theorem endR.quiet {r : List UInt8} (h : endR r) : quiet r := fun b q he => by
  have := h b q he
  omega
def finR (r : List UInt8) : Prop := r = [] ∨ ∃ q, r = 41 :: q
theorem fin_join {A : List (List T)} {r : List UInt8} (h : finR r) : endR (joinA false A ++ r) := by
  by_cases hA : A = []
  · rw [hA]
    rcases h with rfl | ⟨q, rfl⟩
    · rintro b q he; cases he
    · rintro b q' he
      have he : (41 : UInt8) :: q = b :: q' := he
      injection he with he
      rw [← he]
      decide
  · rw [joinA_bar hA]
    rintro b q he
    have he : (124 : UInt8) :: (joinA true A ++ r) = b :: q := he
    injection he with he
    rw [← he]
    decide
theorem rep_noEnd {y : T} (h : good y) (h4 : y.kind ≠ 4) {r q : List UInt8} (hq : endR q) (he : repT y ++ r = q) : False := by
  obtain ⟨b, t, h1, h2⟩ := rep_head h h4
  rw [h1] at he
  have := hq b (t ++ r) he.symm
  rcases this with h3 | h3
  · exact h2.2.1 h3
  · exact h2.1 h3
theorem cat_inj : ∀ (ys ys' : List T), (∀ y ∈ ys, RepU y ∧ good y ∧ y.kind ≠ 4) → (∀ y ∈ ys', neat y ∧ y.kind ≠ 4) → ∀ r r', endR r → endR r' → catL ys ++ r = catL ys' ++ r' → ys = ys' ∧ r = r'
  | [], [], _, _, r, r', _, _, h => ⟨rfl, h⟩
  | [], y' :: t', _, h', r, r', hr, _, h => by
    rw [catL_cons, List.append_assoc] at h
    exact (rep_noEnd (h' y' (by simp)).1.1 (h' y' (by simp)).2 hr h.symm).elim
  | y :: t, [], h1, _, r, r', _, hr, h => by
    rw [catL_cons, List.append_assoc] at h
    exact (rep_noEnd (h1 y (by simp)).2.1 (h1 y (by simp)).2.2 hr h).elim
  | y :: t, y' :: t', h1, h2, r, r', hr, hr', h => by
    rw [catL_cons, catL_cons, List.append_assoc, List.append_assoc] at h
    have q1 : quiet (catL t ++ r) := quiet_cat (fun x hx => (h1 x (by simp [hx])).2) hr.quiet
    have q2 : quiet (catL t' ++ r') := quiet_cat (fun x hx => ⟨(h2 x (by simp [hx])).1.1, (h2 x (by simp [hx])).2⟩) hr'.quiet
    obtain ⟨e1, h⟩ := (h1 y (by simp)).1 y' (h2 y' (by simp)).1 (h2 y' (by simp)).2 _ _ q1 q2 h
    obtain ⟨e2, h⟩ := cat_inj t t' (fun x hx => h1 x (by simp [hx])) (fun x hx => h2 x (by simp [hx])) r r' hr hr' h
    exact ⟨by rw [e1, e2], h⟩
theorem joinF_inj : ∀ (A A' : List (List T)), (∀ a ∈ A, ∀ y ∈ a, RepU y ∧ good y ∧ y.kind ≠ 4) → (∀ a ∈ A', ∀ y ∈ a, neat y ∧ y.kind ≠ 4) → ∀ r r', finR r → finR r' → joinA false A ++ r = joinA false A' ++ r' → A = A' ∧ r = r'
  | [], [], _, _, r, r', _, _, h => ⟨rfl, h⟩
  | [], a :: t, _, _, r, r', hr, _, h => by
    have h : r = 124 :: ((catL a ++ joinA false t) ++ r') := by simpa [joinA] using h
    rcases hr with rfl | ⟨q, rfl⟩
    · cases h
    · injection h with h _
      exact absurd h (by decide)
  | a :: t, [], _, _, r, r', _, hr, h => by
    have h : 124 :: ((catL a ++ joinA false t) ++ r) = r' := by simpa [joinA] using h
    rcases hr with rfl | ⟨q, rfl⟩
    · cases h
    · injection h with h _
      exact absurd h (by decide)
  | a :: t, a' :: t', h1, h2, r, r', hr, hr', h => by
    have h : 124 :: (catL a ++ (joinA false t ++ r)) = 124 :: (catL a' ++ (joinA false t' ++ r')) := by simpa [joinA] using h
    injection h with _ h
    obtain ⟨e1, h⟩ := cat_inj a a' (fun y hy => h1 a (by simp) y hy) (fun y hy => h2 a' (by simp) y hy) _ _ (fin_join hr) (fin_join hr') h
    obtain ⟨e2, h⟩ := joinF_inj t t' (fun x hx => h1 x (by simp [hx])) (fun x hx => h2 x (by simp [hx])) r r' hr hr' h
    exact ⟨by rw [e1, e2], h⟩
theorem joinT_inj (A A' : List (List T)) (hA : A ≠ []) (hA' : A' ≠ []) (h1 : ∀ a ∈ A, ∀ y ∈ a, RepU y ∧ good y ∧ y.kind ≠ 4) (h2 : ∀ a ∈ A', ∀ y ∈ a, neat y ∧ y.kind ≠ 4) (r r' : List UInt8) (hr : finR r) (hr' : finR r') (h : joinA true A ++ r = joinA true A' ++ r') : A = A' ∧ r = r' := by
  refine joinF_inj A A' h1 h2 r r' hr hr' ?_
  rw [joinA_bar hA, joinA_bar hA', List.cons_append, List.cons_append, h]
theorem altsP_ne {z : T} (h : good z) : altsP z ≠ [] := by
  unfold altsP
  split
  · simp
  · exact altsX_ne h
theorem altsP_part {z p : T} (h : neat z) (hk : z.kind = 2 ∨ z.kind = 4 ∨ z.kind = 5) {a : List T} (ha : a ∈ altsP z) (hp : p ∈ a) : neat p ∧ p.kind ≠ 4 ∧ p.nodes < z.nodes := by
  unfold altsP at ha
  by_cases h2 : z.kind = 2
  · rw [if_pos h2] at ha
    obtain rfl := List.mem_singleton.1 ha
    cases hp
  · rw [if_neg h2] at ha
    have := altsX_part h ha hp
    exact ⟨this.1, this.2.1, (this.2.2.2.2 (by omega)).1⟩
theorem atom_inj {z z' : T} (h : neat z) (h' : neat z') (h6 : z.kind ≠ 6) (h6' : z'.kind ≠ 6) (ih : ∀ y, neat y → y.kind ≠ 4 → y.nodes < z.nodes → RepU y) {r r' : List UInt8} (he : atomT z ++ r = atomT z' ++ r') : z = z' ∧ r = r' := by
  have k := good_kind h.1
  have k' := good_kind h'.1
  by_cases c : z.kind = 1 ∨ z.kind = 3
  · obtain ⟨e1, e2, e3⟩ := leaf_set h.1 c
    by_cases c' : z'.kind = 1 ∨ z'.kind = 3
    · obtain ⟨f1, f2, f3⟩ := leaf_set h'.1 c'
      rw [e3, f3] at he
      obtain ⟨g1, g2⟩ := set_inj he
      exact ⟨by rw [e1, f1, set_same e2 f2 g1], g2⟩
    · rw [e3, par_text h'.1 (by omega)] at he
      exact (set_no40 _ he).elim
  · have d : z.kind = 2 ∨ z.kind = 4 ∨ z.kind = 5 := by omega
    by_cases c' : z'.kind = 1 ∨ z'.kind = 3
    · obtain ⟨f1, f2, f3⟩ := leaf_set h'.1 c'
      rw [f3, par_text h.1 d] at he
      exact (set_no40 _ he.symm).elim
    · have d' : z'.kind = 2 ∨ z'.kind = 4 ∨ z'.kind = 5 := by omega
      rw [par_text h.1 d, par_text h'.1 d'] at he
      injection he with _ he
      have he : (joinA true (altsP z) ++ [41]) ++ r = (joinA true (altsP z') ++ [41]) ++ r' := he
      rw [List.append_assoc, List.append_assoc] at he
      obtain ⟨e1, e2⟩ := joinT_inj (altsP z) (altsP z') (altsP_ne h.1) (altsP_ne h'.1) (fun a ha y hy => by
          have := altsP_part h d ha hy
          exact ⟨ih y this.1 this.2.1 this.2.2, this.1.1, this.2.1⟩) (fun a ha y hy => by
          have := altsP_part h' d' ha hy
          exact ⟨this.1, this.2.1⟩) _ _ (.inr ⟨r, rfl⟩) (.inr ⟨r', rfl⟩) he
      refine ⟨by rw [← altsP_tree h.1, ← altsP_tree h'.1, e1], ?_⟩
      have e2 : (41 : UInt8) :: r = 41 :: r' := e2
      injection e2
/-- A part that may be repeated is an atom, or an atom with a star. -/
theorem rep_form {y : T} (h : neat y) (h4 : y.kind ≠ 4) : ∃ z tl, neat z ∧ z.kind ≠ 6 ∧ z.nodes ≤ y.nodes ∧ repT y = atomT z ++ tl ∧ (tl = [42] ∧ y = .node 6 zeroS [z] ∨ tl = [] ∧ y = z) := by
  by_cases h6 : y.kind = 6
  · cases y with
    | node k s l =>
      have hk : k = 6 := h6
      subst hk
      obtain ⟨x, rfl, rfl⟩ := star_one h.1
      have hx : x ∈ T.args (.node 6 zeroS [x]) := by simp [T.args]
      refine ⟨x, [42], neat_part h hx, (fits6 (fit_part h.1 hx)).2.2, Nat.le_of_lt (nodes_args hx), ?_, .inl ⟨rfl, rfl⟩⟩
      unfold repT
      rw [if_neg (show ¬ (T.node 6 zeroS [x]).kind = 5 by show ¬ (6 : Int) = 5; omega), star_text]
  · refine ⟨y, [], h, h6, Nat.le_refl _, ?_, .inr ⟨rfl, rfl⟩⟩
    unfold repT atomT
    by_cases h5 : y.kind = 5
    · rw [if_pos h5, if_pos (.inr h5)]; simp
    · rw [if_neg h5, if_neg (by omega)]; simp
theorem rep_inj : ∀ (N : Nat) (y : T), y.nodes ≤ N → neat y → y.kind ≠ 4 → RepU y := by
  intro N
  induction N with
  | zero => intro y h; have := nodes_pos y; omega
  | succ N ih =>
    intro y hN hy h4 y' hy' h4' r r' hr hr' he
    obtain ⟨z, tl, z1, z2, z3, z4, z5⟩ := rep_form hy h4
    obtain ⟨z', tl', y1, y2, y3, y4, y5⟩ := rep_form hy' h4'
    rw [z4, y4, List.append_assoc, List.append_assoc] at he
    obtain ⟨e1, e2⟩ := atom_inj z1 y1 z2 y2 (fun x hx hx4 hxn => ih x (by omega) hx hx4) he
    subst e1
    rcases z5 with ⟨rfl, z5⟩ | ⟨rfl, z5⟩ <;> rcases y5 with ⟨rfl, y5⟩ | ⟨rfl, y5⟩
    · injection e2 with _ e2
      exact ⟨by rw [z5, y5], e2⟩
    · exact absurd (show (42 : UInt8).toNat = 42 from rfl) (hr' 42 r e2.symm).1
    · exact absurd (show (42 : UInt8).toNat = 42 from rfl) (hr 42 r' e2).1
    · exact ⟨by rw [z5, y5], e2⟩
/-- One text, one expression. -/
theorem text_inj {x y : T} (hx : neat x) (hy : neat y) (h : textT x = textT y) : x = y := by
  rw [text_join hx.1, text_join hy.1] at h
  obtain ⟨e, _⟩ := joinT_inj (altsX x) (altsX y) (altsX_ne hx.1) (altsX_ne hy.1) (fun a ha p hp => by
      have := altsX_part hx ha hp
      exact ⟨rep_inj p.nodes p (Nat.le_refl _) this.1 this.2.1, this.1.1, this.2.1⟩) (fun a ha p hp => by
      have := altsX_part hy ha hp
      exact ⟨this.1, this.2.1⟩) [] [] (.inl rfl) (.inl rfl) (by rw [h])
  rw [← altsX_tree hx.1, ← altsX_tree hy.1, e]
end Go.Proofs.YtmlojjgddmnbmaaDoor
