/-
  Plain words on byte lists and on rows of cells, for all texts of this seat. No statement is proved here. No conditions.
-/
import Derived.WalkKit
import Derived.Lib.Hide
import Derived.Laws.CopyOwn
import Derived.Deep.Draws
import Derived.Laws.AppendOwnNone
namespace Go.Proofs.YtaobeconjdeenaaDoor
open Go.RowKit

/-! ### bytes as values -/

/-- The value of a byte. -/
abbrev bv (c : UInt8) : Value := .int .u8 (c.toNat : Int)
/-- The cells of a list of bytes. -/
def bvs (l : List UInt8) : List Value := l.map bv
theorem bvs_length (l : List UInt8) : (bvs l).length = l.length := by simp [bvs]
theorem bvs_append (l m : List UInt8) : bvs (l ++ m) = bvs l ++ bvs m := by simp [bvs]
theorem bvs_one (l : List UInt8) : ∀ u ∈ bvs l, u.oneCell' = true := by
  intro u hu
  obtain ⟨c, _, rfl⟩ := List.mem_map.1 hu
  rfl
theorem bvs_get (l : List UInt8) (i : Nat) (c : UInt8) (h : l[i]? = some c) : (bvs l)[i]? = some (bv c) := by simp [bvs, h]
theorem bvs_inj {l m : List UInt8} (h : bvs l = bvs m) : l = m := by
  induction l generalizing m with
  | nil => cases m with
    | nil => rfl
    | cons b r => simp [bvs] at h
  | cons a r ih => cases m with
    | nil => simp [bvs] at h
    | cons b s =>
      simp only [bvs, List.map_cons, List.cons.injEq] at h
      have h1 : a = b := by
        have := h.1
        simp only [bv, Value.int.injEq, true_and] at this
        exact UInt8.toNat_inj.1 (by omega)
      rw [h1, ih h.2]

/-- The n lowest bytes of v, the lowest one first. -/
def le : Nat → Nat → List UInt8
  | _, 0 => []
  | v, n + 1 => UInt8.ofNat (v % 256) :: le (v / 256) n
theorem le_length (v n : Nat) : (le v n).length = n := by
  induction n generalizing v with
  | zero => rfl
  | succ n ih => simp [le, ih]
/-- The number that a list of bytes is, the lowest one first. -/
def num : List UInt8 → Nat
  | [] => 0
  | c :: r => c.toNat + 256 * num r
theorem num_lt (l : List UInt8) : num l < 256 ^ l.length := by
  induction l with
  | nil => simp [num]
  | cons c r ih =>
    have := c.toNat_lt
    simp only [num, List.length_cons, Nat.pow_succ]
    omega
theorem num_le (v n : Nat) : num (le v n) = v % 256 ^ n := by
  induction n generalizing v with
  | zero => simp [le, num, Nat.mod_one]
  | succ n ih =>
    have h : (UInt8.ofNat (v % 256)).toNat = v % 256 := by simp
    rw [le, num, ih, h, Nat.pow_succ, Nat.mul_comm (256 ^ n) 256, Nat.mod_mul]
theorem le_num (l : List UInt8) : le (num l) l.length = l := by
  induction l with
  | nil => rfl
  | cons c r ih =>
    have hc := c.toNat_lt
    have h1 : (num (c :: r)) % 256 = c.toNat := by simp only [num]; omega
    have h2 : (num (c :: r)) / 256 = num r := by simp only [num]; omega
    simp only [List.length_cons, le, h1, h2, ih]
    simp

/-! ### rows of cells -/

/-- A slice value v that can be read as the list xs (elements of one cell). -/
def Row (w : World) (v : Value) (xs : List Value) : Prop :=
  ∃ A cap, v = .slice A xs.length cap ∧ xs.length ≤ cap ∧ cap ≤ maxLen ∧ (A = none → cap = 0) ∧
    (xs ≠ [] → ∃ b off, A = some ⟨b, off, none⟩ ∧ b < w.heap.size ∧ ∀ i u, xs[i]? = some u → w.cell? ⟨b, off + i, none⟩ = some u)

theorem Row.nil (w : World) : Row w (.slice none 0 0) [] := ⟨none, 0, rfl, Nat.le_refl _, Nat.zero_le _, fun _ => rfl, fun h => absurd rfl h⟩
theorem Row.keep {w w' : World} {v : Value} {xs : List Value} (h : Row w v xs) (hs : w.heap.size ≤ w'.heap.size) (hk : ∀ p : Addr, p.block < w.heap.size → w'.cell? p = w.cell? p) : Row w' v xs := by
  obtain ⟨A, cap, hv, h1, h2, h0, h3⟩ := h
  refine ⟨A, cap, hv, h1, h2, h0, fun hne => ?_⟩
  obtain ⟨b, off, hA, hb, hc⟩ := h3 hne
  exact ⟨b, off, hA, by omega, fun i u hu => (hk ⟨b, off + i, none⟩ hb).trans (hc i u hu)⟩
theorem Row.below {w w' : World} {v : Value} {xs : List Value} (h : Row w v xs) (hb : Below w.heap.size w w') : Row w' v xs :=
  h.keep hb.size fun _ hp => hb.cell hp
theorem Row.drew {w : World} {v : Value} {xs : List Value} (h : Row w v xs) : Row w.drew v xs := h
theorem Row.drewN {w : World} {v : Value} {xs : List Value} (h : Row w v xs) (n : Nat) : Row (w.drewN n) v xs := h
/-- A row whose cells all lie in blocks below B stands while what lies below B stands. -/
def RowB (B : Nat) (w : World) (v : Value) (xs : List Value) : Prop :=
  ∃ A cap, v = .slice A xs.length cap ∧ xs.length ≤ cap ∧ cap ≤ maxLen ∧ (A = none → cap = 0) ∧
    (xs ≠ [] → ∃ b off, A = some ⟨b, off, none⟩ ∧ b < B ∧ b < w.heap.size ∧ ∀ i u, xs[i]? = some u → w.cell? ⟨b, off + i, none⟩ = some u)
theorem Row.toB {w : World} {v : Value} {xs : List Value} (h : Row w v xs) : RowB w.heap.size w v xs := by
  obtain ⟨A, cap, hv, h1, h2, h0, h3⟩ := h
  refine ⟨A, cap, hv, h1, h2, h0, fun hne => ?_⟩
  obtain ⟨b, off, hA, hb, hc⟩ := h3 hne
  exact ⟨b, off, hA, hb, hb, hc⟩
theorem RowB.row {B : Nat} {w : World} {v : Value} {xs : List Value} (h : RowB B w v xs) : Row w v xs := by
  obtain ⟨A, cap, hv, h1, h2, h0, h3⟩ := h
  refine ⟨A, cap, hv, h1, h2, h0, fun hne => ?_⟩
  obtain ⟨b, off, hA, _, hb, hc⟩ := h3 hne
  exact ⟨b, off, hA, hb, hc⟩
theorem RowB.below {B : Nat} {w w' : World} {v : Value} {xs : List Value} (h : RowB B w v xs) (hb : Below B w w') : RowB B w' v xs := by
  obtain ⟨A, cap, hv, h1, h2, h0, h3⟩ := h
  refine ⟨A, cap, hv, h1, h2, h0, fun hne => ?_⟩
  obtain ⟨b, off, hA, hbB, hbw, hc⟩ := h3 hne
  exact ⟨b, off, hA, hbB, by have := hb.size; omega, fun i u hu => (hb.cell (p := ⟨b, off + i, none⟩) hbB).trans (hc i u hu)⟩

/-- What the call owns reads as a row. -/
theorem Row.of_own {w : World} {base : Nat} {e : TypeId} {v : Value} {n : Nat} {xs : List Value} (h : w.ownsRow base e 1 v n xs) : Row w v xs := by
  have hl : xs.length = n := by simpa using h.1
  rcases h.2 with ⟨rfl, hn⟩ | ⟨g, cap, cur, rfl, hb, hg, hnc, hcm, hcs, htake⟩
  · obtain rfl : xs = [] := List.eq_nil_of_length_eq_zero (by omega)
    exact Row.nil w
  · refine ⟨some ⟨g, 0, none⟩, cap, by rw [hl], by omega, hcm, (fun h => by cases h), fun _ => ⟨g, 0, rfl, (Array.getElem?_eq_some_iff.1 hg).1, fun i u hu => ?_⟩⟩
    have := h.cells (g := g) rfl i u hu
    rwa [Addr.add_lit] at this

/-- A block that is known whole, none of it frozen. -/
def Blk (w : World) (g : Nat) (t : TypeId) (cs : List Value) : Prop := w.heap[g]? = some (.cells cs.toArray t (0, 0))
section
variable {w w' : World} {g : Nat} {t : TypeId} {cs : List Value}
theorem Blk.lt (h : Blk w g t cs) : g < w.heap.size := (Array.getElem?_eq_some_iff.1 h).1
theorem Blk.cell (h : Blk w g t cs) (i : Nat) : w.cell? ⟨g, i, none⟩ = cs[i]? := by
  rw [cell_of_row w g i cs.toArray t (0, 0) h]; simp
theorem Blk.frozen (h : Blk w g t cs) (i : Nat) : w.frozen? ⟨g, i, none⟩ = false := by
  unfold Blk at h
  simp [World.frozen?, h]
theorem Blk.new (w : World) (t : TypeId) (cs : List Value) : Blk (w.alloc (.cells cs.toArray t)) w.heap.size t cs := heap_alloc_new w _
theorem Blk.drew (h : Blk w g t cs) : Blk w.drew g t cs := h
theorem Blk.alloc (h : Blk w g t cs) (o : Obj) : Blk (w.alloc o) g t cs := (Below.heap_alloc w o g h.lt).trans h
theorem Blk.set (h : Blk w g t cs) (i : Nat) (u : Value) : Blk (w.setCell ⟨g, i, none⟩ u) g t (cs.set i u) := by
  unfold Blk at h ⊢
  simp [World.setCell, Array.getElem?_modify, h]
theorem Blk.far (h : Blk w g t cs) {p : Addr} (hp : g ≠ p.block) (u : Value) : Blk (w.setCell p u) g t cs := (Below.heap_setCell w p u g hp).trans h
theorem Blk.below {B : Nat} (h : Blk w g t cs) (hb : Below B w w') (hg : g < B) : Blk w' g t cs := (hb.block g hg).trans h
theorem Blk.grown {row : Option Nat} (h : Blk w g t cs) (hb : w.grownBy w' row) (hg : some g ≠ row) : Blk w' g t cs := (hb.block g h.lt hg).trans h
theorem Blk.own {base : Nat} (h : Blk w g t cs) (hb : base ≤ g) (hm : cs.length ≤ maxLen) : w.ownsRow base t 1 (.slice (some ⟨g, 0, none⟩) cs.length cs.length) cs.length cs :=
  ⟨by simp, .inr ⟨g, cs.length, cs.toArray, rfl, hb, h, Nat.le_refl _, hm, by simp, by simp⟩⟩
end

/-- The world behind stores of the bytes l from ⟨g, off⟩ on, the last one first. -/
def wr (w : World) (g : Nat) : Nat → List Value → World
  | _, [] => w
  | off, c :: r => (wr w g (off + 1) r).setCell ⟨g, off, none⟩ c
theorem wr_blk {w : World} {g : Nat} {t : TypeId} {cs : List Value} (h : Blk w g t cs) : ∀ (l : List Value) (off : Nat), off + l.length ≤ cs.length → Blk (wr w g off l) g t (splice cs off l) := by
  intro l
  induction l with
  | nil => intro off _; simpa [wr, splice] using h
  | cons c r ih =>
    intro off hl
    have h1 := (ih (off + 1) (by simp at hl ⊢; omega)).set off c
    have e : (splice cs (off + 1) r).set off c = splice cs off (c :: r) := by
      simp only [List.length_cons] at hl
      have hlt : off < cs.length := by omega
      unfold splice
      rw [List.take_succ_eq_append_getElem hlt, List.append_assoc, List.set_append_right _ _ (by simp; omega)]
      simp only [List.length_take, Nat.min_eq_left (Nat.le_of_lt hlt), Nat.sub_self, List.cons_append, List.nil_append, List.set_cons_zero, List.length_cons]
      rw [show off + 1 + r.length = off + (r.length + 1) from by omega]
    rw [e] at h1
    exact h1
theorem wr_below {B : Nat} {w0 w : World} {g : Nat} (hb : Below B w0 w) (hg : B ≤ g) : ∀ (l : List Value) (off : Nat), Below B w0 (wr w g off l) := by
  intro l
  induction l with
  | nil => intro off; exact hb
  | cons c r ih => intro off; exact (ih (off + 1)).setCell (p := ⟨g, off, none⟩) hg c

/-! ### ends -/
theorem ret_int {k : IntKind} {a b : Int} (h : a = b) : Ending.returned (.int k a) = .returned (.int k b) := by rw [h]
theorem hide {p : Prop} (h : p) : Hid p := h
theorem bcell {W w1 : World} (hb : Below W.heap.size W w1) : (∀ b o, b < W.heap.size → w1.cell? ⟨b, o, none⟩ = W.cell? ⟨b, o, none⟩) :=
  fun b o h => hb.cell (p := ⟨b, o, none⟩) h

/-! ### laws of the walk -/
/-- 'make([]T, n)', T of one cell: a new block of n zero cells, known whole. -/
theorem wpList_mk {P : Program} (w : World) {ops : Array Oper} {rest : List Oper} {o : Oper} {a : Act} {Q : Exit → Act → World → Prop}
    (hg : o.guard = none) (l c : Operand) (t : TypeId) (hop : o.op = Op.makeSlice t l c)
    (e : TypeId) (i : TypeInfo) (z : Value) (h1 : P.underlying t = some (.slice e)) (h2 : P.info? e = some i) (h3 : i.zero = some z) (h4 : i.size = 1) (hz : z.cells = #[z])
    (n : Nat) (kl kc : IntKind) (L C : Int) (hl : a.eval l = .int kl L) (hc : a.eval c = .int kc C) (hL : L = (n : Int)) (hC : C = (n : Int)) (b2 : i.bytes * n ≤ 281474976710656) (b3 : n ≤ 9223372036854775807)
    (hK : ∀ w', Blk w' w.heap.size e (List.replicate n z) → Below w.heap.size w w' → w.heap.size < w'.heap.size → wpList P ops Q rest (a.put o.dst (.slice (some ⟨w.heap.size, 0, none⟩) n n)) w') :
    wpList P ops Q (o :: rest) a w := by
  refine wpList_plain hg fun K hK' => ?_
  subst hL
  subst hC
  have hb : (i.bytes : Int) * (n : Int) ≤ 281474976710656 := by
    have h : ((i.bytes * n : Nat) : Int) ≤ 281474976710656 := by omega
    rwa [Int.natCast_mul] at h
  have hrun := run_make (P := P) w t e i z h1 h2 h3 kl kc n n (by omega) (Int.le_refl _) hb (by omega)
  simp only [Int.toNat_natCast, h4, Nat.mul_one] at hrun
  unfold Oper.wp
  simp [execOp, hop, hl, hc, hrun, Result.andThen]
  refine hK' _ _ (hK _ ?_ ((Below.refl _ _).alloc (Nat.le_refl _) _) (by simp))
  have he : madeCells z.cells n = (List.replicate n z).toArray := by
    apply Array.ext'
    rw [hz]
    simp only [madeCells, Array.toList_map, Array.toList_range]
    apply List.ext_getElem
    · simp
    · intro j h1 h2
      simp [Nat.mod_one]
  rw [he]
  exact Blk.new w e _

/-- 'copy(dst, src)', dst in a block that is known whole, src any row that fits. -/
theorem wpList_cp {P : Program} {w : World} {ops : Array Oper} {rest : List Oper} {o : Oper} {a : Act} {Q : Exit → Act → World → Prop} (hgd : o.guard = none) (d s : Operand) (dT sT : TypeId)
    (ho : o.op = .call { callee := .builtin .copy, args := #[d, s], argTypes := #[dT, sT] }) (elem : TypeId) (hu : P.underlying dT = some (.slice elem)) (hsz : (P.info? elem).map (·.size) = some 1)
    (g off dLen dCap : Nat) (hd : a.eval d = .slice (some ⟨g, off, none⟩) dLen dCap) (t : TypeId) (cur : List Value) (hg : Blk w g t cur) (v : Value) (xs : List Value) (hs : a.eval s = v) (hr : Row w v xs)
    (hle : xs.length ≤ dLen) (hfit : off + xs.length ≤ cur.length) (h1 : ∀ u ∈ xs, u.oneCell' = true) (B : Nat) (w0 : World) (hb : Below B w0 w) (hBg : B ≤ g)
    (h : ∀ w', Blk w' g t (splice cur off xs) → Below B w0 w' → w.heap.size ≤ w'.heap.size → wpList P ops Q rest (a.put o.dst (goInt xs.length)) w') :
    wpList P ops Q (o :: rest) a w := by
  obtain ⟨A, cap, rfl, hl, hm, _, hc⟩ := hr
  refine wpList_copy_splice hgd d s dT sT ho elem hu hsz (some ⟨g, off, none⟩) A dLen dCap xs.length cap hd hs g off cur t hg xs (Nat.min_eq_left hle).symm (fun hpos => ⟨rfl, ?_⟩) hfit h1 B w (Below.refl _ _) hBg
    (fun w' hG hB => h w' hG.out (hb.trans hB) hB.size)
  obtain ⟨b, o', hA, _, hcell⟩ := hc (fun e => by rw [e] at hpos; simp at hpos)
  exact ⟨_, hA, fun j v hj => by rw [Addr.add_lit]; exact hcell j v hj⟩

/-- It fits where the next operation writes slot d, and turns nothing. -/
theorem atDst (d : Tmp) {P : Program} {w : World} {ops : Array Oper} {rest : List Oper} {op : Op} {t : TypeId} {p : String} {af : Array Edge} {g : Option (Tmp × Bool)} {a : Act} {Q : Exit → Act → World → Prop}
    (h : wpList P ops Q (⟨some d, op, t, p, af, g⟩ :: rest) a w) : wpList P ops Q (⟨some d, op, t, p, af, g⟩ :: rest) a w := h

/-- 'append(v, row...)', v a row of the call's own. -/
theorem wpList_app {P : Program} {w : World} {ops : Array Oper} {rest : List Oper} {o : Oper} {a : Act} {Q : Exit → Act → World → Prop} (hgd : o.guard = none) (s x : Operand) (t : TypeId)
    (ho : o.op = .call { callee := .builtin .append, args := #[s, x], argTypes := #[t, t] })
    (base : Nat) (e : TypeId) (i : TypeInfo) (z : Value) (bytes : Nat) (ht : P.underlying t = some (.slice e)) (hi : P.info? e = some i) (hz : i.zero = some z)
    (hsize : i.size = 1) (hby : i.bytes = bytes) (hzs : z.cells.size = 1)
    (v : Value) (n : Nat) (xs : List Value) (hs : a.eval s = v) (hown : w.ownsRow base e 1 v n xs)
    (u : Value) (news : List Value) (hx : a.eval x = u) (hr : Row w u news) (h1 : ∀ u ∈ news, u.oneCell' = true)
    (h63 : n + news.length ≤ maxLen) (hbytes : (n + news.length) * bytes ≤ 140737488355328) (hbase : base ≤ w.heap.size)
    (h : ∀ v' w', w'.ownsRow base e 1 v' (n + news.length) (xs ++ news) → w.grownBy w' v.ownBlock → wpList P ops Q rest (a.put o.dst v') w') : wpList P ops Q (o :: rest) a w := by
  obtain ⟨A, cap, rfl, hl, hm, h0, hc⟩ := hr
  cases A with
  | none =>
    have hcap : cap = 0 := h0 rfl
    subst hcap
    have hn : news = [] := List.eq_nil_of_length_eq_zero (by omega)
    subst hn
    refine wpList_append_own_none hgd s x t ho base e i 1 ht hi v n xs hs hown hx ?_
    exact h v w (by simpa using hown) (World.grownBy.refl _ _)
  | some ad =>
    refine wpList_append_own w hgd s x t ho base e i z 1 bytes ht hi hz hsize hby hzs (by omega) v n xs hs hown ad news.length cap news hx (by omega) ?_ h1 h63 hbytes hbase (fun v' w' h2 h3 _ => h v' w' h2 h3)
    intro j u hj
    obtain ⟨b, off, hA, _, hcell⟩ := hc (by intro e; rw [e] at hj; simp at hj)
    injection hA with hA
    subst hA
    rw [Addr.add_lit]
    exact hcell j u hj

/-! ### []byte to string -/
theorem str_of_nums (l : List UInt8) : strOfNums (l.map fun c => (c.toNat : Int)) = ⟨l.toArray⟩ := by
  unfold strOfNums
  congr 1
  rw [List.map_map]
  congr 1
  conv => rhs; rw [← List.map_id l]
  apply List.map_congr_left
  intro c _
  simp
theorem conv_row {P : Program} {w : World} {v : Value} {l : List UInt8} (h : Row w v (bvs l)) (src e dst : TypeId) (hs : P.underlying src = some (.slice e)) (he : P.underlying e = some (.int .u8)) (hd : P.underlying dst = some .string) :
    (convert src dst v).run P w = .ok (.string ⟨l.toArray⟩) w := by
  obtain ⟨A, cap, rfl, h1, h2, h0, h3⟩ := h
  rw [bvs_length]
  cases l with
  | nil =>
    cases A with
    | none => exact run_convert_bytes_nil w src e hs he _ _ dst hd
    | some a =>
      rw [run_convert_bytes_string w src dst e _ _ cap hs he hd]
      have := run_bytesToString (P := P) w a 0 cap [] (by simp [loadCells, loadCellsFrom])
      exact this
  | cons c r =>
    obtain ⟨b, off, rfl, _, hc⟩ := h3 (by simp [bvs])
    rw [run_convert_bytes_arg (P := P) w src e hs he b off (c :: r).length cap ((c :: r).map fun c => (c.toNat : Int)) (by simp) (fun i hi => ?_) dst hd, str_of_nums]
    rw [hc i (bv (c :: r)[i]) (by simp only [bvs, List.getElem?_map, List.getElem?_eq_getElem hi, Option.map_some])]
    simp only [List.getD, List.getElem?_map, List.getElem?_eq_getElem hi, Option.map_some, Option.getD_some]
theorem str_inj {l m : List UInt8} : ((⟨l.toArray⟩ : ByteArray) == ⟨m.toArray⟩) = decide (l = m) := by
  show (l.toArray == m.toArray) = _
  rw [Bool.eq_iff_iff]
  simp

/-! ### more on rows -/
theorem own_form {w : World} {base : Nat} {e : TypeId} {v : Value} {n : Nat} {xs : List Value} (h : w.ownsRow base e 1 v n xs) (hn : 0 < n) :
    ∃ g cap, v = .slice (some ⟨g, 0, none⟩) n cap ∧ base ≤ g ∧ g < w.heap.size ∧ n ≤ cap ∧ cap ≤ maxLen := by
  rcases h.2 with ⟨_, h0⟩ | ⟨g, cap, cur, rfl, hb, hg, hnc, hcm, _, _⟩
  · omega
  · exact ⟨g, cap, rfl, hb, (Array.getElem?_eq_some_iff.1 hg).1, hnc, hcm⟩
theorem Row.take {w : World} {A : Option Addr} {cap : Nat} {xs : List Value} (h : Row w (.slice A xs.length cap) xs) (k : Nat) (hk : k ≤ xs.length) : Row w (.slice A k cap) (xs.take k) := by
  obtain ⟨A', cap', he, h1, h2, h0, h3⟩ := h
  injection he with hA hl hc
  subst hA
  subst hc
  have hlen : (xs.take k).length = k := by simp; omega
  refine ⟨A, cap, by rw [hlen], by omega, h2, h0, fun hne => ?_⟩
  obtain ⟨b, off, hA, hb, hcell⟩ := h3 (by rintro rfl; simp at hne)
  refine ⟨b, off, hA, hb, fun i u hu => hcell i u ?_⟩
  rw [List.getElem?_take] at hu
  split at hu
  · exact hu
  · cases hu
theorem le_inj {v w n : Nat} (hv : v < 256 ^ n) (hw : w < 256 ^ n) (h : le v n = le w n) : v = w := by
  have := congrArg num h
  rwa [num_le, num_le, Nat.mod_eq_of_lt hv, Nat.mod_eq_of_lt hw] at this

end Go.Proofs.YtaobeconjdeenaaDoor
