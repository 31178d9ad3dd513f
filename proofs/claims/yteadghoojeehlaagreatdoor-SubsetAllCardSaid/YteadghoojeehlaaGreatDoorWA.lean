/-
  Texts of this proof, put together: Base, Open, Row, Struct, Arr, SetP, OwnS, RowS, Reg. No statement is proved here.
-/
import Derived.WalkKit
import Derived.Lib.Hide
import Derived.Laws.CopyOwn
import Derived.Deep.Draws
import Derived.Laws.AppendOwnNone
import Derived.Test.YteadghoojeehlaaGreatDoorRows
import Derived.ProofKit
import Derived.OpenShut
import Derived.ShutString
import Derived.ChangeOld
import Derived.Laws.OwnMore
import Derived.Stop.BytesEq
import Derived.Laws.IdiomStrings
import Derived.Laws.Tables
import Derived.Laws.BitsAllLaws
import Derived.Deep.MidRow
import Derived.Deep.Slices
import Derived.DataReads
import Derived.Deep.RegionHeld
namespace Go.Proofs.YteadghoojeehlaaGreatDoor
open Go.RowKit
theorem qH {p : Prop} (h : p) : Hid p := Lib.hid h
theorem qA {α : Type} (l : List α) (i : Nat) (a : α) : l.toArray.setIfInBounds i a = (l.set i a).toArray := List.setIfInBounds_toArray l i a
theorem qB {α : Type} (x b : α) (l : List α) : (x :: l).set 0 b = b :: l := rfl
theorem qC {α : Type} (x b : α) (l : List α) (n : Nat) : (x :: l).set (n + 1) b = x :: l.set n b := rfl
/-! ### bytes as values -/
abbrev bv (c : UInt8) : Value := .int .u8 (c.toNat : Int)
def bvs (l : List UInt8) : List Value := l.map bv
theorem bvs_length (l : List UInt8) : (bvs l).length = l.length := by simp [bvs]
theorem bvs_append (l m : List UInt8) : bvs (l ++ m) = bvs l ++ bvs m := by simp [bvs]
theorem bvs_one (l : List UInt8) : ∀ u ∈ bvs l, u.oneCell' = true := by
 intro u hu
 obtain ⟨c, _, rfl⟩ := List.mem_map.1 hu
 rfl
theorem bvs_get (l : List UInt8) (i : Nat) (c : UInt8) (h : l[i]? = some c) : (bvs l)[i]? = some (bv c) := by simp [bvs, h]
def le : Nat → Nat → List UInt8
 | _, 0 => []
 | v, n + 1 => UInt8.ofNat (v % 256) :: le (v / 256) n
/-! ### rows of cells -/
def Row (w : World) (v : Value) (xs : List Value) : Prop :=
 ∃ A cap, v = .slice A xs.length cap ∧ xs.length ≤ cap ∧ cap ≤ maxLen ∧ (A = none → cap = 0) ∧
  (xs ≠ [] → ∃ b off, A = some ⟨b, off, none⟩ ∧ b < w.heap.size ∧ ∀ i u, xs[i]? = some u → w.cell? ⟨b, off + i, none⟩ = some u)
theorem Row.nil (w : World) : Row w (.slice none 0 0) [] := ⟨none, 0, rfl, Nat.le_refl _, Nat.zero_le _, fun _ => rfl, fun h => absurd rfl h⟩
theorem Row.keep {w w' : World} {v : Value} {xs : List Value} (h : Row w v xs) (hs : w.heap.size ≤ w'.heap.size) (hk : ∀ p : Addr, p.block < w.heap.size → w'.cell? p = w.cell? p) : Row w' v xs := by
 obtain ⟨A, cap, hv, h1, h2, h0, h3⟩ := h
 refine ⟨A, cap, hv, h1, h2, h0, fun hne => ?_⟩
 obtain ⟨b, off, hA, hb, hc⟩ := h3 hne
 exact ⟨b, off, hA, by omega, fun i u hu => (hk ⟨b, off + i, none⟩ hb).trans (hc i u hu)⟩
theorem Row.below {w w' : World} {v : Value} {xs : List Value} (h : Row w v xs) (hb : Below w.heap.size w w') : Row w' v xs :=
 h.keep hb.size fun _ hp => hb.cell hp
theorem Row.drew {w : World} {v : Value} {xs : List Value} (h : Row w v xs) : Row w.drew v xs := h
theorem Row.drewN {w : World} {v : Value} {xs : List Value} (h : Row w v xs) (n : Nat) : Row (w.drewN n) v xs := h
def RowB (B : Nat) (w : World) (v : Value) (xs : List Value) : Prop :=
 ∃ A cap, v = .slice A xs.length cap ∧ xs.length ≤ cap ∧ cap ≤ maxLen ∧ (A = none → cap = 0) ∧
  (xs ≠ [] → ∃ b off, A = some ⟨b, off, none⟩ ∧ b < B ∧ b < w.heap.size ∧ ∀ i u, xs[i]? = some u → w.cell? ⟨b, off + i, none⟩ = some u)
theorem RowB.row {B : Nat} {w : World} {v : Value} {xs : List Value} (h : RowB B w v xs) : Row w v xs := by
 obtain ⟨A, cap, hv, h1, h2, h0, h3⟩ := h
 refine ⟨A, cap, hv, h1, h2, h0, fun hne => ?_⟩
 obtain ⟨b, off, hA, _, hb, hc⟩ := h3 hne
 exact ⟨b, off, hA, hb, hc⟩
theorem RowB.below {B : Nat} {w w' : World} {v : Value} {xs : List Value} (h : RowB B w v xs) (hb : Below B w w') : RowB B w' v xs := by
 obtain ⟨A, cap, hv, h1, h2, h0, h3⟩ := h
 refine ⟨A, cap, hv, h1, h2, h0, fun hne => ?_⟩
 obtain ⟨b, off, hA, hbB, hbw, hc⟩ := h3 hne
 exact ⟨b, off, hA, hbB, by have := hb.size; omega, fun i u hu => (hb.cell (p := ⟨b, off + i, none⟩) hbB).trans (hc i u hu)⟩
theorem Row.of_own {w : World} {base : Nat} {e : TypeId} {v : Value} {n : Nat} {xs : List Value} (h : w.ownsRow base e 1 v n xs) : Row w v xs := by
 have hl : xs.length = n := by simpa using h.1
 rcases h.2 with ⟨rfl, hn⟩ | ⟨g, cap, cur, rfl, hb, hg, hnc, hcm, hcs, htake⟩
 ·obtain rfl : xs = [] := List.eq_nil_of_length_eq_zero (by omega)
  exact Row.nil w
 ·refine ⟨some ⟨g, 0, none⟩, cap, by rw [hl], by omega, hcm, (fun h => by cases h), fun _ => ⟨g, 0, rfl, (Array.getElem?_eq_some_iff.1 hg).1, fun i u hu => ?_⟩⟩
  have := h.cells (g := g) rfl i u hu
  rwa [Addr.add_lit] at this
def Blk (w : World) (g : Nat) (t : TypeId) (cs : List Value) : Prop := w.heap[g]? = some (.cells cs.toArray t (0, 0))
section
variable {w w' : World} {g : Nat} {t : TypeId} {cs : List Value}
theorem Blk.lt (h : Blk w g t cs) : g < w.heap.size := (Array.getElem?_eq_some_iff.1 h).1
theorem Blk.cell (h : Blk w g t cs) (i : Nat) : w.cell? ⟨g, i, none⟩ = cs[i]? := by
 rw [cell_of_row w g i cs.toArray t (0, 0) h]; simp
theorem Blk.frozen (h : Blk w g t cs) (i : Nat) : w.frozen? ⟨g, i, none⟩ = false := by
 unfold Blk at h
 simp [World.frozen?, h]
theorem Blk.new (w : World) (t : TypeId) (cs : List Value) : Blk (w.alloc (.cells cs.toArray t)) w.heap.size t cs := heap_alloc_new w _
theorem Blk.drew (h : Blk w g t cs) : Blk w.drew g t cs := h
theorem Blk.alloc (h : Blk w g t cs) (o : Obj) : Blk (w.alloc o) g t cs := (Below.heap_alloc w o g h.lt).trans h
theorem Blk.set (h : Blk w g t cs) (i : Nat) (u : Value) : Blk (w.setCell ⟨g, i, none⟩ u) g t (cs.set i u) := by
 unfold Blk at h ⊢
 simp [World.setCell, Array.getElem?_modify, h]
theorem Blk.far (h : Blk w g t cs) {p : Addr} (hp : g ≠ p.block) (u : Value) : Blk (w.setCell p u) g t cs := (Below.heap_setCell w p u g hp).trans h
theorem Blk.below {B : Nat} (h : Blk w g t cs) (hb : Below B w w') (hg : g < B) : Blk w' g t cs := (hb.block g hg).trans h
theorem Blk.grown {row : Option Nat} (h : Blk w g t cs) (hb : w.grownBy w' row) (hg : some g ≠ row) : Blk w' g t cs := (hb.block g h.lt hg).trans h
theorem Blk.own {base : Nat} (h : Blk w g t cs) (hb : base ≤ g) (hm : cs.length ≤ maxLen) : w.ownsRow base t 1 (.slice (some ⟨g, 0, none⟩) cs.length cs.length) cs.length cs :=
 ⟨by simp, .inr ⟨g, cs.length, cs.toArray, rfl, hb, h, Nat.le_refl _, hm, by simp, by simp⟩⟩
end
def wr (w : World) (g : Nat) : Nat → List Value → World
 | _, [] => w
 | off, c :: r => (wr w g (off + 1) r).setCell ⟨g, off, none⟩ c
/-! ### ends -/
/-! ### laws of the walk -/
theorem wpList_mk {P : Program} (w : World) {ops : Array Oper} {rest : List Oper} {o : Oper} {a : Act} {Q : Exit → Act → World → Prop}
  (hg : o.guard = none) (l c : Operand) (t : TypeId) (hop : o.op = Op.makeSlice t l c)
  (e : TypeId) (i : TypeInfo) (z : Value) (h1 : P.underlying t = some (.slice e)) (h2 : P.info? e = some i) (h3 : i.zero = some z) (h4 : i.size = 1) (hz : z.cells = #[z])
  (n : Nat) (kl kc : IntKind) (L C : Int) (hl : a.eval l = .int kl L) (hc : a.eval c = .int kc C) (hL : L = (n : Int)) (hC : C = (n : Int)) (b2 : i.bytes * n ≤ 281474976710656) (b3 : n ≤ 9223372036854775807)
  (hK : ∀ w', Blk w' w.heap.size e (List.replicate n z) → Below w.heap.size w w' → w.heap.size < w'.heap.size → wpList P ops Q rest (a.put o.dst (.slice (some ⟨w.heap.size, 0, none⟩) n n)) w') :
  wpList P ops Q (o :: rest) a w := by
 refine wpList_plain hg fun K hK' => ?_
 subst hL
 subst hC
 have hb : (i.bytes : Int) * (n : Int) ≤ 281474976710656 := by
  have h : ((i.bytes * n : Nat) : Int) ≤ 281474976710656 := by omega
  rwa [Int.natCast_mul] at h
 have hrun := run_make (P := P) w t e i z h1 h2 h3 kl kc n n (by omega) (Int.le_refl _) hb (by omega)
 simp only [Int.toNat_natCast, h4, Nat.mul_one] at hrun
 unfold Oper.wp
 simp [execOp, hop, hl, hc, hrun, Result.andThen]
 refine hK' _ _ (hK _ ?_ ((Below.refl _ _).alloc (Nat.le_refl _) _) (by simp))
 have he : madeCells z.cells n = (List.replicate n z).toArray := by
  apply Array.ext'
  rw [hz]
  simp only [madeCells, Array.toList_map, Array.toList_range]
  apply List.ext_getElem
  ·simp
  ·intro j h1 h2
   simp [Nat.mod_one]
 rw [he]
 exact Blk.new w e _
theorem atDst (d : Tmp) {P : Program} {w : World} {ops : Array Oper} {rest : List Oper} {op : Op} {t : TypeId} {p : String} {af : Array Edge} {g : Option (Tmp × Bool)} {a : Act} {Q : Exit → Act → World → Prop}
  (h : wpList P ops Q (⟨some d, op, t, p, af, g⟩ :: rest) a w) : wpList P ops Q (⟨some d, op, t, p, af, g⟩ :: rest) a w := h
theorem wpList_app {P : Program} {w : World} {ops : Array Oper} {rest : List Oper} {o : Oper} {a : Act} {Q : Exit → Act → World → Prop} (hgd : o.guard = none) (s x : Operand) (t : TypeId)
  (ho : o.op = .call { callee := .builtin .append, args := #[s, x], argTypes := #[t, t] })
  (base : Nat) (e : TypeId) (i : TypeInfo) (z : Value) (bytes : Nat) (ht : P.underlying t = some (.slice e)) (hi : P.info? e = some i) (hz : i.zero = some z)
  (hsize : i.size = 1) (hby : i.bytes = bytes) (hzs : z.cells.size = 1)
  (v : Value) (n : Nat) (xs : List Value) (hs : a.eval s = v) (hown : w.ownsRow base e 1 v n xs)
  (u : Value) (news : List Value) (hx : a.eval x = u) (hr : Row w u news) (h1 : ∀ u ∈ news, u.oneCell' = true)
  (h63 : n + news.length ≤ maxLen) (hbytes : (n + news.length) * bytes ≤ 140737488355328) (hbase : base ≤ w.heap.size)
  (h : ∀ v' w', w'.ownsRow base e 1 v' (n + news.length) (xs ++ news) → w.grownBy w' v.ownBlock → wpList P ops Q rest (a.put o.dst v') w') : wpList P ops Q (o :: rest) a w := by
 obtain ⟨A, cap, rfl, hl, hm, h0, hc⟩ := hr
 cases A with
 | none =>
  have hcap : cap = 0 := h0 rfl
  subst hcap
  have hn : news = [] := List.eq_nil_of_length_eq_zero (by omega)
  subst hn
  refine wpList_append_own_none hgd s x t ho base e i 1 ht hi v n xs hs hown hx ?_
  exact h v w (by simpa using hown) (World.grownBy.refl _ _)
 | some ad =>
  refine wpList_append_own w hgd s x t ho base e i z 1 bytes ht hi hz hsize hby hzs (by omega) v n xs hs hown ad news.length cap news hx (by omega) ?_ h1 h63 hbytes hbase (fun v' w' h2 h3 _ => h v' w' h2 h3)
  intro j u hj
  obtain ⟨b, off, hA, _, hcell⟩ := hc (by intro e; rw [e] at hj; simp at hj)
  injection hA with hA
  subst hA
  rw [Addr.add_lit]
  exact hcell j u hj
/-! ### []byte to string -/
/-! ### more on rows -/
theorem Row.take {w : World} {A : Option Addr} {cap : Nat} {xs : List Value} (h : Row w (.slice A xs.length cap) xs) (k : Nat) (hk : k ≤ xs.length) : Row w (.slice A k cap) (xs.take k) := by
 obtain ⟨A', cap', he, h1, h2, h0, h3⟩ := h
 injection he with hA hl hc
 subst hA
 subst hc
 have hlen : (xs.take k).length = k := by simp; omega
 refine ⟨A, cap, by rw [hlen], by omega, h2, h0, fun hne => ?_⟩
 obtain ⟨b, off, hA, hb, hcell⟩ := h3 (by rintro rfl; simp at hne)
 refine ⟨b, off, hA, hb, fun i u hu => hcell i u ?_⟩
 rw [List.getElem?_take] at hu
 split at hu
 ·exact hu
 ·cases hu
open Go.ChangeShapes Go.WideShapes Go.ChangeAt Go.RowKit
set_option linter.unusedVariables false
theorem own : ownKnob Tryz.prog.godebug = none := by kernel_rfl
theorem laidOut : laidOutB Tryz.prog = true := by kernel_rfl
set_option linter.unusedSimpArgs false
theorem Row.at_ {w : World} {A : Option Addr} {n cap : Nat} {xs : List Value} (h : Row w (.slice A n cap) xs) (hne : 0 < xs.length) : ∃ b off, A = some ⟨b, off, none⟩ ∧ b < w.heap.size ∧ ∀ i u, xs[i]? = some u → w.cell? ⟨b, off + i, none⟩ = some u := by
 obtain ⟨A', cap', he, _, _, _, h3⟩ := h
 injection he with hA _ _
 subst hA
 exact h3 (by rintro rfl; simp at hne)
theorem Row.len {w : World} {A : Option Addr} {n cap : Nat} {xs : List Value} (h : Row w (.slice A n cap) xs) : n = xs.length ∧ n ≤ cap ∧ cap ≤ maxLen ∧ (A = none → cap = 0) := by
 obtain ⟨A', cap', he, h1, h2, h0, _⟩ := h
 injection he with hA hn hc
 subst hA
 subst hn
 subst hc
 exact ⟨rfl, h1, h2, h0⟩
theorem Row.drop {w : World} {A : Option Addr} {cap : Nat} {xs : List Value} (h : Row w (.slice A xs.length cap) xs) (k : Nat) (hk : k < xs.length) :
  ∃ b off, A = some ⟨b, off, none⟩ ∧ Row w (.slice (some ⟨b, off + k, none⟩) (xs.length - k) (cap - k)) (xs.drop k) := by
 obtain ⟨A', cap', he, h1, h2, h0, h3⟩ := h
 injection he with hA hl hc
 subst hA
 subst hc
 obtain ⟨b, off, rfl, hb, hcell⟩ := h3 (by rintro rfl; simp at hk)
 refine ⟨b, off, rfl, some ⟨b, off + k, none⟩, cap - k, by rw [List.length_drop], by rw [List.length_drop]; omega, by omega, (fun h => by cases h), fun _ => ⟨b, off + k, rfl, hb, fun i u hu => ?_⟩⟩
 rw [Nat.add_assoc]
 refine hcell (k + i) u ?_
 rw [← hu, List.getElem?_drop]
def nums (k : IntKind) (l : List Int) : List Value := l.map fun n => .int k n
theorem nums_length (k : IntKind) (l : List Int) : (nums k l).length = l.length := by simp [nums]
theorem nums_get (k : IntKind) (l : List Int) (i : Nat) (h : i < l.length) : (nums k l)[i]? = some (.int k l[i]) := by simp [nums, h]
theorem nums_append (k : IntKind) (l m : List Int) : nums k (l ++ m) = nums k l ++ nums k m := by simp [nums]
theorem nums_one (k : IntKind) (l : List Int) : ∀ u ∈ nums k l, u.oneCell' = true := by
 intro u hu
 obtain ⟨c, _, rfl⟩ := List.mem_map.1 hu
 rfl
abbrev ints (l : List Int) : List Value := nums .i64 l
def bools (l : List Bool) : List Value := l.map fun b => .bool b
theorem bools_length (l : List Bool) : (bools l).length = l.length := by simp [bools]
theorem open_nums {H : Type} {enc : TypeId × Value → H} {P : Program} {t e : TypeId} {k : IntKind} (ht : P.underlying t = some (.slice e)) (he : P.underlying e = some (.int k)) (hc : P.cellsOf e = 1) {W : World} {a : Option Addr} {len cap : Nat} {d : DataW H} {p : List MemPlace}
  (h : DataW.Trod enc P W 0 (fun _ => true) true t (.slice a len cap) d p) : ∃ l : List Int, (∀ n ∈ l, (Lit.int k n).wf = true) ∧ Row W (.slice a len cap) (nums k l) := by
 obtain ⟨fuel, hf⟩ := h
 rcases open_ints ht he hc hf with ⟨hcs, _⟩ | ⟨x, l, c, zs, hcs, _, hl, hm, hz, _, hcell, hwz⟩
 ·simp [Value.cells] at hcs
  obtain ⟨rfl, rfl, rfl⟩ := hcs
  exact ⟨[], by simp, Row.nil W⟩
 ·simp [Value.cells] at hcs
  obtain ⟨rfl, rfl, rfl⟩ := hcs
  have hz' : zs.length = cap := by simpa using hz
  have hlen : (nums k (zs.take len)).length = len := by simp [nums]; omega
  refine ⟨zs.take len, fun n hn => hwz n (List.mem_of_mem_take hn), some x, cap, by rw [hlen], by omega, hm, (fun h => by cases h), fun hne => ?_⟩
  have hpos : 0 < len := by
   rcases Nat.eq_zero_or_pos len with h0 | h0
   ·subst h0; exact absurd rfl hne
   ·exact h0
  obtain ⟨b, off, spot⟩ := x
  have hc0 := hcell 0 (by omega)
  have hspot : spot = none := by simpa [Addr.add] using World.cell?_spot hc0
  subst hspot
  refine ⟨b, off, rfl, by have := World.block_lt_of_cell? _ _ hc0; rwa [Addr.add_lit] at this, fun i u hu => ?_⟩
  have hi : i < len := by
   have := (List.getElem?_eq_some_iff.1 hu).1
   rwa [hlen] at this
  have := hcell i (by omega)
  rw [Addr.add_lit] at this
  rw [this, ← hu]
  have hiz : i < zs.length := by omega
  simp only [nums, List.getElem?_map, List.getElem?_take, hi, if_true, List.getElem?_eq_getElem hiz, Option.map_some, List.getD, Option.getD_some]
section
variable {P : Program} {w : World} {ops : Array Oper} {rest : List Oper} {o : Oper} {a : Act} {Q : Exit → Act → World → Prop}
theorem atStore (ty : TypeId) (x y : Tmp) {t : TypeId} {p : String} {af : Array Edge} {g : Option (Tmp × Bool)}
  (h : wpList P ops Q (⟨none, .store ty (.tmp x) (.tmp y), t, p, af, g⟩ :: rest) a w) : wpList P ops Q (⟨none, .store ty (.tmp x) (.tmp y), t, p, af, g⟩ :: rest) a w := h
theorem wpList_ldBlk (hgd : o.guard = none) (ty : TypeId) (x : Operand) (ho : o.op = .load ty x)
  (g : Nat) (hx : a.eval x = .pointer (some ⟨g, 0, none⟩)) (t : TypeId) (cs : List Value) (d : TypeDesc) (hg : Blk w g t cs)
  (hu : P.underlying ty = some d) (hd : (match d with | .struct _ | .array _ _ => true | _ => false) = true) (hi : (P.info? ty).map (·.size) = some cs.length)
  (h : wpList P ops Q rest (a.put o.dst (.agg cs.toArray)) w) : wpList P ops Q (o :: rest) a w :=
 wpList_load_row hgd ty x ho g hx t cs.toArray (0, 0) d hg hu hd (by simpa using hi) h
theorem wpList_stBlk (hgd : o.guard = none) (ty : TypeId) (x y : Operand) (ho : o.op = .store ty x y)
  (g : Nat) (cs : List Value) (hx : a.eval x = .pointer (some ⟨g, 0, none⟩)) (hy : a.eval y = .agg cs.toArray)
  (t : TypeId) (old : List Value) (hg : Blk w g t old) (hi : (P.info? ty).map (·.size) = some cs.length)
  (hold : old.length = cs.length) (h1 : cs.all (·.oneCell') = true) {B : Nat} {w0 : World} (hb : Below B w0 w) (hB : B ≤ g)
  (h : ∀ w', Blk w' g t cs → Below B w0 w' → w'.heap.size = w.heap.size → (∀ k, k ≠ g → w'.heap[k]? = w.heap[k]?) → wpList P ops Q rest (a.put o.dst undef) w') : wpList P ops Q (o :: rest) a w :=
 wpList_store_row hgd ty x y ho g cs.toArray hx hy t old.toArray hg (by simpa using hi) (by simpa using hold) (by simpa using h1)
  (h _ (setRow_heap w g old.toArray cs.toArray t (0, 0) hg) (below_setRow hb hB _) (by simp) (fun k hk => setRow_other w g k _ hk))
theorem results_blk {fn : Func} {p : Tmp} {ty : TypeId} (h : fn.results = #[.cell p ty]) (tmps : Array Value) (w : World) (g : Nat) (t : TypeId) (cs : List Value) (d : TypeDesc)
  (hp : tmps.getD p undef = .pointer (some ⟨g, 0, none⟩)) (hg : Blk w g t cs)
  (hu : P.underlying ty = some d) (hd : (match d with | .struct _ | .array _ _ => true | _ => false) = true) (hi : (P.info? ty).map (·.size) = some cs.length) :
  (results fn tmps).run P w = .ok (.agg cs.toArray) w :=
 results_cell_row h tmps w g t cs.toArray (0, 0) d hp hg hu hd (by simpa using hi)
theorem own_above {w : World} {base : Nat} {e : TypeId} {v : Value} {n : Nat} {xs : List Value} (h : w.ownsRow base e 1 v n xs) : ∀ k, v.ownBlock = some k → base ≤ k := by
 intro k hk
 rcases h.2 with ⟨rfl, h0⟩ | ⟨g, cap, cur, rfl, hb, hg, hnc, hcm, _, _⟩
 ·cases hk
 ·have hk' : some g = some k := hk
  injection hk' with hk'
  omega
theorem wpList_appR {w0 : World} (hgd : o.guard = none) (s x : Operand) (t : TypeId)
  (ho : o.op = .call { callee := .builtin .append, args := #[s, x], argTypes := #[t, t] })
  (e : TypeId) (i : TypeInfo) (z : Value) (bytes : Nat) (ht : P.underlying t = some (.slice e)) (hi : P.info? e = some i) (hz : i.zero = some z)
  (hsize : i.size = 1) (hby : i.bytes = bytes) (hzs : z.cells.size = 1)
  (v : Value) (n : Nat) (xs : List Value) (hs : a.eval s = v) (hown : w.ownsRow w0.heap.size e 1 v n xs)
  (u : Value) (news : List Value) (hx : a.eval x = u) (hr : Row w u news) (h1 : ∀ u ∈ news, u.oneCell' = true)
  (hlen : n + news.length ≤ 1048576) (hby2 : bytes ≤ 1000) (hb : Below w0.heap.size w0 w)
  (h : ∀ v' w', w'.ownsRow w0.heap.size e 1 v' (n + news.length) (xs ++ news) → Row w' v' (xs ++ news) → Below w0.heap.size w0 w' → w.grownBy w' v.ownBlock → wpList P ops Q rest (a.put o.dst v') w') : wpList P ops Q (o :: rest) a w := by
 have hm : (n + news.length) * bytes ≤ 1048576 * 1000 := Nat.mul_le_mul hlen hby2
 exact wpList_app hgd s x t ho w0.heap.size e i z bytes ht hi hz hsize hby hzs v n xs hs hown u news hx hr h1 (by unfold maxLen; omega) (by omega) hb.size
  fun v' w' h2 h3 => h v' w' h2 (Row.of_own h2) (hb.grown h3 hb.size (own_above hown)) h3
theorem wp_appR {w0 : World} {K : Act → World → Prop} (s x : Operand) (t : TypeId)
  (ho : o.op = .call { callee := .builtin .append, args := #[s, x], argTypes := #[t, t] })
  (e : TypeId) (i : TypeInfo) (z : Value) (bytes : Nat) (ht : P.underlying t = some (.slice e)) (hi : P.info? e = some i) (hz : i.zero = some z)
  (hsize : i.size = 1) (hby : i.bytes = bytes) (hzs : z.cells.size = 1)
  (v : Value) (n : Nat) (xs : List Value) (hs : a.eval s = v) (hown : w.ownsRow w0.heap.size e 1 v n xs)
  (u : Value) (news : List Value) (hx : a.eval x = u) (hr : Row w u news) (h1 : ∀ u ∈ news, u.oneCell' = true)
  (hlen : n + news.length ≤ 1048576) (hby2 : bytes ≤ 1000) (hb : Below w0.heap.size w0 w)
  (h : ∀ v' w', w'.ownsRow w0.heap.size e 1 v' (n + news.length) (xs ++ news) → Row w' v' (xs ++ news) → Below w0.heap.size w0 w' → w.grownBy w' v.ownBlock → K (a.put o.dst v') w') : o.wp P a w K Q := by
 have hm : (n + news.length) * bytes ≤ 1048576 * 1000 := Nat.mul_le_mul hlen hby2
 obtain ⟨A, cap, rfl, hl, hmx, h0, hc⟩ := hr
 cases A with
 | none =>
  have hcap : cap = 0 := h0 rfl
  subst hcap
  have hn : news = [] := List.eq_nil_of_length_eq_zero (by omega)
  subst hn
  have hrun := run_append_owned_none (P := P) (w := w) w0.heap.size t o.type e i 1 ht hi v n xs hown
  unfold Oper.wp
  simp at hx
  simp [execOp, ho, resolve, invoke, builtin, hs, hx, hrun, Result.andThen]
  exact h v w (by simpa using hown) (by simpa using Row.of_own hown) hb (World.grownBy.refl _ _)
 | some ad =>
  refine wp_append_own w s x t ho w0.heap.size e i z 1 bytes ht hi hz hsize hby hzs (by omega) v n xs hs hown ad news.length cap news hx (by omega) ?_ h1 (by unfold maxLen; omega) (by omega) hb.size
   (fun v' w' h2 h3 _ => h v' w' h2 (Row.of_own h2) (hb.grown h3 hb.size (own_above hown)) h3)
  intro j u hj
  obtain ⟨b, off, hA, _, hcell⟩ := hc (by intro e; rw [e] at hj; simp at hj)
  injection hA with hA
  subst hA
  rw [Addr.add_lit]
  exact hcell j u hj
theorem wp_appG {base : Nat} {K : Act → World → Prop} (s x : Operand) (t : TypeId)
  (ho : o.op = .call { callee := .builtin .append, args := #[s, x], argTypes := #[t, t] })
  (e : TypeId) (i : TypeInfo) (z : Value) (bytes : Nat) (ht : P.underlying t = some (.slice e)) (hi : P.info? e = some i) (hz : i.zero = some z)
  (hsize : i.size = 1) (hby : i.bytes = bytes) (hzs : z.cells.size = 1)
  (v : Value) (n : Nat) (xs : List Value) (hs : a.eval s = v) (hown : w.ownsRow base e 1 v n xs)
  (u : Value) (news : List Value) (hx : a.eval x = u) (hr : Row w u news) (h1 : ∀ u ∈ news, u.oneCell' = true)
  (hlen : n + news.length ≤ 1048576) (hby2 : bytes ≤ 1000) (hb : base ≤ w.heap.size)
  (h : ∀ v' w', w'.ownsRow base e 1 v' (n + news.length) (xs ++ news) → w.grownBy w' v.ownBlock → K (a.put o.dst v') w') : o.wp P a w K Q := by
 have hm : (n + news.length) * bytes ≤ 1048576 * 1000 := Nat.mul_le_mul hlen hby2
 obtain ⟨A, cap, rfl, hl, hmx, h0, hc⟩ := hr
 cases A with
 | none =>
  have hcap : cap = 0 := h0 rfl
  subst hcap
  have hn : news = [] := List.eq_nil_of_length_eq_zero (by omega)
  subst hn
  have hrun := run_append_owned_none (P := P) (w := w) base t o.type e i 1 ht hi v n xs hown
  unfold Oper.wp
  simp at hx
  simp [execOp, ho, resolve, invoke, builtin, hs, hx, hrun, Result.andThen]
  exact h v w (by simpa using hown) (World.grownBy.refl _ _)
 | some ad =>
  refine wp_append_own w s x t ho base e i z 1 bytes ht hi hz hsize hby hzs (by omega) v n xs hs hown ad news.length cap news hx (by omega) ?_ h1 (by unfold maxLen; omega) (by omega) hb
   (fun v' w' h2 h3 _ => h v' w' h2 h3)
  intro j u hj
  obtain ⟨b, off, hA, _, hcell⟩ := hc (by intro e; rw [e] at hj; simp at hj)
  injection hA with hA
  subst hA
  rw [Addr.add_lit]
  exact hcell j u hj
theorem wpList_appG {base : Nat} (hgd : o.guard = none) (s x : Operand) (t : TypeId)
  (ho : o.op = .call { callee := .builtin .append, args := #[s, x], argTypes := #[t, t] })
  (e : TypeId) (i : TypeInfo) (z : Value) (bytes : Nat) (ht : P.underlying t = some (.slice e)) (hi : P.info? e = some i) (hz : i.zero = some z)
  (hsize : i.size = 1) (hby : i.bytes = bytes) (hzs : z.cells.size = 1)
  (v : Value) (n : Nat) (xs : List Value) (hs : a.eval s = v) (hown : w.ownsRow base e 1 v n xs)
  (u : Value) (news : List Value) (hx : a.eval x = u) (hr : Row w u news) (h1 : ∀ u ∈ news, u.oneCell' = true)
  (hlen : n + news.length ≤ 1048576) (hby2 : bytes ≤ 1000) (hb : base ≤ w.heap.size)
  (h : ∀ v' w', w'.ownsRow base e 1 v' (n + news.length) (xs ++ news) → w.grownBy w' v.ownBlock → wpList P ops Q rest (a.put o.dst v') w') : wpList P ops Q (o :: rest) a w :=
 wpList_plain hgd fun _ hK => wp_appG s x t ho e i z bytes ht hi hz hsize hby hzs v n xs hs hown u news hx hr h1 hlen hby2 hb fun v' w' h2 h3 => hK _ _ (h v' w' h2 h3)
theorem Blk.other {w' : World} {g : Nat} {t : TypeId} {cs : List Value} (h : Blk w g t cs) (k : Nat) (hk : ∀ i, i ≠ k → w'.heap[i]? = w.heap[i]?) (hg : g ≠ k) : Blk w' g t cs := (hk g hg).trans h
end
section
variable {P : Program} {w : World} {ops : Array Oper} {rest : List Oper} {o : Oper} {a : Act} {Q : Exit → Act → World → Prop}
theorem run_newRow_blk (t : TypeId) (cs : List Value) : (newRow t cs.toArray).run P w = .ok ⟨w.heap.size, 0, none⟩ (w.alloc (.cells cs.toArray t)) := by
 simp [newRow]
theorem wpList_new (hgd : Region.wanted o (yielded ops a.tmps) = true) (ty : TypeId) (ho : o.op = .alloc ty) (i : TypeInfo) (z : Value) (cs : List Value) (hi : P.info? ty = some i) (hz : i.zero = some z) (hc : z.cells = cs.toArray)
  {B : Nat} {w0 : World} (hb : Below B w0 w) (hB : B ≤ w.heap.size)
  (h : ∀ w', Blk w' w.heap.size ty cs → Below B w0 w' → w'.heap.size = w.heap.size + 1 → (∀ k, k < w.heap.size → w'.heap[k]? = w.heap[k]?) → wpList P ops Q rest (a.put o.dst (.pointer (some ⟨w.heap.size, 0, none⟩))) w') :
  wpList P ops Q (o :: rest) a w := by
 refine BigFrame.wpList_want hgd fun K hK => ?_
 unfold Oper.wp
 have hrun : (Instr.alloc ty true (.tuple #[])).run P w = .ok (.pointer (some ⟨w.heap.size, 0, none⟩)) (w.alloc (.cells cs.toArray ty)) := by
  have hzv : (zeroValue ty).run P w = .ok z w := by simp [zeroValue, typeInfo, hi, hz]
  simp [Instr.alloc, hzv, newVar, hc, run_newRow_blk]
 simp only [execOp, ho, hrun, Sem.run_bind, Result.andThen_ok, Sem.run_pure]
 exact hK _ _ (h _ (Blk.new w ty cs) (hb.alloc hB _) (by simp) (fun k hk => Below.heap_alloc w _ k hk))
theorem wpList_box (hgd : Region.wanted o (yielded ops a.tmps) = true) (ty : TypeId) (x : Operand) (ho : o.op = .box ty x) (cs : List Value) (hx : a.eval x = .agg cs.toArray)
  {B : Nat} {w0 : World} (hb : Below B w0 w) (hB : B ≤ w.heap.size)
  (h : ∀ w', Blk w' w.heap.size ty cs → Below B w0 w' → w'.heap.size = w.heap.size + 1 → (∀ k, k < w.heap.size → w'.heap[k]? = w.heap[k]?) → wpList P ops Q rest (a.put o.dst (.pointer (some ⟨w.heap.size, 0, none⟩))) w') :
  wpList P ops Q (o :: rest) a w := by
 refine BigFrame.wpList_want hgd fun K hK => ?_
 unfold Oper.wp
 have hrun : (Instr.box ty (.agg cs.toArray)).run P w = .ok (.pointer (some ⟨w.heap.size, 0, none⟩)) (w.alloc (.cells cs.toArray ty)) := by
  simp [Instr.box, newVar, Value.cells, run_newRow_blk]
 simp only [execOp, ho, hx, hrun, Sem.run_bind, Result.andThen_ok, Sem.run_pure]
 exact hK _ _ (h _ (Blk.new w ty cs) (hb.alloc hB _) (by simp) (fun k hk => Below.heap_alloc w _ k hk))
theorem wpList_bld (hgd : Region.wanted o (yielded ops a.tmps) = true) (t : TypeId) (parts : Array (Nat × Operand)) (ho : o.op = .build t parts) (cs : List Value)
  (hf : P.built t (parts.toList.map fun (i, x) => (i, a.eval x)) = some cs.toArray)
  (h : wpList P ops Q rest (a.put o.dst (.agg cs.toArray)) w) : wpList P ops Q (o :: rest) a w := by
 refine BigFrame.wpList_want hgd fun K hK => ?_
 rw [← Array.toList_map] at hf
 refine wp_build t parts ho (by rw [hf]; rfl) ?_
 rw [hf]
 exact hK _ _ h
theorem run_neq_bytes (t e : TypeId) (n : Nat) (ht : P.underlying t = some (.array n e)) (he : P.underlying e = some (.int .u8)) (hsz : ∀ w, (sizeOf e).run P w = .ok 1 w)
  (xs ys : List UInt8) (hx : xs.length = n) (hy : ys.length = n) :
  (binOp .neq t (.agg (bvs xs).toArray) (.agg (bvs ys).toArray)).run P w = .ok (.bool (!(xs == ys))) w := by
 rw [run_neq_struct]
 have := run_equalIn_bytes (P := P) w 9998 t e n ht he hsz xs ys hx hy
 have e1 : (bvs xs).toArray = (xs.map Extern.Stop.cell).toArray := rfl
 have e2 : (bvs ys).toArray = (ys.map Extern.Stop.cell).toArray := rfl
 rw [e1, e2, this]
 rfl
theorem run_eql_bytes' (t e : TypeId) (n : Nat) (ht : P.underlying t = some (.array n e)) (he : P.underlying e = some (.int .u8)) (hsz : ∀ w, (sizeOf e).run P w = .ok 1 w)
  (xs ys : List UInt8) (hx : xs.length = n) (hy : ys.length = n) :
  (binOp .eql t (.agg (bvs xs).toArray) (.agg (bvs ys).toArray)).run P w = .ok (.bool (xs == ys)) w :=
 run_eql_bytes (P := P) w t e n ht he hsz xs ys hx hy
theorem wpList_eqArr (hgd : Region.wanted o (yielded ops a.tmps) = true) (t e : TypeId) (n : Nat) (x y : Operand) (oT : TypeId) (ho : o.op = .binOp .eql t x y oT) (hm : P.eqGuardType P.depth t = false)
  (ht : P.underlying t = some (.array n e)) (he : P.underlying e = some (.int .u8)) (hsz : ∀ w, (sizeOf e).run P w = .ok 1 w)
  (xs ys : List UInt8) (hx : xs.length = n) (hy : ys.length = n) (ex : a.eval x = .agg (bvs xs).toArray) (ey : a.eval y = .agg (bvs ys).toArray)
  (h : wpList P ops Q rest (a.put o.dst (.bool (decide (xs = ys)))) w) : wpList P ops Q (o :: rest) a w := by
 refine BigFrame.wpList_want hgd fun K hK => ?_
 unfold Oper.wp
 have e1 : (xs == ys) = decide (xs = ys) := by rw [Bool.eq_iff_iff]; simp
 simp only [execOp, ho, ex, ey, Sem.run_bind, run_eqGuard_agg w .eql t x y _ _ hm, Result.andThen_ok, run_eql_bytes' t e n ht he hsz xs ys hx hy, Sem.run_pure, e1]
 exact hK _ _ h
theorem wpList_neArr (hgd : Region.wanted o (yielded ops a.tmps) = true) (t e : TypeId) (n : Nat) (x y : Operand) (oT : TypeId) (ho : o.op = .binOp .neq t x y oT) (hm : P.eqGuardType P.depth t = false)
  (ht : P.underlying t = some (.array n e)) (he : P.underlying e = some (.int .u8)) (hsz : ∀ w, (sizeOf e).run P w = .ok 1 w)
  (xs ys : List UInt8) (hx : xs.length = n) (hy : ys.length = n) (ex : a.eval x = .agg (bvs xs).toArray) (ey : a.eval y = .agg (bvs ys).toArray)
  (h : wpList P ops Q rest (a.put o.dst (.bool (!decide (xs = ys)))) w) : wpList P ops Q (o :: rest) a w := by
 refine BigFrame.wpList_want hgd fun K hK => ?_
 unfold Oper.wp
 have e1 : (xs == ys) = decide (xs = ys) := by rw [Bool.eq_iff_iff]; simp
 simp only [execOp, ho, ex, ey, Sem.run_bind, run_eqGuard_agg w .neq t x y _ _ hm, Result.andThen_ok, run_neq_bytes t e n ht he hsz xs ys hx hy, Sem.run_pure, e1]
 exact hK _ _ h
theorem wpList_ldArr (hgd : Region.wanted o (yielded ops a.tmps) = true) (ty : TypeId) (x : Operand) (ho : o.op = .load ty x)
  (g : Nat) (hx : a.eval x = .pointer (some ⟨g, 0, none⟩)) (t : TypeId) (cs : List Value) (d : TypeDesc) (hg : Blk w g t cs)
  (hu : P.underlying ty = some d) (hd : (match d with | .struct _ | .array _ _ => true | _ => false) = true) (hi : (P.info? ty).map (·.size) = some cs.length)
  (h : wpList P ops Q rest (a.put o.dst (.agg cs.toArray)) w) : wpList P ops Q (o :: rest) a w := by
 refine BigFrame.wpList_want hgd fun K hK => ?_
 exact wp_load_row ty x ho g hx t cs.toArray (0, 0) d hg hu hd (by simpa using hi) (hK _ _ h)
theorem results_blk2 {fn : Func} {p u : Tmp} {ty : TypeId} (h : fn.results = #[.cell p ty, .tmp u]) (tmps : Array Value) (w : World) (g : Nat) (t : TypeId) (cs : List Value) (d : TypeDesc) (v : Value)
  (hp : tmps.getD p undef = .pointer (some ⟨g, 0, none⟩)) (hv : tmps.getD u undef = v) (hg : Blk w g t cs)
  (hu : P.underlying ty = some d) (hd : (match d with | .struct _ | .array _ _ => true | _ => false) = true) (hi : (P.info? ty).map (·.size) = some cs.length) :
  (results fn tmps).run P w = .ok (.tuple #[.agg cs.toArray, v]) w := by
 have hl := run_loadVar_row (P := P) w g t ty cs.toArray (0, 0) d hg hu hd (by simpa using hi)
 have hp' : tmps[p]?.getD undef = .pointer (some ⟨g, 0, none⟩) := by simpa using hp
 have hv' : tmps[u]?.getD undef = v := by simpa using hv
 simp [results, h, hp', hv', asAddr, hl]
end
def wd (p : Nat → Bool) : Nat → Nat
 | 0 => 0
 | n + 1 => wd p n + if p n then 2 ^ n else 0
theorem wd_lt (p : Nat → Bool) : ∀ n, wd p n < 2 ^ n
 | 0 => by simp [wd]
 | n + 1 => by
  have := wd_lt p n
  simp only [wd, Nat.pow_succ]
  split <;> omega
theorem wd_bit (p : Nat → Bool) : ∀ (n j : Nat), (wd p n).testBit j = (decide (j < n) && p j)
 | 0, j => by simp [wd]
 | n + 1, j => by
  have ih := wd_bit p n
  have hlt := wd_lt p n
  simp only [wd]
  by_cases hn : p n
  ·rw [if_pos hn, Nat.add_comm]
   by_cases hj : j = n
   ·subst hj
    rw [Nat.testBit_two_pow_add_eq, ih j]
    simp [hn]
   ·by_cases hjn : j < n
    ·rw [Nat.testBit_two_pow_add_gt hjn, ih j]
     simp [hjn, Nat.lt_succ_of_lt hjn]
    ·have hgt : n < j := by omega
     have h2 : 2 ^ n + wd p n < 2 ^ j := by
      have : 2 ^ (n + 1) ≤ 2 ^ j := Nat.pow_le_pow_right (by omega) hgt
      rw [Nat.pow_succ] at this
      omega
     rw [Nat.testBit_lt_two_pow h2]
     simp; omega
  ·rw [if_neg hn, Nat.add_zero, ih j]
   by_cases hj : j = n
   ·subst hj
    simp [hn]
   ·have : decide (j < n + 1) = decide (j < n) := decide_eq_decide.2 (by omega)
    rw [this]
theorem wd_congr {p q : Nat → Bool} : ∀ {n : Nat}, (∀ j, j < n → p j = q j) → wd p n = wd q n
 | 0, _ => rfl
 | n + 1, h => by
  simp only [wd]
  rw [wd_congr (n := n) fun j hj => h j (by omega), h n (by omega)]
theorem wd_of (x n : Nat) (h : x < 2 ^ n) : wd (fun j => x.testBit j) n = x := by
 apply Nat.eq_of_testBit_eq
 intro j
 rw [wd_bit]
 by_cases hj : j < n
 ·simp [hj]
 ·rw [Nat.testBit_lt_two_pow (Nat.lt_of_lt_of_le h (Nat.pow_le_pow_right (by omega) (by omega)))]
  simp
theorem wd_zero {q : Nat → Bool} {n : Nat} (h : wd q n = 0) (j : Nat) (hj : j < n) : q j = false := by
 have := wd_bit q n j
 rw [h, Nat.zero_testBit, decide_eq_true hj, Bool.true_and] at this
 exact this.symm
def word (p : Nat → Bool) (i : Nat) : Nat := wd (fun j => p (64 * i + j)) 64
theorem word_lt (p : Nat → Bool) (i : Nat) : word p i < 18446744073709551616 := wd_lt _ 64
theorem word_bit (p : Nat → Bool) (b : Nat) : (word p (b / 64)).testBit (b % 64) = p b := by
 unfold word
 rw [wd_bit, decide_eq_true (Nat.mod_lt _ (by omega)), Bool.true_and, Nat.div_add_mod]
theorem word_shift (p : Nat → Bool) (b : Nat) : decide (word p (b / 64) / 2 ^ (b % 64) % 2 = 1) = p b := by
 rw [← word_bit p b, Nat.testBit_eq_decide_div_mod_eq]
theorem word_congr {p q : Nat → Bool} (h : ∀ b, b < 256 → p b = q b) (i : Nat) (hi : i < 4) : word p i = word q i := wd_congr fun j hj => h _ (by omega)
theorem word_or (p q : Nat → Bool) (i : Nat) : word p i ||| word q i = word (fun b => p b || q b) i := by
 apply Nat.eq_of_testBit_eq
 intro j
 rw [Nat.testBit_or]
 simp only [word, wd_bit]
 cases decide (j < 64) <;> simp
theorem word_and (p q : Nat → Bool) (i : Nat) : word p i &&& word q i = word (fun b => p b && q b) i := by
 apply Nat.eq_of_testBit_eq
 intro j
 rw [Nat.testBit_and]
 simp only [word, wd_bit]
 cases decide (j < 64) <;> simp
theorem word_put (p : Nat → Bool) (b : Nat) : word p (b / 64) ||| 2 ^ (b % 64) = word (fun c => p c || decide (c = b)) (b / 64) := by
 apply Nat.eq_of_testBit_eq
 intro j
 rw [Nat.testBit_or, Nat.testBit_two_pow]
 simp only [word, wd_bit]
 by_cases hj : j < 64
 ·have : decide (b % 64 = j) = decide (64 * (b / 64) + j = b) := decide_eq_decide.2 (by omega)
  simp [hj, this]
 ·have : ¬ b % 64 = j := by omega
  simp [hj, this]
theorem word_other (p : Nat → Bool) (b i : Nat) (hi : i ≠ b / 64) : word p i = word (fun c => p c || decide (c = b)) i := by
 refine wd_congr fun j hj => ?_
 have : ¬ 64 * i + j = b := by omega
 simp [this]
def wds (p : Nat → Bool) : List Value := [.int .u64 (word p 0 : Int), .int .u64 (word p 1 : Int), .int .u64 (word p 2 : Int), .int .u64 (word p 3 : Int)]
theorem wds_length (p : Nat → Bool) : (wds p).length = 4 := rfl
theorem wds_get (p : Nat → Bool) (i : Nat) (hi : i < 4) : (wds p)[i]? = some (.int .u64 (word p i : Int)) := by
 match i, hi with
 | 0, _ => rfl
 | 1, _ => rfl
 | 2, _ => rfl
 | 3, _ => rfl
theorem wds_all (p : Nat → Bool) : (wds p).all (·.oneCell') = true := rfl
theorem wds_congr {p q : Nat → Bool} (h : ∀ b, b < 256 → p b = q b) : wds p = wds q := by
 unfold wds
 rw [word_congr h 0 (by omega), word_congr h 1 (by omega), word_congr h 2 (by omega), word_congr h 3 (by omega)]
theorem wds_inj {p q : Nat → Bool} (h : wds p = wds q) (b : Nat) (hb : b < 256) : p b = q b := by
 have h2 : word p (b / 64) = word q (b / 64) := by
  have e1 := wds_get p (b / 64) (by omega)
  have e2 := wds_get q (b / 64) (by omega)
  rw [h, e2] at e1
  simp only [Option.some.injEq, Value.int.injEq, true_and] at e1
  omega
 rw [← word_bit p b, ← word_bit q b, h2]
theorem wds_put (p : Nat → Bool) (b : Nat) (hb : b < 256) : (wds p).set (b / 64) (.int .u64 ((word p (b / 64) ||| 2 ^ (b % 64) : Nat) : Int)) = wds (fun c => p c || decide (c = b)) := by
 have hb4 : b / 64 < 4 := by omega
 rw [word_put]
 have other := fun i (hi : i ≠ b / 64) => word_other p b i hi
 obtain ⟨i, hi⟩ : ∃ i, i = b / 64 := ⟨_, rfl⟩
 rw [← hi] at other hb4 ⊢
 match i, hb4 with
 | 0, _ => simp only [wds, List.set_cons_zero]; rw [← other 1 (by omega), ← other 2 (by omega), ← other 3 (by omega)]
 | 1, _ => simp only [wds, List.set_cons_zero, List.set_cons_succ]; rw [← other 0 (by omega), ← other 2 (by omega), ← other 3 (by omega)]
 | 2, _ => simp only [wds, List.set_cons_zero, List.set_cons_succ]; rw [← other 0 (by omega), ← other 1 (by omega), ← other 3 (by omega)]
 | 3, _ => simp only [wds, List.set_cons_zero, List.set_cons_succ]; rw [← other 0 (by omega), ← other 1 (by omega), ← other 2 (by omega)]
theorem wds_of (x0 x1 x2 x3 : Nat) (h0 : x0 < 18446744073709551616) (h1 : x1 < 18446744073709551616) (h2 : x2 < 18446744073709551616) (h3 : x3 < 18446744073709551616) :
  ∃ p : Nat → Bool, wds p = [.int .u64 (x0 : Int), .int .u64 (x1 : Int), .int .u64 (x2 : Int), .int .u64 (x3 : Int)] := by
 refine ⟨fun b => (if b / 64 = 0 then x0 else if b / 64 = 1 then x1 else if b / 64 = 2 then x2 else x3).testBit (b % 64), ?_⟩
 have key : ∀ (i x : Nat), x < 18446744073709551616 → (∀ j, j < 64 → (if (64 * i + j) / 64 = 0 then x0 else if (64 * i + j) / 64 = 1 then x1 else if (64 * i + j) / 64 = 2 then x2 else x3) = x) →
   word (fun b => (if b / 64 = 0 then x0 else if b / 64 = 1 then x1 else if b / 64 = 2 then x2 else x3).testBit (b % 64)) i = x := by
  intro i x hx hj
  unfold word
  rw [← wd_of x 64 hx]
  refine wd_congr fun j hj2 => ?_
  simp only
  rw [hj j hj2]
  congr 1
  omega
 unfold wds
 rw [key 0 x0 h0 fun j hj => if_pos (by omega), key 1 x1 h1 fun j hj => by rw [if_neg (by omega), if_pos (by omega)],
  key 2 x2 h2 fun j hj => by rw [if_neg (by omega), if_neg (by omega), if_pos (by omega)], key 3 x3 h3 fun j hj => by rw [if_neg (by omega), if_neg (by omega), if_neg (by omega)]]
theorem infoP {P : Program} {e : TypeId} {z : Value} {s b : Nat} (h : (P.info? e).map (fun i => (i.zero, i.size, i.bytes)) = some (some z, s, b)) : ∃ i, P.info? e = some i ∧ i.zero = some z ∧ i.size = s ∧ i.bytes = b := by
 obtain ⟨i, hi, h2⟩ := Option.map_eq_some_iff.1 h
 simp only [Prod.mk.injEq] at h2
 exact ⟨i, hi, h2.1, h2.2.1, h2.2.2⟩
theorem ownN (w : World) (B : Nat) (e : TypeId) : w.ownsRow B e 1 (.slice none 0 0) 0 [] := ⟨by simp, .inl ⟨rfl, rfl⟩⟩
theorem ownBelow {w w' : World} {base B : Nat} {e : TypeId} {v : Value} {n : Nat} {xs : List Value} (h : w.ownsRow base e 1 v n xs) (hb : Below B w w') (hB : w.heap.size ≤ B) : w'.ownsRow base e 1 v n xs := by
 refine ⟨h.1, ?_⟩
 rcases h.2 with h0 | ⟨g, cap, cur, rfl, hb2, hg, h3⟩
 ·exact .inl h0
 ·exact .inr ⟨g, cap, cur, rfl, hb2, (hb.block g (Nat.lt_of_lt_of_le (Array.getElem?_eq_some_iff.1 hg).1 hB)).trans hg, h3⟩
theorem ownMono {w : World} {base base' : Nat} {e : TypeId} {v : Value} {n : Nat} {xs : List Value} (h : w.ownsRow base e 1 v n xs) (hb : base' ≤ base) : w.ownsRow base' e 1 v n xs := by
 refine ⟨h.1, ?_⟩
 rcases h.2 with h0 | ⟨g, cap, cur, rfl, hb2, h3⟩
 ·exact .inl h0
 ·exact .inr ⟨g, cap, cur, rfl, Nat.le_trans hb hb2, h3⟩
theorem rowB {w : World} {g n : Nat} {t : TypeId} {cs : List Value} (h : Blk w g t cs) (hn : cs.length = n) (hl : n ≤ 1048576) : Row w (.slice (some ⟨g, 0, none⟩) n n) cs := by
 subst hn
 refine ⟨_, _, rfl, Nat.le_refl _, by unfold maxLen; omega, (fun h => by cases h), fun _ => ⟨g, 0, rfl, h.lt, fun i u hu => ?_⟩⟩
 rw [Nat.zero_add, h.cell i]
 exact hu
def memJ (p : Nat → Bool) (j : Nat) : List UInt8 := ((List.range j).filter p).map UInt8.ofNat
theorem memJ_succ (p : Nat → Bool) (j : Nat) : memJ p (j + 1) = if p j then memJ p j ++ [UInt8.ofNat j] else memJ p j := by
 unfold memJ
 rw [List.range_succ, List.filter_append, List.map_append]
 cases h : p j <;> simp [h]
theorem memJ_len (p : Nat → Bool) (j : Nat) : (memJ p j).length ≤ j := by
 unfold memJ
 rw [List.length_map]
 refine Nat.le_trans (List.length_filter_le _ _) ?_
 simp
theorem memJ_mem (p : Nat → Bool) (b : Nat) (hb : b < 256) : decide (UInt8.ofNat b ∈ memJ p 256) = p b := by
 rw [Bool.eq_iff_iff, decide_eq_true_iff]
 unfold memJ
 simp only [List.mem_map, List.mem_filter, List.mem_range]
 constructor
 ·rintro ⟨a, ⟨ha, hp⟩, he⟩
  have := congrArg UInt8.toNat he
  rw [UInt8.toNat_ofNat', UInt8.toNat_ofNat', Nat.mod_eq_of_lt (by omega), Nat.mod_eq_of_lt (by omega)] at this
  rw [← this]
  exact hp
 ·intro h
  exact ⟨b, ⟨hb, h⟩, rfl⟩
theorem bv_ofNat {j : Nat} (h : j < 256) : bv (UInt8.ofNat j) = .int .u8 (j : Int) := by
 unfold bv
 rw [UInt8.toNat_ofNat', Nat.mod_eq_of_lt h]
open Go.RowKit Go.ChangeShapes Go.WideShapes
def RowS (w : World) (v : Value) (ps : List (Nat → Bool)) : Prop :=
 ∃ A cap, v = .slice A ps.length cap ∧ ps.length ≤ cap ∧ cap ≤ maxLen ∧ (A = none → cap = 0) ∧
  (ps ≠ [] → ∃ b off, A = some ⟨b, off, none⟩ ∧ b < w.heap.size ∧ ∀ i p, ps[i]? = some p → w.rangeAt b (off + i * 4) (wds p))
theorem RowS.nil (w : World) : RowS w (.slice none 0 0) [] := ⟨none, 0, rfl, Nat.le_refl _, Nat.zero_le _, fun _ => rfl, fun h => absurd rfl h⟩
theorem range_below {w w' : World} {B b o : Nat} {cs : List Value} (h : w.rangeAt b o cs) (hb : Below B w w') (hB : b < B) : w'.rangeAt b o cs :=
 fun j v hv => (hb.cell (p := ⟨b, o + j, none⟩) hB).trans (h j v hv)
theorem RowS.below {w w' : World} {v : Value} {ps : List (Nat → Bool)} (h : RowS w v ps) (hb : Below w.heap.size w w') : RowS w' v ps := by
 obtain ⟨A, cap, hv, h1, h2, h0, h3⟩ := h
 refine ⟨A, cap, hv, h1, h2, h0, fun hne => ?_⟩
 obtain ⟨b, off, hA, hlt, hc⟩ := h3 hne
 exact ⟨b, off, hA, Nat.lt_of_lt_of_le hlt hb.size, fun i p hp => range_below (hc i p hp) hb hlt⟩
theorem RowS.at_ {w : World} {A : Option Addr} {n cap : Nat} {ps : List (Nat → Bool)} (h : RowS w (.slice A n cap) ps) (hne : 0 < ps.length) : ∃ b off, A = some ⟨b, off, none⟩ ∧ b < w.heap.size ∧ ∀ i p, ps[i]? = some p → w.rangeAt b (off + i * 4) (wds p) := by
 obtain ⟨A', cap', he, _, _, _, h3⟩ := h
 injection he with hA _ _
 subst hA
 exact h3 (by rintro rfl; simp at hne)
theorem RowS.len {w : World} {A : Option Addr} {n cap : Nat} {ps : List (Nat → Bool)} (h : RowS w (.slice A n cap) ps) : n = ps.length ∧ n ≤ cap ∧ cap ≤ maxLen := by
 obtain ⟨A', cap', he, h1, h2, h0, _⟩ := h
 injection he with hA hn hc
 subst hn
 subst hc
 exact ⟨rfl, h1, h2⟩
theorem ld_mid {P : Program} {a : Act} {oi : Oper} {B : Nat} {w0 : World} (ty : TypeId) (x : Operand) (ho : oi.op = .load ty x) (b o : Nat) (hx : a.eval x = .pointer (some ⟨b, o, none⟩)) (cs : List Value) (d : TypeDesc)
  (hg : w0.rangeAt b o cs) (hB : b < B) (hu : P.underlying ty = some d) (hd : d.isRow = true) (hi : (P.info? ty).map (·.size) = some cs.length) :
  ∀ W, Below B w0 W → (execOp a.eval oi).run P W = .ok (.value (.agg cs.toArray)) W := by
 intro W hW
 have hl := run_loadAt_mid (P := P) W b o ty cs d (range_below hg hW hB) hu hd hi
 simp only [execOp, ho, hx, Sem.run_bind, hl, Result.andThen_ok, Sem.run_pure]
theorem cells_range {w : World} {base b o n : Nat} {cs : List Value} (h : w.cells? base ⟨b, o, none⟩ n = some cs) : cs.length = n ∧ w.rangeAt b o cs := by
 obtain ⟨_, h2, h3⟩ := World.cells?_some h
 refine ⟨h2, fun j v hv => ?_⟩
 have hj : j < n := by rw [← h2]; exact (List.getElem?_eq_some_iff.1 hv).1
 have := h3 j hj
 rw [Addr.add_mid] at this
 rw [this, hv]
theorem set_of_trod {H : Type} {enc : TypeId × Value → H} {P : Program} {W : World} {base : Nat} {spare : Nat → Bool} {held : Bool} {e u : TypeId} {fuel : Nat} {cs : List Value} {x : DataW H × List MemPlace}
  (he : P.underlying e = some (.array 4 u)) (hu : P.underlying u = some (.int .u64)) (hcu : P.cellsOf u = 1) (hce : P.cellsOf e = 4)
  (h : DataW.trod enc P W base spare held fuel e cs = some x) : ∃ p : Nat → Bool, cs = wds p := by
 obtain ⟨xs, m, rfl, hx, hl, hxl, hall⟩ := DataW.trod_array he h
 rw [hce] at hl
 match cs, hl with
 | [c0, c1, c2, c3], _ =>
  have key : ∀ i (hi : i < 4), ∃ n : Int, [c0, c1, c2, c3][i] = .int .u64 n ∧ (Lit.int .u64 n).wf = true := by
   intro i hi
   have h1 := hall i hi
   rw [hcu, Nat.mul_one, List.getElem?_eq_getElem (by omega)] at h1
   have hd : ([c0, c1, c2, c3].drop i).take 1 = [[c0, c1, c2, c3][i]] := by
    rw [List.drop_eq_getElem_cons (by simpa using hi)]
    rfl
   rw [hd] at h1
   obtain ⟨a, ha, _, hwf⟩ := DataW.trod_int hu h1
   exact ⟨a, by simpa using ha, hwf⟩
  obtain ⟨n0, e0, w0⟩ := key 0 (by omega)
  obtain ⟨n1, e1, w1⟩ := key 1 (by omega)
  obtain ⟨n2, e2, w2⟩ := key 2 (by omega)
  obtain ⟨n3, e3, w3⟩ := key 3 (by omega)
  have b0 := bounds_u64 w0
  have b1 := bounds_u64 w1
  have b2 := bounds_u64 w2
  have b3 := bounds_u64 w3
  obtain ⟨m0, rfl⟩ := Int.eq_ofNat_of_zero_le b0.1
  obtain ⟨m1, rfl⟩ := Int.eq_ofNat_of_zero_le b1.1
  obtain ⟨m2, rfl⟩ := Int.eq_ofNat_of_zero_le b2.1
  obtain ⟨m3, rfl⟩ := Int.eq_ofNat_of_zero_le b3.1
  obtain ⟨p, hp⟩ := wds_of m0 m1 m2 m3 (by omega) (by omega) (by omega) (by omega)
  refine ⟨p, ?_⟩
  rw [hp]
  simp only [List.getElem_cons_zero, List.getElem_cons_succ] at e0 e1 e2 e3
  rw [e0, e1, e2, e3]
section
variable {P : Program} {ops : Array Oper} {Q : Exit → Act → World → Prop} {md : Region.Mode}
theorem sx_take {i : Nat} {oi : Oper} {v : Value} {fuel : Nat} {listed : Array Bool} {a : Act} {B : Nat} {w0 w : World} (hi : ops[i]? = some oi)
  (hs : Region.noSelect ops = true) (hf : Region.free md ops listed i = true) (hr : (Region.ready md ops listed).contains i = true)
  (hQ : ∀ c a w, Q (.panic c) (a.put oi.dst v) w → Q (.panic c) a w) (hw : Region.wanted oi (yielded ops a.tmps) = true) (hS : Below B w0 w)
  (hy : ∀ W, Below B w0 W → (execOp a.eval oi).run P W = .ok (.value v) W)
  (h : wpAnyH P md ops Q (Below B w0) fuel (listed.setIfInBounds i true) (a.put oi.dst v) w) : wpAnyH P md ops Q (Below B w0) (fuel + 1) listed a w :=
 wpAnyH_take hi hs hf hr hQ (.inl ⟨hw, hy⟩) hS h
theorem sx_skip {i : Nat} {oi : Oper} {fuel : Nat} {listed : Array Bool} {a : Act} {B : Nat} {w0 w : World} (hi : ops[i]? = some oi)
  (hs : Region.noSelect ops = true) (hf : Region.free md ops listed i = true) (hr : (Region.ready md ops listed).contains i = true)
  (hQ : ∀ c a w, Q (.panic c) (a.put oi.dst undef) w → Q (.panic c) a w) (hw : Region.wanted oi (yielded ops a.tmps) = false) (hS : Below B w0 w)
  (h : wpAnyH P md ops Q (Below B w0) fuel (listed.setIfInBounds i true) (a.put oi.dst undef) w) : wpAnyH P md ops Q (Below B w0) (fuel + 1) listed a w :=
 wpAnyH_take hi hs hf hr hQ (.inr ⟨hw, rfl⟩) hS h
theorem sx_actB {i : Nat} {o : Oper} {fuel : Nat} {listed : Array Bool} {a : Act} {B : Nat} {w0 w : World} (hi : ops[i]? = some o) (hr : Region.ready md ops listed = [i])
  (hw : Region.wanted o (yielded ops a.tmps) = true) (hS : Below B w0 w)
  (h : ∀ K : Act → World → Prop, (∀ a' w', Below B w w' → wpAnyH P md ops Q (Below B w0) fuel (listed.setIfInBounds i true) a' w' → K a' w') → o.wp P a w K Q) :
  wpAnyH P md ops Q (Below B w0) (fuel + 1) listed a w := by
 refine wpAnyH_all hr (by simp) (fun j hj => ?_)
 have hji : j = i := by simpa using hj
 subst hji
 unfold wpOp
 rw [hi]
 simp only [hw, if_true]
 exact .inl (h _ fun a' w' hx hk => ⟨hS.trans hx, hk⟩)
theorem sx_startB {id : Nat} {a : Act} {w : World} {B : Nat} {w0 : World} (hm : P.follows .mixedOrders = true) (hS : Below B w0 w)
  (h : ∀ wd, wd = w.drew → Below B w0 wd → wpAnyH P .any ops Q (Below B w0) ops.size (Array.replicate ops.size false) a wd) : (Code.region id ops true).wp P Q a w :=
 wp_region_held_drew hm hS.drew (h _ rfl)
end
end Go.Proofs.YteadghoojeehlaaGreatDoor
