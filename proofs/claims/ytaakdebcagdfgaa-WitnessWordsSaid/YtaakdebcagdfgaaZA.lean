/-
  Texts of this proof, put together: Base, Open, Row, Struct, Arr, SetP, OwnS, RowS, Reg, SetA, SetB, SetC, SetS, SetQ, RxT. No statement is proved here.
-/
import Derived.WalkKit
import Derived.Lib.Hide
import Derived.Laws.CopyOwn
import Derived.Deep.Draws
import Derived.Laws.AppendOwnNone
import Derived.Test.YtaakdebcagdfgaaRows
import Derived.ProofKit
import Derived.OpenShut
import Derived.ShutString
import Derived.ChangeOld
import Derived.Laws.OwnMore
import Derived.Stop.BytesEq
import Derived.Laws.IdiomStrings
import Derived.Laws.Tables
import Derived.Laws.BitsAllLaws
import Derived.Deep.MidRow
import Derived.Deep.Slices
import Derived.DataReads
import Derived.Deep.RegionHeld
import Derived.Test.YtaakdebcagdfgaaProg
import Derived.StillTailTactics
import Derived.Deep.QuietTactic
import Derived.BigQuiet
import Derived.Laws.MakeOwn
import Derived.Laws.IdiomCopy
namespace Go.Proofs.Ytaakdebcagdfgaa
open Go.RowKit
theorem qH {p : Prop} (h : p) : Hid p := Lib.hid h
theorem qA {α : Type} (l : List α) (i : Nat) (a : α) : l.toArray.setIfInBounds i a = (l.set i a).toArray := List.setIfInBounds_toArray l i a
theorem qB {α : Type} (x b : α) (l : List α) : (x :: l).set 0 b = b :: l := rfl
theorem qC {α : Type} (x b : α) (l : List α) (n : Nat) : (x :: l).set (n + 1) b = x :: l.set n b := rfl
/-! ### bytes as values -/
abbrev bv (c : UInt8) : Value := .int .u8 (c.toNat : Int)
def bvs (l : List UInt8) : List Value := l.map bv
theorem bvs_length (l : List UInt8) : (bvs l).length = l.length := by simp [bvs]
theorem bvs_append (l m : List UInt8) : bvs (l ++ m) = bvs l ++ bvs m := by simp [bvs]
theorem bvs_one (l : List UInt8) : ∀ u ∈ bvs l, u.oneCell' = true := by
 intro u hu
 obtain ⟨c, _, rfl⟩ := List.mem_map.1 hu
 rfl
theorem bvs_get (l : List UInt8) (i : Nat) (c : UInt8) (h : l[i]? = some c) : (bvs l)[i]? = some (bv c) := by simp [bvs, h]
def le : Nat → Nat → List UInt8
 | _, 0 => []
 | v, n + 1 => UInt8.ofNat (v % 256) :: le (v / 256) n
def num : List UInt8 → Nat
 | [] => 0
 | c :: r => c.toNat + 256 * num r
/-! ### rows of cells -/
def Row (w : World) (v : Value) (xs : List Value) : Prop :=
 ∃ A cap, v = .slice A xs.length cap ∧ xs.length ≤ cap ∧ cap ≤ maxLen ∧ (A = none → cap = 0) ∧
  (xs ≠ [] → ∃ b off, A = some ⟨b, off, none⟩ ∧ b < w.heap.size ∧ ∀ i u, xs[i]? = some u → w.cell? ⟨b, off + i, none⟩ = some u)
theorem Row.nil (w : World) : Row w (.slice none 0 0) [] := ⟨none, 0, rfl, Nat.le_refl _, Nat.zero_le _, fun _ => rfl, fun h => absurd rfl h⟩
theorem Row.keep {w w' : World} {v : Value} {xs : List Value} (h : Row w v xs) (hs : w.heap.size ≤ w'.heap.size) (hk : ∀ p : Addr, p.block < w.heap.size → w'.cell? p = w.cell? p) : Row w' v xs := by
 obtain ⟨A, cap, hv, h1, h2, h0, h3⟩ := h
 refine ⟨A, cap, hv, h1, h2, h0, fun hne => ?_⟩
 obtain ⟨b, off, hA, hb, hc⟩ := h3 hne
 exact ⟨b, off, hA, by omega, fun i u hu => (hk ⟨b, off + i, none⟩ hb).trans (hc i u hu)⟩
theorem Row.below {w w' : World} {v : Value} {xs : List Value} (h : Row w v xs) (hb : Below w.heap.size w w') : Row w' v xs :=
 h.keep hb.size fun _ hp => hb.cell hp
theorem Row.drew {w : World} {v : Value} {xs : List Value} (h : Row w v xs) : Row w.drew v xs := h
theorem Row.drewN {w : World} {v : Value} {xs : List Value} (h : Row w v xs) (n : Nat) : Row (w.drewN n) v xs := h
def RowB (B : Nat) (w : World) (v : Value) (xs : List Value) : Prop :=
 ∃ A cap, v = .slice A xs.length cap ∧ xs.length ≤ cap ∧ cap ≤ maxLen ∧ (A = none → cap = 0) ∧
  (xs ≠ [] → ∃ b off, A = some ⟨b, off, none⟩ ∧ b < B ∧ b < w.heap.size ∧ ∀ i u, xs[i]? = some u → w.cell? ⟨b, off + i, none⟩ = some u)
theorem Row.toB {w : World} {v : Value} {xs : List Value} (h : Row w v xs) : RowB w.heap.size w v xs := by
 obtain ⟨A, cap, hv, h1, h2, h0, h3⟩ := h
 refine ⟨A, cap, hv, h1, h2, h0, fun hne => ?_⟩
 obtain ⟨b, off, hA, hb, hc⟩ := h3 hne
 exact ⟨b, off, hA, hb, hb, hc⟩
theorem RowB.row {B : Nat} {w : World} {v : Value} {xs : List Value} (h : RowB B w v xs) : Row w v xs := by
 obtain ⟨A, cap, hv, h1, h2, h0, h3⟩ := h
 refine ⟨A, cap, hv, h1, h2, h0, fun hne => ?_⟩
 obtain ⟨b, off, hA, _, hb, hc⟩ := h3 hne
 exact ⟨b, off, hA, hb, hc⟩
theorem RowB.below {B : Nat} {w w' : World} {v : Value} {xs : List Value} (h : RowB B w v xs) (hb : Below B w w') : RowB B w' v xs := by
 obtain ⟨A, cap, hv, h1, h2, h0, h3⟩ := h
 refine ⟨A, cap, hv, h1, h2, h0, fun hne => ?_⟩
 obtain ⟨b, off, hA, hbB, hbw, hc⟩ := h3 hne
 exact ⟨b, off, hA, hbB, by have := hb.size; omega, fun i u hu => (hb.cell (p := ⟨b, off + i, none⟩) hbB).trans (hc i u hu)⟩
theorem Row.of_own {w : World} {base : Nat} {e : TypeId} {v : Value} {n : Nat} {xs : List Value} (h : w.ownsRow base e 1 v n xs) : Row w v xs := by
 have hl : xs.length = n := by simpa using h.1
 rcases h.2 with ⟨rfl, hn⟩ | ⟨g, cap, cur, rfl, hb, hg, hnc, hcm, hcs, htake⟩
 ·obtain rfl : xs = [] := List.eq_nil_of_length_eq_zero (by omega)
  exact Row.nil w
 ·refine ⟨some ⟨g, 0, none⟩, cap, by rw [hl], by omega, hcm, (fun h => by cases h), fun _ => ⟨g, 0, rfl, (Array.getElem?_eq_some_iff.1 hg).1, fun i u hu => ?_⟩⟩
  have := h.cells (g := g) rfl i u hu
  rwa [Addr.add_lit] at this
def Blk (w : World) (g : Nat) (t : TypeId) (cs : List Value) : Prop := w.heap[g]? = some (.cells cs.toArray t (0, 0))
section
variable {w w' : World} {g : Nat} {t : TypeId} {cs : List Value}
theorem Blk.lt (h : Blk w g t cs) : g < w.heap.size := (Array.getElem?_eq_some_iff.1 h).1
theorem Blk.cell (h : Blk w g t cs) (i : Nat) : w.cell? ⟨g, i, none⟩ = cs[i]? := by
 rw [cell_of_row w g i cs.toArray t (0, 0) h]; simp
theorem Blk.frozen (h : Blk w g t cs) (i : Nat) : w.frozen? ⟨g, i, none⟩ = false := by
 unfold Blk at h
 simp [World.frozen?, h]
theorem Blk.new (w : World) (t : TypeId) (cs : List Value) : Blk (w.alloc (.cells cs.toArray t)) w.heap.size t cs := heap_alloc_new w _
theorem Blk.drew (h : Blk w g t cs) : Blk w.drew g t cs := h
theorem Blk.alloc (h : Blk w g t cs) (o : Obj) : Blk (w.alloc o) g t cs := (Below.heap_alloc w o g h.lt).trans h
theorem Blk.set (h : Blk w g t cs) (i : Nat) (u : Value) : Blk (w.setCell ⟨g, i, none⟩ u) g t (cs.set i u) := by
 unfold Blk at h ⊢
 simp [World.setCell, Array.getElem?_modify, h]
theorem Blk.far (h : Blk w g t cs) {p : Addr} (hp : g ≠ p.block) (u : Value) : Blk (w.setCell p u) g t cs := (Below.heap_setCell w p u g hp).trans h
theorem Blk.below {B : Nat} (h : Blk w g t cs) (hb : Below B w w') (hg : g < B) : Blk w' g t cs := (hb.block g hg).trans h
theorem Blk.grown {row : Option Nat} (h : Blk w g t cs) (hb : w.grownBy w' row) (hg : some g ≠ row) : Blk w' g t cs := (hb.block g h.lt hg).trans h
theorem Blk.own {base : Nat} (h : Blk w g t cs) (hb : base ≤ g) (hm : cs.length ≤ maxLen) : w.ownsRow base t 1 (.slice (some ⟨g, 0, none⟩) cs.length cs.length) cs.length cs :=
 ⟨by simp, .inr ⟨g, cs.length, cs.toArray, rfl, hb, h, Nat.le_refl _, hm, by simp, by simp⟩⟩
end
def wr (w : World) (g : Nat) : Nat → List Value → World
 | _, [] => w
 | off, c :: r => (wr w g (off + 1) r).setCell ⟨g, off, none⟩ c
/-! ### ends -/
/-! ### laws of the walk -/
theorem wpList_mk {P : Program} (w : World) {ops : Array Oper} {rest : List Oper} {o : Oper} {a : Act} {Q : Exit → Act → World → Prop}
  (hg : o.guard = none) (l c : Operand) (t : TypeId) (hop : o.op = Op.makeSlice t l c)
  (e : TypeId) (i : TypeInfo) (z : Value) (h1 : P.underlying t = some (.slice e)) (h2 : P.info? e = some i) (h3 : i.zero = some z) (h4 : i.size = 1) (hz : z.cells = #[z])
  (n : Nat) (kl kc : IntKind) (L C : Int) (hl : a.eval l = .int kl L) (hc : a.eval c = .int kc C) (hL : L = (n : Int)) (hC : C = (n : Int)) (b2 : i.bytes * n ≤ 281474976710656) (b3 : n ≤ 9223372036854775807)
  (hK : ∀ w', Blk w' w.heap.size e (List.replicate n z) → Below w.heap.size w w' → w.heap.size < w'.heap.size → wpList P ops Q rest (a.put o.dst (.slice (some ⟨w.heap.size, 0, none⟩) n n)) w') :
  wpList P ops Q (o :: rest) a w := by
 refine wpList_plain hg fun K hK' => ?_
 subst hL
 subst hC
 have hb : (i.bytes : Int) * (n : Int) ≤ 281474976710656 := by
  have h : ((i.bytes * n : Nat) : Int) ≤ 281474976710656 := by omega
  rwa [Int.natCast_mul] at h
 have hrun := run_make (P := P) w t e i z h1 h2 h3 kl kc n n (by omega) (Int.le_refl _) hb (by omega)
 simp only [Int.toNat_natCast, h4, Nat.mul_one] at hrun
 unfold Oper.wp
 simp [execOp, hop, hl, hc, hrun, Result.andThen]
 refine hK' _ _ (hK _ ?_ ((Below.refl _ _).alloc (Nat.le_refl _) _) (by simp))
 have he : madeCells z.cells n = (List.replicate n z).toArray := by
  apply Array.ext'
  rw [hz]
  simp only [madeCells, Array.toList_map, Array.toList_range]
  apply List.ext_getElem
  ·simp
  ·intro j h1 h2
   simp [Nat.mod_one]
 rw [he]
 exact Blk.new w e _
theorem atDst (d : Tmp) {P : Program} {w : World} {ops : Array Oper} {rest : List Oper} {op : Op} {t : TypeId} {p : String} {af : Array Edge} {g : Option (Tmp × Bool)} {a : Act} {Q : Exit → Act → World → Prop}
  (h : wpList P ops Q (⟨some d, op, t, p, af, g⟩ :: rest) a w) : wpList P ops Q (⟨some d, op, t, p, af, g⟩ :: rest) a w := h
theorem wpList_app {P : Program} {w : World} {ops : Array Oper} {rest : List Oper} {o : Oper} {a : Act} {Q : Exit → Act → World → Prop} (hgd : o.guard = none) (s x : Operand) (t : TypeId)
  (ho : o.op = .call { callee := .builtin .append, args := #[s, x], argTypes := #[t, t] })
  (base : Nat) (e : TypeId) (i : TypeInfo) (z : Value) (bytes : Nat) (ht : P.underlying t = some (.slice e)) (hi : P.info? e = some i) (hz : i.zero = some z)
  (hsize : i.size = 1) (hby : i.bytes = bytes) (hzs : z.cells.size = 1)
  (v : Value) (n : Nat) (xs : List Value) (hs : a.eval s = v) (hown : w.ownsRow base e 1 v n xs)
  (u : Value) (news : List Value) (hx : a.eval x = u) (hr : Row w u news) (h1 : ∀ u ∈ news, u.oneCell' = true)
  (h63 : n + news.length ≤ maxLen) (hbytes : (n + news.length) * bytes ≤ 140737488355328) (hbase : base ≤ w.heap.size)
  (h : ∀ v' w', w'.ownsRow base e 1 v' (n + news.length) (xs ++ news) → w.grownBy w' v.ownBlock → wpList P ops Q rest (a.put o.dst v') w') : wpList P ops Q (o :: rest) a w := by
 obtain ⟨A, cap, rfl, hl, hm, h0, hc⟩ := hr
 cases A with
 | none =>
  have hcap : cap = 0 := h0 rfl
  subst hcap
  have hn : news = [] := List.eq_nil_of_length_eq_zero (by omega)
  subst hn
  refine wpList_append_own_none hgd s x t ho base e i 1 ht hi v n xs hs hown hx ?_
  exact h v w (by simpa using hown) (World.grownBy.refl _ _)
 | some ad =>
  refine wpList_append_own w hgd s x t ho base e i z 1 bytes ht hi hz hsize hby hzs (by omega) v n xs hs hown ad news.length cap news hx (by omega) ?_ h1 h63 hbytes hbase (fun v' w' h2 h3 _ => h v' w' h2 h3)
  intro j u hj
  obtain ⟨b, off, hA, _, hcell⟩ := hc (by intro e; rw [e] at hj; simp at hj)
  injection hA with hA
  subst hA
  rw [Addr.add_lit]
  exact hcell j u hj
/-! ### []byte to string -/
theorem str_of_nums (l : List UInt8) : strOfNums (l.map fun c => (c.toNat : Int)) = ⟨l.toArray⟩ := by
 unfold strOfNums
 congr 1
 rw [List.map_map]
 congr 1
 conv => rhs; rw [← List.map_id l]
 apply List.map_congr_left
 intro c _
 simp
theorem conv_row {P : Program} {w : World} {v : Value} {l : List UInt8} (h : Row w v (bvs l)) (src e dst : TypeId) (hs : P.underlying src = some (.slice e)) (he : P.underlying e = some (.int .u8)) (hd : P.underlying dst = some .string) :
  (convert src dst v).run P w = .ok (.string ⟨l.toArray⟩) w := by
 obtain ⟨A, cap, rfl, h1, h2, h0, h3⟩ := h
 rw [bvs_length]
 cases l with
 | nil =>
  cases A with
  | none => exact run_convert_bytes_nil w src e hs he _ _ dst hd
  | some a =>
   rw [run_convert_bytes_string w src dst e _ _ cap hs he hd]
   have := run_bytesToString (P := P) w a 0 cap [] (by simp [loadCells, loadCellsFrom])
   exact this
 | cons c r =>
  obtain ⟨b, off, rfl, _, hc⟩ := h3 (by simp [bvs])
  rw [run_convert_bytes_arg (P := P) w src e hs he b off (c :: r).length cap ((c :: r).map fun c => (c.toNat : Int)) (by simp) (fun i hi => ?_) dst hd, str_of_nums]
  rw [hc i (bv (c :: r)[i]) (by simp only [bvs, List.getElem?_map, List.getElem?_eq_getElem hi, Option.map_some])]
  simp only [List.getD, List.getElem?_map, List.getElem?_eq_getElem hi, Option.map_some, Option.getD_some]
/-! ### more on rows -/
theorem own_form {w : World} {base : Nat} {e : TypeId} {v : Value} {n : Nat} {xs : List Value} (h : w.ownsRow base e 1 v n xs) (hn : 0 < n) :
  ∃ g cap, v = .slice (some ⟨g, 0, none⟩) n cap ∧ base ≤ g ∧ g < w.heap.size ∧ n ≤ cap ∧ cap ≤ maxLen := by
 rcases h.2 with ⟨_, h0⟩ | ⟨g, cap, cur, rfl, hb, hg, hnc, hcm, _, _⟩
 ·omega
 ·exact ⟨g, cap, rfl, hb, (Array.getElem?_eq_some_iff.1 hg).1, hnc, hcm⟩
theorem Row.take {w : World} {A : Option Addr} {cap : Nat} {xs : List Value} (h : Row w (.slice A xs.length cap) xs) (k : Nat) (hk : k ≤ xs.length) : Row w (.slice A k cap) (xs.take k) := by
 obtain ⟨A', cap', he, h1, h2, h0, h3⟩ := h
 injection he with hA hl hc
 subst hA
 subst hc
 have hlen : (xs.take k).length = k := by simp; omega
 refine ⟨A, cap, by rw [hlen], by omega, h2, h0, fun hne => ?_⟩
 obtain ⟨b, off, hA, hb, hcell⟩ := h3 (by rintro rfl; simp at hne)
 refine ⟨b, off, hA, hb, fun i u hu => hcell i u ?_⟩
 rw [List.getElem?_take] at hu
 split at hu
 ·exact hu
 ·cases hu
open Go.ChangeShapes Go.WideShapes Go.ChangeAt Go.RowKit
set_option linter.unusedVariables false
theorem own : ownKnob Try.prog.godebug = none := by kernel_rfl
theorem laidOut : laidOutB Try.prog = true := by kernel_rfl
theorem u8_of_wf {x : Int} (h : (Lit.int .u8 x).wf = true) : 0 ≤ x ∧ x < 256 := by
 have h1 : IntKind.u8.min = 0 := rfl
 have h2 : IntKind.u8.max = 255 := rfl
 simp only [Lit.wf, Bool.and_eq_true, decide_eq_true_eq] at h
 omega
theorem open_bytes {H : Type} {enc : TypeId × Value → H} {P : Program} {t e : TypeId} (ht : P.underlying t = some (.slice e)) (he : P.underlying e = some (.int .u8)) (hc : P.cellsOf e = 1) {W : World} {a : Option Addr} {len cap : Nat} {d : DataW H} {p : List MemPlace}
  (h : DataW.Trod enc P W 0 (fun _ => true) true t (.slice a len cap) d p) : ∃ l : List UInt8, Row W (.slice a len cap) (bvs l) := by
 obtain ⟨fuel, hf⟩ := h
 rcases open_ints ht he hc hf with ⟨hcs, _⟩ | ⟨x, l, c, zs, hcs, _, hl, hm, hz, _, hcell, hwz⟩
 ·simp [Value.cells] at hcs
  obtain ⟨rfl, rfl, rfl⟩ := hcs
  exact ⟨[], Row.nil W⟩
 ·simp [Value.cells] at hcs
  obtain ⟨rfl, rfl, rfl⟩ := hcs
  have hz' : zs.length = cap := by simpa using hz
  have hlen : (bvs ((zs.take len).map fun n => UInt8.ofNat n.toNat)).length = len := by simp [bvs]; omega
  refine ⟨(zs.take len).map fun n => UInt8.ofNat n.toNat, some x, cap, by rw [hlen], by omega, hm, (fun h => by cases h), fun hne => ?_⟩
  have hpos : 0 < len := by
   rcases Nat.eq_zero_or_pos len with h0 | h0
   ·subst h0; exact absurd rfl hne
   ·exact h0
  obtain ⟨b, off, spot⟩ := x
  have hc0 := hcell 0 (by omega)
  have hspot : spot = none := by simpa [Addr.add] using World.cell?_spot hc0
  subst hspot
  refine ⟨b, off, rfl, by have := World.block_lt_of_cell? _ _ hc0; rwa [Addr.add_lit] at this, fun i u hu => ?_⟩
  have hi : i < len := by
   have := (List.getElem?_eq_some_iff.1 hu).1
   rwa [hlen] at this
  have := hcell i (by omega)
  rw [Addr.add_lit] at this
  rw [this, ← hu]
  have hiz : i < zs.length := by omega
  have hw := u8_of_wf (hwz zs[i] (List.getElem_mem hiz))
  simp only [bvs, List.map_map, List.getElem?_map, List.getElem?_take, hi, if_true, List.getElem?_eq_getElem hiz, Option.map_some, List.getD, Option.getD_some, Function.comp, bv, Option.some.injEq, Value.int.injEq, true_and]
  have : (UInt8.ofNat (zs[i]).toNat).toNat = (zs[i]).toNat := by
   rw [UInt8.toNat_ofNat']
   exact Nat.mod_eq_of_lt (by omega)
  rw [this]
  omega
set_option linter.unusedSimpArgs false
theorem Row.at_ {w : World} {A : Option Addr} {n cap : Nat} {xs : List Value} (h : Row w (.slice A n cap) xs) (hne : 0 < xs.length) : ∃ b off, A = some ⟨b, off, none⟩ ∧ b < w.heap.size ∧ ∀ i u, xs[i]? = some u → w.cell? ⟨b, off + i, none⟩ = some u := by
 obtain ⟨A', cap', he, _, _, _, h3⟩ := h
 injection he with hA _ _
 subst hA
 exact h3 (by rintro rfl; simp at hne)
theorem Row.len {w : World} {A : Option Addr} {n cap : Nat} {xs : List Value} (h : Row w (.slice A n cap) xs) : n = xs.length ∧ n ≤ cap ∧ cap ≤ maxLen ∧ (A = none → cap = 0) := by
 obtain ⟨A', cap', he, h1, h2, h0, _⟩ := h
 injection he with hA hn hc
 subst hA
 subst hn
 subst hc
 exact ⟨rfl, h1, h2, h0⟩
theorem Row.drop {w : World} {A : Option Addr} {cap : Nat} {xs : List Value} (h : Row w (.slice A xs.length cap) xs) (k : Nat) (hk : k < xs.length) :
  ∃ b off, A = some ⟨b, off, none⟩ ∧ Row w (.slice (some ⟨b, off + k, none⟩) (xs.length - k) (cap - k)) (xs.drop k) := by
 obtain ⟨A', cap', he, h1, h2, h0, h3⟩ := h
 injection he with hA hl hc
 subst hA
 subst hc
 obtain ⟨b, off, rfl, hb, hcell⟩ := h3 (by rintro rfl; simp at hk)
 refine ⟨b, off, rfl, some ⟨b, off + k, none⟩, cap - k, by rw [List.length_drop], by rw [List.length_drop]; omega, by omega, (fun h => by cases h), fun _ => ⟨b, off + k, rfl, hb, fun i u hu => ?_⟩⟩
 rw [Nat.add_assoc]
 refine hcell (k + i) u ?_
 rw [← hu, List.getElem?_drop]
def nums (k : IntKind) (l : List Int) : List Value := l.map fun n => .int k n
theorem nums_length (k : IntKind) (l : List Int) : (nums k l).length = l.length := by simp [nums]
theorem nums_append (k : IntKind) (l m : List Int) : nums k (l ++ m) = nums k l ++ nums k m := by simp [nums]
theorem nums_one (k : IntKind) (l : List Int) : ∀ u ∈ nums k l, u.oneCell' = true := by
 intro u hu
 obtain ⟨c, _, rfl⟩ := List.mem_map.1 hu
 rfl
abbrev ints (l : List Int) : List Value := nums .i64 l
def bools (l : List Bool) : List Value := l.map fun b => .bool b
theorem bools_length (l : List Bool) : (bools l).length = l.length := by simp [bools]
theorem bools_one (l : List Bool) : ∀ u ∈ bools l, u.oneCell' = true := by
 intro u hu
 obtain ⟨c, _, rfl⟩ := List.mem_map.1 hu
 rfl
section
variable {P : Program} {w : World} {ops : Array Oper} {rest : List Oper} {o : Oper} {a : Act} {Q : Exit → Act → World → Prop}
theorem atStore (ty : TypeId) (x y : Tmp) {t : TypeId} {p : String} {af : Array Edge} {g : Option (Tmp × Bool)}
  (h : wpList P ops Q (⟨none, .store ty (.tmp x) (.tmp y), t, p, af, g⟩ :: rest) a w) : wpList P ops Q (⟨none, .store ty (.tmp x) (.tmp y), t, p, af, g⟩ :: rest) a w := h
theorem wpList_stBlk (hgd : o.guard = none) (ty : TypeId) (x y : Operand) (ho : o.op = .store ty x y)
  (g : Nat) (cs : List Value) (hx : a.eval x = .pointer (some ⟨g, 0, none⟩)) (hy : a.eval y = .agg cs.toArray)
  (t : TypeId) (old : List Value) (hg : Blk w g t old) (hi : (P.info? ty).map (·.size) = some cs.length)
  (hold : old.length = cs.length) (h1 : cs.all (·.oneCell') = true) {B : Nat} {w0 : World} (hb : Below B w0 w) (hB : B ≤ g)
  (h : ∀ w', Blk w' g t cs → Below B w0 w' → w'.heap.size = w.heap.size → (∀ k, k ≠ g → w'.heap[k]? = w.heap[k]?) → wpList P ops Q rest (a.put o.dst undef) w') : wpList P ops Q (o :: rest) a w :=
 wpList_store_row hgd ty x y ho g cs.toArray hx hy t old.toArray hg (by simpa using hi) (by simpa using hold) (by simpa using h1)
  (h _ (setRow_heap w g old.toArray cs.toArray t (0, 0) hg) (below_setRow hb hB _) (by simp) (fun k hk => setRow_other w g k _ hk))
theorem results_blk {fn : Func} {p : Tmp} {ty : TypeId} (h : fn.results = #[.cell p ty]) (tmps : Array Value) (w : World) (g : Nat) (t : TypeId) (cs : List Value) (d : TypeDesc)
  (hp : tmps.getD p undef = .pointer (some ⟨g, 0, none⟩)) (hg : Blk w g t cs)
  (hu : P.underlying ty = some d) (hd : (match d with | .struct _ | .array _ _ => true | _ => false) = true) (hi : (P.info? ty).map (·.size) = some cs.length) :
  (results fn tmps).run P w = .ok (.agg cs.toArray) w :=
 results_cell_row h tmps w g t cs.toArray (0, 0) d hp hg hu hd (by simpa using hi)
theorem own_above {w : World} {base : Nat} {e : TypeId} {v : Value} {n : Nat} {xs : List Value} (h : w.ownsRow base e 1 v n xs) : ∀ k, v.ownBlock = some k → base ≤ k := by
 intro k hk
 rcases h.2 with ⟨rfl, h0⟩ | ⟨g, cap, cur, rfl, hb, hg, hnc, hcm, _, _⟩
 ·cases hk
 ·have hk' : some g = some k := hk
  injection hk' with hk'
  omega
theorem wpList_appR {w0 : World} (hgd : o.guard = none) (s x : Operand) (t : TypeId)
  (ho : o.op = .call { callee := .builtin .append, args := #[s, x], argTypes := #[t, t] })
  (e : TypeId) (i : TypeInfo) (z : Value) (bytes : Nat) (ht : P.underlying t = some (.slice e)) (hi : P.info? e = some i) (hz : i.zero = some z)
  (hsize : i.size = 1) (hby : i.bytes = bytes) (hzs : z.cells.size = 1)
  (v : Value) (n : Nat) (xs : List Value) (hs : a.eval s = v) (hown : w.ownsRow w0.heap.size e 1 v n xs)
  (u : Value) (news : List Value) (hx : a.eval x = u) (hr : Row w u news) (h1 : ∀ u ∈ news, u.oneCell' = true)
  (hlen : n + news.length ≤ 1048576) (hby2 : bytes ≤ 1000) (hb : Below w0.heap.size w0 w)
  (h : ∀ v' w', w'.ownsRow w0.heap.size e 1 v' (n + news.length) (xs ++ news) → Row w' v' (xs ++ news) → Below w0.heap.size w0 w' → w.grownBy w' v.ownBlock → wpList P ops Q rest (a.put o.dst v') w') : wpList P ops Q (o :: rest) a w := by
 have hm : (n + news.length) * bytes ≤ 1048576 * 1000 := Nat.mul_le_mul hlen hby2
 exact wpList_app hgd s x t ho w0.heap.size e i z bytes ht hi hz hsize hby hzs v n xs hs hown u news hx hr h1 (by unfold maxLen; omega) (by omega) hb.size
  fun v' w' h2 h3 => h v' w' h2 (Row.of_own h2) (hb.grown h3 hb.size (own_above hown)) h3
end
section
variable {P : Program} {w : World} {ops : Array Oper} {rest : List Oper} {o : Oper} {a : Act} {Q : Exit → Act → World → Prop}
theorem run_newRow_blk (t : TypeId) (cs : List Value) : (newRow t cs.toArray).run P w = .ok ⟨w.heap.size, 0, none⟩ (w.alloc (.cells cs.toArray t)) := by
 simp [newRow]
theorem wpList_new (hgd : Region.wanted o (yielded ops a.tmps) = true) (ty : TypeId) (ho : o.op = .alloc ty) (i : TypeInfo) (z : Value) (cs : List Value) (hi : P.info? ty = some i) (hz : i.zero = some z) (hc : z.cells = cs.toArray)
  {B : Nat} {w0 : World} (hb : Below B w0 w) (hB : B ≤ w.heap.size)
  (h : ∀ w', Blk w' w.heap.size ty cs → Below B w0 w' → w'.heap.size = w.heap.size + 1 → (∀ k, k < w.heap.size → w'.heap[k]? = w.heap[k]?) → wpList P ops Q rest (a.put o.dst (.pointer (some ⟨w.heap.size, 0, none⟩))) w') :
  wpList P ops Q (o :: rest) a w := by
 refine BigFrame.wpList_want hgd fun K hK => ?_
 unfold Oper.wp
 have hrun : (Instr.alloc ty true (.tuple #[])).run P w = .ok (.pointer (some ⟨w.heap.size, 0, none⟩)) (w.alloc (.cells cs.toArray ty)) := by
  have hzv : (zeroValue ty).run P w = .ok z w := by simp [zeroValue, typeInfo, hi, hz]
  simp [Instr.alloc, hzv, newVar, hc, run_newRow_blk]
 simp only [execOp, ho, hrun, Sem.run_bind, Result.andThen_ok, Sem.run_pure]
 exact hK _ _ (h _ (Blk.new w ty cs) (hb.alloc hB _) (by simp) (fun k hk => Below.heap_alloc w _ k hk))
theorem wpList_box (hgd : Region.wanted o (yielded ops a.tmps) = true) (ty : TypeId) (x : Operand) (ho : o.op = .box ty x) (cs : List Value) (hx : a.eval x = .agg cs.toArray)
  {B : Nat} {w0 : World} (hb : Below B w0 w) (hB : B ≤ w.heap.size)
  (h : ∀ w', Blk w' w.heap.size ty cs → Below B w0 w' → w'.heap.size = w.heap.size + 1 → (∀ k, k < w.heap.size → w'.heap[k]? = w.heap[k]?) → wpList P ops Q rest (a.put o.dst (.pointer (some ⟨w.heap.size, 0, none⟩))) w') :
  wpList P ops Q (o :: rest) a w := by
 refine BigFrame.wpList_want hgd fun K hK => ?_
 unfold Oper.wp
 have hrun : (Instr.box ty (.agg cs.toArray)).run P w = .ok (.pointer (some ⟨w.heap.size, 0, none⟩)) (w.alloc (.cells cs.toArray ty)) := by
  simp [Instr.box, newVar, Value.cells, run_newRow_blk]
 simp only [execOp, ho, hx, hrun, Sem.run_bind, Result.andThen_ok, Sem.run_pure]
 exact hK _ _ (h _ (Blk.new w ty cs) (hb.alloc hB _) (by simp) (fun k hk => Below.heap_alloc w _ k hk))
theorem wpList_bld (hgd : Region.wanted o (yielded ops a.tmps) = true) (t : TypeId) (parts : Array (Nat × Operand)) (ho : o.op = .build t parts) (cs : List Value)
  (hf : P.built t (parts.toList.map fun (i, x) => (i, a.eval x)) = some cs.toArray)
  (h : wpList P ops Q rest (a.put o.dst (.agg cs.toArray)) w) : wpList P ops Q (o :: rest) a w := by
 refine BigFrame.wpList_want hgd fun K hK => ?_
 rw [← Array.toList_map] at hf
 refine wp_build t parts ho (by rw [hf]; rfl) ?_
 rw [hf]
 exact hK _ _ h
theorem wpList_ldArr (hgd : Region.wanted o (yielded ops a.tmps) = true) (ty : TypeId) (x : Operand) (ho : o.op = .load ty x)
  (g : Nat) (hx : a.eval x = .pointer (some ⟨g, 0, none⟩)) (t : TypeId) (cs : List Value) (d : TypeDesc) (hg : Blk w g t cs)
  (hu : P.underlying ty = some d) (hd : (match d with | .struct _ | .array _ _ => true | _ => false) = true) (hi : (P.info? ty).map (·.size) = some cs.length)
  (h : wpList P ops Q rest (a.put o.dst (.agg cs.toArray)) w) : wpList P ops Q (o :: rest) a w := by
 refine BigFrame.wpList_want hgd fun K hK => ?_
 exact wp_load_row ty x ho g hx t cs.toArray (0, 0) d hg hu hd (by simpa using hi) (hK _ _ h)
theorem wp_stBlk {K : Act → World → Prop} (ty : TypeId) (x y : Operand) (ho : o.op = .store ty x y)
  (g : Nat) (cs : List Value) (hx : a.eval x = .pointer (some ⟨g, 0, none⟩)) (hy : a.eval y = .agg cs.toArray)
  (t : TypeId) (old : List Value) (hg : Blk w g t old) (hi : (P.info? ty).map (·.size) = some cs.length)
  (hold : old.length = cs.length) (h1 : cs.all (·.oneCell') = true) {B : Nat} {w0 : World} (hb : Below B w0 w) (hB : B ≤ g)
  (h : ∀ w', Blk w' g t cs → Below B w0 w' → w'.heap.size = w.heap.size → (∀ k, k ≠ g → w'.heap[k]? = w.heap[k]?) → (∀ B', B' ≤ g → Below B' w w') → K (a.put o.dst undef) w') : o.wp P a w K Q :=
 wp_store_row ty x y ho g cs.toArray hx hy t old.toArray hg (by simpa using hi) (by simpa using hold) (by simpa using h1)
  (h _ (setRow_heap w g old.toArray cs.toArray t (0, 0) hg) (below_setRow hb hB _) (by simp) (fun k hk => setRow_other w g k _ hk) (fun B' hB' => below_setRow (Below.refl B' w) hB' _))
theorem results_blk2 {fn : Func} {p u : Tmp} {ty : TypeId} (h : fn.results = #[.cell p ty, .tmp u]) (tmps : Array Value) (w : World) (g : Nat) (t : TypeId) (cs : List Value) (d : TypeDesc) (v : Value)
  (hp : tmps.getD p undef = .pointer (some ⟨g, 0, none⟩)) (hv : tmps.getD u undef = v) (hg : Blk w g t cs)
  (hu : P.underlying ty = some d) (hd : (match d with | .struct _ | .array _ _ => true | _ => false) = true) (hi : (P.info? ty).map (·.size) = some cs.length) :
  (results fn tmps).run P w = .ok (.tuple #[.agg cs.toArray, v]) w := by
 have hl := run_loadVar_row (P := P) w g t ty cs.toArray (0, 0) d hg hu hd (by simpa using hi)
 have hp' : tmps[p]?.getD undef = .pointer (some ⟨g, 0, none⟩) := by simpa using hp
 have hv' : tmps[u]?.getD undef = v := by simpa using hv
 simp [results, h, hp', hv', asAddr, hl]
end
def wd (p : Nat → Bool) : Nat → Nat
 | 0 => 0
 | n + 1 => wd p n + if p n then 2 ^ n else 0
def word (p : Nat → Bool) (i : Nat) : Nat := wd (fun j => p (64 * i + j)) 64
def wds (p : Nat → Bool) : List Value := [.int .u64 (word p 0 : Int), .int .u64 (word p 1 : Int), .int .u64 (word p 2 : Int), .int .u64 (word p 3 : Int)]
theorem wds_length (p : Nat → Bool) : (wds p).length = 4 := rfl
theorem wds_all (p : Nat → Bool) : (wds p).all (·.oneCell') = true := rfl
def mem (p : Nat → Bool) : List UInt8 := ((List.range 256).filter p).map UInt8.ofNat
theorem infoP {P : Program} {e : TypeId} {z : Value} {s b : Nat} (h : (P.info? e).map (fun i => (i.zero, i.size, i.bytes)) = some (some z, s, b)) : ∃ i, P.info? e = some i ∧ i.zero = some z ∧ i.size = s ∧ i.bytes = b := by
 obtain ⟨i, hi, h2⟩ := Option.map_eq_some_iff.1 h
 simp only [Prod.mk.injEq] at h2
 exact ⟨i, hi, h2.1, h2.2.1, h2.2.2⟩
theorem ownN (w : World) (B : Nat) (e : TypeId) : w.ownsRow B e 1 (.slice none 0 0) 0 [] := ⟨by simp, .inl ⟨rfl, rfl⟩⟩
theorem rowB {w : World} {g n : Nat} {t : TypeId} {cs : List Value} (h : Blk w g t cs) (hn : cs.length = n) (hl : n ≤ 1048576) : Row w (.slice (some ⟨g, 0, none⟩) n n) cs := by
 subst hn
 refine ⟨_, _, rfl, Nat.le_refl _, by unfold maxLen; omega, (fun h => by cases h), fun _ => ⟨g, 0, rfl, h.lt, fun i u hu => ?_⟩⟩
 rw [Nat.zero_add, h.cell i]
 exact hu
theorem bv_ofNat {j : Nat} (h : j < 256) : bv (UInt8.ofNat j) = .int .u8 (j : Int) := by
 unfold bv
 rw [UInt8.toNat_ofNat', Nat.mod_eq_of_lt h]
open Go.RowKit Go.ChangeShapes Go.WideShapes
def RowS (w : World) (v : Value) (ps : List (Nat → Bool)) : Prop :=
 ∃ A cap, v = .slice A ps.length cap ∧ ps.length ≤ cap ∧ cap ≤ maxLen ∧ (A = none → cap = 0) ∧
  (ps ≠ [] → ∃ b off, A = some ⟨b, off, none⟩ ∧ b < w.heap.size ∧ ∀ i p, ps[i]? = some p → w.rangeAt b (off + i * 4) (wds p))
theorem RowS.nil (w : World) : RowS w (.slice none 0 0) [] := ⟨none, 0, rfl, Nat.le_refl _, Nat.zero_le _, fun _ => rfl, fun h => absurd rfl h⟩
theorem range_below {w w' : World} {B b o : Nat} {cs : List Value} (h : w.rangeAt b o cs) (hb : Below B w w') (hB : b < B) : w'.rangeAt b o cs :=
 fun j v hv => (hb.cell (p := ⟨b, o + j, none⟩) hB).trans (h j v hv)
theorem RowS.below {w w' : World} {v : Value} {ps : List (Nat → Bool)} (h : RowS w v ps) (hb : Below w.heap.size w w') : RowS w' v ps := by
 obtain ⟨A, cap, hv, h1, h2, h0, h3⟩ := h
 refine ⟨A, cap, hv, h1, h2, h0, fun hne => ?_⟩
 obtain ⟨b, off, hA, hlt, hc⟩ := h3 hne
 exact ⟨b, off, hA, Nat.lt_of_lt_of_le hlt hb.size, fun i p hp => range_below (hc i p hp) hb hlt⟩
theorem RowS.at_ {w : World} {A : Option Addr} {n cap : Nat} {ps : List (Nat → Bool)} (h : RowS w (.slice A n cap) ps) (hne : 0 < ps.length) : ∃ b off, A = some ⟨b, off, none⟩ ∧ b < w.heap.size ∧ ∀ i p, ps[i]? = some p → w.rangeAt b (off + i * 4) (wds p) := by
 obtain ⟨A', cap', he, _, _, _, h3⟩ := h
 injection he with hA _ _
 subst hA
 exact h3 (by rintro rfl; simp at hne)
theorem RowS.len {w : World} {A : Option Addr} {n cap : Nat} {ps : List (Nat → Bool)} (h : RowS w (.slice A n cap) ps) : n = ps.length ∧ n ≤ cap ∧ cap ≤ maxLen := by
 obtain ⟨A', cap', he, h1, h2, h0, _⟩ := h
 injection he with hA hn hc
 subst hn
 subst hc
 exact ⟨rfl, h1, h2⟩
theorem ld_mid {P : Program} {a : Act} {oi : Oper} {B : Nat} {w0 : World} (ty : TypeId) (x : Operand) (ho : oi.op = .load ty x) (b o : Nat) (hx : a.eval x = .pointer (some ⟨b, o, none⟩)) (cs : List Value) (d : TypeDesc)
  (hg : w0.rangeAt b o cs) (hB : b < B) (hu : P.underlying ty = some d) (hd : d.isRow = true) (hi : (P.info? ty).map (·.size) = some cs.length) :
  ∀ W, Below B w0 W → (execOp a.eval oi).run P W = .ok (.value (.agg cs.toArray)) W := by
 intro W hW
 have hl := run_loadAt_mid (P := P) W b o ty cs d (range_below hg hW hB) hu hd hi
 simp only [execOp, ho, hx, Sem.run_bind, hl, Result.andThen_ok, Sem.run_pure]
section
variable {P : Program} {ops : Array Oper} {Q : Exit → Act → World → Prop} {md : Region.Mode}
theorem sx_take {i : Nat} {oi : Oper} {v : Value} {fuel : Nat} {listed : Array Bool} {a : Act} {B : Nat} {w0 w : World} (hi : ops[i]? = some oi)
  (hs : Region.noSelect ops = true) (hf : Region.free md ops listed i = true) (hr : (Region.ready md ops listed).contains i = true)
  (hQ : ∀ c a w, Q (.panic c) (a.put oi.dst v) w → Q (.panic c) a w) (hw : Region.wanted oi (yielded ops a.tmps) = true) (hS : Below B w0 w)
  (hy : ∀ W, Below B w0 W → (execOp a.eval oi).run P W = .ok (.value v) W)
  (h : wpAnyH P md ops Q (Below B w0) fuel (listed.setIfInBounds i true) (a.put oi.dst v) w) : wpAnyH P md ops Q (Below B w0) (fuel + 1) listed a w :=
 wpAnyH_take hi hs hf hr hQ (.inl ⟨hw, hy⟩) hS h
theorem sx_actB {i : Nat} {o : Oper} {fuel : Nat} {listed : Array Bool} {a : Act} {B : Nat} {w0 w : World} (hi : ops[i]? = some o) (hr : Region.ready md ops listed = [i])
  (hw : Region.wanted o (yielded ops a.tmps) = true) (hS : Below B w0 w)
  (h : ∀ K : Act → World → Prop, (∀ a' w', Below B w w' → wpAnyH P md ops Q (Below B w0) fuel (listed.setIfInBounds i true) a' w' → K a' w') → o.wp P a w K Q) :
  wpAnyH P md ops Q (Below B w0) (fuel + 1) listed a w := by
 refine wpAnyH_all hr (by simp) (fun j hj => ?_)
 have hji : j = i := by simpa using hj
 subst hji
 unfold wpOp
 rw [hi]
 simp only [hw, if_true]
 exact .inl (h _ fun a' w' hx hk => ⟨hS.trans hx, hk⟩)
theorem sx_startB {id : Nat} {a : Act} {w : World} {B : Nat} {w0 : World} (hm : P.follows .mixedOrders = true) (hS : Below B w0 w)
  (h : ∀ wd, wd = w.drew → Below B w0 wd → wpAnyH P .any ops Q (Below B w0) ops.size (Array.replicate ops.size false) a wd) : (Code.region id ops true).wp P Q a w :=
 wp_region_held_drew hm hS.drew (h _ rfl)
end
/-! ### Of -/
/-! ### Where -/
theorem inf_u8 : (Try.prog.info? 5).map (fun i => (i.zero, i.size, i.bytes)) = some (some (.int .u8 0), 1, 1) := by kernel_rfl
/-! ### List -/
/-! ### Not -/
theorem ld_blk {P : Program} {a : Act} {oi : Oper} {B : Nat} {w0 : World} (ty : TypeId) (x : Operand) (ho : oi.op = .load ty x) (g : Nat) (hx : a.eval x = .pointer (some ⟨g, 0, none⟩)) (t : TypeId) (cs : List Value) (d : TypeDesc)
  (hg : Blk w0 g t cs) (hB : g < B) (hu : P.underlying ty = some d) (hd : (match d with | .struct _ | .array _ _ => true | _ => false) = true) (hi : (P.info? ty).map (·.size) = some cs.length) :
  ∀ W, Below B w0 W → (execOp a.eval oi).run P W = .ok (.value (.agg cs.toArray)) W := by
 intro W hW
 have hl := run_loadVar_row (P := P) W g t ty cs.toArray (0, 0) d (hg.below hW hB) hu hd (by simpa using hi)
 simp [execOp, ho, hx, Instr.loadAt, Instr.sureAddr, asAddr, hl]
/-! ### Or -/
def lessS (p q : Nat → Bool) : Bool := match (List.range 256).find? fun b => p b != q b with
 | some b => p b
 | none => false
def sets (qs : List (Nat → Bool)) : List Value := qs.flatMap wds
theorem sets_cons (q : Nat → Bool) (qs : List (Nat → Bool)) : sets (q :: qs) = wds q ++ sets qs := rfl
theorem sets_get : ∀ {qs : List (Nat → Bool)} {k : Nat} {q : Nat → Bool}, qs[k]? = some q → ∀ i, i < 4 → (sets qs)[k * 4 + i]? = (wds q)[i]?
 | [], k, q, h, _, _ => by simp at h
 | p :: r, 0, q, h, i, hi => by
  have : p = q := by simpa using h
  subst this
  rw [sets_cons, List.getElem?_append_left (by rw [wds_length]; omega), Nat.zero_mul, Nat.zero_add]
 | p :: r, k + 1, q, h, i, hi => by
  have h' : r[k]? = some q := by simpa using h
  rw [sets_cons, List.getElem?_append_right (by rw [wds_length]; omega), wds_length, show (k + 1) * 4 + i - 4 = k * 4 + i from by omega]
  exact sets_get h' i hi
theorem Blk.range {w : World} {g : Nat} {t : TypeId} {qs : List (Nat → Bool)} (h : Blk w g t (sets qs)) {k : Nat} {q : Nat → Bool} (hq : qs[k]? = some q) : w.rangeAt g (k * 4) (wds q) := by
 intro j v hv
 have hj : j < 4 := by
  have := (List.getElem?_eq_some_iff.1 hv).1
  rwa [wds_length] at this
 rw [h.cell, sets_get hq j hj, hv]
theorem Blk.there {w : World} {g o n : Nat} {t : TypeId} {cs : List Value} (h : Blk w g t cs) (ho : o + n ≤ cs.length) : w.there g o n := by
 intro j hj
 refine ⟨?_, h.frozen _⟩
 rw [h.cell, List.getElem?_eq_getElem (by omega)]
 rfl
theorem splice_cons {cs : List Value} {o : Nat} {v : Value} {r : List Value} (h : o + (r.length + 1) ≤ cs.length) : splice (cs.set o v) (o + 1) r = splice cs o (v :: r) := by
 unfold splice
 rw [List.take_set, List.drop_set, if_pos (by omega), List.length_cons]
 have ho : o < cs.length := by omega
 rw [List.take_succ_eq_append_getElem ho, List.set_append_right _ _ (by simp; omega)]
 simp only [List.length_take, Nat.min_eq_left (Nat.le_of_lt ho), Nat.sub_self, List.set_cons_zero, List.append_assoc, List.cons_append, List.nil_append]
 rw [show o + 1 + r.length = o + (r.length + 1) from by omega]
theorem Blk.setCells {g : Nat} {t : TypeId} : ∀ {vs : List Value} {w : World} {cs : List Value} {o : Nat}, Blk w g t cs → o + vs.length ≤ cs.length → Blk (w.setCells g o vs) g t (splice cs o vs)
 | [], w, cs, o, h, _ => by simpa [World.setCells, splice] using h
 | v :: r, w, cs, o, h, hl => by
  have hl' : o + (r.length + 1) ≤ cs.length := by simpa using hl
  have := Blk.setCells (vs := r) (o := o + 1) (h.set o v) (by rw [List.length_set]; omega)
  rw [splice_cons hl'] at this
  exact this
section
variable {P : Program} {w : World} {ops : Array Oper} {rest : List Oper} {o : Oper} {a : Act} {Q : Exit → Act → World → Prop}
end
theorem all_range_int : ∀ (xs ys : List Int), xs.length = ys.length → ((List.range xs.length).all fun i => xs.getD i 0 == ys.getD i 0) = (xs == ys)
 | [], [], _ => rfl
 | x :: xs, y :: ys, h => by
  have ih := all_range_int xs ys (by simpa using h)
  rw [List.length_cons, List.range_succ_eq_map, List.all_cons, List.all_map]
  simp only [List.getD_cons_zero, Function.comp_def, List.getD_cons_succ, ih]
  simp [List.cons_beq_cons]
 | [], _ :: _, h => by simp at h
 | _ :: _, [], h => by simp at h
section
variable {P : Program} (w : World)
theorem run_equalIn_nums (d : Nat) (t e : TypeId) (n : Nat) (k : IntKind) (ht : P.underlying t = some (.array n e)) (he : P.underlying e = some (.int k)) (hsz : ∀ w, (sizeOf e).run P w = .ok 1 w)
  (xs ys : List Int) (hx : xs.length = n) (hy : ys.length = n) :
  (Op.equalIn (d + 2) t (.agg (nums k xs).toArray) (.agg (nums k ys).toArray)).run P w = .ok (xs == ys) w := by
 rw [← all_range_int xs ys (hx.trans hy.symm), hx, List.range_eq_range', Op.equalIn]
 simp only [Sem.run_bind, run_underlying ht, Result.andThen_ok, hsz, Std.Legacy.Range.forIn_eq_forIn_range', Std.Legacy.Range.size, Nat.sub_zero, Nat.add_sub_cancel, Nat.div_one]
 have hl : ∀ i ∈ List.range' 0 n 1, i < n := fun i hi => by simpa using (List.mem_range'_1.1 hi).2
 generalize List.range' 0 n 1 = l at hl ⊢
 induction l with
 | nil => simp
 | cons i l ih =>
  have hi : i < n := hl i (by simp)
  have px : (part e (nums k xs).toArray (i * 1)).run P w = .ok (.int k (xs.getD i 0)) w := by
   simp [part, isAgg, run_underlying he, List.getD, nums, List.getElem?_eq_getElem (show i < xs.length by omega)]
  have py : (part e (nums k ys).toArray (i * 1)).run P w = .ok (.int k (ys.getD i 0)) w := by
   simp [part, isAgg, run_underlying he, List.getD, nums, List.getElem?_eq_getElem (show i < ys.length by omega)]
  have pe : (Op.equalIn (d + 1) e (.int k (xs.getD i 0)) (.int k (ys.getD i 0))).run P w = .ok (xs.getD i 0 == ys.getD i 0) w := run_equalIn_int w d e k k _ _ he
  simp only [List.forIn_cons, Sem.run_bind, px, py, pe, Result.andThen_ok, List.all_cons]
  cases hb : (xs.getD i 0 == ys.getD i 0)
  ·simp
  ·simp only [Bool.not_true, Bool.false_eq_true, if_false, Sem.run_pure, Result.andThen_ok, Bool.true_and]
   exact ih fun j hj => hl j (by simp [hj])
def eqS (p q : Nat → Bool) : Bool := [(word p 0 : Int), (word p 1 : Int), (word p 2 : Int), (word p 3 : Int)] == [(word q 0 : Int), (word q 1 : Int), (word q 2 : Int), (word q 3 : Int)]
section
variable (t e : TypeId) (ht : P.underlying t = some (.array 4 e)) (he : P.underlying e = some (.int .u64)) (hsz : ∀ w, (sizeOf e).run P w = .ok 1 w) (p q : Nat → Bool)
include ht he hsz
end
end
section
variable {P : Program} {w : World} {ops : Array Oper} {rest : List Oper} {o : Oper} {a : Act} {Q : Exit → Act → World → Prop}
end
inductive T where
 | node (k : Int) (s : Nat → Bool) (l : List T)
def T.kind : T → Int | .node k _ _ => k
def T.set : T → (Nat → Bool) | .node _ s _ => s
def T.args : T → List T | .node _ _ l => l
mutual
def T.nodes : T → Nat
 | .node _ _ l => 1 + nodesL l
def nodesL : List T → Nat
 | [] => 0
 | t :: r => t.nodes + nodesL r
end
mutual
def T.depth : T → Nat
 | .node _ _ l => depthL l + 1
def depthL : List T → Nat
 | [] => 0
 | t :: r => max t.depth (depthL r)
end
/-! ### how two compare -/
mutual
def cmpT : T → T → Int
 | .node k s l, .node k' s' l' => if k = k' then (if k = 3 ∧ eqS s s' = false then (if lessS s s' then -1 else 1) else cmpL l l') else if k < k' then -1 else 1
def cmpL : List T → List T → Int
 | [], [] => 0
 | [], _ :: _ => -1
 | _ :: _, [] => 1
 | a :: r, b :: r' => if cmpT a b = 0 then cmpL r r' else cmpT a b
end
/-! ### how they lie -/
inductive RxD (D : Nat → Prop) (w : World) : List Value → T → Prop
 | node {k : Int} {s : Nat → Bool} {l : List T} {A : Option Addr} {cap : Nat} (f : Nat → List Value) (h1 : l.length ≤ cap) (h2 : cap ≤ maxLen) (h0 : A = none → cap = 0)
   (h3 : l ≠ [] → ∃ b off, A = some ⟨b, off, none⟩ ∧ D b ∧ ∀ i, i < l.length → w.rangeAt b (off + i * 6) (f i))
   (h4 : ∀ i t, l[i]? = some t → RxD D w (f i) t) : RxD D w (.int .i64 k :: (wds s ++ [.slice A l.length cap])) (.node k s l)
theorem range_heap {w w' : World} {b o : Nat} {cs : List Value} (h : w.rangeAt b o cs) (hb : w'.heap[b]? = w.heap[b]?) : w'.rangeAt b o cs := fun j v hv => by
 have := h j v hv
 unfold World.cell? at this ⊢
 simp only [hb]
 exact this
theorem RxD.stay {D : Nat → Prop} {w w' : World} {cs : List Value} {t : T} (h : RxD D w cs t) (hb : ∀ k, D k → w'.heap[k]? = w.heap[k]?) : RxD D w' cs t := by
 induction h with
 | node f h1 h2 h0 h3 h4 ih =>
  refine .node f h1 h2 h0 (fun hne => ?_) ih
  obtain ⟨b, off, hA, hlt, hc⟩ := h3 hne
  exact ⟨b, off, hA, hlt, fun i hi => range_heap (hc i hi) (hb b hlt)⟩
theorem RxD.mono {D D' : Nat → Prop} {w : World} {cs : List Value} {t : T} (h : RxD D w cs t) (hb : ∀ k, D k → D' k) : RxD D' w cs t := by
 induction h with
 | node f h1 h2 h0 h3 h4 ih =>
  refine .node f h1 h2 h0 (fun hne => ?_) ih
  obtain ⟨b, off, hA, hlt, hc⟩ := h3 hne
  exact ⟨b, off, hA, hb b hlt, hc⟩
theorem RxD.length {D : Nat → Prop} {w : World} {cs : List Value} {t : T} (h : RxD D w cs t) : cs.length = 6 := by
 cases h
 rfl
theorem RxD.opened {D : Nat → Prop} {w : World} {cs : List Value} {k : Int} {s : Nat → Bool} {l : List T} (h : RxD D w cs (.node k s l)) :
  ∃ (A : Option Addr) (cap : Nat) (f : Nat → List Value), cs = .int .i64 k :: (wds s ++ [.slice A l.length cap]) ∧ l.length ≤ cap ∧ cap ≤ maxLen ∧ (A = none → cap = 0) ∧ (l ≠ [] → ∃ b off, A = some ⟨b, off, none⟩ ∧ D b ∧ ∀ i, i < l.length → w.rangeAt b (off + i * 6) (f i)) ∧ ∀ i t, l[i]? = some t → RxD D w (f i) t := by
 cases h with
 | node f h1 h2 h0 h3 h4 => exact ⟨_, _, f, rfl, h1, h2, h0, h3, h4⟩
theorem RxD.one {D : Nat → Prop} {w : World} {cs : List Value} {t : T} (h : RxD D w cs t) : ∀ u ∈ cs, u.oneCell' = true := by
 cases h with
 | node f h1 h2 h0 h3 h4 =>
  intro u hu
  rcases List.mem_cons.1 hu with rfl | hu
  ·rfl
  ·rcases List.mem_append.1 hu with hu | hu
   ·exact List.all_eq_true.1 (wds_all _) u hu
   ·obtain rfl := List.mem_singleton.1 hu
    rfl
def RxV (B : Nat) (w : World) (cs : List Value) (t : T) : Prop := RxD (fun k => k < B) w cs t
theorem RxV.stay {B : Nat} {w w' : World} {cs : List Value} {t : T} (h : RxV B w cs t) (hb : Below B w w') : RxV B w' cs t := RxD.stay h fun k hk => hb.block k hk
theorem RxV.mono {B B' : Nat} {w : World} {cs : List Value} {t : T} (h : RxV B w cs t) (hb : B ≤ B') : RxV B' w cs t := RxD.mono h fun k hk => Nat.lt_of_lt_of_le hk hb
theorem RxV.length {B : Nat} {w : World} {cs : List Value} {t : T} (h : RxV B w cs t) : cs.length = 6 := RxD.length h
theorem RxV.opened {B : Nat} {w : World} {cs : List Value} {k : Int} {s : Nat → Bool} {l : List T} (h : RxV B w cs (.node k s l)) :
  ∃ (A : Option Addr) (cap : Nat) (f : Nat → List Value), cs = .int .i64 k :: (wds s ++ [.slice A l.length cap]) ∧ l.length ≤ cap ∧ cap ≤ maxLen ∧ (A = none → cap = 0) ∧ (l ≠ [] → ∃ b off, A = some ⟨b, off, none⟩ ∧ b < B ∧ ∀ i, i < l.length → w.rangeAt b (off + i * 6) (f i)) ∧ ∀ i t, l[i]? = some t → RxV B w (f i) t := RxD.opened h
def RowT (B : Nat) (w : World) (v : Value) (l : List T) : Prop :=
 ∃ (A : Option Addr) (cap : Nat) (f : Nat → List Value), v = .slice A l.length cap ∧ l.length ≤ cap ∧ cap ≤ maxLen ∧ (A = none → cap = 0) ∧ (l ≠ [] → ∃ b off, A = some ⟨b, off, none⟩ ∧ b < B ∧ ∀ i, i < l.length → w.rangeAt b (off + i * 6) (f i)) ∧ ∀ i t, l[i]? = some t → RxV B w (f i) t
theorem RowT.below {B : Nat} {w w' : World} {v : Value} {l : List T} (h : RowT B w v l) (hb : Below B w w') : RowT B w' v l := by
 obtain ⟨A, cap, f, hv, h1, h2, h0, h3, h4⟩ := h
 refine ⟨A, cap, f, hv, h1, h2, h0, fun hne => ?_, fun i t ht => (h4 i t ht).stay hb⟩
 obtain ⟨b, off, hA, hlt, hc⟩ := h3 hne
 exact ⟨b, off, hA, hlt, fun i hi => range_below (hc i hi) hb hlt⟩
theorem RxV.row {B : Nat} {w : World} {k : Int} {s : Nat → Bool} {l : List T} {cs : List Value} (h : RxV B w cs (.node k s l)) : ∃ v, cs = .int .i64 k :: (wds s ++ [v]) ∧ RowT B w v l := by
 obtain ⟨A, cap, f, hcs, h⟩ := h.opened
 exact ⟨_, hcs, A, cap, f, rfl, h⟩
theorem RowT.rx {B : Nat} {w : World} {v : Value} {l : List T} (h : RowT B w v l) (k : Int) (s : Nat → Bool) : RxV B w (.int .i64 k :: (wds s ++ [v])) (.node k s l) := by
 obtain ⟨A, cap, f, rfl, h1, h2, h0, h3, h4⟩ := h
 exact RxD.node f h1 h2 h0 h3 h4
theorem RowT.at_ {B : Nat} {w : World} {A : Option Addr} {n cap : Nat} {l : List T} (h : RowT B w (.slice A n cap) l) (hne : 0 < l.length) :
  ∃ (b off : Nat) (f : Nat → List Value), A = some ⟨b, off, none⟩ ∧ b < B ∧ (∀ i, i < l.length → w.rangeAt b (off + i * 6) (f i)) ∧ ∀ i t, l[i]? = some t → RxV B w (f i) t := by
 obtain ⟨A', cap', f, he, _, _, _, h3, h4⟩ := h
 injection he with hA _ _
 subst hA
 obtain ⟨b, off, h5, h6, h7⟩ := h3 (by rintro rfl; simp at hne)
 exact ⟨b, off, f, h5, h6, h7, h4⟩
def RowD (D : Nat → Prop) (w : World) (v : Value) (l : List T) : Prop :=
 ∃ (A : Option Addr) (cap : Nat) (f : Nat → List Value), v = .slice A l.length cap ∧ l.length ≤ cap ∧ cap ≤ maxLen ∧ (A = none → cap = 0) ∧ (l ≠ [] → ∃ b off, A = some ⟨b, off, none⟩ ∧ D b ∧ ∀ i, i < l.length → w.rangeAt b (off + i * 6) (f i)) ∧ ∀ i t, l[i]? = some t → RxD D w (f i) t
theorem RowD.rowT {B : Nat} {w : World} {v : Value} {l : List T} (h : RowD (fun k => k < B) w v l) : RowT B w v l := h
theorem RowD.stay {D : Nat → Prop} {w w' : World} {v : Value} {l : List T} (h : RowD D w v l) (hb : ∀ k, D k → w'.heap[k]? = w.heap[k]?) : RowD D w' v l := by
 obtain ⟨A, cap, f, hv, h1, h2, h0, h3, h4⟩ := h
 refine ⟨A, cap, f, hv, h1, h2, h0, fun hne => ?_, fun i t ht => (h4 i t ht).stay hb⟩
 obtain ⟨b, off, hA, hlt, hc⟩ := h3 hne
 exact ⟨b, off, hA, hlt, fun i hi => range_heap (hc i hi) (hb b hlt)⟩
theorem RowD.mono {D D' : Nat → Prop} {w : World} {v : Value} {l : List T} (h : RowD D w v l) (hD : ∀ k, D k → D' k) : RowD D' w v l := by
 obtain ⟨A, cap, f, hv, h1, h2, h0, h3, h4⟩ := h
 refine ⟨A, cap, f, hv, h1, h2, h0, fun hne => ?_, fun i t ht => (h4 i t ht).mono hD⟩
 obtain ⟨b, off, hA, hlt, hc⟩ := h3 hne
 exact ⟨b, off, hA, hD b hlt, hc⟩
theorem RxD.row {D : Nat → Prop} {w : World} {k : Int} {s : Nat → Bool} {l : List T} {cs : List Value} (h : RxD D w cs (.node k s l)) : ∃ v, cs = .int .i64 k :: (wds s ++ [v]) ∧ RowD D w v l := by
 obtain ⟨A, cap, f, hcs, h⟩ := h.opened
 exact ⟨_, hcs, A, cap, f, rfl, h⟩
theorem RowD.rx {D : Nat → Prop} {w : World} {v : Value} {l : List T} (h : RowD D w v l) (k : Int) (s : Nat → Bool) : RxD D w (.int .i64 k :: (wds s ++ [v])) (.node k s l) := by
 obtain ⟨A, cap, f, rfl, h1, h2, h0, h3, h4⟩ := h
 exact RxD.node f h1 h2 h0 h3 h4
theorem RowD.keep {D : Nat → Prop} {B : Nat} {w w' : World} {v : Value} {l : List T} (h : RowD D w v l) (hb : Below B w w') (hD : ∀ k, D k → k < B) : RowD D w' v l := h.stay fun k hk => hb.block k (hD k hk)
theorem RxD.keep {D : Nat → Prop} {B : Nat} {w w' : World} {cs : List Value} {t : T} (h : RxD D w cs t) (hb : Below B w w') (hD : ∀ k, D k → k < B) : RxD D w' cs t := h.stay fun k hk => hb.block k (hD k hk)
end Go.Proofs.Ytaakdebcagdfgaa
