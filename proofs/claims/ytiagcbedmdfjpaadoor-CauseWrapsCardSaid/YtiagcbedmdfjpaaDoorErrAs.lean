/-
  errors.as and errors.As at a chain that package cause builds. No statement is proved here.
-/
import Derived.Test.YtiagcbedmdfjpaaDoorErrAsF
namespace Go.Proofs.YtiagcbedmdfjpaaDoor
open Go.RowKit Go.Extern.Stop Go.Stop Go.Extern
set_option linter.unusedSimpArgs false
set_option linter.unusedVariables false

/-! ### the entries, by number -/
theorem ext_xV : ∀ (args : Array Value) (w : World), (callFunc 25 args).run Tryd.prog w = ((((fun args => ReflectliteValue.unpack (args.getD 0 (.tuple #[]))) : Array Value → Sem Value) args).run Tryd.prog w).andThen fun v w' => Result.ok (Next.value v) w' :=
  @run_callFunc_extern Tryd.prog 25 _ (fun args => ReflectliteValue.unpack (args.getD 0 (.tuple #[]))) Tryd.func25 (by kernel_rfl) (by kernel_rfl) (by kernel_rfl) (by kernel_rfl)
theorem ext_xT : ∀ (args : Array Value) (w : World), (callFunc 26 args).run Tryd.prog w = ((((ReflectliteValue.methodAny (ReflectliteValue.valueError "reflectlite.Value.Type" 0) (fun t _ _ _ => ReflectliteType.toType t)) : Array Value → Sem Value) args).run Tryd.prog w).andThen fun v w' => Result.ok (Next.value v) w' :=
  @run_callFunc_extern Tryd.prog 26 _ (ReflectliteValue.methodAny (ReflectliteValue.valueError "reflectlite.Value.Type" 0) (fun t _ _ _ => ReflectliteType.toType t)) Tryd.func26 (by kernel_rfl) (by kernel_rfl) (by kernel_rfl) (by kernel_rfl)
theorem ext_xN : ∀ (args : Array Value) (w : World), (callFunc 27 args).run Tryd.prog w = ((((ReflectliteValue.method (ReflectliteValue.valueError "reflectlite.Value.IsNil" 0) ReflectliteValue.isNil) : Array Value → Sem Value) args).run Tryd.prog w).andThen fun v w' => Result.ok (Next.value v) w' :=
  @run_callFunc_extern Tryd.prog 27 _ (ReflectliteValue.method (ReflectliteValue.valueError "reflectlite.Value.IsNil" 0) ReflectliteValue.isNil) Tryd.func27 (by kernel_rfl) (by kernel_rfl) (by kernel_rfl) (by kernel_rfl)
theorem ext_xE : ∀ (args : Array Value) (w : World), (callFunc 29 args).run Tryd.prog w = ((((ReflectliteValue.method (ReflectliteValue.valueError "reflectlite.Value.Elem" 0) ReflectliteValue.elem) : Array Value → Sem Value) args).run Tryd.prog w).andThen fun v w' => Result.ok (Next.value v) w' :=
  @run_callFunc_extern Tryd.prog 29 _ (ReflectliteValue.method (ReflectliteValue.valueError "reflectlite.Value.Elem" 0) ReflectliteValue.elem) Tryd.func29 (by kernel_rfl) (by kernel_rfl) (by kernel_rfl) (by kernel_rfl)
theorem ext_xS : ∀ (args : Array Value) (w : World), (callFunc 30 args).run Tryd.prog w = ((((ReflectliteValue.set) : Array Value → Sem Value) args).run Tryd.prog w).andThen fun v w' => Result.ok (Next.value v) w' :=
  @run_callFunc_extern Tryd.prog 30 _ (ReflectliteValue.set) Tryd.func30 (by kernel_rfl) (by kernel_rfl) (by kernel_rfl) (by kernel_rfl)
theorem ext_xK : ∀ (args : Array Value) (w : World), (callFunc 45 args).run Tryd.prog w = ((((ReflectliteType.abiMethod fun t => do pure (.int .u8 (← Rtype.kind t))) : Array Value → Sem Value) args).run Tryd.prog w).andThen fun v w' => Result.ok (Next.value v) w' :=
  @run_callFunc_extern Tryd.prog 45 _ (ReflectliteType.abiMethod fun t => do pure (.int .u8 (← Rtype.kind t))) Tryd.func45 (by kernel_rfl) (by kernel_rfl) (by kernel_rfl) (by kernel_rfl)
theorem ext_xL : ∀ (args : Array Value) (w : World), (callFunc 58 args).run Tryd.prog w = ((((ReflectliteType.method ReflectliteType.elem) : Array Value → Sem Value) args).run Tryd.prog w).andThen fun v w' => Result.ok (Next.value v) w' :=
  @run_callFunc_extern Tryd.prog 58 _ (ReflectliteType.method ReflectliteType.elem) Tryd.func58 (by kernel_rfl) (by kernel_rfl) (by kernel_rfl) (by kernel_rfl)
theorem ext_xI : ∀ (args : Array Value) (w : World), (callFunc 59 args).run Tryd.prog w = ((((ReflectliteType.relation "Implements" ReflectliteType.implements_) : Array Value → Sem Value) args).run Tryd.prog w).andThen fun v w' => Result.ok (Next.value v) w' :=
  @run_callFunc_extern Tryd.prog 59 _ (ReflectliteType.relation "Implements" ReflectliteType.implements_) Tryd.func59 (by kernel_rfl) (by kernel_rfl) (by kernel_rfl) (by kernel_rfl)
theorem ext_xA : ∀ (args : Array Value) (w : World), (callFunc 56 args).run Tryd.prog w = ((((ReflectliteType.relation "AssignableTo" ReflectliteType.assignableTo) : Array Value → Sem Value) args).run Tryd.prog w).andThen fun v w' => Result.ok (Next.value v) w' :=
  @run_callFunc_extern Tryd.prog 56 _ (ReflectliteType.relation "AssignableTo" ReflectliteType.assignableTo) Tryd.func56 (by kernel_rfl) (by kernel_rfl) (by kernel_rfl) (by kernel_rfl)
theorem ext_xO : ∀ (args : Array Value) (w : World), (callFunc 23 args).run Tryd.prog w = ((((ReflectliteType.typeOf) : Array Value → Sem Value) args).run Tryd.prog w).andThen fun v w' => Result.ok (Next.value v) w' :=
  @run_callFunc_extern Tryd.prog 23 _ (ReflectliteType.typeOf) Tryd.func23 (by kernel_rfl) (by kernel_rfl) (by kernel_rfl) (by kernel_rfl)

theorem cell_new (w : World) (cs : Array Value) (t : TypeId) (i : Nat) : (w.alloc (.cells cs t)).cell? ⟨w.heap.size, i, none⟩ = cs[i]? := by
  have := cell_of_row (w.alloc (.cells cs t)) w.heap.size i cs t (0, 0) (heap_alloc_new w _)
  exact this
theorem cell_old (w : World) (o : Obj) (a : Addr) (v : Value) (h : w.cell? a = some v) : (w.alloc o).cell? a = some v := by
  rw [World.cell?_alloc_lt _ _ a (lt_of_cell h)]
  exact h
theorem frozen_old (w : World) (o : Obj) (a : Addr) (h : a.block < w.heap.size) (hf : w.frozen? a = false) : (w.alloc o).frozen? a = false := by
  rw [World.frozen?_alloc_old _ _ a (by omega)]
  exact hf
theorem cell_set (w : World) (a : Addr) (v u : Value) (h : w.cell? a = some u) : (w.setCell a v).cell? a = some v := by
  exact World.cell?_setCell_same _ _ _ h

set_option maxHeartbeats 4000000 in
set_option maxRecDepth 1000000 in
/-- errors.as at a *fault, the target a *kinded. -/
theorem as_kindedF (b tb vb : Nat) (old : Value) (W : World) (hv : W.cell? ⟨vb, 0, none⟩ = some (.pointer (some ⟨tb, 0, none⟩))) (ht : W.cell? ⟨tb, 0, none⟩ = some old) (hf : W.frozen? ⟨tb, 0, none⟩ = false) :
    Calls Tryd.prog 28 #[.iface 53 (.pointer (some ⟨b, 0, none⟩)), .iface 59 (.pointer (some ⟨tb, 0, none⟩)), .agg #[.pointer (some ⟨2, 59, none⟩), .pointer (some ⟨vb, 0, none⟩), .int .u64 150], .iface 82 (.agg #[.pointer (some ⟨2, 57, none⟩)])] W fun e w' =>
      e = .returned (.bool true) ∧ w'.cell? ⟨tb, 0, none⟩ = some (.iface 53 (.pointer (some ⟨b, 0, none⟩))) ∧ Below tb W w' := by
  have htl : tb < W.heap.size := lt_of_cell ht
  obtain ⟨W1, hW1⟩ : ∃ W1, W1 = W.alloc (.cells #[.pointer (some ⟨2, 59, none⟩), .pointer (some ⟨vb, 0, none⟩), .int .u64 150] 71) := ⟨_, rfl⟩
  obtain ⟨W2, hW2⟩ : ∃ W2, W2 = W1.alloc (.cells #[.pointer (some ⟨b, 0, none⟩)] 53) := ⟨_, rfl⟩
  have el := asK_elemV ⟨vb, 0, none⟩ ⟨tb, 0, none⟩ W1 (by rw [hW1]; exact cell_old _ _ _ _ hv)
  have s1 : W1.heap.size = W.heap.size + 1 := by rw [hW1]; simp
  have c1 : W1.cell? ⟨tb, 0, none⟩ = some old := by rw [hW1]; exact cell_old _ _ _ _ ht
  have c2 : W2.cell? ⟨tb, 0, none⟩ = some old := by rw [hW2]; exact cell_old _ _ _ _ c1
  have b1 : Below tb W W1 := by rw [hW1]; exact (Below.refl _ _).alloc (by omega) _
  have b2 : Below tb W W2 := by rw [hW2]; exact b1.alloc (by omega) _
  have st := asF_setK ⟨tb, 0, none⟩ ⟨W1.heap.size, 0, none⟩ ⟨b, 0, none⟩ old W2 (by rw [hW2, cell_new]; rfl) c2
    (by rw [hW2]; refine frozen_old _ _ _ (by rw [s1]; show tb < _; omega) ?_; rw [hW1]; exact frozen_old _ _ _ htl hf)
  have vS := asF_valueOfS ⟨b, 0, none⟩ W1
  rw [← hW2] at vS
  have C2 := Lib.hid c2
  have B2 := Lib.hid b2
  rw [s1] at st vS
  rw [hW1] at el vS
  clear hW2 c1 c2 b1 b2 s1 hv ht hf
  have tO := asF_typeOf
  have mA := asAsgM
  have aK := asF_asgK
  have xO := ext_xO
  have xA := ext_xA
  have xE := ext_xE
  have xV := ext_xV
  have xS := ext_xS
  clear hW1
  go_enter Tryd.func28, Tryd.ntmps28
  go_wp2
  refine wp_loop_rounds 1 ?_
  rw [rounds_succ]
  go_wp2
  go_ret
  exact ⟨rfl, cell_set _ _ _ _ C2.out, B2.out.setCell (Nat.le_refl _) _⟩

set_option maxHeartbeats 4000000 in
set_option maxRecDepth 1000000 in
/-- errors.as at a *placed, the target a *kinded. -/
theorem as_kindedQ (b tb vb : Nat) (old : Value) (W : World) (hv : W.cell? ⟨vb, 0, none⟩ = some (.pointer (some ⟨tb, 0, none⟩))) (ht : W.cell? ⟨tb, 0, none⟩ = some old) (hf : W.frozen? ⟨tb, 0, none⟩ = false) :
    Calls Tryd.prog 28 #[.iface 47 (.pointer (some ⟨b, 0, none⟩)), .iface 59 (.pointer (some ⟨tb, 0, none⟩)), .agg #[.pointer (some ⟨2, 59, none⟩), .pointer (some ⟨vb, 0, none⟩), .int .u64 150], .iface 82 (.agg #[.pointer (some ⟨2, 57, none⟩)])] W fun e w' =>
      e = .returned (.bool true) ∧ w'.cell? ⟨tb, 0, none⟩ = some (.iface 47 (.pointer (some ⟨b, 0, none⟩))) ∧ Below tb W w' := by
  have htl : tb < W.heap.size := lt_of_cell ht
  obtain ⟨W1, hW1⟩ : ∃ W1, W1 = W.alloc (.cells #[.pointer (some ⟨2, 59, none⟩), .pointer (some ⟨vb, 0, none⟩), .int .u64 150] 71) := ⟨_, rfl⟩
  obtain ⟨W2, hW2⟩ : ∃ W2, W2 = W1.alloc (.cells #[.pointer (some ⟨b, 0, none⟩)] 47) := ⟨_, rfl⟩
  have el := asK_elemV ⟨vb, 0, none⟩ ⟨tb, 0, none⟩ W1 (by rw [hW1]; exact cell_old _ _ _ _ hv)
  have s1 : W1.heap.size = W.heap.size + 1 := by rw [hW1]; simp
  have c1 : W1.cell? ⟨tb, 0, none⟩ = some old := by rw [hW1]; exact cell_old _ _ _ _ ht
  have c2 : W2.cell? ⟨tb, 0, none⟩ = some old := by rw [hW2]; exact cell_old _ _ _ _ c1
  have b1 : Below tb W W1 := by rw [hW1]; exact (Below.refl _ _).alloc (by omega) _
  have b2 : Below tb W W2 := by rw [hW2]; exact b1.alloc (by omega) _
  have st := asQ_setK ⟨tb, 0, none⟩ ⟨W1.heap.size, 0, none⟩ ⟨b, 0, none⟩ old W2 (by rw [hW2, cell_new]; rfl) c2
    (by rw [hW2]; refine frozen_old _ _ _ (by rw [s1]; show tb < _; omega) ?_; rw [hW1]; exact frozen_old _ _ _ htl hf)
  have vS := asQ_valueOfS ⟨b, 0, none⟩ W1
  rw [← hW2] at vS
  have C2 := Lib.hid c2
  have B2 := Lib.hid b2
  rw [s1] at st vS
  rw [hW1] at el vS
  clear hW2 c1 c2 b1 b2 s1 hv ht hf
  have tO := asQ_typeOf
  have mA := asAsgM
  have aK := asQ_asgK
  have xO := ext_xO
  have xA := ext_xA
  have xE := ext_xE
  have xV := ext_xV
  have xS := ext_xS
  clear hW1
  go_enter Tryd.func28, Tryd.ntmps28
  go_wp2
  refine wp_loop_rounds 1 ?_
  rw [rounds_succ]
  go_wp2
  go_ret
  exact ⟨rfl, cell_set _ _ _ _ C2.out, B2.out.setCell (Nat.le_refl _) _⟩
end Go.Proofs.YtiagcbedmdfjpaaDoor
