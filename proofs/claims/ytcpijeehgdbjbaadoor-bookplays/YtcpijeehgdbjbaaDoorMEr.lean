/-
  Closed facts on the model's entries for internal/reflectlite at this seat's type numbers, as errors.As comes to them at a target of type *api.Errno; what the cell of errors.errorType holds (ErrT). Conditions stand in each theorem.
-/
import Derived.Test.YtcpijeehgdbjbaaDoorRows
import Derived.WalkKit
import Derived.WalkSpells
import Derived.WalkLawsBesides
import Derived.LaidEql
import Derived.Stop.Asserts
import Derived.RowKitTokens
import Derived.Lib.ReflectliteSlice
import Derived.Handy
import Derived.BigQuiet
import Derived.LaidLaws
import Derived.LaidHandle
namespace Go.Proofs.YtcpijeehgdbjbaaDoor
open Go.RowKit Go.Extern.Stop Go.Stop Go.Extern

theorem Tryd.vP (t : Addr) (w : World) : (ReflectliteValue.unpack (.iface 160 (.pointer (some t)))).run Tryd.prog w
    = .ok (.agg #[.pointer (some ⟨1, 160, none⟩), .pointer (some ⟨w.heap.size, 0, none⟩), .int .u64 150]) (w.alloc (.cells #[.pointer (some t)] 160)) := by kernel_rfl
theorem Tryd.tP (a : Addr) (w : World) : (ReflectliteValue.methodAny (ReflectliteValue.valueError "reflectlite.Value.Type" 0) (fun t _ _ _ => ReflectliteType.toType t) #[.agg #[.pointer (some ⟨1, 160, none⟩), .pointer (some a), .int .u64 150]]).run Tryd.prog w
    = .ok (.iface 195 (.agg #[.pointer (some ⟨1, 160, none⟩)])) w := by kernel_rfl
theorem Tryd.mKind (h : Value) (w : World) : (Go.method 338 195 (.agg #[h]) "Kind").run Tryd.prog w = .ok (127, h) w := by kernel_rfl
theorem Tryd.kP (w : World) : ((ReflectliteType.abiMethod fun t => (fun a : Nat => Value.int IntKind.u8 (a : Int)) <$> Rtype.kind t) #[.pointer (some ⟨1, 160, none⟩)]).run Tryd.prog w = .ok (.int .u8 22) w := by kernel_rfl
theorem Tryd.kE (w : World) : ((ReflectliteType.abiMethod fun t => (fun a : Nat => Value.int IntKind.u8 (a : Int)) <$> Rtype.kind t) #[.pointer (some ⟨1, 22, none⟩)]).run Tryd.prog w = .ok (.int .u8 2) w := by kernel_rfl
theorem Tryd.partsP (a : Addr) (w : World) : (ReflectliteValue.parts (.agg #[.pointer (some ⟨1, 160, none⟩), .pointer (some a), .int .u64 150])).run Tryd.prog w = .ok (some (160, a, 150)) w := by kernel_rfl
theorem Tryd.isNilP (a p : Addr) (W : World) (ha : W.cell? a = some (.pointer (some p))) :
    (ReflectliteValue.method (ReflectliteValue.valueError "reflectlite.Value.IsNil" 0) ReflectliteValue.isNil #[.agg #[.pointer (some ⟨1, 160, none⟩), .pointer (some a), .int .u64 150]]).run Tryd.prog W = .ok (.bool false) W := by
  rw [Lib.rl_method]
  simp only [Sem.run_bind, Tryd.partsP, Result.andThen]
  simp [ReflectliteValue.isNil, loadVar, isAgg, underlying, Tryd.underlying160, ha, Result.andThen]
theorem Tryd.mElem (h : Value) (w : World) : (Go.method 338 195 (.agg #[h]) "Elem").run Tryd.prog w = .ok (139, .agg #[h]) w := by kernel_rfl
theorem Tryd.mImplements (h : Value) (w : World) : (Go.method 338 195 (.agg #[h]) "Implements").run Tryd.prog w = .ok (140, .agg #[h]) w := by kernel_rfl
theorem Tryd.mAssignableTo (h : Value) (w : World) : (Go.method 338 195 (.agg #[h]) "AssignableTo").run Tryd.prog w = .ok (137, .agg #[h]) w := by kernel_rfl
theorem Tryd.elemP (w : World) : (ReflectliteType.method ReflectliteType.elem #[.agg #[.pointer (some ⟨1, 160, none⟩)]]).run Tryd.prog w = .ok (.iface 195 (.agg #[.pointer (some ⟨1, 22, none⟩)])) w := by kernel_rfl
theorem Tryd.implementsE (w : World) : (ReflectliteType.relation "Implements" ReflectliteType.implements_ #[.agg #[.pointer (some ⟨1, 22, none⟩)], .iface 195 (.agg #[.pointer (some ⟨1, 26, none⟩)])]).run Tryd.prog w = .ok (.bool true) w := by kernel_rfl
theorem Tryd.typeOfE (v : Value) (w : World) : (ReflectliteType.typeOf #[.iface 22 v]).run Tryd.prog w = .ok (.iface 195 (.agg #[.pointer (some ⟨1, 22, none⟩)])) w := by kernel_rfl
theorem Tryd.assignableE (w : World) : (ReflectliteType.relation "AssignableTo" ReflectliteType.assignableTo #[.agg #[.pointer (some ⟨1, 22, none⟩)], .iface 195 (.agg #[.pointer (some ⟨1, 22, none⟩)])]).run Tryd.prog w = .ok (.bool true) w := by kernel_rfl
theorem Tryd.valueOfE (n : Int) (w : World) : (ReflectliteValue.unpack (.iface 22 (.int .i64 n))).run Tryd.prog w
    = .ok (.agg #[.pointer (some ⟨1, 22, none⟩), .pointer (some ⟨w.heap.size, 0, none⟩), .int .u64 130]) (w.alloc (.cells #[.int .i64 n] 22)) := by kernel_rfl
theorem Tryd.elemOfP (w : World) : (Rtype.elem? 160).run Tryd.prog w = .ok (some 22) w := by kernel_rfl
theorem Tryd.mkE (p : Addr) (w : World) : (ReflectliteValue.mk 22 p ReflectliteValue.flagAddr).run Tryd.prog w = .ok (.agg #[.pointer (some ⟨1, 22, none⟩), .pointer (some p), .int .u64 386]) w := by kernel_rfl
theorem Tryd.elemVP (a p : Addr) (W : World) (ha : W.cell? a = some (.pointer (some p))) :
    (ReflectliteValue.method (ReflectliteValue.valueError "reflectlite.Value.Elem" 0) ReflectliteValue.elem #[.agg #[.pointer (some ⟨1, 160, none⟩), .pointer (some a), .int .u64 150]]).run Tryd.prog W
      = .ok (.agg #[.pointer (some ⟨1, 22, none⟩), .pointer (some p), .int .u64 386]) W := by
  rw [Lib.rl_method]
  simp only [Sem.run_bind, Tryd.partsP, Result.andThen]
  simp [ReflectliteValue.elem, loadVar, isAgg, underlying, Tryd.underlying160, ha, Result.andThen, Tryd.elemOfP, Tryd.mkE]
theorem Tryd.partsEa (a : Addr) (w : World) : (ReflectliteValue.parts (.agg #[.pointer (some ⟨1, 22, none⟩), .pointer (some a), .int .u64 386])).run Tryd.prog w = .ok (some (22, a, 386)) w := by kernel_rfl
theorem Tryd.partsE (a : Addr) (w : World) : (ReflectliteValue.parts (.agg #[.pointer (some ⟨1, 22, none⟩), .pointer (some a), .int .u64 130])).run Tryd.prog w = .ok (some (22, a, 130)) w := by kernel_rfl
theorem Tryd.directE (w : World) : (Rtype.directlyAssignable 22 22).run Tryd.prog w = .ok true w := by kernel_rfl
theorem set_arm {motive : Array Value → Sort _} (v x : Value) (f : (v x : Value) → motive #[v, x]) (g : (a : Array Value) → motive a) :
    ReflectliteValue.set.match_3 motive #[v, x] f g = f v x := rfl
theorem Tryd.setE (ta b : Addr) (n : Int) (old : Value) (W : World) (hb : W.cell? b = some (.int .i64 n)) (ht : W.cell? ta = some old) (hf : W.frozen? ta = false) :
    (ReflectliteValue.set #[.agg #[.pointer (some ⟨1, 22, none⟩), .pointer (some ta), .int .u64 386], .agg #[.pointer (some ⟨1, 22, none⟩), .pointer (some b), .int .u64 130]]).run Tryd.prog W
      = .ok (.tuple #[]) (W.setCell ta (.int .i64 n)) := by
  delta ReflectliteValue.set
  rw [set_arm]
  simp only [Sem.run_bind, Tryd.partsEa, Tryd.partsE, Result.andThen]
  simp [ReflectliteValue.flagAddr, loadVar, isAgg, underlying, Tryd.underlying22, hb, Result.andThen, Tryd.directE, storeVar, Value.cells, storeCells, Addr.add]
  rw [run_store Tryd.prog W ta _ _ (by rfl)]
  simp [ht, hf]

/-- The cell of errors.errorType holds the handle of the type error. -/
def ErrT (w : World) : Prop := w.cell? ⟨0, 0, none⟩ = some (.iface 195 (.agg #[.pointer (some ⟨1, 26, none⟩)]))
theorem ErrT.lt {w : World} (hg : ErrT w) : 0 < w.heap.size := by
  rcases Nat.lt_or_ge 0 w.heap.size with h | h
  · exact h
  · simp [ErrT, World.cell?, Array.getElem?_eq_none h] at hg
theorem ErrT.below {w w' : World} (hg : ErrT w) (hb : Below w.heap.size w w') : ErrT w' := (hb.cell (p := ⟨0, 0, none⟩) hg.lt).trans hg

theorem Tryd.typeOfA (v : Value) (w : World) : (ReflectliteType.typeOf #[.iface 105 v]).run Tryd.prog w = .ok (.iface 195 (.agg #[.pointer (some ⟨1, 105, none⟩)])) w := by kernel_rfl
theorem Tryd.assignableA (w : World) : (ReflectliteType.relation "AssignableTo" ReflectliteType.assignableTo #[.agg #[.pointer (some ⟨1, 105, none⟩)], .iface 195 (.agg #[.pointer (some ⟨1, 22, none⟩)])]).run Tryd.prog w = .ok (.bool false) w := by kernel_rfl
theorem Tryd.noAsA (v : Value) (xT : TypeId) (w : World) : (Instr.typeAssert (.iface 105 v) xT 200 true).run Tryd.prog w = .ok (.tuple #[.nilIface, .bool false]) w := run_typeAssert_lacksB Tryd.underlying200 (by kernel_rfl) (by kernel_rfl) v xT w
theorem Tryd.unwrapA (v : Value) (xT : TypeId) (w : World) : (Instr.typeAssert (.iface 105 v) xT 156 true).run Tryd.prog w = .ok (.tuple #[.iface 105 v, .bool true]) w := run_typeAssert_hasB Tryd.underlying156 (by kernel_rfl) v xT w
theorem Tryd.noUnwrapE (v : Value) (xT : TypeId) (w : World) : (Instr.typeAssert (.iface 22 v) xT 156 true).run Tryd.prog w = .ok (.tuple #[.nilIface, .bool false]) w := run_typeAssert_lacksB Tryd.underlying156 (by kernel_rfl) (by kernel_rfl) v xT w
theorem Tryd.toAtE (v : Value) (w : World) : (Instr.typeAssert (.iface 22 v) 26 105 true).run Tryd.prog w = .ok (.tuple #[.pointer none, .bool false]) w := by kernel_rfl
theorem Tryd.toAtA (v : Value) (w : World) : (Instr.typeAssert (.iface 105 v) 26 105 true).run Tryd.prog w = .ok (.tuple #[v, .bool true]) w := by kernel_rfl

theorem alloc_lt {w : World} (o : Obj) {a : Addr} (h : a.block < w.heap.size) : (w.alloc o).cell? a = w.cell? a := World.cell?_alloc_lt _ _ a h
theorem alloc_fr {w : World} (o : Obj) {a : Addr} (h : a.block < w.heap.size) : (w.alloc o).frozen? a = w.frozen? a := World.frozen?_alloc_old _ _ a (Nat.ne_of_lt h)
theorem lt_of_cell {w : World} {a : Addr} {v : Value} (h : w.cell? a = some v) : a.block < w.heap.size := by
  rcases Nat.lt_or_ge a.block w.heap.size with h' | h'
  · exact h'
  · simp [World.cell?, Array.getElem?_eq_none h'] at h
end Go.Proofs.YtcpijeehgdbjbaaDoor

/-
  What errors.As returns, and leaves, at a target of type *api.Errno, over this seat's translation: of an Errno and of an At. Conditions stand in each theorem: the cell of errors.errorType, the target's cell, the cells of the At.
-/
namespace Go.Proofs.YtcpijeehgdbjbaaDoor
open Go.RowKit Go.Extern.Stop Go.Stop Go.Extern

set_option maxHeartbeats 4000000 in
theorem as_errno (n : Int) (t a : Addr) (old : Value) (w : World) (ha : w.cell? a = some (.pointer (some t))) (ht0 : w.cell? t = some old) (hf0 : w.frozen? t = false) :
    Calls Tryd.prog 91 #[.iface 22 (.int .i64 n), .iface 160 (.pointer (some t)), .agg #[.pointer (some ⟨1, 160, none⟩), .pointer (some a), .int .u64 150], .iface 195 (.agg #[.pointer (some ⟨1, 22, none⟩)])] w fun ev w' => ev = .returned (.bool true)
      ∧ w' = ((w.alloc (.cells #[.pointer (some ⟨1, 160, none⟩), .pointer (some a), .int .u64 150] 180)).alloc (.cells #[.int .i64 n] 22)).setCell t (.int .i64 n) := by
  have hal := lt_of_cell ha
  have htl := lt_of_cell ht0
  have h6 := @run_callFunc_extern Tryd.prog 88 _ (fun args => ReflectliteValue.unpack (args.getD 0 (.tuple #[]))) Tryd.func88 (by kernel_rfl) (by kernel_rfl) (by kernel_rfl) (by kernel_rfl)
  have h10 := @run_callFunc_extern Tryd.prog 96 _ ReflectliteType.typeOf Tryd.func96 (by kernel_rfl) (by kernel_rfl) (by kernel_rfl) (by kernel_rfl)
  have h35 := @run_callFunc_extern Tryd.prog 137 _ (ReflectliteType.relation "AssignableTo" ReflectliteType.assignableTo) Tryd.func137 (by kernel_rfl) (by kernel_rfl) (by kernel_rfl) (by kernel_rfl)
  have h11 := @run_callFunc_extern Tryd.prog 97 _ (ReflectliteValue.method (ReflectliteValue.valueError "reflectlite.Value.Elem" 0) ReflectliteValue.elem) Tryd.func97 (by kernel_rfl) (by kernel_rfl) (by kernel_rfl) (by kernel_rfl)
  have h12 := @run_callFunc_extern Tryd.prog 98 _ ReflectliteValue.set Tryd.func98 (by kernel_rfl) (by kernel_rfl) (by kernel_rfl) (by kernel_rfl)
  have tO := Tryd.typeOfE
  have mA := Tryd.mAssignableTo
  have aE := Tryd.assignableE
  have vE := Tryd.valueOfE
  have el := Tryd.elemVP a t (w.alloc (.cells #[.pointer (some ⟨1, 160, none⟩), .pointer (some a), .int .u64 150] 180)) (by rw [alloc_lt _ hal]; exact ha)
  have st := Tryd.setE t ⟨w.heap.size + 1, 0, none⟩ n old ((w.alloc (.cells #[.pointer (some ⟨1, 160, none⟩), .pointer (some a), .int .u64 150] 180)).alloc (.cells #[.int .i64 n] 22))
    (by rw [World.cell?_alloc_at _ _ _ _ (by simp)]; rfl)
    (by rw [alloc_lt _ (by simp; omega), alloc_lt _ htl]; exact ht0)
    (by rw [alloc_fr _ (by simp; omega), alloc_fr _ htl]; exact hf0)
  go_enter Tryd.func91, Tryd.ntmps91
  go_wp2
  refine wp_loop_rounds 1 ?_
  rw [rounds_succ]
  go_wp2
  go_ret
  exact ⟨rfl, rfl⟩

set_option maxHeartbeats 4000000 in
theorem as_at (n : Int) (b o : Nat) (t a : Addr) (old : Value) (w : World) (hn : w.cell? ⟨b, o, none⟩ = some (.int .i64 n)) (ha : w.cell? a = some (.pointer (some t))) (ht0 : w.cell? t = some old) (hf0 : w.frozen? t = false) :
    Calls Tryd.prog 91 #[.iface 105 (.pointer (some ⟨b, o, none⟩)), .iface 160 (.pointer (some t)), .agg #[.pointer (some ⟨1, 160, none⟩), .pointer (some a), .int .u64 150], .iface 195 (.agg #[.pointer (some ⟨1, 22, none⟩)])] w fun ev w' => ev = .returned (.bool true)
      ∧ w' = ((w.alloc (.cells #[.pointer (some ⟨1, 160, none⟩), .pointer (some a), .int .u64 150] 180)).alloc (.cells #[.int .i64 n] 22)).setCell t (.int .i64 n) := by
  have hal := lt_of_cell ha
  have htl := lt_of_cell ht0
  have hbl := lt_of_cell hn
  have h6 := @run_callFunc_extern Tryd.prog 88 _ (fun args => ReflectliteValue.unpack (args.getD 0 (.tuple #[]))) Tryd.func88 (by kernel_rfl) (by kernel_rfl) (by kernel_rfl) (by kernel_rfl)
  have h10 := @run_callFunc_extern Tryd.prog 96 _ ReflectliteType.typeOf Tryd.func96 (by kernel_rfl) (by kernel_rfl) (by kernel_rfl) (by kernel_rfl)
  have h35 := @run_callFunc_extern Tryd.prog 137 _ (ReflectliteType.relation "AssignableTo" ReflectliteType.assignableTo) Tryd.func137 (by kernel_rfl) (by kernel_rfl) (by kernel_rfl) (by kernel_rfl)
  have h11 := @run_callFunc_extern Tryd.prog 97 _ (ReflectliteValue.method (ReflectliteValue.valueError "reflectlite.Value.Elem" 0) ReflectliteValue.elem) Tryd.func97 (by kernel_rfl) (by kernel_rfl) (by kernel_rfl) (by kernel_rfl)
  have h12 := @run_callFunc_extern Tryd.prog 98 _ ReflectliteValue.set Tryd.func98 (by kernel_rfl) (by kernel_rfl) (by kernel_rfl) (by kernel_rfl)
  have tO := Tryd.typeOfE
  have tA := Tryd.typeOfA
  have mA := Tryd.mAssignableTo
  have aE := Tryd.assignableE
  have aA := Tryd.assignableA
  have nA := Tryd.noAsA
  have uA := Tryd.unwrapA
  have vE := Tryd.valueOfE
  have hn2 : (w.alloc (.cells #[.pointer (some ⟨1, 160, none⟩), .pointer (some a), .int .u64 150] 180)).cell? ⟨b, o, none⟩ = some (.int .i64 n) := by rw [alloc_lt _ hbl]; exact hn
  have el := Tryd.elemVP a t (w.alloc (.cells #[.pointer (some ⟨1, 160, none⟩), .pointer (some a), .int .u64 150] 180)) (by rw [alloc_lt _ hal]; exact ha)
  have st := Tryd.setE t ⟨w.heap.size + 1, 0, none⟩ n old ((w.alloc (.cells #[.pointer (some ⟨1, 160, none⟩), .pointer (some a), .int .u64 150] 180)).alloc (.cells #[.int .i64 n] 22))
    (by rw [World.cell?_alloc_at _ _ _ _ (by simp)]; rfl)
    (by rw [alloc_lt _ (by simp; omega), alloc_lt _ htl]; exact ht0)
    (by rw [alloc_fr _ (by simp; omega), alloc_fr _ htl]; exact hf0)
  go_enter Tryd.func91, Tryd.ntmps91
  go_wp2
  refine wp_loop_rounds 2 ?_
  rw [rounds_succ]
  go_wp2
  rw [rounds_succ]
  go_wp2
  go_ret
  exact ⟨rfl, rfl⟩

set_option maxHeartbeats 4000000 in
/-- errors.As of an error that is not nil, at a target of type *api.Errno: what errors.as returns behind it. -/
theorem As_of (te : TypeId) (ve : Value) (t : Addr) (w : World) (hg : ErrT w) (Q : Ending → World → Prop)
    (h : ∀ W : World, Below w.heap.size w W → W.cell? ⟨w.heap.size, 0, none⟩ = some (.pointer (some t)) →
      Calls Tryd.prog 91 #[.iface te ve, .iface 160 (.pointer (some t)), .agg #[.pointer (some ⟨1, 160, none⟩), .pointer (some ⟨w.heap.size, 0, none⟩), .int .u64 150], .iface 195 (.agg #[.pointer (some ⟨1, 22, none⟩)])] W
        fun e w' => (∃ r, e = .returned (.bool r)) ∧ Q e w') :
    Calls Tryd.prog 73 #[.iface te ve, .iface 160 (.pointer (some t))] w Q := by
  have hlt := hg.lt
  have h6 := @run_callFunc_extern Tryd.prog 88 _ (fun args => ReflectliteValue.unpack (args.getD 0 (.tuple #[]))) Tryd.func88 (by kernel_rfl) (by kernel_rfl) (by kernel_rfl) (by kernel_rfl)
  have h7 := @run_callFunc_extern Tryd.prog 89 _ (ReflectliteValue.methodAny (ReflectliteValue.valueError "reflectlite.Value.Type" 0) (fun t _ _ _ => ReflectliteType.toType t)) Tryd.func89 (by kernel_rfl) (by kernel_rfl) (by kernel_rfl) (by kernel_rfl)
  have h8 := @run_callFunc_extern Tryd.prog 90 _ (ReflectliteValue.method (ReflectliteValue.valueError "reflectlite.Value.IsNil" 0) ReflectliteValue.isNil) Tryd.func90 (by kernel_rfl) (by kernel_rfl) (by kernel_rfl) (by kernel_rfl)
  have h27 := @run_callFunc_extern Tryd.prog 127 _ (ReflectliteType.abiMethod fun t => do pure (.int .u8 (← Rtype.kind t))) Tryd.func127 (by kernel_rfl) (by kernel_rfl) (by kernel_rfl) (by kernel_rfl)
  have h37 := @run_callFunc_extern Tryd.prog 139 _ (ReflectliteType.method ReflectliteType.elem) Tryd.func139 (by kernel_rfl) (by kernel_rfl) (by kernel_rfl) (by kernel_rfl)
  have h38 := @run_callFunc_extern Tryd.prog 140 _ (ReflectliteType.relation "Implements" ReflectliteType.implements_) Tryd.func140 (by kernel_rfl) (by kernel_rfl) (by kernel_rfl) (by kernel_rfl)
  have f6 := Tryd.vP
  have f7 := Tryd.tP
  have mK := Tryd.mKind
  have mE := Tryd.mElem
  have mI := Tryd.mImplements
  have k27 := Tryd.kP
  have k25 := Tryd.kE
  have e27 := Tryd.elemP
  have i25 := Tryd.implementsE
  have n8 := Tryd.isNilP ⟨w.heap.size, 0, none⟩ t ((w.alloc (.cells #[.pointer (some t)] 160)).alloc (.cells #[.pointer (some ⟨1, 160, none⟩), .pointer (some ⟨w.heap.size, 0, none⟩), .int .u64 150] 180)) (by simp)
  have hg2 : ((w.alloc (.cells #[.pointer (some t)] 160)).alloc (.cells #[.pointer (some ⟨1, 160, none⟩), .pointer (some ⟨w.heap.size, 0, none⟩), .int .u64 150] 180)).cell? ⟨0, 0, none⟩ = some (.iface 195 (.agg #[.pointer (some ⟨1, 26, none⟩)])) := by
    rw [alloc_lt _ (by simp <;> omega), alloc_lt _ hlt]; exact hg
  have H : Hid (∀ W : World, Below w.heap.size w W → W.cell? ⟨w.heap.size, 0, none⟩ = some (.pointer (some t)) →
      Calls Tryd.prog 91 #[.iface te ve, .iface 160 (.pointer (some t)), .agg #[.pointer (some ⟨1, 160, none⟩), .pointer (some ⟨w.heap.size, 0, none⟩), .int .u64 150], .iface 195 (.agg #[.pointer (some ⟨1, 22, none⟩)])] W
        fun e w' => (∃ r, e = .returned (.bool r)) ∧ Q e w') := h
  clear h
  go_enter Tryd.func73, Tryd.ntmps73
  go_wp2_with fail
  refine (H.out _ ?_ ?_).mono ?_
  · exact ((Below.refl _ _).alloc (Nat.le_refl _) _).alloc (by simp) _
  · rw [alloc_lt _ (by simp)]; exact World.cell?_alloc_at _ _ _ _ rfl
  · rintro e w' ⟨⟨r, rfl⟩, hq⟩
    go_wp2_with fail
    exact hq
end Go.Proofs.YtcpijeehgdbjbaaDoor

/-
  What api.Tell, plain.Place and the laws' own 'is' and 'bare' return of the errors that the program makes (nil, an Errno, an At), over this seat's translation. Conditions stand in each theorem: the cell of errors.errorType (ErrT), the cells of the At.
-/
namespace Go.Proofs.YtcpijeehgdbjbaaDoor
open Go.RowKit Go.Extern.Stop Go.Stop Go.Extern

/-- In the world w the error value 'err' is of number n at place k (-1: none). -/
def ErrIs (w : World) (err : Value) (n k : Int) : Prop :=
  (err = .nilIface ∧ n = 0 ∧ k = -1) ∨ (err = .iface 22 (.int .i64 n) ∧ k = -1)
    ∨ (∃ b o : Nat, err = .iface 105 (.pointer (some ⟨b, o, none⟩)) ∧ w.cell? ⟨b, o, none⟩ = some (.int .i64 n) ∧ w.cell? ⟨b, o + 1, none⟩ = some (.int .i64 k))
theorem ErrIs.below {w w' : World} {err : Value} {n k : Int} (h : ErrIs w err n k) (hb : Below w.heap.size w w') : ErrIs w' err n k := by
  rcases h with h | h | ⟨b, o, h1, h2, h3⟩
  · exact Or.inl h
  · exact Or.inr (Or.inl h)
  · exact Or.inr (Or.inr ⟨b, o, h1, (hb.cell (p := ⟨b, o, none⟩) (lt_of_cell (a := ⟨b, o, none⟩) h2)).trans h2, (hb.cell (p := ⟨b, o + 1, none⟩) (lt_of_cell (a := ⟨b, o, none⟩) h2)).trans h3⟩)

theorem after_as {w W w' : World} {t : Addr} {n : Int} {o1 o2 : Obj} {old : Value} (hb : Below w.heap.size w W) (ht : W.cell? t = some old) (hw : w' = ((W.alloc o1).alloc o2).setCell t (.int .i64 n)) (B : Nat) (hBt : B ≤ t.block) (hBw : B ≤ w.heap.size) :
    w'.cell? t = some (.int .i64 n) ∧ Below B w w' := by
  have htl := lt_of_cell ht
  have hs := hb.size
  subst hw
  refine ⟨World.cell?_setCell_same' _ _ _ ?_, ?_⟩
  · rw [alloc_lt _ (by simp; omega), alloc_lt _ htl, ht]; rfl
  · exact (((hb.mono hBw).alloc (by omega) _).alloc (by simp; omega) _).setCell hBt _

set_option maxHeartbeats 400000 in
theorem tell_nil (w : World) : Calls Tryd.prog 54 #[.nilIface] w fun e w' => e = .returned (.int .i64 0) ∧ w' = w := by
  go_enter Tryd.func54, Tryd.ntmps54
  go_wp2
  go_ret
  exact ⟨rfl, rfl⟩

theorem As_errno (n : Int) (t : Addr) (w : World) (hg : ErrT w) (ht : w.cell? t = some (.int .i64 0)) (hf : w.frozen? t = false) :
    Calls Tryd.prog 73 #[.iface 22 (.int .i64 n), .iface 160 (.pointer (some t))] w fun e w' => e = .returned (.bool true) ∧ w'.cell? t = some (.int .i64 n) ∧ Below t.block w w' :=
  As_of _ _ t w hg _ fun W hb ha => (as_errno n t _ (.int .i64 0) W ha ((hb.cell (lt_of_cell ht)).trans ht) ((hb.frozen (lt_of_cell ht)).trans hf)).mono fun _ _ ⟨he, hw⟩ =>
    have h := after_as hb ((hb.cell (lt_of_cell ht)).trans ht) hw t.block (Nat.le_refl _) (Nat.le_of_lt (lt_of_cell ht))
    ⟨⟨_, he⟩, he, h.1, h.2⟩

theorem As_at (n : Int) (b o : Nat) (t : Addr) (w : World) (hg : ErrT w) (hn : w.cell? ⟨b, o, none⟩ = some (.int .i64 n)) (ht : w.cell? t = some (.int .i64 0)) (hf : w.frozen? t = false) :
    Calls Tryd.prog 73 #[.iface 105 (.pointer (some ⟨b, o, none⟩)), .iface 160 (.pointer (some t))] w fun e w' => e = .returned (.bool true) ∧ w'.cell? t = some (.int .i64 n) ∧ Below t.block w w' :=
  As_of _ _ t w hg _ fun W hb ha => (as_at n b o t _ (.int .i64 0) W ((hb.cell (p := ⟨b, o, none⟩) (lt_of_cell (a := ⟨b, o, none⟩) hn)).trans hn) ha ((hb.cell (lt_of_cell ht)).trans ht) ((hb.frozen (lt_of_cell ht)).trans hf)).mono fun _ _ ⟨he, hw⟩ =>
    have h := after_as hb ((hb.cell (lt_of_cell ht)).trans ht) hw t.block (Nat.le_refl _) (Nat.le_of_lt (lt_of_cell ht))
    ⟨⟨_, he⟩, he, h.1, h.2⟩

set_option maxHeartbeats 400000 in
theorem tell_errno (n : Int) (w : World) (hg : ErrT w) : Calls Tryd.prog 54 #[.iface 22 (.int .i64 n)] w fun e w' => e = .returned (.int .i64 n) ∧ Below w.heap.size w w' := by
  have hg1 : ErrT (w.alloc (.cells #[.int .i64 0] 22)) := hg.below ((Below.refl _ _).alloc (Nat.le_refl _) _)
  go_enter Tryd.func54, Tryd.ntmps54
  go_wp2_with fail
  refine (As_errno n ⟨w.heap.size, 0, none⟩ _ hg1 (by simp) (by simp)).mono ?_
  rintro e w1 ⟨rfl, hc, hb⟩
  go_wp2
  go_ret
  exact ⟨rfl, ((Below.refl _ _).alloc (Nat.le_refl _) _).trans hb⟩

set_option maxHeartbeats 400000 in
theorem tell_at (n : Int) (b o : Nat) (w : World) (hg : ErrT w) (hn : w.cell? ⟨b, o, none⟩ = some (.int .i64 n)) : Calls Tryd.prog 54 #[.iface 105 (.pointer (some ⟨b, o, none⟩))] w fun e w' => e = .returned (.int .i64 n) ∧ Below w.heap.size w w' := by
  have hg1 : ErrT (w.alloc (.cells #[.int .i64 0] 22)) := hg.below ((Below.refl _ _).alloc (Nat.le_refl _) _)
  have hn1 : Hid ((w.alloc (.cells #[.int .i64 0] 22)).cell? ⟨b, o, none⟩ = some (.int .i64 n)) := (alloc_lt (a := ⟨b, o, none⟩) _ (lt_of_cell (a := ⟨b, o, none⟩) hn)).trans hn
  go_enter Tryd.func54, Tryd.ntmps54
  go_wp2_with fail
  refine (As_at n b o ⟨w.heap.size, 0, none⟩ _ hg1 hn1.out (by simp) (by simp)).mono ?_
  rintro e w1 ⟨rfl, hc, hb⟩
  go_wp2
  go_ret
  exact ⟨rfl, ((Below.refl _ _).alloc (Nat.le_refl _) _).trans hb⟩

theorem tell_any (err : Value) (n k : Int) (w : World) (hg : ErrT w) (h : ErrIs w err n k) : Calls Tryd.prog 54 #[err] w fun e w' => e = .returned (.int .i64 n) ∧ Below w.heap.size w w' := by
  rcases h with ⟨rfl, rfl, rfl⟩ | ⟨rfl, rfl⟩ | ⟨b, o, rfl, h1, h2⟩
  · exact (tell_nil w).mono fun _ _ ⟨he, hw⟩ => ⟨he, by subst hw; exact Below.refl _ _⟩
  · exact tell_errno n w hg
  · exact tell_at n b o w hg h1

set_option maxHeartbeats 400000 in
theorem place_nil (w : World) : Calls Tryd.prog 51 #[.nilIface] w fun e w' => e = .returned (.tuple #[.int .i64 0, .int .i64 (-1)]) ∧ w' = w := by
  go_enter Tryd.func51, Tryd.ntmps51
  go_wp2_with fail
  refine (tell_nil _).mono ?_
  rintro e w1 ⟨rfl, rfl⟩
  go_wp2_with fail
  refine wp_loop_rounds 1 ?_
  rw [rounds_succ]
  go_wp2
  go_ret2
  exact ⟨rfl, rfl⟩

set_option maxHeartbeats 400000 in
theorem place_errno (n : Int) (w : World) (hg : ErrT w) : Calls Tryd.prog 51 #[.iface 22 (.int .i64 n)] w fun e w' => e = .returned (.tuple #[.int .i64 n, .int .i64 (-1)]) ∧ Below w.heap.size w w' := by
  have nU := Tryd.noUnwrapE
  have tA := Tryd.toAtE
  go_enter Tryd.func51, Tryd.ntmps51
  go_wp2_with fail
  refine (tell_errno n _ hg).mono ?_
  rintro e w1 ⟨rfl, hb⟩
  go_wp2_with fail
  refine wp_loop_rounds 1 ?_
  rw [rounds_succ]
  go_wp2
  go_ret2
  exact ⟨rfl, hb⟩

set_option maxHeartbeats 400000 in
theorem place_at (n k : Int) (b o : Nat) (w : World) (hg : ErrT w) (hn : w.cell? ⟨b, o, none⟩ = some (.int .i64 n)) (hk : w.cell? ⟨b, o + 1, none⟩ = some (.int .i64 k)) : Calls Tryd.prog 51 #[.iface 105 (.pointer (some ⟨b, o, none⟩))] w fun e w' => e = .returned (.tuple #[.int .i64 n, .int .i64 k]) ∧ Below w.heap.size w w' := by
  go_enter Tryd.func51, Tryd.ntmps51
  go_wp2_with fail
  refine (tell_at n b o _ hg hn).mono ?_
  have tA := Tryd.toAtA
  rintro e w1 ⟨rfl, hb⟩
  have hk1 : w1.cell? ⟨b, o + 1, none⟩ = some (.int .i64 k) := (hb.cell (p := ⟨b, o + 1, none⟩) (lt_of_cell (a := ⟨b, o, none⟩) hn)).trans hk
  go_wp2_with fail
  refine wp_loop_rounds 1 ?_
  rw [rounds_succ]
  go_wp2
  go_quiet (fail)
  go_wp2
  go_ret2
  exact ⟨rfl, below_drewN hb _⟩

theorem place_any (err : Value) (n k : Int) (w : World) (hg : ErrT w) (h : ErrIs w err n k) : Calls Tryd.prog 51 #[err] w fun e w' => e = .returned (.tuple #[.int .i64 n, .int .i64 k]) ∧ Below w.heap.size w w' := by
  rcases h with ⟨rfl, rfl, rfl⟩ | ⟨rfl, rfl⟩ | ⟨b, o, rfl, h1, h2⟩
  · exact (place_nil w).mono fun _ _ ⟨he, hw⟩ => ⟨he, by subst hw; exact Below.refl _ _⟩
  · exact place_errno n w hg
  · exact place_at n k b o w hg h1 h2

set_option maxHeartbeats 400000 in
theorem is_yes (err : Value) (n k : Int) (w : World) (hg : ErrT w) (h : ErrIs w err n k) :
    Calls Tryd.prog 17 #[err, .agg #[.int .i64 n, .int .i64 k]] w fun e w' => e = .returned (.bool true) ∧ Below w.heap.size w w' := by
  have hb0 : Below w.heap.size w (w.alloc (.cells #[.int .i64 n, .int .i64 k] 38)) := (Below.refl _ _).alloc (Nat.le_refl _) _
  have HG : Hid (ErrT (w.alloc (.cells #[.int .i64 n, .int .i64 k] 38))) := hg.below hb0
  have HE : Hid (ErrIs (w.alloc (.cells #[.int .i64 n, .int .i64 k] 38)) err n k) := h.below hb0
  clear hb0
  go_enter Tryd.func17, Tryd.ntmps17
  go_wp2_with fail
  refine (place_any err n k _ HG.out HE.out).mono ?_
  rintro e w1 ⟨rfl, hb⟩
  have hc0 : w1.cell? ⟨w.heap.size, 0, none⟩ = some (.int .i64 n) := (hb.cell (p := ⟨w.heap.size, 0, none⟩) (by simp)).trans (World.cell?_alloc_at _ _ _ _ rfl)
  have hc1 : w1.cell? ⟨w.heap.size, 1, none⟩ = some (.int .i64 k) := (hb.cell (p := ⟨w.heap.size, 1, none⟩) (by simp)).trans (World.cell?_alloc_at _ _ _ _ rfl)
  go_wp2
  go_ret
  exact ⟨rfl, ((Below.refl _ _).alloc (Nat.le_refl _) _).trans (hb.mono (by simp))⟩

set_option maxHeartbeats 400000 in
theorem Bare_any (n : Int) (w : World) :
    Calls Tryd.prog 47 #[.int .i64 n] w fun e w' => e = .returned (.agg #[.int .i64 n, .int .i64 (-1)]) ∧ Below w.heap.size w w' := by
  go_enter Tryd.func47, Tryd.ntmps47
  go_wp2
  go_returns
  exact ⟨rfl, by go_grown⟩

set_option maxHeartbeats 400000 in
theorem bare_yes (err : Value) (n : Int) (w : World) (hg : ErrT w) (h : ErrIs w err n (-1)) :
    Calls Tryd.prog 12 #[err, .int .i64 n] w fun e w' => e = .returned (.bool true) ∧ Below w.heap.size w w' := by
  have HE : Hid (ErrIs w err n (-1)) := h
  clear h
  go_enter Tryd.func12, Tryd.ntmps12
  go_wp2_with fail
  refine (Bare_any n _).mono ?_
  rintro e w1 ⟨rfl, hb⟩
  go_wp2_with fail
  refine (is_yes err n (-1) _ (hg.below hb) (HE.out.below hb)).mono ?_
  rintro e w2 ⟨rfl, hb2⟩
  go_wp2
  go_ret
  exact ⟨rfl, hb.trans (hb2.mono hb.size)⟩
end Go.Proofs.YtcpijeehgdbjbaaDoor

/-
  What the row's list of package variables gives: the cell of errors.errorType holds the handle of the type error (ErrT); and the closed facts on the program that every row of this seat asks.
-/
namespace Go.Proofs.YtcpijeehgdbjbaaDoor
open Go.RowKit

theorem Tryd.own : ownKnob Tryd.prog.godebug = none := by kernel_rfl
theorem Tryd.et : Tryd.prog.globalNamed "errors.errorType" = some 0 := by kernel_rfl
/-- the name of the dynamic type that the row lays in errors.errorType -/
def rtName : String := match (Rows.laid_errors_errorType : DataW Unit) with | .iface n _ => n | _ => default
theorem Tryd.rt : (Tryd.prog.cutTypes.find? (·.1 == rtName)).map (·.2) = some 195 := by kernel_rfl
theorem Tryd.oneRow : ((List.range 238).filter fun t => Tryd.prog.rowNamed t [101, 114, 114, 111, 114]) = [26] := by kernel_rfl
theorem Tryd.size : Tryd.prog.types.size = 238 := by kernel_rfl

def laidList : List (String × DataW Unit) := [("errors.errorType", Rows.laid_errors_errorType)]

theorem errT_of_laid {W : World} (h : laidMetH Tryd.prog laidList W) : ErrT W := by
  have h' : laidMet Tryd.prog [] W ∧ handlesMet Tryd.prog laidList W := h
  obtain ⟨name, u, ty, e1, e2, e3, e4, e5⟩ := h'.2 _ (List.mem_singleton.2 rfl)
  have en : name = [101, 114, 114, 111, 114] := (Option.some.inj e1).symm
  subst en
  obtain rfl := Option.some.inj (Tryd.rt.symm.trans e2)
  have hm : ty ∈ (List.range 238).filter fun t => Tryd.prog.rowNamed t [101, 114, 114, 111, 114] := List.mem_filter.2 ⟨List.mem_range.2 (by rw [← Tryd.size]; exact e3), e4⟩
  rw [Tryd.oneRow] at hm
  obtain rfl := List.mem_singleton.1 hm
  have hh : typeHandle Tryd.prog 26 = .pointer (some ⟨1, 26, none⟩) := by kernel_rfl
  rw [hh] at e5
  simpa [ErrT] using World.var?_cell Tryd.et e5 0

/-- A world, the cell of errors.errorType laid. -/
def withErrT (w : World) : World := { w with heap := w.heap.modify 0 fun
  | .cells _ t frozen => .cells #[.iface 195 (.agg #[.pointer (some ⟨1, 26, none⟩)])] t frozen
  | o => o }
end Go.Proofs.YtcpijeehgdbjbaaDoor
