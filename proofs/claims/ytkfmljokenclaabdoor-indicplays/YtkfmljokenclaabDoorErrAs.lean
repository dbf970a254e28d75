/-
  What errors.As returns, and leaves, at a target of type *api.Errno, over this seat's translation: of an Errno and of an At. Conditions stand in each theorem: the cell of errors.errorType, the target's cell, the cells of the At.
-/
import Derived.Test.YtkfmljokenclaabDoorErrFacts
namespace Go.Proofs.YtkfmljokenclaabDoor
open Go.RowKit Go.Extern.Stop Go.Stop Go.Extern

set_option maxHeartbeats 4000000 in
theorem as_errno (n : Int) (t a : Addr) (old : Value) (w : World) (ha : w.cell? a = some (.pointer (some t))) (ht0 : w.cell? t = some old) (hf0 : w.frozen? t = false) :
    Calls Tryd.prog 71 #[.iface 35 (.int .i64 n), .iface 102 (.pointer (some t)), .agg #[.pointer (some ⟨1, 102, none⟩), .pointer (some a), .int .u64 150], .iface 135 (.agg #[.pointer (some ⟨1, 35, none⟩)])] w fun ev w' => ev = .returned (.bool true)
      ∧ w' = ((w.alloc (.cells #[.pointer (some ⟨1, 102, none⟩), .pointer (some a), .int .u64 150] 117)).alloc (.cells #[.int .i64 n] 35)).setCell t (.int .i64 n) := by
  have hal := lt_of_cell ha
  have htl := lt_of_cell ht0
  have h6 := @run_callFunc_extern Tryd.prog 68 _ (fun args => ReflectliteValue.unpack (args.getD 0 (.tuple #[]))) Tryd.func68 (by kernel_rfl) (by kernel_rfl) (by kernel_rfl) (by kernel_rfl)
  have h10 := @run_callFunc_extern Tryd.prog 79 _ ReflectliteType.typeOf Tryd.func79 (by kernel_rfl) (by kernel_rfl) (by kernel_rfl) (by kernel_rfl)
  have h35 := @run_callFunc_extern Tryd.prog 107 _ (ReflectliteType.relation "AssignableTo" ReflectliteType.assignableTo) Tryd.func107 (by kernel_rfl) (by kernel_rfl) (by kernel_rfl) (by kernel_rfl)
  have h11 := @run_callFunc_extern Tryd.prog 80 _ (ReflectliteValue.method (ReflectliteValue.valueError "reflectlite.Value.Elem" 0) ReflectliteValue.elem) Tryd.func80 (by kernel_rfl) (by kernel_rfl) (by kernel_rfl) (by kernel_rfl)
  have h12 := @run_callFunc_extern Tryd.prog 81 _ ReflectliteValue.set Tryd.func81 (by kernel_rfl) (by kernel_rfl) (by kernel_rfl) (by kernel_rfl)
  have tO := Tryd.typeOfE
  have mA := Tryd.mAssignableTo
  have aE := Tryd.assignableE
  have vE := Tryd.valueOfE
  have el := Tryd.elemVP a t (w.alloc (.cells #[.pointer (some ⟨1, 102, none⟩), .pointer (some a), .int .u64 150] 117)) (by rw [alloc_lt _ hal]; exact ha)
  have st := Tryd.setE t ⟨w.heap.size + 1, 0, none⟩ n old ((w.alloc (.cells #[.pointer (some ⟨1, 102, none⟩), .pointer (some a), .int .u64 150] 117)).alloc (.cells #[.int .i64 n] 35))
    (by rw [World.cell?_alloc_at _ _ _ _ (by simp)]; rfl)
    (by rw [alloc_lt _ (by simp; omega), alloc_lt _ htl]; exact ht0)
    (by rw [alloc_fr _ (by simp; omega), alloc_fr _ htl]; exact hf0)
  go_enter Tryd.func71, Tryd.ntmps71
  go_wp2
  refine wp_loop_rounds 1 ?_
  rw [rounds_succ]
  go_wp2
  go_ret
  exact ⟨rfl, rfl⟩

set_option maxHeartbeats 4000000 in
theorem as_at (n : Int) (b o : Nat) (t a : Addr) (old : Value) (w : World) (hn : w.cell? ⟨b, o, none⟩ = some (.int .i64 n)) (ha : w.cell? a = some (.pointer (some t))) (ht0 : w.cell? t = some old) (hf0 : w.frozen? t = false) :
    Calls Tryd.prog 71 #[.iface 85 (.pointer (some ⟨b, o, none⟩)), .iface 102 (.pointer (some t)), .agg #[.pointer (some ⟨1, 102, none⟩), .pointer (some a), .int .u64 150], .iface 135 (.agg #[.pointer (some ⟨1, 35, none⟩)])] w fun ev w' => ev = .returned (.bool true)
      ∧ w' = ((w.alloc (.cells #[.pointer (some ⟨1, 102, none⟩), .pointer (some a), .int .u64 150] 117)).alloc (.cells #[.int .i64 n] 35)).setCell t (.int .i64 n) := by
  have hal := lt_of_cell ha
  have htl := lt_of_cell ht0
  have hbl := lt_of_cell hn
  have h6 := @run_callFunc_extern Tryd.prog 68 _ (fun args => ReflectliteValue.unpack (args.getD 0 (.tuple #[]))) Tryd.func68 (by kernel_rfl) (by kernel_rfl) (by kernel_rfl) (by kernel_rfl)
  have h10 := @run_callFunc_extern Tryd.prog 79 _ ReflectliteType.typeOf Tryd.func79 (by kernel_rfl) (by kernel_rfl) (by kernel_rfl) (by kernel_rfl)
  have h35 := @run_callFunc_extern Tryd.prog 107 _ (ReflectliteType.relation "AssignableTo" ReflectliteType.assignableTo) Tryd.func107 (by kernel_rfl) (by kernel_rfl) (by kernel_rfl) (by kernel_rfl)
  have h11 := @run_callFunc_extern Tryd.prog 80 _ (ReflectliteValue.method (ReflectliteValue.valueError "reflectlite.Value.Elem" 0) ReflectliteValue.elem) Tryd.func80 (by kernel_rfl) (by kernel_rfl) (by kernel_rfl) (by kernel_rfl)
  have h12 := @run_callFunc_extern Tryd.prog 81 _ ReflectliteValue.set Tryd.func81 (by kernel_rfl) (by kernel_rfl) (by kernel_rfl) (by kernel_rfl)
  have tO := Tryd.typeOfE
  have tA := Tryd.typeOfA
  have mA := Tryd.mAssignableTo
  have aE := Tryd.assignableE
  have aA := Tryd.assignableA
  have nA := Tryd.noAsA
  have uA := Tryd.unwrapA
  have vE := Tryd.valueOfE
  have hn2 : (w.alloc (.cells #[.pointer (some ⟨1, 102, none⟩), .pointer (some a), .int .u64 150] 117)).cell? ⟨b, o, none⟩ = some (.int .i64 n) := by rw [alloc_lt _ hbl]; exact hn
  have el := Tryd.elemVP a t (w.alloc (.cells #[.pointer (some ⟨1, 102, none⟩), .pointer (some a), .int .u64 150] 117)) (by rw [alloc_lt _ hal]; exact ha)
  have st := Tryd.setE t ⟨w.heap.size + 1, 0, none⟩ n old ((w.alloc (.cells #[.pointer (some ⟨1, 102, none⟩), .pointer (some a), .int .u64 150] 117)).alloc (.cells #[.int .i64 n] 35))
    (by rw [World.cell?_alloc_at _ _ _ _ (by simp)]; rfl)
    (by rw [alloc_lt _ (by simp; omega), alloc_lt _ htl]; exact ht0)
    (by rw [alloc_fr _ (by simp; omega), alloc_fr _ htl]; exact hf0)
  go_enter Tryd.func71, Tryd.ntmps71
  go_wp2
  refine wp_loop_rounds 2 ?_
  rw [rounds_succ]
  go_wp2
  rw [rounds_succ]
  go_wp2
  go_ret
  exact ⟨rfl, rfl⟩

set_option maxHeartbeats 4000000 in
/-- errors.As of an error that is not nil, at a target of type *api.Errno: what errors.as returns behind it. -/
theorem As_of (te : TypeId) (ve : Value) (t : Addr) (w : World) (hg : ErrT w) (Q : Ending → World → Prop)
    (h : ∀ W : World, Below w.heap.size w W → W.cell? ⟨w.heap.size, 0, none⟩ = some (.pointer (some t)) →
      Calls Tryd.prog 71 #[.iface te ve, .iface 102 (.pointer (some t)), .agg #[.pointer (some ⟨1, 102, none⟩), .pointer (some ⟨w.heap.size, 0, none⟩), .int .u64 150], .iface 135 (.agg #[.pointer (some ⟨1, 35, none⟩)])] W
        fun e w' => (∃ r, e = .returned (.bool r)) ∧ Q e w') :
    Calls Tryd.prog 55 #[.iface te ve, .iface 102 (.pointer (some t))] w Q := by
  have hlt := hg.lt
  have h6 := @run_callFunc_extern Tryd.prog 68 _ (fun args => ReflectliteValue.unpack (args.getD 0 (.tuple #[]))) Tryd.func68 (by kernel_rfl) (by kernel_rfl) (by kernel_rfl) (by kernel_rfl)
  have h7 := @run_callFunc_extern Tryd.prog 69 _ (ReflectliteValue.methodAny (ReflectliteValue.valueError "reflectlite.Value.Type" 0) (fun t _ _ _ => ReflectliteType.toType t)) Tryd.func69 (by kernel_rfl) (by kernel_rfl) (by kernel_rfl) (by kernel_rfl)
  have h8 := @run_callFunc_extern Tryd.prog 70 _ (ReflectliteValue.method (ReflectliteValue.valueError "reflectlite.Value.IsNil" 0) ReflectliteValue.isNil) Tryd.func70 (by kernel_rfl) (by kernel_rfl) (by kernel_rfl) (by kernel_rfl)
  have h27 := @run_callFunc_extern Tryd.prog 97 _ (ReflectliteType.abiMethod fun t => do pure (.int .u8 (← Rtype.kind t))) Tryd.func97 (by kernel_rfl) (by kernel_rfl) (by kernel_rfl) (by kernel_rfl)
  have h37 := @run_callFunc_extern Tryd.prog 109 _ (ReflectliteType.method ReflectliteType.elem) Tryd.func109 (by kernel_rfl) (by kernel_rfl) (by kernel_rfl) (by kernel_rfl)
  have h38 := @run_callFunc_extern Tryd.prog 110 _ (ReflectliteType.relation "Implements" ReflectliteType.implements_) Tryd.func110 (by kernel_rfl) (by kernel_rfl) (by kernel_rfl) (by kernel_rfl)
  have f6 := Tryd.vP
  have f7 := Tryd.tP
  have mK := Tryd.mKind
  have mE := Tryd.mElem
  have mI := Tryd.mImplements
  have k27 := Tryd.kP
  have k25 := Tryd.kE
  have e27 := Tryd.elemP
  have i25 := Tryd.implementsE
  have n8 := Tryd.isNilP ⟨w.heap.size, 0, none⟩ t ((w.alloc (.cells #[.pointer (some t)] 102)).alloc (.cells #[.pointer (some ⟨1, 102, none⟩), .pointer (some ⟨w.heap.size, 0, none⟩), .int .u64 150] 117)) (by simp)
  have hg2 : ((w.alloc (.cells #[.pointer (some t)] 102)).alloc (.cells #[.pointer (some ⟨1, 102, none⟩), .pointer (some ⟨w.heap.size, 0, none⟩), .int .u64 150] 117)).cell? ⟨0, 0, none⟩ = some (.iface 135 (.agg #[.pointer (some ⟨1, 39, none⟩)])) := by
    rw [alloc_lt _ (by simp <;> omega), alloc_lt _ hlt]; exact hg
  have H : Hid (∀ W : World, Below w.heap.size w W → W.cell? ⟨w.heap.size, 0, none⟩ = some (.pointer (some t)) →
      Calls Tryd.prog 71 #[.iface te ve, .iface 102 (.pointer (some t)), .agg #[.pointer (some ⟨1, 102, none⟩), .pointer (some ⟨w.heap.size, 0, none⟩), .int .u64 150], .iface 135 (.agg #[.pointer (some ⟨1, 35, none⟩)])] W
        fun e w' => (∃ r, e = .returned (.bool r)) ∧ Q e w') := h
  clear h
  go_enter Tryd.func55, Tryd.ntmps55
  go_wp2_with fail
  refine (H.out _ ?_ ?_).mono ?_
  · exact ((Below.refl _ _).alloc (Nat.le_refl _) _).alloc (by simp) _
  · rw [alloc_lt _ (by simp)]; exact World.cell?_alloc_at _ _ _ _ rfl
  · rintro e w' ⟨⟨r, rfl⟩, hq⟩
    go_wp2_with fail
    exact hq
end Go.Proofs.YtkfmljokenclaabDoor
