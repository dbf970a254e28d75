/-
  What errors.As returns, and leaves, at a target of type *api.Errno, over this seat's translation: of an Errno and of an At. Conditions stand in each theorem: the cell of errors.errorType, the target's cell, the cells of the At.
-/
import Derived.Test.YtnkfegpacfdcbaaDoorErrFacts
namespace Go.Proofs.YtnkfegpacfdcbaaDoor
open Go.RowKit Go.Extern.Stop Go.Stop Go.Extern

set_option maxHeartbeats 4000000 in
theorem as_errno (n : Int) (t a : Addr) (old : Value) (w : World) (ha : w.cell? a = some (.pointer (some t))) (ht0 : w.cell? t = some old) (hf0 : w.frozen? t = false) :
    Calls Tryd.prog 106 #[.iface 22 (.int .i64 n), .iface 177 (.pointer (some t)), .agg #[.pointer (some ⟨1, 177, none⟩), .pointer (some a), .int .u64 150], .iface 212 (.agg #[.pointer (some ⟨1, 22, none⟩)])] w fun ev w' => ev = .returned (.bool true)
      ∧ w' = ((w.alloc (.cells #[.pointer (some ⟨1, 177, none⟩), .pointer (some a), .int .u64 150] 197)).alloc (.cells #[.int .i64 n] 22)).setCell t (.int .i64 n) := by
  have hal := lt_of_cell ha
  have htl := lt_of_cell ht0
  have h6 := @run_callFunc_extern Tryd.prog 103 _ (fun args => ReflectliteValue.unpack (args.getD 0 (.tuple #[]))) Tryd.func103 (by kernel_rfl) (by kernel_rfl) (by kernel_rfl) (by kernel_rfl)
  have h10 := @run_callFunc_extern Tryd.prog 111 _ ReflectliteType.typeOf Tryd.func111 (by kernel_rfl) (by kernel_rfl) (by kernel_rfl) (by kernel_rfl)
  have h35 := @run_callFunc_extern Tryd.prog 153 _ (ReflectliteType.relation "AssignableTo" ReflectliteType.assignableTo) Tryd.func153 (by kernel_rfl) (by kernel_rfl) (by kernel_rfl) (by kernel_rfl)
  have h11 := @run_callFunc_extern Tryd.prog 112 _ (ReflectliteValue.method (ReflectliteValue.valueError "reflectlite.Value.Elem" 0) ReflectliteValue.elem) Tryd.func112 (by kernel_rfl) (by kernel_rfl) (by kernel_rfl) (by kernel_rfl)
  have h12 := @run_callFunc_extern Tryd.prog 113 _ ReflectliteValue.set Tryd.func113 (by kernel_rfl) (by kernel_rfl) (by kernel_rfl) (by kernel_rfl)
  have tO := Tryd.typeOfE
  have mA := Tryd.mAssignableTo
  have aE := Tryd.assignableE
  have vE := Tryd.valueOfE
  have el := Tryd.elemVP a t (w.alloc (.cells #[.pointer (some ⟨1, 177, none⟩), .pointer (some a), .int .u64 150] 197)) (by rw [alloc_lt _ hal]; exact ha)
  have st := Tryd.setE t ⟨w.heap.size + 1, 0, none⟩ n old ((w.alloc (.cells #[.pointer (some ⟨1, 177, none⟩), .pointer (some a), .int .u64 150] 197)).alloc (.cells #[.int .i64 n] 22))
    (by rw [World.cell?_alloc_at _ _ _ _ (by simp)]; rfl)
    (by rw [alloc_lt _ (by simp; omega), alloc_lt _ htl]; exact ht0)
    (by rw [alloc_fr _ (by simp; omega), alloc_fr _ htl]; exact hf0)
  go_enter Tryd.func106, Tryd.ntmps106
  go_wp2
  refine wp_loop_rounds 1 ?_
  rw [rounds_succ]
  go_wp2
  go_ret
  exact ⟨rfl, rfl⟩

set_option maxHeartbeats 4000000 in
theorem as_at (n : Int) (b o : Nat) (t a : Addr) (old : Value) (w : World) (hn : w.cell? ⟨b, o, none⟩ = some (.int .i64 n)) (ha : w.cell? a = some (.pointer (some t))) (ht0 : w.cell? t = some old) (hf0 : w.frozen? t = false) :
    Calls Tryd.prog 106 #[.iface 118 (.pointer (some ⟨b, o, none⟩)), .iface 177 (.pointer (some t)), .agg #[.pointer (some ⟨1, 177, none⟩), .pointer (some a), .int .u64 150], .iface 212 (.agg #[.pointer (some ⟨1, 22, none⟩)])] w fun ev w' => ev = .returned (.bool true)
      ∧ w' = ((w.alloc (.cells #[.pointer (some ⟨1, 177, none⟩), .pointer (some a), .int .u64 150] 197)).alloc (.cells #[.int .i64 n] 22)).setCell t (.int .i64 n) := by
  have hal := lt_of_cell ha
  have htl := lt_of_cell ht0
  have hbl := lt_of_cell hn
  have h6 := @run_callFunc_extern Tryd.prog 103 _ (fun args => ReflectliteValue.unpack (args.getD 0 (.tuple #[]))) Tryd.func103 (by kernel_rfl) (by kernel_rfl) (by kernel_rfl) (by kernel_rfl)
  have h10 := @run_callFunc_extern Tryd.prog 111 _ ReflectliteType.typeOf Tryd.func111 (by kernel_rfl) (by kernel_rfl) (by kernel_rfl) (by kernel_rfl)
  have h35 := @run_callFunc_extern Tryd.prog 153 _ (ReflectliteType.relation "AssignableTo" ReflectliteType.assignableTo) Tryd.func153 (by kernel_rfl) (by kernel_rfl) (by kernel_rfl) (by kernel_rfl)
  have h11 := @run_callFunc_extern Tryd.prog 112 _ (ReflectliteValue.method (ReflectliteValue.valueError "reflectlite.Value.Elem" 0) ReflectliteValue.elem) Tryd.func112 (by kernel_rfl) (by kernel_rfl) (by kernel_rfl) (by kernel_rfl)
  have h12 := @run_callFunc_extern Tryd.prog 113 _ ReflectliteValue.set Tryd.func113 (by kernel_rfl) (by kernel_rfl) (by kernel_rfl) (by kernel_rfl)
  have tO := Tryd.typeOfE
  have tA := Tryd.typeOfA
  have mA := Tryd.mAssignableTo
  have aE := Tryd.assignableE
  have aA := Tryd.assignableA
  have nA := Tryd.noAsA
  have uA := Tryd.unwrapA
  have vE := Tryd.valueOfE
  have hn2 : (w.alloc (.cells #[.pointer (some ⟨1, 177, none⟩), .pointer (some a), .int .u64 150] 197)).cell? ⟨b, o, none⟩ = some (.int .i64 n) := by rw [alloc_lt _ hbl]; exact hn
  have el := Tryd.elemVP a t (w.alloc (.cells #[.pointer (some ⟨1, 177, none⟩), .pointer (some a), .int .u64 150] 197)) (by rw [alloc_lt _ hal]; exact ha)
  have st := Tryd.setE t ⟨w.heap.size + 1, 0, none⟩ n old ((w.alloc (.cells #[.pointer (some ⟨1, 177, none⟩), .pointer (some a), .int .u64 150] 197)).alloc (.cells #[.int .i64 n] 22))
    (by rw [World.cell?_alloc_at _ _ _ _ (by simp)]; rfl)
    (by rw [alloc_lt _ (by simp; omega), alloc_lt _ htl]; exact ht0)
    (by rw [alloc_fr _ (by simp; omega), alloc_fr _ htl]; exact hf0)
  go_enter Tryd.func106, Tryd.ntmps106
  go_wp2
  refine wp_loop_rounds 2 ?_
  rw [rounds_succ]
  go_wp2
  rw [rounds_succ]
  go_wp2
  go_ret
  exact ⟨rfl, rfl⟩

set_option maxHeartbeats 4000000 in
/-- errors.As of an error that is not nil, at a target of type *api.Errno: what errors.as returns behind it. -/
theorem As_of (te : TypeId) (ve : Value) (t : Addr) (w : World) (hg : ErrT w) (Q : Ending → World → Prop)
    (h : ∀ W : World, Below w.heap.size w W → W.cell? ⟨w.heap.size, 0, none⟩ = some (.pointer (some t)) →
      Calls Tryd.prog 106 #[.iface te ve, .iface 177 (.pointer (some t)), .agg #[.pointer (some ⟨1, 177, none⟩), .pointer (some ⟨w.heap.size, 0, none⟩), .int .u64 150], .iface 212 (.agg #[.pointer (some ⟨1, 22, none⟩)])] W
        fun e w' => (∃ r, e = .returned (.bool r)) ∧ Q e w') :
    Calls Tryd.prog 88 #[.iface te ve, .iface 177 (.pointer (some t))] w Q := by
  have hlt := hg.lt
  have h6 := @run_callFunc_extern Tryd.prog 103 _ (fun args => ReflectliteValue.unpack (args.getD 0 (.tuple #[]))) Tryd.func103 (by kernel_rfl) (by kernel_rfl) (by kernel_rfl) (by kernel_rfl)
  have h7 := @run_callFunc_extern Tryd.prog 104 _ (ReflectliteValue.methodAny (ReflectliteValue.valueError "reflectlite.Value.Type" 0) (fun t _ _ _ => ReflectliteType.toType t)) Tryd.func104 (by kernel_rfl) (by kernel_rfl) (by kernel_rfl) (by kernel_rfl)
  have h8 := @run_callFunc_extern Tryd.prog 105 _ (ReflectliteValue.method (ReflectliteValue.valueError "reflectlite.Value.IsNil" 0) ReflectliteValue.isNil) Tryd.func105 (by kernel_rfl) (by kernel_rfl) (by kernel_rfl) (by kernel_rfl)
  have h27 := @run_callFunc_extern Tryd.prog 142 _ (ReflectliteType.abiMethod fun t => do pure (.int .u8 (← Rtype.kind t))) Tryd.func142 (by kernel_rfl) (by kernel_rfl) (by kernel_rfl) (by kernel_rfl)
  have h37 := @run_callFunc_extern Tryd.prog 155 _ (ReflectliteType.method ReflectliteType.elem) Tryd.func155 (by kernel_rfl) (by kernel_rfl) (by kernel_rfl) (by kernel_rfl)
  have h38 := @run_callFunc_extern Tryd.prog 156 _ (ReflectliteType.relation "Implements" ReflectliteType.implements_) Tryd.func156 (by kernel_rfl) (by kernel_rfl) (by kernel_rfl) (by kernel_rfl)
  have f6 := Tryd.vP
  have f7 := Tryd.tP
  have mK := Tryd.mKind
  have mE := Tryd.mElem
  have mI := Tryd.mImplements
  have k27 := Tryd.kP
  have k25 := Tryd.kE
  have e27 := Tryd.elemP
  have i25 := Tryd.implementsE
  have n8 := Tryd.isNilP ⟨w.heap.size, 0, none⟩ t ((w.alloc (.cells #[.pointer (some t)] 177)).alloc (.cells #[.pointer (some ⟨1, 177, none⟩), .pointer (some ⟨w.heap.size, 0, none⟩), .int .u64 150] 197)) (by simp)
  have hg2 : ((w.alloc (.cells #[.pointer (some t)] 177)).alloc (.cells #[.pointer (some ⟨1, 177, none⟩), .pointer (some ⟨w.heap.size, 0, none⟩), .int .u64 150] 197)).cell? ⟨0, 0, none⟩ = some (.iface 212 (.agg #[.pointer (some ⟨1, 26, none⟩)])) := by
    rw [alloc_lt _ (by simp <;> omega), alloc_lt _ hlt]; exact hg
  have H : Hid (∀ W : World, Below w.heap.size w W → W.cell? ⟨w.heap.size, 0, none⟩ = some (.pointer (some t)) →
      Calls Tryd.prog 106 #[.iface te ve, .iface 177 (.pointer (some t)), .agg #[.pointer (some ⟨1, 177, none⟩), .pointer (some ⟨w.heap.size, 0, none⟩), .int .u64 150], .iface 212 (.agg #[.pointer (some ⟨1, 22, none⟩)])] W
        fun e w' => (∃ r, e = .returned (.bool r)) ∧ Q e w') := h
  clear h
  go_enter Tryd.func88, Tryd.ntmps88
  go_wp2_with fail
  refine (H.out _ ?_ ?_).mono ?_
  · exact ((Below.refl _ _).alloc (Nat.le_refl _) _).alloc (by simp) _
  · rw [alloc_lt _ (by simp)]; exact World.cell?_alloc_at _ _ _ _ rfl
  · rintro e w' ⟨⟨r, rfl⟩, hq⟩
    go_wp2_with fail
    exact hq
end Go.Proofs.YtnkfegpacfdcbaaDoor
