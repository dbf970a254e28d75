/-
  What maps.Keys and slices.Sorted return of a map of lots, over this seat's translation: by the library's own contracts, each function's body held against the one of which those are proved. Conditions stand in each theorem.
-/
import Derived.Test.YtahmeoafoedebaaCuSl
import Derived.Shelf.SlIterI.Sorted
namespace Go.Proofs.Ytahmeoafoedebaa
open Go.RowKit Go.Maps Go.Sort Go.Shelf

def laysK_ren : Go.Shelf.Ren := ⟨fun | 7 => 80 | 10 => 89 | n => n, fun | 23 => 109 | 26 => 3 | 3 => 108 | 28 => 135 | 0 => 0 | 27 => 134 | 33 => 30 | 4 => 4 | n => n, fun n => n⟩
theorem laysK : Go.Proofs.SlLaysZI.n7 Try.prog laysK_ren := {
  mixed := by kernel_rfl
  f7 := ⟨Try.f80.name, by kernel_rfl, Try.func80.trans (congrArg some (by kernel_rfl))⟩
  f10 := ⟨Try.f89.name, by kernel_rfl, Try.func89.trans (congrArg some (by kernel_rfl))⟩
  t0 := Try.underlying0
  a0 := Try.isAgg0
  z0 := Try.sizeOf0
  v0 := Try.zeroValue0
  t4 := Try.underlying4
  a4 := Try.isAgg4
  z4 := Try.sizeOf4
  v4 := Try.zeroValue4
  t23 := Try.underlying109
  a23 := Try.isAgg109
  z23 := Try.sizeOf109
  v23 := Try.zeroValue109
  t26 := Try.underlying3
  a26 := Try.isAgg3
  z26 := Try.sizeOf3
  v26 := Try.zeroValue3
  t27 := Try.underlying134
  a27 := Try.isAgg134
  z27 := Try.sizeOf134
  v27 := Try.zeroValue134
  t28 := Try.underlying135
  a28 := Try.isAgg135
  z28 := Try.sizeOf135
  v28 := Try.zeroValue135
  t33 := Try.underlying30
  a33 := Try.isAgg30
  z33 := Try.sizeOf30
  v33 := Try.zeroValue30 }
def laysS_ren : Go.Shelf.Ren := ⟨fun | 6 => 79 | 8 => 88 | 9 => 81 | 11 => 93 | n => n, fun | 26 => 3 | 28 => 135 | 24 => 48 | 0 => 0 | 3 => 3 | 33 => 30 | 4 => 4 | n => n, fun n => n⟩
theorem laysS : Go.Proofs.SlLaysZI.n6 Try.prog laysS_ren := {
  mixed := by kernel_rfl
  f6 := ⟨Try.f79.name, by kernel_rfl, Try.func79.trans (congrArg some (by kernel_rfl))⟩
  f8 := ⟨Try.f88.name, by kernel_rfl, Try.func88.trans (congrArg some (by kernel_rfl))⟩
  f11 := ⟨Try.f93.name, by kernel_rfl, Try.func93.trans (congrArg some (by kernel_rfl))⟩
  t0 := Try.underlying0
  a0 := Try.isAgg0
  z0 := Try.sizeOf0
  v0 := Try.zeroValue0
  t24 := Try.underlying48
  a24 := Try.isAgg48
  z24 := Try.sizeOf48
  v24 := Try.zeroValue48
  t26 := Try.underlying3
  a26 := Try.isAgg3
  z26 := Try.sizeOf3
  v26 := Try.zeroValue3
  t28 := Try.underlying135
  a28 := Try.isAgg135
  z28 := Try.sizeOf135
  v28 := Try.zeroValue135
  i26 := by kernel_rfl }
/-- slices.Sort's two contracts -/
theorem sortsS (m : Nat) : AnyZI.SortsIn Try.prog laysS_ren Fence.wide m :=
  ⟨fun blk off cap ss W hH hblk hsz => callsIn_wide.2 (Any.slices_Sort_int { lays189 with } blk off cap ss W hH hblk hsz),
   fun p cap W => callsIn_wide.2 (Any.slices_Sort_int_none { lays189 with } p cap W)⟩
theorem keysCall (mb : Option Nat) (W : World) : Calls Try.prog 80 #[.map mb] W fun e w' => e = .returned (.func (.func 89) #[] #[.pointer (some ⟨W.heap.size, 0, none⟩)]) ∧ w' = W.alloc (.cells #[.map mb] 109) :=
  (callsIn_wide (n := 5)).1 (AnyZI.keys_in laysK Fence.wide 5 trivial rfl mb W)
theorem sortedCall {R : Value → Option (DataW Unit × List MemPlace)} (b nn : Nat) (D0 : DataW Unit) (w : World) (hown : w.ownsMap Try.prog 3 R b nn D0) (hmax : Maps.size D0 ≤ 100000) :
    Calls Try.prog 79 #[.func (.func 89) #[] #[.pointer (some ⟨w.heap.size, 0, none⟩)]] (w.alloc (.cells #[.map (some b)] 109)) fun e w' => ∃ (v : Value) (ss : List Int), e = .returned v ∧ ss.Perm (intKeys D0) ∧
      w'.ownsRow (w.alloc (.cells #[.map (some b)] 109)).heap.size 3 1 v ss.length ((ss.mergeSort (fun x y => decide (x ≤ y))).map encZ) ∧ (v = .slice none 0 0 ↔ ss = []) ∧ Below (w.alloc (.cells #[.map (some b)] 109)).heap.size (w.alloc (.cells #[.map (some b)] 109)) w' := by
  have hbl := hown.lt
  have hseq : SeqGives Fence.wide 2 Try.prog 89 #[.pointer (some ⟨w.heap.size, 0, none⟩)] encZ (fun ss => ss.Perm (intKeys D0)) (Maps.size D0) (w.alloc (.cells #[.map (some b)] 109)) :=
    AnyZI.keys_gives (ρ := laysK_ren) { laysK with } Fence.wide _ trivial rfl (by omega) w.heap.size b nn D0 _ (by simp) (by simp) (by
      obtain ⟨es, clock, hb, Ft, hs, hD⟩ := hown
      exact ⟨es, clock, (Below.heap_alloc _ _ b hbl).trans hb, Ft, hs, hD⟩)
  have cS := AnyZI.sorted_in laysS Fence.wide 5 trivial trivial trivial trivial rfl (by omega) (sortsS _) (enters_of Try.func81 (by kernel_rfl) rfl) 89 #[.pointer (some ⟨w.heap.size, 0, none⟩)] trivial (enters_of Try.func89 (by kernel_rfl) rfl) _ _ (by unfold maxLen; omega) (by omega) _ hseq
  exact (callsIn_wide (n := 5)).1 cS
end Go.Proofs.Ytahmeoafoedebaa
