/-
  What the law's own 'pick' and 'given' return, over this seat's translation: given is true. Conditions stand in each theorem: the cell of errors.errorType (ErrT).
-/
import Derived.Test.YtgocmaijpihakaaDoorArTake
import Derived.Test.YtgocmaijpihakaaDoorErr
namespace Go.Proofs.YtgocmaijpihakaaDoor
open Go.RowKit

def pickV (a n : Int) : Int := wrap64 ((IntKind.u64.wrap a).tmod n)
theorem pick_in (a n : Int) (hn : 1 ≤ n ∧ n ≤ 1000000) : 0 ≤ pickV a n ∧ pickV a n < n := by
  have h0 : 0 ≤ IntKind.u64.wrap a := by rw [IntKind.wrap_u64]; omega
  have h1 := Int.tmod_nonneg n h0
  have h2 := Int.tmod_lt_of_pos (IntKind.u64.wrap a) (by omega : 0 < n)
  unfold pickV
  rw [IntWalk.wrap64_in ((IntKind.u64.wrap a).tmod n) (by omega)]
  exact ⟨h1, h2⟩
set_option maxHeartbeats 400000 in
theorem pick_is (a n : Int) (w : World) (hn : 1 ≤ n ∧ n ≤ 1000000) : Calls Tryd.prog 28 #[.int .i64 a, .int .i64 n] w fun e w' => e = .returned (.int .i64 (pickV a n)) ∧ w' = w := by
  go_enter Tryd.func28, Tryd.ntmps28
  go_wp2_with fail
  go_ret
  exact ⟨rfl, rfl⟩

/-- blocks that are not the arena's stay so -/
theorem sep_went {S S' K : Nat → Prop} {w : World} (h : ∀ j, S j → ¬ K j) (hw : Went w S S') (hk : ∀ j, K j → j < w.heap.size) : ∀ j, S' j → ¬ K j := fun j hj hK => by
  rcases hw j hj with h1 | h1
  · exact h j h1 hK
  · have := hk j hK; omega
/-- an arena of a call's own: all of its blocks are newer than w -/
def Mine (w W : World) (ab : Nat) (most : Int) (rs : List (Int × Int)) (fr : List Nat) (K : Nat → Prop) : Prop :=
  ∃ vs vf, ArenaIs W ab most vs vf rs fr ∧ (∀ j, arB ab vs vf j → w.heap.size ≤ j) ∧ (∀ j, arB ab vs vf j → ¬ K j) ∧ Below w.heap.size w W
theorem Mine.still {w W W' : World} {ab : Nat} {most : Int} {rs : List (Int × Int)} {fr : List Nat} {K : Nat → Prop} (h : Mine w W ab most rs fr K) (hb : Below W.heap.size W W') : Mine w W' ab most rs fr K := by
  obtain ⟨vs, vf, h1, h2, h3, h4⟩ := h
  exact ⟨vs, vf, h1.below hb (Nat.le_refl _), h2, h3, h4.trans (hb.mono h4.size)⟩
theorem Mine.box {w W : World} {ab : Nat} {most : Int} {rs : List (Int × Int)} {fr : List Nat} {K : Nat → Prop} (h : Mine w W ab most rs fr K) (o : Obj) : Mine w (W.alloc o) ab most rs fr (fun j => K j ∨ j = W.heap.size) := by
  obtain ⟨vs, vf, h1, h2, h3, h4⟩ := h
  refine ⟨vs, vf, h1.below ((Below.refl _ _).alloc (Nat.le_refl _) o) (Nat.le_refl _), h2, fun j hj hK => ?_, h4.alloc h4.size o⟩
  rcases hK with hK | rfl
  · exact h3 j hj hK
  · exact Nat.lt_irrefl _ (h1.lt hj)
theorem Mine.new (w : World) (most : Int) : Mine w (w.alloc (.cells #[.int .i64 most, .slice none 0 0, .slice none 0 0] 92)) w.heap.size most [] [] (fun _ => False) := by
  refine ⟨_, _, arNew_is w most, ?_, fun _ _ h => h, (Below.refl _ _).alloc (Nat.le_refl _) _⟩
  rintro j (rfl | hj | hj)
  · exact Nat.le_refl _
  · cases hj
  · cases hj
/-- what K holds lies as it did -/
def Keeps (K : Nat → Prop) (W W' : World) : Prop := ∀ j, K j → j < W.heap.size → W'.heap[j]? = W.heap[j]?

theorem minePut (w : World) (ab : Nat) (most : Int) (rs : List (Int × Int)) (fr : List Nat) (K : Nat → Prop) (x : Int) (k : Nat) (rs1 : List (Int × Int)) (fr1 : List Nat) (W : World) (h : Mine w W ab most rs fr K) (hl : rs.length ≤ 1000) (hf : fr.length ≤ rs.length) (hm : ¬ (rs.length : Int) - fr.length = most)
    (hR : RoomIs rs fr k rs1 fr1) (hk : k < rs1.length) (hx : 0 ≤ x) (hK : ∀ j, K j → j < W.heap.size) :
    Calls Tryd.prog 22 #[.pointer (some ⟨ab, 0, none⟩), .int .i64 x] W
      fun e W' => e = .returned (.tuple #[.agg #[.int .i64 k, .int .i64 (slAt rs1 k).2], .nilIface]) ∧ Mine w W' ab most (rs1.set k (x, (slAt rs1 k).2)) fr1 K ∧ Keeps K W W' ∧ W.heap.size ≤ W'.heap.size := by
  obtain ⟨vs, vf, h1, h2, h3, h4⟩ := h
  refine (arPut ab most vs vf rs fr x k rs1 fr1 W h1 hl hf hm hR hk hx).mono ?_
  rintro e W' ⟨rfl, vs', vf', g1, g2, g3⟩
  refine ⟨rfl, ⟨vs', vf', g1, fun j hj => ?_, sep_went h3 g3 hK, h4.trans (g2.below h2 h4.size)⟩, fun j hj hj' => g2.block j hj' (fun e => h3 j e hj), g2.size⟩
  rcases g3 j hj with h5 | h5
  · exact h2 j h5
  · have := h4.size; omega
theorem mineTake (w : World) (ab : Nat) (most : Int) (rs : List (Int × Int)) (fr : List Nat) (K : Nat → Prop) (i a : Int) (W : World) (h : Mine w W ab most rs fr K) (hl : rs.length ≤ 1000) (hf : fr.length ≤ rs.length) (hag : ∀ k, 0 ≤ (slAt rs k).2 ∧ (slAt rs k).2 ≤ 1000) (hK : ∀ j, K j → j < W.heap.size) :
    Calls Tryd.prog 26 #[.pointer (some ⟨ab, 0, none⟩), .agg #[.int .i64 i, .int .i64 a]] W
      fun e W' => Keeps K W W' ∧ W.heap.size ≤ W'.heap.size ∧ ((hasS rs i a = false ∧ e = .returned (.tuple #[.int .i64 0, .iface 22 (.int .i64 7)]) ∧ Mine w W' ab most rs fr K)
        ∨ (hasS rs i a = true ∧ ∃ k : Nat, i = k ∧ k < rs.length ∧ 0 ≤ (slAt rs k).1 ∧ (slAt rs k).2 = a ∧ e = .returned (.tuple #[.int .i64 (slAt rs k).1, .nilIface]) ∧ Mine w W' ab most (rs.set k (-1, (slAt rs k).2 + 1)) (fr ++ [k]) K)) := by
  have h' := h
  obtain ⟨vs, vf, h1, h2, h3, h4⟩ := h
  refine (arTake ab most vs vf rs fr i a W h1 hl hf hag).mono ?_
  rintro e W' (⟨g0, g1, g2⟩ | ⟨g0, k, g1, g2, g3, g4, g5, vf', g6, g7, g8⟩)
  · exact ⟨fun j _ hj' => g2.block j hj', g2.size, Or.inl ⟨g0, g1, h'.still g2⟩⟩
  · refine ⟨fun j hj hj' => g7.block j hj' (fun e => h3 j e hj), g7.size, Or.inr ⟨g0, k, g1, g2, g3, g4, g5, vs, vf', g6, fun j hj => ?_, sep_went h3 g8 hK, h4.trans (g7.below h2 h4.size)⟩⟩
    rcases g8 j hj with h5 | h5
    · exact h2 j h5
    · have := h4.size; omega
theorem mineGet (w : World) (ab : Nat) (most : Int) (rs : List (Int × Int)) (fr : List Nat) (K : Nat → Prop) (i a : Int) (W : World) (h : Mine w W ab most rs fr K) :
    Calls Tryd.prog 23 #[.pointer (some ⟨ab, 0, none⟩), .agg #[.int .i64 i, .int .i64 a]] W
      fun e W' => Mine w W' ab most rs fr K ∧ Below W.heap.size W W' ∧ ((hasS rs i a = false ∧ e = .returned (.tuple #[.int .i64 0, .iface 22 (.int .i64 7)])) ∨ (hasS rs i a = true ∧ ∃ k : Nat, i = k ∧ k < rs.length ∧ 0 ≤ (slAt rs k).1 ∧ (slAt rs k).2 = a ∧ e = .returned (.tuple #[.int .i64 (slAt rs k).1, .nilIface]))) := by
  have h' := h
  obtain ⟨vs, vf, h1, h2, h3, h4⟩ := h
  refine (arGet ab most vs vf rs fr i a W h1).mono ?_
  rintro e W' ⟨g0, g1⟩
  exact ⟨h'.still g0, g0, g1⟩

set_option maxRecDepth 4000 in
set_option maxHeartbeats 1000000 in
theorem given_yes (w : World) (hg : ErrT w) : Calls Tryd.prog 29 #[] w fun e w' => e = .returned (.bool true) ∧ Below w.heap.size w w' := by
  have HG : Hid (ErrT w) := hg
  clear hg
  go_enter Tryd.func29, Tryd.ntmps29
  go_wp2_with fail
  refine (arNew_any 1 _ (by decide) (by decide)).mono ?_
  rintro e w1 ⟨rfl, hw⟩
  have M1 : Hid (Mine w w1 w.heap.size 1 [] [] (fun _ => False)) := hw ▸ Mine.new w 1
  clear hw
  go_wp2_with fail
  refine (minePut w w.heap.size 1 [] [] (fun _ => False) 7 0 [(-1, 0)] [] w1 M1.out (by decide) (by decide) (by decide) (Or.inr ⟨rfl, rfl, rfl, rfl⟩) (by decide) (by decide) (fun j hj => hj.elim)).mono ?_
  rintro e w2 ⟨rfl, m2, _, _⟩
  have M2 : Hid (Mine w (w2.alloc (.cells #[.int .i64 0, .int .i64 0] 58)) w.heap.size 1 [(7, 0)] [] (fun j => False ∨ j = w2.heap.size)) := m2.box _
  clear m2
  rw [show (slAt [(-1, 0)] 0).2 = 0 from rfl, show ((0 : Nat) : Int) = 0 from rfl]
  go_wp2_with fail
  refine (mineTake w w.heap.size 1 [(7, 0)] [] _ 0 0 _ M2.out (by decide) (by decide) (fun k => by rcases k with _ | k <;> simp [slAt]) (fun j hj => by rcases hj with hj | rfl; exact hj.elim; simp)).mono ?_
  rintro e w3 ⟨hk3, hs3, ⟨hh, _⟩ | ⟨_, k, hk, _, _, _, rfl, m3⟩⟩
  · exact absurd hh (by decide)
  obtain rfl : k = 0 := by omega
  have M3 : Hid (Mine w w3 w.heap.size 1 [(-1, 1)] [0] (fun j => False ∨ j = w2.heap.size)) := m3
  have b3 : w3.heap[w2.heap.size]? = some (.cells #[.int .i64 0, .int .i64 0] 58 (0, 0)) := (hk3 _ (Or.inr rfl) (by simp)).trans (heap_alloc_new w2 _)
  have hl3 : w2.heap.size < w3.heap.size := lt_of_block b3
  have B3 : Hid (w3.heap[w2.heap.size]? = some (.cells #[.int .i64 0, .int .i64 0] 58 (0, 0))) := b3
  rw [show (slAt [(7, 0)] 0).1 = 7 from rfl]
  clear m3 hk3 hs3 hk b3
  go_wp2_with fail
  refine (minePut w w.heap.size 1 [(-1, 1)] [0] _ 8 0 [(-1, 1)] [] w3 M3.out (by decide) (by decide) (by decide) (Or.inl ⟨rfl, rfl⟩) (by decide) (by decide) (fun j hj => by rcases hj with hj | rfl; exact hj.elim; exact hl3)).mono ?_
  rintro e w4 ⟨rfl, m4, hk4, _⟩
  have b4 : w4.heap[w2.heap.size]? = some (.cells #[.int .i64 0, .int .i64 0] 58 (0, 0)) := (hk4 _ (Or.inr rfl) hl3).trans B3.out
  have M4 : Hid (Mine w w4 w.heap.size 1 [(8, 1)] [] (fun j => False ∨ j = w2.heap.size)) := m4
  have hl4 : w2.heap.size < w4.heap.size := lt_of_block b4
  have c0 := blk_cell (j := 0) b4 rfl
  have c1 := blk_cell (j := 1) b4 rfl
  clear m4 hk4 B3 b4
  rw [show (slAt [(-1, 1)] 0).2 = 1 from rfl, show ((0 : Nat) : Int) = 0 from rfl]
  go_wp2_with fail
  refine (mineGet w w.heap.size 1 [(8, 1)] [] _ 0 0 _ (M4.out.still ((Below.refl _ _).alloc (Nat.le_refl _) _))).mono ?_
  rintro e w5 ⟨m5, hb5, ⟨_, rfl⟩ | ⟨hh, _⟩⟩
  · have M5 : Hid (Mine w w5 w.heap.size 1 [(8, 1)] [] (fun j => False ∨ j = w2.heap.size)) := m5
    have b5 : w5.heap[w4.heap.size]? = some (.cells #[.int .i64 0, .int .i64 1] 58 (0, 0)) := (hb5.block _ (by simp)).trans (heap_alloc_new w4 _)
    have d0 := blk_cell (j := 0) b5 rfl
    have d1 := blk_cell (j := 1) b5 rfl
    clear m5 hb5 b5 c0 c1
    go_wp2_with fail
    refine (mineGet w w.heap.size 1 [(8, 1)] [] _ 0 1 _ M5.out).mono ?_
    rintro e w6 ⟨m6, _, ⟨hh, _⟩ | ⟨_, k, hk, _, _, _, rfl⟩⟩
    · exact absurd hh (by decide)
    obtain rfl : k = 0 := by omega
    rw [show (slAt [(8, 1)] 0).1 = 8 from rfl]
    obtain ⟨vs, vf, _, _, _, b6⟩ := m6
    have HB6 : Hid (Below w.heap.size w w6) := b6
    clear b6 d0 d1 hk
    go_wp2_with fail
    refine (tell_errno 7 _ (HG.out.below HB6.out)).mono ?_
    rintro e w7 ⟨rfl, hb7⟩
    have HB7 : Hid (Below w.heap.size w w7) := HB6.out.trans (hb7.mono HB6.out.size)
    clear hb7
    go_wp2
    go_ret
    exact ⟨rfl, HB7.out⟩
  · exact absurd hh (by decide)
end Go.Proofs.YtgocmaijpihakaaDoor
