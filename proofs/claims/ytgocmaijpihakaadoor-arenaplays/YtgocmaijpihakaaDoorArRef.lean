/-
  The document's own slots (3.1) in memory, and what Has, Free and Put do to them, over this seat's translation, told by the plain lists of ArSl. Conditions stand in each theorem: where the slots lie, that there are at most 1000, that their Ages are from 0 to 1000.
-/
import Derived.Test.YtgocmaijpihakaaDoorArPut
namespace Go.Proofs.YtgocmaijpihakaaDoor
open Go.RowKit

/-- In w block sb is the document's slots: things, Ages, the free ones, and how many there may be. -/
structure SlotsIs (w : World) (sb : Nat) (most : Int) (vt va vf : Value) (rs : List (Int × Int)) (fr : List Nat) : Prop where
  box : w.heap[sb]? = some (.cells #[vt, va, vf, .int .i64 most] 54 (0, 0))
  things : w.ownsRow 0 3 1 vt rs.length (thV rs)
  ages : w.ownsRow 0 3 1 va rs.length (agV rs)
  free : w.ownsRow 0 3 1 vf fr.length (frV fr)
  ta : ∀ k, vt.ownBlock = some k → va.ownBlock ≠ some k
  tf : ∀ k, vt.ownBlock = some k → vf.ownBlock ≠ some k
  af : ∀ k, va.ownBlock = some k → vf.ownBlock ≠ some k
/-- their blocks -/
def slB (sb : Nat) (vt va vf : Value) (k : Nat) : Prop := k = sb ∨ vt.ownBlock = some k ∨ va.ownBlock = some k ∨ vf.ownBlock = some k

section
variable {w w' : World} {sb : Nat} {most : Int} {vt va vf : Value} {rs : List (Int × Int)} {fr : List Nat}
theorem SlotsIs.below {B : Nat} (h : SlotsIs w sb most vt va vf rs fr) (hb : Below B w w') (hB : w.heap.size ≤ B) : SlotsIs w' sb most vt va vf rs fr :=
  ⟨(hb.block sb (Nat.lt_of_lt_of_le (lt_of_block h.box) hB)).trans h.box, owns_below h.things hb hB, owns_below h.ages hb hB, owns_below h.free hb hB, h.ta, h.tf, h.af⟩
theorem SlotsIs.out {S : Nat → Prop} (h : SlotsIs w sb most vt va vf rs fr) (hb : Out S w w') (hS : ∀ k, slB sb vt va vf k → ¬ S k) : SlotsIs w' sb most vt va vf rs fr :=
  ⟨(hb.block sb (lt_of_block h.box) (hS sb (Or.inl rfl))).trans h.box, owns_out h.things hb (fun k hk => hS k (Or.inr (Or.inl hk))), owns_out h.ages hb (fun k hk => hS k (Or.inr (Or.inr (Or.inl hk)))), owns_out h.free hb (fun k hk => hS k (Or.inr (Or.inr (Or.inr hk)))), h.ta, h.tf, h.af⟩
theorem SlotsIs.lt (h : SlotsIs w sb most vt va vf rs fr) {k : Nat} (hk : slB sb vt va vf k) : k < w.heap.size := by
  rcases hk with rfl | hk | hk | hk
  · exact lt_of_block h.box
  · exact (h.things.lt k hk).2
  · exact (h.ages.lt k hk).2
  · exact (h.free.lt k hk).2
/-- one slot's cells -/
theorem SlotsIs.slot (h : SlotsIs w sb most vt va vf rs fr) {k : Nat} (hk : k < rs.length) :
    ∃ g cap g' cap', vt = .slice (some ⟨g, 0, none⟩) rs.length cap ∧ va = .slice (some ⟨g', 0, none⟩) rs.length cap' ∧ w.cell? ⟨g, k, none⟩ = some (.int .i64 (slAt rs k).1) ∧ w.cell? ⟨g', k, none⟩ = some (.int .i64 (slAt rs k).2) := by
  obtain ⟨g, cap, rfl, _, _⟩ := h.things.form (by omega)
  obtain ⟨g', cap', rfl, _, _⟩ := h.ages.form (by omega)
  exact ⟨g, cap, g', cap', rfl, rfl, (h.things.cellAt _ (by omega)).trans (thV_at hk), (h.ages.cellAt _ (by omega)).trans (agV_at hk)⟩
end

theorem slots_new (w : World) (most : Int) : SlotsIs (w.alloc (.cells #[.slice none 0 0, .slice none 0 0, .slice none 0 0, .int .i64 most] 54)) w.heap.size most (.slice none 0 0) (.slice none 0 0) (.slice none 0 0) [] [] :=
  ⟨heap_alloc_new w _, World.ownsRow_nil _ _ _ _, World.ownsRow_nil _ _ _ _, World.ownsRow_nil _ _ _ _, fun _ h => (by cases h), fun _ h => (by cases h), fun _ h => (by cases h)⟩

set_option maxHeartbeats 400000 in
theorem in_any (x a b : Int) (w : World) : Calls Tryd.prog 30 #[.int .i64 x, .int .i64 a, .int .i64 b] w fun e w' => e = .returned (.bool (decide (a ≤ x) && decide (x ≤ b))) ∧ w' = w := by
  by_cases h : a ≤ x
  · go_enter Tryd.func30, Tryd.ntmps30
    go_wp2
    go_ret
    exact ⟨by rw [decide_eq_true h, Bool.true_and]; rfl, rfl⟩
  · go_enter Tryd.func30, Tryd.ntmps30
    go_wp2
    go_ret
    exact ⟨by rw [decide_eq_false (by omega), Bool.false_and]; rfl, rfl⟩
theorem in_not (x a b : Int) (w : World) (h : x < a ∨ b < x) : Calls Tryd.prog 30 #[.int .i64 x, .int .i64 a, .int .i64 b] w fun e w' => e = .returned (.bool false) ∧ w' = w :=
  (in_any x a b w).mono fun e w' ⟨h1, h2⟩ => ⟨by rw [h1]; simp; omega, h2⟩
theorem in_yes (x a b : Int) (w : World) (h : a ≤ x) (h' : x ≤ b) : Calls Tryd.prog 30 #[.int .i64 x, .int .i64 a, .int .i64 b] w fun e w' => e = .returned (.bool true) ∧ w' = w :=
  (in_any x a b w).mono fun e w' ⟨h1, h2⟩ => ⟨by rw [h1]; simp; omega, h2⟩

set_option maxRecDepth 4000 in
set_option maxHeartbeats 1000000 in
theorem refHas (sb : Nat) (most : Int) (vt va vf : Value) (rs : List (Int × Int)) (fr : List Nat) (i a : Int) (w : World) (h : SlotsIs w sb most vt va vf rs fr) (hl : rs.length ≤ 1000) :
    Calls Tryd.prog 20 #[.pointer (some ⟨sb, 0, none⟩), .int .i64 i, .int .i64 a] w fun e w' => e = .returned (.bool (hasS rs i a)) ∧ w' = w := by
  have c0 := blk_cell (j := 0) h.box rfl
  have c1 := blk_cell (j := 1) h.box rfl
  have HA : Hid (SlotsIs w sb most vt va vf rs fr) := h
  clear h
  by_cases hi : i < 0 ∨ (rs.length : Int) ≤ i
  · have HN : Hid (hasS rs i a = false) := by
      rcases hi with hi | hi
      · exact arHas_low hi
      · exact arHas_high hi
    obtain ⟨ao, cap, rfl, _, _⟩ := owns_shape HA.out.things
    go_enter Tryd.func20, Tryd.ntmps20
    go_wp2_with fail
    refine (in_not i 0 _ _ (by omega)).mono ?_
    rintro e w1 ⟨rfl, hw⟩
    subst hw
    go_wp2
    go_ret
    exact ⟨by rw [HN.out]; rfl, rfl⟩
  obtain ⟨k, rfl⟩ : ∃ k : Nat, i = k := ⟨i.toNat, by omega⟩
  have hk : k < rs.length := by omega
  obtain ⟨g, cap, g', cap', rfl, rfl, d0, d1⟩ := HA.out.slot hk
  have q1 : (0 : Int) ≤ (k : Int) := by omega
  have q2 : (k : Int) < rs.length := by omega
  clear hi
  by_cases hf : 0 ≤ (slAt rs k).1
  · cases ha : (slAt rs k).2 == a with
    | false =>
      have HN : Hid (hasS rs k a = false) := arHas_old ha
      go_enter Tryd.func20, Tryd.ntmps20
      go_wp2_with fail
      refine (in_yes k 0 _ _ (by omega) (by omega)).mono ?_
      rintro e w1 ⟨rfl, hw⟩
      subst hw
      go_wp2
      go_ret
      exact ⟨by rw [HN.out]; rfl, rfl⟩
    | true =>
      obtain rfl : (slAt rs k).2 = a := by simpa using ha
      have HN : Hid (hasS rs k (slAt rs k).2 = true) := arHas_yes hk (fullB_full hf)
      go_enter Tryd.func20, Tryd.ntmps20
      go_wp2_with fail
      refine (in_yes k 0 _ _ (by omega) (by omega)).mono ?_
      rintro e w1 ⟨rfl, hw⟩
      subst hw
      go_wp2
      go_ret
      exact ⟨by rw [HN.out]; rfl, rfl⟩
  · have HN : Hid (hasS rs k a = false) := arHas_none (by simp [fullB]; omega)
    have hd : decide (0 ≤ (slAt rs k).1) = false := by simpa using hf
    go_enter Tryd.func20, Tryd.ntmps20
    go_wp2_with fail
    refine (in_yes k 0 _ _ (by omega) (by omega)).mono ?_
    rintro e w1 ⟨rfl, hw⟩
    subst hw
    go_wp2
    go_ret
    exact ⟨by rw [HN.out]; rfl, rfl⟩

/-- a thing is written into a slot's cell of things -/
theorem SlotsIs.setThing {w : World} {sb g n cap k : Nat} {most x : Int} {va vf : Value} {rs : List (Int × Int)} {fr : List Nat} (h : SlotsIs w sb most (.slice (some ⟨g, 0, none⟩) n cap) va vf rs fr) (hk : k < rs.length) :
    SlotsIs (w.setCell ⟨g, k, none⟩ (.int .i64 x)) sb most (.slice (some ⟨g, 0, none⟩) n cap) va vf (rs.set k (x, (slAt rs k).2)) fr ∧ Out (fun j => j = g) w (w.setCell ⟨g, k, none⟩ (.int .i64 x)) := by
  obtain rfl := owns_len h.things
  refine ⟨⟨(Below.heap_setCell _ _ _ _ (fun e => owns_type h.things h.box (by decide) (by rw [e]; rfl))).trans h.box, ?_, ?_, ownsRow_setCell_other (a := ⟨g, k, none⟩) h.free (h.tf g rfl) _, h.ta, h.tf, h.af⟩, out_set w ⟨g, k, none⟩ _⟩
  · rw [List.length_set, thV_set]
    exact (h.things.stored k _).1
  · rw [List.length_set, agV_keep _ hk]
    exact ownsRow_setCell_other (a := ⟨g, k, none⟩) h.ages (h.ta g rfl) _
/-- a slot is freed once more -/
theorem SlotsIs.setAge {w : World} {sb g n cap k : Nat} {most a : Int} {vt vf : Value} {rs : List (Int × Int)} {fr : List Nat} (h : SlotsIs w sb most vt (.slice (some ⟨g, 0, none⟩) n cap) vf rs fr) (hk : k < rs.length) :
    SlotsIs (w.setCell ⟨g, k, none⟩ (.int .i64 a)) sb most vt (.slice (some ⟨g, 0, none⟩) n cap) vf (rs.set k ((slAt rs k).1, a)) fr ∧ Out (fun j => j = g) w (w.setCell ⟨g, k, none⟩ (.int .i64 a)) := by
  obtain rfl := owns_len h.ages
  refine ⟨⟨(Below.heap_setCell _ _ _ _ (fun e => owns_type h.ages h.box (by decide) (by rw [e]; rfl))).trans h.box, ?_, ?_, ownsRow_setCell_other (a := ⟨g, k, none⟩) h.free (h.af g rfl) _, h.ta, h.tf, h.af⟩, out_set w ⟨g, k, none⟩ _⟩
  · rw [List.length_set, thV_set, set_self (thV_at hk)]
    exact ownsRow_setCell_other (a := ⟨g, k, none⟩) h.things (fun e => h.ta g e rfl) _
  · rw [List.length_set, agV_set]
    exact (h.ages.stored k _).1
/-- a slot is among the free ones from now on -/
theorem SlotsIs.freed {w w1 : World} {sb g cap k H : Nat} {most : Int} {vt va vf : Value} {rs : List (Int × Int)} {fr : List Nat} {o : Obj} (h : SlotsIs w sb most vt va vf rs fr)
    (hown : w1.ownsRow 0 3 1 (.slice (some ⟨g, 0, none⟩) (fr.length + 1) cap) (fr.length + 1) (frV (fr ++ [k]))) (hg : (w.alloc o).grownBy w1 vf.ownBlock) (hat : vf.ownBlock = some g ∨ g = H) (hH : w.heap.size ≤ H) :
    SlotsIs (w1.setCell ⟨sb, 2, none⟩ (.slice (some ⟨g, 0, none⟩) (fr.length + 1) cap)) sb most vt va (.slice (some ⟨g, 0, none⟩) (fr.length + 1) cap) rs (fr ++ [k])
    ∧ Out (slB sb vt va vf) w (w1.setCell ⟨sb, 2, none⟩ (.slice (some ⟨g, 0, none⟩) (fr.length + 1) cap)) ∧ Went w (slB sb vt va vf) (slB sb vt va (.slice (some ⟨g, 0, none⟩) (fr.length + 1) cap)) := by
  have o1 : Out (fun k => vf.ownBlock = some k) w w1 := (Out.of_below ((Below.refl w.heap.size w).alloc (Nat.le_refl _) o) (Nat.le_refl _)).trans (Out.of_grown hg (fun k hk => hk)) (Went.refl _ _)
  have b1 : w1.heap[sb]? = some (.cells #[vt, va, vf, .int .i64 most] 54 (0, 0)) := (o1.block sb (lt_of_block h.box) (owns_type h.free h.box (by decide))).trans h.box
  have t1 : w1.ownsRow 0 3 1 vt rs.length (thV rs) := owns_out h.things o1 (fun k hk => h.tf k hk)
  have a1 : w1.ownsRow 0 3 1 va rs.length (agV rs) := owns_out h.ages o1 (fun k hk => h.af k hk)
  have o2 := out_set w1 ⟨sb, 2, none⟩ (.slice (some ⟨g, 0, none⟩) (fr.length + 1) cap)
  have far : ∀ v : Value, (∀ k, v.ownBlock = some k → k < w.heap.size) → (∀ k, v.ownBlock = some k → vf.ownBlock ≠ some k) → ∀ k, v.ownBlock = some k → (Value.slice (some ⟨g, 0, none⟩) (fr.length + 1) cap).ownBlock ≠ some k := fun v hv hd k hk e => by
    injection e with e
    change g = k at e
    subst e
    rcases hat with hat | hat
    · exact hd g hk hat
    · have := hv g hk; omega
  refine ⟨⟨by simpa using blk_set (j := 2) (.slice (some ⟨g, 0, none⟩) (fr.length + 1) cap) b1, ownsRow_setCell_other t1 (owns_type t1 b1 (by decide)) _, ownsRow_setCell_other a1 (owns_type a1 b1 (by decide)) _, ?_, h.ta, far vt (fun k hk => (h.things.lt k hk).2) h.tf, far va (fun k hk => (h.ages.lt k hk).2) h.af⟩, ?_, ?_⟩
  · rw [List.length_append, List.length_singleton]
    exact ownsRow_setCell_other hown (owns_type hown b1 (by decide)) _
  · exact (o1.mono (S' := slB sb vt va vf) (fun k hk => Or.inr (Or.inr (Or.inr hk)))).trans (o2.mono (S' := slB sb vt va vf) (fun k hk => Or.inl hk)) (Went.refl _ _)
  · rintro k (rfl | hk | hk | hk)
    · exact Or.inl (Or.inl rfl)
    · exact Or.inl (Or.inr (Or.inl hk))
    · exact Or.inl (Or.inr (Or.inr (Or.inl hk)))
    · injection hk with hk
      change g = k at hk
      subst hk
      rcases hat with hat | hat
      · exact Or.inl (Or.inr (Or.inr (Or.inr hat)))
      · exact Or.inr (by omega)

set_option maxRecDepth 4000 in
set_option maxHeartbeats 1000000 in
theorem refFree (sb : Nat) (most : Int) (vt va vf : Value) (rs : List (Int × Int)) (fr : List Nat) (k : Nat) (w : World) (h : SlotsIs w sb most vt va vf rs fr) (hl : rs.length ≤ 1000) (hfl : fr.length ≤ rs.length) (hag : 0 ≤ (slAt rs k).2 ∧ (slAt rs k).2 ≤ 1000) (hk : k < rs.length) :
    Calls Tryd.prog 25 #[.pointer (some ⟨sb, 0, none⟩), .int .i64 k] w
      fun e w' => (∃ x : Int, e = .returned (.int .i64 x)) ∧ ∃ vf', SlotsIs w' sb most vt va vf' (rs.set k (-1, (slAt rs k).2 + 1)) (fr ++ [k]) ∧ Out (slB sb vt va vf) w w' ∧ Went w (slB sb vt va vf) (slB sb vt va vf') := by
  obtain ⟨i0, hi, hz0, hz1, hz2⟩ := info_parts Tryd.infoNum
  obtain ⟨g, cap, g', cap', rfl, rfl, d0, d1⟩ := h.slot hk
  have hgg : g ≠ g' := fun e => h.ta g rfl (by rw [e]; rfl)
  have hbg : sb ≠ g := fun e => owns_type h.things h.box (by decide) (by rw [e]; rfl)
  have hbg' : sb ≠ g' := fun e => owns_type h.ages h.box (by decide) (by rw [e]; rfl)
  have c0 := blk_cell (j := 0) h.box rfl
  have c1 := blk_cell (j := 1) h.box rfl
  have c2 := blk_cell (j := 2) h.box rfl
  have f0 := h.things.frozenAt k
  have f1 := h.ages.frozenAt k
  have q1 : (0 : Int) ≤ (k : Int) := by omega
  have q2 : (k : Int) < rs.length := by omega
  obtain ⟨fo, fc, rfl, _, _⟩ := owns_shape h.free
  obtain ⟨r1, r2⟩ := h.setThing (x := -1) hk
  obtain ⟨s1, s2⟩ := r1.setAge (k := k) (a := (slAt rs k).2 + 1) (by simpa using hk)
  rw [slAt_set_same _ hk, List.set_set] at s1
  have HS : Hid (SlotsIs ((w.setCell ⟨g, k, none⟩ (.int .i64 (-1))).setCell ⟨g', k, none⟩ (.int .i64 ((slAt rs k).2 + 1))) sb most (.slice (some ⟨g, 0, none⟩) rs.length cap) (.slice (some ⟨g', 0, none⟩) rs.length cap') (.slice fo fr.length fc) (rs.set k (-1, (slAt rs k).2 + 1)) fr) := s1
  have HO : Hid (Out (slB sb (.slice (some ⟨g, 0, none⟩) rs.length cap) (.slice (some ⟨g', 0, none⟩) rs.length cap') (.slice fo fr.length fc)) w ((w.setCell ⟨g, k, none⟩ (.int .i64 (-1))).setCell ⟨g', k, none⟩ (.int .i64 ((slAt rs k).2 + 1)))) :=
    (r2.mono (fun j hj => Or.inr (Or.inl (by rw [hj]; rfl)))).trans (s2.mono (fun j hj => Or.inr (Or.inr (Or.inl (by rw [hj]; rfl))))) (Went.refl _ _)
  have A1 : (Value.slice fo fr.length fc).ownBlock ≠ some sb := owns_type h.free h.box (by decide)
  clear h r1 r2 s1 s2
  go_enter Tryd.func25, Tryd.ntmps25
  go_wp2_with (at_builtin; go_loud (refine wpList_append_lies _ rfl _ _ 52 rfl 0 3 i0 (.int .i64 0) 1 8 Tryd.underlying52 hi hz0 hz1 hz2 rfl (by decide) (.slice fo fr.length fc) fr.length (frV fr) rfl (HS.out.free.alloc _) ⟨w.heap.size, 0, none⟩ 1 1 [.int .i64 k] rfl rfl (World.news_of_block (cs := #[.int .i64 k]) (t := 3) (fr := (0, 0)) (by simpa using heap_alloc_new ((w.setCell ⟨g, k, none⟩ (.int .i64 (-1))).setCell ⟨g', k, none⟩ (.int .i64 ((slAt rs k).2 + 1))) _)) (by simp [Value.oneCell']) (by decide) (by unfold maxLen; omega) (by omega) (Nat.zero_le _) (w.heap.size + 1) (by simp) ?_); intro g2 cg w1 hown hgrow hat hlt; have hbx := (hgrow.block sb (Nat.lt_of_lt_of_le (lt_of_block HS.out.box) (by simp)) (Ne.symm A1)).trans ((Below.heap_alloc _ _ _ (lt_of_block HS.out.box)).trans HS.out.box); have x1 := blk_cell (j := 2) hbx rfl; have x2 := blk_free (j := 2) hbx)
  go_ret
  obtain ⟨r1, r2, r3⟩ := HS.out.freed (k := k) (by rw [frV_push]; exact hown) hgrow hat (by simp)
  exact ⟨⟨_, rfl⟩, _, r1, HO.out.trans r2 (Went.refl _ _), fun j hj => (r3 j hj).imp id (fun h4 => by have := HO.out.size; omega)⟩
end Go.Proofs.YtgocmaijpihakaaDoor
