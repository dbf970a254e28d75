/-
  What an arena of orders does at Set, room and Put, over this seat's translation, told by the plain lists of PbSl. Conditions stand in each theorem.
-/
import Derived.Test.YtjdkagafdnchhaaGreatDoorLA
import Derived.Deep.Cut
import Derived.StillTailTactics
import Derived.Deep.RegionLaw
import Derived.BigRegion
import Derived.Maps.OwnSet
import Derived.RangeFuncNested
import Derived.RangeFuncBound
import Derived.RangeFuncCalls
import Derived.RangeFuncLeaves
import Derived.Shelf.Abstract
import Derived.Shelf.RegionOpen
import Derived.OwnWalkIn
import Derived.TacticsInMore
import Derived.LoopNIn
import Derived.LoopIn
namespace Go.Proofs.YtjdkagafdnchhaaGreatDoor
open Go.RowKit

/-- a cell of the row of slots is written: the box and the free ones stay -/
theorem raw_store {w : World} {ab g n cap : Nat} {most : Int} {vf : Value} {xs : List Value} {fr : List Nat} (hb : w.heap[ab]? = some (.cells #[.int .i64 most, .slice (some ⟨g, 0, none⟩) n cap, vf] 221 (0, 0)))
    (hs : w.ownsRow 0 237 7 (.slice (some ⟨g, 0, none⟩) n cap) n xs) (hf : w.ownsRow 0 3 1 vf fr.length (frV fr)) (j : Nat) (u : Value) :
    (w.setCell ⟨g, j, none⟩ u).heap[ab]? = some (.cells #[.int .i64 most, .slice (some ⟨g, 0, none⟩) n cap, vf] 221 (0, 0))
    ∧ (w.setCell ⟨g, j, none⟩ u).ownsRow 0 237 7 (.slice (some ⟨g, 0, none⟩) n cap) n (xs.set j u) ∧ (w.setCell ⟨g, j, none⟩ u).ownsRow 0 3 1 vf fr.length (frV fr) ∧ Out (fun k => k = g) w (w.setCell ⟨g, j, none⟩ u) := by
  have hne : ab ≠ g := fun e => owns_type hs hb (by decide) (by rw [e]; rfl)
  obtain ⟨h1, h2⟩ := hs.stored j u
  exact ⟨(Below.heap_setCell _ _ _ _ hne).trans hb, h1, ownsRow_setCell_other (a := ⟨g, j, none⟩) hf (owns_types hs hf (by decide) rfl) u, Out.of_grown h2 (fun k hk => by injection hk with hk; exact hk.symm)⟩
theorem ArOr.raw {w : World} {ab g n cap : Nat} {most : Int} {vf : Value} {xs : List Value} {fr : List Nat} (hb : w.heap[ab]? = some (.cells #[.int .i64 most, .slice (some ⟨g, 0, none⟩) n cap, vf] 221 (0, 0)))
    (hs : w.ownsRow 0 237 7 (.slice (some ⟨g, 0, none⟩) n cap) n xs) (hf : w.ownsRow 0 3 1 vf fr.length (frV fr)) (j : Nat) (u0 u1 u2 u3 u4 : Value) :
    let w5 := ((((w.setCell ⟨g, j, none⟩ u0).setCell ⟨g, j + 1, none⟩ u1).setCell ⟨g, j + 2, none⟩ u2).setCell ⟨g, j + 3, none⟩ u3).setCell ⟨g, j + 4, none⟩ u4
    w5.heap[ab]? = some (.cells #[.int .i64 most, .slice (some ⟨g, 0, none⟩) n cap, vf] 221 (0, 0))
    ∧ w5.ownsRow 0 237 7 (.slice (some ⟨g, 0, none⟩) n cap) n (((((xs.set j u0).set (j + 1) u1).set (j + 2) u2).set (j + 3) u3).set (j + 4) u4) ∧ w5.ownsRow 0 3 1 vf fr.length (frV fr) ∧ Out (fun k => k = g) w w5 := by
  obtain ⟨a1, a2, a3, a4⟩ := raw_store hb hs hf j u0
  obtain ⟨b1, b2, b3, b4⟩ := raw_store a1 a2 a3 (j + 1) u1
  obtain ⟨c1, c2, c3, c4⟩ := raw_store b1 b2 b3 (j + 2) u2
  obtain ⟨d1, d2, d3, d4⟩ := raw_store c1 c2 c3 (j + 3) u3
  obtain ⟨e1, e2, e3, e4⟩ := raw_store d1 d2 d3 (j + 4) u4
  exact ⟨e1, e2, e3, (((a4.trans b4 (Went.refl _ _)).trans c4 (Went.refl _ _)).trans d4 (Went.refl _ _)).trans e4 (Went.refl _ _)⟩
theorem five_ne {l : List Value} {k j : Nat} {v u0 u1 u2 u3 u4 : Value} (h : l[j]? = some v) (hj : k + 4 < j) : (((((l.set k u0).set (k + 1) u1).set (k + 2) u2).set (k + 3) u3).set (k + 4) u4)[j]? = some v := by
  rw [List.getElem?_set_ne (by omega), List.getElem?_set_ne (by omega), List.getElem?_set_ne (by omega), List.getElem?_set_ne (by omega), List.getElem?_set_ne (by omega)]
  exact h
theorem soV_put {rs : List Sot} {k : Nat} {o : Ord} (hk : k < rs.length) :
    ((((((soV rs).set (k * 7) (.int .i64 o.id)).set (k * 7 + 1) (.int .i64 o.side)).set (k * 7 + 2) (.int .i64 o.kind)).set (k * 7 + 3) (.int .i64 o.price)).set (k * 7 + 4) (.int .i64 o.qty)).set (k * 7 + 6) (.bool true) = soV (rs.set k (some o, (soAt rs k).2)) := by
  have e : ((((((((soV rs).set (k * 7) (.int .i64 o.id)).set (k * 7 + 1) (.int .i64 o.side)).set (k * 7 + 2) (.int .i64 o.kind)).set (k * 7 + 3) (.int .i64 o.price)).set (k * 7 + 4) (.int .i64 o.qty)).set (k * 7 + 5) (.int .i64 (soAt rs k).2)).set (k * 7 + 6) (.bool true)) = soV (rs.set k (some o, (soAt rs k).2)) := soV_set (some o, (soAt rs k).2) hk
  obtain ⟨_, _, _, _, _, a5, _⟩ := soV_at hk
  rw [set_self (k := k * 7 + 5) (five_ne a5 (by omega))] at e
  exact e
theorem soV_keep {rs : List Sot} {k : Nat} {o : Ord} (hk : k < rs.length) (hf : (soAt rs k).1.isSome = true) :
    (((((soV rs).set (k * 7) (.int .i64 o.id)).set (k * 7 + 1) (.int .i64 o.side)).set (k * 7 + 2) (.int .i64 o.kind)).set (k * 7 + 3) (.int .i64 o.price)).set (k * 7 + 4) (.int .i64 o.qty) = soV (rs.set k (some o, (soAt rs k).2)) := by
  have e := soV_put (o := o) hk
  obtain ⟨_, _, _, _, _, _, a6⟩ := soV_at hk
  rw [hf] at a6
  rw [set_self (k := k * 7 + 6) (five_ne a6 (by omega))] at e
  exact e

theorem ArOr.setThing {w : World} {ab g n cap k : Nat} {most : Int} {x : Ord} {vf : Value} {rs : List Sot} {fr : List Nat} (h : ArOr w ab most (.slice (some ⟨g, 0, none⟩) n cap) vf rs fr) (hk : k < rs.length) (hf : (soAt rs k).1.isSome = true) :
    ArOr (((((w.setCell ⟨g, k * 7, none⟩ (.int .i64 x.id)).setCell ⟨g, k * 7 + 1, none⟩ (.int .i64 x.side)).setCell ⟨g, k * 7 + 2, none⟩ (.int .i64 x.kind)).setCell ⟨g, k * 7 + 3, none⟩ (.int .i64 x.price)).setCell ⟨g, k * 7 + 4, none⟩ (.int .i64 x.qty)) ab most (.slice (some ⟨g, 0, none⟩) n cap) vf (rs.set k (some x, (soAt rs k).2)) fr
    ∧ Out (fun j => j = g) w (((((w.setCell ⟨g, k * 7, none⟩ (.int .i64 x.id)).setCell ⟨g, k * 7 + 1, none⟩ (.int .i64 x.side)).setCell ⟨g, k * 7 + 2, none⟩ (.int .i64 x.kind)).setCell ⟨g, k * 7 + 3, none⟩ (.int .i64 x.price)).setCell ⟨g, k * 7 + 4, none⟩ (.int .i64 x.qty)) := by
  obtain rfl := owns_len h.slots
  obtain ⟨h1, h2, h3, h4⟩ := ArOr.raw h.box h.slots h.free (k * 7) (.int .i64 x.id) (.int .i64 x.side) (.int .i64 x.kind) (.int .i64 x.price) (.int .i64 x.qty)
  refine ⟨⟨h1, ?_, h3⟩, h4⟩
  rw [List.length_set, ← soV_keep hk hf]
  exact h2

/-- the slot that was freed last is given: the free ones behind it -/
theorem ArOr.pop {w : World} {ab g n cap k : Nat} {most : Int} {vs : Value} {rs : List Sot} {fs : List Nat} (h : ArOr w ab most vs (.slice (some ⟨g, 0, none⟩) n cap) rs (fs ++ [k])) :
    ArOr (w.setCell ⟨ab, 2, none⟩ (.slice (some ⟨g, 0, none⟩) fs.length cap)) ab most vs (.slice (some ⟨g, 0, none⟩) fs.length cap) rs fs ∧ Out (fun j => j = ab) w (w.setCell ⟨ab, 2, none⟩ (.slice (some ⟨g, 0, none⟩) fs.length cap)) := by
  have hf := h.free
  obtain rfl := owns_len h.free
  rw [List.length_append, List.length_singleton, frV_push] at hf
  have h1 := owns_less hf (frV_length fs)
  refine ⟨⟨by simpa using blk_set (j := 2) (.slice (some ⟨g, 0, none⟩) fs.length cap) h.box, ownsRow_setCell_other h.slots (owns_type h.slots h.box (by decide)) _, ownsRow_setCell_other h1 (owns_type h1 h.box (by decide)) _⟩, ?_⟩
  exact out_set _ ⟨ab, 2, none⟩ _

theorem Tryz.infoSlotO : (Tryz.prog.info? 237).map (fun i => (i.zero, i.size, i.bytes)) = some (some (.agg #[.int .i64 0, .int .i64 0, .int .i64 0, .int .i64 0, .int .i64 0, .int .i64 0, .bool false]), 7, 56) := by kernel_rfl
theorem Tryz.infoNumO : (Tryz.prog.info? 3).map (fun i => (i.zero, i.size, i.bytes)) = some (some (.int .i64 0), 1, 8) := by kernel_rfl

set_option maxRecDepth 4000 in
set_option maxHeartbeats 1000000 in
theorem oaRoom_free (ab : Nat) (most : Int) (vs vf : Value) (rs : List Sot) (fs : List Nat) (k : Nat) (w : World) (h : ArOr w ab most vs vf rs (fs ++ [k])) (hl : fs.length ≤ 1000000) :
    Calls Tryz.prog 188 #[.pointer (some ⟨ab, 0, none⟩)] w
      fun e w' => e = .returned (.int .i64 k) ∧ ∃ vf', ArOr w' ab most vs vf' rs fs ∧ Out (aoB ab vs vf) w w' ∧ vf'.ownBlock = vf.ownBlock := by
  obtain ⟨g, cap, rfl, _, _⟩ := h.free.form (by simp)
  have HA : Hid (ArOr w ab most vs (.slice (some ⟨g, 0, none⟩) (fs ++ [k]).length cap) rs (fs ++ [k])) := h
  have c2 := blk_cell (j := 2) h.box rfl
  have f2 := blk_free (j := 2) h.box
  have d0 := (h.free.cellAt fs.length (by simp)).trans (frV_top fs k)
  have hcap : fs.length + 1 ≤ cap := by
    obtain ⟨_, _, e, h1, _⟩ := owns_shape h.free
    simp at e h1; omega
  clear h
  rw [List.length_append, List.length_singleton] at c2
  have q1 : (0 : Int) ≤ (fs.length : Int) := by omega
  have q2 : (fs.length : Int) < (fs.length : Int) + 1 := by omega
  go_enter Tryz.func188, Tryz.ntmps188
  go_wp2
  go_ret
  obtain ⟨r1, r2⟩ := HA.out.pop
  exact ⟨rfl, _, r1, r2.mono (fun j hj => Or.inl hj), rfl⟩

/-- a new slot at the end -/
theorem ArOr.push {w w1 : World} {ab g cap H : Nat} {most : Int} {vs vf : Value} {rs : List Sot} {fr : List Nat} {o : Obj} {p : Sot} (h : ArOr w ab most vs vf rs fr)
    (hown : w1.ownsRow 0 237 7 (.slice (some ⟨g, 0, none⟩) (rs.length + 1) cap) (rs.length + 1) (soV (rs ++ [p]))) (hg : (w.alloc o).grownBy w1 vs.ownBlock) (hat : vs.ownBlock = some g ∨ g = H) (hH : w.heap.size ≤ H) :
    ArOr (w1.setCell ⟨ab, 1, none⟩ (.slice (some ⟨g, 0, none⟩) (rs.length + 1) cap)) ab most (.slice (some ⟨g, 0, none⟩) (rs.length + 1) cap) vf (rs ++ [p]) fr
    ∧ Out (aoB ab vs vf) w (w1.setCell ⟨ab, 1, none⟩ (.slice (some ⟨g, 0, none⟩) (rs.length + 1) cap)) ∧ Went w (aoB ab vs vf) (aoB ab (.slice (some ⟨g, 0, none⟩) (rs.length + 1) cap) vf) := by
  have o1 : Out (fun k => vs.ownBlock = some k) w w1 := (Out.of_below (bel1 w o) (Nat.le_refl _)).trans (Out.of_grown hg (fun k hk => hk)) (Went.refl _ _)
  have b1 : w1.heap[ab]? = some (.cells #[.int .i64 most, vs, vf] 221 (0, 0)) := blk_out h.box o1 (owns_type h.slots h.box (by decide))
  have f1 : w1.ownsRow 0 3 1 vf fr.length (frV fr) := owns_out h.free o1 (fun k hk => owns_types h.free h.slots (by decide) hk)
  have o2 := out_set w1 ⟨ab, 1, none⟩ (.slice (some ⟨g, 0, none⟩) (rs.length + 1) cap)
  refine ⟨⟨by simpa using blk_set (j := 1) (.slice (some ⟨g, 0, none⟩) (rs.length + 1) cap) b1, ?_, ownsRow_setCell_other f1 (owns_type f1 b1 (by decide)) _⟩, ?_, ?_⟩
  · rw [List.length_append, List.length_singleton]
    exact ownsRow_setCell_other hown (owns_type hown b1 (by decide)) _
  · exact (o1.mono (S' := aoB ab vs vf) (fun k hk => Or.inr (Or.inl hk))).trans (o2.mono (S' := aoB ab vs vf) (fun k hk => Or.inl hk)) (Went.refl _ _)
  · rintro k (rfl | hk | hk)
    · exact Or.inl (Or.inl rfl)
    · injection hk with hk
      change g = k at hk
      subst hk
      rcases hat with hat | hat
      · exact Or.inl (Or.inr (Or.inl hat))
      · exact Or.inr (by omega)
    · exact Or.inl (Or.inr (Or.inr hk))

set_option maxRecDepth 4000 in
set_option maxHeartbeats 1000000 in
theorem oaRoom_new (ab : Nat) (most : Int) (vs vf : Value) (rs : List Sot) (w : World) (h : ArOr w ab most vs vf rs []) (hl : rs.length ≤ 1000000) :
    Calls Tryz.prog 188 #[.pointer (some ⟨ab, 0, none⟩)] w
      fun e w' => e = .returned (.int .i64 rs.length) ∧ ∃ vs', ArOr w' ab most vs' vf (rs ++ [(none, 0)]) [] ∧ Out (aoB ab vs vf) w w' ∧ Went w (aoB ab vs vf) (aoB ab vs' vf) := by
  obtain ⟨i0, hi, hz0, hz1, hz2⟩ := info_parts Tryz.infoSlotO
  have HA : Hid (ArOr w ab most vs vf rs []) := h
  have c1 := blk_cell (j := 1) h.box rfl
  have c2 := blk_cell (j := 2) h.box rfl
  have lb : ab < w.heap.size := lt_of_block h.box
  have HO : Hid (vs.ownBlock ≠ some ab) := owns_type h.slots h.box (by decide)
  obtain ⟨ao, cap, rfl, _, _⟩ := owns_shape h.free
  simp only [List.length_nil] at c2 HA
  obtain ⟨ao', cap', rfl, _, _⟩ := owns_shape h.slots
  clear h
  go_enter Tryz.func188, Tryz.ntmps188
  go_wp2_with (at_builtin; go_loud (refine wpList_append_lies _ rfl _ _ 219 rfl 0 237 i0 (.agg #[.int .i64 0, .int .i64 0, .int .i64 0, .int .i64 0, .int .i64 0, .int .i64 0, .bool false]) 7 56 Tryz.underlying219 hi hz0 hz1 hz2 rfl (by decide) (.slice ao' rs.length cap') rs.length (soV rs) rfl (HA.out.slots.alloc _) ⟨w.heap.size, 0, none⟩ 1 1 [.int .i64 0, .int .i64 0, .int .i64 0, .int .i64 0, .int .i64 0, .int .i64 0, .bool false] rfl rfl (World.news_of_block (cs := #[.int .i64 0, .int .i64 0, .int .i64 0, .int .i64 0, .int .i64 0, .int .i64 0, .bool false]) (t := 237) (fr := (0, 0)) (heap_alloc_new w _)) (by simp [Value.oneCell']) (by decide) (by unfold maxLen; omega) (by omega) (Nat.zero_le _) (w.heap.size + 1) (by simp) ?_); intro g cg w1 hown hgrow hat hlt; have hbx := (hgrow.block ab (by simp; omega) (Ne.symm HO.out)).trans ((Below.heap_alloc _ _ _ lb).trans HA.out.box); have x1 := blk_cell (j := 1) hbx rfl; have x2 := blk_free (j := 1) hbx)
  go_ret
  obtain ⟨r1, r2, r3⟩ := HA.out.push (p := (none, 0)) (by rw [soV_append]; exact hown) hgrow hat (by omega)
  exact ⟨by first | rfl | (apply congrArg; go_num), _, r1, r2, r3⟩

theorem oaRoom (ab : Nat) (most : Int) (vs vf : Value) (rs : List Sot) (fr : List Nat) (k : Nat) (rs1 : List Sot) (fr1 : List Nat) (w : World) (h : ArOr w ab most vs vf rs fr) (hR : RoomO rs fr k rs1 fr1) (hl : rs.length ≤ 1000000) (hf : fr.length ≤ 1000000) :
    Calls Tryz.prog 188 #[.pointer (some ⟨ab, 0, none⟩)] w
      fun e w' => e = .returned (.int .i64 k) ∧ ∃ vs' vf', ArOr w' ab most vs' vf' rs1 fr1 ∧ Out (aoB ab vs vf) w w' ∧ Went w (aoB ab vs vf) (aoB ab vs' vf') := by
  rcases hR with ⟨rfl, rfl⟩ | ⟨rfl, rfl, rfl, rfl⟩
  · refine (oaRoom_free ab most vs vf _ fr1 k w h (by simp at hf; omega)).mono ?_
    rintro e w1 ⟨rfl, vf', h1, h2, h3⟩
    refine ⟨rfl, vs, vf', h1, h2, ?_⟩
    rintro j (hj | hj | hj)
    · exact Or.inl (Or.inl hj)
    · exact Or.inl (Or.inr (Or.inl hj))
    · exact Or.inl (Or.inr (Or.inr (h3 ▸ hj)))
  · refine (oaRoom_new ab most vs vf _ w h hl).mono ?_
    rintro e w1 ⟨rfl, vs', h1, h2, h3⟩
    exact ⟨rfl, vs', vf, h1, h2, h3⟩
end Go.Proofs.YtjdkagafdnchhaaGreatDoor

/-
  What an arena of orders does at Put, over this seat's translation, told by the plain lists of PbSl. Conditions stand in each theorem.
-/
namespace Go.Proofs.YtjdkagafdnchhaaGreatDoor
open Go.RowKit

set_option maxRecDepth 4000 in
set_option maxHeartbeats 1000000 in
theorem oaPut_full (ab : Nat) (most : Int) (vs vf : Value) (rs : List Sot) (fr : List Nat) (x : Ord) (w : World) (h : ArOr w ab most vs vf rs fr) (hl : rs.length ≤ 1000000) (hs : cntO rs + fr.length = rs.length) (hm : (cntO rs : Int) = most) :
    Calls Tryz.prog 149 #[.pointer (some ⟨ab, 0, none⟩), x.agg] w
      fun e w' => e = .returned (.tuple #[.agg #[.int .i64 0, .int .i64 0], .iface 32 (.int .i64 12)]) ∧ Below w.heap.size w w' := by
  have HA : Hid (ArOr w ab most vs vf rs fr) := h
  have c0 := blk_cell (j := 0) h.box rfl
  have lb : ab < w.heap.size := lt_of_block h.box
  have HM : Hid ((cntO rs : Int) = most) := hm
  clear h hm
  unfold Ord.agg
  go_enter Tryz.func149, Tryz.ntmps149
  go_wp2_with fail
  go_quiet (first | (go_at_call 139; refine Calls.quiet_of (oaMany ab most vs vf rs fr most _ (HA.out.below (below_drewN (bel2 _ _ _) _) (Nat.le_refl _)) hl HM.out hs)))
  go_wp2
  refine bodyPost_ret (by simp [results, Tryz.results149, go_sem]; try rfl) rfl ?_
  exact ⟨rfl, ((below_drewN (bel2 _ _ _) _).setCell (by simp) _).setCell (by simp) _⟩

/-- an order is put into a slot -/
theorem ArOr.putThing {w : World} {ab g n cap k : Nat} {most : Int} {x : Ord} {vf : Value} {rs : List Sot} {fr : List Nat} (h : ArOr w ab most (.slice (some ⟨g, 0, none⟩) n cap) vf rs fr) (hk : k < rs.length) :
    ArOr ((((((w.setCell ⟨g, k * 7, none⟩ (.int .i64 x.id)).setCell ⟨g, k * 7 + 1, none⟩ (.int .i64 x.side)).setCell ⟨g, k * 7 + 2, none⟩ (.int .i64 x.kind)).setCell ⟨g, k * 7 + 3, none⟩ (.int .i64 x.price)).setCell ⟨g, k * 7 + 4, none⟩ (.int .i64 x.qty)).setCell ⟨g, k * 7 + 6, none⟩ (.bool true)) ab most (.slice (some ⟨g, 0, none⟩) n cap) vf (rs.set k (some x, (soAt rs k).2)) fr
    ∧ Out (fun j => j = g) w ((((((w.setCell ⟨g, k * 7, none⟩ (.int .i64 x.id)).setCell ⟨g, k * 7 + 1, none⟩ (.int .i64 x.side)).setCell ⟨g, k * 7 + 2, none⟩ (.int .i64 x.kind)).setCell ⟨g, k * 7 + 3, none⟩ (.int .i64 x.price)).setCell ⟨g, k * 7 + 4, none⟩ (.int .i64 x.qty)).setCell ⟨g, k * 7 + 6, none⟩ (.bool true)) := by
  obtain rfl := owns_len h.slots
  obtain ⟨h1, h2, h3, h4⟩ := ArOr.raw h.box h.slots h.free (k * 7) (.int .i64 x.id) (.int .i64 x.side) (.int .i64 x.kind) (.int .i64 x.price) (.int .i64 x.qty)
  obtain ⟨g1, g2, g3, g4⟩ := raw_store h1 h2 h3 (k * 7 + 6) (.bool true)
  refine ⟨⟨g1, ?_, g3⟩, h4.trans g4 (Went.refl _ _)⟩
  rw [List.length_set, ← soV_put hk]
  exact g2

set_option maxRecDepth 4000 in
set_option maxHeartbeats 2000000 in
theorem oaPut (ab : Nat) (most : Int) (vs vf : Value) (rs : List Sot) (fr : List Nat) (x : Ord) (k : Nat) (rs1 : List Sot) (fr1 : List Nat) (w : World) (h : ArOr w ab most vs vf rs fr) (hl : rs.length ≤ 1000000) (hs : cntO rs + fr.length = rs.length) (hm : ¬ (cntO rs : Int) = most)
    (hR : RoomO rs fr k rs1 fr1) (hk : k < rs1.length) :
    Calls Tryz.prog 149 #[.pointer (some ⟨ab, 0, none⟩), x.agg] w
      fun e w' => e = .returned (.tuple #[.agg #[.int .i64 k, .int .i64 (soAt rs1 k).2], .nilIface]) ∧ ∃ vs' vf', ArOr w' ab most vs' vf' (rs1.set k (some x, (soAt rs1 k).2)) fr1 ∧ Out (aoB ab vs vf) w w' ∧ Went w (aoB ab vs vf) (aoB ab vs' vf') := by
  have HA : Hid (ArOr w ab most vs vf rs fr) := h
  have HR : Hid (RoomO rs fr k rs1 fr1) := hR
  have c0 := blk_cell (j := 0) h.box rfl
  have lb : ab < w.heap.size := lt_of_block h.box
  have hmb : ((cntO rs : Int) == most) = false := beq_eq_false_iff_ne.2 hm
  clear h hm hR
  unfold Ord.agg
  go_enter Tryz.func149, Tryz.ntmps149
  go_wp2_with fail
  go_quiet (first | (go_at_call 139; refine Calls.quiet_of (oaMany ab most vs vf rs fr (cntO rs) _ (HA.out.below (below_drewN (bel2 _ _ _) _) (Nat.le_refl _)) hl rfl hs)))
  go_wp2_with fail
  have hbq := below_drewN (bel2 w (.cells #[.int .i64 x.id, .int .i64 x.side, .int .i64 x.kind, .int .i64 x.price, .int .i64 x.qty] 41) (.cells #[.int .i64 0, .int .i64 0] 169)) nq
  have hxq := blk_drewN nq (two_old w (.cells #[.int .i64 x.id, .int .i64 x.side, .int .i64 x.kind, .int .i64 x.price, .int .i64 x.qty] 41) (.cells #[.int .i64 0, .int .i64 0] 169))
  have hwq := blk_drewN nq (two_new w (.cells #[.int .i64 x.id, .int .i64 x.side, .int .i64 x.kind, .int .i64 x.price, .int .i64 x.qty] 41) (.cells #[.int .i64 0, .int .i64 0] 169))
  generalize ((w.alloc (.cells #[.int .i64 x.id, .int .i64 x.side, .int .i64 x.kind, .int .i64 x.price, .int .i64 x.qty] 41)).alloc (.cells #[.int .i64 0, .int .i64 0] 169)).drewN nq = wq at hbq hxq hwq ⊢
  have HBQ : Hid (Below w.heap.size w wq) := hbq
  have HXQ : Hid (wq.heap[w.heap.size]? = some (.cells #[.int .i64 x.id, .int .i64 x.side, .int .i64 x.kind, .int .i64 x.price, .int .i64 x.qty] 41 (0, 0))) := hxq
  have HWQ : Hid (wq.heap[w.heap.size + 1]? = some (.cells #[.int .i64 0, .int .i64 0] 169 (0, 0))) := hwq
  clear hbq hxq hwq hmb c0
  refine (oaRoom ab most vs vf rs fr k rs1 fr1 wq (HA.out.below HBQ.out (Nat.le_refl _)) HR.out hl (by omega)).mono ?_
  rintro e w1 ⟨rfl, vs', vf', h1, h2, h3⟩
  obtain ⟨g, cap, rfl, d0, d1, d2, d3, d4, d5, d6⟩ := h1.slot hk rfl rfl rfl
  have f0 := h1.slots.frozenAt (k * 7)
  have f1 := h1.slots.frozenAt (k * 7 + 1)
  have f2 := h1.slots.frozenAt (k * 7 + 2)
  have f3 := h1.slots.frozenAt (k * 7 + 3)
  have f4 := h1.slots.frozenAt (k * 7 + 4)
  have f6 := h1.slots.frozenAt (k * 7 + 6)
  have hxx := blk_out HXQ.out h2 (fun e => by have := HA.out.lt e; omega)
  have hbx := blk_out HWQ.out h2 (fun e => by have := HA.out.lt e; omega)
  have hne : w.heap.size + 1 ≠ g := fun e => owns_type h1.slots hbx (by decide) (by rw [e]; rfl)
  have hne2 : w.heap.size ≠ g := fun e => owns_type h1.slots hxx (by decide) (by rw [e]; rfl)
  have z0 := blk_cell (j := 0) hxx rfl
  have z1 := blk_cell (j := 1) hxx rfl
  have z2 := blk_cell (j := 2) hxx rfl
  have z3 := blk_cell (j := 3) hxx rfl
  have z4 := blk_cell (j := 4) hxx rfl
  have c1 := blk_cell (j := 1) h1.box rfl
  have HBX : Hid (w1.heap[w.heap.size + 1]? = some (.cells #[.int .i64 0, .int .i64 0] 169 (0, 0))) := hbx
  have H1 : Hid (ArOr w1 ab most (.slice (some ⟨g, 0, none⟩) rs1.length cap) vf' rs1 fr1) := h1
  have H2 : Hid (Out (aoB ab vs vf) wq w1) := h2
  have H3 : Hid (Went wq (aoB ab vs vf) (aoB ab (.slice (some ⟨g, 0, none⟩) rs1.length cap) vf')) := h3
  clear h1 h2 h3 hbx hxx
  have q1 : (0 : Int) ≤ (k : Int) := by omega
  have q2 : (k : Int) < rs1.length := by omega
  go_upto_region 6 with fail
  obtain ⟨r1, r2⟩ := H1.out.putThing (x := x) hk
  have lq : w.heap.size + 1 < wq.heap.size := lt_of_block HWQ.out
  have hbz := blk_out HBX.out r2 (fun e => hne e)
  generalize ((((((w1.setCell ⟨g, k * 7, none⟩ (.int .i64 x.id)).setCell ⟨g, k * 7 + 1, none⟩ (.int .i64 x.side)).setCell ⟨g, k * 7 + 2, none⟩ (.int .i64 x.kind)).setCell ⟨g, k * 7 + 3, none⟩ (.int .i64 x.price)).setCell ⟨g, k * 7 + 4, none⟩ (.int .i64 x.qty)).setCell ⟨g, k * 7 + 6, none⟩ (.bool true)) = wz at r1 r2 hbz ⊢
  obtain ⟨_, g', cap', hv, _, _, _, _, _, e5, _⟩ := r1.has (soAt_set_same _ hk)
  simp only [Value.slice.injEq, Option.some.injEq, Addr.mk.injEq, and_true] at hv
  obtain ⟨rfl, _, rfl⟩ := hv
  have R1 : Hid _ := r1
  have R2 : Hid _ := r2
  have x0 := blk_cell (j := 0) hbz rfl
  have x1 := blk_cell (j := 1) hbz rfl
  have y0 := blk_free (j := 0) hbz
  have y1 := blk_free (j := 1) hbz
  clear d0 d1 d2 d3 d4 d5 d6 f0 f1 f2 f3 f4 f6 z0 z1 z2 z3 z4 c1 r1 r2 hbz q1 q2
  go_wp2
  refine bodyPost_ret (by simp [results, Tryz.results149, go_sem, x0, x1]; try rfl) rfl ?_
  have sep : ∀ j, aoB ab (.slice (some ⟨g, 0, none⟩) rs1.length cap) vf' j → ¬ j = w.heap.size + 1 := fun j hj e => by
    rcases H3.out j hj with h4 | h4
    · have := HA.out.lt h4; omega
    · omega
  have s1 := out_set wz ⟨w.heap.size + 1, 0, none⟩ (.int .i64 k)
  have s2 := out_set (wz.setCell ⟨w.heap.size + 1, 0, none⟩ (.int .i64 k)) ⟨w.heap.size + 1, 1, none⟩ (.int .i64 (soAt rs1 k).2)
  have s3 := s1.trans s2 (Went.refl _ _)
  refine ⟨rfl, _, vf', R1.out.out s3 sep, ?_, fun j hj => (H3.out j hj).imp id (fun h4 => by omega)⟩
  refine ((((Out.of_below HBQ.out (Nat.le_refl _)).trans H2.out (Went.refl _ _)).trans R2.out ?_).trans s3 ?_)
  · rintro j rfl
    exact (H3.out j (Or.inr (Or.inl rfl))).imp id (fun h4 => by omega)
  · rintro j rfl
    exact Or.inr (by simp)
end Go.Proofs.YtjdkagafdnchhaaGreatDoor

/-
  What an arena of orders does at Take of a handle whose order is there, over this seat's translation, told by the plain lists of PbSl. Conditions stand in the theorem.
-/
namespace Go.Proofs.YtjdkagafdnchhaaGreatDoor
open Go.RowKit

/-- A region that draws its order, whose first n operations only read and feed the rest, which has one order: in the text's order. -/
theorem ar_tail {P : Program} {id : Nat} {Q : Exit → Act → World → Prop} {a : Act} {w : World} {l : List Oper} (n : Nat) (hm : P.follows .mixedOrders = true) (hB : Region.lexTailB .any l.toArray n = true)
    (h : wpStill P l.toArray w.drew (fun a' => wpList P l.toArray Q (l.drop n) a' w.drew) (l.take n) a) : (Code.region id l.toArray true).wp P Q a w := wp_region_still_tail n hm hB h

def clearW (w : World) (g k : Nat) (a : Int) : World := ((((((w.setCell ⟨g, k * 7, none⟩ (.int .i64 0)).setCell ⟨g, k * 7 + 1, none⟩ (.int .i64 0)).setCell ⟨g, k * 7 + 2, none⟩ (.int .i64 0)).setCell ⟨g, k * 7 + 3, none⟩ (.int .i64 0)).setCell ⟨g, k * 7 + 4, none⟩ (.int .i64 0)).setCell ⟨g, k * 7 + 5, none⟩ (.int .i64 a)).setCell ⟨g, k * 7 + 6, none⟩ (.bool false)
/-- a slot is emptied -/
theorem ArOr.clear {w : World} {ab g n cap k : Nat} {most a : Int} {vf : Value} {rs : List Sot} {fr : List Nat} (h : ArOr w ab most (.slice (some ⟨g, 0, none⟩) n cap) vf rs fr) (hk : k < rs.length) :
    ArOr (clearW w g k a) ab most (.slice (some ⟨g, 0, none⟩) n cap) vf (rs.set k (none, a)) fr ∧ Out (fun j => j = g) w (clearW w g k a) := by
  obtain rfl := owns_len h.slots
  obtain ⟨h1, h2, h3, h4⟩ := ArOr.raw h.box h.slots h.free (k * 7) (.int .i64 0) (.int .i64 0) (.int .i64 0) (.int .i64 0) (.int .i64 0)
  obtain ⟨g1, g2, g3, g4⟩ := raw_store h1 h2 h3 (k * 7 + 5) (.int .i64 a)
  obtain ⟨i1, i2, i3, i4⟩ := raw_store g1 g2 g3 (k * 7 + 6) (.bool false)
  refine ⟨⟨i1, ?_, i3⟩, (h4.trans g4 (Went.refl _ _)).trans i4 (Went.refl _ _)⟩
  have e := soV_set (none, a) hk
  rw [List.length_set, ← e]
  exact i2

theorem out_five (w : World) (b : Nat) (u0 u1 u2 u3 u4 : Value) : Out (fun j => j = b) w (((((w.setCell ⟨b, 0, none⟩ u0).setCell ⟨b, 1, none⟩ u1).setCell ⟨b, 2, none⟩ u2).setCell ⟨b, 3, none⟩ u3).setCell ⟨b, 4, none⟩ u4) :=
  ((((out_set w ⟨b, 0, none⟩ u0).trans (out_set _ ⟨b, 1, none⟩ u1) (Went.refl _ _)).trans (out_set _ ⟨b, 2, none⟩ u2) (Went.refl _ _)).trans (out_set _ ⟨b, 3, none⟩ u3) (Went.refl _ _)).trans (out_set _ ⟨b, 4, none⟩ u4) (Went.refl _ _)
/-- a slot is free from now on -/
theorem ArOr.freed {w w1 : World} {ab g cap k H : Nat} {most : Int} {vs vf : Value} {rs : List Sot} {fr : List Nat} {o : Obj} (h : ArOr w ab most vs vf rs fr)
    (hown : w1.ownsRow 0 3 1 (.slice (some ⟨g, 0, none⟩) (fr.length + 1) cap) (fr.length + 1) (frV (fr ++ [k]))) (hg : (w.alloc o).grownBy w1 vf.ownBlock) (hat : vf.ownBlock = some g ∨ g = H) (hH : w.heap.size ≤ H) :
    ArOr (w1.setCell ⟨ab, 2, none⟩ (.slice (some ⟨g, 0, none⟩) (fr.length + 1) cap)) ab most vs (.slice (some ⟨g, 0, none⟩) (fr.length + 1) cap) rs (fr ++ [k])
    ∧ Out (aoB ab vs vf) w (w1.setCell ⟨ab, 2, none⟩ (.slice (some ⟨g, 0, none⟩) (fr.length + 1) cap)) ∧ Went w (aoB ab vs vf) (aoB ab vs (.slice (some ⟨g, 0, none⟩) (fr.length + 1) cap)) := by
  have o1 : Out (fun k => vf.ownBlock = some k) w w1 := (Out.of_below (bel1 w o) (Nat.le_refl _)).trans (Out.of_grown hg (fun k hk => hk)) (Went.refl _ _)
  have b1 : w1.heap[ab]? = some (.cells #[.int .i64 most, vs, vf] 221 (0, 0)) := blk_out h.box o1 (owns_type h.free h.box (by decide))
  have f1 : w1.ownsRow 0 237 7 vs rs.length (soV rs) := owns_out h.slots o1 (fun k hk => owns_types h.slots h.free (by decide) hk)
  have o2 := out_set w1 ⟨ab, 2, none⟩ (.slice (some ⟨g, 0, none⟩) (fr.length + 1) cap)
  refine ⟨⟨by simpa using blk_set (j := 2) (.slice (some ⟨g, 0, none⟩) (fr.length + 1) cap) b1, ownsRow_setCell_other f1 (owns_type f1 b1 (by decide)) _, ?_⟩, ?_, ?_⟩
  · rw [List.length_append, List.length_singleton]
    exact ownsRow_setCell_other hown (owns_type hown b1 (by decide)) _
  · exact (o1.mono (S' := aoB ab vs vf) (fun k hk => Or.inr (Or.inr hk))).trans (o2.mono (S' := aoB ab vs vf) (fun k hk => Or.inl hk)) (Went.refl _ _)
  · rintro k (rfl | hk | hk)
    · exact Or.inl (Or.inl rfl)
    · exact Or.inl (Or.inr (Or.inl hk))
    · injection hk with hk
      change g = k at hk
      subst hk
      rcases hat with hat | hat
      · exact Or.inl (Or.inr (Or.inr hat))
      · exact Or.inr (by omega)

set_option maxRecDepth 100000 in
set_option maxHeartbeats 2000000 in
theorem oaTake (ab : Nat) (most : Int) (vs vf : Value) (rs : List Sot) (fr : List Nat) (k : Nat) (o : Ord) (a : Int) (w : World) (h : ArOr w ab most vs vf rs fr) (hk : soAt rs k = (some o, a)) (hl : rs.length ≤ 1000000) (hfl : fr.length ≤ rs.length) (hag : 0 ≤ a ∧ a ≤ 1000000) :
    Calls Tryz.prog 102 #[.pointer (some ⟨ab, 0, none⟩), .agg #[.int .i64 k, .int .i64 a]] w
      fun e w' => e = .returned (.tuple #[o.agg, .nilIface]) ∧ ∃ vf', ArOr w' ab most vs vf' (rs.set k (none, a + 1)) (fr ++ [k]) ∧ Out (aoB ab vs vf) w w' ∧ Went w (aoB ab vs vf) (aoB ab vs vf') := by
  obtain ⟨i0, hi, hz0, hz1, hz2⟩ := info_parts Tryz.infoNumO
  have HA : Hid (ArOr w ab most vs vf rs fr) := h
  have HK : Hid (soAt rs k = (some o, a)) := hk
  have HG : Hid (0 ≤ a ∧ a ≤ 1000000) := hag
  clear h hag hk
  go_enter Tryz.func102, Tryz.ntmps102
  go_wp2_with fail
  refine (oaGet ab most vs vf rs fr k o a _ (HA.out.below (bel2 _ _ _) (Nat.le_refl _)) HK.out).mono ?_
  rintro e w1 ⟨hb, rfl⟩
  have hh := (hb.block (w.heap.size) (by simp; omega)).trans (two_old w _ _)
  have hr := (hb.block (w.heap.size + 1) (by simp)).trans (two_new w _ _)
  have HR0 : Hid _ := hr
  have HB : Hid (Below w.heap.size w w1) := bel_then (bel2 w _ _) hb
  unfold Ord.agg
  go_upto_region 4 with fail
  have hh := blk_below hh (bel1 w1 (.cells #[.int .i64 o.id, .int .i64 o.side, .int .i64 o.kind, .int .i64 o.price, .int .i64 o.qty] 41)) (Nat.le_refl _)
  have hr := blk_below hr (bel1 w1 (.cells #[.int .i64 o.id, .int .i64 o.side, .int .i64 o.kind, .int .i64 o.price, .int .i64 o.qty] 41)) (Nat.le_refl _)
  have hx := heap_alloc_new w1 (.cells #[.int .i64 o.id, .int .i64 o.side, .int .i64 o.kind, .int .i64 o.price, .int .i64 o.qty] 41)
  have HB1 : Hid (Below w.heap.size w (w1.alloc (.cells #[.int .i64 o.id, .int .i64 o.side, .int .i64 o.kind, .int .i64 o.price, .int .i64 o.qty] 41))) := bel_then HB.out (bel1 _ _)
  generalize w1.alloc (.cells #[.int .i64 o.id, .int .i64 o.side, .int .i64 o.kind, .int .i64 o.price, .int .i64 o.qty] 41) = wa at hh hr hx HB1 ⊢
  have hxb1 : w.heap.size ≤ w1.heap.size := HB.out.size
  have hxb2 : w1.heap.size ≠ w.heap.size + 1 := fun e => by have := lt_of_block HR0.out; omega
  generalize w1.heap.size = xb at hx hxb1 hxb2 ⊢
  have HXB : Hid (w.heap.size ≤ xb) := hxb1
  have HXN : Hid (xb ≠ w.heap.size + 1) := hxb2
  clear hb HB hxb1 hxb2
  have HH : Hid (wa.heap[w.heap.size]? = some (.cells #[.int .i64 k, .int .i64 a] 169 (0, 0))) := hh
  have HR : Hid (wa.heap[w.heap.size + 1]? = some (.cells #[.int .i64 0, .int .i64 0, .int .i64 0, .int .i64 0, .int .i64 0] 41 (0, 0))) := hr
  have HX : Hid (wa.heap[xb]? = some (.cells #[.int .i64 o.id, .int .i64 o.side, .int .i64 o.kind, .int .i64 o.price, .int .i64 o.qty] 41 (0, 0))) := hx
  have H1 : Hid (ArOr wa ab most vs vf rs fr) := HA.out.below HB1.out (Nat.le_refl _)
  obtain ⟨hk1, g, cap, rfl, d0, d1, d2, d3, d4, d5, d6⟩ := H1.out.has HK.out
  have x0 := blk_cell (j := 0) hh rfl
  have x1 := blk_cell (j := 1) hh rfl
  have c1 := blk_cell (j := 1) H1.out.box rfl
  have f0 := H1.out.slots.frozenAt (k * 7)
  have f1 := H1.out.slots.frozenAt (k * 7 + 1)
  have f2 := H1.out.slots.frozenAt (k * 7 + 2)
  have f3 := H1.out.slots.frozenAt (k * 7 + 3)
  have f4 := H1.out.slots.frozenAt (k * 7 + 4)
  have f5 := H1.out.slots.frozenAt (k * 7 + 5)
  have f6 := H1.out.slots.frozenAt (k * 7 + 6)
  have q0 : IntKind.i64.wrap (a + 1) = a + 1 := IntWalk.i64_in _ (by have := HG.out; omega)
  have q1 : (0 : Int) ≤ (k : Int) := by omega
  have q2 : (k : Int) < rs.length := by omega
  clear hh hr hx
  refine ar_tail 11 (by kernel_rfl) (by kernel_rfl) ?_
  simp only [List.take_succ_cons, List.take_zero, List.drop_succ_cons, List.drop_zero]
  repeat still_step
  try refine wpStill_nil ?_
  go_upto_region 5 with fail
  obtain ⟨r1, r2⟩ := H1.out.clear (a := a + 1) hk1
  unfold clearW at r1 r2
  generalize hw2 : ((((((wa.setCell ⟨g, k * 7, none⟩ (.int .i64 0)).setCell ⟨g, k * 7 + 1, none⟩ (.int .i64 0)).setCell ⟨g, k * 7 + 2, none⟩ (.int .i64 0)).setCell ⟨g, k * 7 + 3, none⟩ (.int .i64 0)).setCell ⟨g, k * 7 + 4, none⟩ (.int .i64 0)).setCell ⟨g, k * 7 + 5, none⟩ (.int .i64 (a + 1))).setCell ⟨g, k * 7 + 6, none⟩ (.bool false) = w2 at r1 r2 ⊢
  clear hw2
  have hh2 := blk_out HH.out r2 (fun e => owns_type H1.out.slots HH.out (by decide) (by rw [e]; rfl))
  have hr2 := blk_out HR.out r2 (fun e => owns_type H1.out.slots HR.out (by decide) (by rw [e]; rfl))
  have hx2 := blk_out HX.out r2 (fun e => owns_type H1.out.slots HX.out (by decide) (by rw [e]; rfl))
  have H2 : Hid (ArOr w2.drew ab most (.slice (some ⟨g, 0, none⟩) rs.length cap) vf (rs.set k (none, a + 1)) fr) := r1.below (Below.refl w2.heap.size w2).drew (Nat.le_refl _)
  have HO2 : Hid (Out (aoB ab (.slice (some ⟨g, 0, none⟩) rs.length cap) vf) wa w2.drew) := (r2.mono (S' := aoB ab (.slice (some ⟨g, 0, none⟩) rs.length cap) vf) (fun j hj => Or.inr (Or.inl (by rw [hj]; rfl)))).trans (Out.of_below (Below.refl w2.heap.size w2).drew (Nat.le_refl _)) (Went.refl _ _)
  have HH2 : Hid (w2.drew.heap[w.heap.size]? = some (.cells #[.int .i64 k, .int .i64 a] 169 (0, 0))) := hh2
  have HR2 : Hid (w2.drew.heap[w.heap.size + 1]? = some (.cells #[.int .i64 0, .int .i64 0, .int .i64 0, .int .i64 0, .int .i64 0] 41 (0, 0))) := hr2
  have HX2 : Hid (w2.drew.heap[xb]? = some (.cells #[.int .i64 o.id, .int .i64 o.side, .int .i64 o.kind, .int .i64 o.price, .int .i64 o.qty] 41 (0, 0))) := hx2
  clear r1 r2 hh2 hr2 hx2 d0 d1 d2 d3 d4 d5 d6 x0 x1 c1 f0 f1 f2 f3 f4 f5 f6 q0 q1 q2
  generalize w2.drew = w3 at H2 HO2 HH2 HR2 HX2 ⊢
  have y0 : w3.cell? ⟨w.heap.size, 0, none⟩ = some (.int .i64 k) := blk_cell (j := 0) HH2.out rfl
  have ly : w.heap.size < w3.heap.size := lt_of_block HH2.out
  have z2 : w3.cell? ⟨ab, 2, none⟩ = some vf := blk_cell (j := 2) H2.out.box rfl
  have lz : ab < w3.heap.size := lt_of_block H2.out.box
  have A1 : vf.ownBlock ≠ some ab := owns_type H2.out.free H2.out.box (by decide)
  have A2 : vf.ownBlock ≠ some w.heap.size := owns_type H2.out.free HH2.out (by decide)
  have A3 : vf.ownBlock ≠ some (w.heap.size + 1) := owns_type H2.out.free HR2.out (by decide)
  have A4 : vf.ownBlock ≠ some xb := owns_type H2.out.free HX2.out (by decide)
  have lr : w.heap.size + 1 < w3.heap.size := lt_of_block HR2.out
  have lx : xb < w3.heap.size := lt_of_block HX2.out
  obtain ⟨fo, fc, rfl, _, _⟩ := owns_shape H2.out.free
  have fz : w3.frozen? ⟨ab, 2, none⟩ = false := blk_free H2.out.box
  have fy : (w3.alloc (.cells #[.int .i64 k] 3)).drew.frozen? ⟨ab, 2, none⟩ = false := ((((Below.refl w3.heap.size w3).alloc (Nat.le_refl _) _).drew).frozen (p := ⟨ab, 2, none⟩) lz).trans fz
  go_region_law ((refine step_append_lies _ (by rfl) _ _ _ (by rfl) 0 3 i0 (.int .i64 0) 1 8 Tryz.underlying65 hi hz0 hz1 hz2 rfl (by omega) (.slice fo fr.length fc) fr.length (frV fr) (by rfl) ((H2.out.free.alloc _).drew) ⟨w3.heap.size, 0, none⟩ 1 1 [.int .i64 k] (by rfl) (by rfl) (World.news_of_block (cs := #[.int .i64 k]) (t := 3) (fr := (0, 0)) (heap_alloc_new w3 _)) (by simp [Value.oneCell']) (by omega) (by unfold maxLen; omega) (by omega) (Nat.zero_le _) (w3.heap.size + 1) (by simp) ?_; intro g2 cap2 w4 hown hgrow hat hlt; have hb4 := (hgrow.block ab (by simp; omega) (Ne.symm A1)).trans ((((Below.refl w3.heap.size w3).alloc (Nat.le_refl _) _).drew.block ab lz).trans H2.out.box); have z4 := blk_cell (j := 2) hb4 rfl; have z5 := blk_free (j := 2) hb4))
  all_goals go_upto_region 6 with fail
  all_goals obtain ⟨r1, r2, r3⟩ := H2.out.freed (k := k) (by rw [frV_push]; exact hown) ⟨hgrow.os, hgrow.tape, hgrow.output, hgrow.size, hgrow.block⟩ hat (by omega)
  all_goals have hne : ∀ j, (w.heap.size ≤ j) → ¬ aoB ab (.slice (some ⟨g, 0, none⟩) rs.length cap) (.slice fo fr.length fc) j := fun j hj e => by have := HA.out.lt e; omega
  all_goals have hr5 := blk_out HR2.out r2 (hne _ (by omega))
  all_goals have hx5 := blk_out HX2.out r2 (hne _ (HXB.out))
  all_goals generalize w4.setCell ⟨ab, 2, none⟩ (.slice (some ⟨g2, 0, none⟩) (fr.length + 1) cap2) = w5 at r1 r2 r3 hr5 hx5 ⊢
  all_goals have R1 : Hid _ := r1
  all_goals have R2 : Hid _ := r2
  all_goals have R3 : Hid _ := r3
  all_goals have hnx : xb ≠ w.heap.size + 1 := HXN.out
  all_goals have e0 := blk_cell (j := 0) hx5 rfl
  all_goals have e1 := blk_cell (j := 1) hx5 rfl
  all_goals have e2 := blk_cell (j := 2) hx5 rfl
  all_goals have e3 := blk_cell (j := 3) hx5 rfl
  all_goals have e4 := blk_cell (j := 4) hx5 rfl
  all_goals have u0 := blk_cell (j := 0) hr5 rfl
  all_goals have u1 := blk_cell (j := 1) hr5 rfl
  all_goals have u2 := blk_cell (j := 2) hr5 rfl
  all_goals have u3 := blk_cell (j := 3) hr5 rfl
  all_goals have u4 := blk_cell (j := 4) hr5 rfl
  all_goals have v0 := blk_free (j := 0) hr5
  all_goals have v1 := blk_free (j := 1) hr5
  all_goals have v2 := blk_free (j := 2) hr5
  all_goals have v3 := blk_free (j := 3) hr5
  all_goals have v4 := blk_free (j := 4) hr5
  all_goals clear r1 r2 r3 hr5 hx5 hown hgrow hat hlt hb4 z4 z5 fy fz z2 y0
  all_goals go_wp2
  all_goals refine bodyPost_ret (by simp [results, Tryz.results102, go_sem, u0, u1, u2, u3, u4]; try rfl) rfl ?_
  all_goals have s3 := out_five w5 (w.heap.size + 1) (.int .i64 o.id) (.int .i64 o.side) (.int .i64 o.kind) (.int .i64 o.price) (.int .i64 o.qty)
  all_goals have b0a := Out.of_below (S := aoB ab (.slice (some ⟨g, 0, none⟩) rs.length cap) (.slice fo fr.length fc)) HB1.out (Nat.le_refl _)
  all_goals have b03 := b0a.trans HO2.out (Went.refl _ _)
  all_goals have b05 := b03.trans R2.out (Went.refl _ _)
  all_goals have w05 : Went w (aoB ab (.slice (some ⟨g, 0, none⟩) rs.length cap) (.slice fo fr.length fc)) _ := fun j hj => (R3.out j hj).imp id (fun h4 => Nat.le_trans b03.size h4)
  all_goals refine ⟨rfl, _, R1.out.out s3 (fun j hj e => ?_), b05.trans s3 (fun j hj => Or.inr (by omega)), w05⟩
  all_goals rcases R3.out j hj with h4 | h4
  all_goals first | (have := HA.out.lt h4; omega) | omega
end Go.Proofs.YtjdkagafdnchhaaGreatDoor

/-
  The map of places of the program's book, and the book itself, in memory, over this seat's translation, told by the plain lists of PbSl. Conditions stand in each theorem.
-/
namespace Go.Proofs.YtjdkagafdnchhaaGreatDoor
open Go.RowKit Go.Maps

def plE (k a s : Int) : DataW Unit := .agg [.lit (.int .i64 k), .lit (.int .i64 a), .lit (.int .i64 s)]
/-- what a place reads as -/
def plR (v : Value) : Option (DataW Unit × List MemPlace) :=
  match v with
  | .agg ⟨[.int .i64 k, .int .i64 a, .int .i64 s]⟩ => some (plE k a s, [])
  | _ => none
theorem plR_mk (k a s : Int) : plR (.agg #[.int .i64 k, .int .i64 a, .int .i64 s]) = some (plE k a s, []) := rfl
theorem plR_inv {v : Value} {k a s : Int} {ps : List MemPlace} (h : plR v = some (plE k a s, ps)) : v = .agg #[.int .i64 k, .int .i64 a, .int .i64 s] := by
  unfold plR at h
  split at h
  · simp only [plE, Option.some.injEq, Prod.mk.injEq, DataW.agg.injEq, List.cons.injEq, DataW.lit.injEq, Lit.int.injEq, true_and, and_true] at h
    obtain ⟨⟨rfl, rfl, rfl⟩, _⟩ := h
    rfl
  · cases h
theorem Tryz.keyI : Maps.Keyed Tryz.prog 3 := Maps.int_keyed Tryz.underlying3
theorem Tryz.keyAt {a : Int} (h : (Lit.int .i64 a).wf = true) : keyOf Tryz.prog 3 (.int .i64 a) = some (.int .i64 a) := Maps.keyOf_int_mk Tryz.underlying3 h
theorem Tryz.zeroPl (w : World) : (zeroValue 171).run Tryz.prog w = .ok (.agg #[.int .i64 0, .int .i64 0, .int .i64 0]) w := by kernel_rfl
theorem lit_inj {a b : Int} (h : Lit.int .i64 a = Lit.int .i64 b) : a = b := by injection h
theorem isKey (a : Int) : WideAt.IsKeyLit (.int .i64 a) := trivial

/-- In w block mb is the map of the places of all that lie. -/
def PlMap (w : World) (mb n : Nat) (S : Nat → List Ly) : Prop :=
  ∃ D : DataW Unit, w.ownsMap Tryz.prog 3 plR mb n D ∧ (∀ s, s < 2 → ∀ x ∈ S s, Maps.has D (.int .i64 x.o.id) = true ∧ ∀ z, D.atKey (.int .i64 x.o.id) z = plE x.slot x.age s)
    ∧ ∀ id : Int, (∀ s, s < 2 → ∀ x ∈ S s, x.o.id ≠ id) → Maps.has D (.int .i64 id) = false
theorem own_same {w w' : World} {P : Program} {k : TypeId} {R : Value → Option (DataW Unit × List MemPlace)} {b n : Nat} {D : DataW Unit} (h : w.ownsMap P k R b n D) (hb : w'.heap[b]? = w.heap[b]?) : w'.ownsMap P k R b n D := by
  obtain ⟨es, clock, h1, r⟩ := h
  exact ⟨es, clock, hb.trans h1, r⟩
theorem PlMap.same {w w' : World} {mb n : Nat} {S : Nat → List Ly} (h : PlMap w mb n S) (hb : w'.heap[mb]? = w.heap[mb]?) : PlMap w' mb n S := by
  obtain ⟨D, h1, r⟩ := h
  exact ⟨D, own_same h1 hb, r⟩
theorem PlMap.lt {w : World} {mb n : Nat} {S : Nat → List Ly} (h : PlMap w mb n S) : mb < w.heap.size := by
  obtain ⟨D, h1, r⟩ := h
  exact h1.lt
theorem PlMap.isMap {w : World} {mb n : Nat} {S : Nat → List Ly} (h : PlMap w mb n S) : ∃ es clock, w.heap[mb]? = some (.map es clock) := by
  obtain ⟨D, ⟨es, clock, h1, _⟩, _⟩ := h
  exact ⟨es, clock, h1⟩
theorem PlMap.ne {w : World} {mb n b : Nat} {S : Nat → List Ly} {vs : Array Value} {t : TypeId} {f : Nat × Nat} (h : PlMap w mb n S) (hb : w.heap[b]? = some (.cells vs t f)) : b ≠ mb := fun e => by
  obtain ⟨es, clock, h1⟩ := h.isMap
  rw [e, h1] at hb; cases hb
theorem PlMap.yes {w : World} {mb n s : Nat} {S : Nat → List Ly} {x : Ly} (h : PlMap w mb n S) (hs : s < 2) (hx : x ∈ S s) (hw : (Lit.int .i64 x.o.id).wf = true) :
    (Instr.lookup 153 (.map (some mb)) (.int .i64 x.o.id) true).run Tryz.prog w = .ok (.tuple #[.agg #[.int .i64 x.slot, .int .i64 x.age, .int .i64 s], .bool true]) w := by
  obtain ⟨D, h1, h2, _⟩ := h
  obtain ⟨v, ps, hr, hv⟩ := h1.look_ok Tryz.keyI Tryz.underlying153 (Tryz.zeroPl w) (zd := plE 0 0 0) (zp := []) rfl (Tryz.keyAt hw)
  obtain ⟨h3, h4⟩ := h2 s hs x hx
  rw [h3] at hr
  rw [h4] at hv
  rw [hr, plR_inv hv]
theorem PlMap.no {w : World} {mb n : Nat} {S : Nat → List Ly} {id : Int} (h : PlMap w mb n S) (hx : ∀ s, s < 2 → ∀ x ∈ S s, x.o.id ≠ id) (hw : (Lit.int .i64 id).wf = true) :
    (Instr.lookup 153 (.map (some mb)) (.int .i64 id) true).run Tryz.prog w = .ok (.tuple #[.agg #[.int .i64 0, .int .i64 0, .int .i64 0], .bool false]) w := by
  obtain ⟨D, h1, _, h2⟩ := h
  obtain ⟨v, ps, hr, hv⟩ := h1.look_ok Tryz.keyI Tryz.underlying153 (Tryz.zeroPl w) (zd := plE 0 0 0) (zp := []) rfl (Tryz.keyAt hw)
  have h3 := h2 id hx
  rw [h3] at hr
  rw [Maps.atKey_of_not_has h3] at hv
  rw [hr, plR_inv hv]
theorem turned_out {w w' : World} {mb : Nat} (h : w.mapTurned w' mb) : Out (fun j => j = mb) w w' := Out.of_grown h.grown (fun k hk => by injection hk with hk; exact hk.symm)
/-- one more lies -/
theorem PlMap.put {w : World} {mb n s : Nat} {S S' : Nat → List Ly} {x : Ly} (h : PlMap w mb n S) (hs : s < 2) (hw : (Lit.int .i64 x.o.id).wf = true) (hn : n < 1000000) (hno : ∀ t, t < 2 → ∀ y ∈ S t, y.o.id ≠ x.o.id)
    (hS : ∀ t, t < 2 → ∀ y, y ∈ S' t ↔ ((t = s ∧ y = x) ∨ y ∈ S t)) :
    ∃ w', (Instr.mapUpdate 153 (.map (some mb)) (.int .i64 x.o.id) (.agg #[.int .i64 x.slot, .int .i64 x.age, .int .i64 s])).run Tryz.prog w = .ok () w' ∧ PlMap w' mb (n + 1) S' ∧ Out (fun j => j = mb) w w' := by
  obtain ⟨D, h1, h2, h3⟩ := h
  obtain ⟨w', hr, h4, h5⟩ := h1.store Tryz.keyI Tryz.underlying153 (by unfold maxLen; omega) (Tryz.keyAt hw) (plR_mk x.slot x.age s)
  refine ⟨w', hr, ⟨_, h4, fun t ht y hy => ?_, fun id hid => ?_⟩, turned_out h5⟩
  · rcases (hS t ht y).1 hy with ⟨rfl, rfl⟩ | hy
    · exact ⟨Maps.has_put_same h1.isMap (isKey _) _, fun z => Maps.atKey_put_same h1.isMap (isKey _) _ _⟩
    · have hne : Lit.int .i64 y.o.id ≠ Lit.int .i64 x.o.id := fun e => hno t ht y hy (lit_inj e)
      rw [Maps.has_put_other hne]
      exact ⟨(h2 t ht y hy).1, fun z => by rw [Maps.atKey_put_other hne]; exact (h2 t ht y hy).2 z⟩
  · have hne : Lit.int .i64 id ≠ Lit.int .i64 x.o.id := fun e => hid s hs x ((hS s hs x).2 (Or.inl ⟨rfl, rfl⟩)) (lit_inj e).symm
    rw [Maps.has_put_other hne]
    exact h3 id (fun t ht y hy => hid t ht y ((hS t ht y).2 (Or.inr hy)))
/-- one lies no more -/
theorem PlMap.del {w : World} {mb n : Nat} {S S' : Nat → List Ly} {x : Ly} (h : PlMap w mb n S) (hw : (Lit.int .i64 x.o.id).wf = true)
    (hS : ∀ t, t < 2 → ∀ y, y ∈ S' t ↔ (y ∈ S t ∧ y.o.id ≠ x.o.id)) (ty : TypeId) :
    ∃ w', (Builtin.delete_ #[153, 3] ty #[.map (some mb), .int .i64 x.o.id]).run Tryz.prog w = .ok (.tuple #[]) w' ∧ PlMap w' mb n S' ∧ Out (fun j => j = mb) w w' := by
  obtain ⟨D, h1, h2, h3⟩ := h
  obtain ⟨w', hr, h4, h5⟩ := h1.drop Tryz.keyI Tryz.underlying153 (Tryz.keyAt hw) ty
  refine ⟨w', hr, ⟨_, h4, fun t ht y hy => ?_, fun id hid => ?_⟩, turned_out h5⟩
  · obtain ⟨hy, hne'⟩ := (hS t ht y).1 hy
    have hne : Lit.int .i64 y.o.id ≠ Lit.int .i64 x.o.id := fun e => hne' (lit_inj e)
    rw [Maps.has_del_other hne]
    exact ⟨(h2 t ht y hy).1, fun z => by rw [Maps.atKey_del_other hne]; exact (h2 t ht y hy).2 z⟩
  · by_cases e : id = x.o.id
    · subst e; exact Maps.has_del_same
    · have hne : Lit.int .i64 id ≠ Lit.int .i64 x.o.id := fun e' => e (lit_inj e')
      rw [Maps.has_del_other hne]
      exact h3 id (fun t ht y hy e' => hid t ht y ((hS t ht y).2 ⟨hy, fun e'' => e (e'.symm.trans e'')⟩) e')
/-- some are changed, but not their places -/
theorem PlMap.like {w : World} {mb n : Nat} {S S' : Nat → List Ly} (h : PlMap w mb n S) (h1 : ∀ t, t < 2 → ∀ y ∈ S' t, ∃ z ∈ S t, z.o.id = y.o.id ∧ z.slot = y.slot ∧ z.age = y.age) (h2 : ∀ t, t < 2 → ∀ z ∈ S t, ∃ y ∈ S' t, y.o.id = z.o.id) : PlMap w mb n S' := by
  obtain ⟨D, a, b, c⟩ := h
  refine ⟨D, a, fun t ht y hy => ?_, fun id hid => c id (fun t ht z hz => ?_)⟩
  · obtain ⟨z, hz, e1, e2, e3⟩ := h1 t ht y hy
    rw [← e1, ← e2, ← e3]; exact b t ht z hz
  · obtain ⟨y, hy, e⟩ := h2 t ht z hz
    rw [← e]; exact hid t ht y hy

/-- In w block bb is the program's book. -/
structure BookAt (w : World) (bb ab mb n : Nat) (vs vf v0 v1 : Value) (rs : List Sot) (fr : List Nat) (S : Nat → List Ly) : Prop where
  box : w.heap[bb]? = some (.cells #[.pointer (some ⟨ab, 0, none⟩), .map (some mb), v0, v1] 157 (0, 0))
  ar : ArOr w ab 100 vs vf rs fr
  map : PlMap w mb n S
  row0 : w.ownsRow 0 169 2 v0 (S 0).length (hV (S 0))
  row1 : w.ownsRow 0 169 2 v1 (S 1).length (hV (S 1))
  apart : ∀ k, v0.ownBlock = some k → v1.ownBlock ≠ some k
/-- its blocks -/
def pbB (bb ab mb : Nat) (vs vf v0 v1 : Value) (k : Nat) : Prop := k = bb ∨ aoB ab vs vf k ∨ k = mb ∨ v0.ownBlock = some k ∨ v1.ownBlock = some k
section
variable {w w' : World} {bb ab mb n : Nat} {vs vf v0 v1 : Value} {rs : List Sot} {fr : List Nat} {S : Nat → List Ly}
theorem BookAt.lt (h : BookAt w bb ab mb n vs vf v0 v1 rs fr S) {k : Nat} (hk : pbB bb ab mb vs vf v0 v1 k) : k < w.heap.size := by
  rcases hk with rfl | hk | rfl | hk | hk
  · exact lt_of_block h.box
  · exact h.ar.lt hk
  · exact h.map.lt
  · exact (h.row0.lt k hk).2
  · exact (h.row1.lt k hk).2
theorem BookAt.out {T : Nat → Prop} (h : BookAt w bb ab mb n vs vf v0 v1 rs fr S) (ho : Out T w w') (hT : ∀ k, pbB bb ab mb vs vf v0 v1 k → ¬ T k) : BookAt w' bb ab mb n vs vf v0 v1 rs fr S :=
  ⟨blk_out h.box ho (hT bb (Or.inl rfl)), h.ar.out ho (fun k hk => hT k (Or.inr (Or.inl hk))), h.map.same (ho.block mb h.map.lt (hT mb (Or.inr (Or.inr (Or.inl rfl))))),
    owns_out h.row0 ho (fun k hk => hT k (Or.inr (Or.inr (Or.inr (Or.inl hk))))), owns_out h.row1 ho (fun k hk => hT k (Or.inr (Or.inr (Or.inr (Or.inr hk))))), h.apart⟩
theorem BookAt.below {B : Nat} (h : BookAt w bb ab mb n vs vf v0 v1 rs fr S) (hb : Below B w w') (hB : w.heap.size ≤ B) : BookAt w' bb ab mb n vs vf v0 v1 rs fr S :=
  h.out (T := fun _ => False) (Out.of_below hb hB) (fun _ _ e => e)
/-- at any change whatever above the book's blocks -/
theorem BookAt.above {B : Nat} (h : BookAt w bb ab mb n vs vf v0 v1 rs fr S) (hb : Below B w w') (hB : ∀ k, pbB bb ab mb vs vf v0 v1 k → k < B) : BookAt w' bb ab mb n vs vf v0 v1 rs fr S :=
  h.out (T := fun k => B ≤ k) ⟨hb.os, hb.tape, hb.output, hb.size, fun k hk hT => hb.block k (by omega)⟩ (fun k hk e => by have := hB k hk; omega)
/-- the box is none of the arena's blocks -/
theorem BookAt.notBox (h : BookAt w bb ab mb n vs vf v0 v1 rs fr S) : ¬ aoB ab vs vf bb := fun e => by
  rcases e with e | e | e
  · exact blk_ne h.box h.ar.box (by decide) e
  · exact owns_type h.ar.slots h.box (by decide) e
  · exact owns_type h.ar.free h.box (by decide) e
/-- nor is a side's row -/
theorem BookAt.notRow0 (h : BookAt w bb ab mb n vs vf v0 v1 rs fr S) {k : Nat} (hk : v0.ownBlock = some k) : ¬ aoB ab vs vf k := fun e => by
  rcases e with e | e | e
  · exact owns_type h.row0 (e ▸ h.ar.box) (by decide) hk
  · exact owns_types h.row0 h.ar.slots (by decide) hk e
  · exact owns_types h.row0 h.ar.free (by decide) hk e
theorem BookAt.notRow1 (h : BookAt w bb ab mb n vs vf v0 v1 rs fr S) {k : Nat} (hk : v1.ownBlock = some k) : ¬ aoB ab vs vf k := fun e => by
  rcases e with e | e | e
  · exact owns_type h.row1 (e ▸ h.ar.box) (by decide) hk
  · exact owns_types h.row1 h.ar.slots (by decide) hk e
  · exact owns_types h.row1 h.ar.free (by decide) hk e
theorem owns_notMap {base : Nat} {e : TypeId} {size : Nat} {v : Value} {k : Nat} {xs : List Value} (h : w.ownsRow base e size v k xs) (hm : PlMap w mb n S) : v.ownBlock ≠ some mb := fun hv => by
  rcases h.2 with ⟨rfl, _⟩ | ⟨g, cap, cur, rfl, _, hh, _⟩
  · cases hv
  · simp [Value.ownBlock] at hv; subst hv; exact hm.ne hh rfl
theorem BookAt.notMap (h : BookAt w bb ab mb n vs vf v0 v1 rs fr S) : ¬ aoB ab vs vf mb := fun e => by
  rcases e with e | e | e
  · exact h.map.ne h.ar.box e.symm
  · exact owns_notMap h.ar.slots h.map e
  · exact owns_notMap h.ar.free h.map e
/-- the arena has moved: all else is as it was -/
theorem BookAt.newAr {vs' vf' : Value} {rs' : List Sot} {fr' : List Nat} (h : BookAt w bb ab mb n vs vf v0 v1 rs fr S) (ho : Out (aoB ab vs vf) w w') (ha : ArOr w' ab 100 vs' vf' rs' fr') : BookAt w' bb ab mb n vs' vf' v0 v1 rs' fr' S :=
  ⟨blk_out h.box ho h.notBox, ha, h.map.same (ho.block mb h.map.lt h.notMap), owns_out h.row0 ho (fun _ hk => h.notRow0 hk), owns_out h.row1 ho (fun _ hk => h.notRow1 hk), h.apart⟩
/-- a side's row, by its number -/
def vAt (v0 v1 : Value) (s : Nat) : Value := if s = 0 then v0 else v1
theorem BookAt.row (h : BookAt w bb ab mb n vs vf v0 v1 rs fr S) {s : Nat} (hs : s < 2) : w.ownsRow 0 169 2 (vAt v0 v1 s) (S s).length (hV (S s)) ∧ w.cell? ⟨bb, 2 + s, none⟩ = some (vAt v0 v1 s) ∧ w.frozen? ⟨bb, 2 + s, none⟩ = false := by
  match s, hs with
  | 0, _ => exact ⟨h.row0, blk_cell (j := 2) h.box rfl, blk_free h.box⟩
  | 1, _ => exact ⟨h.row1, blk_cell (j := 3) h.box rfl, blk_free h.box⟩
end
end Go.Proofs.YtjdkagafdnchhaaGreatDoor

/-
  The iterator over a side of the program's book (the closure that lying hands back), over this seat's translation: it hands over the side's orders one by one, for every loop body that keeps the book. Conditions stand in each theorem.
-/
namespace Go.Proofs.YtjdkagafdnchhaaGreatDoor
open Go.RowKit Go.Shelf

attribute [local go_sem] Oper.semAt_some
attribute [local go_sem ↓] Go.wp_at_zero Go.wp_at_succ

/-- what a round that goes on keeps: all below m, and the box of the receiver -/
structure KpL (m Bb : Nat) (W W' : World) : Prop where
  below : Below m W W'
  box : ∀ vs t, W.heap[Bb]? = some (.cells vs t (0, 0)) → W'.heap[Bb]? = some (.cells vs t (0, 0))
theorem KpL.refl (m Bb : Nat) (W : World) : KpL m Bb W W := ⟨Below.refl _ _, fun _ _ h => h⟩
theorem KpL.trans {m Bb : Nat} {A B C : World} (h : KpL m Bb A B) (k : KpL m Bb B C) : KpL m Bb A C := ⟨h.below.trans k.below, fun vs t e => k.box vs t (h.box vs t e)⟩
theorem kpl_t {m Bb : Nat} {A B C : World} (h : KpL m Bb A B) (k : KpL m Bb B C) : KpL m Bb A C := h.trans k
theorem kpl_b {m Bb : Nat} {w : World} (hm : m ≤ w.heap.size) (W : World) (l : Nat) (o o' : Obj) (hl : w.heap.size ≤ l) (h : W.heap[l]? = some o) (hc : o.isCells = false) (hw : o.isWalk = false) : KpL m Bb W (W.putObj l o') :=
  ⟨belowK_b hm W l o o' hl h hc hw, fun vs t e => by
    have hne : l ≠ Bb := fun e' => by subst e'; rw [e] at h; injection h with h; subst h; cases hc
    exact (World.putObj_heap_other (Ne.symm hne)).trans e⟩
theorem KpL.of_below {m Bb : Nat} {W W' : World} (h : Below W.heap.size W W') (hm : m ≤ W.heap.size) : KpL m Bb W W' := ⟨h.mono hm, fun _ _ e => blk_below e h (Nat.le_refl _)⟩
theorem grown_of_below {W W' : World} (h : Below W.heap.size W W') : W.grownBy W' none := ⟨h.os, h.tape, h.output, h.size, fun k hk _ => h.block k hk⟩

theorem bel_more {w w1 w2 : World} {n : Nat} (h : Below n w w1) (h1 : Below w1.heap.size w1 w2) (hn : n ≤ w1.heap.size) : Below n w w2 := h.trans (h1.mono hn)
theorem take_snoc {l : List Ly} {k : Nat} (h : k < l.length) : (l.take (k + 1)).map Ly.o = (l.take k).map Ly.o ++ [(lyAt l k).o] := by
  rw [List.take_succ_eq_append_getElem h, List.map_append, lyAt_eq h]; rfl

set_option maxRecDepth 100000 in
set_option maxHeartbeats 4000000 in
theorem lyIt (n : Nat) (hn : 1 ≤ n) (l Bb Bs m bb ab mb nn s : Nat) (vs vf v0 v1 : Value) (rs : List Sot) (fr : List Nat) (S : Nat → List Ly) (J Jx : List Ord → World → Prop) (hs : s < 2) (hlen : (S s).length ≤ 1000)
    (hth : ∀ x ∈ S s, soAt rs x.slot = (some x.o, x.age)) (hm : ∀ k, pbB bb ab mb vs vf v0 v1 k → k < m)
    (W : World) (hmW : m ≤ W.heap.size) (hB : BookAt W bb ab mb nn vs vf v0 v1 rs fr S) (hbb : W.heap[Bb]? = some (.cells #[.pointer (some ⟨bb, 0, none⟩)] 94 (0, 0))) (hbs : W.cell? ⟨Bs, 0, none⟩ = some (.int .i64 s))
    (hJ : AbidesFrom W.heap.size J)
    (hY : ∀ pre x W, J pre W → pre.length < (S s).length → YieldAt Fence.wide (n - 1) Tryz.prog l #[Ord.agg x] W fun e W' =>
      (e = .returned (.bool true) ∧ J (pre ++ [x]) W' ∧ KpL m Bb W W') ∨ (e = .returned (.bool false) ∧ Jx (pre ++ [x]) W'))
    (h0 : J [] W) :
    CallsIn Fence.wide n Tryz.prog 162 #[.func (.yield l) #[] #[], .pointer (some ⟨Bb, 0, none⟩), .pointer (some ⟨Bs, 0, none⟩)] W fun e W' => (∃ v, e = .returned v) ∧
      ((∃ ys, ys = (S s).map Ly.o ∧ J ys W') ∨ (∃ pre, pre <+: (S s).map Ly.o ∧ Jx pre W')) := by
  obtain ⟨hrow, hc, _⟩ := hB.row hs
  have HBK : Hid (BookAt W bb ab mb nn vs vf v0 v1 rs fr S) := hB
  have HM : Hid (∀ k, pbB bb ab mb vs vf v0 v1 k → k < m) := hm
  have HTH : Hid (∀ x ∈ S s, soAt rs x.slot = (some x.o, x.age)) := hth
  have HJ : Hid (AbidesFrom W.heap.size J) := hJ
  have HY : Hid _ := hY
  have HBB : Hid (W.heap[Bb]? = some (.cells #[.pointer (some ⟨bb, 0, none⟩)] 94 (0, 0))) := hbb
  have cb := blk_cell (j := 0) hbb rfl
  have HROW : Hid _ := hrow
  obtain ⟨ao, cap, hv, _, _⟩ := owns_shape hrow
  rw [hv] at hc HROW
  have q1 : (0 : Int) ≤ (s : Int) := by omega
  have q2 : (s : Int) < 2 := by omega
  clear hB hm hth hJ hY hbb hrow
  refine callsIn_of_wp Tryz.func162 rfl trivial ?_ rfl
  simp only [Tryz.ntmps162, List.size_toArray, List.length_cons, List.length_nil, Nat.reduceAdd, Nat.reduceSub, Array.replicate_succ, Array.replicate_zero, List.push_toArray, List.append_toArray, List.nil_append, List.cons_append]
  gi_wp2_with fail
  refine wpIn_wide.2 ?_
  go_quiet (fail)
  have HJ0 : Hid (J ((([] : List Ly)).map Ly.o) (W.drewN nq)) := HJ.out [] W _ none h0 (grown_of_below (below_drewN (Below.refl _ _) nq)) (fun r e => by cases e)
  have HK0 : Hid (KpL m Bb W (W.drewN nq)) := KpL.of_below (below_drewN (Below.refl _ _) nq) hmW
  generalize W.drewN nq = Wd at HJ0 HK0 ⊢
  clear h0 hbs hc cb
  gi_wp2_with fail
  gi_loopw [15] (fun i wr => ∃ k : Nat, k ≤ (S s).length ∧ i = .int .i64 k ∧ J (((S s).take k).map Ly.o) wr ∧ KpL m Bb W wr)
    (fun i _ => (S s).length - (intOf i).toNat)
  case atStart => exact ⟨0, Nat.zero_le _, rfl, HJ0.out, HK0.out⟩
  case round =>
    obtain ⟨k, hk, rfl, hJs, hkp⟩ := hrel
    have HJS : Hid (J (((S s).take k).map Ly.o) wr) := hJs
    have HKP : Hid (KpL m Bb W wr) := hkp
    have hmr : m ≤ wr.heap.size := Nat.le_trans hmW hkp.below.size
    clear hJs hkp
    by_cases hlt : k < (S s).length
    · have HBR : Hid (BookAt wr bb ab mb nn vs vf v0 v1 rs fr S) := HBK.out.above HKP.out.below HM.out
      have hrr := (HBR.out.row hs).1
      rw [hv] at hrr
      obtain ⟨g, cap', hv', _, _⟩ := hrr.form (by omega)
      simp only [Value.slice.injEq, true_and] at hv'
      obtain ⟨rfl, rfl⟩ := hv'
      have c0 := (hrr.cellAt (k * 2) (by omega)).trans (hV_at hlt).1
      have c1 := (hrr.cellAt (k * 2 + 1) (by omega)).trans (hV_at hlt).2
      have hth := HTH.out _ (lyAt_mem hlt)
      have HO : Hid _ := hth
      generalize hx : lyAt (S s) k = x at c0 c1 hth HO
      have HX : Hid (lyAt (S s) k = x) := hx
      clear hrr hx hth
      gi_wp2_with fail
      refine wpIn_wide.2 ?_
      have hbh := bel1 wr (.cells #[.int .i64 x.slot, .int .i64 x.age] 169)
      have hhh := heap_alloc_new wr (.cells #[.int .i64 x.slot, .int .i64 x.age] 169)
      generalize wr.alloc (.cells #[.int .i64 x.slot, .int .i64 x.age] 169) = wh at hbh hhh ⊢
      generalize wr.heap.size = hb0 at hhh ⊢
      have HBH : Hid (Below wr.heap.size wr wh) := hbh
      have HBW : Hid (BookAt wh bb ab mb nn vs vf v0 v1 rs fr S) := HBR.out.below hbh (Nat.le_refl _)
      have hBb := blk_below (HKP.out.box _ _ HBB.out) hbh (Nat.le_refl _)
      have e0 : wh.cell? ⟨Bb, 0, none⟩ = some (.pointer (some ⟨bb, 0, none⟩)) := blk_cell (j := 0) hBb rfl
      have e1 : wh.cell? ⟨bb, 0, none⟩ = some (.pointer (some ⟨ab, 0, none⟩)) := blk_cell (j := 0) HBW.out.box rfl
      have e2 : wh.cell? ⟨hb0, 0, none⟩ = some (.int .i64 x.slot) := blk_cell (j := 0) hhh rfl
      have e3 : wh.cell? ⟨hb0, 1, none⟩ = some (.int .i64 x.age) := blk_cell (j := 1) hhh rfl
      have HS : Hid (∀ w', Below wh.heap.size wh w' → (w'.cell? ⟨Bb, 0, none⟩ = some (.pointer (some ⟨bb, 0, none⟩)) ∧ w'.cell? ⟨bb, 0, none⟩ = some (.pointer (some ⟨ab, 0, none⟩)) ∧ w'.cell? ⟨hb0, 0, none⟩ = some (.int .i64 x.slot) ∧ w'.cell? ⟨hb0, 1, none⟩ = some (.int .i64 x.age) ∧ Below wh.heap.size wh w')) :=
        fun w' h => ⟨cell_later h e0, cell_later h e1, cell_later h e2, cell_later h e3, h⟩
      clear hbh hhh hBb e0 e1 e2 e3 c0 c1
      have hs0 := HS.out wh (Below.refl _ _)
      go_region_held3 (fun w' => w'.cell? ⟨Bb, 0, none⟩ = some (.pointer (some ⟨bb, 0, none⟩)) ∧ w'.cell? ⟨bb, 0, none⟩ = some (.pointer (some ⟨ab, 0, none⟩)) ∧ w'.cell? ⟨hb0, 0, none⟩ = some (.int .i64 x.slot) ∧ w'.cell? ⟨hb0, 1, none⟩ = some (.int .i64 x.age) ∧ Below wh.heap.size wh w')
        ((refine HS.out _ ?_; (repeat' first | assumption | exact Below.refl _ _ | exact Nat.le_refl _ | refine Below.drew ?_ | refine Below.alloc ?_ ?_ _ | refine bel_then ?_ hb1 | refine Below.setCell ?_ ?_ _ | (simp; done) | (simp; omega) | (have h9 := hb1.size; simp at h9 ⊢; omega))))
        (first | (go_at_call 152; refine (oaGet ab 100 vs vf rs fr x.slot x.o x.age _ (HBW.out.ar.below (B := wh.heap.size) ?_ (Nat.le_refl _)) HO.out).mono ?_; (repeat' first | assumption | exact Below.refl _ _ | exact Nat.le_refl _ | refine Below.drew ?_ | refine Below.alloc ?_ ?_ _ | refine bel_then ?_ hb1 | refine Below.setCell ?_ ?_ _ | (simp; done) | (simp; omega) | (have h9 := hb1.size; simp at h9 ⊢; omega)); rintro e w1 ⟨hb1, rfl⟩; unfold Ord.agg; try (have hxb := (hb1.block wh.heap.size (by simp)).trans (heap_alloc_new wh _); have y0 := blk_cell (j := 0) hxb rfl; have y1 := blk_cell (j := 1) hxb rfl; have y2 := blk_cell (j := 2) hxb rfl; have y3 := blk_cell (j := 3) hxb rfl; have y4 := blk_cell (j := 4) hxb rfl; have z0 := blk_free (j := 0) hxb; have z1 := blk_free (j := 1) hxb; have z2 := blk_free (j := 2) hxb; have z3 := blk_free (j := 3) hxb; have z4 := blk_free (j := 4) hxb)))
      rotate_right
      · have hz := blk_set (j := 4) (.int .i64 x.o.qty) (blk_set (j := 3) (.int .i64 x.o.price) (blk_set (j := 2) (.int .i64 x.o.kind) (blk_set (j := 1) (.int .i64 x.o.side) (blk_set (j := 0) (.int .i64 x.o.id) hxb))))
        replace hz : (((((w1.setCell ⟨wh.heap.size, 0, none⟩ (.int .i64 x.o.id)).setCell ⟨wh.heap.size, 1, none⟩ (.int .i64 x.o.side)).setCell ⟨wh.heap.size, 2, none⟩ (.int .i64 x.o.kind)).setCell ⟨wh.heap.size, 3, none⟩ (.int .i64 x.o.price)).setCell ⟨wh.heap.size, 4, none⟩ (.int .i64 x.o.qty)).heap[wh.heap.size]? = some (.cells #[.int .i64 x.o.id, .int .i64 x.o.side, .int .i64 x.o.kind, .int .i64 x.o.price, .int .i64 x.o.qty] 41 (0, 0)) := hz
        have hbz : Below wr.heap.size wr (((((w1.setCell ⟨wh.heap.size, 0, none⟩ (.int .i64 x.o.id)).setCell ⟨wh.heap.size, 1, none⟩ (.int .i64 x.o.side)).setCell ⟨wh.heap.size, 2, none⟩ (.int .i64 x.o.kind)).setCell ⟨wh.heap.size, 3, none⟩ (.int .i64 x.o.price)).setCell ⟨wh.heap.size, 4, none⟩ (.int .i64 x.o.qty)) := by
          refine bel_then HBH.out ?_
          have h9 := hb1.size
          have h8 : Below wh.heap.size wh w1 := bel_then (bel1 wh _).drew hb1
          exact ((((h8.setCell (p := ⟨wh.heap.size, 0, none⟩) (Nat.le_refl _) _).setCell (p := ⟨wh.heap.size, 1, none⟩) (Nat.le_refl _) _).setCell (p := ⟨wh.heap.size, 2, none⟩) (Nat.le_refl _) _).setCell (p := ⟨wh.heap.size, 3, none⟩) (Nat.le_refl _) _).setCell (p := ⟨wh.heap.size, 4, none⟩) (Nat.le_refl _) _
        generalize ((((w1.setCell ⟨wh.heap.size, 0, none⟩ (.int .i64 x.o.id)).setCell ⟨wh.heap.size, 1, none⟩ (.int .i64 x.o.side)).setCell ⟨wh.heap.size, 2, none⟩ (.int .i64 x.o.kind)).setCell ⟨wh.heap.size, 3, none⟩ (.int .i64 x.o.price)).setCell ⟨wh.heap.size, 4, none⟩ (.int .i64 x.o.qty) = wz at hz hbz ⊢
        generalize wh.heap.size = xb at hz ⊢
        have x0 := blk_cell (j := 0) hz rfl
        have x1 := blk_cell (j := 1) hz rfl
        have x2 := blk_cell (j := 2) hz rfl
        have x3 := blk_cell (j := 3) hz rfl
        have x4 := blk_cell (j := 4) hz rfl
        obtain ⟨fn, tmps, assign, body, hy, hR⟩ := HY.out _ x.o wz (HJ.out _ wr wz none HJS.out (grown_of_below hbz) (fun r e => by cases e)) (by simp; omega)
        unfold Ord.agg at hy
        have HBZ : Hid (Below wr.heap.size wr wz) := hbz
        clear hbz hz hs0
        gi_wp2
        refine hR.mono ?_
        rintro e W3 (⟨rfl, hJ3, hk3⟩ | ⟨rfl, hJx3⟩)
        · have HJ3 : Hid _ := hJ3
          have HK3 : Hid _ := hk3
          clear hJ3 hk3 hy hR x0 x1 x2 x3 x4
          gi_wp2
          go_roundw
          case rel => exact ⟨k + 1, by omega, by simp, by rw [take_snoc hlt, HX.out]; exact HJ3.out, (HKP.out.trans (KpL.of_below HBZ.out hmr)).trans HK3.out⟩
          case measure => simp [intOf]; omega
        · have HJ3 : Hid _ := hJx3
          clear hJx3 hy hR x0 x1 x2 x3 x4
          gi_wp2
          refine bodyPost_ret (results_none rfl _ _ _) rfl ?_
          refine ⟨⟨_, rfl⟩, .inr ⟨_, ?_, HJ3.out⟩⟩
          rw [← HX.out, ← take_snoc hlt]
          exact (List.take_prefix _ _).map _
      · have hz := heap_alloc_new w1 (.cells #[.int .i64 x.o.id, .int .i64 x.o.side, .int .i64 x.o.kind, .int .i64 x.o.price, .int .i64 x.o.qty] 41)
        have hbz : Below wr.heap.size wr (w1.alloc (.cells #[.int .i64 x.o.id, .int .i64 x.o.side, .int .i64 x.o.kind, .int .i64 x.o.price, .int .i64 x.o.qty] 41)) := bel_then HBH.out (bel_then (w1 := w1) (bel_then (w := wh) (w1 := wh.drew) (Below.refl _ _).drew hb1) (bel1 _ _))
        generalize w1.alloc (.cells #[.int .i64 x.o.id, .int .i64 x.o.side, .int .i64 x.o.kind, .int .i64 x.o.price, .int .i64 x.o.qty] 41) = wz at hz hbz ⊢
        generalize w1.heap.size = xb at hz ⊢
        have x0 := blk_cell (j := 0) hz rfl
        have x1 := blk_cell (j := 1) hz rfl
        have x2 := blk_cell (j := 2) hz rfl
        have x3 := blk_cell (j := 3) hz rfl
        have x4 := blk_cell (j := 4) hz rfl
        obtain ⟨fn, tmps, assign, body, hy, hR⟩ := HY.out _ x.o wz (HJ.out _ wr wz none HJS.out (grown_of_below hbz) (fun r e => by cases e)) (by simp; omega)
        unfold Ord.agg at hy
        have HBZ : Hid (Below wr.heap.size wr wz) := hbz
        clear hbz hz hs0
        gi_wp2
        refine hR.mono ?_
        rintro e W3 (⟨rfl, hJ3, hk3⟩ | ⟨rfl, hJx3⟩)
        · have HJ3 : Hid _ := hJ3
          have HK3 : Hid _ := hk3
          clear hJ3 hk3 hy hR x0 x1 x2 x3 x4
          gi_wp2
          go_roundw
          case rel => exact ⟨k + 1, by omega, by simp, by rw [take_snoc hlt, HX.out]; exact HJ3.out, (HKP.out.trans (KpL.of_below HBZ.out hmr)).trans HK3.out⟩
          case measure => simp [intOf]; omega
        · have HJ3 : Hid _ := hJx3
          clear hJx3 hy hR x0 x1 x2 x3 x4
          gi_wp2
          refine bodyPost_ret (results_none rfl _ _ _) rfl ?_
          refine ⟨⟨_, rfl⟩, .inr ⟨_, ?_, HJ3.out⟩⟩
          rw [← HX.out, ← take_snoc hlt]
          exact (List.take_prefix _ _).map _
    · obtain rfl : k = (S s).length := by omega
      gi_wp2_with fail
      go_end0
      refine ⟨⟨_, rfl⟩, .inl ⟨_, rfl, ?_⟩⟩
      have := HJS.out
      rwa [List.take_length] at this

/-- **the iterator that lying hands back** -/
theorem lySeq (n : Nat) (hn : 1 ≤ n) (Bb Bs m bb ab mb nn s : Nat) (vs vf v0 v1 : Value) (rs : List Sot) (fr : List Nat) (S : Nat → List Ly) (hs : s < 2) (hlen : (S s).length ≤ 1000)
    (hth : ∀ x ∈ S s, soAt rs x.slot = (some x.o, x.age)) (hm : ∀ k, pbB bb ab mb vs vf v0 v1 k → k < m)
    (w : World) (hmW : m ≤ w.heap.size) (hB : BookAt w bb ab mb nn vs vf v0 v1 rs fr S) (hbb : w.heap[Bb]? = some (.cells #[.pointer (some ⟨bb, 0, none⟩)] 94 (0, 0))) (hbs : w.heap[Bs]? = some (.cells #[.int .i64 s] 3 (0, 0))) :
    SeqStopsK Fence.wide n Tryz.prog 162 #[.pointer (some ⟨Bb, 0, none⟩), .pointer (some ⟨Bs, 0, none⟩)] (fun x : Ord => #[Ord.agg x]) (KpL m Bb) (fun ys => ys = (S s).map Ly.o) (fun pre => pre <+: (S s).map Ly.o) (S s).length w :=
  fun l J Jx W hW hJ _ hY h0 => lyIt n hn l Bb Bs m bb ab mb nn s vs vf v0 v1 rs fr S J Jx hs hlen hth hm W (Nat.le_trans hmW hW.size) (hB.below hW (Nat.le_refl _)) (blk_below hbb hW (Nat.le_refl _)) (blk_cell (j := 0) (blk_below hbs hW (Nat.le_refl _)) rfl) hJ hY h0

set_option maxHeartbeats 1000000 in
theorem lying_any (bb : Nat) (s : Int) (w : World) : Calls Tryz.prog 112 #[.pointer (some ⟨bb, 0, none⟩), .int .i64 s] w fun e w' => e = .returned (.func (.func 162) #[] #[.pointer (some ⟨w.heap.size, 0, none⟩), .pointer (some ⟨w.heap.size + 1, 0, none⟩)])
    ∧ w' = (w.alloc (.cells #[.pointer (some ⟨bb, 0, none⟩)] 94)).alloc (.cells #[.int .i64 s] 3) := by
  go_enter Tryz.func112, Tryz.ntmps112
  go_wp2
  go_ret
  exact ⟨rfl, rfl⟩
set_option maxHeartbeats 1000000 in
theorem isSide_any (s : Int) (w : World) : Calls Tryz.prog 110 #[.int .i64 s] w fun e w' => e = .returned (.bool (s == 1 || s == 2)) ∧ w' = w := by
  cases h1 : (s == 1) with
  | true =>
    go_enter Tryz.func110, Tryz.ntmps110
    go_wp2
    go_ret
    exact ⟨rfl, rfl⟩
  | false =>
    cases h2 : (s == 2) with
    | true =>
      go_enter Tryz.func110, Tryz.ntmps110
      go_wp2
      go_ret
      exact ⟨rfl, rfl⟩
    | false =>
      go_enter Tryz.func110, Tryz.ntmps110
      go_wp2
      go_ret
      exact ⟨rfl, rfl⟩
end Go.Proofs.YtjdkagafdnchhaaGreatDoor
