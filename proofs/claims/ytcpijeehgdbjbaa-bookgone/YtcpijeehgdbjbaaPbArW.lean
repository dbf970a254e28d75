/-
  What an arena of orders does at Set, room and Put, over this seat's translation, told by the plain lists of PbSl. Conditions stand in each theorem.
-/
import Derived.Test.YtcpijeehgdbjbaaPbAr
namespace Go.Proofs.Ytcpijeehgdbjbaa
open Go.RowKit

/-- a cell of the row of slots is written: the box and the free ones stay -/
theorem raw_store {w : World} {ab g n cap : Nat} {most : Int} {vf : Value} {xs : List Value} {fr : List Nat} (hb : w.heap[ab]? = some (.cells #[.int .i64 most, .slice (some ⟨g, 0, none⟩) n cap, vf] 96 (0, 0)))
    (hs : w.ownsRow 0 99 7 (.slice (some ⟨g, 0, none⟩) n cap) n xs) (hf : w.ownsRow 0 3 1 vf fr.length (frV fr)) (j : Nat) (u : Value) :
    (w.setCell ⟨g, j, none⟩ u).heap[ab]? = some (.cells #[.int .i64 most, .slice (some ⟨g, 0, none⟩) n cap, vf] 96 (0, 0))
    ∧ (w.setCell ⟨g, j, none⟩ u).ownsRow 0 99 7 (.slice (some ⟨g, 0, none⟩) n cap) n (xs.set j u) ∧ (w.setCell ⟨g, j, none⟩ u).ownsRow 0 3 1 vf fr.length (frV fr) ∧ Out (fun k => k = g) w (w.setCell ⟨g, j, none⟩ u) := by
  have hne : ab ≠ g := fun e => owns_type hs hb (by decide) (by rw [e]; rfl)
  obtain ⟨h1, h2⟩ := hs.stored j u
  exact ⟨(Below.heap_setCell _ _ _ _ hne).trans hb, h1, ownsRow_setCell_other (a := ⟨g, j, none⟩) hf (owns_types hs hf (by decide) rfl) u, Out.of_grown h2 (fun k hk => by injection hk with hk; exact hk.symm)⟩
theorem ArOr.raw {w : World} {ab g n cap : Nat} {most : Int} {vf : Value} {xs : List Value} {fr : List Nat} (hb : w.heap[ab]? = some (.cells #[.int .i64 most, .slice (some ⟨g, 0, none⟩) n cap, vf] 96 (0, 0)))
    (hs : w.ownsRow 0 99 7 (.slice (some ⟨g, 0, none⟩) n cap) n xs) (hf : w.ownsRow 0 3 1 vf fr.length (frV fr)) (j : Nat) (u0 u1 u2 u3 u4 : Value) :
    let w5 := ((((w.setCell ⟨g, j, none⟩ u0).setCell ⟨g, j + 1, none⟩ u1).setCell ⟨g, j + 2, none⟩ u2).setCell ⟨g, j + 3, none⟩ u3).setCell ⟨g, j + 4, none⟩ u4
    w5.heap[ab]? = some (.cells #[.int .i64 most, .slice (some ⟨g, 0, none⟩) n cap, vf] 96 (0, 0))
    ∧ w5.ownsRow 0 99 7 (.slice (some ⟨g, 0, none⟩) n cap) n (((((xs.set j u0).set (j + 1) u1).set (j + 2) u2).set (j + 3) u3).set (j + 4) u4) ∧ w5.ownsRow 0 3 1 vf fr.length (frV fr) ∧ Out (fun k => k = g) w w5 := by
  obtain ⟨a1, a2, a3, a4⟩ := raw_store hb hs hf j u0
  obtain ⟨b1, b2, b3, b4⟩ := raw_store a1 a2 a3 (j + 1) u1
  obtain ⟨c1, c2, c3, c4⟩ := raw_store b1 b2 b3 (j + 2) u2
  obtain ⟨d1, d2, d3, d4⟩ := raw_store c1 c2 c3 (j + 3) u3
  obtain ⟨e1, e2, e3, e4⟩ := raw_store d1 d2 d3 (j + 4) u4
  exact ⟨e1, e2, e3, (((a4.trans b4 (Went.refl _ _)).trans c4 (Went.refl _ _)).trans d4 (Went.refl _ _)).trans e4 (Went.refl _ _)⟩
theorem five_ne {l : List Value} {k j : Nat} {v u0 u1 u2 u3 u4 : Value} (h : l[j]? = some v) (hj : k + 4 < j) : (((((l.set k u0).set (k + 1) u1).set (k + 2) u2).set (k + 3) u3).set (k + 4) u4)[j]? = some v := by
  rw [List.getElem?_set_ne (by omega), List.getElem?_set_ne (by omega), List.getElem?_set_ne (by omega), List.getElem?_set_ne (by omega), List.getElem?_set_ne (by omega)]
  exact h
theorem soV_put {rs : List Sot} {k : Nat} {o : Ord} (hk : k < rs.length) :
    ((((((soV rs).set (k * 7) (.int .i64 o.id)).set (k * 7 + 1) (.int .i64 o.side)).set (k * 7 + 2) (.int .i64 o.kind)).set (k * 7 + 3) (.int .i64 o.price)).set (k * 7 + 4) (.int .i64 o.qty)).set (k * 7 + 6) (.bool true) = soV (rs.set k (some o, (soAt rs k).2)) := by
  have e : ((((((((soV rs).set (k * 7) (.int .i64 o.id)).set (k * 7 + 1) (.int .i64 o.side)).set (k * 7 + 2) (.int .i64 o.kind)).set (k * 7 + 3) (.int .i64 o.price)).set (k * 7 + 4) (.int .i64 o.qty)).set (k * 7 + 5) (.int .i64 (soAt rs k).2)).set (k * 7 + 6) (.bool true)) = soV (rs.set k (some o, (soAt rs k).2)) := soV_set (some o, (soAt rs k).2) hk
  obtain ⟨_, _, _, _, _, a5, _⟩ := soV_at hk
  rw [set_self (k := k * 7 + 5) (five_ne a5 (by omega))] at e
  exact e
theorem soV_keep {rs : List Sot} {k : Nat} {o : Ord} (hk : k < rs.length) (hf : (soAt rs k).1.isSome = true) :
    (((((soV rs).set (k * 7) (.int .i64 o.id)).set (k * 7 + 1) (.int .i64 o.side)).set (k * 7 + 2) (.int .i64 o.kind)).set (k * 7 + 3) (.int .i64 o.price)).set (k * 7 + 4) (.int .i64 o.qty) = soV (rs.set k (some o, (soAt rs k).2)) := by
  have e := soV_put (o := o) hk
  obtain ⟨_, _, _, _, _, _, a6⟩ := soV_at hk
  rw [hf] at a6
  rw [set_self (k := k * 7 + 6) (five_ne a6 (by omega))] at e
  exact e

theorem ArOr.setThing {w : World} {ab g n cap k : Nat} {most : Int} {x : Ord} {vf : Value} {rs : List Sot} {fr : List Nat} (h : ArOr w ab most (.slice (some ⟨g, 0, none⟩) n cap) vf rs fr) (hk : k < rs.length) (hf : (soAt rs k).1.isSome = true) :
    ArOr (((((w.setCell ⟨g, k * 7, none⟩ (.int .i64 x.id)).setCell ⟨g, k * 7 + 1, none⟩ (.int .i64 x.side)).setCell ⟨g, k * 7 + 2, none⟩ (.int .i64 x.kind)).setCell ⟨g, k * 7 + 3, none⟩ (.int .i64 x.price)).setCell ⟨g, k * 7 + 4, none⟩ (.int .i64 x.qty)) ab most (.slice (some ⟨g, 0, none⟩) n cap) vf (rs.set k (some x, (soAt rs k).2)) fr
    ∧ Out (fun j => j = g) w (((((w.setCell ⟨g, k * 7, none⟩ (.int .i64 x.id)).setCell ⟨g, k * 7 + 1, none⟩ (.int .i64 x.side)).setCell ⟨g, k * 7 + 2, none⟩ (.int .i64 x.kind)).setCell ⟨g, k * 7 + 3, none⟩ (.int .i64 x.price)).setCell ⟨g, k * 7 + 4, none⟩ (.int .i64 x.qty)) := by
  obtain rfl := owns_len h.slots
  obtain ⟨h1, h2, h3, h4⟩ := ArOr.raw h.box h.slots h.free (k * 7) (.int .i64 x.id) (.int .i64 x.side) (.int .i64 x.kind) (.int .i64 x.price) (.int .i64 x.qty)
  refine ⟨⟨h1, ?_, h3⟩, h4⟩
  rw [List.length_set, ← soV_keep hk hf]
  exact h2

/-- the slot that was freed last is given: the free ones behind it -/
theorem ArOr.pop {w : World} {ab g n cap k : Nat} {most : Int} {vs : Value} {rs : List Sot} {fs : List Nat} (h : ArOr w ab most vs (.slice (some ⟨g, 0, none⟩) n cap) rs (fs ++ [k])) :
    ArOr (w.setCell ⟨ab, 2, none⟩ (.slice (some ⟨g, 0, none⟩) fs.length cap)) ab most vs (.slice (some ⟨g, 0, none⟩) fs.length cap) rs fs ∧ Out (fun j => j = ab) w (w.setCell ⟨ab, 2, none⟩ (.slice (some ⟨g, 0, none⟩) fs.length cap)) := by
  have hf := h.free
  obtain rfl := owns_len h.free
  rw [List.length_append, List.length_singleton, frV_push] at hf
  have h1 := owns_less hf (frV_length fs)
  refine ⟨⟨by simpa using blk_set (j := 2) (.slice (some ⟨g, 0, none⟩) fs.length cap) h.box, ownsRow_setCell_other h.slots (owns_type h.slots h.box (by decide)) _, ownsRow_setCell_other h1 (owns_type h1 h.box (by decide)) _⟩, ?_⟩
  exact out_set _ ⟨ab, 2, none⟩ _

theorem Try.infoSlotO : (Try.prog.info? 99).map (fun i => (i.zero, i.size, i.bytes)) = some (some (.agg #[.int .i64 0, .int .i64 0, .int .i64 0, .int .i64 0, .int .i64 0, .int .i64 0, .bool false]), 7, 56) := by kernel_rfl
theorem Try.infoNumO : (Try.prog.info? 3).map (fun i => (i.zero, i.size, i.bytes)) = some (some (.int .i64 0), 1, 8) := by kernel_rfl

set_option maxRecDepth 4000 in
set_option maxHeartbeats 1000000 in
theorem oaRoom_free (ab : Nat) (most : Int) (vs vf : Value) (rs : List Sot) (fs : List Nat) (k : Nat) (w : World) (h : ArOr w ab most vs vf rs (fs ++ [k])) (hl : fs.length ≤ 1000) :
    Calls Try.prog 45 #[.pointer (some ⟨ab, 0, none⟩)] w
      fun e w' => e = .returned (.int .i64 k) ∧ ∃ vf', ArOr w' ab most vs vf' rs fs ∧ Out (aoB ab vs vf) w w' ∧ vf'.ownBlock = vf.ownBlock := by
  obtain ⟨g, cap, rfl, _, _⟩ := h.free.form (by simp)
  have HA : Hid (ArOr w ab most vs (.slice (some ⟨g, 0, none⟩) (fs ++ [k]).length cap) rs (fs ++ [k])) := h
  have c2 := blk_cell (j := 2) h.box rfl
  have f2 := blk_free (j := 2) h.box
  have d0 := (h.free.cellAt fs.length (by simp)).trans (frV_top fs k)
  have hcap : fs.length + 1 ≤ cap := by
    obtain ⟨_, _, e, h1, _⟩ := owns_shape h.free
    simp at e h1; omega
  clear h
  rw [List.length_append, List.length_singleton] at c2
  have q1 : (0 : Int) ≤ (fs.length : Int) := by omega
  have q2 : (fs.length : Int) < (fs.length : Int) + 1 := by omega
  go_enter Try.func45, Try.ntmps45
  go_wp2
  go_ret
  obtain ⟨r1, r2⟩ := HA.out.pop
  exact ⟨rfl, _, r1, r2.mono (fun j hj => Or.inl hj), rfl⟩

/-- a new slot at the end -/
theorem ArOr.push {w w1 : World} {ab g cap H : Nat} {most : Int} {vs vf : Value} {rs : List Sot} {fr : List Nat} {o : Obj} {p : Sot} (h : ArOr w ab most vs vf rs fr)
    (hown : w1.ownsRow 0 99 7 (.slice (some ⟨g, 0, none⟩) (rs.length + 1) cap) (rs.length + 1) (soV (rs ++ [p]))) (hg : (w.alloc o).grownBy w1 vs.ownBlock) (hat : vs.ownBlock = some g ∨ g = H) (hH : w.heap.size ≤ H) :
    ArOr (w1.setCell ⟨ab, 1, none⟩ (.slice (some ⟨g, 0, none⟩) (rs.length + 1) cap)) ab most (.slice (some ⟨g, 0, none⟩) (rs.length + 1) cap) vf (rs ++ [p]) fr
    ∧ Out (aoB ab vs vf) w (w1.setCell ⟨ab, 1, none⟩ (.slice (some ⟨g, 0, none⟩) (rs.length + 1) cap)) ∧ Went w (aoB ab vs vf) (aoB ab (.slice (some ⟨g, 0, none⟩) (rs.length + 1) cap) vf) := by
  have o1 : Out (fun k => vs.ownBlock = some k) w w1 := (Out.of_below (bel1 w o) (Nat.le_refl _)).trans (Out.of_grown hg (fun k hk => hk)) (Went.refl _ _)
  have b1 : w1.heap[ab]? = some (.cells #[.int .i64 most, vs, vf] 96 (0, 0)) := blk_out h.box o1 (owns_type h.slots h.box (by decide))
  have f1 : w1.ownsRow 0 3 1 vf fr.length (frV fr) := owns_out h.free o1 (fun k hk => owns_types h.free h.slots (by decide) hk)
  have o2 := out_set w1 ⟨ab, 1, none⟩ (.slice (some ⟨g, 0, none⟩) (rs.length + 1) cap)
  refine ⟨⟨by simpa using blk_set (j := 1) (.slice (some ⟨g, 0, none⟩) (rs.length + 1) cap) b1, ?_, ownsRow_setCell_other f1 (owns_type f1 b1 (by decide)) _⟩, ?_, ?_⟩
  · rw [List.length_append, List.length_singleton]
    exact ownsRow_setCell_other hown (owns_type hown b1 (by decide)) _
  · exact (o1.mono (S' := aoB ab vs vf) (fun k hk => Or.inr (Or.inl hk))).trans (o2.mono (S' := aoB ab vs vf) (fun k hk => Or.inl hk)) (Went.refl _ _)
  · rintro k (rfl | hk | hk)
    · exact Or.inl (Or.inl rfl)
    · injection hk with hk
      change g = k at hk
      subst hk
      rcases hat with hat | hat
      · exact Or.inl (Or.inr (Or.inl hat))
      · exact Or.inr (by omega)
    · exact Or.inl (Or.inr (Or.inr hk))

set_option maxRecDepth 4000 in
set_option maxHeartbeats 1000000 in
theorem oaRoom_new (ab : Nat) (most : Int) (vs vf : Value) (rs : List Sot) (w : World) (h : ArOr w ab most vs vf rs []) (hl : rs.length ≤ 1000) :
    Calls Try.prog 45 #[.pointer (some ⟨ab, 0, none⟩)] w
      fun e w' => e = .returned (.int .i64 rs.length) ∧ ∃ vs', ArOr w' ab most vs' vf (rs ++ [(none, 0)]) [] ∧ Out (aoB ab vs vf) w w' ∧ Went w (aoB ab vs vf) (aoB ab vs' vf) := by
  obtain ⟨i0, hi, hz0, hz1, hz2⟩ := info_parts Try.infoSlotO
  have HA : Hid (ArOr w ab most vs vf rs []) := h
  have c1 := blk_cell (j := 1) h.box rfl
  have c2 := blk_cell (j := 2) h.box rfl
  have lb : ab < w.heap.size := lt_of_block h.box
  have HO : Hid (vs.ownBlock ≠ some ab) := owns_type h.slots h.box (by decide)
  obtain ⟨ao, cap, rfl, _, _⟩ := owns_shape h.free
  simp only [List.length_nil] at c2 HA
  obtain ⟨ao', cap', rfl, _, _⟩ := owns_shape h.slots
  clear h
  go_enter Try.func45, Try.ntmps45
  go_wp2_with (at_builtin; go_loud (refine wpList_append_lies _ rfl _ _ 94 rfl 0 99 i0 (.agg #[.int .i64 0, .int .i64 0, .int .i64 0, .int .i64 0, .int .i64 0, .int .i64 0, .bool false]) 7 56 Try.underlying94 hi hz0 hz1 hz2 rfl (by decide) (.slice ao' rs.length cap') rs.length (soV rs) rfl (HA.out.slots.alloc _) ⟨w.heap.size, 0, none⟩ 1 1 [.int .i64 0, .int .i64 0, .int .i64 0, .int .i64 0, .int .i64 0, .int .i64 0, .bool false] rfl rfl (World.news_of_block (cs := #[.int .i64 0, .int .i64 0, .int .i64 0, .int .i64 0, .int .i64 0, .int .i64 0, .bool false]) (t := 99) (fr := (0, 0)) (heap_alloc_new w _)) (by simp [Value.oneCell']) (by decide) (by unfold maxLen; omega) (by omega) (Nat.zero_le _) (w.heap.size + 1) (by simp) ?_); intro g cg w1 hown hgrow hat hlt; have hbx := (hgrow.block ab (by simp; omega) (Ne.symm HO.out)).trans ((Below.heap_alloc _ _ _ lb).trans HA.out.box); have x1 := blk_cell (j := 1) hbx rfl; have x2 := blk_free (j := 1) hbx)
  go_ret
  obtain ⟨r1, r2, r3⟩ := HA.out.push (p := (none, 0)) (by rw [soV_append]; exact hown) hgrow hat (by omega)
  exact ⟨by first | rfl | (apply congrArg; go_num), _, r1, r2, r3⟩

theorem oaRoom (ab : Nat) (most : Int) (vs vf : Value) (rs : List Sot) (fr : List Nat) (k : Nat) (rs1 : List Sot) (fr1 : List Nat) (w : World) (h : ArOr w ab most vs vf rs fr) (hR : RoomO rs fr k rs1 fr1) (hl : rs.length ≤ 1000) (hf : fr.length ≤ 1000) :
    Calls Try.prog 45 #[.pointer (some ⟨ab, 0, none⟩)] w
      fun e w' => e = .returned (.int .i64 k) ∧ ∃ vs' vf', ArOr w' ab most vs' vf' rs1 fr1 ∧ Out (aoB ab vs vf) w w' ∧ Went w (aoB ab vs vf) (aoB ab vs' vf') := by
  rcases hR with ⟨rfl, rfl⟩ | ⟨rfl, rfl, rfl, rfl⟩
  · refine (oaRoom_free ab most vs vf _ fr1 k w h (by simp at hf; omega)).mono ?_
    rintro e w1 ⟨rfl, vf', h1, h2, h3⟩
    refine ⟨rfl, vs, vf', h1, h2, ?_⟩
    rintro j (hj | hj | hj)
    · exact Or.inl (Or.inl hj)
    · exact Or.inl (Or.inr (Or.inl hj))
    · exact Or.inl (Or.inr (Or.inr (h3 ▸ hj)))
  · refine (oaRoom_new ab most vs vf _ w h hl).mono ?_
    rintro e w1 ⟨rfl, vs', h1, h2, h3⟩
    exact ⟨rfl, vs', vf, h1, h2, h3⟩
end Go.Proofs.Ytcpijeehgdbjbaa
