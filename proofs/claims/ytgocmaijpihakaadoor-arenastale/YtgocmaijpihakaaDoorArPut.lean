/-
  What an arena's Set, room, Put and Take do, over this seat's translation, told by the plain lists of ArSl. Conditions stand in each theorem: where the arena lies, that its slots are at most 1000, that things are not below 0.
-/
import Derived.Test.YtgocmaijpihakaaDoorArAt
import Derived.Deep.RegionHeld3
import Derived.Deep.DrawnRows
namespace Go.Proofs.YtgocmaijpihakaaDoor
open Go.RowKit

theorem owns_len {w : World} {base : Nat} {e : TypeId} {size : Nat} {a : Option Addr} {n' cap n : Nat} {xs : List Value} (h : w.ownsRow base e size (.slice a n' cap) n xs) : n' = n := by
  rcases h.2 with ⟨h', h0⟩ | ⟨g, cap', cur, h', _⟩
  · injection h' with _ h1 _; omega
  · injection h' with _ h1 _

/-- a cell of the row of slots is written: the box and the free ones stay -/
theorem raw_store {w : World} {ab g n cap : Nat} {most : Int} {vf : Value} {xs : List Value} {fr : List Nat} (hb : w.heap[ab]? = some (.cells #[.int .i64 most, .slice (some ⟨g, 0, none⟩) n cap, vf] 92 (0, 0)))
    (hs : w.ownsRow 0 95 3 (.slice (some ⟨g, 0, none⟩) n cap) n xs) (hf : w.ownsRow 0 3 1 vf fr.length (frV fr)) (j : Nat) (u : Value) :
    (w.setCell ⟨g, j, none⟩ u).heap[ab]? = some (.cells #[.int .i64 most, .slice (some ⟨g, 0, none⟩) n cap, vf] 92 (0, 0))
    ∧ (w.setCell ⟨g, j, none⟩ u).ownsRow 0 95 3 (.slice (some ⟨g, 0, none⟩) n cap) n (xs.set j u) ∧ (w.setCell ⟨g, j, none⟩ u).ownsRow 0 3 1 vf fr.length (frV fr) ∧ Out (fun k => k = g) w (w.setCell ⟨g, j, none⟩ u) := by
  have hne : ab ≠ g := fun e => owns_type hs hb (by decide) (by rw [e]; rfl)
  obtain ⟨h1, h2⟩ := hs.stored j u
  exact ⟨(Below.heap_setCell _ _ _ _ hne).trans hb, h1, ownsRow_setCell_other (a := ⟨g, j, none⟩) hf (owns_types hs hf (by decide) rfl) u, Out.of_grown h2 (fun k hk => by injection hk with hk; exact hk.symm)⟩

theorem ArenaIs.setThing {w : World} {ab g n cap k : Nat} {most x : Int} {vf : Value} {rs : List (Int × Int)} {fr : List Nat} (h : ArenaIs w ab most (.slice (some ⟨g, 0, none⟩) n cap) vf rs fr) (hk : k < rs.length) (hf : 0 ≤ (slAt rs k).1) (hx : 0 ≤ x) :
    ArenaIs (w.setCell ⟨g, k * 3, none⟩ (.int .i64 x)) ab most (.slice (some ⟨g, 0, none⟩) n cap) vf (rs.set k (x, (slAt rs k).2)) fr ∧ Out (fun j => j = g) w (w.setCell ⟨g, k * 3, none⟩ (.int .i64 x)) := by
  obtain rfl := owns_len h.slots
  obtain ⟨h1, h2, h3, h4⟩ := raw_store h.box h.slots h.free (k * 3) (.int .i64 x)
  refine ⟨⟨h1, ?_, h3⟩, h4⟩
  have e := slV_set (x, (slAt rs k).2) hk
  obtain ⟨a0, a1, a2⟩ := slV_at hk
  rw [thingV_full hx, fullB_full hx] at e
  rw [fullB_full hf] at a2
  rw [set_self (k := k * 3 + 1) (by rw [List.getElem?_set_ne (by omega)]; exact a1), set_self (k := k * 3 + 2) (by rw [List.getElem?_set_ne (by omega)]; exact a2)] at e
  rw [List.length_set, ← e]
  exact h2

set_option maxRecDepth 4000 in
set_option maxHeartbeats 1000000 in
theorem arSet (ab : Nat) (most : Int) (vs vf : Value) (rs : List (Int × Int)) (fr : List Nat) (i a x : Int) (w : World) (h : ArenaIs w ab most vs vf rs fr) (hx : 0 ≤ x) :
    Calls Tryd.prog 24 #[.pointer (some ⟨ab, 0, none⟩), .agg #[.int .i64 i, .int .i64 a], .int .i64 x] w
      fun e w' => (hasS rs i a = false ∧ e = .returned (.iface 22 (.int .i64 7)) ∧ Below w.heap.size w w')
        ∨ (hasS rs i a = true ∧ ∃ k : Nat, i = k ∧ k < rs.length ∧ e = .returned .nilIface ∧ ArenaIs w' ab most vs vf (rs.set k (x, (slAt rs k).2)) fr ∧ Out (arB ab vs vf) w w') := by
  have HA : Hid (ArenaIs w ab most vs vf rs fr) := h
  clear h
  go_enter Tryd.func24, Tryd.ntmps24
  go_wp2_with fail
  refine (arFind ab most vs vf rs fr i a _ (HA.out.below ((Below.refl _ _).alloc (Nat.le_refl _) _) (Nat.le_refl _))).mono ?_
  rintro e w1 ⟨hb, ⟨hh, rfl⟩ | ⟨hh, k, g, cap, rfl, hk, rfl, rfl⟩⟩
  · have HB : Hid (Below w.heap.size w w1) := ((Below.refl _ _).alloc (Nat.le_refl _) _).trans (hb.mono (by simp))
    have HH : Hid (hasS rs i a = false) := hh
    clear hb hh
    go_wp2
    go_ret
    exact Or.inl ⟨HH.out, rfl, HB.out⟩
  · have HB : Hid (Below w.heap.size w w1) := ((Below.refl _ _).alloc (Nat.le_refl _) _).trans (hb.mono (by simp))
    have HH : Hid (hasS rs k a = true) := hh
    clear hb hh
    obtain ⟨j, hj, hk', hf, ha⟩ := hasS_iff.1 HH.out
    obtain rfl : k = j := by omega
    have HA1 : Hid (ArenaIs w1 ab most (.slice (some ⟨g, 0, none⟩) rs.length cap) vf rs fr) := HA.out.below HB.out (Nat.le_refl _)
    have d0 := (HA1.out.slots.cellAt (k * 3) (by omega)).trans (slV_at hk).1
    have f0 := HA1.out.slots.frozenAt (k * 3)
    have HF : Hid (0 ≤ (slAt rs k).1) := hf
    clear hf ha hj hk'
    go_wp2
    go_ret
    obtain ⟨r1, r2⟩ := HA1.out.setThing hk HF.out hx
    exact Or.inr ⟨HH.out, k, rfl, hk, rfl, r1, (Out.of_below HB.out (Nat.le_refl _)).trans (r2.mono (fun j hj => Or.inr (Or.inl (by rw [hj]; rfl)))) (Went.refl _ _)⟩

theorem owns_less {w : World} {base : Nat} {e : TypeId} {g n cap : Nat} {xs : List Value} {x : Value} (h : w.ownsRow base e 1 (.slice (some ⟨g, 0, none⟩) (n + 1) cap) (n + 1) (xs ++ [x])) (hn : xs.length = n) : w.ownsRow base e 1 (.slice (some ⟨g, 0, none⟩) n cap) n xs := by
  rcases h.2 with ⟨h', _⟩ | ⟨g', cap', cur, h', hb, hg, hnc, hcm, hcs, ht⟩
  · simp at h'
  · simp only [Value.slice.injEq, Option.some.injEq, Addr.mk.injEq, and_true, true_and] at h'
    obtain ⟨rfl, rfl⟩ := h'
    refine ⟨by omega, .inr ⟨g, cap, cur, rfl, hb, hg, by omega, hcm, hcs, ?_⟩⟩
    have := congrArg (List.take n) ht
    rw [List.take_take, ← hn, List.take_left] at this
    rw [← hn]
    simpa using this

/-- the slot that was freed last is given: the free ones behind it -/
theorem ArenaIs.pop {w : World} {ab g n cap k : Nat} {most : Int} {vs : Value} {rs : List (Int × Int)} {fs : List Nat} (h : ArenaIs w ab most vs (.slice (some ⟨g, 0, none⟩) n cap) rs (fs ++ [k])) :
    ArenaIs (w.setCell ⟨ab, 2, none⟩ (.slice (some ⟨g, 0, none⟩) fs.length cap)) ab most vs (.slice (some ⟨g, 0, none⟩) fs.length cap) rs fs ∧ Out (fun j => j = ab) w (w.setCell ⟨ab, 2, none⟩ (.slice (some ⟨g, 0, none⟩) fs.length cap)) := by
  have hf := h.free
  obtain rfl := owns_len h.free
  rw [List.length_append, List.length_singleton, frV_push] at hf
  have h1 := owns_less hf (frV_length fs)
  refine ⟨⟨by simpa using blk_set (j := 2) (.slice (some ⟨g, 0, none⟩) fs.length cap) h.box, ownsRow_setCell_other h.slots (owns_type h.slots h.box (by decide)) _, ownsRow_setCell_other h1 (owns_type h1 h.box (by decide)) _⟩, ?_⟩
  exact ⟨rfl, rfl, rfl, by simp, fun j _ hj => Below.heap_setCell _ _ _ _ (fun e => hj e)⟩

theorem Tryd.infoSlot : (Tryd.prog.info? 95).map (fun i => (i.zero, i.size, i.bytes)) = some (some (.agg #[.int .i64 0, .int .i64 0, .bool false]), 3, 24) := by kernel_rfl
theorem Tryd.infoNum : (Tryd.prog.info? 3).map (fun i => (i.zero, i.size, i.bytes)) = some (some (.int .i64 0), 1, 8) := by kernel_rfl

set_option maxRecDepth 4000 in
set_option maxHeartbeats 1000000 in
theorem arRoom_free (ab : Nat) (most : Int) (vs vf : Value) (rs : List (Int × Int)) (fs : List Nat) (k : Nat) (w : World) (h : ArenaIs w ab most vs vf rs (fs ++ [k])) (hl : fs.length ≤ 1000) :
    Calls Tryd.prog 38 #[.pointer (some ⟨ab, 0, none⟩)] w
      fun e w' => e = .returned (.int .i64 k) ∧ ∃ vf', ArenaIs w' ab most vs vf' rs fs ∧ Out (arB ab vs vf) w w' ∧ vf'.ownBlock = vf.ownBlock := by
  obtain ⟨g, cap, rfl, _, _⟩ := h.free.form (by simp)
  have HA : Hid (ArenaIs w ab most vs (.slice (some ⟨g, 0, none⟩) (fs ++ [k]).length cap) rs (fs ++ [k])) := h
  have c2 := blk_cell (j := 2) h.box rfl
  have f2 := blk_free (j := 2) h.box
  have d0 := (h.free.cellAt fs.length (by simp)).trans (frV_top fs k)
  have hcap : fs.length + 1 ≤ cap := by
    obtain ⟨_, _, e, h1, _⟩ := owns_shape h.free
    simp at e h1; omega
  clear h
  rw [List.length_append, List.length_singleton] at c2
  have q1 : (0 : Int) ≤ (fs.length : Int) := by omega
  have q2 : (fs.length : Int) < (fs.length : Int) + 1 := by omega
  go_enter Tryd.func38, Tryd.ntmps38
  go_wp2
  go_ret
  obtain ⟨r1, r2⟩ := HA.out.pop
  exact ⟨rfl, _, r1, r2.mono (fun j hj => Or.inl hj), rfl⟩

/-- a new slot at the end -/
theorem ArenaIs.push {w w1 : World} {ab g cap H : Nat} {most : Int} {vs vf : Value} {rs : List (Int × Int)} {fr : List Nat} {o : Obj} {p : Int × Int} (h : ArenaIs w ab most vs vf rs fr)
    (hown : w1.ownsRow 0 95 3 (.slice (some ⟨g, 0, none⟩) (rs.length + 1) cap) (rs.length + 1) (slV (rs ++ [p]))) (hg : (w.alloc o).grownBy w1 vs.ownBlock) (hat : vs.ownBlock = some g ∨ g = H) (hH : w.heap.size ≤ H) :
    ArenaIs (w1.setCell ⟨ab, 1, none⟩ (.slice (some ⟨g, 0, none⟩) (rs.length + 1) cap)) ab most (.slice (some ⟨g, 0, none⟩) (rs.length + 1) cap) vf (rs ++ [p]) fr
    ∧ Out (arB ab vs vf) w (w1.setCell ⟨ab, 1, none⟩ (.slice (some ⟨g, 0, none⟩) (rs.length + 1) cap)) ∧ Went w (arB ab vs vf) (arB ab (.slice (some ⟨g, 0, none⟩) (rs.length + 1) cap) vf) := by
  have o1 : Out (fun k => vs.ownBlock = some k) w w1 := (Out.of_below ((Below.refl w.heap.size w).alloc (Nat.le_refl _) o) (Nat.le_refl _)).trans (Out.of_grown hg (fun k hk => hk)) (Went.refl _ _)
  have b1 : w1.heap[ab]? = some (.cells #[.int .i64 most, vs, vf] 92 (0, 0)) := (o1.block ab (lt_of_block h.box) (owns_type h.slots h.box (by decide))).trans h.box
  have f1 : w1.ownsRow 0 3 1 vf fr.length (frV fr) := owns_out h.free o1 (fun k hk => owns_types h.free h.slots (by decide) hk)
  have o2 : Out (fun k => k = ab) w1 (w1.setCell ⟨ab, 1, none⟩ (.slice (some ⟨g, 0, none⟩) (rs.length + 1) cap)) := ⟨rfl, rfl, rfl, by simp, fun j _ hj => Below.heap_setCell _ _ _ _ (fun e => hj e)⟩
  refine ⟨⟨by simpa using blk_set (j := 1) (.slice (some ⟨g, 0, none⟩) (rs.length + 1) cap) b1, ?_, ownsRow_setCell_other f1 (owns_type f1 b1 (by decide)) _⟩, ?_, ?_⟩
  · rw [List.length_append, List.length_singleton]
    exact ownsRow_setCell_other hown (owns_type hown b1 (by decide)) _
  · exact (o1.mono (S' := arB ab vs vf) (fun k hk => Or.inr (Or.inl hk))).trans (o2.mono (S' := arB ab vs vf) (fun k hk => Or.inl hk)) (Went.refl _ _)
  · rintro k (rfl | hk | hk)
    · exact Or.inl (Or.inl rfl)
    · injection hk with hk
      change g = k at hk
      subst hk
      rcases hat with hat | hat
      · exact Or.inl (Or.inr (Or.inl hat))
      · exact Or.inr (by omega)
    · exact Or.inl (Or.inr (Or.inr hk))

set_option maxRecDepth 4000 in
set_option maxHeartbeats 1000000 in
theorem arRoom_new (ab : Nat) (most : Int) (vs vf : Value) (rs : List (Int × Int)) (w : World) (h : ArenaIs w ab most vs vf rs []) (hl : rs.length ≤ 1000) :
    Calls Tryd.prog 38 #[.pointer (some ⟨ab, 0, none⟩)] w
      fun e w' => e = .returned (.int .i64 rs.length) ∧ ∃ vs', ArenaIs w' ab most vs' vf (rs ++ [(-1, 0)]) [] ∧ Out (arB ab vs vf) w w' ∧ Went w (arB ab vs vf) (arB ab vs' vf) := by
  obtain ⟨i0, hi, hz0, hz1, hz2⟩ := info_parts Tryd.infoSlot
  have HA : Hid (ArenaIs w ab most vs vf rs []) := h
  have c1 := blk_cell (j := 1) h.box rfl
  have c2 := blk_cell (j := 2) h.box rfl
  have lb : ab < w.heap.size := lt_of_block h.box
  have HO : Hid (vs.ownBlock ≠ some ab) := owns_type h.slots h.box (by decide)
  obtain ⟨ao, cap, rfl, _, _⟩ := owns_shape h.free
  simp only [List.length_nil] at c2 HA
  obtain ⟨ao', cap', rfl, _, _⟩ := owns_shape h.slots
  clear h
  go_enter Tryd.func38, Tryd.ntmps38
  go_wp2_with (at_builtin; go_loud (refine wpList_append_lies _ rfl _ _ 90 rfl 0 95 i0 (.agg #[.int .i64 0, .int .i64 0, .bool false]) 3 24 Tryd.underlying90 hi hz0 hz1 hz2 rfl (by decide) (.slice ao' rs.length cap') rs.length (slV rs) rfl (HA.out.slots.alloc _) ⟨w.heap.size, 0, none⟩ 1 1 [.int .i64 0, .int .i64 0, .bool false] rfl rfl (World.news_of_block (cs := #[.int .i64 0, .int .i64 0, .bool false]) (t := 95) (fr := (0, 0)) (heap_alloc_new w _)) (by simp [Value.oneCell']) (by decide) (by unfold maxLen; omega) (by omega) (Nat.zero_le _) (w.heap.size + 1) (by simp) ?_); intro g cg w1 hown hgrow hat hlt; have hbx := (hgrow.block ab (by simp; omega) (Ne.symm HO.out)).trans ((Below.heap_alloc _ _ _ lb).trans HA.out.box); have x1 := blk_cell (j := 1) hbx rfl; have x2 := blk_free (j := 1) hbx)
  go_ret
  obtain ⟨r1, r2, r3⟩ := HA.out.push (p := (-1, 0)) (by rw [slV_append]; exact hown) hgrow hat (by omega)
  exact ⟨by first | rfl | (apply congrArg; go_num), _, r1, r2, r3⟩

/-- which slot is given next, and what the slots are then -/
def RoomIs (rs : List (Int × Int)) (fr : List Nat) (k : Nat) (rs1 : List (Int × Int)) (fr1 : List Nat) : Prop := (fr = fr1 ++ [k] ∧ rs1 = rs) ∨ (fr = [] ∧ fr1 = [] ∧ k = rs.length ∧ rs1 = rs ++ [(-1, 0)])

theorem arRoom (ab : Nat) (most : Int) (vs vf : Value) (rs : List (Int × Int)) (fr : List Nat) (k : Nat) (rs1 : List (Int × Int)) (fr1 : List Nat) (w : World) (h : ArenaIs w ab most vs vf rs fr) (hR : RoomIs rs fr k rs1 fr1) (hl : rs.length ≤ 1000) (hf : fr.length ≤ 1000) :
    Calls Tryd.prog 38 #[.pointer (some ⟨ab, 0, none⟩)] w
      fun e w' => e = .returned (.int .i64 k) ∧ ∃ vs' vf', ArenaIs w' ab most vs' vf' rs1 fr1 ∧ Out (arB ab vs vf) w w' ∧ Went w (arB ab vs vf) (arB ab vs' vf') := by
  rcases hR with ⟨rfl, rfl⟩ | ⟨rfl, rfl, rfl, rfl⟩
  · refine (arRoom_free ab most vs vf _ fr1 k w h (by simp at hf; omega)).mono ?_
    rintro e w1 ⟨rfl, vf', h1, h2, h3⟩
    refine ⟨rfl, vs, vf', h1, h2, ?_⟩
    rintro j (hj | hj | hj)
    · exact Or.inl (Or.inl hj)
    · exact Or.inl (Or.inr (Or.inl hj))
    · exact Or.inl (Or.inr (Or.inr (h3 ▸ hj)))
  · refine (arRoom_new ab most vs vf _ w h hl).mono ?_
    rintro e w1 ⟨rfl, vs', h1, h2, h3⟩
    exact ⟨rfl, vs', vf, h1, h2, h3⟩

/-- a thing is put into a slot that has none -/
theorem ArenaIs.putThing {w : World} {ab g n cap k : Nat} {most x : Int} {vf : Value} {rs : List (Int × Int)} {fr : List Nat} (h : ArenaIs w ab most (.slice (some ⟨g, 0, none⟩) n cap) vf rs fr) (hk : k < rs.length) (hx : 0 ≤ x) :
    ArenaIs ((w.setCell ⟨g, k * 3, none⟩ (.int .i64 x)).setCell ⟨g, k * 3 + 2, none⟩ (.bool true)) ab most (.slice (some ⟨g, 0, none⟩) n cap) vf (rs.set k (x, (slAt rs k).2)) fr ∧ Out (fun j => j = g) w ((w.setCell ⟨g, k * 3, none⟩ (.int .i64 x)).setCell ⟨g, k * 3 + 2, none⟩ (.bool true)) := by
  obtain rfl := owns_len h.slots
  obtain ⟨h1, h2, h3, h4⟩ := raw_store h.box h.slots h.free (k * 3) (.int .i64 x)
  obtain ⟨g1, g2, g3, g4⟩ := raw_store h1 h2 h3 (k * 3 + 2) (.bool true)
  refine ⟨⟨g1, ?_, g3⟩, h4.trans g4 (Went.refl _ _)⟩
  have e := slV_set (x, (slAt rs k).2) hk
  obtain ⟨a0, a1, a2⟩ := slV_at hk
  rw [thingV_full hx, fullB_full hx] at e
  rw [set_self (k := k * 3 + 1) (by rw [List.getElem?_set_ne (by omega)]; exact a1)] at e
  rw [List.length_set, ← e]
  exact g2

set_option maxRecDepth 4000 in
set_option maxHeartbeats 1000000 in
theorem arPut_full (ab : Nat) (most : Int) (vs vf : Value) (rs : List (Int × Int)) (fr : List Nat) (x : Int) (w : World) (h : ArenaIs w ab most vs vf rs fr) (hl : rs.length ≤ 1000) (hf : fr.length ≤ rs.length) (hm : (rs.length : Int) - fr.length = most) :
    Calls Tryd.prog 22 #[.pointer (some ⟨ab, 0, none⟩), .int .i64 x] w
      fun e w' => e = .returned (.tuple #[.agg #[.int .i64 0, .int .i64 0], .iface 22 (.int .i64 12)]) ∧ Below w.heap.size w w' := by
  have HA : Hid (ArenaIs w ab most vs vf rs fr) := h
  have c0 := blk_cell (j := 0) h.box rfl
  have lb : ab < w.heap.size := lt_of_block h.box
  rw [← hm] at c0
  clear h hm
  go_enter Tryd.func22, Tryd.ntmps22
  go_wp2_with fail
  go_quiet (first | (go_at_call 27; refine Calls.quiet_of (arMany ab most vs vf rs fr _ (HA.out.below (below_drewN ((Below.refl _ _).alloc (Nat.le_refl _) _) _) (Nat.le_refl _)) hl hf)))
  go_wp2
  refine bodyPost_ret (by simp [results, Tryd.results22, go_sem]; try rfl) rfl ?_
  exact ⟨rfl, ((below_drewN ((Below.refl _ _).alloc (Nat.le_refl _) _) _).setCell (Nat.le_refl _) _).setCell (Nat.le_refl _) _⟩

theorem out_set (w : World) (p : Addr) (u : Value) : Out (fun j => j = p.block) w (w.setCell p u) := ⟨rfl, rfl, rfl, by simp, fun j _ hj => Below.heap_setCell _ _ _ _ hj⟩

/-- the block of a call's own answer stays, whatever an arena does to its own blocks -/
theorem own_kept {S : Nat → Prop} {w wq w1 : World} {vs : Array Value} {t : TypeId} (ho : Out S wq w1) (hq : wq.heap[w.heap.size]? = some (.cells vs t (0, 0))) (hS : ∀ k, S k → k < w.heap.size) : w1.heap[w.heap.size]? = some (.cells vs t (0, 0)) :=
  (ho.block _ (lt_of_block hq) (fun h => Nat.lt_irrefl _ (hS _ h))).trans hq
theorem own_box (w : World) (o : Obj) (n : Nat) : ((w.alloc o).drewN n).heap[w.heap.size]? = some o := by
  have : ∀ (n : Nat) (w' : World), (w'.drewN n).heap = w'.heap := fun n => by
    induction n with
    | zero => intro w'; rfl
    | succ n ih => intro w'; exact ih _
  rw [this]; exact heap_alloc_new w o

set_option maxRecDepth 4000 in
set_option maxHeartbeats 1000000 in
theorem arPut (ab : Nat) (most : Int) (vs vf : Value) (rs : List (Int × Int)) (fr : List Nat) (x : Int) (k : Nat) (rs1 : List (Int × Int)) (fr1 : List Nat) (w : World) (h : ArenaIs w ab most vs vf rs fr) (hl : rs.length ≤ 1000) (hf : fr.length ≤ rs.length) (hm : ¬ (rs.length : Int) - fr.length = most)
    (hR : RoomIs rs fr k rs1 fr1) (hk : k < rs1.length) (hx : 0 ≤ x) :
    Calls Tryd.prog 22 #[.pointer (some ⟨ab, 0, none⟩), .int .i64 x] w
      fun e w' => e = .returned (.tuple #[.agg #[.int .i64 k, .int .i64 (slAt rs1 k).2], .nilIface]) ∧ ∃ vs' vf', ArenaIs w' ab most vs' vf' (rs1.set k (x, (slAt rs1 k).2)) fr1 ∧ Out (arB ab vs vf) w w' ∧ Went w (arB ab vs vf) (arB ab vs' vf') := by
  have HA : Hid (ArenaIs w ab most vs vf rs fr) := h
  have HR : Hid (RoomIs rs fr k rs1 fr1) := hR
  have c0 := blk_cell (j := 0) h.box rfl
  have lb : ab < w.heap.size := lt_of_block h.box
  have hmb : (((rs.length : Int) - fr.length) == most) = false := beq_eq_false_iff_ne.2 hm
  clear h hm hR
  go_enter Tryd.func22, Tryd.ntmps22
  go_wp2_with fail
  go_quiet (first | (go_at_call 27; refine Calls.quiet_of (arMany ab most vs vf rs fr _ (HA.out.below (below_drewN ((Below.refl _ _).alloc (Nat.le_refl _) _) _) (Nat.le_refl _)) hl hf)))
  go_wp2_with fail
  have hbq := below_drewN ((Below.refl w.heap.size w).alloc (Nat.le_refl _) (.cells #[.int .i64 0, .int .i64 0] 58)) nq
  have hwq := own_box w (.cells #[.int .i64 0, .int .i64 0] 58) nq
  generalize (w.alloc (Obj.cells #[.int .i64 0, .int .i64 0] 58)).drewN nq = wq at hbq hwq
  have HBQ : Hid (Below w.heap.size w wq) := hbq
  have HWQ : Hid (wq.heap[w.heap.size]? = some (.cells #[.int .i64 0, .int .i64 0] 58 (0, 0))) := hwq
  clear hbq hwq hmb c0
  refine (arRoom ab most vs vf rs fr k rs1 fr1 wq (HA.out.below HBQ.out (Nat.le_refl _)) HR.out hl (by omega)).mono ?_
  rintro e w1 ⟨rfl, vs', vf', h1, h2, h3⟩
  obtain ⟨g, cap, rfl, d0, d1, d2⟩ := h1.slot hk
  have f0 := h1.slots.frozenAt (k * 3)
  have f2 := h1.slots.frozenAt (k * 3 + 2)
  have hbx := own_kept h2 HWQ.out (fun j hj => HA.out.lt hj)
  have hne : w.heap.size ≠ g := fun e => owns_type h1.slots hbx (by decide) (by rw [e]; rfl)
  have x0 := blk_cell (j := 0) hbx rfl
  have x1 := blk_cell (j := 1) hbx rfl
  have y0 := blk_free (j := 0) hbx
  have y1 := blk_free (j := 1) hbx
  have c1 := blk_cell (j := 1) h1.box rfl
  have H1 : Hid (ArenaIs w1 ab most (.slice (some ⟨g, 0, none⟩) rs1.length cap) vf' rs1 fr1) := h1
  have H2 : Hid (Out (arB ab vs vf) wq w1) := h2
  have H3 : Hid (Went wq (arB ab vs vf) (arB ab (.slice (some ⟨g, 0, none⟩) rs1.length cap) vf')) := h3
  have HBX : Hid (w1.heap[w.heap.size]? = some (.cells #[.int .i64 0, .int .i64 0] 58 (0, 0))) := hbx
  clear h1 h2 h3 hbx
  have q1 : (0 : Int) ≤ (k : Int) := by omega
  have q2 : (k : Int) < rs1.length := by omega
  go_wp2
  refine bodyPost_ret (by simp [results, Tryd.results22, go_sem, x0, x1]; try rfl) rfl ?_
  have lq : w.heap.size < wq.heap.size := lt_of_block HWQ.out
  have sep : ∀ j, arB ab (.slice (some ⟨g, 0, none⟩) rs1.length cap) vf' j → ¬ j = w.heap.size := fun j hj e => by
    rcases H3.out j hj with h4 | h4
    · have := HA.out.lt h4; omega
    · omega
  obtain ⟨r1, r2⟩ := H1.out.putThing hk hx
  have s1 := out_set ((w1.setCell ⟨g, k * 3, none⟩ (.int .i64 x)).setCell ⟨g, k * 3 + 2, none⟩ (.bool true)) ⟨w.heap.size, 0, none⟩ (.int .i64 k)
  have s2 := out_set (((w1.setCell ⟨g, k * 3, none⟩ (.int .i64 x)).setCell ⟨g, k * 3 + 2, none⟩ (.bool true)).setCell ⟨w.heap.size, 0, none⟩ (.int .i64 k)) ⟨w.heap.size, 1, none⟩ (.int .i64 (slAt rs1 k).2)
  have s3 := s1.trans s2 (Went.refl _ _)
  refine ⟨rfl, _, vf', r1.out s3 sep, ?_, fun j hj => (H3.out j hj).imp id (fun h4 => by omega)⟩
  refine ((((Out.of_below HBQ.out (Nat.le_refl _)).trans H2.out (Went.refl _ _)).trans r2 ?_).trans s3 ?_)
  · rintro j rfl
    exact (H3.out j (Or.inr (Or.inl rfl))).imp id (fun h4 => by omega)
  · rintro j rfl
    exact Or.inr (Nat.le_refl _)
end Go.Proofs.YtgocmaijpihakaaDoor
