/-
  What package calendar's followers, Clone, New and Phase return, over this seat's translation. Conditions stand in each theorem: where the rows lie, and that there are at most 60.
-/
import Derived.Test.YtnhhnbomokoglaaDoorCal
import Derived.OwnWalk
namespace Go.Proofs.YtnhhnbomokoglaaDoor
open Go.RowKit

theorem fol_put {w : World} {B n : Nat} {D : DataW Unit} (ho : w.ownsMap Tryd.prog 3 folR B n D) (hn : n < 100) (key : Int) (hk : (Lit.int .i64 key).wf = true) (o : Obj) (len : Nat) :
    ∃ w', (Instr.mapUpdate 55 (.map (some B)) (.int .i64 key) (.slice (some ⟨w.heap.size, 0, none⟩) len len)).run Tryd.prog (w.alloc o) = .ok () w'
      ∧ w'.ownsMap Tryd.prog 3 folR B (n + 1) (D.put (.int .i64 key) (folE w.heap.size len)) ∧ (w.alloc o).grownBy w' (some B) :=
  (ho.alloc o).update Tryd.keyInt Tryd.underlying55 (by unfold maxLen; omega) (Tryd.keyIs hk) (folR_row _ _)

/-- what lies in a block that was just laid is there behind the store into the map, and behind all that keeps it -/
theorem fol_cell {w w1 : World} {B : Nat} {vs : Array Value} {t : TypeId} (hg : (w.alloc (.cells vs t)).grownBy w1 (some B)) (hB : B < w.heap.size) {j : Nat} {v : Value} (hv : vs[j]? = some v) : w1.cell? ⟨w.heap.size, j, none⟩ = some v := by
  have h1 := hg.block w.heap.size (by simp) (by intro e; injection e with e; omega)
  exact (World.cell?_of_block (w := w.alloc (.cells vs t)) (a := ⟨w.heap.size, j, none⟩) h1).trans ((World.cell?_alloc_at _ _ _ _ rfl).trans hv)
theorem fol_keep {w w1 : World} {B : Nat} {o : Obj} (hg : (w.alloc o).grownBy w1 (some B)) {b j : Nat} {v : Value} (hb : b ≠ B) (hv : w.cell? ⟨b, j, none⟩ = some v) : w1.cell? ⟨b, j, none⟩ = some v := by
  have hl := cal_lt (a := ⟨b, j, none⟩) hv
  have h1 := hg.block b (by simp; simp at hl; omega) (by intro e; injection e with e; omega)
  exact (World.cell?_of_block (w := w.alloc o) (a := ⟨b, j, none⟩) h1).trans ((World.cell?_alloc_lt _ _ _ hl).trans hv)

set_option maxHeartbeats 400000 in
theorem followers_any (w : World) : Calls Tryd.prog 21 #[] w fun e w' => e = .returned (.map (some w.heap.size)) ∧ FolAt w' w.heap.size ∧ Below w.heap.size w w' := by
  have hmm := @run_makeMap Tryd.prog
  have h0 := World.ownsMap_made w Tryd.prog 3 folR
  have s0 : (w.alloc (.map #[] 0)).heap.size = w.heap.size + 1 := by simp
  obtain ⟨w1, r1, o1, g1⟩ := fol_put h0 (by omega) 1 (by decide) (.cells #[.int .i64 2] 3) 1
  obtain ⟨w2, r2, o2, g2⟩ := fol_put o1 (by omega) 2 (by decide) (.cells #[.int .i64 3] 3) 1
  obtain ⟨w3, r3, o3, g3⟩ := fol_put o2 (by omega) 3 (by decide) (.cells #[.int .i64 5, .int .i64 7] 3) 2
  obtain ⟨w4, r4, o4, g4⟩ := fol_put o3 (by omega) 5 (by decide) (.cells #[.int .i64 7] 3) 1
  have l1 := o1.lt
  have l2 := o2.lt
  have l3 := o3.lt
  have z1 := g1.size
  have z2 := g2.size
  have z3 := g3.size
  simp only [World.size_alloc] at z1 z2 z3
  have c1 := fol_cell (j := 0) g1 (by rw [s0]; omega) rfl
  have c2 := fol_cell (j := 0) g2 l1 rfl
  have c3 := fol_cell (j := 0) g3 l2 rfl
  have c4 := fol_cell (j := 1) g3 l2 rfl
  have c5 := fol_cell (j := 0) g4 l3 rfl
  have hF : Hid (FolAt w4 w.heap.size) := ⟨_, _, _, _, o4, fol_keep g4 (by omega) (fol_keep g3 (by omega) (fol_keep g2 (by omega) c1)), fol_keep g4 (by omega) (fol_keep g3 (by omega) c2), fol_keep g4 (by omega) c3, fol_keep g4 (by omega) c4, c5⟩
  have one : ∀ {a b : World} {o : Obj}, (a.alloc o).grownBy b (some w.heap.size) → w.heap.size ≤ a.heap.size → Below w.heap.size a b := fun {a b o} g hs =>
    ((Below.refl _ a).alloc hs o).grown g (by simp; omega) (fun k hk => by injection hk with e; omega)
  have hB : Hid (Below w.heap.size w w4) := (((((Below.refl _ w).alloc (Nat.le_refl _) _).trans (one g1 (by simp))).trans (one g2 (by omega))).trans (one g3 (by omega))).trans (one g4 (by omega))
  rw [s0] at r1
  clear o1 o2 o3 o4 g1 g2 g3 g4 l1 l2 l3 z1 z2 z3 c1 c2 c3 c4 c5 one h0 s0
  go_enter Tryd.func21, Tryd.ntmps21
  go_wp2
  go_ret
  exact ⟨rfl, hF.out, hB.out⟩

/-! rows, as pairs of numbers -/
def flat : List (Int × Int) → List Value
  | [] => []
  | r :: rs => .int .i64 r.1 :: .int .i64 r.2 :: flat rs
def rowAt (rs : List (Int × Int)) (k : Nat) : Int × Int := rs.getD k (0, 0)
theorem flat_length (rs : List (Int × Int)) : (flat rs).length = rs.length * 2 := by
  induction rs with
  | nil => rfl
  | cons r rs ih => simp [flat, ih]; omega
theorem flat_at (rs : List (Int × Int)) (k : Nat) (h : k < rs.length) : (flat rs)[k * 2]? = some (.int .i64 (rowAt rs k).1) ∧ (flat rs)[k * 2 + 1]? = some (.int .i64 (rowAt rs k).2) := by
  induction rs generalizing k with
  | nil => simp at h
  | cons r rs ih =>
    cases k with
    | zero => exact ⟨rfl, rfl⟩
    | succ k =>
      have := ih k (by simpa using h)
      rw [show (k + 1) * 2 = k * 2 + 1 + 1 by omega]
      simpa [flat, rowAt] using this
theorem flat_one (rs : List (Int × Int)) : ∀ u ∈ flat rs, u.oneCell' = true := by
  induction rs with
  | nil => simp [flat]
  | cons r rs ih =>
    intro u hu
    simp only [flat, List.mem_cons] at hu
    rcases hu with rfl | rfl | hu
    · rfl
    · rfl
    · exact ih u hu

/-- In w the rows lie in block b from cell off on. -/
def RowsAt (w : World) (b off : Nat) (rs : List (Int × Int)) : Prop := ∀ j u, (flat rs)[j]? = some u → w.cell? ⟨b, off + j, none⟩ = some u
theorem RowsAt.below {w w' : World} {b off n : Nat} {rs : List (Int × Int)} (h : RowsAt w b off rs) (hb : Below n w w') (hn : w.heap.size ≤ n) : RowsAt w' b off rs := fun j u hj =>
  (hb.cell (p := ⟨b, off + j, none⟩) (Nat.lt_of_lt_of_le (cal_lt (a := ⟨b, off + j, none⟩) (h j u hj)) hn)).trans (h j u hj)
theorem RowsAt.row {w : World} {b off : Nat} {rs : List (Int × Int)} (h : RowsAt w b off rs) {k : Nat} (hk : k < rs.length) :
    w.cell? ⟨b, off + k * 2, none⟩ = some (.int .i64 (rowAt rs k).1) ∧ w.cell? ⟨b, off + k * 2 + 1, none⟩ = some (.int .i64 (rowAt rs k).2) :=
  ⟨h _ _ (flat_at rs k hk).1, by have := h _ _ (flat_at rs k hk).2; rwa [← Nat.add_assoc] at this⟩

/-- 2.1: what is wrong first, and where (-1: nowhere). -/
def rowE (p r : Int × Int) : Int := wrongN (folL p.2) p.1 r.1 r.2
def scanE : Int × Int → Nat → List (Int × Int) → Int × Int
  | _, _, [] => (0, -1)
  | p, i, r :: rs => if rowE p r = 0 then scanE r (i + 1) rs else (rowE p r, (i : Int))
def tabE : List (Int × Int) → Int × Int
  | [] => (8, -1)
  | r :: rs => if 20 < (r :: rs).length then (4, -1) else if r = (0, 1) then scanE r 1 rs else (1, 0)

/-- In w block b is a table of these rows. -/
def TableAt (w : World) (b : Nat) (rs : List (Int × Int)) : Prop := ∃ cb c : Nat, w.cell? ⟨b, 0, none⟩ = some (.slice (some ⟨cb, 0, none⟩) rs.length c) ∧ RowsAt w cb 0 rs
theorem TableAt.below {w w' : World} {b n : Nat} {rs : List (Int × Int)} (h : TableAt w b rs) (hb : Below n w w') (hn : w.heap.size ≤ n) : TableAt w' b rs := by
  obtain ⟨cb, c, h1, h2⟩ := h
  exact ⟨cb, c, (hb.cell (p := ⟨b, 0, none⟩) (Nat.lt_of_lt_of_le (cal_lt (a := ⟨b, 0, none⟩) h1) hn)).trans h1, h2.below hb hn⟩
/-- What New hands back. -/
def NewIs (w : World) (rs : List (Int × Int)) (t err : Value) : Prop :=
  (tabE rs = (0, -1) ∧ err = .nilIface ∧ ∃ b : Nat, t = .pointer (some ⟨b, 0, none⟩) ∧ TableAt w b rs)
  ∨ (¬ (tabE rs).1 = 0 ∧ t = .pointer none ∧ (((tabE rs).2 = -1 ∧ err = .iface 22 (.int .i64 (tabE rs).1))
      ∨ ∃ b : Nat, err = .iface 53 (.pointer (some ⟨b, 0, none⟩)) ∧ w.cell? ⟨b, 0, none⟩ = some (.int .i64 (tabE rs).1) ∧ w.cell? ⟨b, 1, none⟩ = some (.int .i64 (tabE rs).2)))

theorem Tryd.sliceNot (a : Addr) (n c : Nat) (w : World) : (binOp .eql 33 (.slice (some a) n c) (.slice none 0 0)).run Tryd.prog w = .ok (.bool false) w := by kernel_rfl
theorem Tryd.infoRow : (Tryd.prog.info? 52).map (fun i => (i.zero, i.size, i.bytes)) = some (some (.agg #[.int .i64 0, .int .i64 0]), 2, 16) := by kernel_rfl

set_option maxHeartbeats 400000 in
theorem clone_any (b off cap : Nat) (rs : List (Int × Int)) (w : World) (h : RowsAt w b off rs) (hne : 0 < rs.length) (hlen : rs.length ≤ 60) :
    Calls Tryd.prog 23 #[.slice (some ⟨b, off, none⟩) rs.length cap] w
      fun e w' => ∃ cb c : Nat, e = .returned (.slice (some ⟨cb, 0, none⟩) rs.length c) ∧ RowsAt w' cb 0 rs ∧ Below w.heap.size w w' := by
  have hs := Tryd.sliceNot ⟨b, off, none⟩ rs.length cap
  obtain ⟨i0, hi, hz0, hz1, hz2⟩ := info_parts Tryd.infoRow
  have hb0 : Below w.heap.size w (w.alloc (.cells #[] 52)) := (Below.refl _ _).alloc (Nat.le_refl _) _
  have h1 : Hid (∀ j u, (flat rs)[j]? = some u → (w.alloc (.cells #[] 52)).cell? ((⟨b, off, none⟩ : Addr).add j) = some u) := fun j u hj => by
    rw [Addr.add_lit]; exact (h.below hb0 (Nat.le_refl _)) j u hj
  have h2 : Hid ((w.alloc (.cells #[] 52)).ownsRow w.heap.size 52 2 (.slice (some ⟨w.heap.size, 0, none⟩) 0 0) 0 []) :=
    ⟨rfl, Or.inr ⟨w.heap.size, 0, #[], rfl, Nat.le_refl _, (MapKept.heap_alloc w _).1, Nat.le_refl _, Nat.zero_le _, rfl, rfl⟩⟩
  clear h hb0
  go_enter Tryd.func23, Tryd.ntmps23
  go_wp2_with (at_builtin; go_loud (refine wpList_append_own _ rfl _ _ 33 rfl w.heap.size 52 i0 (.agg #[.int .i64 0, .int .i64 0]) 2 16 Tryd.underlying33 hi hz0 hz1 hz2 rfl (by decide) _ 0 [] rfl h2.out ⟨b, off, none⟩ rs.length cap (flat rs) rfl (flat_length rs) h1.out (flat_one rs) (by unfold maxLen; omega) (by omega) (by simp) ?_); intro v1 w1 hown hg hnil)
  go_ret
  obtain ⟨hl, ⟨rfl, h0⟩ | ⟨g, c, cur, rfl, hbg, hh, hnc, hcm, hcs, hct⟩⟩ := hown
  · omega
  · refine ⟨g, c, by simp, fun j u hj => ?_, ((Below.refl _ w).alloc (Nat.le_refl _) _).grown hg (by simp) (fun k hk => by cases hk; exact Nat.le_refl _)⟩
    rw [List.nil_append] at hct
    have h3 : cur.toList[j]? = some u := by
      rw [← hct, List.getElem?_take] at hj
      split at hj
      · exact hj
      · cases hj
    have h4 : cur[j]? = some u := by rw [← h3]; simp
    simp [World.cell?, hh, h4]
end Go.Proofs.YtnhhnbomokoglaaDoor
