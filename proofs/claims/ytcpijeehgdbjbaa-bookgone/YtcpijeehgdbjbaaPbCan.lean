/-
  What the program's Cancel does, over this seat's translation. Conditions stand in each theorem.
-/
import Derived.Test.YtcpijeehgdbjbaaPbFind
namespace Go.Proofs.Ytcpijeehgdbjbaa
open Go.RowKit

attribute [local go_sem ↓] Go.wp_at_zero Go.wp_at_succ

set_option maxRecDepth 100000 in
set_option maxHeartbeats 2000000 in
theorem cancel_no (bb m : Nat) (b : BkS) (id : Int) (w : World) (h : Bk w bb m b) (hw : (Lit.int .i64 id).wf = true) (hno : ∀ s, s < 2 → ∀ x ∈ b.S s, x.o.id ≠ id) :
    Calls Try.prog 22 #[.pointer (some ⟨bb, 0, none⟩), .int .i64 id] w fun e W' => e = .returned (.tuple #[Ord.none_.agg, .iface 55 (.int .i64 7)]) ∧ Below w.heap.size w W' := by
  have H : Hid (Bk w bb m b) := h
  have HN : Hid (∀ s, s < 2 → ∀ x ∈ b.S s, x.o.id ≠ id) := hno
  clear h hno
  go_enter Try.func22, Try.ntmps22
  go_wp2_with fail
  refine (find_no bb m b id _ (H.out.below (bel1 _ _) (Nat.le_refl _)) hw HN.out).mono ?_
  rintro e w1 ⟨rfl, hb1⟩
  unfold Ord.agg Ord.none_
  have hr := blk_below (heap_alloc_new w _) hb1 (Nat.le_refl _)
  have HB1 : Hid (Below w.heap.size w w1) := bel_then (bel1 _ _) hb1
  clear hb1
  go_upto_region 3 with fail
  have hb2 := bel2 w1 (.cells #[.int .i64 0, .int .i64 0, .int .i64 0, .int .i64 0, .int .i64 0] 43) (.cells #[.int .i64 0, .int .i64 0, .int .i64 0] 78)
  have hr := blk_below hr hb2 (Nat.le_refl _)
  generalize (w1.alloc (.cells #[.int .i64 0, .int .i64 0, .int .i64 0, .int .i64 0, .int .i64 0] 43)).alloc (.cells #[.int .i64 0, .int .i64 0, .int .i64 0] 78) = w2 at hb2 hr ⊢
  have HB2 : Hid (Below w.heap.size w w2) := bel_then HB1.out hb2
  have a0 := blk_cell (j := 0) hr rfl
  have a1 := blk_cell (j := 1) hr rfl
  have a2 := blk_cell (j := 2) hr rfl
  have a3 := blk_cell (j := 3) hr rfl
  have a4 := blk_cell (j := 4) hr rfl
  have f0 := blk_free (j := 0) hr
  have f1 := blk_free (j := 1) hr
  have f2 := blk_free (j := 2) hr
  have f3 := blk_free (j := 3) hr
  have f4 := blk_free (j := 4) hr
  clear hb2 hr
  go_wp2
  refine bodyPost_ret (by simp [results, Try.results22, go_sem, a0, a1, a2, a3, a4]; try rfl) rfl ?_
  refine ⟨rfl, ?_⟩
  have s0 : Below w.heap.size w2 w2 := Below.refl _ _
  exact HB2.out.trans (((((s0.setCell (p := ⟨w.heap.size, 0, none⟩) (by simp) _).setCell (p := ⟨w.heap.size, 1, none⟩) (by simp) _).setCell (p := ⟨w.heap.size, 2, none⟩) (by simp) _).setCell (p := ⟨w.heap.size, 3, none⟩) (by simp) _).setCell (p := ⟨w.heap.size, 4, none⟩) (by simp) _)

theorem row_form {w : World} {v : Value} {n : Nat} {l : List Value} (h : w.ownsRow 0 76 2 v n l) (hn : 0 < n) : ∃ g cap, v = .slice (some ⟨g, 0, none⟩) n cap := by
  rcases h.2 with ⟨rfl, rfl⟩ | ⟨g, cap, cur, rfl, _⟩
  · exact absurd hn (Nat.lt_irrefl 0)
  · exact ⟨g, cap, rfl⟩
theorem only_one {m s i : Nat} {rs : List Sot} {fr : List Nat} {S : Nat → List Ly} {x : Ly} (h : Pb m rs fr S) (hs : s < 2) (hi : i < (S s).length) (hx : lyAt (S s) i = x) : isH (lyAt (S s) i) x.slot x.age = true ∧ ∀ j, j < (S s).length → j ≠ i → isH (lyAt (S s) j) x.slot x.age = false := by
  have hn : ((S s).map Ly.slot).Nodup := by
    have := h.nd
    rw [List.map_append] at this
    match s, hs with
    | 0, _ => exact (List.nodup_append.1 this).1
    | 1, _ => exact (List.nodup_append.1 this).2.1
  refine ⟨by rw [hx]; simp [isH], fun j hj hji => ?_⟩
  have hne : (lyAt (S s) j).slot ≠ x.slot := fun e => hji (by
    rw [← hx, lyAt_eq hi, lyAt_eq hj] at e
    have h1 : j < ((S s).map Ly.slot).length := by simpa using hj
    have h2 : i < ((S s).map Ly.slot).length := by simpa using hi
    exact (List.getElem_inj (h₀ := h1) (h₁ := h2) hn).1 (by simpa using e))
  simp [isH, hne]
theorem lyAt_of_mem {x : Ly} {l : List Ly} (h : x ∈ l) : ∃ i, i < l.length ∧ lyAt l i = x := by
  obtain ⟨i, hi, e⟩ := List.mem_iff_getElem.1 h
  exact ⟨i, hi, by rw [lyAt_eq hi]; exact e⟩
theorem gone_mem {m s i : Nat} {rs : List Sot} {fr : List Nat} {S : Nat → List Ly} {x : Ly} (h : Pb m rs fr S) (hs : s < 2) (hi : i < (S s).length) (hx : lyAt (S s) i = x) : ∀ t, t < 2 → ∀ y, y ∈ upS S s (outAt i (S s)) t ↔ (y ∈ S t ∧ y.o.id ≠ x.o.id) := by
  have hp := outAt_perm hi
  rw [hx] at hp
  have hall : (S 0 ++ S 1).Perm (x :: (upS S s (outAt i (S s)) 0 ++ upS S s (outAt i (S s)) 1)) := (pb_all S hs).trans ((hp.append_right _).trans ((pb_up S _ hs).symm.cons _))
  have hid := (hall.map fun x => x.o.id).nodup_iff.1 h.ids
  simp only [List.map_cons, List.nodup_cons, List.mem_map, not_exists, not_and] at hid
  intro t ht y
  have hin : y ∈ upS S s (outAt i (S s)) t → y.o.id ≠ x.o.id := fun hy e => hid.1 y (by
    match t, ht with
    | 0, _ => exact List.mem_append_left _ hy
    | 1, _ => exact List.mem_append_right _ hy) e
  by_cases e : t = s
  · subst e
    rw [upS_same] at hin ⊢
    refine ⟨fun hy => ⟨hp.mem_iff.2 (List.mem_cons_of_mem _ hy), hin hy⟩, fun ⟨hy, hne⟩ => ?_⟩
    rcases List.mem_cons.1 (hp.mem_iff.1 hy) with e | e
    · exact absurd (by rw [e]) hne
    · exact e
  · rw [upS_other _ e] at hin ⊢
    exact ⟨fun hy => ⟨hy, hin hy⟩, fun hy => hy.1⟩

def bkGone (b : BkS) (s i : Nat) (x : Ly) (vf' v' : Value) : BkS :=
  ⟨b.ab, b.mb, b.n, b.vs, vf', rowV b.v0 v' s 0, rowV b.v1 v' s 1, b.rs.set x.slot (none, x.age + 1), b.fr ++ [x.slot], upS b.S s (outAt i (b.S s))⟩
/-- the order's slot is free: all is in order again -/
theorem can_fin {w w3 w7 w8 w9 : World} {bb m s i g cap : Nat} {b : BkS} {x : Ly} {vf' : Value} (h : Bk w bb m b) (hm : m + 1 ≤ 900) (hs : s < 2) (hx : x ∈ b.S s) (hi : i < (b.S s).length) (hix : lyAt (b.S s) i = x)
    (hO : Out (b.foot bb) w w3) (hz : w.heap.size < w3.heap.size) (hvo : (vAt b.v0 b.v1 s).ownBlock = some g) (hT : Out (fun j => j = bb ∨ (vAt b.v0 b.v1 s).ownBlock = some j) w3 w7)
    (hG : BookG w7 bb b.ab b.mb b.n b.vs b.vf (rowV b.v0 (.slice (some ⟨g, 0, none⟩) (outAt i (b.S s)).length cap) s 0) (rowV b.v1 (.slice (some ⟨g, 0, none⟩) (outAt i (b.S s)).length cap) s 1) b.rs b.fr (upS b.S s (outAt i (b.S s))) (upS b.S s (outAt i (b.S s))))
    (ha : ArOr w8 b.ab 100 b.vs vf' (b.rs.set x.slot (none, x.age + 1)) (b.fr ++ [x.slot])) (ho8 : Out (aoB b.ab b.vs b.vf) w7 w8) (hw8 : Went w7 (aoB b.ab b.vs b.vf) (aoB b.ab b.vs vf')) (h9 : Out (fun j => j = w.heap.size) w8 w9) :
    Goes w w9 bb (m + 1) b (bkGone b s i x vf' (.slice (some ⟨g, 0, none⟩) (outAt i (b.S s)).length cap)) := by
  have hp := outAt_perm hi
  rw [hix] at hp
  have hz7 : w.heap.size < w7.heap.size := Nat.lt_of_lt_of_le hz hT.size
  have hw := rowV_went (w := w) (v0 := b.v0) (v1 := b.v1) (v' := .slice (some ⟨g, 0, none⟩) (outAt i (b.S s)).length cap) hs (fun j hj => by
      have e : g = j := by simpa [Value.ownBlock] using hj
      subst e
      exact Or.inl hvo)
  have hold : ∀ j, (rowV b.v0 (.slice (some ⟨g, 0, none⟩) (outAt i (b.S s)).length cap) s 0).ownBlock = some j ∨ (rowV b.v1 (.slice (some ⟨g, 0, none⟩) (outAt i (b.S s)).length cap) s 1).ownBlock = some j → j < w3.heap.size ∧ (b.v0.ownBlock = some j ∨ b.v1.ownBlock = some j) := fun j hj => by
    have h0 : b.v0.ownBlock = some j ∨ b.v1.ownBlock = some j := by
      match s, hs with
      | 0, _ =>
        rcases hj with hj | hj
        · have e : g = j := by simpa [rowV, Value.ownBlock] using hj
          exact Or.inl (e ▸ hvo)
        · exact Or.inr hj
      | 1, _ =>
        rcases hj with hj | hj
        · exact Or.inl hj
        · have e : g = j := by simpa [rowV, Value.ownBlock] using hj
          exact Or.inr (e ▸ hvo)
    exact ⟨Nat.lt_trans (h.lt (Or.inr (Or.inr (Or.inr h0)))) hz, h0⟩
  have hW : Went w (b.foot bb) ((bkGone b s i x vf' (.slice (some ⟨g, 0, none⟩) (outAt i (b.S s)).length cap)).foot bb) := by
    rintro j (hj | hj | hj | hj)
    · exact Or.inl (Or.inl hj)
    · exact (hw8 j hj).imp (fun h => Or.inr (Or.inl h)) (fun h => Nat.le_of_lt (Nat.lt_of_lt_of_le hz7 h))
    · exact Or.inl (Or.inr (Or.inr (Or.inl hj)))
    · exact Or.inl (Or.inr (Or.inr (Or.inr (hold j hj).2)))
  refine ⟨⟨((hG.newAr ho8 ha).out h9 (fun k hk e => ?_)).done, h.ok.gone hs hx hp, Nat.le_succ_of_le h.small, hm⟩, ?_, hW⟩
  · have e' : k = w.heap.size := e
    have nl : ∀ j, b.foot bb j → j ≠ w.heap.size := fun j hj e => by have := h.lt hj; omega
    rcases hk with hk | hk | hk | hk
    · exact nl k (Or.inl hk) e'
    · rcases hw8 k hk with h1 | h1
      · exact nl k (Or.inr (Or.inl h1)) e'
      · omega
    · exact nl k (Or.inr (Or.inr (Or.inl hk))) e'
    · exact nl k (Or.inr (Or.inr (Or.inr (hold k hk).2))) e'
  · have o1 := hO.trans (hT.mono (S' := b.foot bb) (fun j hj => by
      rcases hj with hj | hj
      · exact Or.inl hj
      · exact Or.inr (Or.inr (Or.inr (vAt_own hs hj))))) (Went.refl _ _)
    have o2 := o1.trans (ho8.mono (S' := b.foot bb) (fun j hj => Or.inr (Or.inl hj))) (Went.refl _ _)
    exact o2.trans h9 (fun j hj => Or.inr (by rw [show j = w.heap.size from hj]; exact Nat.le_refl _))

set_option maxRecDepth 100000 in
set_option maxHeartbeats 4000000 in
theorem cancel_yes (bb m s : Nat) (b : BkS) (x : Ly) (w : World) (h : Bk w bb m b) (hm : m + 1 ≤ 900) (hs : s < 2) (hx : x ∈ b.S s) :
    Calls Try.prog 22 #[.pointer (some ⟨bb, 0, none⟩), .int .i64 x.o.id] w fun e W' => e = .returned (.tuple #[x.o.agg, .nilIface]) ∧ ∃ b' : BkS, (∃ i, i < (b.S s).length ∧ lyAt (b.S s) i = x ∧ b'.S = upS b.S s (outAt i (b.S s))) ∧ Goes w W' bb (m + 1) b b' := by
  have H : Hid (Bk w bb m b) := h
  clear h
  unfold Ord.agg
  go_enter Try.func22, Try.ntmps22
  go_wp2_with fail
  refine (find_yes bb m s b x _ (H.out.below (bel1 _ _) (Nat.le_refl _)) hs hx).mono ?_
  rintro e w1 ⟨rfl, hb1⟩
  unfold Ord.agg plV
  have hr := blk_below (heap_alloc_new w _) hb1 (Nat.le_refl _)
  have HB1 : Hid (Below w.heap.size w w1) := bel_then (bel1 _ _) hb1
  clear hb1
  go_upto_region 4 with fail
  have hb2 := bel2 w1 (.cells #[.int .i64 x.o.id, .int .i64 x.o.side, .int .i64 x.o.kind, .int .i64 x.o.price, .int .i64 x.o.qty] 43) (.cells #[.int .i64 x.slot, .int .i64 x.age, .int .i64 s] 78)
  have hr := blk_below hr hb2 (Nat.le_refl _)
  have hp := two_new w1 (.cells #[.int .i64 x.o.id, .int .i64 x.o.side, .int .i64 x.o.kind, .int .i64 x.o.price, .int .i64 x.o.qty] 43) (.cells #[.int .i64 x.slot, .int .i64 x.age, .int .i64 s] 78)
  have hpl : w.heap.size < w1.heap.size + 1 := Nat.lt_succ_of_le HB1.out.size
  generalize (w1.alloc (.cells #[.int .i64 x.o.id, .int .i64 x.o.side, .int .i64 x.o.kind, .int .i64 x.o.price, .int .i64 x.o.qty] 43)).alloc (.cells #[.int .i64 x.slot, .int .i64 x.age, .int .i64 s] 78) = w2 at hb2 hr hp ⊢
  generalize w1.heap.size + 1 = pb at hp hpl ⊢
  have HB2 : Hid (Below w.heap.size w w2) := bel_then HB1.out hb2
  clear hb2 HB1
  have HBK : Hid (Bk w2 bb m b) := H.out.below HB2.out (Nat.le_refl _)
  obtain ⟨i, hil, hix⟩ := lyAt_of_mem hx
  have m1 : w2.cell? ⟨bb, 1, none⟩ = some (.map (some b.mb)) := blk_cell (j := 1) HBK.out.at_.box rfl
  obtain ⟨w3, hrun, hm3, ho3⟩ := HBK.out.at_.map.del (H.out.ok.ok s hs x hx).2.1 (gone_mem H.out.ok hs hil hix) 0
  have hG3 := HBK.out.at_.mid.newMap ho3 hm3
  have hr := blk_out hr ho3 (HBK.out.at_.map.ne hr)
  have hp := blk_out hp ho3 (HBK.out.at_.map.ne hp)
  have HO3 : Hid (Out (b.foot bb) w w3) := (Out.of_below HB2.out (Nat.le_refl _)).trans (ho3.mono (S' := b.foot bb) (fun j hj => Or.inr (Or.inr (Or.inl hj)))) (Went.refl _ _)
  go_wp2_with fail
  clear hrun m1 hm3 ho3
  obtain ⟨hrow, _, _⟩ := hG3.rowIs hs
  obtain ⟨g, cap, hv⟩ := row_form hrow (by omega)
  have HG3 : Hid (BookG w3 bb b.ab b.mb b.n b.vs b.vf b.v0 b.v1 b.rs b.fr (upS b.S s (outAt i (b.S s))) b.S) := hG3
  have HR3 : Hid (w3.heap[w.heap.size]? = some (.cells #[.int .i64 0, .int .i64 0, .int .i64 0, .int .i64 0, .int .i64 0] 43 (0, 0))) := hr
  have HP3 : Hid (w3.heap[pb]? = some (.cells #[.int .i64 x.slot, .int .i64 x.age, .int .i64 s] 78 (0, 0))) := hp
  have HROW : Hid (w3.ownsRow 0 76 2 (.slice (some ⟨g, 0, none⟩) (b.S s).length cap) (b.S s).length (hV (b.S s))) := by rw [hv] at hrow; exact hrow
  have HV : Hid (vAt b.v0 b.v1 s = .slice (some ⟨g, 0, none⟩) (b.S s).length cap) := hv
  have hgw : g < w.heap.size := by
    have h1 : (vAt b.v0 b.v1 s).ownBlock = some g := by rw [hv]; rfl
    exact ((H.out.at_.mid.rowIs hs).1.lt g h1).2
  have ng : ∀ {j : Nat} {vs : Array Value} {t : TypeId}, w3.heap[j]? = some (.cells vs t (0, 0)) → t ≠ 76 → ¬ (j = g) := fun {j vs t} hj ht e => owns_type HROW.out hj ht (by rw [e]; rfl)
  have HS5 : Hid (∀ w', Out (fun j => j = g) w3 w' → (w'.cell? ⟨pb, 1, none⟩ = some (.int .i64 x.age) ∧ w'.cell? ⟨pb, 2, none⟩ = some (.int .i64 s) ∧ w'.cell? ⟨bb, 2 + s, none⟩ = some (.slice (some ⟨g, 0, none⟩) (b.S s).length cap) ∧ Out (fun j => j = g) w3 w')) := fun w' ho => by
    have g1 := blk_out HP3.out ho (ng HP3.out (by decide))
    have g2 := blk_out HG3.out.box ho (ng HG3.out.box (by decide))
    exact ⟨blk_cell (j := 1) g1 rfl, blk_cell (j := 2) g1 rfl, by rw [← HV.out]; exact (box_cell g2 hs).1, ho⟩
  clear hG3 hr hp hrow hv
  have hln : (b.S s).length ≤ 1000 := by
    have h1 := (pb_len b.S [] hs).2
    have h2 := H.out.ok.most
    omega
  have HON : Hid (isH (lyAt (b.S s) i) x.slot x.age = true ∧ ∀ j, j < (b.S s).length → j ≠ i → isH (lyAt (b.S s) j) x.slot x.age = false) := only_one H.out.ok hs hil hix
  have q1 : (0 : Int) ≤ (s : Int) := by omega
  have q2 : (s : Int) < 2 := by omega
  refine wp_region_late (fun w' => w'.cell? ⟨pb, 1, none⟩ = some (.int .i64 x.age) ∧ w'.cell? ⟨pb, 2, none⟩ = some (.int .i64 s) ∧ w'.cell? ⟨bb, 2 + s, none⟩ = some (.slice (some ⟨g, 0, none⟩) (b.S s).length cap) ∧ Out (fun j => j = g) w3 w') (fun i => i == 15) (by kernel_rfl) (HS5.out _ (out_drew (Out.refl _ _))) (fun hHeld => ?_)
  refine wpAnyL_take (i := 0) (v := ?_) rfl (by kernel_rfl) (by kernel_rfl) (by kernel_rfl) (by kernel_rfl) (by kernel_rfl) (fun _ _ _ h => h) (by rfl) ?_ (by assumption) ?_
  rotate_left
  · intro w hSw
    try dsimp only at hSw
    go_simp
    try rfl
  refine wpAnyL_take (i := 1) (v := ?_) rfl (by kernel_rfl) (by kernel_rfl) (by kernel_rfl) (by kernel_rfl) (by kernel_rfl) (fun _ _ _ h => h) (by rfl) ?_ (by assumption) ?_
  rotate_left
  · intro w hSw
    try dsimp only at hSw
    go_simp
    try rfl
  refine wpAnyL_take (i := 2) (v := ?_) rfl (by kernel_rfl) (by kernel_rfl) (by kernel_rfl) (by kernel_rfl) (by kernel_rfl) (fun _ _ _ h => h) (by rfl) ?_ (by assumption) ?_
  rotate_left
  · intro w hSw
    try dsimp only at hSw
    go_simp
    try rfl
  refine wpAnyL_take (i := 3) (v := ?_) rfl (by kernel_rfl) (by kernel_rfl) (by kernel_rfl) (by kernel_rfl) (by kernel_rfl) (fun _ _ _ h => h) (by rfl) ?_ (by assumption) ?_
  rotate_left
  · intro w hSw
    try dsimp only at hSw
    go_simp
    try rfl
  refine wpAnyL_take (i := 4) (v := ?_) rfl (by kernel_rfl) (by kernel_rfl) (by kernel_rfl) (by kernel_rfl) (by kernel_rfl) (fun _ _ _ h => h) (by rfl) ?_ (by assumption) ?_
  rotate_left
  · intro w hSw
    try dsimp only at hSw
    go_simp
    try rfl
  refine wpAnyL_take (i := 5) (v := ?_) rfl (by kernel_rfl) (by kernel_rfl) (by kernel_rfl) (by kernel_rfl) (by kernel_rfl) (fun _ _ _ h => h) (by rfl) ?_ (by assumption) ?_
  rotate_left
  · intro w hSw
    try dsimp only at hSw
    go_simp
    try rfl
  refine wpAnyL_take (i := 6) (v := ?_) rfl (by kernel_rfl) (by kernel_rfl) (by kernel_rfl) (by kernel_rfl) (by kernel_rfl) (fun _ _ _ h => h) (by rfl) ?_ (by assumption) ?_
  rotate_left
  · intro w hSw
    try dsimp only at hSw
    go_simp
    try rfl
  refine wpAnyL_take (i := 7) (v := ?_) rfl (by kernel_rfl) (by kernel_rfl) (by kernel_rfl) (by kernel_rfl) (by kernel_rfl) (fun _ _ _ h => h) (by rfl) ?_ (by assumption) ?_
  rotate_left
  · intro w hSw
    try dsimp only at hSw
    go_simp
    try rfl
  refine wpAnyL_take (i := 8) (v := ?_) rfl (by kernel_rfl) (by kernel_rfl) (by kernel_rfl) (by kernel_rfl) (by kernel_rfl) (fun _ _ _ h => h) (by rfl) ?_ (by assumption) ?_
  rotate_left
  · intro w hSw
    try dsimp only at hSw
    go_simp
    try rfl
  refine wpAnyL_take (i := 9) (v := ?_) rfl (by kernel_rfl) (by kernel_rfl) (by kernel_rfl) (by kernel_rfl) (by kernel_rfl) (fun _ _ _ h => h) (by rfl) ?_ (by assumption) ?_
  rotate_left
  · intro w hSw
    try dsimp only at hSw
    go_simp
    try rfl
  refine wpAnyL_take (i := 10) (v := ?_) rfl (by kernel_rfl) (by kernel_rfl) (by kernel_rfl) (by kernel_rfl) (by kernel_rfl) (fun _ _ _ h => h) (by rfl) ?_ (by assumption) ?_
  rotate_left
  · intro w hSw
    try dsimp only at hSw
    go_simp
    try rfl
  refine wpAnyL_take (i := 12) (v := ?_) rfl (by kernel_rfl) (by kernel_rfl) (by kernel_rfl) (by kernel_rfl) (by kernel_rfl) (fun _ _ _ h => h) (by rfl) ?_ (by assumption) ?_
  rotate_left
  · intro w hSw
    try dsimp only at hSw
    go_simp
    try rfl
  refine wpAnyL_take (i := 13) (v := ?_) rfl (by kernel_rfl) (by kernel_rfl) (by kernel_rfl) (by kernel_rfl) (by kernel_rfl) (fun _ _ _ h => h) (by rfl) ?_ (by assumption) ?_
  rotate_left
  · intro w hSw
    try dsimp only at hSw
    go_simp
    try rfl
  refine wpAnyL_ready (rs := [11]) (by kernel_rfl) (by simp) ?_
  refine AllReadyL.cons rfl (fun K hK => ?_) AllReadyL.nil
  go_simp
  refine (deleteF pb x.slot i g cap x.age s (b.S s) _ (owns_below HROW.out (Below.refl _ _).drew (Nat.le_refl _)) hln hil HON.out.1 HON.out.2 HP3.out).mono ?_
  rintro e w6 ⟨rfl, hr6, ho6⟩
  dsimp only
  have ho6 : Out (fun j => j = g) w3 w6 := out_then (out_drew (Out.refl _ _)) ho6
  have b6 := box_cell (blk_out HG3.out.box ho6 (ng HG3.out.box (by decide))) hs
  have e6 := b6.1
  have f6 := b6.2
  refine hK.out _ _ (fun _ => HS5.out _ ho6) (fun hHeld => ?_)
  replace hHeld := hHeld rfl
  clear hK K b6
  refine wpAnyL_ready (rs := [14]) (by kernel_rfl) (by simp) ?_
  refine AllReadyL.cons rfl (fun K hK => ?_) AllReadyL.nil
  go_simp
  refine hK.out _ _ (fun _ => HS5.out _ ho6) (fun hHeld => ?_)
  replace hHeld := hHeld rfl
  clear hK K
  refine wpAnyL_ready (rs := [15]) (by kernel_rfl) (by simp) ?_
  refine AllReadyL.cons rfl (fun K hK => ?_) AllReadyL.nil
  go_simp
  refine hK.out _ _ (fun h => by cases h) (fun _ => ?_)
  refine wpAnyL_done (by kernel_rfl) ?_ _
  go_wp2_with fail
  have hvo : (vAt b.v0 b.v1 s).ownBlock = some g := by rw [HV.out]; rfl
  obtain ⟨hG, hT⟩ := HG3.out.newRow hs hr6 (ho6.mono (fun j hj => by rw [show j = g from hj]; exact hvo)) (Or.inl hvo)
  generalize w6.setCell ⟨bb, 2 + s, none⟩ (.slice (some ⟨g, 0, none⟩) (outAt i (b.S s)).length cap) = w7 at hG hT ⊢
  have hz : w.heap.size < w3.heap.size := lt_of_block HR3.out
  have n7 : ∀ {j : Nat} {vs : Array Value} {t : TypeId}, w3.heap[j]? = some (.cells vs t (0, 0)) → t ≠ 74 → t ≠ 76 → ¬ (j = bb ∨ (vAt b.v0 b.v1 s).ownBlock = some j) := fun {j vs t} hj ht ht2 e => by
    rcases e with e | e
    · exact blk_ne hj HG3.out.box ht e
    · rw [hvo] at e
      exact ng hj ht2 (by injection e with e; exact e.symm)
  have hr7 := blk_out HR3.out hT (n7 HR3.out (by decide) (by decide))
  have hp7 := blk_out HP3.out hT (n7 HP3.out (by decide) (by decide))
  have HG7 : Hid (BookG w7 bb b.ab b.mb b.n b.vs b.vf (rowV b.v0 (.slice (some ⟨g, 0, none⟩) (outAt i (b.S s)).length cap) s 0) (rowV b.v1 (.slice (some ⟨g, 0, none⟩) (outAt i (b.S s)).length cap) s 1) b.rs b.fr (upS b.S s (outAt i (b.S s))) (upS b.S s (outAt i (b.S s)))) := hG
  have HT : Hid (Out (fun j => j = bb ∨ (vAt b.v0 b.v1 s).ownBlock = some j) w3 w7) := hT
  have HVO : Hid ((vAt b.v0 b.v1 s).ownBlock = some g) := hvo
  have HR7 : Hid (w7.heap[w.heap.size]? = some (.cells #[.int .i64 0, .int .i64 0, .int .i64 0, .int .i64 0, .int .i64 0] 43 (0, 0))) := hr7
  have HP7 : Hid (w7.heap[pb]? = some (.cells #[.int .i64 x.slot, .int .i64 x.age, .int .i64 s] 78 (0, 0))) := hp7
  have na : ∀ j, aoB b.ab b.vs b.vf j → j < w.heap.size := fun j hj => H.out.lt (Or.inr (Or.inl hj))
  have HS6 : Hid (∀ w', Out (fun j => aoB b.ab b.vs b.vf j ∨ j = w.heap.size) w7 w' → (w'.cell? ⟨bb, 0, none⟩ = some (.pointer (some ⟨b.ab, 0, none⟩)) ∧ w'.cell? ⟨pb, 0, none⟩ = some (.int .i64 x.slot) ∧ w'.cell? ⟨pb, 1, none⟩ = some (.int .i64 x.age) ∧ Out (fun j => aoB b.ab b.vs b.vf j ∨ j = w.heap.size) w7 w')) := fun w' ho => by
    have lb : bb < w.heap.size := H.out.lt (Or.inl rfl)
    have g1 := blk_out HG7.out.box ho (fun e => by
      rcases e with e | e
      · exact H.out.at_.notBox e
      · omega)
    have g2 := blk_out HP7.out ho (fun e => by
      rcases e with e | e
      · have := na _ e; omega
      · omega)
    exact ⟨blk_cell (j := 0) g1 rfl, blk_cell (j := 0) g2 rfl, blk_cell (j := 1) g2 rfl, ho⟩
  have HAT : Hid (soAt b.rs x.slot = (some x.o, x.age)) := H.out.ok.there s hs x hx
  have hcl : b.rs.length ≤ 1000 := by have := H.out.ok.so.small; have := H.out.steps; omega
  have hfl : b.fr.length ≤ b.rs.length := by have := H.out.ok.so.cnt; omega
  have HAG : Hid (0 ≤ x.age ∧ x.age ≤ 1000) := by
    have h1 := H.out.ok.so.ages x.slot
    rw [HAT.out] at h1
    have h2 := H.out.steps
    have h3 : 0 ≤ x.age ∧ x.age ≤ (m : Int) := h1
    show _ ∧ _
    omega
  have hs0 := HS6.out w7 (Out.refl _ _)
  clear hr7 hp7 hG hT hvo hr6 ho6 hHeld e6 f6 q1 q2
  go_region_held3 (fun w' => w'.cell? ⟨bb, 0, none⟩ = some (.pointer (some ⟨b.ab, 0, none⟩)) ∧ w'.cell? ⟨pb, 0, none⟩ = some (.int .i64 x.slot) ∧ w'.cell? ⟨pb, 1, none⟩ = some (.int .i64 x.age) ∧ Out (fun j => aoB b.ab b.vs b.vf j ∨ j = w.heap.size) w7 w')
    ((refine HS6.out _ ?_; (repeat' first | assumption | exact out_drew (Out.refl _ _) | refine out_setIn ?_ (Or.inr rfl))))
    (first | (go_at_call 43; refine (oaTake b.ab 100 b.vs b.vf b.rs b.fr x.slot x.o x.age _ (HG7.out.ar.below (Below.refl _ _).drew (Nat.le_refl _)) HAT.out hcl hfl HAG.out).mono ?_; rintro e w8 ⟨rfl, vf', ha8, ho8, hw8⟩; have ho8 : Out (aoB b.ab b.vs b.vf) w7 w8 := out_then (out_drew (Out.refl _ _)) ho8; have hO8 : Out (fun j => aoB b.ab b.vs b.vf j ∨ j = w.heap.size) w7 w8 := ho8.mono (fun _ h => Or.inl h); have hx8 := blk_out HR7.out ho8 (fun e => Nat.lt_irrefl _ (na _ e)); have y0 := blk_free (j := 0) hx8; have y1 := blk_free (j := 1) hx8; have y2 := blk_free (j := 2) hx8; have y3 := blk_free (j := 3) hx8; have y4 := blk_free (j := 4) hx8; have x0 := blk_cell (j := 0) hx8 rfl; have x1 := blk_cell (j := 1) hx8 rfl; have x2 := blk_cell (j := 2) hx8 rfl; have x3 := blk_cell (j := 3) hx8 rfl; have x4 := blk_cell (j := 4) hx8 rfl; unfold Ord.agg; clear hx8))
  go_wp2
  refine bodyPost_ret (by simp [results, Try.results22, go_sem, x0, x1, x2, x3, x4]; try rfl) rfl ?_
  refine ⟨rfl, _, ⟨i, hil, hix, rfl⟩, can_fin H.out hm hs hx hil hix HO3.out hz HVO.out HT.out HG7.out ha8 ho8 hw8 ?_⟩
  exact out_setIn (out_setIn (out_setIn (out_setIn (out_setIn (Out.refl _ _) rfl) rfl) rfl) rfl) rfl
end Go.Proofs.Ytcpijeehgdbjbaa
