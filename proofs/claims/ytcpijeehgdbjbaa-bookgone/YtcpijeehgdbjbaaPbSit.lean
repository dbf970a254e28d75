/-
  What the law BookGone holds between its loops: its book, the two sides as they were, and the ids that it added. Conditions stand in each theorem.
-/
import Derived.Test.YtcpijeehgdbjbaaPbLaid
import Derived.Maps.AppendAt
namespace Go.Proofs.Ytcpijeehgdbjbaa
open Go.RowKit

/-- an argument: n orders from an address on -/
structure Giv (W : World) (a : Option Addr) (n : Nat) (X : Nat → Ord) : Prop where
  cells : n = 0 ∨ ∃ b off, a = some ⟨b, off, none⟩ ∧ ∀ i, i < n → W.cell? ⟨b, off + i * 5, none⟩ = some (.int .i64 (X i).id) ∧ W.cell? ⟨b, off + i * 5 + 1, none⟩ = some (.int .i64 (X i).side) ∧ W.cell? ⟨b, off + i * 5 + 2, none⟩ = some (.int .i64 (X i).kind) ∧ W.cell? ⟨b, off + i * 5 + 3, none⟩ = some (.int .i64 (X i).price) ∧ W.cell? ⟨b, off + i * 5 + 4, none⟩ = some (.int .i64 (X i).qty)
  wf : ∀ i, i < n → (Lit.int .i64 (X i).id).wf = true
theorem Giv.later {W W' : World} {a : Option Addr} {n : Nat} {X : Nat → Ord} (h : Giv W a n X) (hb : Below W.heap.size W W') : Giv W' a n X :=
  ⟨h.cells.imp id (fun ⟨b, off, e, hc⟩ => ⟨b, off, e, fun i hi => by
    obtain ⟨h0, h1, h2, h3, h4⟩ := hc i hi
    exact ⟨cell_later hb h0, cell_later hb h1, cell_later hb h2, cell_later hb h3, cell_later hb h4⟩⟩), h.wf⟩

theorem owns_mono {w : World} {base base' : Nat} {e : TypeId} {size : Nat} {v : Value} {n : Nat} {xs : List Value} (h : w.ownsRow base e size v n xs) (hb : base' ≤ base) : w.ownsRow base' e size v n xs := by
  refine ⟨h.1, ?_⟩
  rcases h.2 with hn | ⟨g, cap, cur, rfl, hg, r⟩
  · exact .inl hn
  · exact .inr ⟨g, cap, cur, rfl, Nat.le_trans hb hg, r⟩
/-- rows of ints -/
def iV (l : List Int) : List Value := l.map (fun i => .int .i64 i)
def iAt (l : List Int) (k : Nat) : Int := l.getD k 0
theorem iV_at {l : List Int} {k : Nat} (hk : k < l.length) : (iV l)[k]? = some (.int .i64 (iAt l k)) := by simp [iV, iAt, hk]
theorem iAt_mem {l : List Int} {k : Nat} (hk : k < l.length) : iAt l k = l[k] := by simp [iAt, hk]

/-- the sides that were, and ids that were added, as rows of the call's own -/
structure Sit (w wr : World) (bb B m : Nat) (b : BkS) (v0 v1 vi : Value) (l0 l1 : List Ord) (ids : List Int) : Prop where
  my : MyBk w wr bb m b
  box : wr.heap[B]? = some (.cells #[v0, v1] 44 (0, 0))
  r0 : wr.ownsRow w.heap.size 43 5 v0 l0.length (oV l0)
  r1 : wr.ownsRow w.heap.size 43 5 v1 l1.length (oV l1)
  ri : wr.ownsRow w.heap.size 3 1 vi ids.length (iV ids)
  farB : ¬ b.foot bb B
  far0 : ∀ k, v0.ownBlock = some k → ¬ b.foot bb k
  far1 : ∀ k, v1.ownBlock = some k → ¬ b.foot bb k
  fari : ∀ k, vi.ownBlock = some k → ¬ b.foot bb k
section
variable {w wr w' : World} {bb B m m' : Nat} {b b' : BkS} {v0 v1 vi v' : Value} {l0 l1 : List Ord} {ids : List Int}
theorem Sit.below (h : Sit w wr bb B m b v0 v1 vi l0 l1 ids) (hb : Below wr.heap.size wr w') : Sit w w' bb B m b v0 v1 vi l0 l1 ids :=
  ⟨h.my.below hb, blk_below h.box hb (Nat.le_refl _), owns_below h.r0 hb (Nat.le_refl _), owns_below h.r1 hb (Nat.le_refl _), owns_below h.ri hb (Nat.le_refl _), h.farB, h.far0, h.far1, h.fari⟩
theorem Sit.goes (h : Sit w wr bb B m b v0 v1 vi l0 l1 ids) (hg : Goes wr w' bb m' b b') : Sit w w' bb B m' b' v0 v1 vi l0 l1 ids := by
  have new : ∀ k, k < wr.heap.size → ¬ b.foot bb k → ¬ b'.foot bb k := fun k hk hn e => (hg.2.2 k e).elim hn (fun e' => by omega)
  exact ⟨h.my.goes hg, blk_out h.box hg.2.1 h.farB, owns_out h.r0 hg.2.1 h.far0, owns_out h.r1 hg.2.1 h.far1, owns_out h.ri hg.2.1 h.fari,
    new B (lt_of_some h.box) h.farB, fun k hk => new k (h.r0.lt k hk).2 (h.far0 k hk), fun k hk => new k (h.r1.lt k hk).2 (h.far1 k hk), fun k hk => new k (h.ri.lt k hk).2 (h.fari k hk)⟩
theorem Sit.push (h : Sit w wr bb B m b v0 v1 vi l0 l1 ids) {x : Int} (hown : w'.ownsRow w.heap.size 3 1 v' (ids.length + 1) (iV ids ++ [.int .i64 x])) (hg : wr.grownBy w' vi.ownBlock) (hat : v'.ownBlock = vi.ownBlock ∨ v'.ownBlock = some wr.heap.size) : Sit w w' bb B m b v0 v1 v' l0 l1 (ids ++ [x]) := by
  have o1 : Out (fun k => vi.ownBlock = some k) wr w' := Out.of_grown hg (fun k hk => hk)
  have hbx : vi.ownBlock ≠ some B := owns_type h.ri h.box (by decide)
  refine ⟨⟨h.my.bk.out o1 (fun k hk e => h.fari k e hk), bel_of_out o1 (fun k hk => (h.ri.lt k hk).1) h.my.bel, h.my.mine⟩, blk_out h.box o1 hbx,
    owns_out h.r0 o1 (fun k hk => owns_types h.r0 h.ri (by decide) hk), owns_out h.r1 o1 (fun k hk => owns_types h.r1 h.ri (by decide) hk), ?_, h.farB, h.far0, h.far1, fun k hk => ?_⟩
  · rw [List.length_append, List.length_singleton, show iV (ids ++ [x]) = iV ids ++ [.int .i64 x] by simp [iV]]
    exact hown
  · rcases hat with e | e
    · exact h.fari k (e.symm.trans hk)
    · have : wr.heap.size = k := Option.some.inj (e.symm.trans hk)
      intro hf
      have := h.my.bk.lt hf
      omega
theorem Sit.side {S : Nat → List Ly} (h : Sit w wr bb B m b v0 v1 vi ((S 0).map Ly.o) ((S 1).map Ly.o) ids) {s : Nat} (hs : s < 2) : ∃ ao cap, wr.cell? ⟨B, s, none⟩ = some (.slice ao ((S s).map Ly.o).length cap) ∧ wr.ownsRow w.heap.size 43 5 (.slice ao ((S s).map Ly.o).length cap) ((S s).map Ly.o).length (oV ((S s).map Ly.o)) := by
  match s, hs with
  | 0, _ =>
    obtain ⟨ao, cap, rfl, _, _⟩ := owns_shape h.r0
    exact ⟨ao, cap, blk_cell (j := 0) h.box rfl, h.r0⟩
  | 1, _ =>
    obtain ⟨ao, cap, rfl, _, _⟩ := owns_shape h.r1
    exact ⟨ao, cap, blk_cell (j := 1) h.box rfl, h.r1⟩
theorem Sit.none (h : MyBk w wr bb m b) (hbx : wr.heap[B]? = some (.cells #[v0, v1] 44 (0, 0))) {C : Nat} (h0 : wr.ownsRow C 43 5 v0 l0.length (oV l0)) (h1 : wr.ownsRow C 43 5 v1 l1.length (oV l1))
    (hC : ∀ k, b.foot bb k → k < C) (hB : C ≤ B) (hw : w.heap.size ≤ C) : Sit w wr bb B m b v0 v1 (.slice none 0 0) l0 l1 [] :=
  ⟨h, hbx, owns_mono h0 hw, owns_mono h1 hw, World.ownsRow_nil _ _ _ _, fun e => by have := hC B e; omega, fun k hk e => by have h2 := hC k e; have h3 := (h0.lt k hk).1; omega,
    fun k hk e => by have h2 := hC k e; have h3 := (h1.lt k hk).1; omega, fun k hk => by simp [Value.ownBlock] at hk⟩
end

def pickV (a n : Int) : Int := wrap64 ((IntKind.u64.wrap a).tmod n)
theorem pick_in (a n : Int) (hn : 1 ≤ n ∧ n ≤ 1000000) : 0 ≤ pickV a n ∧ pickV a n < n := by
  have h0 : 0 ≤ IntKind.u64.wrap a := by rw [IntKind.wrap_u64]; omega
  have h1 := Int.tmod_nonneg n h0
  have h2 := Int.tmod_lt_of_pos (IntKind.u64.wrap a) (by omega : 0 < n)
  unfold pickV
  rw [IntWalk.wrap64_in ((IntKind.u64.wrap a).tmod n) (by omega)]
  exact ⟨h1, h2⟩
set_option maxHeartbeats 400000 in
theorem pick_is (a n : Int) (w : World) (hn : 1 ≤ n ∧ n ≤ 1000000) : Calls Try.prog 8 #[.int .i64 a, .int .i64 n] w fun e w' => e = .returned (.int .i64 (pickV a n)) ∧ w' = w := by
  go_enter Try.func8, Try.ntmps8
  go_wp2_with fail
  go_ret
  exact ⟨rfl, rfl⟩

/-- the ids that are still to be cancelled: from the front, or from behind -/
def leftI (back : Bool) (i : Nat) (ids : List Int) : List Int := if back then ids.take (ids.length - i) else ids.drop i
def nextI (back : Bool) (i : Nat) (ids : List Int) : Int := if back then iAt ids (ids.length - 1 - i) else iAt ids i
theorem left_start (back : Bool) (ids : List Int) : leftI back 0 ids = ids := by cases back <;> simp [leftI]
theorem left_end (back : Bool) (ids : List Int) : leftI back ids.length ids = [] := by cases back <;> simp [leftI]
theorem left_next {back : Bool} {i : Nat} {ids : List Int} (hn : ids.Nodup) (hi : i < ids.length) : nextI back i ids ∈ leftI back i ids ∧ ∀ j, j ∈ leftI back (i + 1) ids ↔ (j ∈ leftI back i ids ∧ j ≠ nextI back i ids) := by
  cases back with
  | false =>
    simp only [leftI, nextI, Bool.false_eq_true, if_false]
    have e : ids.drop i = iAt ids i :: ids.drop (i + 1) := by rw [iAt_mem hi]; exact List.drop_eq_getElem_cons hi
    have h1 : (ids.drop i).Nodup := hn.sublist (List.drop_sublist i ids)
    rw [e] at h1 ⊢
    refine ⟨by simp, fun j => ?_⟩
    have h2 := (List.nodup_cons.1 h1).1
    constructor
    · intro hj; exact ⟨List.mem_cons_of_mem _ hj, fun e' => h2 (e' ▸ hj)⟩
    · rintro ⟨hj, hne⟩
      rcases List.mem_cons.1 hj with rfl | hj
      · exact absurd rfl hne
      · exact hj
  | true =>
    simp only [leftI, nextI, if_true]
    have hk : ids.length - 1 - i < ids.length := by omega
    have e : ids.take (ids.length - i) = ids.take (ids.length - (i + 1)) ++ [iAt ids (ids.length - 1 - i)] := by
      rw [iAt_mem hk, show ids.length - i = (ids.length - 1 - i) + 1 by omega, show ids.length - (i + 1) = ids.length - 1 - i by omega]
      exact List.take_succ_eq_append_getElem hk
    have h1 : (ids.take (ids.length - i)).Nodup := hn.sublist (List.take_sublist _ ids)
    rw [e] at h1 ⊢
    refine ⟨by simp, fun j => ?_⟩
    rw [List.nodup_append] at h1
    constructor
    · intro hj; exact ⟨List.mem_append_left _ hj, h1.2.2 j hj _ (by simp)⟩
    · rintro ⟨hj, hne⟩
      rcases List.mem_append.1 hj with hj | hj
      · exact hj
      · exact absurd (by simpa using hj) hne
end Go.Proofs.Ytcpijeehgdbjbaa
