/-
  Handles that were given, and whether their things are there, as plain lists: what stays true of them while things are put and taken. No program is named here but the types of the rows.
-/
import Derived.Test.YtgocmaijpihakaaDoorArGiven
namespace Go.Proofs.YtgocmaijpihakaaDoor
open Go.RowKit

def hAt (hs : List (Nat × Int)) (i : Nat) : Nat × Int := hs.getD i (0, 0)
def tAt (ts : List Bool) (i : Nat) : Bool := ts.getD i false
def cntT : List Bool → Nat
  | [] => 0
  | t :: ts => (if t then 1 else 0) + cntT ts
theorem cntT_append (a b : List Bool) : cntT (a ++ b) = cntT a + cntT b := by
  induction a with
  | nil => simp [cntT]
  | cons r a ih => simp [cntT, ih]; omega
theorem cntT_le (ts : List Bool) : cntT ts ≤ ts.length := by
  induction ts with
  | nil => simp [cntT]
  | cons r a ih => simp [cntT]; split <;> omega
theorem cntT_take {ts : List Bool} {k : Nat} (h : k < ts.length) : cntT (ts.take (k + 1)) = cntT (ts.take k) + (if tAt ts k then 1 else 0) := by
  rw [List.take_succ_eq_append_getElem h, cntT_append]; simp [cntT, tAt, h]
theorem cntT_set {ts : List Bool} {k : Nat} (h : k < ts.length) : cntT (ts.set k false) + (if tAt ts k then 1 else 0) = cntT ts := by
  induction ts generalizing k with
  | nil => simp at h
  | cons r ts ih =>
    cases k with
    | zero => simp [cntT, tAt]; omega
    | succ k =>
      have := ih (k := k) (by simpa using h)
      simp only [List.set_cons_succ, cntT]
      have e : tAt (r :: ts) (k + 1) = tAt ts k := by simp [tAt]
      rw [e]; omega
theorem tAt_set_same {ts : List Bool} {k : Nat} (h : k < ts.length) : tAt (ts.set k false) k = false := by simp [tAt, h]
theorem tAt_set_other {ts : List Bool} {k j : Nat} (h : k ≠ j) : tAt (ts.set k false) j = tAt ts j := by simp [tAt, h]
theorem tAt_push {ts : List Bool} {k : Nat} (b : Bool) (h : k < ts.length) : tAt (ts ++ [b]) k = tAt ts k := by simp [tAt, List.getElem?_append, h]
theorem tAt_pushed (ts : List Bool) (b : Bool) : tAt (ts ++ [b]) ts.length = b := by simp [tAt]
theorem hAt_push {hs : List (Nat × Int)} {k : Nat} (p : Nat × Int) (h : k < hs.length) : hAt (hs ++ [p]) k = hAt hs k := by simp [hAt, List.getElem?_append, h]
theorem hAt_pushed (hs : List (Nat × Int)) (p : Nat × Int) : hAt (hs ++ [p]) hs.length = p := by simp [hAt]

/-- A handle is its thing's alone: while its thing is there it is in the handle's slot, of its Age; behind that the slot is of a greater Age. -/
structure St (rs : List (Int × Int)) (hs : List (Nat × Int)) (ts : List Bool) : Prop where
  len : ts.length = hs.length
  slot : ∀ i, i < hs.length → (hAt hs i).1 < rs.length
  yes : ∀ i, i < hs.length → tAt ts i = true → slAt rs (hAt hs i).1 = ((i : Int), (hAt hs i).2)
  no : ∀ i, i < hs.length → tAt ts i = false → (hAt hs i).2 < (slAt rs (hAt hs i).1).2
  cnt : cntT ts = cntS rs

theorem St.start : St [] [] [] := ⟨rfl, fun _ h => absurd h (by simp), fun _ h => absurd h (by simp), fun _ h => absurd h (by simp), rfl⟩
theorem St.has {rs : List (Int × Int)} {hs : List (Nat × Int)} {ts : List Bool} (h : St rs hs ts) {i : Nat} (hi : i < hs.length) : hasS rs (hAt hs i).1 (hAt hs i).2 = tAt ts i := by
  cases ht : tAt ts i with
  | true =>
    have := h.yes i hi ht
    exact hasS_iff.2 ⟨_, rfl, h.slot i hi, by rw [this]; simp, by rw [this]⟩
  | false =>
    have := h.no i hi ht
    rw [Bool.eq_false_iff]; intro e
    obtain ⟨k, hk, _, _, h2⟩ := hasS_iff.1 e
    obtain rfl : (hAt hs i).1 = k := by omega
    omega
/-- a thing more -/
theorem St.put {m k : Nat} {rs rs1 : List (Int × Int)} {fr fr1 : List Nat} {hs : List (Nat × Int)} {ts : List Bool} (h : St rs hs ts) (hsl : Sl m rs fr) (hR : RoomIs rs fr k rs1 fr1) (hk : k < rs1.length) (hc : cntS (rs1.set k ((hs.length : Int), (slAt rs1 k).2)) = cntS rs + 1) :
    St (rs1.set k ((hs.length : Int), (slAt rs1 k).2)) (hs ++ [(k, (slAt rs1 k).2)]) (ts ++ [true]) := by
  have hle : rs.length ≤ rs1.length := by rcases hR with ⟨_, rfl⟩ | ⟨_, _, _, rfl⟩ <;> simp
  have keep : ∀ s, s < rs.length → slAt rs1 s = slAt rs s := fun s hs => by
    rcases hR with ⟨_, rfl⟩ | ⟨_, _, _, rfl⟩
    · rfl
    · exact slAt_push _ hs
  have none_ : k < rs.length → (slAt rs k).1 = -1 := fun hk' => by
    rcases hR with ⟨rfl, rfl⟩ | ⟨_, _, rfl, rfl⟩
    · exact (hsl.free k (by simp)).2
    · omega
  have old : ∀ i, i < hs.length → (hAt hs i).1 < rs.length → (k = (hAt hs i).1 ∧ tAt ts i = false) ∨ slAt (rs1.set k ((hs.length : Int), (slAt rs1 k).2)) (hAt hs i).1 = slAt rs (hAt hs i).1 := fun i hi hs' => by
    by_cases e : k = (hAt hs i).1
    · left
      refine ⟨e, ?_⟩
      cases ht : tAt ts i with
      | false => rfl
      | true =>
        have h1 := h.yes i hi ht
        have h2 := none_ (by omega)
        rw [e, h1] at h2
        simp at h2
    · right; rw [slAt_set_other _ e, keep _ hs']
  refine ⟨by simp [h.len], fun i hi => ?_, fun i hi ht => ?_, fun i hi ht => ?_, by rw [cntT_append, h.cnt, hc]; rfl⟩
  · rw [List.length_append, List.length_singleton] at hi
    rw [List.length_set]
    by_cases e : i < hs.length
    · rw [hAt_push _ e]; have := h.slot i e; omega
    · obtain rfl : i = hs.length := by omega
      rw [hAt_pushed]; exact hk
  · rw [List.length_append, List.length_singleton] at hi
    by_cases e : i < hs.length
    · rw [hAt_push _ e]
      rw [tAt_push _ (by rw [h.len]; exact e)] at ht
      rcases old i e (h.slot i e) with ⟨_, h2⟩ | h2
      · rw [h2] at ht; cases ht
      · rw [h2]; exact h.yes i e ht
    · obtain rfl : i = hs.length := by omega
      rw [hAt_pushed, slAt_set_same _ hk]
  · rw [List.length_append, List.length_singleton] at hi
    by_cases e : i < hs.length
    · rw [hAt_push _ e]
      rw [tAt_push _ (by rw [h.len]; exact e)] at ht
      rcases old i e (h.slot i e) with ⟨h1, _⟩ | h2
      · rw [← h1, slAt_set_same _ hk]
        have := h.no i e ht
        rw [← h1] at this
        rw [keep k (by rw [h1]; exact h.slot i e)]
        exact this
      · rw [h2]; exact h.no i e ht
    · obtain rfl : i = hs.length := by omega
      rw [← h.len, tAt_pushed] at ht
      cases ht
/-- a thing less -/
theorem St.take {rs : List (Int × Int)} {hs : List (Nat × Int)} {ts : List Bool} (h : St rs hs ts) {k : Nat} (hk : k < hs.length) (ht : tAt ts k = true) :
    St (rs.set (hAt hs k).1 (-1, (slAt rs (hAt hs k).1).2 + 1)) hs (ts.set k false) := by
  have hy := h.yes k hk ht
  have hs' := h.slot k hk
  refine ⟨by simp [h.len], fun i hi => by simpa using h.slot i hi, fun i hi hi' => ?_, fun i hi hi' => ?_, ?_⟩
  · have hne : k ≠ i := fun e => by subst e; rw [tAt_set_same (by rw [h.len]; exact hk)] at hi'; cases hi'
    rw [tAt_set_other hne] at hi'
    have h1 := h.yes i hi hi'
    by_cases e : (hAt hs k).1 = (hAt hs i).1
    · rw [← e, hy] at h1
      have := congrArg Prod.fst h1
      simp at this
      omega
    · rw [slAt_set_other _ e]; exact h1
  · by_cases e : (hAt hs k).1 = (hAt hs i).1
    · rw [← e, slAt_set_same _ hs']
      by_cases hne : k = i
      · subst hne; rw [hy]; simp; omega
      · rw [tAt_set_other hne] at hi'
        have := h.no i hi hi'
        rw [← e] at this
        simp; omega
    · rw [slAt_set_other _ e]
      have hne : k ≠ i := fun e' => e (by rw [e'])
      rw [tAt_set_other hne] at hi'
      exact h.no i hi hi'
  · have h1 := cntT_set (ts := ts) (k := k) (by rw [h.len]; exact hk)
    have h2 := cntS_set (-1, (slAt rs (hAt hs k).1).2 + 1) hs'
    rw [ht, if_pos rfl] at h1
    rw [hy] at h2
    rw [if_pos (by simp), if_neg (show ¬ (0 : Int) ≤ -1 by decide)] at h2
    have h3 := h.cnt
    rw [hy]
    omega
theorem set_false {ts : List Bool} {k : Nat} (ht : tAt ts k = false) : ts.set k false = ts := by
  by_cases h : k < ts.length
  · have : ts[k] = false := by simpa [tAt, h] using ht
    rw [← this]; exact List.set_getElem_self h
  · exact List.set_eq_of_length_le (by omega)

/-! how they lie in memory -/
def hV : List (Nat × Int) → List Value
  | [] => []
  | h :: hs => .int .i64 (h.1 : Int) :: .int .i64 h.2 :: hV hs
def tV (ts : List Bool) : List Value := ts.map fun t => .bool t
theorem hV_length (hs : List (Nat × Int)) : (hV hs).length = hs.length * 2 := by
  induction hs with
  | nil => rfl
  | cons r rs ih => simp [hV, ih]; omega
theorem hV_append (a b : List (Nat × Int)) : hV (a ++ b) = hV a ++ hV b := by
  induction a with
  | nil => rfl
  | cons r a ih => simp [hV, ih]
theorem hV_at {hs : List (Nat × Int)} {k : Nat} (h : k < hs.length) : (hV hs)[k * 2]? = some (.int .i64 ((hAt hs k).1 : Int)) ∧ (hV hs)[k * 2 + 1]? = some (.int .i64 (hAt hs k).2) := by
  induction hs generalizing k with
  | nil => simp at h
  | cons r rs ih =>
    cases k with
    | zero => exact ⟨rfl, rfl⟩
    | succ k =>
      have := ih (k := k) (by simpa using h)
      rw [show (k + 1) * 2 = k * 2 + 1 + 1 by omega]
      have e : hAt (r :: rs) (k + 1) = hAt rs k := by simp [hAt]
      rw [e]
      simpa [hV] using this
theorem tV_at {ts : List Bool} {k : Nat} (h : k < ts.length) : (tV ts)[k]? = some (.bool (tAt ts k)) := by simp [tV, tAt, h]
theorem tV_push (ts : List Bool) (b : Bool) : tV (ts ++ [b]) = tV ts ++ [.bool b] := by simp [tV]
theorem tV_set (ts : List Bool) (k : Nat) : tV (ts.set k false) = (tV ts).set k (.bool false) := by simp [tV, List.map_set]

/-- a row whose elements are of another type is none of the arena's -/
theorem ArenaIs.far {w : World} {ab : Nat} {most : Int} {vs vf v : Value} {rs : List (Int × Int)} {fr : List Nat} {base size n : Nat} {e : TypeId} {xs : List Value} (h : ArenaIs w ab most vs vf rs fr) (hr : w.ownsRow base e size v n xs) (h1 : 92 ≠ e) (h2 : e ≠ 95) (h3 : e ≠ 3) :
    ∀ k, v.ownBlock = some k → ¬ arB ab vs vf k := by
  rintro k hk (rfl | hj | hj)
  · exact owns_type hr h.box h1 hk
  · exact owns_types hr h.slots h2 hk hj
  · exact owns_types hr h.free h3 hk hj
/-- an arena, and two rows of a call's own -/
structure Pile (w wr : World) (ab : Nat) (most : Int) (rs : List (Int × Int)) (fr : List Nat) (vs vf vh : Value) (nh : Nat) (xh : List Value) (vb : Value) (nb : Nat) (xb : List Value) : Prop where
  ar : ArenaIs wr ab most vs vf rs fr
  h : wr.ownsRow w.heap.size 58 2 vh nh xh
  t : wr.ownsRow w.heap.size 4 1 vb nb xb
  own : ∀ j, arB ab vs vf j → w.heap.size ≤ j
  below : Below w.heap.size w wr
section
variable {w wr w1 : World} {ab : Nat} {most : Int} {rs rs' : List (Int × Int)} {fr fr' : List Nat} {vs vf vs' vf' vh vb v' : Value} {nh nb n' : Nat} {xh xb x' : List Value}
theorem Pile.still (h : Pile w wr ab most rs fr vs vf vh nh xh vb nb xb) (hb : Below wr.heap.size wr w1) : Pile w w1 ab most rs fr vs vf vh nh xh vb nb xb :=
  ⟨h.ar.below hb (Nat.le_refl _), owns_below h.h hb (Nat.le_refl _), owns_below h.t hb (Nat.le_refl _), h.own, h.below.trans (hb.mono h.below.size)⟩
theorem Pile.arena (h : Pile w wr ab most rs fr vs vf vh nh xh vb nb xb) (ho : Out (arB ab vs vf) wr w1) (hw : Went wr (arB ab vs vf) (arB ab vs' vf')) (ha : ArenaIs w1 ab most vs' vf' rs' fr') : Pile w w1 ab most rs' fr' vs' vf' vh nh xh vb nb xb := by
  refine ⟨ha, owns_out h.h ho (h.ar.far h.h (by decide) (by decide) (by decide)), owns_out h.t ho (h.ar.far h.t (by decide) (by decide) (by decide)), fun j hj => ?_, h.below.trans (ho.below h.own h.below.size)⟩
  rcases hw j hj with h1 | h1
  · exact h.own j h1
  · have := h.below.size; omega
theorem Pile.pushH (h : Pile w wr ab most rs fr vs vf vh nh xh vb nb xb) (hown : w1.ownsRow w.heap.size 58 2 v' n' x') (hg : wr.grownBy w1 vh.ownBlock) : Pile w w1 ab most rs fr vs vf v' n' x' vb nb xb := by
  have o1 : Out (fun k => vh.ownBlock = some k) wr w1 := Out.of_grown hg (fun k hk => hk)
  exact ⟨h.ar.out o1 (fun k hk hk' => h.ar.far h.h (by decide) (by decide) (by decide) k hk' hk), hown, owns_out h.t o1 (fun k hk => owns_types h.t h.h (by decide) hk), h.own, h.below.trans (o1.below (fun k hk => (h.h.lt k hk).1) h.below.size)⟩
theorem Pile.pushT (h : Pile w wr ab most rs fr vs vf vh nh xh vb nb xb) (hown : w1.ownsRow w.heap.size 4 1 v' n' x') (hg : wr.grownBy w1 vb.ownBlock) : Pile w w1 ab most rs fr vs vf vh nh xh v' n' x' := by
  have o1 : Out (fun k => vb.ownBlock = some k) wr w1 := Out.of_grown hg (fun k hk => hk)
  exact ⟨h.ar.out o1 (fun k hk hk' => h.ar.far h.t (by decide) (by decide) (by decide) k hk' hk), owns_out h.h o1 (fun k hk => owns_types h.h h.t (by decide) hk), hown, h.own, h.below.trans (o1.below (fun k hk => (h.t.lt k hk).1) h.below.size)⟩
end
/-- the arena, the handles that were given and whether their things are there, behind m steps -/
structure Stale (w wr : World) (ab : Nat) (most : Int) (m : Nat) (rs : List (Int × Int)) (fr : List Nat) (vs vf : Value) (hs : List (Nat × Int)) (ts : List Bool) (vh vb : Value) : Prop where
  pile : Pile w wr ab most rs fr vs vf vh hs.length (hV hs) vb hs.length (tV ts)
  ok : Sl m rs fr
  st : St rs hs ts
  few : hs.length ≤ m
  cap : (cntS rs : Int) ≤ most
theorem Stale.still {w wr w1 : World} {ab : Nat} {most : Int} {m m' : Nat} {rs : List (Int × Int)} {fr : List Nat} {vs vf vh vb : Value} {hs : List (Nat × Int)} {ts : List Bool} (h : Stale w wr ab most m rs fr vs vf hs ts vh vb) (hb : Below wr.heap.size wr w1) (hm : m ≤ m') : Stale w w1 ab most m' rs fr vs vf hs ts vh vb :=
  ⟨h.pile.still hb, h.ok.more hm, h.st, Nat.le_trans h.few hm, h.cap⟩
theorem own_base {w : World} {base : Nat} {e : TypeId} {size : Nat} {v : Value} {n : Nat} {xs : List Value} (h : w.ownsRow base e size v n xs) : ∀ k, v.ownBlock = some k → base ≤ k := fun k hk => (h.lt k hk).1
end Go.Proofs.YtgocmaijpihakaaDoor
namespace Go.Proofs.YtgocmaijpihakaaDoor
open Go.RowKit
theorem roomS {m : Nat} {rs : List (Int × Int)} {fr : List Nat} {x : Int} (h : Sl m rs fr) (hx : 0 ≤ x) :
    ∃ k rs1 fr1, RoomIs rs fr k rs1 fr1 ∧ k < rs1.length ∧ Sl (m + 1) (rs1.set k (x, (slAt rs1 k).2)) fr1 ∧ cntS (rs1.set k (x, (slAt rs1 k).2)) = cntS rs + 1 := by
  have e : ∀ p q : Int × Int, (rs ++ [p]).set rs.length q = rs ++ [q] := fun p q => by simp
  rcases List.eq_nil_or_concat fr with rfl | ⟨fs, k, rfl⟩
  · refine ⟨rs.length, _, [], Or.inr ⟨rfl, rfl, rfl, rfl⟩, by simp, ?_, ?_⟩
    · rw [slAt_pushed, e]; exact h.putNew hx
    · rw [slAt_pushed, e, cntS_append]; simp [cntS, hx]
  · rw [List.concat_eq_append] at h ⊢
    have hk := h.free k (by simp)
    refine ⟨k, rs, fs, Or.inl ⟨rfl, rfl⟩, hk.1, h.putFree hx, ?_⟩
    have := cntS_set (x, (slAt rs k).2) hk.1
    rw [hk.2] at this
    simpa [hx] using this
theorem manyS (ab : Nat) (most : Int) (vs vf : Value) (rs : List (Int × Int)) (fr : List Nat) (w : World) (h : ArenaIs w ab most vs vf rs fr) (hl : rs.length ≤ 1000) (hs : cntS rs + fr.length = rs.length) :
    Calls Tryd.prog 27 #[.pointer (some ⟨ab, 0, none⟩)] w fun e w' => e = .returned (.int .i64 (cntS rs)) ∧ Below w.heap.size w w' :=
  (arMany ab most vs vf rs fr w h hl (by omega)).mono fun e w' ⟨h1, n, h2⟩ => ⟨by rw [h1, show (rs.length : Int) - fr.length = cntS rs by omega], h2 ▸ below_drewN (Below.refl _ _) n⟩
theorem two_below (w : World) (o o' : Obj) : Below w.heap.size w ((w.alloc o).alloc o') := ((Below.refl _ _).alloc (Nat.le_refl _) o).alloc (by simp) o'
theorem two_last (w : World) (o o' : Obj) : ((w.alloc o).alloc o').heap[w.heap.size + 1]? = some o' := by simpa using heap_alloc_new (w.alloc o) o'
end Go.Proofs.YtgocmaijpihakaaDoor
