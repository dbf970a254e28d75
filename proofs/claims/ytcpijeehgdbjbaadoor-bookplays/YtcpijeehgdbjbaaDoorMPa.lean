/-
  Slots for orders as plain lists: each slot has its order (or none) and how often it was freed; beside them the slots that are free, the one that was freed last at the end. Beside them the two sides of a book, each a list of handles with their orders. What Put, Set and Take do to them, and what stays true. No program is named here.
-/
import Derived.Test.YtcpijeehgdbjbaaDoorMBa
import Derived.WalkSpells
import Derived.WalkLawsBesides
import Derived.Handy
import Derived.BigQuiet
import Derived.OwnWalk
import Derived.OneCell
import Derived.Deep.QuietTactic
import Derived.Deep.AppendLies
import Derived.Deep.RegionHeld3
import Derived.Deep.DrawnRows
import Derived.Deep.Cut
import Derived.StillTailTactics
import Derived.Deep.RegionLaw
import Derived.BigRegion
import Derived.Maps.OwnSet
namespace Go.Proofs.YtcpijeehgdbjbaaDoor
open Go.RowKit

abbrev Sot := Option Ord × Int
def soAt (rs : List Sot) (k : Nat) : Sot := rs.getD k (none, 0)
def cntO : List Sot → Nat
  | [] => 0
  | r :: rs => (if r.1.isSome then 1 else 0) + cntO rs
def thO (t : Option Ord) : Ord := t.getD Ord.none_
theorem soAt_eq {rs : List Sot} {k : Nat} (h : k < rs.length) : soAt rs k = rs[k] := by simp [soAt, h]
theorem soAt_set_same {rs : List Sot} {k : Nat} (p : Sot) (h : k < rs.length) : soAt (rs.set k p) k = p := by simp [soAt, h]
theorem soAt_set_other {rs : List Sot} {k j : Nat} (p : Sot) (h : k ≠ j) : soAt (rs.set k p) j = soAt rs j := by simp [soAt, h]
theorem soAt_push {rs : List Sot} {k : Nat} (p : Sot) (h : k < rs.length) : soAt (rs ++ [p]) k = soAt rs k := by simp [soAt, List.getElem?_append, h]
theorem soAt_pushed (rs : List Sot) (p : Sot) : soAt (rs ++ [p]) rs.length = p := by simp [soAt]
theorem soAt_beyond {rs : List Sot} {k : Nat} (h : rs.length ≤ k) : soAt rs k = (none, 0) := by simp [soAt, h]
theorem soAt_some {rs : List Sot} {k : Nat} {o : Ord} {a : Int} (h : soAt rs k = (some o, a)) : k < rs.length := by
  rcases Nat.lt_or_ge k rs.length with h1 | h1
  · exact h1
  · rw [soAt_beyond h1] at h; cases h

theorem cntO_append (a b : List Sot) : cntO (a ++ b) = cntO a + cntO b := by
  induction a with
  | nil => simp [cntO]
  | cons r a ih => simp [cntO, ih]; omega
theorem cntO_le (rs : List Sot) : cntO rs ≤ rs.length := by
  induction rs with
  | nil => simp [cntO]
  | cons r a ih => simp only [cntO, List.length_cons]; split <;> omega
theorem cntO_set {rs : List Sot} {k : Nat} (p : Sot) (h : k < rs.length) : cntO (rs.set k p) + (if (soAt rs k).1.isSome then 1 else 0) = cntO rs + (if p.1.isSome then 1 else 0) := by
  induction rs generalizing k with
  | nil => simp at h
  | cons r rs ih =>
    cases k with
    | zero => simp [cntO, soAt]; omega
    | succ k =>
      have := ih (k := k) (by simpa using h)
      simp only [List.set_cons_succ, cntO]
      have e : soAt (r :: rs) (k + 1) = soAt rs k := by simp [soAt]
      rw [e]; omega

/-- what stays true of the slots; m: how many steps there were -/
structure So (m : Nat) (rs : List Sot) (fr : List Nat) : Prop where
  nd : fr.Nodup
  free : ∀ k ∈ fr, k < rs.length ∧ (soAt rs k).1 = none
  cnt : cntO rs + fr.length = rs.length
  small : rs.length ≤ m
  ages : ∀ k, 0 ≤ (soAt rs k).2 ∧ (soAt rs k).2 ≤ m
theorem So.start (m : Nat) : So m [] [] := ⟨List.nodup_nil, fun _ h => (by cases h), rfl, Nat.zero_le _, fun k => by simp [soAt]⟩
theorem So.more {m m' : Nat} {rs : List Sot} {fr : List Nat} (h : So m rs fr) (hm : m ≤ m') : So m' rs fr := ⟨h.nd, h.free, h.cnt, by have := h.small; omega, fun k => by have := h.ages k; omega⟩
theorem So.putFree {m k : Nat} {rs : List Sot} {fs : List Nat} {x : Ord} (h : So m rs (fs ++ [k])) : So (m + 1) (rs.set k (some x, (soAt rs k).2)) fs := by
  have hk := h.free k (by simp)
  have hnd := List.nodup_append.1 h.nd
  refine ⟨hnd.1, fun j hj => ?_, ?_, by simpa using Nat.le_succ_of_le h.small, fun j => ?_⟩
  · have hne : k ≠ j := fun e => hnd.2.2 j hj k (by simp) e.symm
    rw [soAt_set_other _ hne]
    simpa using h.free j (by simp [hj])
  · have h1 := cntO_set (some x, (soAt rs k).2) hk.1
    have h2 := h.cnt
    rw [hk.2] at h1
    simp only [List.length_append, List.length_singleton] at h2
    simp at h1
    simp; omega
  · by_cases e : k = j
    · subst e; rw [soAt_set_same _ hk.1]; have := h.ages k; simp; omega
    · rw [soAt_set_other _ e]; have := h.ages j; omega
theorem So.putNew {m : Nat} {rs : List Sot} {x : Ord} (h : So m rs []) : So (m + 1) (rs ++ [(some x, 0)]) [] := by
  have each : ∀ k, soAt (rs ++ [(some x, 0)]) k = soAt rs k ∨ soAt (rs ++ [(some x, 0)]) k = (some x, 0) := fun k => by
    rcases Nat.lt_trichotomy k rs.length with h1 | h1 | h1
    · exact Or.inl (soAt_push _ h1)
    · subst h1; exact Or.inr (soAt_pushed _ _)
    · left; rw [soAt_beyond (by simp; omega), soAt_beyond (by omega)]
  refine ⟨List.nodup_nil, fun _ h => (by cases h), ?_, by have := h.small; simp; omega, fun k => ?_⟩
  · have := h.cnt
    simp [cntO_append, cntO] at this ⊢; omega
  · rcases each k with e | e
    · rw [e]; have := h.ages k; omega
    · rw [e]; simp; omega
theorem So.set {m k : Nat} {rs : List Sot} {fr : List Nat} {x : Ord} (h : So m rs fr) (hk : k < rs.length) (hf : (soAt rs k).1.isSome = true) : So (m + 1) (rs.set k (some x, (soAt rs k).2)) fr := by
  refine ⟨h.nd, fun j hj => ?_, ?_, by simpa using Nat.le_succ_of_le h.small, fun j => ?_⟩
  · have hj' := h.free j hj
    have hne : k ≠ j := fun e => by subst e; rw [hj'.2] at hf; cases hf
    rw [soAt_set_other _ hne]
    simpa using hj'
  · have h1 := cntO_set (some x, (soAt rs k).2) hk
    have h2 := h.cnt
    rw [hf] at h1
    simp at h1
    simp; omega
  · by_cases e : k = j
    · subst e; rw [soAt_set_same _ hk]; have := h.ages k; simp; omega
    · rw [soAt_set_other _ e]; have := h.ages j; omega
theorem So.take {m k : Nat} {rs : List Sot} {fr : List Nat} (h : So m rs fr) (hk : k < rs.length) (hf : (soAt rs k).1.isSome = true) : So (m + 1) (rs.set k (none, (soAt rs k).2 + 1)) (fr ++ [k]) := by
  have hn : k ∉ fr := fun hm => by have := h.free k hm; rw [this.2] at hf; cases hf
  refine ⟨?_, fun j hj => ?_, ?_, by simpa using Nat.le_succ_of_le h.small, fun j => ?_⟩
  · rw [List.nodup_append]
    exact ⟨h.nd, by simp, fun a ha b hb e => by simp at hb; subst e; subst hb; exact hn ha⟩
  · by_cases e : k = j
    · subst e; rw [soAt_set_same _ hk]; exact ⟨by simpa using hk, rfl⟩
    · rw [soAt_set_other _ e]
      rcases List.mem_append.1 hj with h1 | h1
      · simpa using h.free j h1
      · simp at h1; omega
  · have h1 := cntO_set (none, (soAt rs k).2 + 1) hk
    have h2 := h.cnt
    rw [hf] at h1
    simp at h1
    simp; omega
  · by_cases e : k = j
    · subst e; rw [soAt_set_same _ hk]; have := h.ages k; simp; omega
    · rw [soAt_set_other _ e]; have := h.ages j; omega

/-! how the slots lie in memory: an order's five cells, the Age, is there one -/
def soV : List Sot → List Value
  | [] => []
  | r :: rs => .int .i64 (thO r.1).id :: .int .i64 (thO r.1).side :: .int .i64 (thO r.1).kind :: .int .i64 (thO r.1).price :: .int .i64 (thO r.1).qty :: .int .i64 r.2 :: .bool r.1.isSome :: soV rs
theorem soV_length (rs : List Sot) : (soV rs).length = rs.length * 7 := by
  induction rs with
  | nil => rfl
  | cons r rs ih => simp [soV, ih]; omega
theorem soV_append (a b : List Sot) : soV (a ++ b) = soV a ++ soV b := by
  induction a with
  | nil => rfl
  | cons r a ih => simp [soV, ih]
theorem soV_at {rs : List Sot} {k : Nat} (h : k < rs.length) : (soV rs)[k * 7]? = some (.int .i64 (thO (soAt rs k).1).id) ∧ (soV rs)[k * 7 + 1]? = some (.int .i64 (thO (soAt rs k).1).side) ∧ (soV rs)[k * 7 + 2]? = some (.int .i64 (thO (soAt rs k).1).kind) ∧ (soV rs)[k * 7 + 3]? = some (.int .i64 (thO (soAt rs k).1).price) ∧ (soV rs)[k * 7 + 4]? = some (.int .i64 (thO (soAt rs k).1).qty) ∧ (soV rs)[k * 7 + 5]? = some (.int .i64 (soAt rs k).2) ∧ (soV rs)[k * 7 + 6]? = some (.bool (soAt rs k).1.isSome) := by
  induction rs generalizing k with
  | nil => simp at h
  | cons r rs ih =>
    cases k with
    | zero => exact ⟨rfl, rfl, rfl, rfl, rfl, rfl, rfl⟩
    | succ k =>
      have := ih (k := k) (by simpa using h)
      rw [show (k + 1) * 7 = k * 7 + 1 + 1 + 1 + 1 + 1 + 1 + 1 by omega]
      have e : soAt (r :: rs) (k + 1) = soAt rs k := by simp [soAt]
      rw [e]
      simpa [soV] using this
theorem soV_set {rs : List Sot} {k : Nat} (p : Sot) (h : k < rs.length) : (((((((soV rs).set (k * 7) (.int .i64 (thO p.1).id)).set (k * 7 + 1) (.int .i64 (thO p.1).side)).set (k * 7 + 2) (.int .i64 (thO p.1).kind)).set (k * 7 + 3) (.int .i64 (thO p.1).price)).set (k * 7 + 4) (.int .i64 (thO p.1).qty)).set (k * 7 + 5) (.int .i64 p.2)).set (k * 7 + 6) (.bool p.1.isSome) = soV (rs.set k p) := by
  induction rs generalizing k with
  | nil => simp at h
  | cons r rs ih =>
    cases k with
    | zero => rfl
    | succ k =>
      have := ih (k := k) (by simpa using h)
      rw [show (k + 1) * 7 = k * 7 + 1 + 1 + 1 + 1 + 1 + 1 + 1 by omega]
      simp only [soV, List.set_cons_succ]
      rw [← this]

/-- which slot is given next, and what the slots are then -/
def RoomO (rs : List Sot) (fr : List Nat) (k : Nat) (rs1 : List Sot) (fr1 : List Nat) : Prop := (fr = fr1 ++ [k] ∧ rs1 = rs) ∨ (fr = [] ∧ fr1 = [] ∧ k = rs.length ∧ rs1 = rs ++ [(none, 0)])

/-! a side: handles, best first, each with its order -/
structure Ly where
  slot : Nat
  age : Int
  o : Ord
def hV : List Ly → List Value
  | [] => []
  | x :: l => .int .i64 (x.slot : Int) :: .int .i64 x.age :: hV l
def lyNone : Ly := ⟨0, 0, Ord.none_⟩
def lyAt (l : List Ly) (k : Nat) : Ly := l.getD k lyNone
theorem lyAt_eq {l : List Ly} {k : Nat} (h : k < l.length) : lyAt l k = l[k] := by simp [lyAt, h]
theorem lyAt_mem {l : List Ly} {k : Nat} (h : k < l.length) : lyAt l k ∈ l := by rw [lyAt_eq h]; exact List.getElem_mem h
theorem hV_length (l : List Ly) : (hV l).length = l.length * 2 := by
  induction l with
  | nil => rfl
  | cons r rs ih => simp [hV, ih]; omega
theorem hV_append (a b : List Ly) : hV (a ++ b) = hV a ++ hV b := by
  induction a with
  | nil => rfl
  | cons r a ih => simp [hV, ih]
theorem hV_at {l : List Ly} {k : Nat} (h : k < l.length) : (hV l)[k * 2]? = some (.int .i64 ((lyAt l k).slot : Int)) ∧ (hV l)[k * 2 + 1]? = some (.int .i64 (lyAt l k).age) := by
  induction l generalizing k with
  | nil => simp at h
  | cons r rs ih =>
    cases k with
    | zero => exact ⟨rfl, rfl⟩
    | succ k =>
      have := ih (k := k) (by simpa using h)
      rw [show (k + 1) * 2 = k * 2 + 1 + 1 by omega]
      have e : lyAt (r :: rs) (k + 1) = lyAt rs k := by simp [lyAt]
      rw [e]
      simpa [hV] using this
theorem hV_one (l : List Ly) : ∀ u ∈ hV l, u.oneCell' = true := by
  induction l with
  | nil => simp [hV]
  | cons o l ih =>
    intro u hu
    simp only [hV, List.mem_cons] at hu
    rcases hu with rfl | rfl | hu
    · rfl
    · rfl
    · exact ih u hu

/-- what stays true of a book: its slots, and its two sides -/
structure Pb (m : Nat) (rs : List Sot) (fr : List Nat) (S : Nat → List Ly) : Prop where
  so : So m rs fr
  there : ∀ s, s < 2 → ∀ x ∈ S s, soAt rs x.slot = (some x.o, x.age)
  nd : ((S 0 ++ S 1).map Ly.slot).Nodup
  ids : ((S 0 ++ S 1).map fun x => x.o.id).Nodup
  cnt : cntO rs = (S 0).length + (S 1).length
  side : ∀ s, s < 2 → ∀ x ∈ S s, x.o.side = (s : Int) + 1
  ok : ∀ s, s < 2 → ∀ x ∈ S s, 1 ≤ x.o.id ∧ (Lit.int .i64 x.o.id).wf = true ∧ 1 ≤ x.o.price ∧ x.o.price ≤ 1000000 ∧ 1 ≤ x.o.qty ∧ x.o.qty ≤ 1000000
  most : (S 0).length + (S 1).length ≤ 100
def upS (S : Nat → List Ly) (s : Nat) (l : List Ly) : Nat → List Ly := fun k => if k = s then l else S k
theorem upS_same (S : Nat → List Ly) (s : Nat) (l : List Ly) : upS S s l s = l := if_pos rfl
theorem upS_other {S : Nat → List Ly} {s k : Nat} (l : List Ly) (h : k ≠ s) : upS S s l k = S k := if_neg h
end Go.Proofs.YtcpijeehgdbjbaaDoor

/-
  What becomes of a book's slots and sides (PbSl) when an order is put in, taken out, or cut; and the plain lists of orders behind that. No program is named here.
-/
namespace Go.Proofs.YtcpijeehgdbjbaaDoor
open Go.RowKit

theorem pb_all (S : Nat → List Ly) {s : Nat} (hs : s < 2) : (S 0 ++ S 1).Perm (S s ++ S (1 - s)) := by
  match s, hs with
  | 0, _ => exact List.Perm.refl _
  | 1, _ => exact List.perm_append_comm
theorem pb_up (S : Nat → List Ly) (l : List Ly) {s : Nat} (hs : s < 2) : (upS S s l 0 ++ upS S s l 1).Perm (l ++ S (1 - s)) := by
  match s, hs with
  | 0, _ => exact List.Perm.refl _
  | 1, _ => exact List.perm_append_comm
theorem pb_len (S : Nat → List Ly) (l : List Ly) {s : Nat} (hs : s < 2) : (upS S s l 0).length + (upS S s l 1).length = l.length + (S (1 - s)).length ∧ (S 0).length + (S 1).length = (S s).length + (S (1 - s)).length := by
  match s, hs with
  | 0, _ => exact ⟨rfl, rfl⟩
  | 1, _ => exact ⟨Nat.add_comm _ _, Nat.add_comm _ _⟩
theorem mem_up {S : Nat → List Ly} {l : List Ly} {s t : Nat} {y : Ly} (h : y ∈ upS S s l t) : (t = s ∧ y ∈ l) ∨ (t ≠ s ∧ y ∈ S t) := by
  by_cases e : t = s
  · subst e; rw [upS_same] at h; exact Or.inl ⟨rfl, h⟩
  · rw [upS_other _ e] at h; exact Or.inr ⟨e, h⟩

/-- two that lie have one slot, or one number, only if they are one -/
theorem Pb.one_slot {m : Nat} {rs : List Sot} {fr : List Nat} {S : Nat → List Ly} (h : Pb m rs fr S) {s t : Nat} (hs : s < 2) (ht : t < 2) {x y : Ly} (hx : x ∈ S s) (hy : y ∈ S t) (e : x.slot = y.slot) : x = y := by
  have h1 := h.there s hs x hx
  have h2 := h.there t ht y hy
  rw [e, h2] at h1
  injection h1 with h1 h3
  injection h1 with h1
  obtain ⟨a, b, c⟩ := x
  obtain ⟨a', b', c'⟩ := y
  simp only at e h1 h3
  rw [e, h1, h3]
theorem pair_of_nodup {α : Type} {f : Ly → α} {l : List Ly} (h : (l.map f).Nodup) {x y : Ly} (hx : x ∈ l) (hy : y ∈ l) (e : f x = f y) : x = y := by
  induction l with
  | nil => cases hx
  | cons a l ih =>
    simp only [List.map_cons, List.nodup_cons] at h
    rcases List.mem_cons.1 hx with rfl | hx' <;> rcases List.mem_cons.1 hy with rfl | hy'
    · rfl
    · exact absurd (List.mem_map.2 ⟨y, hy', e.symm⟩) h.1
    · exact absurd (List.mem_map.2 ⟨x, hx', e⟩) h.1
    · exact ih h.2 hx' hy'
theorem Pb.mem {S : Nat → List Ly} {s : Nat} (hs : s < 2) {x : Ly} (hx : x ∈ S s) : x ∈ S 0 ++ S 1 := (pb_all S hs).mem_iff.2 (List.mem_append.2 (Or.inl hx))
theorem Pb.one_id {m : Nat} {rs : List Sot} {fr : List Nat} {S : Nat → List Ly} (h : Pb m rs fr S) {s t : Nat} (hs : s < 2) (ht : t < 2) {x y : Ly} (hx : x ∈ S s) (hy : y ∈ S t) (e : x.o.id = y.o.id) : x = y :=
  pair_of_nodup h.ids (Pb.mem hs hx) (Pb.mem ht hy) e
theorem Pb.one_side {m : Nat} {rs : List Sot} {fr : List Nat} {S : Nat → List Ly} (h : Pb m rs fr S) {s t : Nat} (hs : s < 2) (ht : t < 2) {x : Ly} (hx : x ∈ S s) (hy : x ∈ S t) : s = t := by
  have h1 := h.side s hs x hx
  have h2 := h.side t ht x hy
  omega

theorem Pb.more {m m' : Nat} {rs : List Sot} {fr : List Nat} {S : Nat → List Ly} (h : Pb m rs fr S) (hm : m ≤ m') : Pb m' rs fr S := ⟨h.so.more hm, h.there, h.nd, h.ids, h.cnt, h.side, h.ok, h.most⟩
theorem Pb.start (m : Nat) : Pb m [] [] (fun _ => []) := ⟨So.start m, fun _ _ x hx => (by cases hx), List.nodup_nil, List.nodup_nil, rfl, fun _ _ x hx => (by cases hx), fun _ _ x hx => (by cases hx), by simp⟩

theorem room_none {m k : Nat} {rs rs1 : List Sot} {fr fr1 : List Nat} (h : So m rs fr) (hR : RoomO rs fr k rs1 fr1) : k < rs1.length ∧ (soAt rs1 k).1 = none ∧ (∀ j o a, soAt rs j = (some o, a) → j ≠ k ∧ soAt rs1 j = (some o, a)) ∧ cntO rs1 = cntO rs ∧ rs1.length ≤ rs.length + 1 := by
  rcases hR with ⟨rfl, rfl⟩ | ⟨rfl, rfl, rfl, rfl⟩
  · have hk := h.free k (by simp)
    refine ⟨hk.1, hk.2, fun j o a hj => ⟨fun e => ?_, hj⟩, rfl, by omega⟩
    subst e; rw [hj] at hk; cases hk.2
  · refine ⟨by simp, by rw [soAt_pushed], fun j o a hj => ?_, by simp [cntO_append, cntO], by simp⟩
    have hlt := soAt_some hj
    exact ⟨by omega, by rw [soAt_push _ hlt]; exact hj⟩
theorem room_set (rs : List Sot) (p q : Sot) : (rs ++ [p]).set rs.length q = rs ++ [q] := by simp
theorem room_so {m k : Nat} {rs rs1 : List Sot} {fr fr1 : List Nat} {o : Ord} (h : So m rs fr) (hR : RoomO rs fr k rs1 fr1) : So (m + 1) (rs1.set k (some o, (soAt rs1 k).2)) fr1 := by
  rcases hR with ⟨rfl, rfl⟩ | ⟨rfl, rfl, rfl, rfl⟩
  · exact h.putFree
  · rw [soAt_pushed, room_set]; exact h.putNew
theorem room_is {m : Nat} {rs : List Sot} {fr : List Nat} (_h : So m rs fr) : ∃ k rs1 fr1, RoomO rs fr k rs1 fr1 := by
  rcases List.eq_nil_or_concat fr with rfl | ⟨fs, k, rfl⟩
  · exact ⟨rs.length, _, [], Or.inr ⟨rfl, rfl, rfl, rfl⟩⟩
  · rw [List.concat_eq_append]
    exact ⟨k, rs, fs, Or.inl ⟨rfl, rfl⟩⟩

theorem Pb.put {m k s : Nat} {rs rs1 : List Sot} {fr fr1 : List Nat} {S : Nat → List Ly} {o : Ord} {l' : List Ly} (h : Pb m rs fr S) (hR : RoomO rs fr k rs1 fr1) (hs : s < 2) (hp : l'.Perm (⟨k, (soAt rs1 k).2, o⟩ :: S s)) (hside : o.side = (s : Int) + 1)
    (hok : 1 ≤ o.id ∧ (Lit.int .i64 o.id).wf = true ∧ 1 ≤ o.price ∧ o.price ≤ 1000000 ∧ 1 ≤ o.qty ∧ o.qty ≤ 1000000) (hid : ∀ t, t < 2 → ∀ x ∈ S t, x.o.id ≠ o.id) (hm : (S 0).length + (S 1).length < 100) :
    Pb (m + 1) (rs1.set k (some o, (soAt rs1 k).2)) fr1 (upS S s l') := by
  obtain ⟨hk, hn, ho, hc, _⟩ := room_none h.so hR
  have hall := (pb_up S l' hs).trans ((hp.append_right _).trans ((pb_all S hs).symm.cons _))
  have hl := pb_len S l' hs
  have hpl := hp.length_eq
  simp only [List.length_cons] at hpl
  refine ⟨room_so h.so hR, fun t ht y hy => ?_, ?_, ?_, ?_, fun t ht y hy => ?_, fun t ht y hy => ?_, by omega⟩
  · have old : ∀ u, u < 2 → y ∈ S u → soAt (rs1.set k (some o, (soAt rs1 k).2)) y.slot = (some y.o, y.age) := fun u hu hy' => by
      obtain ⟨h1, h2⟩ := ho _ _ _ (h.there u hu y hy')
      rw [soAt_set_other _ (Ne.symm h1)]; exact h2
    rcases mem_up hy with ⟨rfl, h5⟩ | ⟨_, h5⟩
    · rcases List.mem_cons.1 (hp.mem_iff.1 h5) with rfl | h6
      · exact soAt_set_same _ hk
      · exact old _ ht h6
    · exact old _ ht h5
  · rw [(hall.map _).nodup_iff]
    simp only [List.map_cons, List.nodup_cons]
    refine ⟨fun hmem => ?_, h.nd⟩
    obtain ⟨y, hy, e⟩ := List.mem_map.1 hmem
    rcases List.mem_append.1 hy with hy | hy
    · exact (ho _ _ _ (h.there 0 (by decide) y hy)).1 e
    · exact (ho _ _ _ (h.there 1 (by decide) y hy)).1 e
  · rw [(hall.map _).nodup_iff]
    simp only [List.map_cons, List.nodup_cons]
    refine ⟨fun hmem => ?_, h.ids⟩
    obtain ⟨y, hy, e⟩ := List.mem_map.1 hmem
    rcases List.mem_append.1 hy with hy | hy
    · exact hid 0 (by decide) y hy e
    · exact hid 1 (by decide) y hy e
  · have h1 := cntO_set (some o, (soAt rs1 k).2) hk
    rw [hn] at h1
    have h2 := h.cnt
    simp at h1
    omega
  · rcases mem_up hy with ⟨rfl, h5⟩ | ⟨_, h5⟩
    · rcases List.mem_cons.1 (hp.mem_iff.1 h5) with rfl | h6
      · exact hside
      · exact h.side _ ht _ h6
    · exact h.side _ ht _ h5
  · rcases mem_up hy with ⟨rfl, h5⟩ | ⟨_, h5⟩
    · rcases List.mem_cons.1 (hp.mem_iff.1 h5) with rfl | h6
      · exact hok
      · exact h.ok _ ht _ h6
    · exact h.ok _ ht _ h5

theorem Pb.gone {m s : Nat} {rs : List Sot} {fr : List Nat} {S : Nat → List Ly} {x : Ly} {l' : List Ly} (h : Pb m rs fr S) (hs : s < 2) (hx : x ∈ S s) (hp : (S s).Perm (x :: l')) :
    Pb (m + 1) (rs.set x.slot (none, x.age + 1)) (fr ++ [x.slot]) (upS S s l') := by
  have hat := h.there s hs x hx
  have hk := soAt_some hat
  have hf : (soAt rs x.slot).1.isSome = true := by rw [hat]; rfl
  have hall : (S 0 ++ S 1).Perm (x :: (upS S s l' 0 ++ upS S s l' 1)) := (pb_all S hs).trans ((hp.append_right _).trans ((pb_up S l' hs).symm.cons _))
  have hnd := (hall.map Ly.slot).nodup_iff.1 h.nd
  have hid := (hall.map fun x => x.o.id).nodup_iff.1 h.ids
  simp only [List.map_cons, List.nodup_cons] at hnd hid
  have hl := pb_len S l' hs
  have hpl := hp.length_eq
  simp only [List.length_cons] at hpl
  have old : ∀ t, t < 2 → ∀ y ∈ upS S s l' t, y ∈ S t := fun t ht y hy => by
    rcases mem_up hy with ⟨rfl, h5⟩ | ⟨_, h5⟩
    · exact hp.mem_iff.2 (List.mem_cons_of_mem _ h5)
    · exact h5
  refine ⟨?_, fun t ht y hy => ?_, hnd.2, hid.2, ?_, fun t ht y hy => h.side t ht y (old t ht y hy), fun t ht y hy => h.ok t ht y (old t ht y hy), by have := h.most; omega⟩
  · have := h.so.take hk hf
    rw [hat] at this; exact this
  · have hne : x.slot ≠ y.slot := fun e => hnd.1 (List.mem_map.2 ⟨y, Pb.mem ht hy, e.symm⟩)
    rw [soAt_set_other _ hne]
    exact h.there t ht y (old t ht y hy)
  · have h1 := cntO_set (none, x.age + 1) hk
    rw [hat] at h1
    have h2 := h.cnt
    simp at h1
    omega

/-- one order is changed in its place -/
def cutL (x : Ly) (o' : Ord) (l : List Ly) : List Ly := l.map fun y => if y.slot = x.slot then { y with o := o' } else y
theorem cutL_slots (x : Ly) (o' : Ord) (l : List Ly) : (cutL x o' l).map Ly.slot = l.map Ly.slot := by
  unfold cutL
  rw [List.map_map]
  apply List.map_congr_left
  intro y _
  simp only [Function.comp]
  split <;> rfl
theorem cutL_length (x : Ly) (o' : Ord) (l : List Ly) : (cutL x o' l).length = l.length := by simp [cutL]
theorem cutL_hV (x : Ly) (o' : Ord) (l : List Ly) : hV (cutL x o' l) = hV l := by
  induction l with
  | nil => rfl
  | cons y l ih =>
    have : cutL x o' (y :: l) = (if y.slot = x.slot then { y with o := o' } else y) :: cutL x o' l := rfl
    rw [this]
    unfold hV
    rw [ih]
    split <;> rfl
theorem Pb.cut {m s : Nat} {rs : List Sot} {fr : List Nat} {S : Nat → List Ly} {x : Ly} {o' : Ord} (h : Pb m rs fr S) (hs : s < 2) (hx : x ∈ S s) (h1 : o'.id = x.o.id) (h2 : o'.side = x.o.side) (h3 : 1 ≤ o'.price ∧ o'.price ≤ 1000000 ∧ 1 ≤ o'.qty ∧ o'.qty ≤ 1000000) :
    Pb (m + 1) (rs.set x.slot (some o', x.age)) fr (upS S s (cutL x o' (S s))) := by
  have hat := h.there s hs x hx
  have hk := soAt_some hat
  have hf : (soAt rs x.slot).1.isSome = true := by rw [hat]; rfl
  have hl := pb_len S (cutL x o' (S s)) hs
  have each : ∀ t, t < 2 → ∀ y ∈ upS S s (cutL x o' (S s)) t, (y ∈ S t ∧ y.slot ≠ x.slot) ∨ (t = s ∧ y = { x with o := o' }) := fun t ht y hy => by
    rcases mem_up hy with ⟨rfl, h5⟩ | ⟨hne, h5⟩
    · obtain ⟨z, hz, rfl⟩ := List.mem_map.1 h5
      by_cases e : z.slot = x.slot
      · obtain rfl := h.one_slot ht hs hz hx e
        right; rw [if_pos rfl]; exact ⟨rfl, rfl⟩
      · left; rw [if_neg e]; exact ⟨hz, e⟩
    · left
      refine ⟨h5, fun e => ?_⟩
      have e2 := h.one_slot ht hs h5 hx e
      exact hne (h.one_side ht hs h5 (e2 ▸ hx))
  have hcl := cutL_length x o' (S s)
  have hm := h.most
  have hids : ((cutL x o' (S s)).map fun y => y.o.id) = (S s).map fun y => y.o.id := by
    unfold cutL
    rw [List.map_map]
    apply List.map_congr_left
    intro y hy
    simp only [Function.comp]
    split
    · rename_i e
      obtain rfl := h.one_slot hs hs hy hx e
      exact h1
    · rfl
  refine ⟨?_, fun t ht y hy => ?_, ?_, ?_, ?_, fun t ht y hy => ?_, fun t ht y hy => ?_, by omega⟩
  · have := h.so.set (x := o') hk hf
    rw [hat] at this; exact this
  · rcases each t ht y hy with ⟨hy, hne⟩ | ⟨_, rfl⟩
    · rw [soAt_set_other _ (Ne.symm hne)]; exact h.there t ht y hy
    · exact soAt_set_same _ hk
  · rw [((pb_up S _ hs).map _).nodup_iff, List.map_append, cutL_slots, ← List.map_append, ← ((pb_all S hs).map _).nodup_iff]; exact h.nd
  · rw [((pb_up S _ hs).map _).nodup_iff, List.map_append, hids, ← List.map_append, ← ((pb_all S hs).map _).nodup_iff]; exact h.ids
  · have h4 := cntO_set (some o', x.age) hk
    rw [hat] at h4
    have h5 := h.cnt
    simp at h4
    omega
  · rcases each t ht y hy with ⟨hy, _⟩ | ⟨rfl, rfl⟩
    · exact h.side t ht y hy
    · show o'.side = _
      rw [h2]; exact h.side _ hs x hx
  · rcases each t ht y hy with ⟨hy, _⟩ | ⟨rfl, rfl⟩
    · exact h.ok t ht y hy
    · have := h.ok _ hs x hx
      show 1 ≤ o'.id ∧ (Lit.int .i64 o'.id).wf = true ∧ _
      rw [h1]
      exact ⟨this.1, this.2.1, h3⟩
end Go.Proofs.YtcpijeehgdbjbaaDoor

/-
  Small laws on blocks of memory and on rows that are owned, over any program. Conditions stand in each theorem.
-/
namespace Go.Proofs.YtcpijeehgdbjbaaDoor
open Go.RowKit

theorem blk_cell {w : World} {b j : Nat} {vs : Array Value} {t : TypeId} {v : Value} (h : w.heap[b]? = some (.cells vs t (0, 0))) (hj : vs[j]? = some v) : w.cell? ⟨b, j, none⟩ = some v := (cell_of_row w b j vs t (0, 0) h).trans hj
theorem blk_free {w : World} {b j : Nat} {vs : Array Value} {t : TypeId} (h : w.heap[b]? = some (.cells vs t (0, 0))) : w.frozen? ⟨b, j, none⟩ = false := frozen_of_row w b j vs t h
theorem blk_set {w : World} {b j : Nat} {vs : Array Value} {t : TypeId} (u : Value) (h : w.heap[b]? = some (.cells vs t (0, 0))) : (w.setCell ⟨b, j, none⟩ u).heap[b]? = some (.cells (vs.setIfInBounds j u) t (0, 0)) := heap_setCell_same w b j vs t u h
theorem blk_ne {w : World} {b g : Nat} {vs us : Array Value} {t s : TypeId} {f f' : Nat × Nat} (h : w.heap[b]? = some (.cells vs t f)) (h' : w.heap[g]? = some (.cells us s f')) (hn : t ≠ s) : b ≠ g := fun e => by
  subst e; rw [h] at h'; injection h' with h'; injection h' with _ h' _; exact hn h'
theorem owns_shape {w : World} {base : Nat} {e : TypeId} {size : Nat} {v : Value} {n : Nat} {xs : List Value} (h : w.ownsRow base e size v n xs) : ∃ (ao : Option Addr) (cap : Nat), v = .slice ao n cap ∧ n ≤ cap ∧ cap ≤ maxLen := by
  rcases h.2 with ⟨rfl, rfl⟩ | ⟨g, cap, cur, rfl, _, _, h1, h2, _⟩
  · exact ⟨none, 0, rfl, Nat.le_refl _, Nat.zero_le _⟩
  · exact ⟨some ⟨g, 0, none⟩, cap, rfl, h1, h2⟩
theorem owns_below {w w' : World} {base : Nat} {e : TypeId} {size : Nat} {v : Value} {n B : Nat} {xs : List Value} (h : w.ownsRow base e size v n xs) (hb : Below B w w') (hB : w.heap.size ≤ B) : w'.ownsRow base e size v n xs := by
  refine ⟨h.1, ?_⟩
  rcases h.2 with hn | ⟨g, cap, cur, rfl, hg, hh, r⟩
  · exact .inl hn
  · exact .inr ⟨g, cap, cur, rfl, hg, (hb.block g (Nat.lt_of_lt_of_le (lt_of_block hh) hB)).trans hh, r⟩
theorem owns_out {S : Nat → Prop} {w w' : World} {base : Nat} {e : TypeId} {size : Nat} {v : Value} {n : Nat} {xs : List Value} (h : w.ownsRow base e size v n xs) (hb : Out S w w') (hS : ∀ k, v.ownBlock = some k → ¬ S k) : w'.ownsRow base e size v n xs := by
  refine ⟨h.1, ?_⟩
  rcases h.2 with hn | ⟨g, cap, cur, rfl, hg, hh, r⟩
  · exact .inl hn
  · exact .inr ⟨g, cap, cur, rfl, hg, (hb.block g (lt_of_block hh) (hS g rfl)).trans hh, r⟩
theorem owns_type {w : World} {base b : Nat} {e t : TypeId} {size : Nat} {v : Value} {n : Nat} {xs : List Value} {vs : Array Value} {f : Nat × Nat} (h : w.ownsRow base e size v n xs) (hb : w.heap[b]? = some (.cells vs t f)) (ht : t ≠ e) : v.ownBlock ≠ some b := fun hv => by
  rcases h.2 with ⟨rfl, _⟩ | ⟨g, cap, cur, rfl, _, hh, _⟩
  · cases hv
  · simp [Value.ownBlock] at hv; subst hv; exact blk_ne hb hh ht rfl
theorem owns_types {w : World} {base base' : Nat} {e e' : TypeId} {size size' : Nat} {v v' : Value} {n n' : Nat} {xs xs' : List Value} (h : w.ownsRow base e size v n xs) (h' : w.ownsRow base' e' size' v' n' xs') (ht : e ≠ e') {k : Nat} (hv : v.ownBlock = some k) : v'.ownBlock ≠ some k := fun hv' => by
  rcases h.2 with ⟨rfl, _⟩ | ⟨g, cap, cur, rfl, _, hh, _⟩
  · cases hv
  · simp [Value.ownBlock] at hv; subst hv; exact owns_type h' hh ht hv'
theorem owns_len {w : World} {base : Nat} {e : TypeId} {size : Nat} {a : Option Addr} {n' cap n : Nat} {xs : List Value} (h : w.ownsRow base e size (.slice a n' cap) n xs) : n' = n := by
  rcases h.2 with ⟨h', h0⟩ | ⟨g, cap', cur, h', _⟩
  · injection h' with _ h1 _; omega
  · injection h' with _ h1 _
theorem owns_less {w : World} {base : Nat} {e : TypeId} {g n cap : Nat} {xs : List Value} {x : Value} (h : w.ownsRow base e 1 (.slice (some ⟨g, 0, none⟩) (n + 1) cap) (n + 1) (xs ++ [x])) (hn : xs.length = n) : w.ownsRow base e 1 (.slice (some ⟨g, 0, none⟩) n cap) n xs := by
  rcases h.2 with ⟨h', _⟩ | ⟨g', cap', cur, h', hb, hg, hnc, hcm, hcs, ht⟩
  · simp at h'
  · simp only [Value.slice.injEq, Option.some.injEq, Addr.mk.injEq, and_true, true_and] at h'
    obtain ⟨rfl, rfl⟩ := h'
    refine ⟨by omega, .inr ⟨g, cap, cur, rfl, hb, hg, by omega, hcm, hcs, ?_⟩⟩
    have := congrArg (List.take n) ht
    rw [List.take_take, ← hn, List.take_left] at this
    rw [← hn]
    simpa using this
theorem out_set (w : World) (a : Addr) (u : Value) : Out (fun j => j = a.block) w (w.setCell a u) := ⟨rfl, rfl, rfl, by simp, fun j _ hj => Below.heap_setCell _ _ _ _ (fun e => hj e)⟩
theorem heap_drewN (w : World) : ∀ n, (w.drewN n).heap = w.heap := fun n => by
  have : ∀ n (w' : World), (w'.drewN n).heap = w'.heap := fun n => by
    induction n with
    | zero => intro w'; rfl
    | succ n ih => intro w'; exact ih _
  exact this n w
theorem blk_drewN {w : World} {b : Nat} {o : Obj} (n : Nat) (h : w.heap[b]? = some o) : (w.drewN n).heap[b]? = some o := by rw [heap_drewN]; exact h
theorem blk_below {w w' : World} {b B : Nat} {o : Obj} (h : w.heap[b]? = some o) (hb : Below B w w') (hB : w.heap.size ≤ B) : w'.heap[b]? = some o := (hb.block b (Nat.lt_of_lt_of_le (lt_of_block h) hB)).trans h
theorem blk_out {S : Nat → Prop} {w w' : World} {b : Nat} {o : Obj} (h : w.heap[b]? = some o) (hb : Out S w w') (hS : ¬ S b) : w'.heap[b]? = some o := (hb.block b (lt_of_block h) hS).trans h
theorem bel1 (w : World) (o : Obj) : Below w.heap.size w (w.alloc o) := (Below.refl _ _).alloc (Nat.le_refl _) o
theorem bel2 (w : World) (o o' : Obj) : Below w.heap.size w ((w.alloc o).alloc o') := ((Below.refl _ _).alloc (Nat.le_refl _) o).alloc (by simp) o'
theorem bel_then {w w1 w2 : World} (h : Below w.heap.size w w1) (h1 : Below w1.heap.size w1 w2) : Below w.heap.size w w2 := h.trans (h1.mono h.size)
theorem two_old (w : World) (o o' : Obj) : ((w.alloc o).alloc o').heap[w.heap.size]? = some o := (Below.heap_alloc (w.alloc o) o' w.heap.size (by simp)).trans (heap_alloc_new w o)
theorem two_new (w : World) (o o' : Obj) : ((w.alloc o).alloc o').heap[w.heap.size + 1]? = some o' := by
  have := heap_alloc_new (w.alloc o) o'
  rwa [show (w.alloc o).heap.size = w.heap.size + 1 by simp] at this
end Go.Proofs.YtcpijeehgdbjbaaDoor

/-
  An arena of orders in memory, and what Many, find, Get, Set return at a handle whose order is there, over this seat's translation, told by the plain lists of PbSl. Conditions stand in each theorem.
-/
namespace Go.Proofs.YtcpijeehgdbjbaaDoor
open Go.RowKit

/-- In w block ab is an arena of at most 'most' orders: its slots, and those of them that are free. -/
structure ArOr (w : World) (ab : Nat) (most : Int) (vs vf : Value) (rs : List Sot) (fr : List Nat) : Prop where
  box : w.heap[ab]? = some (.cells #[.int .i64 most, vs, vf] 163 (0, 0))
  slots : w.ownsRow 0 166 7 vs rs.length (soV rs)
  free : w.ownsRow 0 3 1 vf fr.length (frV fr)
/-- the blocks of an arena -/
def aoB (ab : Nat) (vs vf : Value) (k : Nat) : Prop := k = ab ∨ vs.ownBlock = some k ∨ vf.ownBlock = some k
theorem ArOr.below {w w' : World} {ab : Nat} {most : Int} {vs vf : Value} {rs : List Sot} {fr : List Nat} {B : Nat} (h : ArOr w ab most vs vf rs fr) (hb : Below B w w') (hB : w.heap.size ≤ B) : ArOr w' ab most vs vf rs fr :=
  ⟨blk_below h.box hb hB, owns_below h.slots hb hB, owns_below h.free hb hB⟩
theorem ArOr.out {S : Nat → Prop} {w w' : World} {ab : Nat} {most : Int} {vs vf : Value} {rs : List Sot} {fr : List Nat} (h : ArOr w ab most vs vf rs fr) (hb : Out S w w') (hS : ∀ k, aoB ab vs vf k → ¬ S k) : ArOr w' ab most vs vf rs fr :=
  ⟨blk_out h.box hb (hS ab (Or.inl rfl)), owns_out h.slots hb (fun k hk => hS k (Or.inr (Or.inl hk))), owns_out h.free hb (fun k hk => hS k (Or.inr (Or.inr hk)))⟩
theorem ArOr.lt {w : World} {ab : Nat} {most : Int} {vs vf : Value} {rs : List Sot} {fr : List Nat} (h : ArOr w ab most vs vf rs fr) {k : Nat} (hk : aoB ab vs vf k) : k < w.heap.size := by
  rcases hk with rfl | hk | hk
  · exact lt_of_block h.box
  · exact (h.slots.lt k hk).2
  · exact (h.free.lt k hk).2
/-- one slot's cells -/
theorem ArOr.slot {w : World} {ab : Nat} {most : Int} {vs vf : Value} {rs : List Sot} {fr : List Nat} (h : ArOr w ab most vs vf rs fr) {k : Nat} {o : Ord} {a : Int} {f : Bool} (hk : k < rs.length) (ho : thO (soAt rs k).1 = o) (ha : (soAt rs k).2 = a) (hf : (soAt rs k).1.isSome = f) :
    ∃ g cap, vs = .slice (some ⟨g, 0, none⟩) rs.length cap ∧ w.cell? ⟨g, k * 7, none⟩ = some (.int .i64 o.id) ∧ w.cell? ⟨g, k * 7 + 1, none⟩ = some (.int .i64 o.side) ∧ w.cell? ⟨g, k * 7 + 2, none⟩ = some (.int .i64 o.kind) ∧ w.cell? ⟨g, k * 7 + 3, none⟩ = some (.int .i64 o.price) ∧ w.cell? ⟨g, k * 7 + 4, none⟩ = some (.int .i64 o.qty) ∧ w.cell? ⟨g, k * 7 + 5, none⟩ = some (.int .i64 a) ∧ w.cell? ⟨g, k * 7 + 6, none⟩ = some (.bool f) := by
  subst ho ha hf
  obtain ⟨g, cap, rfl, _, _⟩ := h.slots.form (by omega)
  obtain ⟨h1, h2, h3, h4, h5, h6, h7⟩ := soV_at hk
  exact ⟨g, cap, rfl, (h.slots.cellAt _ (by omega)).trans h1, (h.slots.cellAt _ (by omega)).trans h2, (h.slots.cellAt _ (by omega)).trans h3, (h.slots.cellAt _ (by omega)).trans h4, (h.slots.cellAt _ (by omega)).trans h5, (h.slots.cellAt _ (by omega)).trans h6, (h.slots.cellAt _ (by omega)).trans h7⟩
theorem ArOr.has {w : World} {ab : Nat} {most : Int} {vs vf : Value} {rs : List Sot} {fr : List Nat} (h : ArOr w ab most vs vf rs fr) {k : Nat} {o : Ord} {a : Int} (hk : soAt rs k = (some o, a)) :
    k < rs.length ∧ ∃ g cap, vs = .slice (some ⟨g, 0, none⟩) rs.length cap ∧ w.cell? ⟨g, k * 7, none⟩ = some (.int .i64 o.id) ∧ w.cell? ⟨g, k * 7 + 1, none⟩ = some (.int .i64 o.side) ∧ w.cell? ⟨g, k * 7 + 2, none⟩ = some (.int .i64 o.kind) ∧ w.cell? ⟨g, k * 7 + 3, none⟩ = some (.int .i64 o.price) ∧ w.cell? ⟨g, k * 7 + 4, none⟩ = some (.int .i64 o.qty) ∧ w.cell? ⟨g, k * 7 + 5, none⟩ = some (.int .i64 a) ∧ w.cell? ⟨g, k * 7 + 6, none⟩ = some (.bool true) :=
  ⟨soAt_some hk, h.slot (soAt_some hk) (by rw [hk]; rfl) (by rw [hk]) (by rw [hk]; rfl)⟩

set_option maxHeartbeats 400000 in
theorem oaNew (w : World) : Calls Tryd.prog 55 #[.int .i64 100] w
    fun e w' => e = .returned (.tuple #[.pointer (some ⟨w.heap.size, 0, none⟩), .nilIface]) ∧ w' = w.alloc (.cells #[.int .i64 100, .slice none 0 0, .slice none 0 0] 163) := by
  go_enter Tryd.func55, Tryd.ntmps55
  go_wp2
  go_ret2
  exact ⟨rfl, rfl⟩
theorem oaNew_is (w : World) (most : Int) : ArOr (w.alloc (.cells #[.int .i64 most, .slice none 0 0, .slice none 0 0] 163)) w.heap.size most (.slice none 0 0) (.slice none 0 0) [] [] :=
  ⟨heap_alloc_new w _, World.ownsRow_nil _ _ _ _, World.ownsRow_nil _ _ _ _⟩

set_option maxHeartbeats 400000 in
theorem oaMany (ab : Nat) (most : Int) (vs vf : Value) (rs : List Sot) (fr : List Nat) (c : Int) (w : World) (h : ArOr w ab most vs vf rs fr) (hl : rs.length ≤ 1000) (hc : (cntO rs : Int) = c) (hs : cntO rs + fr.length = rs.length) :
    Calls Tryd.prog 74 #[.pointer (some ⟨ab, 0, none⟩)] w fun e w' => e = .returned (.int .i64 c) ∧ ∃ n, w' = w.drewN n := by
  have c1 := blk_cell (j := 1) h.box rfl
  have c2 := blk_cell (j := 2) h.box rfl
  obtain ⟨ao, cap, rfl, _, _⟩ := owns_shape h.slots
  obtain ⟨ao', cap', rfl, _, _⟩ := owns_shape h.free
  have HC : Hid (c = (rs.length : Int) - fr.length) := by show _ = _; omega
  have hf : fr.length ≤ rs.length := by omega
  clear h hc hs
  go_enter Tryd.func74, Tryd.ntmps74
  go_wp2_with fail
  go_quiet (fail)
  go_wp2
  go_ret
  exact ⟨by rw [HC.out]; first | rfl | (rw [IntWalk.i64_in _ (by omega)]), ⟨_, rfl⟩⟩

set_option maxRecDepth 4000 in
set_option maxHeartbeats 1000000 in
theorem oaFind (ab : Nat) (most : Int) (vs vf : Value) (rs : List Sot) (fr : List Nat) (k : Nat) (o : Ord) (a : Int) (w : World) (h : ArOr w ab most vs vf rs fr) (hk : soAt rs k = (some o, a)) :
    Calls Tryd.prog 81 #[.pointer (some ⟨ab, 0, none⟩), .agg #[.int .i64 k, .int .i64 a]] w
      fun e w' => Below w.heap.size w w' ∧ ∃ (g cap : Nat), vs = .slice (some ⟨g, 0, none⟩) rs.length cap ∧ e = .returned (.pointer (some ⟨g, k * 7, none⟩)) := by
  have c1 := blk_cell (j := 1) h.box rfl
  have lb : ab < w.heap.size := lt_of_block h.box
  obtain ⟨hk1, g, cap, rfl, _, _, _, _, _, d1, d2⟩ := h.has hk
  have lg : g < w.heap.size := World.block_lt_of_cell? w _ d1
  clear h hk
  have hd : decide ((k : Int) < 0) = false := decide_eq_false (by omega)
  have q1 : (0 : Int) ≤ (k : Int) := by omega
  have q2 : (k : Int) < rs.length := by omega
  have q3 : decide ((rs.length : Int) ≤ (k : Int)) = false := decide_eq_false (by omega)
  go_enter Tryd.func81, Tryd.ntmps81
  go_wp2_with fail
  go_quiet (fail)
  go_wp2_with fail
  go_quiet (fail)
  go_wp2_with fail
  go_quiet (fail)
  go_wp2
  go_ret
  exact ⟨below_drewN (below_drewN (below_drewN (bel1 _ _) _) _) _, g, cap, rfl, rfl⟩

set_option maxRecDepth 4000 in
set_option maxHeartbeats 1000000 in
theorem oaGet (ab : Nat) (most : Int) (vs vf : Value) (rs : List Sot) (fr : List Nat) (k : Nat) (o : Ord) (a : Int) (w : World) (h : ArOr w ab most vs vf rs fr) (hk : soAt rs k = (some o, a)) :
    Calls Tryd.prog 79 #[.pointer (some ⟨ab, 0, none⟩), .agg #[.int .i64 k, .int .i64 a]] w
      fun e w' => Below w.heap.size w w' ∧ e = .returned (.tuple #[o.agg, .nilIface]) := by
  have HA : Hid (ArOr w ab most vs vf rs fr) := h
  have HK : Hid (soAt rs k = (some o, a)) := hk
  clear h hk
  go_enter Tryd.func79, Tryd.ntmps79
  go_wp2_with fail
  refine (oaFind ab most vs vf rs fr k o a _ (HA.out.below (bel2 _ _ _) (Nat.le_refl _)) HK.out).mono ?_
  rintro e w1 ⟨hb, g, cap, rfl, rfl⟩
  have hx := (hb.block (w.heap.size + 1) (by simp)).trans (two_new w _ _)
  have x0 := blk_cell (j := 0) hx rfl
  have x1 := blk_cell (j := 1) hx rfl
  have x2 := blk_cell (j := 2) hx rfl
  have x3 := blk_cell (j := 3) hx rfl
  have x4 := blk_cell (j := 4) hx rfl
  have y0 := blk_free (j := 0) hx
  have y1 := blk_free (j := 1) hx
  have y2 := blk_free (j := 2) hx
  have y3 := blk_free (j := 3) hx
  have y4 := blk_free (j := 4) hx
  have HB : Hid (Below w.heap.size w w1) := bel_then (bel2 w _ _) hb
  obtain ⟨hk1, g', cap', hv, d0, d1, d2, d3, d4, _, _⟩ := (HA.out.below HB.out (Nat.le_refl _)).has HK.out
  simp only [Value.slice.injEq, Option.some.injEq, Addr.mk.injEq, and_true, true_and] at hv
  obtain ⟨rfl, rfl⟩ := hv
  have hne : g ≠ w.heap.size + 1 := fun e => owns_type (HA.out.below HB.out (Nat.le_refl _)).slots hx (by decide) (by rw [e]; rfl)
  clear hb hx
  go_wp2
  refine bodyPost_ret (by simp [results, Tryd.results79, go_sem, x0, x1, x2, x3, x4]; try rfl) rfl ?_
  refine ⟨?_, rfl⟩
  have s : Below w.heap.size w1 w1 := Below.refl _ _
  exact HB.out.trans (((((s.setCell (p := ⟨w.heap.size + 1, 0, none⟩) (by simp) _).setCell (p := ⟨w.heap.size + 1, 1, none⟩) (by simp) _).setCell (p := ⟨w.heap.size + 1, 2, none⟩) (by simp) _).setCell (p := ⟨w.heap.size + 1, 3, none⟩) (by simp) _).setCell (p := ⟨w.heap.size + 1, 4, none⟩) (by simp) _)
end Go.Proofs.YtcpijeehgdbjbaaDoor

/-
  What an arena of orders does at Set, room and Put, over this seat's translation, told by the plain lists of PbSl. Conditions stand in each theorem.
-/
namespace Go.Proofs.YtcpijeehgdbjbaaDoor
open Go.RowKit

/-- a cell of the row of slots is written: the box and the free ones stay -/
theorem raw_store {w : World} {ab g n cap : Nat} {most : Int} {vf : Value} {xs : List Value} {fr : List Nat} (hb : w.heap[ab]? = some (.cells #[.int .i64 most, .slice (some ⟨g, 0, none⟩) n cap, vf] 163 (0, 0)))
    (hs : w.ownsRow 0 166 7 (.slice (some ⟨g, 0, none⟩) n cap) n xs) (hf : w.ownsRow 0 3 1 vf fr.length (frV fr)) (j : Nat) (u : Value) :
    (w.setCell ⟨g, j, none⟩ u).heap[ab]? = some (.cells #[.int .i64 most, .slice (some ⟨g, 0, none⟩) n cap, vf] 163 (0, 0))
    ∧ (w.setCell ⟨g, j, none⟩ u).ownsRow 0 166 7 (.slice (some ⟨g, 0, none⟩) n cap) n (xs.set j u) ∧ (w.setCell ⟨g, j, none⟩ u).ownsRow 0 3 1 vf fr.length (frV fr) ∧ Out (fun k => k = g) w (w.setCell ⟨g, j, none⟩ u) := by
  have hne : ab ≠ g := fun e => owns_type hs hb (by decide) (by rw [e]; rfl)
  obtain ⟨h1, h2⟩ := hs.stored j u
  exact ⟨(Below.heap_setCell _ _ _ _ hne).trans hb, h1, ownsRow_setCell_other (a := ⟨g, j, none⟩) hf (owns_types hs hf (by decide) rfl) u, Out.of_grown h2 (fun k hk => by injection hk with hk; exact hk.symm)⟩
theorem ArOr.raw {w : World} {ab g n cap : Nat} {most : Int} {vf : Value} {xs : List Value} {fr : List Nat} (hb : w.heap[ab]? = some (.cells #[.int .i64 most, .slice (some ⟨g, 0, none⟩) n cap, vf] 163 (0, 0)))
    (hs : w.ownsRow 0 166 7 (.slice (some ⟨g, 0, none⟩) n cap) n xs) (hf : w.ownsRow 0 3 1 vf fr.length (frV fr)) (j : Nat) (u0 u1 u2 u3 u4 : Value) :
    let w5 := ((((w.setCell ⟨g, j, none⟩ u0).setCell ⟨g, j + 1, none⟩ u1).setCell ⟨g, j + 2, none⟩ u2).setCell ⟨g, j + 3, none⟩ u3).setCell ⟨g, j + 4, none⟩ u4
    w5.heap[ab]? = some (.cells #[.int .i64 most, .slice (some ⟨g, 0, none⟩) n cap, vf] 163 (0, 0))
    ∧ w5.ownsRow 0 166 7 (.slice (some ⟨g, 0, none⟩) n cap) n (((((xs.set j u0).set (j + 1) u1).set (j + 2) u2).set (j + 3) u3).set (j + 4) u4) ∧ w5.ownsRow 0 3 1 vf fr.length (frV fr) ∧ Out (fun k => k = g) w w5 := by
  obtain ⟨a1, a2, a3, a4⟩ := raw_store hb hs hf j u0
  obtain ⟨b1, b2, b3, b4⟩ := raw_store a1 a2 a3 (j + 1) u1
  obtain ⟨c1, c2, c3, c4⟩ := raw_store b1 b2 b3 (j + 2) u2
  obtain ⟨d1, d2, d3, d4⟩ := raw_store c1 c2 c3 (j + 3) u3
  obtain ⟨e1, e2, e3, e4⟩ := raw_store d1 d2 d3 (j + 4) u4
  exact ⟨e1, e2, e3, (((a4.trans b4 (Went.refl _ _)).trans c4 (Went.refl _ _)).trans d4 (Went.refl _ _)).trans e4 (Went.refl _ _)⟩
theorem five_ne {l : List Value} {k j : Nat} {v u0 u1 u2 u3 u4 : Value} (h : l[j]? = some v) (hj : k + 4 < j) : (((((l.set k u0).set (k + 1) u1).set (k + 2) u2).set (k + 3) u3).set (k + 4) u4)[j]? = some v := by
  rw [List.getElem?_set_ne (by omega), List.getElem?_set_ne (by omega), List.getElem?_set_ne (by omega), List.getElem?_set_ne (by omega), List.getElem?_set_ne (by omega)]
  exact h
theorem soV_put {rs : List Sot} {k : Nat} {o : Ord} (hk : k < rs.length) :
    ((((((soV rs).set (k * 7) (.int .i64 o.id)).set (k * 7 + 1) (.int .i64 o.side)).set (k * 7 + 2) (.int .i64 o.kind)).set (k * 7 + 3) (.int .i64 o.price)).set (k * 7 + 4) (.int .i64 o.qty)).set (k * 7 + 6) (.bool true) = soV (rs.set k (some o, (soAt rs k).2)) := by
  have e : ((((((((soV rs).set (k * 7) (.int .i64 o.id)).set (k * 7 + 1) (.int .i64 o.side)).set (k * 7 + 2) (.int .i64 o.kind)).set (k * 7 + 3) (.int .i64 o.price)).set (k * 7 + 4) (.int .i64 o.qty)).set (k * 7 + 5) (.int .i64 (soAt rs k).2)).set (k * 7 + 6) (.bool true)) = soV (rs.set k (some o, (soAt rs k).2)) := soV_set (some o, (soAt rs k).2) hk
  obtain ⟨_, _, _, _, _, a5, _⟩ := soV_at hk
  rw [set_self (k := k * 7 + 5) (five_ne a5 (by omega))] at e
  exact e
theorem soV_keep {rs : List Sot} {k : Nat} {o : Ord} (hk : k < rs.length) (hf : (soAt rs k).1.isSome = true) :
    (((((soV rs).set (k * 7) (.int .i64 o.id)).set (k * 7 + 1) (.int .i64 o.side)).set (k * 7 + 2) (.int .i64 o.kind)).set (k * 7 + 3) (.int .i64 o.price)).set (k * 7 + 4) (.int .i64 o.qty) = soV (rs.set k (some o, (soAt rs k).2)) := by
  have e := soV_put (o := o) hk
  obtain ⟨_, _, _, _, _, _, a6⟩ := soV_at hk
  rw [hf] at a6
  rw [set_self (k := k * 7 + 6) (five_ne a6 (by omega))] at e
  exact e

theorem ArOr.setThing {w : World} {ab g n cap k : Nat} {most : Int} {x : Ord} {vf : Value} {rs : List Sot} {fr : List Nat} (h : ArOr w ab most (.slice (some ⟨g, 0, none⟩) n cap) vf rs fr) (hk : k < rs.length) (hf : (soAt rs k).1.isSome = true) :
    ArOr (((((w.setCell ⟨g, k * 7, none⟩ (.int .i64 x.id)).setCell ⟨g, k * 7 + 1, none⟩ (.int .i64 x.side)).setCell ⟨g, k * 7 + 2, none⟩ (.int .i64 x.kind)).setCell ⟨g, k * 7 + 3, none⟩ (.int .i64 x.price)).setCell ⟨g, k * 7 + 4, none⟩ (.int .i64 x.qty)) ab most (.slice (some ⟨g, 0, none⟩) n cap) vf (rs.set k (some x, (soAt rs k).2)) fr
    ∧ Out (fun j => j = g) w (((((w.setCell ⟨g, k * 7, none⟩ (.int .i64 x.id)).setCell ⟨g, k * 7 + 1, none⟩ (.int .i64 x.side)).setCell ⟨g, k * 7 + 2, none⟩ (.int .i64 x.kind)).setCell ⟨g, k * 7 + 3, none⟩ (.int .i64 x.price)).setCell ⟨g, k * 7 + 4, none⟩ (.int .i64 x.qty)) := by
  obtain rfl := owns_len h.slots
  obtain ⟨h1, h2, h3, h4⟩ := ArOr.raw h.box h.slots h.free (k * 7) (.int .i64 x.id) (.int .i64 x.side) (.int .i64 x.kind) (.int .i64 x.price) (.int .i64 x.qty)
  refine ⟨⟨h1, ?_, h3⟩, h4⟩
  rw [List.length_set, ← soV_keep hk hf]
  exact h2

/-- the slot that was freed last is given: the free ones behind it -/
theorem ArOr.pop {w : World} {ab g n cap k : Nat} {most : Int} {vs : Value} {rs : List Sot} {fs : List Nat} (h : ArOr w ab most vs (.slice (some ⟨g, 0, none⟩) n cap) rs (fs ++ [k])) :
    ArOr (w.setCell ⟨ab, 2, none⟩ (.slice (some ⟨g, 0, none⟩) fs.length cap)) ab most vs (.slice (some ⟨g, 0, none⟩) fs.length cap) rs fs ∧ Out (fun j => j = ab) w (w.setCell ⟨ab, 2, none⟩ (.slice (some ⟨g, 0, none⟩) fs.length cap)) := by
  have hf := h.free
  obtain rfl := owns_len h.free
  rw [List.length_append, List.length_singleton, frV_push] at hf
  have h1 := owns_less hf (frV_length fs)
  refine ⟨⟨by simpa using blk_set (j := 2) (.slice (some ⟨g, 0, none⟩) fs.length cap) h.box, ownsRow_setCell_other h.slots (owns_type h.slots h.box (by decide)) _, ownsRow_setCell_other h1 (owns_type h1 h.box (by decide)) _⟩, ?_⟩
  exact out_set _ ⟨ab, 2, none⟩ _

theorem Tryd.infoSlotO : (Tryd.prog.info? 166).map (fun i => (i.zero, i.size, i.bytes)) = some (some (.agg #[.int .i64 0, .int .i64 0, .int .i64 0, .int .i64 0, .int .i64 0, .int .i64 0, .bool false]), 7, 56) := by kernel_rfl
theorem Tryd.infoNumO : (Tryd.prog.info? 3).map (fun i => (i.zero, i.size, i.bytes)) = some (some (.int .i64 0), 1, 8) := by kernel_rfl

set_option maxRecDepth 4000 in
set_option maxHeartbeats 1000000 in
theorem oaRoom_free (ab : Nat) (most : Int) (vs vf : Value) (rs : List Sot) (fs : List Nat) (k : Nat) (w : World) (h : ArOr w ab most vs vf rs (fs ++ [k])) (hl : fs.length ≤ 1000) :
    Calls Tryd.prog 75 #[.pointer (some ⟨ab, 0, none⟩)] w
      fun e w' => e = .returned (.int .i64 k) ∧ ∃ vf', ArOr w' ab most vs vf' rs fs ∧ Out (aoB ab vs vf) w w' ∧ vf'.ownBlock = vf.ownBlock := by
  obtain ⟨g, cap, rfl, _, _⟩ := h.free.form (by simp)
  have HA : Hid (ArOr w ab most vs (.slice (some ⟨g, 0, none⟩) (fs ++ [k]).length cap) rs (fs ++ [k])) := h
  have c2 := blk_cell (j := 2) h.box rfl
  have f2 := blk_free (j := 2) h.box
  have d0 := (h.free.cellAt fs.length (by simp)).trans (frV_top fs k)
  have hcap : fs.length + 1 ≤ cap := by
    obtain ⟨_, _, e, h1, _⟩ := owns_shape h.free
    simp at e h1; omega
  clear h
  rw [List.length_append, List.length_singleton] at c2
  have q1 : (0 : Int) ≤ (fs.length : Int) := by omega
  have q2 : (fs.length : Int) < (fs.length : Int) + 1 := by omega
  go_enter Tryd.func75, Tryd.ntmps75
  go_wp2
  go_ret
  obtain ⟨r1, r2⟩ := HA.out.pop
  exact ⟨rfl, _, r1, r2.mono (fun j hj => Or.inl hj), rfl⟩

/-- a new slot at the end -/
theorem ArOr.push {w w1 : World} {ab g cap H : Nat} {most : Int} {vs vf : Value} {rs : List Sot} {fr : List Nat} {o : Obj} {p : Sot} (h : ArOr w ab most vs vf rs fr)
    (hown : w1.ownsRow 0 166 7 (.slice (some ⟨g, 0, none⟩) (rs.length + 1) cap) (rs.length + 1) (soV (rs ++ [p]))) (hg : (w.alloc o).grownBy w1 vs.ownBlock) (hat : vs.ownBlock = some g ∨ g = H) (hH : w.heap.size ≤ H) :
    ArOr (w1.setCell ⟨ab, 1, none⟩ (.slice (some ⟨g, 0, none⟩) (rs.length + 1) cap)) ab most (.slice (some ⟨g, 0, none⟩) (rs.length + 1) cap) vf (rs ++ [p]) fr
    ∧ Out (aoB ab vs vf) w (w1.setCell ⟨ab, 1, none⟩ (.slice (some ⟨g, 0, none⟩) (rs.length + 1) cap)) ∧ Went w (aoB ab vs vf) (aoB ab (.slice (some ⟨g, 0, none⟩) (rs.length + 1) cap) vf) := by
  have o1 : Out (fun k => vs.ownBlock = some k) w w1 := (Out.of_below (bel1 w o) (Nat.le_refl _)).trans (Out.of_grown hg (fun k hk => hk)) (Went.refl _ _)
  have b1 : w1.heap[ab]? = some (.cells #[.int .i64 most, vs, vf] 163 (0, 0)) := blk_out h.box o1 (owns_type h.slots h.box (by decide))
  have f1 : w1.ownsRow 0 3 1 vf fr.length (frV fr) := owns_out h.free o1 (fun k hk => owns_types h.free h.slots (by decide) hk)
  have o2 := out_set w1 ⟨ab, 1, none⟩ (.slice (some ⟨g, 0, none⟩) (rs.length + 1) cap)
  refine ⟨⟨by simpa using blk_set (j := 1) (.slice (some ⟨g, 0, none⟩) (rs.length + 1) cap) b1, ?_, ownsRow_setCell_other f1 (owns_type f1 b1 (by decide)) _⟩, ?_, ?_⟩
  · rw [List.length_append, List.length_singleton]
    exact ownsRow_setCell_other hown (owns_type hown b1 (by decide)) _
  · exact (o1.mono (S' := aoB ab vs vf) (fun k hk => Or.inr (Or.inl hk))).trans (o2.mono (S' := aoB ab vs vf) (fun k hk => Or.inl hk)) (Went.refl _ _)
  · rintro k (rfl | hk | hk)
    · exact Or.inl (Or.inl rfl)
    · injection hk with hk
      change g = k at hk
      subst hk
      rcases hat with hat | hat
      · exact Or.inl (Or.inr (Or.inl hat))
      · exact Or.inr (by omega)
    · exact Or.inl (Or.inr (Or.inr hk))

set_option maxRecDepth 4000 in
set_option maxHeartbeats 1000000 in
theorem oaRoom_new (ab : Nat) (most : Int) (vs vf : Value) (rs : List Sot) (w : World) (h : ArOr w ab most vs vf rs []) (hl : rs.length ≤ 1000) :
    Calls Tryd.prog 75 #[.pointer (some ⟨ab, 0, none⟩)] w
      fun e w' => e = .returned (.int .i64 rs.length) ∧ ∃ vs', ArOr w' ab most vs' vf (rs ++ [(none, 0)]) [] ∧ Out (aoB ab vs vf) w w' ∧ Went w (aoB ab vs vf) (aoB ab vs' vf) := by
  obtain ⟨i0, hi, hz0, hz1, hz2⟩ := info_parts Tryd.infoSlotO
  have HA : Hid (ArOr w ab most vs vf rs []) := h
  have c1 := blk_cell (j := 1) h.box rfl
  have c2 := blk_cell (j := 2) h.box rfl
  have lb : ab < w.heap.size := lt_of_block h.box
  have HO : Hid (vs.ownBlock ≠ some ab) := owns_type h.slots h.box (by decide)
  obtain ⟨ao, cap, rfl, _, _⟩ := owns_shape h.free
  simp only [List.length_nil] at c2 HA
  obtain ⟨ao', cap', rfl, _, _⟩ := owns_shape h.slots
  clear h
  go_enter Tryd.func75, Tryd.ntmps75
  go_wp2_with (at_builtin; go_loud (refine wpList_append_lies _ rfl _ _ 161 rfl 0 166 i0 (.agg #[.int .i64 0, .int .i64 0, .int .i64 0, .int .i64 0, .int .i64 0, .int .i64 0, .bool false]) 7 56 Tryd.underlying161 hi hz0 hz1 hz2 rfl (by decide) (.slice ao' rs.length cap') rs.length (soV rs) rfl (HA.out.slots.alloc _) ⟨w.heap.size, 0, none⟩ 1 1 [.int .i64 0, .int .i64 0, .int .i64 0, .int .i64 0, .int .i64 0, .int .i64 0, .bool false] rfl rfl (World.news_of_block (cs := #[.int .i64 0, .int .i64 0, .int .i64 0, .int .i64 0, .int .i64 0, .int .i64 0, .bool false]) (t := 166) (fr := (0, 0)) (heap_alloc_new w _)) (by simp [Value.oneCell']) (by decide) (by unfold maxLen; omega) (by omega) (Nat.zero_le _) (w.heap.size + 1) (by simp) ?_); intro g cg w1 hown hgrow hat hlt; have hbx := (hgrow.block ab (by simp; omega) (Ne.symm HO.out)).trans ((Below.heap_alloc _ _ _ lb).trans HA.out.box); have x1 := blk_cell (j := 1) hbx rfl; have x2 := blk_free (j := 1) hbx)
  go_ret
  obtain ⟨r1, r2, r3⟩ := HA.out.push (p := (none, 0)) (by rw [soV_append]; exact hown) hgrow hat (by omega)
  exact ⟨by first | rfl | (apply congrArg; go_num), _, r1, r2, r3⟩

theorem oaRoom (ab : Nat) (most : Int) (vs vf : Value) (rs : List Sot) (fr : List Nat) (k : Nat) (rs1 : List Sot) (fr1 : List Nat) (w : World) (h : ArOr w ab most vs vf rs fr) (hR : RoomO rs fr k rs1 fr1) (hl : rs.length ≤ 1000) (hf : fr.length ≤ 1000) :
    Calls Tryd.prog 75 #[.pointer (some ⟨ab, 0, none⟩)] w
      fun e w' => e = .returned (.int .i64 k) ∧ ∃ vs' vf', ArOr w' ab most vs' vf' rs1 fr1 ∧ Out (aoB ab vs vf) w w' ∧ Went w (aoB ab vs vf) (aoB ab vs' vf') := by
  rcases hR with ⟨rfl, rfl⟩ | ⟨rfl, rfl, rfl, rfl⟩
  · refine (oaRoom_free ab most vs vf _ fr1 k w h (by simp at hf; omega)).mono ?_
    rintro e w1 ⟨rfl, vf', h1, h2, h3⟩
    refine ⟨rfl, vs, vf', h1, h2, ?_⟩
    rintro j (hj | hj | hj)
    · exact Or.inl (Or.inl hj)
    · exact Or.inl (Or.inr (Or.inl hj))
    · exact Or.inl (Or.inr (Or.inr (h3 ▸ hj)))
  · refine (oaRoom_new ab most vs vf _ w h hl).mono ?_
    rintro e w1 ⟨rfl, vs', h1, h2, h3⟩
    exact ⟨rfl, vs', vf, h1, h2, h3⟩
end Go.Proofs.YtcpijeehgdbjbaaDoor

/-
  What an arena of orders does at Put, over this seat's translation, told by the plain lists of PbSl. Conditions stand in each theorem.
-/
namespace Go.Proofs.YtcpijeehgdbjbaaDoor
open Go.RowKit

set_option maxRecDepth 4000 in
set_option maxHeartbeats 1000000 in
theorem oaPut_full (ab : Nat) (most : Int) (vs vf : Value) (rs : List Sot) (fr : List Nat) (x : Ord) (w : World) (h : ArOr w ab most vs vf rs fr) (hl : rs.length ≤ 1000) (hs : cntO rs + fr.length = rs.length) (hm : (cntO rs : Int) = most) :
    Calls Tryd.prog 57 #[.pointer (some ⟨ab, 0, none⟩), x.agg] w
      fun e w' => e = .returned (.tuple #[.agg #[.int .i64 0, .int .i64 0], .iface 22 (.int .i64 12)]) ∧ Below w.heap.size w w' := by
  have HA : Hid (ArOr w ab most vs vf rs fr) := h
  have c0 := blk_cell (j := 0) h.box rfl
  have lb : ab < w.heap.size := lt_of_block h.box
  have HM : Hid ((cntO rs : Int) = most) := hm
  clear h hm
  unfold Ord.agg
  go_enter Tryd.func57, Tryd.ntmps57
  go_wp2_with fail
  go_quiet (first | (go_at_call 74; refine Calls.quiet_of (oaMany ab most vs vf rs fr most _ (HA.out.below (below_drewN (bel2 _ _ _) _) (Nat.le_refl _)) hl HM.out hs)))
  go_wp2
  refine bodyPost_ret (by simp [results, Tryd.results57, go_sem]; try rfl) rfl ?_
  exact ⟨rfl, ((below_drewN (bel2 _ _ _) _).setCell (by simp) _).setCell (by simp) _⟩

/-- an order is put into a slot -/
theorem ArOr.putThing {w : World} {ab g n cap k : Nat} {most : Int} {x : Ord} {vf : Value} {rs : List Sot} {fr : List Nat} (h : ArOr w ab most (.slice (some ⟨g, 0, none⟩) n cap) vf rs fr) (hk : k < rs.length) :
    ArOr ((((((w.setCell ⟨g, k * 7, none⟩ (.int .i64 x.id)).setCell ⟨g, k * 7 + 1, none⟩ (.int .i64 x.side)).setCell ⟨g, k * 7 + 2, none⟩ (.int .i64 x.kind)).setCell ⟨g, k * 7 + 3, none⟩ (.int .i64 x.price)).setCell ⟨g, k * 7 + 4, none⟩ (.int .i64 x.qty)).setCell ⟨g, k * 7 + 6, none⟩ (.bool true)) ab most (.slice (some ⟨g, 0, none⟩) n cap) vf (rs.set k (some x, (soAt rs k).2)) fr
    ∧ Out (fun j => j = g) w ((((((w.setCell ⟨g, k * 7, none⟩ (.int .i64 x.id)).setCell ⟨g, k * 7 + 1, none⟩ (.int .i64 x.side)).setCell ⟨g, k * 7 + 2, none⟩ (.int .i64 x.kind)).setCell ⟨g, k * 7 + 3, none⟩ (.int .i64 x.price)).setCell ⟨g, k * 7 + 4, none⟩ (.int .i64 x.qty)).setCell ⟨g, k * 7 + 6, none⟩ (.bool true)) := by
  obtain rfl := owns_len h.slots
  obtain ⟨h1, h2, h3, h4⟩ := ArOr.raw h.box h.slots h.free (k * 7) (.int .i64 x.id) (.int .i64 x.side) (.int .i64 x.kind) (.int .i64 x.price) (.int .i64 x.qty)
  obtain ⟨g1, g2, g3, g4⟩ := raw_store h1 h2 h3 (k * 7 + 6) (.bool true)
  refine ⟨⟨g1, ?_, g3⟩, h4.trans g4 (Went.refl _ _)⟩
  rw [List.length_set, ← soV_put hk]
  exact g2

set_option maxRecDepth 4000 in
set_option maxHeartbeats 2000000 in
theorem oaPut (ab : Nat) (most : Int) (vs vf : Value) (rs : List Sot) (fr : List Nat) (x : Ord) (k : Nat) (rs1 : List Sot) (fr1 : List Nat) (w : World) (h : ArOr w ab most vs vf rs fr) (hl : rs.length ≤ 1000) (hs : cntO rs + fr.length = rs.length) (hm : ¬ (cntO rs : Int) = most)
    (hR : RoomO rs fr k rs1 fr1) (hk : k < rs1.length) :
    Calls Tryd.prog 57 #[.pointer (some ⟨ab, 0, none⟩), x.agg] w
      fun e w' => e = .returned (.tuple #[.agg #[.int .i64 k, .int .i64 (soAt rs1 k).2], .nilIface]) ∧ ∃ vs' vf', ArOr w' ab most vs' vf' (rs1.set k (some x, (soAt rs1 k).2)) fr1 ∧ Out (aoB ab vs vf) w w' ∧ Went w (aoB ab vs vf) (aoB ab vs' vf') := by
  have HA : Hid (ArOr w ab most vs vf rs fr) := h
  have HR : Hid (RoomO rs fr k rs1 fr1) := hR
  have c0 := blk_cell (j := 0) h.box rfl
  have lb : ab < w.heap.size := lt_of_block h.box
  have hmb : ((cntO rs : Int) == most) = false := beq_eq_false_iff_ne.2 hm
  clear h hm hR
  unfold Ord.agg
  go_enter Tryd.func57, Tryd.ntmps57
  go_wp2_with fail
  go_quiet (first | (go_at_call 74; refine Calls.quiet_of (oaMany ab most vs vf rs fr (cntO rs) _ (HA.out.below (below_drewN (bel2 _ _ _) _) (Nat.le_refl _)) hl rfl hs)))
  go_wp2_with fail
  have hbq := below_drewN (bel2 w (.cells #[.int .i64 x.id, .int .i64 x.side, .int .i64 x.kind, .int .i64 x.price, .int .i64 x.qty] 81) (.cells #[.int .i64 0, .int .i64 0] 58)) nq
  have hxq := blk_drewN nq (two_old w (.cells #[.int .i64 x.id, .int .i64 x.side, .int .i64 x.kind, .int .i64 x.price, .int .i64 x.qty] 81) (.cells #[.int .i64 0, .int .i64 0] 58))
  have hwq := blk_drewN nq (two_new w (.cells #[.int .i64 x.id, .int .i64 x.side, .int .i64 x.kind, .int .i64 x.price, .int .i64 x.qty] 81) (.cells #[.int .i64 0, .int .i64 0] 58))
  generalize ((w.alloc (.cells #[.int .i64 x.id, .int .i64 x.side, .int .i64 x.kind, .int .i64 x.price, .int .i64 x.qty] 81)).alloc (.cells #[.int .i64 0, .int .i64 0] 58)).drewN nq = wq at hbq hxq hwq ⊢
  have HBQ : Hid (Below w.heap.size w wq) := hbq
  have HXQ : Hid (wq.heap[w.heap.size]? = some (.cells #[.int .i64 x.id, .int .i64 x.side, .int .i64 x.kind, .int .i64 x.price, .int .i64 x.qty] 81 (0, 0))) := hxq
  have HWQ : Hid (wq.heap[w.heap.size + 1]? = some (.cells #[.int .i64 0, .int .i64 0] 58 (0, 0))) := hwq
  clear hbq hxq hwq hmb c0
  refine (oaRoom ab most vs vf rs fr k rs1 fr1 wq (HA.out.below HBQ.out (Nat.le_refl _)) HR.out hl (by omega)).mono ?_
  rintro e w1 ⟨rfl, vs', vf', h1, h2, h3⟩
  obtain ⟨g, cap, rfl, d0, d1, d2, d3, d4, d5, d6⟩ := h1.slot hk rfl rfl rfl
  have f0 := h1.slots.frozenAt (k * 7)
  have f1 := h1.slots.frozenAt (k * 7 + 1)
  have f2 := h1.slots.frozenAt (k * 7 + 2)
  have f3 := h1.slots.frozenAt (k * 7 + 3)
  have f4 := h1.slots.frozenAt (k * 7 + 4)
  have f6 := h1.slots.frozenAt (k * 7 + 6)
  have hxx := blk_out HXQ.out h2 (fun e => by have := HA.out.lt e; omega)
  have hbx := blk_out HWQ.out h2 (fun e => by have := HA.out.lt e; omega)
  have hne : w.heap.size + 1 ≠ g := fun e => owns_type h1.slots hbx (by decide) (by rw [e]; rfl)
  have hne2 : w.heap.size ≠ g := fun e => owns_type h1.slots hxx (by decide) (by rw [e]; rfl)
  have z0 := blk_cell (j := 0) hxx rfl
  have z1 := blk_cell (j := 1) hxx rfl
  have z2 := blk_cell (j := 2) hxx rfl
  have z3 := blk_cell (j := 3) hxx rfl
  have z4 := blk_cell (j := 4) hxx rfl
  have c1 := blk_cell (j := 1) h1.box rfl
  have HBX : Hid (w1.heap[w.heap.size + 1]? = some (.cells #[.int .i64 0, .int .i64 0] 58 (0, 0))) := hbx
  have H1 : Hid (ArOr w1 ab most (.slice (some ⟨g, 0, none⟩) rs1.length cap) vf' rs1 fr1) := h1
  have H2 : Hid (Out (aoB ab vs vf) wq w1) := h2
  have H3 : Hid (Went wq (aoB ab vs vf) (aoB ab (.slice (some ⟨g, 0, none⟩) rs1.length cap) vf')) := h3
  clear h1 h2 h3 hbx hxx
  have q1 : (0 : Int) ≤ (k : Int) := by omega
  have q2 : (k : Int) < rs1.length := by omega
  go_upto_region 6 with fail
  obtain ⟨r1, r2⟩ := H1.out.putThing (x := x) hk
  have lq : w.heap.size + 1 < wq.heap.size := lt_of_block HWQ.out
  have hbz := blk_out HBX.out r2 (fun e => hne e)
  generalize ((((((w1.setCell ⟨g, k * 7, none⟩ (.int .i64 x.id)).setCell ⟨g, k * 7 + 1, none⟩ (.int .i64 x.side)).setCell ⟨g, k * 7 + 2, none⟩ (.int .i64 x.kind)).setCell ⟨g, k * 7 + 3, none⟩ (.int .i64 x.price)).setCell ⟨g, k * 7 + 4, none⟩ (.int .i64 x.qty)).setCell ⟨g, k * 7 + 6, none⟩ (.bool true)) = wz at r1 r2 hbz ⊢
  obtain ⟨_, g', cap', hv, _, _, _, _, _, e5, _⟩ := r1.has (soAt_set_same _ hk)
  simp only [Value.slice.injEq, Option.some.injEq, Addr.mk.injEq, and_true] at hv
  obtain ⟨rfl, _, rfl⟩ := hv
  have R1 : Hid _ := r1
  have R2 : Hid _ := r2
  have x0 := blk_cell (j := 0) hbz rfl
  have x1 := blk_cell (j := 1) hbz rfl
  have y0 := blk_free (j := 0) hbz
  have y1 := blk_free (j := 1) hbz
  clear d0 d1 d2 d3 d4 d5 d6 f0 f1 f2 f3 f4 f6 z0 z1 z2 z3 z4 c1 r1 r2 hbz q1 q2
  go_wp2
  refine bodyPost_ret (by simp [results, Tryd.results57, go_sem, x0, x1]; try rfl) rfl ?_
  have sep : ∀ j, aoB ab (.slice (some ⟨g, 0, none⟩) rs1.length cap) vf' j → ¬ j = w.heap.size + 1 := fun j hj e => by
    rcases H3.out j hj with h4 | h4
    · have := HA.out.lt h4; omega
    · omega
  have s1 := out_set wz ⟨w.heap.size + 1, 0, none⟩ (.int .i64 k)
  have s2 := out_set (wz.setCell ⟨w.heap.size + 1, 0, none⟩ (.int .i64 k)) ⟨w.heap.size + 1, 1, none⟩ (.int .i64 (soAt rs1 k).2)
  have s3 := s1.trans s2 (Went.refl _ _)
  refine ⟨rfl, _, vf', R1.out.out s3 sep, ?_, fun j hj => (H3.out j hj).imp id (fun h4 => by omega)⟩
  refine ((((Out.of_below HBQ.out (Nat.le_refl _)).trans H2.out (Went.refl _ _)).trans R2.out ?_).trans s3 ?_)
  · rintro j rfl
    exact (H3.out j (Or.inr (Or.inl rfl))).imp id (fun h4 => by omega)
  · rintro j rfl
    exact Or.inr (by simp)
end Go.Proofs.YtcpijeehgdbjbaaDoor

/-
  What an arena of orders does at Take of a handle whose order is there, over this seat's translation, told by the plain lists of PbSl. Conditions stand in the theorem.
-/
namespace Go.Proofs.YtcpijeehgdbjbaaDoor
open Go.RowKit

/-- A region that draws its order, whose first n operations only read and feed the rest, which has one order: in the text's order. -/
theorem ar_tail {P : Program} {id : Nat} {Q : Exit → Act → World → Prop} {a : Act} {w : World} {l : List Oper} (n : Nat) (hm : P.follows .mixedOrders = true) (hB : Region.lexTailB .any l.toArray n = true)
    (h : wpStill P l.toArray w.drew (fun a' => wpList P l.toArray Q (l.drop n) a' w.drew) (l.take n) a) : (Code.region id l.toArray true).wp P Q a w := wp_region_still_tail n hm hB h

def clearW (w : World) (g k : Nat) (a : Int) : World := ((((((w.setCell ⟨g, k * 7, none⟩ (.int .i64 0)).setCell ⟨g, k * 7 + 1, none⟩ (.int .i64 0)).setCell ⟨g, k * 7 + 2, none⟩ (.int .i64 0)).setCell ⟨g, k * 7 + 3, none⟩ (.int .i64 0)).setCell ⟨g, k * 7 + 4, none⟩ (.int .i64 0)).setCell ⟨g, k * 7 + 5, none⟩ (.int .i64 a)).setCell ⟨g, k * 7 + 6, none⟩ (.bool false)
/-- a slot is emptied -/
theorem ArOr.clear {w : World} {ab g n cap k : Nat} {most a : Int} {vf : Value} {rs : List Sot} {fr : List Nat} (h : ArOr w ab most (.slice (some ⟨g, 0, none⟩) n cap) vf rs fr) (hk : k < rs.length) :
    ArOr (clearW w g k a) ab most (.slice (some ⟨g, 0, none⟩) n cap) vf (rs.set k (none, a)) fr ∧ Out (fun j => j = g) w (clearW w g k a) := by
  obtain rfl := owns_len h.slots
  obtain ⟨h1, h2, h3, h4⟩ := ArOr.raw h.box h.slots h.free (k * 7) (.int .i64 0) (.int .i64 0) (.int .i64 0) (.int .i64 0) (.int .i64 0)
  obtain ⟨g1, g2, g3, g4⟩ := raw_store h1 h2 h3 (k * 7 + 5) (.int .i64 a)
  obtain ⟨i1, i2, i3, i4⟩ := raw_store g1 g2 g3 (k * 7 + 6) (.bool false)
  refine ⟨⟨i1, ?_, i3⟩, (h4.trans g4 (Went.refl _ _)).trans i4 (Went.refl _ _)⟩
  have e := soV_set (none, a) hk
  rw [List.length_set, ← e]
  exact i2

theorem out_five (w : World) (b : Nat) (u0 u1 u2 u3 u4 : Value) : Out (fun j => j = b) w (((((w.setCell ⟨b, 0, none⟩ u0).setCell ⟨b, 1, none⟩ u1).setCell ⟨b, 2, none⟩ u2).setCell ⟨b, 3, none⟩ u3).setCell ⟨b, 4, none⟩ u4) :=
  ((((out_set w ⟨b, 0, none⟩ u0).trans (out_set _ ⟨b, 1, none⟩ u1) (Went.refl _ _)).trans (out_set _ ⟨b, 2, none⟩ u2) (Went.refl _ _)).trans (out_set _ ⟨b, 3, none⟩ u3) (Went.refl _ _)).trans (out_set _ ⟨b, 4, none⟩ u4) (Went.refl _ _)
/-- a slot is free from now on -/
theorem ArOr.freed {w w1 : World} {ab g cap k H : Nat} {most : Int} {vs vf : Value} {rs : List Sot} {fr : List Nat} {o : Obj} (h : ArOr w ab most vs vf rs fr)
    (hown : w1.ownsRow 0 3 1 (.slice (some ⟨g, 0, none⟩) (fr.length + 1) cap) (fr.length + 1) (frV (fr ++ [k]))) (hg : (w.alloc o).grownBy w1 vf.ownBlock) (hat : vf.ownBlock = some g ∨ g = H) (hH : w.heap.size ≤ H) :
    ArOr (w1.setCell ⟨ab, 2, none⟩ (.slice (some ⟨g, 0, none⟩) (fr.length + 1) cap)) ab most vs (.slice (some ⟨g, 0, none⟩) (fr.length + 1) cap) rs (fr ++ [k])
    ∧ Out (aoB ab vs vf) w (w1.setCell ⟨ab, 2, none⟩ (.slice (some ⟨g, 0, none⟩) (fr.length + 1) cap)) ∧ Went w (aoB ab vs vf) (aoB ab vs (.slice (some ⟨g, 0, none⟩) (fr.length + 1) cap)) := by
  have o1 : Out (fun k => vf.ownBlock = some k) w w1 := (Out.of_below (bel1 w o) (Nat.le_refl _)).trans (Out.of_grown hg (fun k hk => hk)) (Went.refl _ _)
  have b1 : w1.heap[ab]? = some (.cells #[.int .i64 most, vs, vf] 163 (0, 0)) := blk_out h.box o1 (owns_type h.free h.box (by decide))
  have f1 : w1.ownsRow 0 166 7 vs rs.length (soV rs) := owns_out h.slots o1 (fun k hk => owns_types h.slots h.free (by decide) hk)
  have o2 := out_set w1 ⟨ab, 2, none⟩ (.slice (some ⟨g, 0, none⟩) (fr.length + 1) cap)
  refine ⟨⟨by simpa using blk_set (j := 2) (.slice (some ⟨g, 0, none⟩) (fr.length + 1) cap) b1, ownsRow_setCell_other f1 (owns_type f1 b1 (by decide)) _, ?_⟩, ?_, ?_⟩
  · rw [List.length_append, List.length_singleton]
    exact ownsRow_setCell_other hown (owns_type hown b1 (by decide)) _
  · exact (o1.mono (S' := aoB ab vs vf) (fun k hk => Or.inr (Or.inr hk))).trans (o2.mono (S' := aoB ab vs vf) (fun k hk => Or.inl hk)) (Went.refl _ _)
  · rintro k (rfl | hk | hk)
    · exact Or.inl (Or.inl rfl)
    · exact Or.inl (Or.inr (Or.inl hk))
    · injection hk with hk
      change g = k at hk
      subst hk
      rcases hat with hat | hat
      · exact Or.inl (Or.inr (Or.inr hat))
      · exact Or.inr (by omega)

set_option maxRecDepth 100000 in
set_option maxHeartbeats 2000000 in
theorem oaTake (ab : Nat) (most : Int) (vs vf : Value) (rs : List Sot) (fr : List Nat) (k : Nat) (o : Ord) (a : Int) (w : World) (h : ArOr w ab most vs vf rs fr) (hk : soAt rs k = (some o, a)) (hl : rs.length ≤ 1000) (hfl : fr.length ≤ rs.length) (hag : 0 ≤ a ∧ a ≤ 1000) :
    Calls Tryd.prog 64 #[.pointer (some ⟨ab, 0, none⟩), .agg #[.int .i64 k, .int .i64 a]] w
      fun e w' => e = .returned (.tuple #[o.agg, .nilIface]) ∧ ∃ vf', ArOr w' ab most vs vf' (rs.set k (none, a + 1)) (fr ++ [k]) ∧ Out (aoB ab vs vf) w w' ∧ Went w (aoB ab vs vf) (aoB ab vs vf') := by
  obtain ⟨i0, hi, hz0, hz1, hz2⟩ := info_parts Tryd.infoNumO
  have HA : Hid (ArOr w ab most vs vf rs fr) := h
  have HK : Hid (soAt rs k = (some o, a)) := hk
  have HG : Hid (0 ≤ a ∧ a ≤ 1000) := hag
  clear h hag hk
  go_enter Tryd.func64, Tryd.ntmps64
  go_wp2_with fail
  refine (oaGet ab most vs vf rs fr k o a _ (HA.out.below (bel2 _ _ _) (Nat.le_refl _)) HK.out).mono ?_
  rintro e w1 ⟨hb, rfl⟩
  have hh := (hb.block (w.heap.size) (by simp; omega)).trans (two_old w _ _)
  have hr := (hb.block (w.heap.size + 1) (by simp)).trans (two_new w _ _)
  have HR0 : Hid _ := hr
  have HB : Hid (Below w.heap.size w w1) := bel_then (bel2 w _ _) hb
  unfold Ord.agg
  go_upto_region 4 with fail
  have hh := blk_below hh (bel1 w1 (.cells #[.int .i64 o.id, .int .i64 o.side, .int .i64 o.kind, .int .i64 o.price, .int .i64 o.qty] 81)) (Nat.le_refl _)
  have hr := blk_below hr (bel1 w1 (.cells #[.int .i64 o.id, .int .i64 o.side, .int .i64 o.kind, .int .i64 o.price, .int .i64 o.qty] 81)) (Nat.le_refl _)
  have hx := heap_alloc_new w1 (.cells #[.int .i64 o.id, .int .i64 o.side, .int .i64 o.kind, .int .i64 o.price, .int .i64 o.qty] 81)
  have HB1 : Hid (Below w.heap.size w (w1.alloc (.cells #[.int .i64 o.id, .int .i64 o.side, .int .i64 o.kind, .int .i64 o.price, .int .i64 o.qty] 81))) := bel_then HB.out (bel1 _ _)
  generalize w1.alloc (.cells #[.int .i64 o.id, .int .i64 o.side, .int .i64 o.kind, .int .i64 o.price, .int .i64 o.qty] 81) = wa at hh hr hx HB1 ⊢
  have hxb1 : w.heap.size ≤ w1.heap.size := HB.out.size
  have hxb2 : w1.heap.size ≠ w.heap.size + 1 := fun e => by have := lt_of_block HR0.out; omega
  generalize w1.heap.size = xb at hx hxb1 hxb2 ⊢
  have HXB : Hid (w.heap.size ≤ xb) := hxb1
  have HXN : Hid (xb ≠ w.heap.size + 1) := hxb2
  clear hb HB hxb1 hxb2
  have HH : Hid (wa.heap[w.heap.size]? = some (.cells #[.int .i64 k, .int .i64 a] 58 (0, 0))) := hh
  have HR : Hid (wa.heap[w.heap.size + 1]? = some (.cells #[.int .i64 0, .int .i64 0, .int .i64 0, .int .i64 0, .int .i64 0] 81 (0, 0))) := hr
  have HX : Hid (wa.heap[xb]? = some (.cells #[.int .i64 o.id, .int .i64 o.side, .int .i64 o.kind, .int .i64 o.price, .int .i64 o.qty] 81 (0, 0))) := hx
  have H1 : Hid (ArOr wa ab most vs vf rs fr) := HA.out.below HB1.out (Nat.le_refl _)
  obtain ⟨hk1, g, cap, rfl, d0, d1, d2, d3, d4, d5, d6⟩ := H1.out.has HK.out
  have x0 := blk_cell (j := 0) hh rfl
  have x1 := blk_cell (j := 1) hh rfl
  have c1 := blk_cell (j := 1) H1.out.box rfl
  have f0 := H1.out.slots.frozenAt (k * 7)
  have f1 := H1.out.slots.frozenAt (k * 7 + 1)
  have f2 := H1.out.slots.frozenAt (k * 7 + 2)
  have f3 := H1.out.slots.frozenAt (k * 7 + 3)
  have f4 := H1.out.slots.frozenAt (k * 7 + 4)
  have f5 := H1.out.slots.frozenAt (k * 7 + 5)
  have f6 := H1.out.slots.frozenAt (k * 7 + 6)
  have q0 : IntKind.i64.wrap (a + 1) = a + 1 := IntWalk.i64_in _ (by have := HG.out; omega)
  have q1 : (0 : Int) ≤ (k : Int) := by omega
  have q2 : (k : Int) < rs.length := by omega
  clear hh hr hx
  refine ar_tail 11 (by kernel_rfl) (by kernel_rfl) ?_
  simp only [List.take_succ_cons, List.take_zero, List.drop_succ_cons, List.drop_zero]
  repeat still_step
  try refine wpStill_nil ?_
  go_upto_region 5 with fail
  obtain ⟨r1, r2⟩ := H1.out.clear (a := a + 1) hk1
  unfold clearW at r1 r2
  generalize hw2 : ((((((wa.setCell ⟨g, k * 7, none⟩ (.int .i64 0)).setCell ⟨g, k * 7 + 1, none⟩ (.int .i64 0)).setCell ⟨g, k * 7 + 2, none⟩ (.int .i64 0)).setCell ⟨g, k * 7 + 3, none⟩ (.int .i64 0)).setCell ⟨g, k * 7 + 4, none⟩ (.int .i64 0)).setCell ⟨g, k * 7 + 5, none⟩ (.int .i64 (a + 1))).setCell ⟨g, k * 7 + 6, none⟩ (.bool false) = w2 at r1 r2 ⊢
  clear hw2
  have hh2 := blk_out HH.out r2 (fun e => owns_type H1.out.slots HH.out (by decide) (by rw [e]; rfl))
  have hr2 := blk_out HR.out r2 (fun e => owns_type H1.out.slots HR.out (by decide) (by rw [e]; rfl))
  have hx2 := blk_out HX.out r2 (fun e => owns_type H1.out.slots HX.out (by decide) (by rw [e]; rfl))
  have H2 : Hid (ArOr w2.drew ab most (.slice (some ⟨g, 0, none⟩) rs.length cap) vf (rs.set k (none, a + 1)) fr) := r1.below (Below.refl w2.heap.size w2).drew (Nat.le_refl _)
  have HO2 : Hid (Out (aoB ab (.slice (some ⟨g, 0, none⟩) rs.length cap) vf) wa w2.drew) := (r2.mono (S' := aoB ab (.slice (some ⟨g, 0, none⟩) rs.length cap) vf) (fun j hj => Or.inr (Or.inl (by rw [hj]; rfl)))).trans (Out.of_below (Below.refl w2.heap.size w2).drew (Nat.le_refl _)) (Went.refl _ _)
  have HH2 : Hid (w2.drew.heap[w.heap.size]? = some (.cells #[.int .i64 k, .int .i64 a] 58 (0, 0))) := hh2
  have HR2 : Hid (w2.drew.heap[w.heap.size + 1]? = some (.cells #[.int .i64 0, .int .i64 0, .int .i64 0, .int .i64 0, .int .i64 0] 81 (0, 0))) := hr2
  have HX2 : Hid (w2.drew.heap[xb]? = some (.cells #[.int .i64 o.id, .int .i64 o.side, .int .i64 o.kind, .int .i64 o.price, .int .i64 o.qty] 81 (0, 0))) := hx2
  clear r1 r2 hh2 hr2 hx2 d0 d1 d2 d3 d4 d5 d6 x0 x1 c1 f0 f1 f2 f3 f4 f5 f6 q0 q1 q2
  generalize w2.drew = w3 at H2 HO2 HH2 HR2 HX2 ⊢
  have y0 : w3.cell? ⟨w.heap.size, 0, none⟩ = some (.int .i64 k) := blk_cell (j := 0) HH2.out rfl
  have ly : w.heap.size < w3.heap.size := lt_of_block HH2.out
  have z2 : w3.cell? ⟨ab, 2, none⟩ = some vf := blk_cell (j := 2) H2.out.box rfl
  have lz : ab < w3.heap.size := lt_of_block H2.out.box
  have A1 : vf.ownBlock ≠ some ab := owns_type H2.out.free H2.out.box (by decide)
  have A2 : vf.ownBlock ≠ some w.heap.size := owns_type H2.out.free HH2.out (by decide)
  have A3 : vf.ownBlock ≠ some (w.heap.size + 1) := owns_type H2.out.free HR2.out (by decide)
  have A4 : vf.ownBlock ≠ some xb := owns_type H2.out.free HX2.out (by decide)
  have lr : w.heap.size + 1 < w3.heap.size := lt_of_block HR2.out
  have lx : xb < w3.heap.size := lt_of_block HX2.out
  obtain ⟨fo, fc, rfl, _, _⟩ := owns_shape H2.out.free
  have fz : w3.frozen? ⟨ab, 2, none⟩ = false := blk_free H2.out.box
  have fy : (w3.alloc (.cells #[.int .i64 k] 3)).drew.frozen? ⟨ab, 2, none⟩ = false := ((((Below.refl w3.heap.size w3).alloc (Nat.le_refl _) _).drew).frozen (p := ⟨ab, 2, none⟩) lz).trans fz
  go_region_law ((refine step_append_lies _ (by rfl) _ _ _ (by rfl) 0 3 i0 (.int .i64 0) 1 8 Tryd.underlying52 hi hz0 hz1 hz2 rfl (by omega) (.slice fo fr.length fc) fr.length (frV fr) (by rfl) ((H2.out.free.alloc _).drew) ⟨w3.heap.size, 0, none⟩ 1 1 [.int .i64 k] (by rfl) (by rfl) (World.news_of_block (cs := #[.int .i64 k]) (t := 3) (fr := (0, 0)) (heap_alloc_new w3 _)) (by simp [Value.oneCell']) (by omega) (by unfold maxLen; omega) (by omega) (Nat.zero_le _) (w3.heap.size + 1) (by simp) ?_; intro g2 cap2 w4 hown hgrow hat hlt; have hb4 := (hgrow.block ab (by simp; omega) (Ne.symm A1)).trans ((((Below.refl w3.heap.size w3).alloc (Nat.le_refl _) _).drew.block ab lz).trans H2.out.box); have z4 := blk_cell (j := 2) hb4 rfl; have z5 := blk_free (j := 2) hb4))
  all_goals go_upto_region 6 with fail
  all_goals obtain ⟨r1, r2, r3⟩ := H2.out.freed (k := k) (by rw [frV_push]; exact hown) ⟨hgrow.os, hgrow.tape, hgrow.output, hgrow.size, hgrow.block⟩ hat (by omega)
  all_goals have hne : ∀ j, (w.heap.size ≤ j) → ¬ aoB ab (.slice (some ⟨g, 0, none⟩) rs.length cap) (.slice fo fr.length fc) j := fun j hj e => by have := HA.out.lt e; omega
  all_goals have hr5 := blk_out HR2.out r2 (hne _ (by omega))
  all_goals have hx5 := blk_out HX2.out r2 (hne _ (HXB.out))
  all_goals generalize w4.setCell ⟨ab, 2, none⟩ (.slice (some ⟨g2, 0, none⟩) (fr.length + 1) cap2) = w5 at r1 r2 r3 hr5 hx5 ⊢
  all_goals have R1 : Hid _ := r1
  all_goals have R2 : Hid _ := r2
  all_goals have R3 : Hid _ := r3
  all_goals have hnx : xb ≠ w.heap.size + 1 := HXN.out
  all_goals have e0 := blk_cell (j := 0) hx5 rfl
  all_goals have e1 := blk_cell (j := 1) hx5 rfl
  all_goals have e2 := blk_cell (j := 2) hx5 rfl
  all_goals have e3 := blk_cell (j := 3) hx5 rfl
  all_goals have e4 := blk_cell (j := 4) hx5 rfl
  all_goals have u0 := blk_cell (j := 0) hr5 rfl
  all_goals have u1 := blk_cell (j := 1) hr5 rfl
  all_goals have u2 := blk_cell (j := 2) hr5 rfl
  all_goals have u3 := blk_cell (j := 3) hr5 rfl
  all_goals have u4 := blk_cell (j := 4) hr5 rfl
  all_goals have v0 := blk_free (j := 0) hr5
  all_goals have v1 := blk_free (j := 1) hr5
  all_goals have v2 := blk_free (j := 2) hr5
  all_goals have v3 := blk_free (j := 3) hr5
  all_goals have v4 := blk_free (j := 4) hr5
  all_goals clear r1 r2 r3 hr5 hx5 hown hgrow hat hlt hb4 z4 z5 fy fz z2 y0
  all_goals go_wp2
  all_goals refine bodyPost_ret (by simp [results, Tryd.results64, go_sem, u0, u1, u2, u3, u4]; try rfl) rfl ?_
  all_goals have s3 := out_five w5 (w.heap.size + 1) (.int .i64 o.id) (.int .i64 o.side) (.int .i64 o.kind) (.int .i64 o.price) (.int .i64 o.qty)
  all_goals have b0a := Out.of_below (S := aoB ab (.slice (some ⟨g, 0, none⟩) rs.length cap) (.slice fo fr.length fc)) HB1.out (Nat.le_refl _)
  all_goals have b03 := b0a.trans HO2.out (Went.refl _ _)
  all_goals have b05 := b03.trans R2.out (Went.refl _ _)
  all_goals have w05 : Went w (aoB ab (.slice (some ⟨g, 0, none⟩) rs.length cap) (.slice fo fr.length fc)) _ := fun j hj => (R3.out j hj).imp id (fun h4 => Nat.le_trans b03.size h4)
  all_goals refine ⟨rfl, _, R1.out.out s3 (fun j hj e => ?_), b05.trans s3 (fun j hj => Or.inr (by omega)), w05⟩
  all_goals rcases R3.out j hj with h4 | h4
  all_goals first | (have := HA.out.lt h4; omega) | omega
end Go.Proofs.YtcpijeehgdbjbaaDoor

/-
  What the program's arena of orders does at Set. Conditions stand in each theorem.
-/
namespace Go.Proofs.YtcpijeehgdbjbaaDoor
open Go.RowKit

set_option maxRecDepth 4000 in
set_option maxHeartbeats 1000000 in
theorem oaSet (ab : Nat) (most : Int) (vs vf : Value) (rs : List Sot) (fr : List Nat) (k : Nat) (o x : Ord) (a : Int) (w : World) (h : ArOr w ab most vs vf rs fr) (hk : soAt rs k = (some o, a)) :
    Calls Tryd.prog 65 #[.pointer (some ⟨ab, 0, none⟩), .agg #[.int .i64 k, .int .i64 a], x.agg] w
      fun e w' => e = .returned .nilIface ∧ ArOr w' ab most vs vf (rs.set k (some x, a)) fr ∧ Out (aoB ab vs vf) w w' := by
  have HA : Hid (ArOr w ab most vs vf rs fr) := h
  have HK : Hid (soAt rs k = (some o, a)) := hk
  clear h hk
  unfold Ord.agg
  go_enter Tryd.func65, Tryd.ntmps65
  go_wp2_with fail
  refine (oaFind ab most vs vf rs fr k o a _ (HA.out.below (bel2 _ _ _) (Nat.le_refl _)) HK.out).mono ?_
  rintro e w1 ⟨hb, g, cap, rfl, rfl⟩
  have hx := (hb.block (w.heap.size + 1) (by simp)).trans (two_new w _ _)
  have x0 := blk_cell (j := 0) hx rfl
  have x1 := blk_cell (j := 1) hx rfl
  have x2 := blk_cell (j := 2) hx rfl
  have x3 := blk_cell (j := 3) hx rfl
  have x4 := blk_cell (j := 4) hx rfl
  have HB : Hid (Below w.heap.size w w1) := bel_then (bel2 w _ _) hb
  have HA1 : Hid (ArOr w1 ab most (.slice (some ⟨g, 0, none⟩) rs.length cap) vf rs fr) := HA.out.below HB.out (Nat.le_refl _)
  obtain ⟨hk1, g', cap', hv, d0, d1, d2, d3, d4, _, _⟩ := HA1.out.has HK.out
  simp only [Value.slice.injEq, Option.some.injEq, Addr.mk.injEq, and_true, true_and] at hv
  obtain ⟨rfl, rfl⟩ := hv
  have f0 := HA1.out.slots.frozenAt (k * 7)
  have f1 := HA1.out.slots.frozenAt (k * 7 + 1)
  have f2 := HA1.out.slots.frozenAt (k * 7 + 2)
  have f3 := HA1.out.slots.frozenAt (k * 7 + 3)
  have f4 := HA1.out.slots.frozenAt (k * 7 + 4)
  clear hb hx
  go_wp2
  go_ret
  obtain ⟨r1, r2⟩ := HA1.out.setThing (x := x) hk1 (by rw [HK.out]; rfl)
  rw [HK.out] at r1
  exact ⟨rfl, r1, (Out.of_below HB.out (Nat.le_refl _)).trans (r2.mono (fun j hj => Or.inr (Or.inl (by rw [hj]; rfl)))) (Went.refl _ _)⟩
end Go.Proofs.YtcpijeehgdbjbaaDoor

/-
  The map of places of the program's book, and the book itself, in memory, over this seat's translation, told by the plain lists of PbSl. Conditions stand in each theorem.
-/
namespace Go.Proofs.YtcpijeehgdbjbaaDoor
open Go.RowKit Go.Maps

def plE (k a s : Int) : DataW Unit := .agg [.lit (.int .i64 k), .lit (.int .i64 a), .lit (.int .i64 s)]
/-- what a place reads as -/
def plR (v : Value) : Option (DataW Unit × List MemPlace) :=
  match v with
  | .agg ⟨[.int .i64 k, .int .i64 a, .int .i64 s]⟩ => some (plE k a s, [])
  | _ => none
theorem plR_mk (k a s : Int) : plR (.agg #[.int .i64 k, .int .i64 a, .int .i64 s]) = some (plE k a s, []) := rfl
theorem plR_inv {v : Value} {k a s : Int} {ps : List MemPlace} (h : plR v = some (plE k a s, ps)) : v = .agg #[.int .i64 k, .int .i64 a, .int .i64 s] := by
  unfold plR at h
  split at h
  · simp only [plE, Option.some.injEq, Prod.mk.injEq, DataW.agg.injEq, List.cons.injEq, DataW.lit.injEq, Lit.int.injEq, true_and, and_true] at h
    obtain ⟨⟨rfl, rfl, rfl⟩, _⟩ := h
    rfl
  · cases h
theorem Tryd.keyI : Maps.Keyed Tryd.prog 3 := Maps.int_keyed Tryd.underlying3
theorem Tryd.keyAt {a : Int} (h : (Lit.int .i64 a).wf = true) : keyOf Tryd.prog 3 (.int .i64 a) = some (.int .i64 a) := Maps.keyOf_int_mk Tryd.underlying3 h
theorem Tryd.zeroPl (w : World) : (zeroValue 133).run Tryd.prog w = .ok (.agg #[.int .i64 0, .int .i64 0, .int .i64 0]) w := by kernel_rfl
theorem lit_inj {a b : Int} (h : Lit.int .i64 a = Lit.int .i64 b) : a = b := by injection h
theorem isKey (a : Int) : WideAt.IsKeyLit (.int .i64 a) := trivial

/-- In w block mb is the map of the places of all that lie. -/
def PlMap (w : World) (mb n : Nat) (S : Nat → List Ly) : Prop :=
  ∃ D : DataW Unit, w.ownsMap Tryd.prog 3 plR mb n D ∧ (∀ s, s < 2 → ∀ x ∈ S s, Maps.has D (.int .i64 x.o.id) = true ∧ ∀ z, D.atKey (.int .i64 x.o.id) z = plE x.slot x.age s)
    ∧ ∀ id : Int, (∀ s, s < 2 → ∀ x ∈ S s, x.o.id ≠ id) → Maps.has D (.int .i64 id) = false
theorem own_same {w w' : World} {P : Program} {k : TypeId} {R : Value → Option (DataW Unit × List MemPlace)} {b n : Nat} {D : DataW Unit} (h : w.ownsMap P k R b n D) (hb : w'.heap[b]? = w.heap[b]?) : w'.ownsMap P k R b n D := by
  obtain ⟨es, clock, h1, r⟩ := h
  exact ⟨es, clock, hb.trans h1, r⟩
theorem PlMap.same {w w' : World} {mb n : Nat} {S : Nat → List Ly} (h : PlMap w mb n S) (hb : w'.heap[mb]? = w.heap[mb]?) : PlMap w' mb n S := by
  obtain ⟨D, h1, r⟩ := h
  exact ⟨D, own_same h1 hb, r⟩
theorem PlMap.lt {w : World} {mb n : Nat} {S : Nat → List Ly} (h : PlMap w mb n S) : mb < w.heap.size := by
  obtain ⟨D, h1, r⟩ := h
  exact h1.lt
theorem PlMap.isMap {w : World} {mb n : Nat} {S : Nat → List Ly} (h : PlMap w mb n S) : ∃ es clock, w.heap[mb]? = some (.map es clock) := by
  obtain ⟨D, ⟨es, clock, h1, _⟩, _⟩ := h
  exact ⟨es, clock, h1⟩
theorem PlMap.ne {w : World} {mb n b : Nat} {S : Nat → List Ly} {vs : Array Value} {t : TypeId} {f : Nat × Nat} (h : PlMap w mb n S) (hb : w.heap[b]? = some (.cells vs t f)) : b ≠ mb := fun e => by
  obtain ⟨es, clock, h1⟩ := h.isMap
  rw [e, h1] at hb; cases hb
theorem PlMap.yes {w : World} {mb n s : Nat} {S : Nat → List Ly} {x : Ly} (h : PlMap w mb n S) (hs : s < 2) (hx : x ∈ S s) (hw : (Lit.int .i64 x.o.id).wf = true) :
    (Instr.lookup 127 (.map (some mb)) (.int .i64 x.o.id) true).run Tryd.prog w = .ok (.tuple #[.agg #[.int .i64 x.slot, .int .i64 x.age, .int .i64 s], .bool true]) w := by
  obtain ⟨D, h1, h2, _⟩ := h
  obtain ⟨v, ps, hr, hv⟩ := h1.look_ok Tryd.keyI Tryd.underlying127 (Tryd.zeroPl w) (zd := plE 0 0 0) (zp := []) rfl (Tryd.keyAt hw)
  obtain ⟨h3, h4⟩ := h2 s hs x hx
  rw [h3] at hr
  rw [h4] at hv
  rw [hr, plR_inv hv]
theorem PlMap.no {w : World} {mb n : Nat} {S : Nat → List Ly} {id : Int} (h : PlMap w mb n S) (hx : ∀ s, s < 2 → ∀ x ∈ S s, x.o.id ≠ id) (hw : (Lit.int .i64 id).wf = true) :
    (Instr.lookup 127 (.map (some mb)) (.int .i64 id) true).run Tryd.prog w = .ok (.tuple #[.agg #[.int .i64 0, .int .i64 0, .int .i64 0], .bool false]) w := by
  obtain ⟨D, h1, _, h2⟩ := h
  obtain ⟨v, ps, hr, hv⟩ := h1.look_ok Tryd.keyI Tryd.underlying127 (Tryd.zeroPl w) (zd := plE 0 0 0) (zp := []) rfl (Tryd.keyAt hw)
  have h3 := h2 id hx
  rw [h3] at hr
  rw [Maps.atKey_of_not_has h3] at hv
  rw [hr, plR_inv hv]
theorem turned_out {w w' : World} {mb : Nat} (h : w.mapTurned w' mb) : Out (fun j => j = mb) w w' := Out.of_grown h.grown (fun k hk => by injection hk with hk; exact hk.symm)
/-- one more lies -/
theorem PlMap.put {w : World} {mb n s : Nat} {S S' : Nat → List Ly} {x : Ly} (h : PlMap w mb n S) (hs : s < 2) (hw : (Lit.int .i64 x.o.id).wf = true) (hn : n < 1000) (hno : ∀ t, t < 2 → ∀ y ∈ S t, y.o.id ≠ x.o.id)
    (hS : ∀ t, t < 2 → ∀ y, y ∈ S' t ↔ ((t = s ∧ y = x) ∨ y ∈ S t)) :
    ∃ w', (Instr.mapUpdate 127 (.map (some mb)) (.int .i64 x.o.id) (.agg #[.int .i64 x.slot, .int .i64 x.age, .int .i64 s])).run Tryd.prog w = .ok () w' ∧ PlMap w' mb (n + 1) S' ∧ Out (fun j => j = mb) w w' := by
  obtain ⟨D, h1, h2, h3⟩ := h
  obtain ⟨w', hr, h4, h5⟩ := h1.store Tryd.keyI Tryd.underlying127 (by unfold maxLen; omega) (Tryd.keyAt hw) (plR_mk x.slot x.age s)
  refine ⟨w', hr, ⟨_, h4, fun t ht y hy => ?_, fun id hid => ?_⟩, turned_out h5⟩
  · rcases (hS t ht y).1 hy with ⟨rfl, rfl⟩ | hy
    · exact ⟨Maps.has_put_same h1.isMap (isKey _) _, fun z => Maps.atKey_put_same h1.isMap (isKey _) _ _⟩
    · have hne : Lit.int .i64 y.o.id ≠ Lit.int .i64 x.o.id := fun e => hno t ht y hy (lit_inj e)
      rw [Maps.has_put_other hne]
      exact ⟨(h2 t ht y hy).1, fun z => by rw [Maps.atKey_put_other hne]; exact (h2 t ht y hy).2 z⟩
  · have hne : Lit.int .i64 id ≠ Lit.int .i64 x.o.id := fun e => hid s hs x ((hS s hs x).2 (Or.inl ⟨rfl, rfl⟩)) (lit_inj e).symm
    rw [Maps.has_put_other hne]
    exact h3 id (fun t ht y hy => hid t ht y ((hS t ht y).2 (Or.inr hy)))
/-- one lies no more -/
theorem PlMap.del {w : World} {mb n : Nat} {S S' : Nat → List Ly} {x : Ly} (h : PlMap w mb n S) (hw : (Lit.int .i64 x.o.id).wf = true)
    (hS : ∀ t, t < 2 → ∀ y, y ∈ S' t ↔ (y ∈ S t ∧ y.o.id ≠ x.o.id)) (ty : TypeId) :
    ∃ w', (Builtin.delete_ #[127, 3] ty #[.map (some mb), .int .i64 x.o.id]).run Tryd.prog w = .ok (.tuple #[]) w' ∧ PlMap w' mb n S' ∧ Out (fun j => j = mb) w w' := by
  obtain ⟨D, h1, h2, h3⟩ := h
  obtain ⟨w', hr, h4, h5⟩ := h1.drop Tryd.keyI Tryd.underlying127 (Tryd.keyAt hw) ty
  refine ⟨w', hr, ⟨_, h4, fun t ht y hy => ?_, fun id hid => ?_⟩, turned_out h5⟩
  · obtain ⟨hy, hne'⟩ := (hS t ht y).1 hy
    have hne : Lit.int .i64 y.o.id ≠ Lit.int .i64 x.o.id := fun e => hne' (lit_inj e)
    rw [Maps.has_del_other hne]
    exact ⟨(h2 t ht y hy).1, fun z => by rw [Maps.atKey_del_other hne]; exact (h2 t ht y hy).2 z⟩
  · by_cases e : id = x.o.id
    · subst e; exact Maps.has_del_same
    · have hne : Lit.int .i64 id ≠ Lit.int .i64 x.o.id := fun e' => e (lit_inj e')
      rw [Maps.has_del_other hne]
      exact h3 id (fun t ht y hy e' => hid t ht y ((hS t ht y).2 ⟨hy, fun e'' => e (e'.symm.trans e'')⟩) e')
/-- some are changed, but not their places -/
theorem PlMap.like {w : World} {mb n : Nat} {S S' : Nat → List Ly} (h : PlMap w mb n S) (h1 : ∀ t, t < 2 → ∀ y ∈ S' t, ∃ z ∈ S t, z.o.id = y.o.id ∧ z.slot = y.slot ∧ z.age = y.age) (h2 : ∀ t, t < 2 → ∀ z ∈ S t, ∃ y ∈ S' t, y.o.id = z.o.id) : PlMap w mb n S' := by
  obtain ⟨D, a, b, c⟩ := h
  refine ⟨D, a, fun t ht y hy => ?_, fun id hid => c id (fun t ht z hz => ?_)⟩
  · obtain ⟨z, hz, e1, e2, e3⟩ := h1 t ht y hy
    rw [← e1, ← e2, ← e3]; exact b t ht z hz
  · obtain ⟨y, hy, e⟩ := h2 t ht z hz
    rw [← e]; exact hid t ht y hy

/-- In w block bb is the program's book. -/
structure BookAt (w : World) (bb ab mb n : Nat) (vs vf v0 v1 : Value) (rs : List Sot) (fr : List Nat) (S : Nat → List Ly) : Prop where
  box : w.heap[bb]? = some (.cells #[.pointer (some ⟨ab, 0, none⟩), .map (some mb), v0, v1] 130 (0, 0))
  ar : ArOr w ab 100 vs vf rs fr
  map : PlMap w mb n S
  row0 : w.ownsRow 0 58 2 v0 (S 0).length (hV (S 0))
  row1 : w.ownsRow 0 58 2 v1 (S 1).length (hV (S 1))
  apart : ∀ k, v0.ownBlock = some k → v1.ownBlock ≠ some k
/-- its blocks -/
def pbB (bb ab mb : Nat) (vs vf v0 v1 : Value) (k : Nat) : Prop := k = bb ∨ aoB ab vs vf k ∨ k = mb ∨ v0.ownBlock = some k ∨ v1.ownBlock = some k
section
variable {w w' : World} {bb ab mb n : Nat} {vs vf v0 v1 : Value} {rs : List Sot} {fr : List Nat} {S : Nat → List Ly}
theorem BookAt.lt (h : BookAt w bb ab mb n vs vf v0 v1 rs fr S) {k : Nat} (hk : pbB bb ab mb vs vf v0 v1 k) : k < w.heap.size := by
  rcases hk with rfl | hk | rfl | hk | hk
  · exact lt_of_block h.box
  · exact h.ar.lt hk
  · exact h.map.lt
  · exact (h.row0.lt k hk).2
  · exact (h.row1.lt k hk).2
theorem BookAt.out {T : Nat → Prop} (h : BookAt w bb ab mb n vs vf v0 v1 rs fr S) (ho : Out T w w') (hT : ∀ k, pbB bb ab mb vs vf v0 v1 k → ¬ T k) : BookAt w' bb ab mb n vs vf v0 v1 rs fr S :=
  ⟨blk_out h.box ho (hT bb (Or.inl rfl)), h.ar.out ho (fun k hk => hT k (Or.inr (Or.inl hk))), h.map.same (ho.block mb h.map.lt (hT mb (Or.inr (Or.inr (Or.inl rfl))))),
    owns_out h.row0 ho (fun k hk => hT k (Or.inr (Or.inr (Or.inr (Or.inl hk))))), owns_out h.row1 ho (fun k hk => hT k (Or.inr (Or.inr (Or.inr (Or.inr hk))))), h.apart⟩
theorem BookAt.below {B : Nat} (h : BookAt w bb ab mb n vs vf v0 v1 rs fr S) (hb : Below B w w') (hB : w.heap.size ≤ B) : BookAt w' bb ab mb n vs vf v0 v1 rs fr S :=
  h.out (T := fun _ => False) (Out.of_below hb hB) (fun _ _ e => e)
/-- at any change whatever above the book's blocks -/
theorem BookAt.above {B : Nat} (h : BookAt w bb ab mb n vs vf v0 v1 rs fr S) (hb : Below B w w') (hB : ∀ k, pbB bb ab mb vs vf v0 v1 k → k < B) : BookAt w' bb ab mb n vs vf v0 v1 rs fr S :=
  h.out (T := fun k => B ≤ k) ⟨hb.os, hb.tape, hb.output, hb.size, fun k hk hT => hb.block k (by omega)⟩ (fun k hk e => by have := hB k hk; omega)
/-- the box is none of the arena's blocks -/
theorem BookAt.notBox (h : BookAt w bb ab mb n vs vf v0 v1 rs fr S) : ¬ aoB ab vs vf bb := fun e => by
  rcases e with e | e | e
  · exact blk_ne h.box h.ar.box (by decide) e
  · exact owns_type h.ar.slots h.box (by decide) e
  · exact owns_type h.ar.free h.box (by decide) e
/-- nor is a side's row -/
theorem BookAt.notRow0 (h : BookAt w bb ab mb n vs vf v0 v1 rs fr S) {k : Nat} (hk : v0.ownBlock = some k) : ¬ aoB ab vs vf k := fun e => by
  rcases e with e | e | e
  · exact owns_type h.row0 (e ▸ h.ar.box) (by decide) hk
  · exact owns_types h.row0 h.ar.slots (by decide) hk e
  · exact owns_types h.row0 h.ar.free (by decide) hk e
theorem BookAt.notRow1 (h : BookAt w bb ab mb n vs vf v0 v1 rs fr S) {k : Nat} (hk : v1.ownBlock = some k) : ¬ aoB ab vs vf k := fun e => by
  rcases e with e | e | e
  · exact owns_type h.row1 (e ▸ h.ar.box) (by decide) hk
  · exact owns_types h.row1 h.ar.slots (by decide) hk e
  · exact owns_types h.row1 h.ar.free (by decide) hk e
theorem owns_notMap {base : Nat} {e : TypeId} {size : Nat} {v : Value} {k : Nat} {xs : List Value} (h : w.ownsRow base e size v k xs) (hm : PlMap w mb n S) : v.ownBlock ≠ some mb := fun hv => by
  rcases h.2 with ⟨rfl, _⟩ | ⟨g, cap, cur, rfl, _, hh, _⟩
  · cases hv
  · simp [Value.ownBlock] at hv; subst hv; exact hm.ne hh rfl
theorem BookAt.notMap (h : BookAt w bb ab mb n vs vf v0 v1 rs fr S) : ¬ aoB ab vs vf mb := fun e => by
  rcases e with e | e | e
  · exact h.map.ne h.ar.box e.symm
  · exact owns_notMap h.ar.slots h.map e
  · exact owns_notMap h.ar.free h.map e
/-- the arena has moved: all else is as it was -/
theorem BookAt.newAr {vs' vf' : Value} {rs' : List Sot} {fr' : List Nat} (h : BookAt w bb ab mb n vs vf v0 v1 rs fr S) (ho : Out (aoB ab vs vf) w w') (ha : ArOr w' ab 100 vs' vf' rs' fr') : BookAt w' bb ab mb n vs' vf' v0 v1 rs' fr' S :=
  ⟨blk_out h.box ho h.notBox, ha, h.map.same (ho.block mb h.map.lt h.notMap), owns_out h.row0 ho (fun _ hk => h.notRow0 hk), owns_out h.row1 ho (fun _ hk => h.notRow1 hk), h.apart⟩
/-- a side's row, by its number -/
def vAt (v0 v1 : Value) (s : Nat) : Value := if s = 0 then v0 else v1
theorem BookAt.row (h : BookAt w bb ab mb n vs vf v0 v1 rs fr S) {s : Nat} (hs : s < 2) : w.ownsRow 0 58 2 (vAt v0 v1 s) (S s).length (hV (S s)) ∧ w.cell? ⟨bb, 2 + s, none⟩ = some (vAt v0 v1 s) ∧ w.frozen? ⟨bb, 2 + s, none⟩ = false := by
  match s, hs with
  | 0, _ => exact ⟨h.row0, blk_cell (j := 2) h.box rfl, blk_free h.box⟩
  | 1, _ => exact ⟨h.row1, blk_cell (j := 3) h.box rfl, blk_free h.box⟩
end
end Go.Proofs.YtcpijeehgdbjbaaDoor
