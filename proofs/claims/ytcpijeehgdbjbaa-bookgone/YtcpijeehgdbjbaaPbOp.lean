/-
  What becomes of a book's slots and sides (PbSl) when an order is put in, taken out, or cut; and the plain lists of orders behind that. No program is named here.
-/
import Derived.Test.YtcpijeehgdbjbaaPbSl
namespace Go.Proofs.Ytcpijeehgdbjbaa
open Go.RowKit

theorem pb_all (S : Nat → List Ly) {s : Nat} (hs : s < 2) : (S 0 ++ S 1).Perm (S s ++ S (1 - s)) := by
  match s, hs with
  | 0, _ => exact List.Perm.refl _
  | 1, _ => exact List.perm_append_comm
theorem pb_up (S : Nat → List Ly) (l : List Ly) {s : Nat} (hs : s < 2) : (upS S s l 0 ++ upS S s l 1).Perm (l ++ S (1 - s)) := by
  match s, hs with
  | 0, _ => exact List.Perm.refl _
  | 1, _ => exact List.perm_append_comm
theorem pb_len (S : Nat → List Ly) (l : List Ly) {s : Nat} (hs : s < 2) : (upS S s l 0).length + (upS S s l 1).length = l.length + (S (1 - s)).length ∧ (S 0).length + (S 1).length = (S s).length + (S (1 - s)).length := by
  match s, hs with
  | 0, _ => exact ⟨rfl, rfl⟩
  | 1, _ => exact ⟨Nat.add_comm _ _, Nat.add_comm _ _⟩
theorem mem_up {S : Nat → List Ly} {l : List Ly} {s t : Nat} {y : Ly} (h : y ∈ upS S s l t) : (t = s ∧ y ∈ l) ∨ (t ≠ s ∧ y ∈ S t) := by
  by_cases e : t = s
  · subst e; rw [upS_same] at h; exact Or.inl ⟨rfl, h⟩
  · rw [upS_other _ e] at h; exact Or.inr ⟨e, h⟩

/-- two that lie have one slot, or one number, only if they are one -/
theorem Pb.one_slot {m : Nat} {rs : List Sot} {fr : List Nat} {S : Nat → List Ly} (h : Pb m rs fr S) {s t : Nat} (hs : s < 2) (ht : t < 2) {x y : Ly} (hx : x ∈ S s) (hy : y ∈ S t) (e : x.slot = y.slot) : x = y := by
  have h1 := h.there s hs x hx
  have h2 := h.there t ht y hy
  rw [e, h2] at h1
  injection h1 with h1 h3
  injection h1 with h1
  obtain ⟨a, b, c⟩ := x
  obtain ⟨a', b', c'⟩ := y
  simp only at e h1 h3
  rw [e, h1, h3]
theorem pair_of_nodup {α : Type} {f : Ly → α} {l : List Ly} (h : (l.map f).Nodup) {x y : Ly} (hx : x ∈ l) (hy : y ∈ l) (e : f x = f y) : x = y := by
  induction l with
  | nil => cases hx
  | cons a l ih =>
    simp only [List.map_cons, List.nodup_cons] at h
    rcases List.mem_cons.1 hx with rfl | hx' <;> rcases List.mem_cons.1 hy with rfl | hy'
    · rfl
    · exact absurd (List.mem_map.2 ⟨y, hy', e.symm⟩) h.1
    · exact absurd (List.mem_map.2 ⟨x, hx', e⟩) h.1
    · exact ih h.2 hx' hy'
theorem Pb.mem {S : Nat → List Ly} {s : Nat} (hs : s < 2) {x : Ly} (hx : x ∈ S s) : x ∈ S 0 ++ S 1 := (pb_all S hs).mem_iff.2 (List.mem_append.2 (Or.inl hx))
theorem Pb.one_id {m : Nat} {rs : List Sot} {fr : List Nat} {S : Nat → List Ly} (h : Pb m rs fr S) {s t : Nat} (hs : s < 2) (ht : t < 2) {x y : Ly} (hx : x ∈ S s) (hy : y ∈ S t) (e : x.o.id = y.o.id) : x = y :=
  pair_of_nodup h.ids (Pb.mem hs hx) (Pb.mem ht hy) e
theorem Pb.one_side {m : Nat} {rs : List Sot} {fr : List Nat} {S : Nat → List Ly} (h : Pb m rs fr S) {s t : Nat} (hs : s < 2) (ht : t < 2) {x : Ly} (hx : x ∈ S s) (hy : x ∈ S t) : s = t := by
  have h1 := h.side s hs x hx
  have h2 := h.side t ht x hy
  omega

theorem Pb.more {m m' : Nat} {rs : List Sot} {fr : List Nat} {S : Nat → List Ly} (h : Pb m rs fr S) (hm : m ≤ m') : Pb m' rs fr S := ⟨h.so.more hm, h.there, h.nd, h.ids, h.cnt, h.side, h.ok, h.most⟩
theorem Pb.start (m : Nat) : Pb m [] [] (fun _ => []) := ⟨So.start m, fun _ _ x hx => (by cases hx), List.nodup_nil, List.nodup_nil, rfl, fun _ _ x hx => (by cases hx), fun _ _ x hx => (by cases hx), by simp⟩

theorem room_none {m k : Nat} {rs rs1 : List Sot} {fr fr1 : List Nat} (h : So m rs fr) (hR : RoomO rs fr k rs1 fr1) : k < rs1.length ∧ (soAt rs1 k).1 = none ∧ (∀ j o a, soAt rs j = (some o, a) → j ≠ k ∧ soAt rs1 j = (some o, a)) ∧ cntO rs1 = cntO rs ∧ rs1.length ≤ rs.length + 1 := by
  rcases hR with ⟨rfl, rfl⟩ | ⟨rfl, rfl, rfl, rfl⟩
  · have hk := h.free k (by simp)
    refine ⟨hk.1, hk.2, fun j o a hj => ⟨fun e => ?_, hj⟩, rfl, by omega⟩
    subst e; rw [hj] at hk; cases hk.2
  · refine ⟨by simp, by rw [soAt_pushed], fun j o a hj => ?_, by simp [cntO_append, cntO], by simp⟩
    have hlt := soAt_some hj
    exact ⟨by omega, by rw [soAt_push _ hlt]; exact hj⟩
theorem room_set (rs : List Sot) (p q : Sot) : (rs ++ [p]).set rs.length q = rs ++ [q] := by simp
theorem room_so {m k : Nat} {rs rs1 : List Sot} {fr fr1 : List Nat} {o : Ord} (h : So m rs fr) (hR : RoomO rs fr k rs1 fr1) : So (m + 1) (rs1.set k (some o, (soAt rs1 k).2)) fr1 := by
  rcases hR with ⟨rfl, rfl⟩ | ⟨rfl, rfl, rfl, rfl⟩
  · exact h.putFree
  · rw [soAt_pushed, room_set]; exact h.putNew
theorem room_is {m : Nat} {rs : List Sot} {fr : List Nat} (_h : So m rs fr) : ∃ k rs1 fr1, RoomO rs fr k rs1 fr1 := by
  rcases List.eq_nil_or_concat fr with rfl | ⟨fs, k, rfl⟩
  · exact ⟨rs.length, _, [], Or.inr ⟨rfl, rfl, rfl, rfl⟩⟩
  · rw [List.concat_eq_append]
    exact ⟨k, rs, fs, Or.inl ⟨rfl, rfl⟩⟩

theorem Pb.put {m k s : Nat} {rs rs1 : List Sot} {fr fr1 : List Nat} {S : Nat → List Ly} {o : Ord} {l' : List Ly} (h : Pb m rs fr S) (hR : RoomO rs fr k rs1 fr1) (hs : s < 2) (hp : l'.Perm (⟨k, (soAt rs1 k).2, o⟩ :: S s)) (hside : o.side = (s : Int) + 1)
    (hok : 1 ≤ o.id ∧ (Lit.int .i64 o.id).wf = true ∧ 1 ≤ o.price ∧ o.price ≤ 1000000 ∧ 1 ≤ o.qty ∧ o.qty ≤ 1000000) (hid : ∀ t, t < 2 → ∀ x ∈ S t, x.o.id ≠ o.id) (hm : (S 0).length + (S 1).length < 100) :
    Pb (m + 1) (rs1.set k (some o, (soAt rs1 k).2)) fr1 (upS S s l') := by
  obtain ⟨hk, hn, ho, hc, _⟩ := room_none h.so hR
  have hall := (pb_up S l' hs).trans ((hp.append_right _).trans ((pb_all S hs).symm.cons _))
  have hl := pb_len S l' hs
  have hpl := hp.length_eq
  simp only [List.length_cons] at hpl
  refine ⟨room_so h.so hR, fun t ht y hy => ?_, ?_, ?_, ?_, fun t ht y hy => ?_, fun t ht y hy => ?_, by omega⟩
  · have old : ∀ u, u < 2 → y ∈ S u → soAt (rs1.set k (some o, (soAt rs1 k).2)) y.slot = (some y.o, y.age) := fun u hu hy' => by
      obtain ⟨h1, h2⟩ := ho _ _ _ (h.there u hu y hy')
      rw [soAt_set_other _ (Ne.symm h1)]; exact h2
    rcases mem_up hy with ⟨rfl, h5⟩ | ⟨_, h5⟩
    · rcases List.mem_cons.1 (hp.mem_iff.1 h5) with rfl | h6
      · exact soAt_set_same _ hk
      · exact old _ ht h6
    · exact old _ ht h5
  · rw [(hall.map _).nodup_iff]
    simp only [List.map_cons, List.nodup_cons]
    refine ⟨fun hmem => ?_, h.nd⟩
    obtain ⟨y, hy, e⟩ := List.mem_map.1 hmem
    rcases List.mem_append.1 hy with hy | hy
    · exact (ho _ _ _ (h.there 0 (by decide) y hy)).1 e
    · exact (ho _ _ _ (h.there 1 (by decide) y hy)).1 e
  · rw [(hall.map _).nodup_iff]
    simp only [List.map_cons, List.nodup_cons]
    refine ⟨fun hmem => ?_, h.ids⟩
    obtain ⟨y, hy, e⟩ := List.mem_map.1 hmem
    rcases List.mem_append.1 hy with hy | hy
    · exact hid 0 (by decide) y hy e
    · exact hid 1 (by decide) y hy e
  · have h1 := cntO_set (some o, (soAt rs1 k).2) hk
    rw [hn] at h1
    have h2 := h.cnt
    simp at h1
    omega
  · rcases mem_up hy with ⟨rfl, h5⟩ | ⟨_, h5⟩
    · rcases List.mem_cons.1 (hp.mem_iff.1 h5) with rfl | h6
      · exact hside
      · exact h.side _ ht _ h6
    · exact h.side _ ht _ h5
  · rcases mem_up hy with ⟨rfl, h5⟩ | ⟨_, h5⟩
    · rcases List.mem_cons.1 (hp.mem_iff.1 h5) with rfl | h6
      · exact hok
      · exact h.ok _ ht _ h6
    · exact h.ok _ ht _ h5

theorem Pb.gone {m s : Nat} {rs : List Sot} {fr : List Nat} {S : Nat → List Ly} {x : Ly} {l' : List Ly} (h : Pb m rs fr S) (hs : s < 2) (hx : x ∈ S s) (hp : (S s).Perm (x :: l')) :
    Pb (m + 1) (rs.set x.slot (none, x.age + 1)) (fr ++ [x.slot]) (upS S s l') := by
  have hat := h.there s hs x hx
  have hk := soAt_some hat
  have hf : (soAt rs x.slot).1.isSome = true := by rw [hat]; rfl
  have hall : (S 0 ++ S 1).Perm (x :: (upS S s l' 0 ++ upS S s l' 1)) := (pb_all S hs).trans ((hp.append_right _).trans ((pb_up S l' hs).symm.cons _))
  have hnd := (hall.map Ly.slot).nodup_iff.1 h.nd
  have hid := (hall.map fun x => x.o.id).nodup_iff.1 h.ids
  simp only [List.map_cons, List.nodup_cons] at hnd hid
  have hl := pb_len S l' hs
  have hpl := hp.length_eq
  simp only [List.length_cons] at hpl
  have old : ∀ t, t < 2 → ∀ y ∈ upS S s l' t, y ∈ S t := fun t ht y hy => by
    rcases mem_up hy with ⟨rfl, h5⟩ | ⟨_, h5⟩
    · exact hp.mem_iff.2 (List.mem_cons_of_mem _ h5)
    · exact h5
  refine ⟨?_, fun t ht y hy => ?_, hnd.2, hid.2, ?_, fun t ht y hy => h.side t ht y (old t ht y hy), fun t ht y hy => h.ok t ht y (old t ht y hy), by have := h.most; omega⟩
  · have := h.so.take hk hf
    rw [hat] at this; exact this
  · have hne : x.slot ≠ y.slot := fun e => hnd.1 (List.mem_map.2 ⟨y, Pb.mem ht hy, e.symm⟩)
    rw [soAt_set_other _ hne]
    exact h.there t ht y (old t ht y hy)
  · have h1 := cntO_set (none, x.age + 1) hk
    rw [hat] at h1
    have h2 := h.cnt
    simp at h1
    omega

/-- one order is changed in its place -/
def cutL (x : Ly) (o' : Ord) (l : List Ly) : List Ly := l.map fun y => if y.slot = x.slot then { y with o := o' } else y
theorem cutL_slots (x : Ly) (o' : Ord) (l : List Ly) : (cutL x o' l).map Ly.slot = l.map Ly.slot := by
  unfold cutL
  rw [List.map_map]
  apply List.map_congr_left
  intro y _
  simp only [Function.comp]
  split <;> rfl
theorem cutL_length (x : Ly) (o' : Ord) (l : List Ly) : (cutL x o' l).length = l.length := by simp [cutL]
theorem cutL_hV (x : Ly) (o' : Ord) (l : List Ly) : hV (cutL x o' l) = hV l := by
  induction l with
  | nil => rfl
  | cons y l ih =>
    have : cutL x o' (y :: l) = (if y.slot = x.slot then { y with o := o' } else y) :: cutL x o' l := rfl
    rw [this]
    unfold hV
    rw [ih]
    split <;> rfl
theorem Pb.cut {m s : Nat} {rs : List Sot} {fr : List Nat} {S : Nat → List Ly} {x : Ly} {o' : Ord} (h : Pb m rs fr S) (hs : s < 2) (hx : x ∈ S s) (h1 : o'.id = x.o.id) (h2 : o'.side = x.o.side) (h3 : 1 ≤ o'.price ∧ o'.price ≤ 1000000 ∧ 1 ≤ o'.qty ∧ o'.qty ≤ 1000000) :
    Pb (m + 1) (rs.set x.slot (some o', x.age)) fr (upS S s (cutL x o' (S s))) := by
  have hat := h.there s hs x hx
  have hk := soAt_some hat
  have hf : (soAt rs x.slot).1.isSome = true := by rw [hat]; rfl
  have hl := pb_len S (cutL x o' (S s)) hs
  have each : ∀ t, t < 2 → ∀ y ∈ upS S s (cutL x o' (S s)) t, (y ∈ S t ∧ y.slot ≠ x.slot) ∨ (t = s ∧ y = { x with o := o' }) := fun t ht y hy => by
    rcases mem_up hy with ⟨rfl, h5⟩ | ⟨hne, h5⟩
    · obtain ⟨z, hz, rfl⟩ := List.mem_map.1 h5
      by_cases e : z.slot = x.slot
      · obtain rfl := h.one_slot ht hs hz hx e
        right; rw [if_pos rfl]; exact ⟨rfl, rfl⟩
      · left; rw [if_neg e]; exact ⟨hz, e⟩
    · left
      refine ⟨h5, fun e => ?_⟩
      have e2 := h.one_slot ht hs h5 hx e
      exact hne (h.one_side ht hs h5 (e2 ▸ hx))
  have hcl := cutL_length x o' (S s)
  have hm := h.most
  have hids : ((cutL x o' (S s)).map fun y => y.o.id) = (S s).map fun y => y.o.id := by
    unfold cutL
    rw [List.map_map]
    apply List.map_congr_left
    intro y hy
    simp only [Function.comp]
    split
    · rename_i e
      obtain rfl := h.one_slot hs hs hy hx e
      exact h1
    · rfl
  refine ⟨?_, fun t ht y hy => ?_, ?_, ?_, ?_, fun t ht y hy => ?_, fun t ht y hy => ?_, by omega⟩
  · have := h.so.set (x := o') hk hf
    rw [hat] at this; exact this
  · rcases each t ht y hy with ⟨hy, hne⟩ | ⟨_, rfl⟩
    · rw [soAt_set_other _ (Ne.symm hne)]; exact h.there t ht y hy
    · exact soAt_set_same _ hk
  · rw [((pb_up S _ hs).map _).nodup_iff, List.map_append, cutL_slots, ← List.map_append, ← ((pb_all S hs).map _).nodup_iff]; exact h.nd
  · rw [((pb_up S _ hs).map _).nodup_iff, List.map_append, hids, ← List.map_append, ← ((pb_all S hs).map _).nodup_iff]; exact h.ids
  · have h4 := cntO_set (some o', x.age) hk
    rw [hat] at h4
    have h5 := h.cnt
    simp at h4
    omega
  · rcases each t ht y hy with ⟨hy, _⟩ | ⟨rfl, rfl⟩
    · exact h.side t ht y hy
    · show o'.side = _
      rw [h2]; exact h.side _ hs x hx
  · rcases each t ht y hy with ⟨hy, _⟩ | ⟨rfl, rfl⟩
    · exact h.ok t ht y hy
    · have := h.ok _ hs x hx
      show 1 ≤ o'.id ∧ (Lit.int .i64 o'.id).wf = true ∧ _
      rw [h1]
      exact ⟨this.1, this.2.1, h3⟩
end Go.Proofs.Ytcpijeehgdbjbaa
