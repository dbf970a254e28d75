/-
  The program's sides and the document's list, as plain lists: they stay of one mind through Add, Cancel and Cut. No program is named here but by the texts that it imports; conditions stand in each theorem.
-/
import Derived.Test.YtcpijeehgdbjbaaDoorMPd
import Derived.Test.YtcpijeehgdbjbaaDoorMBd
import Derived.Test.YtcpijeehgdbjbaaDoorMDp
import Derived.Test.YtcpijeehgdbjbaaDoorMEr
import Derived.Lib.QuietBelow
namespace Go.Proofs.YtcpijeehgdbjbaaDoor
open Go.RowKit

theorem snoc_ind {α : Type} {P : List α → Prop} (h0 : P []) (h1 : ∀ l a, P l → P (l ++ [a])) (l : List α) : P l := by
  rw [← List.reverse_reverse l]
  generalize l.reverse = r
  induction r with
  | nil => exact h0
  | cons a r ih => rw [List.reverse_cons]; exact h1 _ _ ih

section
variable {α : Type} {rank : α → Int}
theorem insL_mem {o y : α} {l : List α} : y ∈ insL rank o l ↔ y = o ∨ y ∈ l := by rw [(insL_perm rank o l).mem_iff]; simp
theorem insL_srt {o : α} : ∀ {l : List α}, l.Pairwise (fun a b => rank a ≤ rank b) → (insL rank o l).Pairwise (fun a b => rank a ≤ rank b)
  | [], _ => by simp [insL]
  | x :: xs, hp => by
    obtain ⟨h1, h2⟩ := List.pairwise_cons.1 hp
    unfold insL
    split
    · rename_i hk
      refine List.pairwise_cons.2 ⟨fun y hy => ?_, insL_srt h2⟩
      rcases insL_mem.1 hy with rfl | hy
      · exact hk
      · exact h1 y hy
    · rename_i hk
      refine List.pairwise_cons.2 ⟨fun y hy => ?_, hp⟩
      rcases List.mem_cons.1 hy with rfl | hy
      · omega
      · have := h1 y hy; omega
theorem ssort_srt (l : List α) : (ssort rank l).Pairwise (fun a b => rank a ≤ rank b) := by
  induction l using snoc_ind with
  | h0 => exact List.Pairwise.nil
  | h1 l a ih => rw [ssort_push]; exact insL_srt ih
/-- in a sorted list the new one lies between those that are not greater and the rest -/
theorem insL_eq {o : α} : ∀ {l : List α}, l.Pairwise (fun a b => rank a ≤ rank b) → insL rank o l = l.filter (fun y => decide (rank y ≤ rank o)) ++ o :: l.filter (fun y => !decide (rank y ≤ rank o))
  | [], _ => rfl
  | x :: xs, hp => by
    obtain ⟨h1, h2⟩ := List.pairwise_cons.1 hp
    unfold insL
    split
    · rename_i hk
      rw [List.filter_cons_of_pos (by simpa using hk), List.filter_cons_of_neg (by simpa using hk), insL_eq h2]
      rfl
    · rename_i hk
      have e1 : (x :: xs).filter (fun y => decide (rank y ≤ rank o)) = [] := by
        rw [List.filter_eq_nil_iff]
        intro y hy
        rcases List.mem_cons.1 hy with rfl | hy
        · simpa using hk
        · have := h1 y hy; simp; omega
      have e2 : (x :: xs).filter (fun y => !decide (rank y ≤ rank o)) = x :: xs := by
        rw [List.filter_eq_self]
        intro y hy
        rcases List.mem_cons.1 hy with rfl | hy
        · simpa using hk
        · have := h1 y hy; simp; omega
      rw [e1, e2]
      rfl
theorem ssort_filter (p : α → Bool) (l : List α) : ssort rank (l.filter p) = (ssort rank l).filter p := by
  induction l using snoc_ind with
  | h0 => rfl
  | h1 l a ih =>
    rw [List.filter_append, ssort_push, insL_eq (ssort_srt l), List.filter_append]
    by_cases hp : p a = true
    · have e0 : [a].filter p = [a] := by rw [List.filter_cons_of_pos hp, List.filter_nil]
      rw [e0, List.filter_cons_of_pos hp, ssort_push, ih, insL_eq ((ssort_srt l).sublist List.filter_sublist), List.filter_filter, List.filter_filter, List.filter_filter, List.filter_filter]
      congr 1
      · congr 1; funext y; exact Bool.and_comm _ _
      · congr 2; funext y; exact Bool.and_comm _ _
    · have e0 : [a].filter p = [] := by rw [List.filter_cons_of_neg hp, List.filter_nil]
      rw [e0, List.filter_cons_of_neg hp, List.append_nil, ih, List.filter_filter, List.filter_filter]
      have hs := ssort_srt (rank := rank) l
      clear ih
      generalize ssort rank l = r at hs
      induction r with
      | nil => rfl
      | cons x xs ih2 =>
        obtain ⟨h1, h2⟩ := List.pairwise_cons.1 hs
        have ih3 := ih2 h2
        by_cases hx : rank x ≤ rank a
        · by_cases hpx : p x = true
          · rw [List.filter_cons_of_pos hpx, List.filter_cons_of_pos (by simp [hx, hpx]), List.filter_cons_of_neg (by simp [hx]), ih3]; rfl
          · rw [List.filter_cons_of_neg hpx, List.filter_cons_of_neg (by simp [hpx]), List.filter_cons_of_neg (by simp [hx]), ih3]
        · have e1 : (x :: xs).filter (fun y => p y && decide (rank y ≤ rank a)) = [] := by
            rw [List.filter_eq_nil_iff]
            intro y hy
            rcases List.mem_cons.1 hy with rfl | hy
            · simp [hx]
            · have := h1 y hy
              have hn : ¬ rank y ≤ rank a := by omega
              simp [hn]
          have e2 : (x :: xs).filter (fun y => p y && !decide (rank y ≤ rank a)) = (x :: xs).filter p := by
            apply List.filter_congr
            intro y hy
            have hn : ¬ rank y ≤ rank a := by
              rcases List.mem_cons.1 hy with rfl | hy
              · exact hx
              · have := h1 y hy; omega
            simp [hn]
          rw [e1, e2]; rfl
theorem insL_mapf {f : α → α} (hf : ∀ a, rank (f a) = rank a) (o : α) : ∀ l : List α, insL rank (f o) (l.map f) = (insL rank o l).map f
  | [] => rfl
  | x :: xs => by
    simp only [List.map_cons, insL]
    rw [hf, hf]
    split
    · rw [List.map_cons, insL_mapf hf o xs]
    · rfl
theorem ssort_map {f : α → α} (hf : ∀ a, rank (f a) = rank a) (l : List α) : ssort rank (l.map f) = (ssort rank l).map f := by
  induction l using snoc_ind with
  | h0 => rfl
  | h1 l a ih => rw [List.map_append, List.map_singleton, ssort_push, ssort_push, ih, insL_mapf hf]
theorem insL_take {o : α} : ∀ l : List α, insL rank o l = l.take (l.takeWhile fun y => decide (rank y ≤ rank o)).length ++ o :: l.drop (l.takeWhile fun y => decide (rank y ≤ rank o)).length
  | [] => rfl
  | x :: xs => by
    unfold insL
    split
    · rename_i hk
      rw [List.takeWhile_cons, if_pos (by simpa using hk), List.length_cons, List.take_succ_cons, List.drop_succ_cons, insL_take xs]
      rfl
    · rename_i hk
      rw [List.takeWhile_cons, if_neg (by simpa using hk)]
      rfl
end

/-! sides of lists -/
theorem sideO_filter (side : Int) (p : Ord → Bool) (l : List Ord) : sideO side (l.filter p) = (sideO side l).filter p := by
  unfold sideO onSide
  rw [← ssort_filter, List.filter_filter, List.filter_filter]
  congr 2
  funext y
  exact Bool.and_comm _ _
theorem sideO_map (side : Int) {f : Ord → Ord} (h1 : ∀ o, (f o).side = o.side) (h2 : ∀ o, (f o).kind = o.kind) (h3 : ∀ o, (f o).price = o.price) (l : List Ord) : sideO side (l.map f) = (sideO side l).map f := by
  unfold sideO
  rw [← ssort_map (fun a => by unfold rankO; rw [h2, h3])]
  congr 1
  unfold onSide
  rw [List.filter_map]
  congr 1
  apply List.filter_congr
  intro o _
  simp [h1]
theorem sideO_push_same {side : Int} {l : List Ord} {p : Ord} (h : p.side = side) : sideO side (l ++ [p]) = insL (rankO side) p (sideO side l) := by
  unfold sideO
  rw [← ssort_push]
  congr 1
  unfold onSide
  rw [List.filter_append, List.filter_cons_of_pos (by simpa using h)]
  rfl
theorem sideO_push_other {side : Int} {l : List Ord} {p : Ord} (h : p.side ≠ side) : sideO side (l ++ [p]) = sideO side l := by
  unfold sideO
  congr 1
  unfold onSide
  rw [List.filter_append, List.filter_cons_of_neg (by simpa using h)]
  simp
theorem better_rank {side : Int} {p y : Ord} (hs : side = 1 ∨ side = 2) (hp : p.side = side) (h1 : 1 ≤ p.price ∧ p.price ≤ 1000000) (h2 : 1 ≤ y.price ∧ y.price ≤ 1000000) : (!betterO p y) = decide (rankO side y ≤ rankO side p) := by
  unfold betterO rankO rankI
  by_cases k1 : y.kind = 2
  · rw [if_pos k1, if_pos k1]
    by_cases k2 : p.kind = 2
    · rw [if_pos k2]; rfl
    · rw [if_neg k2]
      rcases hs with rfl | rfl
      · rw [if_pos rfl]; simp; omega
      · rw [if_neg (by decide)]; simp; omega
  · rw [if_neg k1, if_neg k1]
    by_cases k2 : p.kind = 2
    · rw [if_pos k2, if_pos k2]
      rcases hs with rfl | rfl
      · rw [if_pos rfl]; simp; omega
      · rw [if_neg (by decide)]; simp; omega
    · rw [if_neg k2, if_neg k2, hp]
      rcases hs with rfl | rfl
      · rw [if_pos rfl, if_pos rfl, if_pos rfl]; by_cases hlt : y.price < p.price <;> simp [hlt] <;> omega
      · rw [if_neg (by decide), if_neg (by decide), if_neg (by decide)]; by_cases hlt : p.price < y.price <;> simp [hlt] <;> omega
theorem rankN_is {side : Int} {p : Ord} {l : List Ord} (hs : side = 1 ∨ side = 2) (hp : p.side = side) (h1 : 1 ≤ p.price ∧ p.price ≤ 1000000) (h2 : ∀ y ∈ l, 1 ≤ y.price ∧ y.price ≤ 1000000) : rankN p l = (l.takeWhile fun y => decide (rankO side y ≤ rankO side p)).length := by
  unfold rankN
  congr 1
  induction l with
  | nil => rfl
  | cons y l ih => rw [List.takeWhile_cons, List.takeWhile_cons, better_rank hs hp h1 (h2 y (by simp)), ih (fun z hz => h2 z (by simp [hz]))]
end Go.Proofs.YtcpijeehgdbjbaaDoor

/-
  The program's book and the document's, side by side, as plain lists: Add, Cancel, Cut. Conditions stand in each theorem.
-/
namespace Go.Proofs.YtcpijeehgdbjbaaDoor
open Go.RowKit

theorem id_inj : ∀ {l : List Ord}, (l.map Ord.id).Nodup → ∀ {a b : Ord}, a ∈ l → b ∈ l → a.id = b.id → a = b
  | [], _, _, _, h, _, _ => by cases h
  | x :: l, hn, a, b, ha, hb, e => by
    rw [List.map_cons, List.nodup_cons] at hn
    rcases List.mem_cons.1 ha with e1 | h1
    · rcases List.mem_cons.1 hb with e2 | h2
      · rw [e1, e2]
      · exact (hn.1 (List.mem_map.2 ⟨b, h2, by rw [← e, e1]⟩)).elim
    · rcases List.mem_cons.1 hb with e2 | h2
      · exact (hn.1 (List.mem_map.2 ⟨a, h1, by rw [e, e2]⟩)).elim
      · exact id_inj hn.2 h1 h2 e
theorem oAt_in {l : List Ord} {k : Nat} (h : k < l.length) : oAt l k ∈ l := by rw [oAt_eq h]; exact List.getElem_mem h
theorem idxF_none (id : Int) : ∀ (l : List Ord) (i : Nat), (∀ o ∈ l, o.id ≠ id) → idxF id i l = -1
  | [], _, _ => rfl
  | o :: l, i, h => by
    show (if o.id = id then (i : Int) else idxF id (i + 1) l) = -1
    rw [if_neg (h o (by simp)), idxF_none id l (i + 1) (fun y hy => h y (by simp [hy]))]
theorem idxF_some (id : Int) : ∀ (l : List Ord) (i : Nat), (∃ o ∈ l, o.id = id) → 0 ≤ idxF id i l
  | [], _, h => by obtain ⟨_, h, _⟩ := h; cases h
  | o :: l, i, h => by
    show 0 ≤ (if o.id = id then (i : Int) else idxF id (i + 1) l)
    split
    · omega
    · rename_i hne
      obtain ⟨y, hy, e⟩ := h
      rcases List.mem_cons.1 hy with rfl | hy
      · exact absurd e hne
      · exact idxF_some id l (i + 1) ⟨y, hy, e⟩
theorem split_at {l : List Ord} {k : Nat} (h : k < l.length) : l = l.take k ++ oAt l k :: l.drop (k + 1) := by rw [oAt_eq h, ← List.drop_eq_getElem_cons h, List.take_append_drop]
/-- in a list whose ids are each their own, the others than number k are those of another id -/
theorem others {l : List Ord} {k : Nat} (hn : (l.map Ord.id).Nodup) (hk : k < l.length) : (∀ o ∈ l.take k, o.id ≠ (oAt l k).id) ∧ (∀ o ∈ l.drop (k + 1), o.id ≠ (oAt l k).id) := by
  rw [split_at hk, List.map_append, List.map_cons, List.nodup_append] at hn
  obtain ⟨_, h2, h3⟩ := hn
  rw [List.nodup_cons] at h2
  refine ⟨fun o ho e => ?_, fun o ho e => ?_⟩
  · exact h3 o.id (List.mem_map.2 ⟨o, ho, rfl⟩) (oAt l k).id (by simp) e
  · exact h2.1 (List.mem_map.2 ⟨o, ho, e⟩)
theorem goneL_filter {l : List Ord} {k : Nat} (hn : (l.map Ord.id).Nodup) (hk : k < l.length) : goneL k l = l.filter (fun o => decide (o.id ≠ (oAt l k).id)) := by
  obtain ⟨h1, h2⟩ := others hn hk
  have hsp := split_at hk
  generalize oAt l k = x at h1 h2 hsp ⊢
  conv => rhs; rw [hsp]
  rw [List.filter_append, List.filter_cons_of_neg (by simp), List.filter_eq_self.2 (fun o ho => by simpa using h1 o ho), List.filter_eq_self.2 (fun o ho => by simpa using h2 o ho)]
  rfl
/-- the order of that id with fewer lots -/
def cutF (id q : Int) (o : Ord) : Ord := if o.id = id then cutO q o else o
theorem cutF_id (id q : Int) (o : Ord) : (cutF id q o).id = o.id := by unfold cutF; split <;> rfl
theorem cutF_side (id q : Int) (o : Ord) : (cutF id q o).side = o.side := by unfold cutF; split <;> rfl
theorem cutF_kind (id q : Int) (o : Ord) : (cutF id q o).kind = o.kind := by unfold cutF; split <;> rfl
theorem cutF_price (id q : Int) (o : Ord) : (cutF id q o).price = o.price := by unfold cutF; split <;> rfl
theorem set_map {l : List Ord} {k : Nat} (q : Int) (hn : (l.map Ord.id).Nodup) (hk : k < l.length) : l.set k (cutO q (oAt l k)) = l.map (cutF (oAt l k).id q) := by
  obtain ⟨h1, h2⟩ := others hn hk
  have hsp := split_at hk
  rw [List.set_eq_take_append_cons_drop, if_pos hk]
  generalize oAt l k = x at h1 h2 hsp ⊢
  have e1 : (l.take k).map (cutF x.id q) = l.take k := by
    conv => rhs; rw [← List.map_id (l.take k)]
    apply List.map_congr_left
    intro o ho
    unfold cutF; rw [if_neg (h1 o ho)]; rfl
  have e2 : (l.drop (k + 1)).map (cutF x.id q) = l.drop (k + 1) := by
    conv => rhs; rw [← List.map_id (l.drop (k + 1))]
    apply List.map_congr_left
    intro o ho
    unfold cutF; rw [if_neg (h2 o ho)]; rfl
  have e3 : cutF x.id q x = cutO q x := if_pos rfl
  conv => rhs; rw [hsp]
  rw [List.map_append, List.map_cons, e1, e2, e3]

/-- one mind -/
structure Lnk (S : Nat → List Ly) (L : List Ord) : Prop where
  side : ∀ s, s < 2 → (S s).map Ly.o = sideO ((s : Int) + 1) L
  all : ∀ o ∈ L, o.side = 1 ∨ o.side = 2
  ids : (L.map Ord.id).Nodup
theorem Lnk.start : Lnk (fun _ => []) [] := ⟨fun _ _ => rfl, fun _ h => (by cases h), List.nodup_nil⟩
section
variable {S : Nat → List Ly} {L : List Ord} {m : Nat} {rs : List Sot} {fr : List Nat}
theorem Lnk.mem (h : Lnk S L) {o : Ord} : o ∈ L ↔ ∃ s, s < 2 ∧ ∃ x ∈ S s, x.o = o := by
  constructor
  · intro ho
    have key : ∀ s : Nat, s < 2 → o.side = (s : Int) + 1 → ∃ s, s < 2 ∧ ∃ x ∈ S s, x.o = o := fun s hs e => by
      have h1 : o ∈ sideO ((s : Int) + 1) L := sideO_mem.2 ⟨ho, e⟩
      rw [← h.side s hs] at h1
      obtain ⟨x, hx, rfl⟩ := List.mem_map.1 h1
      exact ⟨s, hs, x, hx, rfl⟩
    rcases h.all o ho with e | e
    · exact key 0 (by decide) (by rw [e]; rfl)
    · exact key 1 (by decide) (by rw [e]; rfl)
  · rintro ⟨s, hs, x, hx, rfl⟩
    have h1 : x.o ∈ (S s).map Ly.o := List.mem_map.2 ⟨x, hx, rfl⟩
    rw [h.side s hs] at h1
    exact (sideO_mem.1 h1).1
theorem Lnk.none (h : Lnk S L) {id : Int} (hn : ∀ s, s < 2 → ∀ x ∈ S s, x.o.id ≠ id) : ∀ o ∈ L, o.id ≠ id := fun o ho => by
  obtain ⟨s, hs, x, hx, rfl⟩ := h.mem.1 ho
  exact hn s hs x hx
theorem Lnk.idx_no (h : Lnk S L) {id : Int} (hn : ∀ s, s < 2 → ∀ x ∈ S s, x.o.id ≠ id) : idxO id L = -1 := idxF_none id L 0 (h.none hn)
theorem Lnk.idx_yes (h : Lnk S L) {s : Nat} (hs : s < 2) {x : Ly} (hx : x ∈ S s) : 0 ≤ idxO x.o.id L := idxF_some _ L 0 ⟨x.o, h.mem.2 ⟨s, hs, x, hx, rfl⟩, rfl⟩
theorem Lnk.at (h : Lnk S L) {s k : Nat} (hs : s < 2) {x : Ly} (hx : x ∈ S s) (hk : k < L.length) (e : (oAt L k).id = x.o.id) : oAt L k = x.o := id_inj h.ids (oAt_in hk) (h.mem.2 ⟨s, hs, x, hx, rfl⟩) e
theorem Lnk.len (h : Lnk S L) : L.length = (S 0).length + (S 1).length := by
  have hl : ∀ s, s < 2 → (S s).length = (onSide ((s : Int) + 1) L).length := fun s hs => by
    have := congrArg List.length (h.side s hs)
    rw [List.length_map] at this
    rw [this]
    exact (ssort_perm _ _).length_eq
  have both : ∀ l : List Ord, (∀ o ∈ l, o.side = 1 ∨ o.side = 2) → l.length = (onSide 1 l).length + (onSide 2 l).length := fun l => by
    induction l with
    | nil => intro _; rfl
    | cons o l ih =>
      intro ha
      have := ih (fun y hy => ha y (by simp [hy]))
      unfold onSide at *
      rcases ha o (by simp) with e | e
      · rw [List.filter_cons_of_pos (by simp [e]), List.filter_cons_of_neg (by simp [e])]; simp; omega
      · rw [List.filter_cons_of_neg (by simp [e]), List.filter_cons_of_pos (by simp [e])]; simp; omega
  rw [hl 0 (by decide), hl 1 (by decide)]
  exact both L h.all
theorem Lnk.ok (h : Lnk S L) (hp : Pb m rs fr S) : ∀ o ∈ L, 1 ≤ o.price ∧ o.price ≤ 1000000 ∧ 1 ≤ o.qty ∧ o.qty ≤ 1000000 := fun o ho => by
  obtain ⟨s, hs, x, hx, rfl⟩ := h.mem.1 ho
  have := hp.ok s hs x hx
  omega
theorem Lnk.add (h : Lnk S L) {s k : Nat} {a : Int} {p : Ord} (hs : s < 2) (hp : p.side = (s : Int) + 1) (h1 : 1 ≤ p.price ∧ p.price ≤ 1000000) (hok : ∀ o ∈ L, 1 ≤ o.price ∧ o.price ≤ 1000000) (hno : ∀ o ∈ L, o.id ≠ p.id) :
    Lnk (upS S s (insAt (rankN p ((S s).map Ly.o)) ⟨k, a, p⟩ (S s))) (L ++ [p]) := by
  have hsd : (s : Int) + 1 = 1 ∨ (s : Int) + 1 = 2 := by omega
  refine ⟨fun t ht => ?_, fun o ho => ?_, ?_⟩
  · by_cases e : t = s
    · subst e
      rw [upS_same, sideO_push_same hp, insL_take]
      unfold insAt
      rw [List.map_append, List.map_cons, List.map_take, List.map_drop, h.side t ht, rankN_is hsd hp h1 (fun y hy => hok y (sideO_mem.1 hy).1)]
    · rw [upS_other _ e, sideO_push_other (by rw [hp]; omega)]
      exact h.side t ht
  · rcases List.mem_append.1 ho with ho | ho
    · exact h.all o ho
    · simp at ho; subst ho; rw [hp]; exact hsd
  · rw [List.map_append, List.nodup_append]
    refine ⟨h.ids, by simp, fun i hi j hj => ?_⟩
    obtain ⟨o, ho, rfl⟩ := List.mem_map.1 hi
    simp at hj
    subst hj
    exact hno o ho
theorem Lnk.gone (h : Lnk S L) (hp : Pb m rs fr S) {s i k : Nat} {x : Ly} (hs : s < 2) (hi : i < (S s).length) (hx : lyAt (S s) i = x) (hk : k < L.length) (hid : (oAt L k).id = x.o.id) : Lnk (upS S s (outAt i (S s))) (goneL k L) := by
  have hxm : x ∈ S s := by rw [← hx]; exact lyAt_mem hi
  rw [goneL_filter h.ids hk, hid]
  refine ⟨fun t ht => ?_, fun o ho => h.all o (List.mem_filter.1 ho).1, ?_⟩
  · rw [sideO_filter, ← h.side t ht]
    by_cases e : t = s
    · subst e
      have hn : (((S t).map Ly.o).map Ord.id).Nodup := by
        rw [List.map_map]
        have h5 := (pb_all S ht).map (fun x => x.o.id)
        have h6 := h5.nodup_iff.1 hp.ids
        rw [List.map_append] at h6
        exact (List.nodup_append.1 h6).1
      have hi' : i < ((S t).map Ly.o).length := by rw [List.length_map]; exact hi
      have hat : oAt ((S t).map Ly.o) i = x.o := by rw [← hx, lyAt_eq hi, oAt_eq hi', List.getElem_map]
      have h7 := goneL_filter hn hi'
      rw [hat] at h7
      rw [upS_same, ← h7]
      unfold outAt goneL
      rw [List.map_append, List.map_take, List.map_drop]
    · rw [upS_other _ e]
      symm
      rw [List.filter_eq_self]
      intro o ho
      obtain ⟨y, hy, rfl⟩ := List.mem_map.1 ho
      simp only [decide_eq_true_eq]
      intro e2
      have e3 := hp.one_id ht hs hy hxm e2
      subst e3
      exact e (hp.one_side ht hs hy hxm)
  · exact h.ids.sublist (List.filter_sublist.map _)
theorem Lnk.cut (h : Lnk S L) (hp : Pb m rs fr S) {s k : Nat} {q : Int} {x : Ly} (hs : s < 2) (hx : x ∈ S s) (hk : k < L.length) (hid : (oAt L k).id = x.o.id) : Lnk (upS S s (cutL x (lessO q x.o) (S s))) (L.set k (cutO q (oAt L k))) := by
  rw [set_map q h.ids hk, hid]
  have hrow : ∀ t, t < 2 → (upS S s (cutL x (lessO q x.o) (S s)) t).map Ly.o = ((S t).map Ly.o).map (cutF x.o.id q) := fun t ht => by
    by_cases e : t = s
    · subst e
      rw [upS_same]
      unfold cutL
      rw [List.map_map, List.map_map]
      apply List.map_congr_left
      intro y hy
      simp only [Function.comp]
      split
      · rename_i e1
        obtain rfl := hp.one_slot ht ht hy hx e1
        unfold cutF; rw [if_pos rfl]; rfl
      · rename_i e1
        unfold cutF
        rw [if_neg (fun e2 => e1 (by rw [hp.one_id ht ht hy hx e2]))]
    · rw [upS_other _ e, List.map_map]
      apply List.map_congr_left
      intro y hy
      simp only [Function.comp]
      unfold cutF
      rw [if_neg (fun e2 => by
        have e3 := hp.one_id ht hs hy hx e2
        subst e3
        exact e (hp.one_side ht hs hy hx))]
  refine ⟨fun t ht => ?_, fun o ho => ?_, ?_⟩
  · rw [hrow t ht, sideO_map _ (cutF_side _ _) (cutF_kind _ _) (cutF_price _ _), h.side t ht]
  · obtain ⟨y, hy, rfl⟩ := List.mem_map.1 ho
    rw [cutF_side]; exact h.all y hy
  · rw [List.map_map]
    have : (Ord.id ∘ cutF x.o.id q) = Ord.id := by funext o; exact cutF_id _ _ _
    rw [this]; exact h.ids
end
theorem lie_same (o : Ord) : lieP o = lieO o := rfl
theorem sideP_is (s : Int) : sideP s = (decide (1 ≤ s) && decide (s ≤ 2)) := by
  unfold sideP
  by_cases h : s = 1
  · subst h; rfl
  by_cases h' : s = 2
  · subst h'; rfl
  have h1 : (s == 1) = false := beq_eq_false_iff_ne.2 h
  have h2 : (s == 2) = false := beq_eq_false_iff_ne.2 h'
  rw [h1, h2]
  by_cases h3 : 1 ≤ s
  · have : ¬ s ≤ 2 := by omega
    simp [this]
  · simp [h3]
end Go.Proofs.YtcpijeehgdbjbaaDoor

/-
  The law's own 'sameOrders' and 'same', over two books that are of one mind. Conditions stand in each theorem.
-/
namespace Go.Proofs.YtcpijeehgdbjbaaDoor
open Go.RowKit

set_option maxRecDepth 100000 in
set_option maxHeartbeats 1000000 in
theorem sameOrders_yes (B1 B2 : Nat) (v1 v2 : Value) (l : List Ord) (w : World) (h1 : w.ownsRow B1 81 5 v1 l.length (oV l)) (h2 : w.ownsRow B2 81 5 v2 l.length (oV l)) (hl : l.length ≤ 1000) :
    Calls Tryd.prog 67 #[v1, v2] w fun e W' => e = .returned (.bool true) ∧ Below w.heap.size w W' := by
  obtain ⟨a1, c1, rfl, _, _⟩ := bk_shape h1
  obtain ⟨a2, c2, rfl, _, _⟩ := bk_shape h2
  have H1 : Hid (w.ownsRow B1 81 5 (.slice a1 l.length c1) l.length (oV l)) := h1
  have H2 : Hid (w.ownsRow B2 81 5 (.slice a2 l.length c2) l.length (oV l)) := h2
  clear h1 h2
  go_enter Tryd.func67, Tryd.ntmps67
  go_wp2_with fail
  go_loopw [5] (fun v wx => ∃ j : Nat, j ≤ l.length ∧ v = .int .i64 j ∧ Below w.heap.size w wx) (fun v _ => l.length - (intOf v).toNat)
  case atStart => exact ⟨0, Nat.zero_le _, rfl, Below.refl _ _⟩
  case round =>
    obtain ⟨j, hj, rfl, hb6⟩ := hrel
    have HB6 : Hid (Below w.heap.size w wr) := hb6
    by_cases hjl : j < l.length
    · obtain ⟨gv, cv', hev, k0, k1, k2, k3, k4⟩ := row_order (bk_below H1.out hb6 (Nat.le_refl _)) hjl
      obtain ⟨go, co', heo, d0, d1, d2, d3, d4⟩ := row_order (bk_below H2.out hb6 (Nat.le_refl _)) hjl
      simp only [Value.slice.injEq, true_and] at hev heo
      obtain ⟨hev1, _⟩ := hev
      obtain ⟨heo1, _⟩ := heo
      subst hev1 heo1
      have q2 : (0 : Int) ≤ (j : Int) := by omega
      have q3 : (j : Int) < (l.length : Int) := by omega
      clear hb6
      go_wp2_with fail
      go_region
      go_wp2_with fail
      go_roundw
      case rel => exact ⟨j + 1, by omega, by go_num, by first | exact HB6.out.drew | exact below_drewN HB6.out _⟩
      case measure => simp [intOf]; omega
    · have q3 : ¬ (j : Int) < (l.length : Int) := by omega
      go_wp2_with fail
      go_ret
      exact ⟨rfl, HB6.out⟩
end Go.Proofs.YtcpijeehgdbjbaaDoor

/-
  The law's own 'same', over two books that are of one mind. Conditions stand in each theorem.
-/
namespace Go.Proofs.YtcpijeehgdbjbaaDoor
open Go.RowKit

set_option maxRecDepth 100000 in
set_option maxHeartbeats 4000000 in
theorem same_yes (bb rb base m : Nat) (b : BkS) (vr : Value) (L : List Ord) (w : World) (h : Bk w bb m b) (hr : BookIs w base rb vr L) (hk : Lnk b.S L) (he : ErrT w) :
    Calls Tryd.prog 40 #[.pointer (some ⟨bb, 0, none⟩), .pointer (some ⟨rb, 0, none⟩)] w fun e W' => e = .returned (.bool true) ∧ Below w.heap.size w W' := by
  have H : Hid (Bk w bb m b) := h
  have HR : Hid (BookIs w base rb vr L) := hr
  have HK : Hid (Lnk b.S L) := hk
  have HE : Hid (ErrT w) := he
  have hL : L.length ≤ 100 := by have := h.ok.most; have := hk.len; omega
  have HP : Hid (∀ o ∈ L, -1000000000 ≤ o.price ∧ o.price ≤ 1000000000) := fun o ho => by have := hk.ok h.ok o ho; omega
  have HQ : Hid (∀ o ∈ L, 0 ≤ o.qty ∧ o.qty ≤ 1000000) := fun o ho => by have := hk.ok h.ok o ho; omega
  clear h hr hk he
  go_enter Tryd.func40, Tryd.ntmps40
  go_wp2_with fail
  go_loopw [5] (fun v wx => ∃ s : Nat, s ≤ 2 ∧ v = .int .i64 ((s : Int) + 1) ∧ Below w.heap.size w wx) (fun v _ => 3 - (intOf v).toNat)
  case atStart => exact ⟨0, by omega, rfl, Below.refl _ _⟩
  case round =>
    obtain ⟨s, hs, rfl, hb⟩ := hrel
    have HB : Hid (Below w.heap.size w wr) := hb
    clear hb
    by_cases hlt : s < 2
    · have q1 : (s : Int) + 1 ≤ 2 := by omega
      have HSD : Hid ((b.S s).map Ly.o = sideO ((s : Int) + 1) L) := HK.out.side s hlt
      have hll : (sideO ((s : Int) + 1) L).length ≤ 1000 := by have := sideO_len ((s : Int) + 1) L; omega
      go_wp2_with fail
      refine (bkSide base rb vr L _ _ (HR.out.below HB.out (Nat.le_refl _)) (by omega) HP.out).mono ?_
      rintro e w1 ⟨v1, rfl, ho1, hb1⟩
      have HB1 : Hid (Below w.heap.size w w1) := bel_then HB.out hb1
      clear hb1
      go_wp2_with fail
      refine (pbSideOf bb m s b _ (H.out.below HB1.out (Nat.le_refl _)) hlt _ (by go_num)).mono ?_
      rintro e w2 ⟨v2, rfl, ho2, hb2⟩
      have HB2 : Hid (Below w.heap.size w w2) := bel_then HB1.out hb2
      have ho1 := owns_below ho1 hb2 (Nat.le_refl _)
      have hl2 : (b.S s).length = (sideO ((s : Int) + 1) L).length := by rw [← HSD.out, List.length_map]
      rw [HSD.out, hl2] at ho2
      have HO1 : Hid (w2.ownsRow wr.heap.size 81 5 v1 (sideO ((s : Int) + 1) L).length (oV (sideO ((s : Int) + 1) L))) := ho1
      have HO2 : Hid (w2.ownsRow w1.heap.size 81 5 v2 (sideO ((s : Int) + 1) L).length (oV (sideO ((s : Int) + 1) L))) := ho2
      clear hb2 ho2 hl2
      go_wp2_with fail
      refine (sameOrders_yes _ _ v2 v1 _ _ HO2.out HO1.out hll).mono ?_
      rintro e w3 ⟨rfl, hb3⟩
      have HB3 : Hid (Below w.heap.size w w3) := bel_then HB2.out hb3
      have HO3 : Hid (w3.ownsRow wr.heap.size 81 5 v1 (sideO ((s : Int) + 1) L).length (oV (sideO ((s : Int) + 1) L))) := owns_below HO1.out hb3 (Nat.le_refl _)
      clear hb3 HO1 HO2 ho1
      go_wp2_with fail
      refine (pbBest bb m s b _ (H.out.below HB3.out (Nat.le_refl _)) hlt _ (by go_num)).mono ?_
      rintro e w4 ⟨rfl, hb4⟩
      have HB4 : Hid (Below w.heap.size w w4) := bel_then HB3.out hb4
      have ho4 := owns_below HO3.out hb4 (Nat.le_refl _)
      rw [HSD.out]
      clear hb4 HO3
      obtain ⟨a1, c1, rfl, _, _⟩ := bk_shape ho4
      cases hl : sideO ((s : Int) + 1) L with
      | nil =>
        rw [hl] at ho4
        simp only [List.length_nil]
        unfold bestV Ord.agg Ord.none_
        go_wp2_with fail
        have hbA := bel_then HB4.out (bel1 w4 (.cells #[.int .i64 0, .int .i64 0, .int .i64 0, .int .i64 0, .int .i64 0] 81))
        generalize w4.alloc (.cells #[.int .i64 0, .int .i64 0, .int .i64 0, .int .i64 0, .int .i64 0] 81) = W at hbA ⊢
        have cB : ∀ d os, Calls Tryd.prog 12 #[.iface 22 (.int .i64 8), .int .i64 8] (Go.Sort.grow (redrawn W d) os) fun e w'' => e = .returned (.bool true) ∧ ∃ p : Regrown, w'' = Go.Sort.grow (redrawn W p.d) p.os := fun d os => Calls.regrown_of (bare_yes _ 8 _ (HE.out.below (bel_then hbA (below_regrown W d os))) (Or.inr (Or.inl ⟨rfl, rfl⟩)))
        refine wp_region_quiet_below (by kernel_rfl) (by kernel_rfl) ?_
        repeat (go_big_quiet_step (exact cB _ _))
        refine wpQuiet_nil ?_
        intro _ hw'
        obtain ⟨⟨dq, osq⟩, hw''⟩ := hw'
        subst hw''
        have hW5 := bel_then hbA (below_regrown W dq osq)
        generalize Go.Sort.grow (redrawn W dq) osq = W5 at hW5 ⊢
        clear cB hbA
        have HSD : Hid ((b.S s).map Ly.o = sideO ((s : Int) + 1) L) := HK.out.side s hlt
        have HW : Hid (Below w.heap.size w W5) := hW5
        clear hW5 ho4 hl
        go_wp2_with fail
        refine (bkDepth base rb vr L _ _ (HR.out.below HW.out (Nat.le_refl _)) (by omega) HP.out HQ.out).mono ?_
        rintro e w6 ⟨v6, rfl, ho6, hb6⟩
        have HB6 : Hid (Below w.heap.size w w6) := bel_then HW.out hb6
        clear hb6
        go_wp2_with fail
        refine (pbDepth bb m s b _ (H.out.below HB6.out (Nat.le_refl _)) hlt _ (by go_num)).mono ?_
        rintro e w7 ⟨v7, rfl, ho7, hb7⟩
        have HB7 : Hid (Below w.heap.size w w7) := bel_then HB6.out hb7
        have ho6 := owns_below ho6 hb7 (Nat.le_refl _)
        rw [HSD.out] at ho7
        clear hb7
        have hdl : (depth (sideO ((s : Int) + 1) L)).length ≤ 1000 := by
          have h1 := depth_ok (l := sideO ((s : Int) + 1) L) (fun o ho => HQ.out o (sideO_mem.1 ho).1) _ (Nat.le_refl _)
          have h2 := h1.len
          rw [List.take_length] at h2
          have h3 := sideO_len ((s : Int) + 1) L
          omega
        generalize depth (sideO ((s : Int) + 1) L) = dl at ho6 ho7 hdl
        obtain ⟨a6, c6, rfl, _, _⟩ := bk_shape ho6
        obtain ⟨a7, c7, rfl, _, _⟩ := bk_shape ho7
        have HO6 : Hid (w7.ownsRow W5.heap.size 148 3 (.slice a6 dl.length c6) dl.length (lvV dl)) := ho6
        have HO7 : Hid (w7.ownsRow w6.heap.size 148 3 (.slice a7 dl.length c7) dl.length (lvV dl)) := ho7
        clear ho6 ho7
        go_wp2_with fail
        go_loopw [12] (fun v wx => ∃ j : Nat, j ≤ dl.length ∧ v = .int .i64 j ∧ Below w7.heap.size w7 wx) (fun v _ => dl.length - (intOf v).toNat)
        case atStart => exact ⟨0, Nat.zero_le _, rfl, Below.refl _ _⟩
        case round =>
          obtain ⟨j, hj, rfl, hb8⟩ := hrel
          have HB8 : Hid (Below w7.heap.size w7 wr) := hb8
          by_cases hjl : j < dl.length
          · obtain ⟨gv, cv', hev, k0, k1, k2, _, _⟩ := row_last (owns_below HO6.out hb8 (Nat.le_refl _)) hjl
            obtain ⟨go, co', heo, d0, d1, d2, _, _⟩ := row_last (owns_below HO7.out hb8 (Nat.le_refl _)) hjl
            simp only [Value.slice.injEq, true_and] at hev heo
            obtain ⟨hev1, _⟩ := hev
            obtain ⟨heo1, _⟩ := heo
            subst hev1 heo1
            have p2 : (0 : Int) ≤ (j : Int) := by omega
            have p3 : (j : Int) < (dl.length : Int) := by omega
            clear hb8
            go_wp2_with fail
            go_region
            go_wp2_with fail
            go_roundw
            case rel => exact ⟨j + 1, by omega, by go_num, by first | exact HB8.out.drew | exact below_drewN HB8.out _⟩
            case measure => simp [intOf]; omega
          · have p3 : ¬ (j : Int) < (dl.length : Int) := by omega
            go_wp2_with fail
            go_roundw
            case rel => exact ⟨s + 1, by omega, by go_num, bel_then HB7.out HB8.out⟩
            case measure => simp [intOf]; omega
      | cons o lr =>
        rw [hl] at ho4
        simp only [List.length_cons]
        unfold bestV Ord.agg
        have hlr : lr.length + 1 ≤ 1000 := by rw [hl] at hll; simpa using hll
        go_wp2_with fail
        have hbA1 := bel1 w4 (.cells #[.int .i64 o.id, .int .i64 o.side, .int .i64 o.kind, .int .i64 o.price, .int .i64 o.qty] 81)
        have hoA := owns_below ho4 hbA1 (Nat.le_refl _)
        have hA := heap_alloc_new w4 (.cells #[.int .i64 o.id, .int .i64 o.side, .int .i64 o.kind, .int .i64 o.price, .int .i64 o.qty] 81)
        have hbA := bel_then HB4.out hbA1
        generalize w4.alloc (.cells #[.int .i64 o.id, .int .i64 o.side, .int .i64 o.kind, .int .i64 o.price, .int .i64 o.qty] 81) = W at hbA hoA hA hbA1 ⊢
        obtain ⟨g1, c1', hv, x0, x1, x2, x3, x4⟩ := row_order hoA (k := 0) (by simp)
        simp only [Value.slice.injEq, true_and] at hv
        obtain ⟨hv1, _⟩ := hv
        subst hv1
        have d0 : W.cell? ⟨g1, 0, none⟩ = some (.int .i64 o.id) := x0
        have d1 : W.cell? ⟨g1, 1, none⟩ = some (.int .i64 o.side) := x1
        have d2 : W.cell? ⟨g1, 2, none⟩ = some (.int .i64 o.kind) := x2
        have d3 : W.cell? ⟨g1, 3, none⟩ = some (.int .i64 o.price) := x3
        have d4 : W.cell? ⟨g1, 4, none⟩ = some (.int .i64 o.qty) := x4
        clear x0 x1 x2 x3 x4
        have e0 := blk_cell (j := 0) hA rfl
        have e1 := blk_cell (j := 1) hA rfl
        have e2 := blk_cell (j := 2) hA rfl
        have e3 := blk_cell (j := 3) hA rfl
        have e4 := blk_cell (j := 4) hA rfl
        have g0 : (((lr.length : Int) + 1) == 0) = false := beq_eq_false_iff_ne.2 (by omega)
        have g1 : decide (((lr.length : Int) + 1) > 0) = true := decide_eq_true (by omega)
        go_quiet (fail)
        have hW5 := bel_then hbA (below_drewN (Below.refl W.heap.size W) nq)
        generalize W.drewN nq = W5 at hW5 ⊢
        clear d0 d1 d2 d3 d4 e0 e1 e2 e3 e4 hA hoA hbA hbA1 g0 g1
        have HSD : Hid ((b.S s).map Ly.o = sideO ((s : Int) + 1) L) := HK.out.side s hlt
        have HW : Hid (Below w.heap.size w W5) := hW5
        clear hW5 ho4 hl hlr
        go_wp2_with fail
        refine (bkDepth base rb vr L _ _ (HR.out.below HW.out (Nat.le_refl _)) (by omega) HP.out HQ.out).mono ?_
        rintro e w6 ⟨v6, rfl, ho6, hb6⟩
        have HB6 : Hid (Below w.heap.size w w6) := bel_then HW.out hb6
        clear hb6
        go_wp2_with fail
        refine (pbDepth bb m s b _ (H.out.below HB6.out (Nat.le_refl _)) hlt _ (by go_num)).mono ?_
        rintro e w7 ⟨v7, rfl, ho7, hb7⟩
        have HB7 : Hid (Below w.heap.size w w7) := bel_then HB6.out hb7
        have ho6 := owns_below ho6 hb7 (Nat.le_refl _)
        rw [HSD.out] at ho7
        clear hb7
        have hdl : (depth (sideO ((s : Int) + 1) L)).length ≤ 1000 := by
          have h1 := depth_ok (l := sideO ((s : Int) + 1) L) (fun o ho => HQ.out o (sideO_mem.1 ho).1) _ (Nat.le_refl _)
          have h2 := h1.len
          rw [List.take_length] at h2
          have h3 := sideO_len ((s : Int) + 1) L
          omega
        generalize depth (sideO ((s : Int) + 1) L) = dl at ho6 ho7 hdl
        obtain ⟨a6, c6, rfl, _, _⟩ := bk_shape ho6
        obtain ⟨a7, c7, rfl, _, _⟩ := bk_shape ho7
        have HO6 : Hid (w7.ownsRow W5.heap.size 148 3 (.slice a6 dl.length c6) dl.length (lvV dl)) := ho6
        have HO7 : Hid (w7.ownsRow w6.heap.size 148 3 (.slice a7 dl.length c7) dl.length (lvV dl)) := ho7
        clear ho6 ho7
        go_wp2_with fail
        go_loopw [12] (fun v wx => ∃ j : Nat, j ≤ dl.length ∧ v = .int .i64 j ∧ Below w7.heap.size w7 wx) (fun v _ => dl.length - (intOf v).toNat)
        case atStart => exact ⟨0, Nat.zero_le _, rfl, Below.refl _ _⟩
        case round =>
          obtain ⟨j, hj, rfl, hb8⟩ := hrel
          have HB8 : Hid (Below w7.heap.size w7 wr) := hb8
          by_cases hjl : j < dl.length
          · obtain ⟨gv, cv', hev, k0, k1, k2, _, _⟩ := row_last (owns_below HO6.out hb8 (Nat.le_refl _)) hjl
            obtain ⟨go, co', heo, d0, d1, d2, _, _⟩ := row_last (owns_below HO7.out hb8 (Nat.le_refl _)) hjl
            simp only [Value.slice.injEq, true_and] at hev heo
            obtain ⟨hev1, _⟩ := hev
            obtain ⟨heo1, _⟩ := heo
            subst hev1 heo1
            have p2 : (0 : Int) ≤ (j : Int) := by omega
            have p3 : (j : Int) < (dl.length : Int) := by omega
            clear hb8
            go_wp2_with fail
            go_region
            go_wp2_with fail
            go_roundw
            case rel => exact ⟨j + 1, by omega, by go_num, by first | exact HB8.out.drew | exact below_drewN HB8.out _⟩
            case measure => simp [intOf]; omega
          · have p3 : ¬ (j : Int) < (dl.length : Int) := by omega
            go_wp2_with fail
            go_roundw
            case rel => exact ⟨s + 1, by omega, by go_num, bel_then HB7.out HB8.out⟩
            case measure => simp [intOf]; omega
    · have hs2 : s = 2 := by omega
      subst hs2
      obtain ⟨ar, cr, hvr, _, _⟩ := bk_shape HR.out.all
      subst hvr
      have cV := blk_cell (j := 0) (HR.out.below HB.out (Nat.le_refl _)).box rfl
      have hlen : (L.length : Int) = ((b.S 0).length + (b.S 1).length : Nat) := by have := HK.out.len; omega
      go_wp2_with fail
      have cM : ∀ d os, Calls Tryd.prog 69 #[.pointer (some ⟨bb, 0, none⟩)] (Go.Sort.grow (redrawn wr d) os) fun e w'' => e = .returned (.int .i64 L.length) ∧ ∃ p : Regrown, w'' = Go.Sort.grow (redrawn wr p.d) p.os := fun d os => by
        rw [hlen]
        exact Calls.regrown_of (pbMany bb m b _ (H.out.below (bel_then HB.out (below_regrown wr d os)) (Nat.le_refl _)))
      have kV := cell_regrown cV
      refine wp_region_quiet_below (by kernel_rfl) (by kernel_rfl) ?_
      repeat (go_big_quiet_step (exact cM _ _))
      refine wpQuiet_nil ?_
      intro _ hw'
      obtain ⟨⟨dq, osq⟩, hw''⟩ := hw'
      subst hw''
      go_wp2_with fail
      go_ret
      exact ⟨rfl, bel_then HB.out (below_regrown wr dq osq)⟩
end Go.Proofs.YtcpijeehgdbjbaaDoor

/-
  The program's book and the document's in memory, side by side: what each call of the law does to them. Conditions stand in each theorem.
-/
namespace Go.Proofs.YtcpijeehgdbjbaaDoor
open Go.RowKit

/-- an error of the program's and the document's number for it -/
def ErrVal (err : Value) (n : Int) : Prop := (err = .nilIface ∧ n = 0) ∨ err = .iface 22 (.int .i64 n)
theorem ErrVal.is {err : Value} {n : Int} (h : ErrVal err n) (w : World) : ErrIs w err n (-1) := by
  rcases h with ⟨rfl, rfl⟩ | rfl
  · exact Or.inl ⟨rfl, rfl, rfl⟩
  · exact Or.inr (Or.inl ⟨rfl, rfl⟩)

/-! nothing of the program's book is a row of orders, nor of another type -/
theorem Bk.farRow {w : World} {bb m base n : Nat} {b : BkS} {v : Value} {xs : List Value} (h : Bk w bb m b) (hr : w.ownsRow base 81 5 v n xs) : ∀ k, v.ownBlock = some k → ¬ b.foot bb k := fun k hk e => by
  rcases e with e | e | e | e | e
  · exact owns_type hr h.at_.box (by decide) (by rw [hk, e])
  · rcases e with e | e | e
    · exact owns_type hr h.at_.ar.box (by decide) (by rw [hk, e])
    · exact owns_types hr h.at_.ar.slots (by decide) hk e
    · exact owns_types hr h.at_.ar.free (by decide) hk e
  · exact owns_notMap hr h.at_.map (by rw [hk, e])
  · exact owns_types hr h.at_.row0 (by decide) hk e
  · exact owns_types hr h.at_.row1 (by decide) hk e
theorem Bk.farBlk {w : World} {bb m k : Nat} {b : BkS} {vs : Array Value} {t : TypeId} (h : Bk w bb m b) (hk : w.heap[k]? = some (.cells vs t (0, 0))) (h1 : t ≠ 130) (h2 : t ≠ 163) (h3 : t ≠ 166) (h4 : t ≠ 3) (h5 : t ≠ 58) : ¬ b.foot bb k := fun e => by
  rcases e with e | e | e | e | e
  · exact blk_apart hk h.at_.box h1 e
  · rcases e with e | e | e
    · exact blk_apart hk h.at_.ar.box h2 e
    · exact owns_type h.at_.ar.slots hk h3 e
    · exact owns_type h.at_.ar.free hk h4 e
  · exact h.at_.map.ne hk e
  · exact owns_type h.at_.row0 hk h5 e
  · exact owns_type h.at_.row1 hk h5 e

/-- both books, of a call's own -/
structure Pair (w0 w : World) (bb rb m : Nat) (b : BkS) (v : Value) (L : List Ord) : Prop where
  my : MyBk w0 w bb m b
  ref : BookIs w w0.heap.size rb v L
  err : ErrT w0
  base : w0.heap.size ≤ rb
section
variable {w0 w w' : World} {bb rb m m' : Nat} {b b' : BkS} {v v' : Value} {L L' : List Ord}
theorem Pair.errT (h : Pair w0 w bb rb m b v L) : ErrT w := h.err.below h.my.bel
theorem Pair.notRb (h : Pair w0 w bb rb m b v L) : ¬ b.foot bb rb := h.my.bk.farBlk h.ref.box (by decide) (by decide) (by decide) (by decide) (by decide)
theorem Pair.below (h : Pair w0 w bb rb m b v L) (hb : Below w.heap.size w w') : Pair w0 w' bb rb m b v L := ⟨h.my.below hb, h.ref.below hb (Nat.le_refl _), h.err, h.base⟩
theorem Pair.goes (h : Pair w0 w bb rb m b v L) (hg : Goes w w' bb m' b b') : Pair w0 w' bb rb m' b' v L :=
  ⟨h.my.goes hg, ⟨blk_out h.ref.box hg.2.1 h.notRb, owns_out h.ref.all hg.2.1 (h.my.bk.farRow h.ref.all)⟩, h.err, h.base⟩
theorem Pair.doc (h : Pair w0 w bb rb m b v L) (ho : Out (fun j => j = rb) w w') (hr : BookIs w' w0.heap.size rb v' L') : Pair w0 w' bb rb m b v' L' :=
  ⟨⟨h.my.bk.out ho (fun k hk e => h.notRb (e ▸ hk)), bel_of_out ho (fun k e => by rw [show k = rb from e]; exact h.base) h.my.bel, h.my.mine⟩, hr, h.err, h.base⟩
/-- another block of the law's stays as it is -/
theorem Pair.keepG {x : Nat} {vs : Array Value} (h : Pair w0 w bb rb m b v L) (hg : Goes w w' bb m' b b') (hx : w.heap[x]? = some (.cells vs 83 (0, 0))) : w'.heap[x]? = some (.cells vs 83 (0, 0)) :=
  blk_out hx hg.2.1 (h.my.bk.farBlk hx (by decide) (by decide) (by decide) (by decide) (by decide))
theorem Pair.keepD {x : Nat} {vs : Array Value} (h : Pair w0 w bb rb m b v L) (ho : Out (fun j => j = rb) w w') (hx : w.heap[x]? = some (.cells vs 83 (0, 0))) : w'.heap[x]? = some (.cells vs 83 (0, 0)) :=
  blk_out hx ho (blk_apart hx h.ref.box (by decide))
end

/-! 4.1, as plain functions of the document's list -/
def canO (id : Int) (L : List Ord) : Ord := if idxO id L = -1 then Ord.none_ else oAt L (idxO id L).toNat
def canN (id : Int) (L : List Ord) : Int := if idxO id L = -1 then 7 else 0
def canL (id : Int) (L : List Ord) : List Ord := if idxO id L = -1 then L else goneL (idxO id L).toNat L
def cutN (id q : Int) (L : List Ord) : Int := if idxO id L = -1 then 7 else if (decide (1 ≤ q) && decide (q ≤ (oAt L (idxO id L).toNat).qty)) = false then 2 else 0
def cutM (id q : Int) (L : List Ord) : List Ord := if idxO id L = -1 then L else if (decide (1 ≤ q) && decide (q ≤ (oAt L (idxO id L).toNat).qty)) = false then L else if (oAt L (idxO id L).toNat).qty = q then goneL (idxO id L).toNat L else L.set (idxO id L).toNat (cutO q (oAt L (idxO id L).toNat))

section
variable {w0 w : World} {bb rb m : Nat} {b : BkS} {v : Value} {L : List Ord}
theorem lnk_few {S : Nat → List Ly} {n : Nat} {rs : List Sot} {fr : List Nat} (hp : Pb n rs fr S) (hl : Lnk S L) : L.length ≤ 100 := by have := hp.most; have := hl.len; omega
theorem doc_add (h : Pair w0 w bb rb m b v L) (hL : L.length ≤ 100) (o : Ord) : Calls Tryd.prog 33 #[.pointer (some ⟨rb, 0, none⟩), o.agg] w fun e w' => e = .returned (.int .i64 (addN o L)) ∧ ∃ v', Pair w0 w' bb rb m b v' (addL o L) ∧ Out (fun j => j = rb) w w' :=
  (bkAdd w0.heap.size rb v L o w h.ref hL h.my.bel.size).mono fun _ _ ⟨he, v', hr, ho⟩ => ⟨he, v', h.doc ho hr, ho⟩
theorem doc_cancel (h : Pair w0 w bb rb m b v L) (hL : L.length ≤ 100) (id : Int) : Calls Tryd.prog 34 #[.pointer (some ⟨rb, 0, none⟩), .int .i64 id] w fun e w' => e = .returned (.tuple #[(canO id L).agg, .int .i64 (canN id L)]) ∧ ∃ v', Pair w0 w' bb rb m b v' (canL id L) ∧ Out (fun j => j = rb) w w' := by
  refine (bkCancel w0.heap.size rb v L id w h.ref hL h.my.bel.size).mono ?_
  rintro e w' ⟨ho, v', ⟨h1, rfl, hr⟩ | ⟨k, hk, h1, h2, rfl, hr⟩⟩
  · refine ⟨by unfold canO canN; rw [if_pos h1, if_pos h1], v', h.doc ho (by unfold canL; rw [if_pos h1]; exact hr), ho⟩
  · have hne : ¬ idxO id L = -1 := by omega
    have hkk : (idxO id L).toNat = k := by omega
    refine ⟨by unfold canO canN; rw [if_neg hne, if_neg hne, hkk], v', h.doc ho (by unfold canL; rw [if_neg hne, hkk]; exact hr), ho⟩
theorem doc_order (h : Pair w0 w bb rb m b v L) (hL : L.length ≤ 100) (id : Int) : Calls Tryd.prog 38 #[.pointer (some ⟨rb, 0, none⟩), .int .i64 id] w fun e w' => e = .returned (.tuple #[(canO id L).agg, .int .i64 (canN id L)]) ∧ Below w.heap.size w w' := by
  refine (bkOrder w0.heap.size rb v L id w h.ref (by omega)).mono ?_
  rintro e w' ⟨hb, ⟨h1, rfl⟩ | ⟨k, hk, h1, h2, rfl⟩⟩
  · exact ⟨by unfold canO canN; rw [if_pos h1, if_pos h1], hb⟩
  · have hne : ¬ idxO id L = -1 := by omega
    have hkk : (idxO id L).toNat = k := by omega
    exact ⟨by unfold canO canN; rw [if_neg hne, if_neg hne, hkk], hb⟩
theorem doc_cut (h : Pair w0 w bb rb m b v L) (hL : L.length ≤ 100) (hq : ∀ o ∈ L, o.qty ≤ 1000000) (id q : Int) : Calls Tryd.prog 37 #[.pointer (some ⟨rb, 0, none⟩), .int .i64 id, .int .i64 q] w fun e w' => e = .returned (.int .i64 (cutN id q L)) ∧ ∃ v', Pair w0 w' bb rb m b v' (cutM id q L) ∧ Out (fun j => j = rb) w w' := by
  have hqs : ∀ k, (oAt L k).qty ≤ 1000000 := fun k => by
    by_cases hk : k < L.length
    · exact hq _ (oAt_in hk)
    · have : oAt L k = Ord.none_ := by simp [oAt, hk]
      rw [this]; decide
  refine (bkCut w0.heap.size rb v L id q w h.ref hL h.my.bel.size hqs).mono ?_
  rintro e w' ⟨ho, v', ⟨h1, rfl, hr⟩ | ⟨k, hk, h1, h2, ⟨h3, rfl, hr⟩ | ⟨h3, rfl, hr⟩⟩⟩
  · exact ⟨by unfold cutN; rw [if_pos h1], v', h.doc ho (by unfold cutM; rw [if_pos h1]; exact hr), ho⟩
  · have hne : ¬ idxO id L = -1 := by omega
    have hkk : (idxO id L).toNat = k := by omega
    exact ⟨by unfold cutN; rw [if_neg hne, hkk, if_pos h3], v', h.doc ho (by unfold cutM; rw [if_neg hne, hkk, if_pos h3]; exact hr), ho⟩
  · have hne : ¬ idxO id L = -1 := by omega
    have hkk : (idxO id L).toNat = k := by omega
    have h3' : ¬ (decide (1 ≤ q) && decide (q ≤ (oAt L k).qty)) = false := by rw [h3]; decide
    exact ⟨by unfold cutN; rw [if_neg hne, hkk, if_neg h3'], v', h.doc ho (by unfold cutM; rw [if_neg hne, hkk, if_neg h3']; exact hr), ho⟩

/-! the program's calls: what the document's list tells -/
theorem idx_at (hl : Lnk b.S L) {s : Nat} (hs : s < 2) {x : Ly} (hx : x ∈ b.S s) : ∃ k, k < L.length ∧ idxO x.o.id L = k ∧ oAt L k = x.o := by
  rcases idxF_in x.o.id L 0 with h | ⟨k, hk, h1, h2⟩
  · have h3 : idxO x.o.id L = -1 := h
    have := hl.idx_yes hs hx
    omega
  · exact ⟨k, hk, by have : idxO x.o.id L = ((0 + k : Nat) : Int) := h1; rw [this]; congr 1; omega, hl.at hs hx hk h2⟩
theorem prog_add (h : Bk w bb m b) (hm : m + 1 ≤ 900) (hl : Lnk b.S L) (o : Ord) (hw : (Lit.int .i64 o.id).wf = true) :
    Calls Tryd.prog 32 #[.pointer (some ⟨bb, 0, none⟩), o.agg] w fun e W' => ∃ err, e = .returned err ∧ ErrVal err (addN o L) ∧ ∃ b', Lnk b'.S (addL o L) ∧ Goes w W' bb (m + 1) b b' := by
  have stay : ∀ n : Int, n ≠ 0 → addN o L = n → addL o L = L := fun n h1 h2 => by unfold addL; rw [if_neg (by rw [h2]; exact h1)]
  refine (pbAdd bb m b o w h hm hw).mono ?_
  rintro e W' (⟨h1, rfl, hg⟩ | ⟨h1, h2, h3, rfl, hg⟩ | ⟨h1, h2, h3, h4, rfl, hg⟩ | ⟨h1, h2, h3, h4, h5, rfl, hg⟩ | ⟨h1, h2, h3, h4, h5, rfl, b', s, k, a, hs, hsd, hS, hg⟩)
  · have hn : addN o L = 1 := addN_arg (by rw [← sideP_is]; exact h1)
    exact ⟨_, rfl, Or.inr (by rw [hn]), b, by rw [stay 1 (by decide) hn]; exact hl, hg⟩
  · have hn : addN o L = 2 := addN_range (by rw [← sideP_is]; exact h1) h2 h3
    exact ⟨_, rfl, Or.inr (by rw [hn]), b, by rw [stay 2 (by decide) hn]; exact hl, hg⟩
  · have hn : addN o L = 9 := by
      rw [addN_rest (by rw [← sideP_is]; exact h1) h2 h3]
      obtain ⟨s, hs, x, hx, he⟩ := h4
      rw [if_pos (by rw [← he]; exact hl.idx_yes hs hx)]
    exact ⟨_, rfl, Or.inr (by rw [hn]), b, by rw [stay 9 (by decide) hn]; exact hl, hg⟩
  · have hlen := hl.len
    have hn : addN o L = 12 := by
      rw [addN_rest (by rw [← sideP_is]; exact h1) h2 h3, hl.idx_no h4, if_neg (by decide), if_pos (by omega)]
    exact ⟨_, rfl, Or.inr (by rw [hn]), b, by rw [stay 12 (by decide) hn]; exact hl, hg⟩
  · have hlen := hl.len
    have hn : addN o L = 0 := by
      rw [addN_rest (by rw [← sideP_is]; exact h1) h2 h3, hl.idx_no h4, if_neg (by decide), if_neg (by omega)]
    obtain ⟨hp1, _⟩ : inB 1 1000000 (lieP o).price = true ∧ inB 1 1000000 (lieP o).qty = true := by simpa [rightB] using h3
    have hpr := inB_true hp1
    refine ⟨_, rfl, Or.inl ⟨rfl, hn⟩, b', ?_, hg⟩
    unfold addL
    rw [if_pos hn, hS, ← lie_same]
    exact hl.add hs (by rw [lieP_side]; exact hsd) hpr (fun y hy => by have := hl.ok h.ok y hy; omega) (by rw [lieP_id]; exact hl.none h4)
theorem prog_cancel (h : Bk w bb m b) (hm : m + 1 ≤ 900) (hl : Lnk b.S L) (id : Int) (hw : (Lit.int .i64 id).wf = true) :
    Calls Tryd.prog 35 #[.pointer (some ⟨bb, 0, none⟩), .int .i64 id] w fun e W' => ∃ err, e = .returned (.tuple #[(canO id L).agg, err]) ∧ ErrVal err (canN id L) ∧ ∃ b', Lnk b'.S (canL id L) ∧ Goes w W' bb (m + 1) b b' := by
  rcases lies_dec b.S id with ⟨s, hs, x, hx, rfl⟩ | hno
  · obtain ⟨k, hk, hi, ho⟩ := idx_at hl hs hx
    have hne : ¬ idxO x.o.id L = -1 := by omega
    have hkk : (idxO x.o.id L).toNat = k := by omega
    refine (cancel_yes bb m s b x w h hm hs hx).mono ?_
    rintro e W' ⟨rfl, b', ⟨i, hi2, hix, hS⟩, hg⟩
    refine ⟨.nilIface, by unfold canO; rw [if_neg hne, hkk, ho], Or.inl ⟨rfl, by unfold canN; rw [if_neg hne]⟩, b', ?_, hg⟩
    unfold canL
    rw [if_neg hne, hkk, hS]
    exact hl.gone h.ok hs hi2 hix hk (by rw [ho])
  · have h1 := hl.idx_no hno
    refine (cancel_no bb m b id w h hw hno).mono ?_
    rintro e W' ⟨rfl, hb⟩
    exact ⟨_, by unfold canO; rw [if_pos h1], Or.inr (by unfold canN; rw [if_pos h1]), b, by unfold canL; rw [if_pos h1]; exact hl, Goes.stay h hb (Nat.le_succ _) hm⟩
theorem prog_order (h : Bk w bb m b) (hl : Lnk b.S L) (id : Int) (hw : (Lit.int .i64 id).wf = true) :
    Calls Tryd.prog 39 #[.pointer (some ⟨bb, 0, none⟩), .int .i64 id] w fun e W' => ∃ err, e = .returned (.tuple #[(canO id L).agg, err]) ∧ ErrVal err (canN id L) ∧ Below w.heap.size w W' := by
  rcases lies_dec b.S id with ⟨s, hs, x, hx, rfl⟩ | hno
  · obtain ⟨k, hk, hi, ho⟩ := idx_at hl hs hx
    have hne : ¬ idxO x.o.id L = -1 := by omega
    have hkk : (idxO x.o.id L).toNat = k := by omega
    refine (order_yes bb m s b x w h hs hx).mono ?_
    rintro e W' ⟨rfl, hb⟩
    exact ⟨.nilIface, by unfold canO; rw [if_neg hne, hkk, ho], Or.inl ⟨rfl, by unfold canN; rw [if_neg hne]⟩, hb⟩
  · have h1 := hl.idx_no hno
    refine (order_no bb m b id w h hw hno).mono ?_
    rintro e W' ⟨rfl, hb⟩
    exact ⟨_, by unfold canO; rw [if_pos h1], Or.inr (by unfold canN; rw [if_pos h1]), hb⟩
theorem prog_cut (h : Bk w bb m b) (hm : m + 1 ≤ 900) (hl : Lnk b.S L) (id q : Int) (hw : (Lit.int .i64 id).wf = true) :
    Calls Tryd.prog 36 #[.pointer (some ⟨bb, 0, none⟩), .int .i64 id, .int .i64 q] w fun e W' => ∃ err, e = .returned err ∧ ErrVal err (cutN id q L) ∧ ∃ b', Lnk b'.S (cutM id q L) ∧ Goes w W' bb (m + 1) b b' := by
  rcases lies_dec b.S id with ⟨s, hs, x, hx, rfl⟩ | hno
  · obtain ⟨k, hk, hi, ho⟩ := idx_at hl hs hx
    have hne : ¬ idxO x.o.id L = -1 := by omega
    have hkk : (idxO x.o.id L).toNat = k := by omega
    by_cases hq : q < 1 ∨ x.o.qty < q
    · have h3 : (decide (1 ≤ q) && decide (q ≤ (oAt L k).qty)) = false := by
        rw [ho]
        rcases hq with hq | hq
        · rw [decide_eq_false (by omega)]; rfl
        · rw [decide_eq_false (p := q ≤ x.o.qty) (by omega)]; exact Bool.and_false _
      refine (cut_range bb m s b x q w h hs hx hq).mono ?_
      rintro e W' ⟨rfl, hb⟩
      exact ⟨_, rfl, Or.inr (by unfold cutN; rw [if_neg hne, hkk, if_pos h3]), b, by unfold cutM; rw [if_neg hne, hkk, if_pos h3]; exact hl, Goes.stay h hb (Nat.le_succ _) hm⟩
    · have h3 : ¬ (decide (1 ≤ q) && decide (q ≤ (oAt L k).qty)) = false := by
        rw [ho, decide_eq_true (by omega : 1 ≤ q), decide_eq_true (by omega : q ≤ x.o.qty)]; decide
      by_cases he : q = x.o.qty
      · subst he
        refine (cut_all bb m s b x w h hm hs hx (by omega)).mono ?_
        rintro e W' ⟨rfl, b', ⟨i, hi2, hix, hS⟩, hg⟩
        refine ⟨_, rfl, Or.inl ⟨rfl, by unfold cutN; rw [if_neg hne, hkk, if_neg h3]⟩, b', ?_, hg⟩
        unfold cutM
        rw [if_neg hne, hkk, if_neg h3, if_pos (by rw [ho]), hS]
        exact hl.gone h.ok hs hi2 hix hk (by rw [ho])
      · refine (cut_part bb m s b x q w h hm hs hx (by omega) (by omega)).mono ?_
        rintro e W' ⟨rfl, hg⟩
        refine ⟨_, rfl, Or.inl ⟨rfl, by unfold cutN; rw [if_neg hne, hkk, if_neg h3]⟩, _, ?_, hg⟩
        unfold cutM
        rw [if_neg hne, hkk, if_neg h3, if_neg (by rw [ho]; omega)]
        exact hl.cut h.ok hs hx hk (by rw [ho])
  · have h1 := hl.idx_no hno
    refine (cut_no bb m b id q w h hw hno).mono ?_
    rintro e W' ⟨rfl, hb⟩
    exact ⟨_, rfl, Or.inr (by unfold cutN; rw [if_pos h1]), b, by unfold cutM; rw [if_pos h1]; exact hl, Goes.stay h hb (Nat.le_succ _) hm⟩
end
end Go.Proofs.YtcpijeehgdbjbaaDoor
