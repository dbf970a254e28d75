/-
  A region that draws its order, one of whose loads reads a cell that the region's own last store writes: the load may be taken first all the same, because that store waits for it. Over any program; conditions stand in each theorem.
-/
import Derived.Test.YtjdkagafdnchhaaGreatDoorLC
import Derived.Deep.DeepCutAuto
namespace Go.Proofs.YtjdkagafdnchhaaGreatDoor
open Go.RowKit

section
variable {P : Program} {ops : Array Oper} {Q : Exit → Act → World → Prop} {md : Region.Mode} {S : World → Prop} {L : Nat → Bool}

/-- In whatever order the rest comes up; S holds behind each operation but those of L. -/
def wpAnyL (P : Program) (md : Region.Mode) (ops : Array Oper) (Q : Exit → Act → World → Prop) (S : World → Prop) (L : Nat → Bool) : Nat → Array Bool → Act → World → Prop
  | 0, listed, a, w => Region.ready md ops listed = [] ∧ Q .normal a w
  | fuel + 1, listed, a, w => (Region.ready md ops listed = [] → Q .normal a w) ∧ ∀ i ∈ Region.ready md ops listed, wpOp P ops Q i (fun a' w' => (L i = false → S w') ∧ wpAnyL P md ops Q S L fuel (listed.setIfInBounds i true) a' w') a w

theorem wpAny_of_late : ∀ (fuel : Nat) (listed : Array Bool) (a : Act) (w : World), wpAnyL P md ops Q S L fuel listed a w → wpAny P md ops Q fuel listed a w
  | 0, _, _, _, h => h
  | fuel + 1, _, _, _, h => ⟨h.1, fun i hi => wpOp_mono (fun a' w' h' => wpAny_of_late fuel _ a' w' h'.2) (h.2 i hi)⟩

/-- number j waits for number i, over at most n others -/
def waitsB (md : Region.Mode) (ops : Array Oper) : Nat → Nat → Nat → Bool
  | 0, _, _ => false
  | n + 1, j, i => match ops[j]? with
    | some o => o.after.any fun e => Region.binds md e && (e.on == i || waitsB md ops n e.on i)
    | none => false
theorem waits_spec {n j i : Nat} (h : waitsB md ops (n + 1) j i = true) : ∃ oj, ops[j]? = some oj ∧ ∃ e ∈ oj.after, Region.binds md e = true ∧ (e.on = i ∨ waitsB md ops n e.on i = true) := by
  unfold waitsB at h
  cases hj : ops[j]? with
  | none => rw [hj] at h; cases h
  | some oj =>
    rw [hj] at h
    obtain ⟨e, he, h1⟩ := Array.any_eq_true'.1 h
    simp only [Bool.and_eq_true, Bool.or_eq_true, beq_iff_eq] at h1
    exact ⟨oj, rfl, e, he, h1⟩
/-- whoever has come up, those that it waits for have come up -/
def Down (md : Region.Mode) (ops : Array Oper) (listed : Array Bool) : Prop := ∀ (j : Nat) (oj : Oper), ops[j]? = some oj → listed.getD j false = true → ∀ e ∈ oj.after, Region.binds md e = true → listed.getD e.on false = true
theorem Down.more {listed : Array Bool} {j : Nat} (h : Down md ops listed) (hj : j ∈ Region.ready md ops listed) : Down md ops (listed.setIfInBounds j true) := by
  obtain ⟨_, oj, hoj, hall⟩ := mem_ready.1 hj
  intro k ok hk hl e he hb
  apply getD_set_true
  by_cases hkj : j = k
  · subst hkj
    rw [hoj] at hk
    injection hk with hk
    subst hk
    exact hall e he hb
  · rw [getD_set_ne false hkj] at hl
    exact h k ok hk hl e he hb
theorem waits_un {listed : Array Bool} {i : Nat} (hd : Down md ops listed) (hi : listed.getD i false = false) : ∀ (n j : Nat), waitsB md ops n j i = true → listed.getD j false = false
  | 0, _, h => by cases h
  | n + 1, j, h => by
    obtain ⟨oj, hoj, e, he, hb, h1⟩ := waits_spec h
    cases hc : listed.getD j false with
    | false => rfl
    | true =>
      have h2 := hd j oj hoj hc e he hb
      rcases h1 with h1 | h1
      · rw [h1, hi] at h2; cases h2
      · rw [waits_un hd hi n _ h1] at h2; cases h2
/-- each operation of L waits for number i -/
def lateB (md : Region.Mode) (ops : Array Oper) (L : Nat → Bool) (i : Nat) : Bool := (List.range ops.size).all fun j => !L j || waitsB md ops 4 j i
theorem late_not {listed : Array Bool} {i j : Nat} (h : lateB md ops L i = true) (hd : Down md ops listed) (hi : listed.getD i false = false) (hj : j ∈ Region.ready md ops listed) : L j = false := by
  obtain ⟨_, oj, hoj, hall⟩ := mem_ready.1 hj
  have hlt := (Array.getElem?_eq_some_iff.1 hoj).1
  have h0 := List.all_eq_true.1 h j (List.mem_range.2 hlt)
  cases hL : L j with
  | false => rfl
  | true =>
    rw [hL] at h0
    obtain ⟨oj', hoj', e, he, hb, h1⟩ := waits_spec (n := 3) (by simpa using h0)
    rw [hoj] at hoj'
    injection hoj' with hoj'
    subst hoj'
    have h2 := hall e he hb
    rcases h1 with h1 | h1
    · rw [h1, hi] at h2; cases h2
    · rw [waits_un hd hi 3 _ h1] at h2; cases h2
def downB (md : Region.Mode) (ops : Array Oper) (listed : Array Bool) : Bool := (List.range ops.size).all fun j => !listed.getD j false || (match ops[j]? with | some o => o.after.all fun e => !Region.binds md e || listed.getD e.on false | none => true)
theorem down_spec {listed : Array Bool} (h : downB md ops listed = true) : Down md ops listed := fun j oj hoj hl e he hb => by
  have hlt := (Array.getElem?_eq_some_iff.1 hoj).1
  have h0 := List.all_eq_true.1 h j (List.mem_range.2 hlt)
  simp only [hl, hoj, Bool.not_true, Bool.false_or] at h0
  have h1 := Array.all_eq_true'.1 h0 e he
  simpa [hb] using h1

theorem wpAnyL_first {i : Nat} {oi : Oper} {v : Value} (hi : ops[i]? = some oi) (hsel : ∀ (j : Nat) (o : Oper) cs b, ops[j]? = some o → o.op ≠ .select cs b) (hQ : ∀ c a w, Q (.panic c) (a.put oi.dst v) w → Q (.panic c) a w) (hl : lateB md ops L i = true) :
    ∀ (fuel : Nat) (listed : Array Bool) (a : Act) (w : World),
      (∀ j oj, ops[j]? = some oj → j ≠ i → listed.getD j true = false → (∀ e ∈ oj.after, Region.binds md e = true → e.on ≠ i) → oi.apart ops oj = true) → Down md ops listed →
      i ∈ Region.ready md ops listed → YieldsIf P ops S oi v a → S w → wpAnyL P md ops Q S L fuel (listed.setIfInBounds i true) (a.put oi.dst v) w → wpAnyL P md ops Q S L (fuel + 1) listed a w := by
  intro fuel
  induction fuel with
  | zero =>
    intro listed a w _ _ hr hy hS H
    refine ⟨fun h => (by rw [h] at hr; cases hr), fun j hj => ?_⟩
    by_cases hji : j = i
    · subst hji; exact hy.wpOp hi hS ⟨fun _ => hS, H⟩
    · have := ready_mono hj hji
      rw [H.1] at this
      cases this
  | succ fuel ih =>
    intro listed a w hfree hd hr hy hS H
    refine ⟨fun h => (by rw [h] at hr; cases hr), fun j hj => ?_⟩
    by_cases hji : j = i
    · subst hji; exact hy.wpOp hi hS ⟨fun _ => hS, H⟩
    obtain ⟨hjun, oj, hoj, hall⟩ := mem_ready.1 hj
    have hun : listed.getD i true = false := (mem_ready.1 hr).1
    have hnot : ∀ e ∈ oj.after, Region.binds md e = true → e.on ≠ i := fun e he hb heq => by
      have h1 := hall e he hb
      rw [heq] at h1
      rcases Nat.lt_or_ge i listed.size with h' | h'
      · simp [h'] at hun h1; rw [hun] at h1; cases h1
      · simp [Array.getElem?_eq_none h'] at h1
    have hLj : L j = false := late_not hl hd (by
      rcases Nat.lt_or_ge i listed.size with h' | h'
      · simpa [h'] using hun
      · simp [Array.getElem?_eq_none h']) hj
    have h2 := wpOp_putIf hoj (hfree j oj hoj hji hjun hnot) (fun cs b => hsel i oi cs b hi) (fun cs b => hsel j oj cs b hoj) hQ hy (H.2 j (ready_mono hj hji))
    refine wpOp_mono (fun a' w' h3 => ⟨fun _ => h3.2.1 hLj, ih (listed.setIfInBounds j true) a' w' (fun k ok hk hki hku hno => hfree k ok hk hki (by
      by_cases hjk : j = k
      · subst hjk; exact hjun
      · rw [getD_set_ne true hjk] at hku; exact hku) hno) (hd.more hj) (ready_mono hr (Ne.symm hji)) h3.1 (h3.2.1 hLj) ?_⟩) h2
    rw [Array.setIfInBounds_comm _ _ hji]
    exact h3.2.2
theorem wpAnyL_take {i : Nat} {oi : Oper} {v : Value} {fuel : Nat} {listed : Array Bool} {a : Act} {w : World} (hi : ops[i]? = some oi) (hs : Region.noSelect ops = true) (hf : Region.free md ops listed i = true) (hr : (Region.ready md ops listed).contains i = true) (hl : lateB md ops L i = true) (hd : downB md ops listed = true)
    (hQ : ∀ c a w, Q (.panic c) (a.put oi.dst v) w → Q (.panic c) a w) (hw : Region.wanted oi (yielded ops a.tmps) = true) (hy : ∀ w, S w → (execOp a.eval oi).run P w = .ok (.value v) w) (hS : S w)
    (h : wpAnyL P md ops Q S L fuel (listed.setIfInBounds i true) (a.put oi.dst v) w) : wpAnyL P md ops Q S L (fuel + 1) listed a w :=
  wpAnyL_first hi (Region.noSelect_spec hs) hQ hl fuel listed a w (Region.free_spec hi hf) (down_spec hd) (by simpa using hr) (Or.inl ⟨hw, hy⟩) hS h
def AllReadyL (P : Program) (md : Region.Mode) (ops : Array Oper) (Q : Exit → Act → World → Prop) (S : World → Prop) (L : Nat → Bool) (fuel : Nat) (listed : Array Bool) (a : Act) (w : World) (rs : List Nat) : Prop :=
  ∀ i ∈ rs, wpOp P ops Q i (fun a' w' => (L i = false → S w') ∧ wpAnyL P md ops Q S L fuel (listed.setIfInBounds i true) a' w') a w
theorem AllReadyL.nil {fuel : Nat} {listed : Array Bool} {a : Act} {w : World} : AllReadyL P md ops Q S L fuel listed a w [] := fun _ h => by cases h
theorem AllReadyL.cons {fuel : Nat} {listed : Array Bool} {a : Act} {w : World} {i : Nat} {o : Oper} {rs : List Nat} (ho : ops[i]? = some o)
    (h : ∀ K' : Act → World → Prop, Shut (∀ a w, (L i = false → S w) → ((L i = false → S w) → wpAnyL P md ops Q S L fuel (listed.setIfInBounds i true) a w) → K' a w) → if Region.wanted o (yielded ops a.tmps) = true then Oper.wp P o a w K' Q else K' (a.put o.dst undef) w)
    (hs : AllReadyL P md ops Q S L fuel listed a w rs) : AllReadyL P md ops Q S L fuel listed a w (i :: rs) := fun j hj => by
  rcases List.mem_cons.1 hj with rfl | hj
  · exact wpOp_step ho (fun K' hK => h K' (fun a w hS hW => hK a w ⟨hS, hW hS⟩))
  · exact hs j hj
theorem wpAnyL_ready {rs : List Nat} {fuel : Nat} {listed : Array Bool} {a : Act} {w : World} (hr : Region.ready md ops listed = rs) (hne : rs ≠ []) (h : AllReadyL P md ops Q S L fuel listed a w rs) : wpAnyL P md ops Q S L (fuel + 1) listed a w :=
  ⟨fun h0 => absurd (hr ▸ h0) hne, hr ▸ h⟩
theorem wpAnyL_done {listed : Array Bool} {a : Act} {w : World} (hr : Region.ready md ops listed = []) (h : Q .normal a w) : ∀ fuel, wpAnyL P md ops Q S L fuel listed a w
  | 0 => ⟨hr, h⟩
  | _ + 1 => ⟨fun _ => h, by rw [hr]; simp⟩
theorem wp_region_late {id : Nat} {a : Act} {w : World} (S : World → Prop) (L : Nat → Bool) (hm : P.follows .mixedOrders = true) (hS : S w.drew) (h : S w.drew → wpAnyL P .any ops Q S L ops.size (Array.replicate ops.size false) a w.drew) : (Code.region id ops true).wp P Q a w :=
  wp_region_any hm (wpAny_of_late _ _ _ _ (h hS))
end
end Go.Proofs.YtjdkagafdnchhaaGreatDoor

/-
  What the program's Add does, over this seat's translation. Conditions stand in the theorem.
-/
namespace Go.Proofs.YtjdkagafdnchhaaGreatDoor
open Go.RowKit

attribute [local go_sem ↓] Go.wp_at_zero Go.wp_at_succ

/-- an order as it lies: a Market order's Price is 1 -/
def lieP (o : Ord) : Ord := if o.kind = 2 then { o with price := 1 } else o
theorem lieP_id (o : Ord) : (lieP o).id = o.id := by unfold lieP; split <;> rfl
theorem lieP_side (o : Ord) : (lieP o).side = o.side := by unfold lieP; split <;> rfl
def sideP (s : Int) : Bool := s == 1 || s == 2
/-- does an order of that number lie? -/
def Lies_ (S : Nat → List Ly) (id : Int) : Prop := ∃ s, s < 2 ∧ ∃ x ∈ S s, x.o.id = id
theorem lies_dec (S : Nat → List Ly) (id : Int) : Lies_ S id ∨ ∀ s, s < 2 → ∀ x ∈ S s, x.o.id ≠ id := by
  by_cases h : Lies_ S id
  · exact Or.inl h
  · exact Or.inr (fun s hs x hx e => h ⟨s, hs, x, hx, e⟩)

/-- what Add answers, and what becomes of the book -/
def AddPost (w W' : World) (bb m : Nat) (b : BkS) (o : Ord) (e : Ending) : Prop :=
  ((sideP o.side = false ∨ o.id < 1) ∧ e = .returned (.iface 32 (.int .i64 1)) ∧ Goes w W' bb (m + 1) b b)
  ∨ (sideP o.side = true ∧ ¬ o.id < 1 ∧ rightB (lieP o).price (lieP o).qty = false ∧ e = .returned (.iface 32 (.int .i64 2)) ∧ Goes w W' bb (m + 1) b b)
  ∨ (sideP o.side = true ∧ ¬ o.id < 1 ∧ rightB (lieP o).price (lieP o).qty = true ∧ Lies_ b.S o.id ∧ e = .returned (.iface 32 (.int .i64 9)) ∧ Goes w W' bb (m + 1) b b)
  ∨ (sideP o.side = true ∧ ¬ o.id < 1 ∧ rightB (lieP o).price (lieP o).qty = true ∧ (∀ s, s < 2 → ∀ x ∈ b.S s, x.o.id ≠ o.id) ∧ (b.S 0).length + (b.S 1).length = 100 ∧ e = .returned (.iface 32 (.int .i64 12)) ∧ Goes w W' bb (m + 1) b b)
  ∨ (sideP o.side = true ∧ ¬ o.id < 1 ∧ rightB (lieP o).price (lieP o).qty = true ∧ (∀ s, s < 2 → ∀ x ∈ b.S s, x.o.id ≠ o.id) ∧ (b.S 0).length + (b.S 1).length < 100 ∧ e = .returned .nilIface
    ∧ ∃ (b' : BkS) (s k : Nat) (a : Int), s < 2 ∧ o.side = (s : Int) + 1 ∧ b'.S = upS b.S s (insAt (rankN (lieP o) ((b.S s).map Ly.o)) ⟨k, a, lieP o⟩ (b.S s)) ∧ Goes w W' bb (m + 1) b b')

theorem insAt_perm (i : Nat) (x : Ly) (l : List Ly) : (insAt i x l).Perm (x :: l) := by
  have := List.perm_middle (a := x) (l₁ := l.take i) (l₂ := l.drop i)
  rwa [List.take_append_drop] at this
/-- the book behind an Add that was taken -/
def bkPut (b : BkS) (s k : Nat) (ag : Int) (p : Ord) (vs' vf' v' : Value) (rs1 : List Sot) (fr1 : List Nat) : BkS :=
  ⟨b.ab, b.mb, b.n + 1, vs', vf', rowV b.v0 v' s 0, rowV b.v1 v' s 1, rs1.set k (some p, ag), fr1, upS b.S s (insAt (rankN p ((b.S s).map Ly.o)) ⟨k, ag, p⟩ (b.S s))⟩
theorem put_mem {S : Nat → List Ly} {s i : Nat} {x : Ly} (t : Nat) (y : Ly) : y ∈ upS S s (insAt i x (S s)) t ↔ ((t = s ∧ y = x) ∨ y ∈ S t) := by
  by_cases e : t = s
  · subst e
    rw [upS_same, (insAt_perm i x (S t)).mem_iff]
    simp
  · rw [upS_other _ e]
    simp [e]
/-- the map is told of it: all is in order again -/
theorem add_fin {w we w7 w8 : World} {bb m s k g6 c6 : Nat} {ag : Int} {b : BkS} {p : Ord} {vs' vf' : Value} {rs1 : List Sot} {fr1 : List Nat} (h : Bk w bb m b) (hm : m + 1 ≤ 900000) (hs : s < 2) (hR : RoomO b.rs b.fr k rs1 fr1) (hag : (soAt rs1 k).2 = ag)
    (hside : p.side = (s : Int) + 1) (hid1 : ¬ p.id < 1) (hwf : (Lit.int .i64 p.id).wf = true) (hr : rightB p.price p.qty = true) (hno : ∀ t, t < 2 → ∀ x ∈ b.S t, x.o.id ≠ p.id) (hf : (b.S 0).length + (b.S 1).length < 100)
    (hO : Out (b.foot bb) w we) (hN : Went w (aoB b.ab b.vs b.vf) (aoB b.ab vs' vf')) (hg6 : (vAt b.v0 b.v1 s).ownBlock = some g6 ∨ we.heap.size ≤ g6)
    (hG : BookG w7 bb b.ab b.mb b.n vs' vf' (rowV b.v0 (.slice (some ⟨g6, 0, none⟩) (insAt (rankN p ((b.S s).map Ly.o)) ⟨k, ag, p⟩ (b.S s)).length c6) s 0) (rowV b.v1 (.slice (some ⟨g6, 0, none⟩) (insAt (rankN p ((b.S s).map Ly.o)) ⟨k, ag, p⟩ (b.S s)).length c6) s 1) (rs1.set k (some p, ag)) fr1 b.S (upS b.S s (insAt (rankN p ((b.S s).map Ly.o)) ⟨k, ag, p⟩ (b.S s))))
    (hT : Out (fun j => j = bb ∨ (vAt b.v0 b.v1 s).ownBlock = some j) we w7) (hm8 : PlMap w8 b.mb (b.n + 1) (upS b.S s (insAt (rankN p ((b.S s).map Ly.o)) ⟨k, ag, p⟩ (b.S s)))) (ho8 : Out (fun j => j = b.mb) w7 w8) :
    Goes w w8 bb (m + 1) b (bkPut b s k ag p vs' vf' (.slice (some ⟨g6, 0, none⟩) (insAt (rankN p ((b.S s).map Ly.o)) ⟨k, ag, p⟩ (b.S s)).length c6) rs1 fr1) := by
  obtain ⟨hp1, hp2⟩ : inB 1 1000000 p.price = true ∧ inB 1 1000000 p.qty = true := by simpa [rightB] using hr
  have h1 := inB_true hp1
  have h2 := inB_true hp2
  refine ⟨⟨(hG.newMap ho8 hm8).done, ?_, Nat.succ_le_succ h.small, hm⟩, ?_, ?_⟩
  · subst hag
    exact h.ok.put hR hs (insAt_perm _ _ _) hside ⟨by omega, hwf, h1.1, h1.2, h2.1, h2.2⟩ hno hf
  · refine (hO.trans (hT.mono (S' := b.foot bb) (fun j hj => ?_)) (Went.refl _ _)).trans (ho8.mono (S' := b.foot bb) (fun j hj => Or.inr (Or.inr (Or.inl hj)))) (Went.refl _ _)
    rcases hj with hj | hj
    · exact Or.inl hj
    · exact Or.inr (Or.inr (Or.inr (vAt_own hs hj)))
  · have hw := rowV_went (w := w) (v0 := b.v0) (v1 := b.v1) (v' := .slice (some ⟨g6, 0, none⟩) (insAt (rankN p ((b.S s).map Ly.o)) ⟨k, ag, p⟩ (b.S s)).length c6) hs (fun j hj => by
      have e : g6 = j := by simpa [Value.ownBlock] using hj
      subst e
      exact hg6.imp id (fun h => Nat.le_trans hO.size h))
    rintro j (hj | hj | hj | hj)
    · exact Or.inl (Or.inl hj)
    · exact (hN j hj).imp (fun h => Or.inr (Or.inl h)) id
    · exact Or.inl (Or.inr (Or.inr (Or.inl hj)))
    · exact (hw j hj).imp (fun h => Or.inr (Or.inr (Or.inr h))) id

set_option maxRecDepth 100000 in
set_option maxHeartbeats 4000000 in
theorem pbAdd (bb m : Nat) (b : BkS) (o : Ord) (w : World) (h : Bk w bb m b) (hm : m + 1 ≤ 900000) (hw : (Lit.int .i64 o.id).wf = true) :
    Calls Tryz.prog 98 #[.pointer (some ⟨bb, 0, none⟩), o.agg] w fun e W' => AddPost w W' bb m b o e := by
  have H : Hid (Bk w bb m b) := h
  have HW : Hid ((Lit.int .i64 o.id).wf = true) := hw
  clear h hw
  unfold Ord.agg
  go_enter Tryz.func98, Tryz.ntmps98
  go_wp2_with fail
  refine (isSide_any o.side _).mono ?_
  rintro e w1 ⟨rfl, hw⟩
  subst hw
  cases hs : (o.side == 1 || o.side == 2) with
  | false =>
    have HS : Hid (sideP o.side = false) := hs
    clear hs
    go_wp2_with fail
    go_ret
    exact Or.inl ⟨Or.inl HS.out, rfl, Goes.stay H.out (bel1 _ _) (Nat.le_succ _) hm⟩
  | true =>
    have HS : Hid (sideP o.side = true) := hs
    clear hs
    by_cases hid : o.id < 1
    · have hib : decide (o.id < 1) = true := decide_eq_true hid
      go_wp2_with fail
      go_ret
      exact Or.inl ⟨Or.inr hid, rfl, Goes.stay H.out (bel1 _ _) (Nat.le_succ _) hm⟩
    · have HI : Hid (¬ o.id < 1) := hid
      go_upto_if 22 with fail
      go_cut [23] (fun _ wc => Below w.heap.size w wc ∧ OrdAt wc w.heap.size (lieP o))
      case first =>
        by_cases hk : o.kind = 2
        · have hkb : (o.kind == 2) = true := beq_iff_eq.2 hk
          have HK : Hid (lieP o = { o with price := 1 }) := by show lieP o = _; unfold lieP; rw [if_pos hk]
          clear hk
          go_wp2_with fail
          go_meet
          exact ⟨bel1 _ _, by rw [HK.out]; exact heap_alloc_new w _⟩
        · have hkb : (o.kind == 2) = false := beq_eq_false_iff_ne.2 hk
          have HK : Hid (lieP o = o) := by show lieP o = _; unfold lieP; rw [if_neg hk]
          clear hk
          go_wp2_with fail
          go_meet
          exact ⟨bel1 _ _, by rw [HK.out]; exact heap_alloc_new w _⟩
      case rest =>
        obtain ⟨hb, hx⟩ := hcut
        have HPI : Hid ((lieP o).id = o.id) := lieP_id o
        have HPS : Hid ((lieP o).side = o.side) := lieP_side o
        have HP : Hid (∀ (e : Ending) (W' : World), ((sideP o.side = true ∧ ¬ o.id < 1 ∧ rightB (lieP o).price (lieP o).qty = false ∧ e = .returned (.iface 32 (.int .i64 2)) ∧ Goes w W' bb (m + 1) b b)
            ∨ (sideP o.side = true ∧ ¬ o.id < 1 ∧ rightB (lieP o).price (lieP o).qty = true ∧ Lies_ b.S o.id ∧ e = .returned (.iface 32 (.int .i64 9)) ∧ Goes w W' bb (m + 1) b b)
            ∨ (sideP o.side = true ∧ ¬ o.id < 1 ∧ rightB (lieP o).price (lieP o).qty = true ∧ (∀ s, s < 2 → ∀ x ∈ b.S s, x.o.id ≠ o.id) ∧ (b.S 0).length + (b.S 1).length = 100 ∧ e = .returned (.iface 32 (.int .i64 12)) ∧ Goes w W' bb (m + 1) b b)
            ∨ (sideP o.side = true ∧ ¬ o.id < 1 ∧ rightB (lieP o).price (lieP o).qty = true ∧ (∀ s, s < 2 → ∀ x ∈ b.S s, x.o.id ≠ o.id) ∧ (b.S 0).length + (b.S 1).length < 100 ∧ e = .returned .nilIface
              ∧ ∃ (b' : BkS) (s k : Nat) (a : Int), s < 2 ∧ o.side = (s : Int) + 1 ∧ b'.S = upS b.S s (insAt (rankN (lieP o) ((b.S s).map Ly.o)) ⟨k, a, lieP o⟩ (b.S s)) ∧ Goes w W' bb (m + 1) b b')) → AddPost w W' bb m b o e) := fun e W' h => Or.inr h
        generalize lieP o = p at hx HPI HPS HP
        have HB : Hid (Below w.heap.size w wc) := hb
        have HX : Hid (OrdAt wc w.heap.size p) := hx
        have z0 := blk_cell (j := 0) hx rfl
        have z1 := blk_cell (j := 1) hx rfl
        have z2 := blk_cell (j := 2) hx rfl
        have z3 := blk_cell (j := 3) hx rfl
        have z4 := blk_cell (j := 4) hx rfl
        clear hx hb hid
        go_wp2_with fail
        refine (Right_any p.price p.qty _).mono ?_
        rintro e w1 ⟨rfl, hb1⟩
        have HB1 : Hid (Below w.heap.size w w1) := bel_then HB.out hb1
        have HX1 : Hid (OrdAt w1 w.heap.size p) := blk_below HX.out hb1 (Nat.le_refl _)
        clear hb1 z0 z1 z2 z3 z4
        cases hr : rightB p.price p.qty with
        | false =>
          have HR : Hid (rightB p.price p.qty = false) := hr
          clear hr
          go_wp2_with fail
          go_ret
          exact HP.out _ _ (Or.inl ⟨HS.out, HI.out, HR.out, rfl, Goes.stay H.out HB1.out (Nat.le_succ _) hm⟩)
        | true =>
          have HR : Hid (rightB p.price p.qty = true) := hr
          clear hr
          go_wp2_with fail
          have HBK : Hid (Bk w1 bb m b) := H.out.below HB1.out (Nat.le_refl _)
          have m1 : w1.cell? ⟨bb, 1, none⟩ = some (.map (some b.mb)) := blk_cell (j := 1) HBK.out.at_.box rfl
          have m2 : w1.cell? ⟨w.heap.size, 0, none⟩ = some (.int .i64 p.id) := blk_cell (j := 0) HX1.out rfl
          have hwp : (Lit.int .i64 p.id).wf = true := by rw [HPI.out]; exact HW.out
          have lb : bb < w1.heap.size := HBK.out.lt (Or.inl rfl)
          have lx : w.heap.size < w1.heap.size := lt_of_block HX1.out
          rcases lies_dec b.S p.id with hl | hl
          · obtain ⟨s, hs2, x, hxs, hxe⟩ := hl
            have HL : Hid (Lies_ b.S p.id) := ⟨s, hs2, x, hxs, hxe⟩
            have HS7 : Hid (∀ w', Below w1.heap.size w1 w' → (w'.cell? ⟨bb, 1, none⟩ = some (.map (some b.mb)) ∧ w'.cell? ⟨w.heap.size, 0, none⟩ = some (.int .i64 p.id) ∧ (Instr.lookup 153 (.map (some b.mb)) (.int .i64 p.id) true).run Tryz.prog w' = .ok (.tuple #[.agg #[.int .i64 x.slot, .int .i64 x.age, .int .i64 s], .bool true]) w' ∧ Below w1.heap.size w1 w')) :=
              fun w' hb => ⟨cell_later hb m1, cell_later hb m2, by
                have := (HBK.out.below hb (Nat.le_refl _)).at_.map.yes hs2 hxs (by rw [hxe]; exact hwp)
                rwa [hxe] at this, hb⟩
            clear m1 m2 hwp hxe
            have hs0 := HS7.out w1 (Below.refl _ _)
            go_region_held3 (fun w' => w'.cell? ⟨bb, 1, none⟩ = some (.map (some b.mb)) ∧ w'.cell? ⟨w.heap.size, 0, none⟩ = some (.int .i64 p.id) ∧ (Instr.lookup 153 (.map (some b.mb)) (.int .i64 p.id) true).run Tryz.prog w' = .ok (.tuple #[.agg #[.int .i64 x.slot, .int .i64 x.age, .int .i64 s], .bool true]) w' ∧ Below w1.heap.size w1 w')
              ((refine HS7.out _ ?_; (repeat' first | assumption | exact Below.refl _ _ | exact Nat.le_refl _ | refine Below.drew ?_ | refine Below.alloc ?_ ?_ _ | (simp; done) | (simp; omega)))) (fail)
            all_goals go_wp2_with fail
            all_goals go_ret
            all_goals refine HP.out _ _ (Or.inr (Or.inl ⟨HS.out, HI.out, HR.out, HPI.out ▸ HL.out, rfl, Goes.stay H.out (bel_then HB1.out ?_) (Nat.le_succ _) hm⟩))
            all_goals (repeat' first | assumption | exact Below.refl _ _ | exact Nat.le_refl _ | refine Below.drew ?_ | refine Below.alloc ?_ ?_ _ | (simp; done) | (simp; omega))
          · have HL : Hid (∀ s, s < 2 → ∀ x ∈ b.S s, x.o.id ≠ p.id) := hl
            have HS7 : Hid (∀ w', Below w1.heap.size w1 w' → (w'.cell? ⟨bb, 1, none⟩ = some (.map (some b.mb)) ∧ w'.cell? ⟨w.heap.size, 0, none⟩ = some (.int .i64 p.id) ∧ (Instr.lookup 153 (.map (some b.mb)) (.int .i64 p.id) true).run Tryz.prog w' = .ok (.tuple #[.agg #[.int .i64 0, .int .i64 0, .int .i64 0], .bool false]) w' ∧ Below w1.heap.size w1 w')) :=
              fun w' hb => ⟨cell_later hb m1, cell_later hb m2, (HBK.out.below hb (Nat.le_refl _)).at_.map.no hl hwp, hb⟩
            clear m1 m2 hwp hl
            have hs0 := HS7.out w1 (Below.refl _ _)
            go_cut [5, 6] from 31 to 40 (fun _ p6 wc => p6 = .bool false ∧ Below w1.heap.size w1 wc)
            case first =>
              go_region_held3 (fun w' => w'.cell? ⟨bb, 1, none⟩ = some (.map (some b.mb)) ∧ w'.cell? ⟨w.heap.size, 0, none⟩ = some (.int .i64 p.id) ∧ (Instr.lookup 153 (.map (some b.mb)) (.int .i64 p.id) true).run Tryz.prog w' = .ok (.tuple #[.agg #[.int .i64 0, .int .i64 0, .int .i64 0], .bool false]) w' ∧ Below w1.heap.size w1 w')
                ((refine HS7.out _ ?_; (repeat' first | assumption | exact Below.refl _ _ | exact Nat.le_refl _ | refine Below.drew ?_ | refine Below.alloc ?_ ?_ _ | (simp; done) | (simp; omega)))) (fail)
              all_goals go_wp2_with fail
              all_goals go_meet
              all_goals refine ⟨rfl, ?_⟩
              all_goals (repeat' first | assumption | exact Below.refl _ _ | exact Nat.le_refl _ | refine Below.drew ?_ | refine Below.alloc ?_ ?_ _ | (simp; done) | (simp; omega))
            case rest =>
              obtain ⟨rfl, hb2⟩ := hcut
              have HB2 : Hid (Below w.heap.size w wc) := bel_then HB1.out hb2
              have HX2 : Hid (OrdAt wc w.heap.size p) := blk_below HX1.out hb2 (Nat.le_refl _)
              have HBK2 : Hid (Bk wc bb m b) := H.out.below HB2.out (Nat.le_refl _)
              clear hb2 hs0 HS7 HBK lb lx
              go_wp2_with fail
              have n0 : wc.cell? ⟨bb, 0, none⟩ = some (.pointer (some ⟨b.ab, 0, none⟩)) := blk_cell (j := 0) HBK2.out.at_.box rfl
              have nb : ¬ aoB b.ab b.vs b.vf bb := fun e => HBK2.out.at_.notBox e
              have nx : ¬ aoB b.ab b.vs b.vf w.heap.size := fun e => Nat.lt_irrefl _ (H.out.at_.ar.lt e)
              have HS9 : Hid (∀ w', Out (aoB b.ab b.vs b.vf) wc w' → (w'.cell? ⟨bb, 0, none⟩ = some (.pointer (some ⟨b.ab, 0, none⟩)) ∧ w'.cell? ⟨w.heap.size, 0, none⟩ = some (.int .i64 p.id) ∧ w'.cell? ⟨w.heap.size, 1, none⟩ = some (.int .i64 p.side) ∧ w'.cell? ⟨w.heap.size, 2, none⟩ = some (.int .i64 p.kind) ∧ w'.cell? ⟨w.heap.size, 3, none⟩ = some (.int .i64 p.price) ∧ w'.cell? ⟨w.heap.size, 4, none⟩ = some (.int .i64 p.qty) ∧ Out (aoB b.ab b.vs b.vf) wc w')) :=
                fun w' ho => ⟨blk_cell (j := 0) (blk_out HBK2.out.at_.box ho nb) rfl, blk_cell (j := 0) (blk_out HX2.out ho nx) rfl, blk_cell (j := 1) (blk_out HX2.out ho nx) rfl, blk_cell (j := 2) (blk_out HX2.out ho nx) rfl, blk_cell (j := 3) (blk_out HX2.out ho nx) rfl, blk_cell (j := 4) (blk_out HX2.out ho nx) rfl, ho⟩
              have hs0 := HS9.out wc (Out.refl _ _)
              have lx : w.heap.size < wc.heap.size := lt_of_block HX2.out
              have hcl : b.rs.length ≤ 1000000 := by have := H.out.ok.so.small; have := H.out.steps; omega
              have HCN : Hid (cntO b.rs + b.fr.length = b.rs.length) := H.out.ok.so.cnt
              clear n0
              by_cases hfull : (b.S 0).length + (b.S 1).length = 100
              · have HF : Hid ((b.S 0).length + (b.S 1).length = 100) := hfull
                have HC : Hid ((cntO b.rs : Int) = 100) := by show _ = _; rw [H.out.ok.cnt]; omega
                clear hfull
                go_region_held3 (fun w' => w'.cell? ⟨bb, 0, none⟩ = some (.pointer (some ⟨b.ab, 0, none⟩)) ∧ w'.cell? ⟨w.heap.size, 0, none⟩ = some (.int .i64 p.id) ∧ w'.cell? ⟨w.heap.size, 1, none⟩ = some (.int .i64 p.side) ∧ w'.cell? ⟨w.heap.size, 2, none⟩ = some (.int .i64 p.kind) ∧ w'.cell? ⟨w.heap.size, 3, none⟩ = some (.int .i64 p.price) ∧ w'.cell? ⟨w.heap.size, 4, none⟩ = some (.int .i64 p.qty) ∧ Out (aoB b.ab b.vs b.vf) wc w')
                  ((refine HS9.out _ ?_; (repeat' first | assumption | exact Out.refl _ _ | refine out_drew ?_ | refine out_alloc ?_ _ | refine out_then ?_ ho2 | refine out_setNew ?_ ?_ | (simp; done) | (simp; omega) | (have h9 := ho2.size; simp at h9 ⊢; omega))))
                  (first | (go_at_call 149; refine (oaPut_full b.ab 100 b.vs b.vf b.rs b.fr p _ (HBK2.out.at_.ar.below (B := wc.heap.size) ?_ (Nat.le_refl _)) hcl HCN.out HC.out).mono ?_; (repeat' first | assumption | exact Below.refl _ _ | exact Nat.le_refl _ | refine Below.drew ?_ | refine Below.alloc ?_ ?_ _ | (simp; done) | (simp; omega)); rintro e w2 ⟨rfl, hb2⟩; have hb1 := hb2; have ho2 := Out.of_below (S := aoB b.ab b.vs b.vf) hb2 (Nat.le_refl _); try (have hxb := (hb2.block wc.heap.size (by simp)).trans (heap_alloc_new wc _); have y0 := blk_cell (j := 0) hxb rfl; have y1 := blk_cell (j := 1) hxb rfl; have y2 := blk_free (j := 0) hxb; have y3 := blk_free (j := 1) hxb)))
                all_goals go_wp2_with fail
                all_goals go_ret
                all_goals refine HP.out _ _ (Or.inr (Or.inr (Or.inl ⟨HS.out, HI.out, HR.out, HPI.out ▸ HL.out, HF.out, rfl, Goes.stay H.out (bel_then HB2.out ?_) (Nat.le_succ _) hm⟩)))
                all_goals (repeat' first | assumption | exact Below.refl _ _ | exact Nat.le_refl _ | refine Below.drew ?_ | refine Below.alloc ?_ ?_ _ | refine bel_then ?_ hb1 | refine Below.setCell ?_ ?_ _ | (simp; done) | (simp; omega) | (have h9 := hb1.size; simp at h9 ⊢; omega))
              · have HF : Hid ((b.S 0).length + (b.S 1).length < 100) := by show _ < _; have := H.out.ok.most; omega
                have HC : Hid (¬ (cntO b.rs : Int) = 100) := by show ¬ _; rw [H.out.ok.cnt]; omega
                obtain ⟨k, rs1, fr1, hR⟩ := room_is H.out.ok.so
                obtain ⟨hk, _, _, _, _⟩ := room_none H.out.ok.so hR
                have HRM : Hid (RoomO b.rs b.fr k rs1 fr1) := hR
                clear hfull hR
                generalize hag : (soAt rs1 k).2 = ag
                have HAG : Hid ((soAt rs1 k).2 = ag) := hag
                clear hag
                go_cut [7, 8] from 43 to 51 (fun p7 p8 wd => p8 = .nilIface ∧ ∃ (hb : Nat) (vs' vf' : Value), p7 = .pointer (some ⟨hb, 0, none⟩) ∧ wc.heap.size ≤ hb ∧ wd.heap[hb]? = some (.cells #[.int .i64 k, .int .i64 ag] 169 (0, 0)) ∧ ArOr wd b.ab 100 vs' vf' (rs1.set k (some p, ag)) fr1 ∧ Out (aoB b.ab b.vs b.vf) wc wd ∧ Went wc (aoB b.ab b.vs b.vf) (aoB b.ab vs' vf'))
                case first =>
                  go_region_held3 (fun w' => w'.cell? ⟨bb, 0, none⟩ = some (.pointer (some ⟨b.ab, 0, none⟩)) ∧ w'.cell? ⟨w.heap.size, 0, none⟩ = some (.int .i64 p.id) ∧ w'.cell? ⟨w.heap.size, 1, none⟩ = some (.int .i64 p.side) ∧ w'.cell? ⟨w.heap.size, 2, none⟩ = some (.int .i64 p.kind) ∧ w'.cell? ⟨w.heap.size, 3, none⟩ = some (.int .i64 p.price) ∧ w'.cell? ⟨w.heap.size, 4, none⟩ = some (.int .i64 p.qty) ∧ Out (aoB b.ab b.vs b.vf) wc w')
                    ((refine HS9.out _ ?_; (repeat' first | assumption | exact Out.refl _ _ | refine out_drew ?_ | refine out_alloc ?_ _ | refine out_then ?_ ho2 | refine out_setNew ?_ ?_ | (simp; done) | (simp; omega) | (have h9 := ho2.size; simp at h9 ⊢; omega))))
                    (first | (go_at_call 149; refine (oaPut b.ab 100 b.vs b.vf b.rs b.fr p k rs1 fr1 _ (HBK2.out.at_.ar.below (B := wc.heap.size) ?_ (Nat.le_refl _)) hcl HCN.out HC.out HRM.out hk).mono ?_; (repeat' first | assumption | exact Below.refl _ _ | exact Nat.le_refl _ | refine Below.drew ?_ | refine Below.alloc ?_ ?_ _ | (simp; done) | (simp; omega)); rw [HAG.out]; rintro e w2 ⟨rfl, vs', vf', ha2, ho2, hw2⟩; try (have hxb := blk_out (w := (wc.alloc (.cells #[.int .i64 0, .int .i64 0] 169)).drew) (heap_alloc_new wc _) ho2 (fun e => Nat.lt_irrefl _ (HBK2.out.at_.ar.lt e)); have y0 := blk_cell (j := 0) hxb rfl; have y1 := blk_cell (j := 1) hxb rfl; have y2 := blk_free (j := 0) hxb; have y3 := blk_free (j := 1) hxb)))
                  · go_wp2_with fail
                    go_meet
                    exact ⟨rfl, w2.heap.size, vs', vf', rfl, ho2.size, heap_alloc_new w2 _, ha2.below (bel1 _ _) (Nat.le_refl _), out_alloc (out_then (out_drew (Out.refl _ wc)) ho2) _, hw2⟩
                  · go_wp2_with fail
                    go_meet
                    have s3 := (out_set w2 ⟨wc.heap.size, 0, none⟩ (.int .i64 k)).trans (out_set _ ⟨wc.heap.size, 1, none⟩ (.int .i64 ag)) (Went.refl _ _)
                    refine ⟨rfl, wc.heap.size, vs', vf', rfl, Nat.le_refl _, blk_set (j := 1) _ (blk_set (j := 0) _ hxb), ha2.out s3 (fun j hj e => ?_), out_setNew (out_setNew (out_then (out_drew (out_alloc (Out.refl _ wc) _)) ho2) (Nat.le_refl _)) (Nat.le_refl _), fun j hj => (hw2 j hj).imp id (fun h4 => by simp at h4; omega)⟩
                    have e' : j = wc.heap.size := e
                    rcases hw2 j hj with h4 | h4
                    · have := HBK2.out.at_.ar.lt h4; omega
                    · simp at h4; omega
                case rest =>
                  obtain ⟨rfl, hb, vs', vf', rfl, hbl, hh, ha, ho, hwn⟩ := hcut
                  have hx3 := blk_out HX2.out ho nx
                  have HX3 : Hid (OrdAt wc w.heap.size p) := hx3
                  have HHB : Hid (wc.heap[hb]? = some (.cells #[.int .i64 k, .int .i64 ag] 169 (0, 0))) := hh
                  have HBK3 : Hid (BookAt wc bb b.ab b.mb b.n vs' vf' b.v0 b.v1 (rs1.set k (some p, ag)) fr1 b.S) := HBK2.out.at_.newAr ho ha
                  have HO3 : Hid (Out (b.foot bb) w wc) := (Out.of_below HB2.out (Nat.le_refl _)).trans (ho.mono (S' := b.foot bb) (fun j hj => Or.inr (Or.inl hj))) (Went.refl _ _)
                  have HN3 : Hid (Went w (aoB b.ab b.vs b.vf) (aoB b.ab vs' vf')) := fun j hj => (hwn j hj).imp id (fun h4 => Nat.le_trans HB2.out.size h4)
                  have HLH : Hid (w.heap.size + 1 ≤ hb) := Nat.le_trans lx hbl
                  clear ho hwn hbl hs0 nb nx HS9 HC hcl HCN lx HX2 HB2 HBK2
                  obtain ⟨s, hs2, hps⟩ : ∃ s : Nat, s < 2 ∧ p.side = (s : Int) + 1 := by
                    have h1 := HS.out
                    rw [← HPS.out] at h1
                    unfold sideP at h1
                    simp only [Bool.or_eq_true, beq_iff_eq] at h1
                    rcases h1 with h1 | h1
                    · exact ⟨0, by decide, by rw [h1]; rfl⟩
                    · exact ⟨1, by decide, by rw [h1]; rfl⟩
                  have hsub : IntKind.i64.wrap (p.side - 1) = (s : Int) := by rw [hps, show (s : Int) + 1 - 1 = s by omega]; exact IntWalk.i64_in _ (by omega)
                  have HPSS : Hid (p.side = (s : Int) + 1) := hps
                  have z0 := blk_cell (j := 0) hh rfl
                  have z1 := blk_cell (j := 1) hh rfl
                  have z2 := blk_cell (j := 1) hx3 rfl
                  clear hps hh hx3 ha
                  go_upto_region 14 with fail
                  have hbe := bel1 wc (.cells #[.int .i64 k, .int .i64 ag, .int .i64 s] 171)
                  have hpb := heap_alloc_new wc (.cells #[.int .i64 k, .int .i64 ag, .int .i64 s] 171)
                  have hlp : w.heap.size ≤ wc.heap.size := HO3.out.size
                  generalize wc.alloc (.cells #[.int .i64 k, .int .i64 ag, .int .i64 s] 171) = we at hbe hpb ⊢
                  have HX4 : Hid (OrdAt we w.heap.size p) := blk_below HX3.out hbe (Nat.le_refl _)
                  have HHB4 : Hid (we.heap[hb]? = some (.cells #[.int .i64 k, .int .i64 ag] 169 (0, 0))) := blk_below HHB.out hbe (Nat.le_refl _)
                  have HBK4 : Hid (BookAt we bb b.ab b.mb b.n vs' vf' b.v0 b.v1 (rs1.set k (some p, ag)) fr1 b.S) := HBK3.out.below hbe (Nat.le_refl _)
                  have HO4 : Hid (Out (b.foot bb) w we) := HO3.out.trans (Out.of_below hbe (Nat.le_refl _)) (Went.refl _ _)
                  generalize wc.heap.size = pb at hpb hlp ⊢
                  have HPB : Hid (we.heap[pb]? = some (.cells #[.int .i64 k, .int .i64 ag, .int .i64 s] 171 (0, 0))) := hpb
                  clear hbe hpb HX3 HHB HBK3 HO3 z0 z1 z2
                  have hol : ∀ j, (vAt b.v0 b.v1 s).ownBlock = some j → j < w.heap.size := fun j hj => H.out.lt (Or.inr (Or.inr (Or.inr (vAt_own hs2 hj))))
                  have nT : ∀ {j : Nat} {vs : Array Value} {t : TypeId}, we.heap[j]? = some (.cells vs t (0, 0)) → w.heap.size ≤ j → ¬ ((vAt b.v0 b.v1 s).ownBlock = some j) := fun {j vs t} hj hl e => by
                    have := hol _ e; omega
                  have HS14 : Hid (∀ w', Out (fun j => (vAt b.v0 b.v1 s).ownBlock = some j) we w' → (w'.cell? ⟨pb, 2, none⟩ = some (.int .i64 s) ∧ w'.cell? ⟨w.heap.size, 0, none⟩ = some (.int .i64 p.id) ∧ w'.cell? ⟨w.heap.size, 1, none⟩ = some (.int .i64 p.side) ∧ w'.cell? ⟨w.heap.size, 2, none⟩ = some (.int .i64 p.kind) ∧ w'.cell? ⟨w.heap.size, 3, none⟩ = some (.int .i64 p.price) ∧ w'.cell? ⟨w.heap.size, 4, none⟩ = some (.int .i64 p.qty) ∧ w'.cell? ⟨hb, 0, none⟩ = some (.int .i64 k) ∧ w'.cell? ⟨hb, 1, none⟩ = some (.int .i64 ag) ∧ w'.cell? ⟨bb, 2 + s, none⟩ = some (vAt b.v0 b.v1 s) ∧ Out (fun j => (vAt b.v0 b.v1 s).ownBlock = some j) we w')) := fun w' ho => by
                    have g1 := blk_out HPB.out ho (nT HPB.out hlp)
                    have g2 := blk_out HX4.out ho (nT HX4.out (Nat.le_refl _))
                    have g3 := blk_out HHB4.out ho (nT HHB4.out (by have := HLH.out; omega))
                    have g4 := blk_out HBK4.out.box ho (HBK4.out.mid.rowNotBox hs2)
                    exact ⟨blk_cell (j := 2) g1 rfl, blk_cell (j := 0) g2 rfl, blk_cell (j := 1) g2 rfl, blk_cell (j := 2) g2 rfl, blk_cell (j := 3) g2 rfl, blk_cell (j := 4) g2 rfl, blk_cell (j := 0) g3 rfl, blk_cell (j := 1) g3 rfl, (box_cell g4 hs2).1, ho⟩
                  have HTH : Hid (∀ x ∈ b.S s, soAt (rs1.set k (some p, ag)) x.slot = (some x.o, x.age)) := fun x hx => by
                    obtain ⟨h1, h2⟩ := (room_none H.out.ok.so HRM.out).2.2.1 _ _ _ (H.out.ok.there s hs2 x hx)
                    rw [soAt_set_other _ (Ne.symm h1)]; exact h2
                  have hln : (b.S s).length ≤ 1000 := by
                    have h1 := (pb_len b.S [] hs2).2
                    have h2 := H.out.ok.most
                    omega
                  have hrk : rankN p ((b.S s).map Ly.o) ≤ (b.S s).length := by
                    have := rankN_le p ((b.S s).map Ly.o)
                    simpa using this
                  have q1 : (0 : Int) ≤ (s : Int) := by omega
                  have q2 : (s : Int) < 2 := by omega
                  clear nT
                  refine wp_region_late (fun w' => w'.cell? ⟨pb, 2, none⟩ = some (.int .i64 s) ∧ w'.cell? ⟨w.heap.size, 0, none⟩ = some (.int .i64 p.id) ∧ w'.cell? ⟨w.heap.size, 1, none⟩ = some (.int .i64 p.side) ∧ w'.cell? ⟨w.heap.size, 2, none⟩ = some (.int .i64 p.kind) ∧ w'.cell? ⟨w.heap.size, 3, none⟩ = some (.int .i64 p.price) ∧ w'.cell? ⟨w.heap.size, 4, none⟩ = some (.int .i64 p.qty) ∧ w'.cell? ⟨hb, 0, none⟩ = some (.int .i64 k) ∧ w'.cell? ⟨hb, 1, none⟩ = some (.int .i64 ag) ∧ w'.cell? ⟨bb, 2 + s, none⟩ = some (vAt b.v0 b.v1 s) ∧ Out (fun j => (vAt b.v0 b.v1 s).ownBlock = some j) we w') (fun i => i == 21) (by kernel_rfl) (HS14.out _ (out_drew (Out.refl _ _))) (fun hHeld => ?_)
                  refine wpAnyL_take (i := 0) (v := ?_) rfl (by kernel_rfl) (by kernel_rfl) (by kernel_rfl) (by kernel_rfl) (by kernel_rfl) (fun _ _ _ h => h) (by rfl) ?_ (by assumption) ?_
                  rotate_left
                  · intro w hSw
                    try dsimp only at hSw
                    go_simp
                    try rfl
                  refine wpAnyL_take (i := 1) (v := ?_) rfl (by kernel_rfl) (by kernel_rfl) (by kernel_rfl) (by kernel_rfl) (by kernel_rfl) (fun _ _ _ h => h) (by rfl) ?_ (by assumption) ?_
                  rotate_left
                  · intro w hSw
                    try dsimp only at hSw
                    go_simp
                    try rfl
                  refine wpAnyL_take (i := 2) (v := ?_) rfl (by kernel_rfl) (by kernel_rfl) (by kernel_rfl) (by kernel_rfl) (by kernel_rfl) (fun _ _ _ h => h) (by rfl) ?_ (by assumption) ?_
                  rotate_left
                  · intro w hSw
                    try dsimp only at hSw
                    go_simp
                    try rfl
                  refine wpAnyL_take (i := 3) (v := ?_) rfl (by kernel_rfl) (by kernel_rfl) (by kernel_rfl) (by kernel_rfl) (by kernel_rfl) (fun _ _ _ h => h) (by rfl) ?_ (by assumption) ?_
                  rotate_left
                  · intro w hSw
                    try dsimp only at hSw
                    go_simp
                    try rfl
                  refine wpAnyL_take (i := 4) (v := ?_) rfl (by kernel_rfl) (by kernel_rfl) (by kernel_rfl) (by kernel_rfl) (by kernel_rfl) (fun _ _ _ h => h) (by rfl) ?_ (by assumption) ?_
                  rotate_left
                  · intro w hSw
                    try dsimp only at hSw
                    go_simp
                    try rfl
                  refine wpAnyL_take (i := 5) (v := ?_) rfl (by kernel_rfl) (by kernel_rfl) (by kernel_rfl) (by kernel_rfl) (by kernel_rfl) (fun _ _ _ h => h) (by rfl) ?_ (by assumption) ?_
                  rotate_left
                  · intro w hSw
                    try dsimp only at hSw
                    go_simp
                    try rfl
                  refine wpAnyL_take (i := 6) (v := ?_) rfl (by kernel_rfl) (by kernel_rfl) (by kernel_rfl) (by kernel_rfl) (by kernel_rfl) (fun _ _ _ h => h) (by rfl) ?_ (by assumption) ?_
                  rotate_left
                  · intro w hSw
                    try dsimp only at hSw
                    go_simp
                    try rfl
                  refine wpAnyL_take (i := 7) (v := ?_) rfl (by kernel_rfl) (by kernel_rfl) (by kernel_rfl) (by kernel_rfl) (by kernel_rfl) (fun _ _ _ h => h) (by rfl) ?_ (by assumption) ?_
                  rotate_left
                  · intro w hSw
                    try dsimp only at hSw
                    go_simp
                    try rfl
                  refine wpAnyL_take (i := 8) (v := ?_) rfl (by kernel_rfl) (by kernel_rfl) (by kernel_rfl) (by kernel_rfl) (by kernel_rfl) (fun _ _ _ h => h) (by rfl) ?_ (by assumption) ?_
                  rotate_left
                  · intro w hSw
                    try dsimp only at hSw
                    go_simp
                    try rfl
                  refine wpAnyL_take (i := 9) (v := ?_) rfl (by kernel_rfl) (by kernel_rfl) (by kernel_rfl) (by kernel_rfl) (by kernel_rfl) (fun _ _ _ h => h) (by rfl) ?_ (by assumption) ?_
                  rotate_left
                  · intro w hSw
                    try dsimp only at hSw
                    go_simp
                    try rfl
                  refine wpAnyL_take (i := 10) (v := ?_) rfl (by kernel_rfl) (by kernel_rfl) (by kernel_rfl) (by kernel_rfl) (by kernel_rfl) (fun _ _ _ h => h) (by rfl) ?_ (by assumption) ?_
                  rotate_left
                  · intro w hSw
                    try dsimp only at hSw
                    go_simp
                    try rfl
                  refine wpAnyL_take (i := 11) (v := ?_) rfl (by kernel_rfl) (by kernel_rfl) (by kernel_rfl) (by kernel_rfl) (by kernel_rfl) (fun _ _ _ h => h) (by rfl) ?_ (by assumption) ?_
                  rotate_left
                  · intro w hSw
                    try dsimp only at hSw
                    go_simp
                    try rfl
                  refine wpAnyL_take (i := 12) (v := ?_) rfl (by kernel_rfl) (by kernel_rfl) (by kernel_rfl) (by kernel_rfl) (by kernel_rfl) (fun _ _ _ h => h) (by rfl) ?_ (by assumption) ?_
                  rotate_left
                  · intro w hSw
                    try dsimp only at hSw
                    go_simp
                    try rfl
                  refine wpAnyL_take (i := 13) (v := ?_) rfl (by kernel_rfl) (by kernel_rfl) (by kernel_rfl) (by kernel_rfl) (by kernel_rfl) (fun _ _ _ h => h) (by rfl) ?_ (by assumption) ?_
                  rotate_left
                  · intro w hSw
                    try dsimp only at hSw
                    go_simp
                    try rfl
                  refine wpAnyL_take (i := 15) (v := ?_) rfl (by kernel_rfl) (by kernel_rfl) (by kernel_rfl) (by kernel_rfl) (by kernel_rfl) (fun _ _ _ h => h) (by rfl) ?_ (by assumption) ?_
                  rotate_left
                  · intro w hSw
                    try dsimp only at hSw
                    go_simp
                    try rfl
                  refine wpAnyL_take (i := 18) (v := ?_) rfl (by kernel_rfl) (by kernel_rfl) (by kernel_rfl) (by kernel_rfl) (by kernel_rfl) (fun _ _ _ h => h) (by rfl) ?_ (by assumption) ?_
                  rotate_left
                  · intro w hSw
                    try dsimp only at hSw
                    go_simp
                    try rfl
                  refine wpAnyL_take (i := 19) (v := ?_) rfl (by kernel_rfl) (by kernel_rfl) (by kernel_rfl) (by kernel_rfl) (by kernel_rfl) (fun _ _ _ h => h) (by rfl) ?_ (by assumption) ?_
                  rotate_left
                  · intro w hSw
                    try dsimp only at hSw
                    go_simp
                    try rfl
                  refine wpAnyL_ready (rs := [14, 16]) (by kernel_rfl) (by simp) ?_
                  refine AllReadyL.cons rfl (fun K hK => ?_) (AllReadyL.cons rfl (fun K hK => ?_) AllReadyL.nil)
                  · go_simp
                    refine (rank_at bb b.ab b.mb b.n s vs' vf' b.v0 b.v1 (rs1.set k (some p, ag)) fr1 b.S p we _ hs2 hln HTH.out HBK4.out (Below.refl _ _).drew).mono ?_
                    rintro e w5 ⟨rfl, hb5, hb1, e5, l5⟩
                    dsimp only
                    refine hK.out _ _ (fun _ => HS14.out _ (Out.of_below hb1 (Nat.le_refl _))) (fun hHeld => ?_)
                    replace hHeld := hHeld rfl
                    clear hK K
                    refine wpAnyL_ready (rs := [16]) (by kernel_rfl) (by simp) ?_
                    refine AllReadyL.cons rfl (fun K hK => ?_) AllReadyL.nil
                    go_simp
                    refine hK.out _ _ (fun _ => HS14.out _ (out_alloc (Out.of_below hb1 (Nat.le_refl _)) _)) (fun hHeld => ?_)
                    replace hHeld := hHeld rfl
                    clear hK K
                    have hbw : Below we.heap.size we (w5.alloc (.cells #[.int .i64 k, .int .i64 ag] 169)) := bel_then hb1 (bel1 _ _)
                    have hvb := heap_alloc_new w5 (.cells #[.int .i64 k, .int .i64 ag] 169)
                    have hvl : we.heap.size ≤ w5.heap.size := hb1.size
                    refine wpAnyL_ready (rs := [17]) (by kernel_rfl) (by simp) ?_
                    refine AllReadyL.cons rfl (fun K hK => ?_) AllReadyL.nil
                    go_simp
                    refine (insert_at _ _ bb b.ab b.mb b.n s vs' vf' b.v0 b.v1 (rs1.set k (some p, ag)) fr1 b.S ⟨k, ag, p⟩ we _ hs2 hln hrk HBK4.out hbw hvb hvl).mono ?_
                    rintro e w6 ⟨g6, c6, rfl, hr6, ho6, hg6, hoI, e6, f6⟩
                    dsimp only
                    refine hK.out _ _ (fun _ => HS14.out _ ho6) (fun hHeld => ?_)
                    replace hHeld := hHeld rfl
                    clear hK K
                    refine wpAnyL_ready (rs := [20]) (by kernel_rfl) (by simp) ?_
                    refine AllReadyL.cons rfl (fun K hK => ?_) AllReadyL.nil
                    go_simp
                    refine hK.out _ _ (fun _ => HS14.out _ ho6) (fun hHeld => ?_)
                    replace hHeld := hHeld rfl
                    clear hK K
                    refine wpAnyL_ready (rs := [21]) (by kernel_rfl) (by simp) ?_
                    refine AllReadyL.cons rfl (fun K hK => ?_) AllReadyL.nil
                    go_simp
                    refine hK.out _ _ (fun h => by cases h) (fun _ => ?_)
                    refine wpAnyL_done (by kernel_rfl) ?_ _
                    go_wp2_with fail
                    obtain ⟨hG, hT⟩ := HBK4.out.mid.newRow hs2 hr6 ho6 hg6
                    generalize w6.setCell ⟨bb, 2 + s, none⟩ (.slice (some ⟨g6, 0, none⟩) (insAt (rankN p ((b.S s).map Ly.o)) ⟨k, ag, p⟩ (b.S s)).length c6) = w7 at hG hT ⊢
                    obtain ⟨w8, hrun, hm8, ho8⟩ := (hG.map.same (w' := w7.drew) rfl).put (x := ⟨k, ag, p⟩) (S' := upS b.S s (insAt (rankN p ((b.S s).map Ly.o)) ⟨k, ag, p⟩ (b.S s))) hs2 (by show (Lit.int .i64 p.id).wf = true; rw [HPI.out]; exact HW.out) (by have := H.out.small; omega) HL.out (fun t _ y => put_mem t y)
                    have HFIN : Hid (Goes w w8 bb (m + 1) b (bkPut b s k ag p vs' vf' (.slice (some ⟨g6, 0, none⟩) (insAt (rankN p ((b.S s).map Ly.o)) ⟨k, ag, p⟩ (b.S s)).length c6) rs1 fr1)) := add_fin H.out hm hs2 HRM.out HAG.out HPSS.out (by rw [HPI.out]; have := HI.out; omega) (by rw [HPI.out]; exact HW.out) HR.out HL.out HF.out HO4.out HN3.out hg6 hG hT hm8 (out_then (out_drew (Out.refl _ _)) ho8)
                    have nT : ∀ {j : Nat} {vs : Array Value} {t : TypeId}, we.heap[j]? = some (.cells vs t (0, 0)) → t ≠ 157 → w.heap.size ≤ j → ¬ (j = bb ∨ (vAt b.v0 b.v1 s).ownBlock = some j) := fun {j vs t} hj ht hl e => by
                      rcases e with e | e
                      · exact blk_ne hj HBK4.out.box ht e
                      · have := hol _ e; omega
                    have g1 := blk_out HPB.out hT (nT HPB.out (by decide) hlp)
                    have g2 := blk_out HX4.out hT (nT HX4.out (by decide) (Nat.le_refl _))
                    have HS15 : Hid (∀ w', Out (fun j => j = b.mb) w7 w' → (w'.cell? ⟨bb, 1, none⟩ = some (.map (some b.mb)) ∧ w'.cell? ⟨w.heap.size, 0, none⟩ = some (.int .i64 p.id) ∧ w'.cell? ⟨pb, 0, none⟩ = some (.int .i64 k) ∧ w'.cell? ⟨pb, 1, none⟩ = some (.int .i64 ag) ∧ w'.cell? ⟨pb, 2, none⟩ = some (.int .i64 s) ∧ Out (fun j => j = b.mb) w7 w')) := fun w' ho =>
                      ⟨blk_cell (j := 1) (blk_out hG.box ho (hG.map.ne hG.box)) rfl, blk_cell (j := 0) (blk_out g2 ho (hG.map.ne g2)) rfl, blk_cell (j := 0) (blk_out g1 ho (hG.map.ne g1)) rfl, blk_cell (j := 1) (blk_out g1 ho (hG.map.ne g1)) rfl, blk_cell (j := 2) (blk_out g1 ho (hG.map.ne g1)) rfl, ho⟩
                    have hs0 := HS15.out w7 (Out.refl _ _)
                    have ho2 : Out (fun j => j = b.mb) w7 w8 := out_then (out_drew (Out.refl _ _)) ho8
                    clear hG hT hm8 nT g1 g2 hr6 ho6 hg6 hoI e6 f6 hvb hHeld
                    go_region_held3 (fun w' => w'.cell? ⟨bb, 1, none⟩ = some (.map (some b.mb)) ∧ w'.cell? ⟨w.heap.size, 0, none⟩ = some (.int .i64 p.id) ∧ w'.cell? ⟨pb, 0, none⟩ = some (.int .i64 k) ∧ w'.cell? ⟨pb, 1, none⟩ = some (.int .i64 ag) ∧ w'.cell? ⟨pb, 2, none⟩ = some (.int .i64 s) ∧ Out (fun j => j = b.mb) w7 w')
                      ((refine HS15.out _ ?_; first | assumption | exact out_drew (Out.refl _ _))) (fail)
                    go_wp2_with fail
                    go_ret
                    exact HP.out _ _ (Or.inr (Or.inr (Or.inr ⟨HS.out, HI.out, HR.out, (fun t ht x hx => HPI.out ▸ HL.out t ht x hx), HF.out, rfl, _, s, k, ag, hs2, by rw [← HPS.out]; exact HPSS.out, rfl, HFIN.out⟩)))
                  · go_simp
                    refine hK.out _ _ (fun _ => HS14.out _ (out_drew (out_alloc (Out.refl _ _) _))) (fun hHeld => ?_)
                    replace hHeld := hHeld rfl
                    clear hK K
                    refine wpAnyL_ready (rs := [14]) (by kernel_rfl) (by simp) ?_
                    refine AllReadyL.cons rfl (fun K hK => ?_) AllReadyL.nil
                    go_simp
                    refine (rank_at bb b.ab b.mb b.n s vs' vf' b.v0 b.v1 (rs1.set k (some p, ag)) fr1 b.S p we _ hs2 hln HTH.out HBK4.out (bel1 _ _).drew).mono ?_
                    rintro e w5 ⟨rfl, hb5, hb1, e5, l5⟩
                    dsimp only
                    refine hK.out _ _ (fun _ => HS14.out _ (Out.of_below hb1 (Nat.le_refl _))) (fun hHeld => ?_)
                    replace hHeld := hHeld rfl
                    clear hK K
                    have hbw : Below we.heap.size we w5 := hb1
                    have hvb := (hb5.block we.heap.size (by simp)).trans (heap_alloc_new we (.cells #[.int .i64 k, .int .i64 ag] 169))
                    have hvl : we.heap.size ≤ we.heap.size := Nat.le_refl _
                    refine wpAnyL_ready (rs := [17]) (by kernel_rfl) (by simp) ?_
                    refine AllReadyL.cons rfl (fun K hK => ?_) AllReadyL.nil
                    go_simp
                    refine (insert_at _ _ bb b.ab b.mb b.n s vs' vf' b.v0 b.v1 (rs1.set k (some p, ag)) fr1 b.S ⟨k, ag, p⟩ we _ hs2 hln hrk HBK4.out hbw hvb hvl).mono ?_
                    rintro e w6 ⟨g6, c6, rfl, hr6, ho6, hg6, hoI, e6, f6⟩
                    dsimp only
                    refine hK.out _ _ (fun _ => HS14.out _ ho6) (fun hHeld => ?_)
                    replace hHeld := hHeld rfl
                    clear hK K
                    refine wpAnyL_ready (rs := [20]) (by kernel_rfl) (by simp) ?_
                    refine AllReadyL.cons rfl (fun K hK => ?_) AllReadyL.nil
                    go_simp
                    refine hK.out _ _ (fun _ => HS14.out _ ho6) (fun hHeld => ?_)
                    replace hHeld := hHeld rfl
                    clear hK K
                    refine wpAnyL_ready (rs := [21]) (by kernel_rfl) (by simp) ?_
                    refine AllReadyL.cons rfl (fun K hK => ?_) AllReadyL.nil
                    go_simp
                    refine hK.out _ _ (fun h => by cases h) (fun _ => ?_)
                    refine wpAnyL_done (by kernel_rfl) ?_ _
                    go_wp2_with fail
                    obtain ⟨hG, hT⟩ := HBK4.out.mid.newRow hs2 hr6 ho6 hg6
                    generalize w6.setCell ⟨bb, 2 + s, none⟩ (.slice (some ⟨g6, 0, none⟩) (insAt (rankN p ((b.S s).map Ly.o)) ⟨k, ag, p⟩ (b.S s)).length c6) = w7 at hG hT ⊢
                    obtain ⟨w8, hrun, hm8, ho8⟩ := (hG.map.same (w' := w7.drew) rfl).put (x := ⟨k, ag, p⟩) (S' := upS b.S s (insAt (rankN p ((b.S s).map Ly.o)) ⟨k, ag, p⟩ (b.S s))) hs2 (by show (Lit.int .i64 p.id).wf = true; rw [HPI.out]; exact HW.out) (by have := H.out.small; omega) HL.out (fun t _ y => put_mem t y)
                    have HFIN : Hid (Goes w w8 bb (m + 1) b (bkPut b s k ag p vs' vf' (.slice (some ⟨g6, 0, none⟩) (insAt (rankN p ((b.S s).map Ly.o)) ⟨k, ag, p⟩ (b.S s)).length c6) rs1 fr1)) := add_fin H.out hm hs2 HRM.out HAG.out HPSS.out (by rw [HPI.out]; have := HI.out; omega) (by rw [HPI.out]; exact HW.out) HR.out HL.out HF.out HO4.out HN3.out hg6 hG hT hm8 (out_then (out_drew (Out.refl _ _)) ho8)
                    have nT : ∀ {j : Nat} {vs : Array Value} {t : TypeId}, we.heap[j]? = some (.cells vs t (0, 0)) → t ≠ 157 → w.heap.size ≤ j → ¬ (j = bb ∨ (vAt b.v0 b.v1 s).ownBlock = some j) := fun {j vs t} hj ht hl e => by
                      rcases e with e | e
                      · exact blk_ne hj HBK4.out.box ht e
                      · have := hol _ e; omega
                    have g1 := blk_out HPB.out hT (nT HPB.out (by decide) hlp)
                    have g2 := blk_out HX4.out hT (nT HX4.out (by decide) (Nat.le_refl _))
                    have HS15 : Hid (∀ w', Out (fun j => j = b.mb) w7 w' → (w'.cell? ⟨bb, 1, none⟩ = some (.map (some b.mb)) ∧ w'.cell? ⟨w.heap.size, 0, none⟩ = some (.int .i64 p.id) ∧ w'.cell? ⟨pb, 0, none⟩ = some (.int .i64 k) ∧ w'.cell? ⟨pb, 1, none⟩ = some (.int .i64 ag) ∧ w'.cell? ⟨pb, 2, none⟩ = some (.int .i64 s) ∧ Out (fun j => j = b.mb) w7 w')) := fun w' ho =>
                      ⟨blk_cell (j := 1) (blk_out hG.box ho (hG.map.ne hG.box)) rfl, blk_cell (j := 0) (blk_out g2 ho (hG.map.ne g2)) rfl, blk_cell (j := 0) (blk_out g1 ho (hG.map.ne g1)) rfl, blk_cell (j := 1) (blk_out g1 ho (hG.map.ne g1)) rfl, blk_cell (j := 2) (blk_out g1 ho (hG.map.ne g1)) rfl, ho⟩
                    have hs0 := HS15.out w7 (Out.refl _ _)
                    have ho2 : Out (fun j => j = b.mb) w7 w8 := out_then (out_drew (Out.refl _ _)) ho8
                    clear hG hT hm8 nT g1 g2 hr6 ho6 hg6 hoI e6 f6 hvb hHeld
                    go_region_held3 (fun w' => w'.cell? ⟨bb, 1, none⟩ = some (.map (some b.mb)) ∧ w'.cell? ⟨w.heap.size, 0, none⟩ = some (.int .i64 p.id) ∧ w'.cell? ⟨pb, 0, none⟩ = some (.int .i64 k) ∧ w'.cell? ⟨pb, 1, none⟩ = some (.int .i64 ag) ∧ w'.cell? ⟨pb, 2, none⟩ = some (.int .i64 s) ∧ Out (fun j => j = b.mb) w7 w')
                      ((refine HS15.out _ ?_; first | assumption | exact out_drew (Out.refl _ _))) (fail)
                    go_wp2_with fail
                    go_ret
                    exact HP.out _ _ (Or.inr (Or.inr (Or.inr ⟨HS.out, HI.out, HR.out, (fun t ht x hx => HPI.out ▸ HL.out t ht x hx), HF.out, rfl, _, s, k, ag, hs2, by rw [← HPS.out]; exact HPSS.out, rfl, HFIN.out⟩)))
end Go.Proofs.YtjdkagafdnchhaaGreatDoor
