/-
  What the program's Phase, Now, Refs, Side, Halt and gather (chapter 9) do, over this seat's translation. Conditions stand in each theorem: where the engine lies.
-/
import Derived.Test.YtjdkagafdnchhaaGreatDoorLJ
import Derived.BigRegion
import Derived.Test.YtjdkagafdnchhaaGreatDoorLA
import Derived.Test.YtjdkagafdnchhaaGreatDoorLF
import Derived.Test.YtjdkagafdnchhaaGreatDoorLH
import Derived.Test.YtjdkagafdnchhaaGreatDoorLG
import Derived.Deep.Upon
import Derived.Sort.OwnSortedInts
import Derived.Maps.AppendAt
import Derived.Deep.Onto
import Derived.Maps.OwnSet
import Derived.Maps.RangeWalk
import Derived.Lib.SlKeysI
import Derived.Shelf.Sort.Plain
import Derived.Shelf.Slices.In.SortNone2
import Derived.Test.YtjdkagafdnchhaaGreatDoorRows
import Derived.Shelf.SlIterI.Sorted
namespace Go.Proofs.YtjdkagafdnchhaaGreatDoor
open Go.RowKit
set_option linter.unusedSimpArgs false

/-- an error of the program's, and its number: none is nil -/
def ErrE (err : Value) (n : Int) : Prop := (err = .nilIface ∧ n = 0) ∨ (err = .iface 32 (.int .i64 n) ∧ n ≠ 0)
theorem ErrE.yes {n : Int} (h : n = 0) : ErrE .nilIface n := Or.inl ⟨rfl, h⟩
theorem ErrE.no {n : Int} (v : Int) (h : n = v) (hv : v ≠ 0) : ErrE (.iface 32 (.int .i64 v)) n := Or.inr ⟨by rw [h], by rw [h]; exact hv⟩
theorem egPhase (eb : Nat) (k : EgK) (M : Mkt) (w : World) (h : Eg w eb k M) :
    Calls Tryz.prog 23 #[.pointer (some ⟨eb, 0, none⟩)] w fun e w' => e = .returned (.int .i64 M.ph) ∧ w' = w := by
  have c5 : w.cell? ⟨eb, 5, none⟩ = some (.int .i64 M.ph) := blk_cell (j := 5) h.box rfl
  clear h
  go_enter Tryz.func23, Tryz.ntmps23
  go_wp2
  go_ret
  exact ⟨rfl, rfl⟩
theorem egNow (eb : Nat) (k : EgK) (M : Mkt) (w : World) (h : Eg w eb k M) :
    Calls Tryz.prog 24 #[.pointer (some ⟨eb, 0, none⟩)] w fun e w' => e = .returned (.int .i64 M.now) ∧ w' = w := by
  have c5 : w.cell? ⟨eb, 6, none⟩ = some (.int .i64 M.now) := blk_cell (j := 6) h.box rfl
  clear h
  go_enter Tryz.func24, Tryz.ntmps24
  go_wp2
  go_ret
  exact ⟨rfl, rfl⟩
set_option maxRecDepth 4000 in
set_option maxHeartbeats 1000000 in
theorem egRefs (eb : Nat) (k : EgK) (M : Mkt) (w : World) (h : Eg w eb k M) :
    Calls Tryz.prog 21 #[.pointer (some ⟨eb, 0, none⟩)] w fun e w' => e = .returned (.tuple #[.int .i64 M.an, .int .i64 M.la]) ∧ Below w.heap.size w w' := by
  have k1 := cell_regrown (blk_cell (j := 1) (v := .pointer (some ⟨k.nb, 0, none⟩)) h.box rfl)
  have cA : ∀ dq os, Calls Tryz.prog 67 #[.pointer (some ⟨k.nb, 0, none⟩)] (Go.Sort.grow (redrawn w dq) os) fun e w'' => e = .returned (.int .i64 M.an) ∧ ∃ p : Regrown, w'' = Go.Sort.grow (redrawn w p.d) p.os := fun dq os => Calls.regrown_of (bnAnchor k.nb M.st M.dy M.an M.la _ (h.bn.below (below_regrown w dq os)))
  have cL : ∀ dq os, Calls Tryz.prog 68 #[.pointer (some ⟨k.nb, 0, none⟩)] (Go.Sort.grow (redrawn w dq) os) fun e w'' => e = .returned (.int .i64 M.la) ∧ ∃ p : Regrown, w'' = Go.Sort.grow (redrawn w p.d) p.os := fun dq os => Calls.regrown_of (bnLast k.nb M.st M.dy M.an M.la _ (h.bn.below (below_regrown w dq os)))
  clear h
  go_enter Tryz.func21, Tryz.ntmps21
  go_wp2_with fail
  refine wp_region_quiet_below (by kernel_rfl) (by kernel_rfl) ?_
  repeat (go_big_quiet_step (first | exact cA _ _ | exact cL _ _))
  refine wpQuiet_nil ?_
  intro _ hw'
  obtain ⟨⟨dq, osq⟩, hw''⟩ := hw'
  subst hw''
  go_wp2
  go_ret2
  exact ⟨rfl, below_regrown w dq osq⟩
set_option maxRecDepth 4000 in
set_option maxHeartbeats 1000000 in
theorem egHalt (eb : Nat) (k : EgK) (M : Mkt) (w : World) (h : Eg w eb k M) :
    Calls Tryz.prog 17 #[.pointer (some ⟨eb, 0, none⟩)] w fun e w' => ∃ err, e = .returned err ∧ ErrE err (haltN M) ∧ EgGo w w' eb k k (haltM M) := by
  have c5 : w.cell? ⟨eb, 5, none⟩ = some (.int .i64 M.ph) := blk_cell (j := 5) h.box rfl
  have f5 := blk_free (j := 5) h.box
  have H : Hid (Eg w eb k M) := h
  clear h
  by_cases h6 : M.ph = 6
  · have e6 : (M.ph == 6) = true := beq_iff_eq.2 h6
    have HN : Hid (haltN M = 6 ∧ haltM M = M) := ⟨by unfold haltN; rw [if_pos (Or.inl h6)], by unfold haltM; rw [if_pos (Or.inl h6)]⟩
    clear h6
    go_enter Tryz.func17, Tryz.ntmps17
    go_wp2_with fail
    go_ret
    exact ⟨_, rfl, ErrE.no 6 HN.out.1 (by decide), by rw [HN.out.2]; exact EgGo.refl H.out⟩
  · have e6 : (M.ph == 6) = false := beq_eq_false_iff_ne.2 h6
    by_cases h7 : M.ph = 7
    · have e7 : (M.ph == 7) = true := beq_iff_eq.2 h7
      have HN : Hid (haltN M = 6 ∧ haltM M = M) := ⟨by unfold haltN; rw [if_pos (Or.inr h7)], by unfold haltM; rw [if_pos (Or.inr h7)]⟩
      clear h6 h7
      go_enter Tryz.func17, Tryz.ntmps17
      go_wp2_with fail
      go_ret
      exact ⟨_, rfl, ErrE.no 6 HN.out.1 (by decide), by rw [HN.out.2]; exact EgGo.refl H.out⟩
    · have e7 : (M.ph == 7) = false := beq_eq_false_iff_ne.2 h7
      have hno : ¬ (M.ph = 6 ∨ M.ph = 7) := fun e => e.elim h6 h7
      have HN : Hid (haltN M = 0 ∧ haltM M = { M with ph := 6 }) := ⟨by unfold haltN; rw [if_neg hno], by unfold haltM; rw [if_neg hno]⟩
      clear h6 h7 hno
      go_enter Tryz.func17, Tryz.ntmps17
      go_wp2_with fail
      go_ret
      exact ⟨_, rfl, ErrE.yes HN.out.1, by rw [HN.out.2]; exact H.out.write (j := 5) (M' := { M with ph := 6 }) rfl rfl rfl rfl rfl ⟨rfl, rfl, rfl, rfl⟩⟩
set_option maxRecDepth 4000 in
set_option maxHeartbeats 1000000 in
theorem egGather (eb : Nat) (k : EgK) (M : Mkt) (w : World) (h : Eg w eb k M) (hn : 0 ≤ M.now ∧ M.now ≤ 1000000000000) (ht : 0 ≤ M.ti ∧ M.ti ≤ 1000000000000) :
    Calls Tryz.prog 65 #[.pointer (some ⟨eb, 0, none⟩)] w fun e w' => e = .returned (.tuple #[]) ∧ EgGo w w' eb k k (volM M) := by
  have c5 : w.cell? ⟨eb, 5, none⟩ = some (.int .i64 M.ph) := blk_cell (j := 5) h.box rfl
  have f5 := blk_free (j := 5) h.box
  have h1 := h.write (j := 5) (u := .int .i64 4) (M' := { M with ph := 4 }) rfl rfl rfl rfl rfl ⟨rfl, rfl, rfl, rfl⟩
  have wr : IntKind.i64.wrap (M.now + M.ti) = M.now + M.ti := IntWalk.i64_in _ (by omega)
  clear h
  go_enter Tryz.func65, Tryz.ntmps65
  go_upto_region 1 with fail
  generalize w.setCell ⟨eb, 5, none⟩ (.int .i64 4) = w1 at h1 ⊢
  have d6 : w1.cell? ⟨eb, 6, none⟩ = some (.int .i64 M.now) := blk_cell (j := 6) h1.1.box rfl
  have d7 : w1.cell? ⟨eb, 7, none⟩ = some (.int .i64 M.ti) := blk_cell (j := 7) h1.1.box rfl
  have d9 : w1.cell? ⟨eb, 9, none⟩ = some (.int .i64 M.en) := blk_cell (j := 9) h1.1.box rfl
  have d10 : w1.cell? ⟨eb, 10, none⟩ = some (.int .i64 M.lo) := blk_cell (j := 10) h1.1.box rfl
  have g9 := blk_free (j := 9) h1.1.box
  have g10 := blk_free (j := 10) h1.1.box
  have H1 : Hid (EgGo w w1 eb k k { M with ph := 4 }) := h1
  clear h1 c5 f5
  go_region
  all_goals go_wp2_with fail
  all_goals refine bodyPost_end (results_none rfl _ _ _) rfl ?_
  all_goals refine ⟨rfl, H1.out.trans ?_⟩
  all_goals have h2 := H1.out.1.drew.write (j := 9) (u := .int .i64 (M.now + M.ti)) (M' := { M with ph := 4, en := M.now + M.ti }) rfl rfl rfl rfl rfl ⟨rfl, rfl, rfl, rfl⟩
  all_goals have h3 := h2.trans (h2.1.write (j := 10) (u := .int .i64 0) (M' := volM M) rfl rfl rfl rfl rfl ⟨rfl, rfl, rfl, rfl⟩)
  all_goals exact (EgGo.stay H1.out.1 (Below.refl _ _).drew).trans h3
set_option maxHeartbeats 1000000 in
theorem egPlanned (eb : Nat) (k : EgK) (M : Mkt) (w : World) (h : Eg w eb k M) (hr : 0 < M.rs.length ∧ M.rs.length ≤ 60) :
    Calls Tryz.prog 61 #[.pointer (some ⟨eb, 0, none⟩)] w fun e w' => e = .returned (.int .i64 (phaseV M.rs M.now).1) ∧ Below w.heap.size w w' := by
  have c0 := cell_regrown (blk_cell (j := 0) (v := .pointer (some ⟨k.tb, 0, none⟩)) h.box rfl)
  have c6 := cell_regrown (blk_cell (j := 6) (v := .int .i64 M.now) h.box rfl)
  have cP : ∀ dq os, Calls Tryz.prog 106 #[.pointer (some ⟨k.tb, 0, none⟩), .int .i64 M.now] (Go.Sort.grow (redrawn w dq) os) fun e w'' => e = .returned (.tuple #[.int .i64 (phaseV M.rs M.now).1, .int .i64 (phaseV M.rs M.now).2]) ∧ ∃ p : Regrown, w'' = Go.Sort.grow (redrawn w p.d) p.os := fun dq os => Calls.regrown_of (phase_any k.tb M.now M.rs _ (h.table.below (below_regrown w dq os) (Nat.le_refl _)) hr.1 hr.2)
  clear h
  go_enter Tryz.func61, Tryz.ntmps61
  go_wp2_with fail
  refine wp_region_quiet_below (by kernel_rfl) (by kernel_rfl) ?_
  repeat (go_big_quiet_step (exact cP _ _))
  refine wpQuiet_nil ?_
  intro _ hw'
  obtain ⟨⟨dq, osq⟩, hw''⟩ := hw'
  subst hw''
  go_wp2
  go_ret
  exact ⟨rfl, below_regrown w dq osq⟩
/-- 9.2: are side, kind and number such as there are? -/
def knownB (o : Ord) : Bool := (decide (1 ≤ o.side) && decide (o.side ≤ 2)) && (decide (1 ≤ o.kind) && decide (o.kind ≤ 4)) && decide (0 < o.id)
set_option maxRecDepth 4000 in
set_option maxHeartbeats 2000000 in
theorem egKnown (o : Ord) (w : World) :
    Calls Tryz.prog 90 #[o.agg] w fun e w' => e = .returned (.bool (knownB o)) ∧ Below w.heap.size w w' := by
  unfold Ord.agg
  go_enter Tryz.func90, Tryz.ntmps90
  go_wp2
  all_goals (go_ret; refine ⟨tk_ret ?_, bel1 _ _⟩; (first | rfl | (rw [Bool.eq_iff_iff]; simp only [knownB, Bool.or_eq_true, Bool.and_eq_true, beq_iff_eq, beq_eq_false_iff_ne, ne_eq, decide_eq_true_eq, decide_eq_false_iff_not, true_iff, Bool.false_eq_true, false_iff, iff_true, iff_false] at *; omega)))
end Go.Proofs.YtjdkagafdnchhaaGreatDoor

/-
  append onto a row of the call's own, which may be nil, of any number of elements, also of none; and what the points of a curve do not hang on: the order of its orders. Conditions stand in each theorem.
-/
namespace Go.Proofs.YtjdkagafdnchhaaGreatDoor
open Go.RowKit

/-- m elements lie at an address, if there is one -/
def LiesE (w : World) (ao : Option Addr) (m : Nat) (news : List Value) : Prop := (m = 0 ∧ news = []) ∨ ∃ ad, ao = some ad ∧ ∀ j u, news[j]? = some u → w.cell? (ad.add j) = some u
theorem run_append_any {P : Program} (w : World) (t ty : TypeId) (base : Nat) (e : TypeId) (i : TypeInfo) (z : Value) (size bytes : Nat) (ht : P.underlying t = some (.slice e)) (hi : P.info? e = some i) (hz : i.zero = some z)
    (hsize : i.size = size) (hby : i.bytes = bytes) (hzs : z.cells.size = size) (hsz : 0 < size)
    (v : Value) (n : Nat) (xs : List Value) (hown : w.ownsRow base e size v n xs)
    (ao : Option Addr) (m c : Nat) (news : List Value) (hl : news.length = m * size) (hx : LiesE w ao m news) (h1 : ∀ u ∈ news, u.oneCell' = true)
    (h63 : n + m ≤ maxLen) (hbytes : (n + m) * bytes ≤ 140737488355328) (hbase : base ≤ w.heap.size) :
    ∃ v' w', (Builtin.append_ #[t, t] ty #[v, .slice ao m c]).run P w = .ok v' w' ∧
      w'.ownsRow base e size v' (n + m) (xs ++ news) ∧ w.grownBy w' v.ownBlock ∧ ∀ k, v'.ownBlock = some k → v.ownBlock = some k ∨ w.heap.size ≤ k := by
  by_cases hm : 0 < m
  · rcases hx with ⟨h0, _⟩ | ⟨ad, rfl, hc⟩
    · omega
    · obtain ⟨g, cap, w', hr, h2, h3, h4, h5⟩ := run_append_lies (P := P) w t ty base e i z size bytes ht hi hz hsize hby hzs hsz v n xs hown ad m c news hl hc h1 hm h63 hbytes hbase _ rfl
      refine ⟨_, w', hr, h2, h3, fun k hk => ?_⟩
      have e' : g = k := by simpa [Value.ownBlock] using hk
      subst e'
      rcases h4 with h4 | h4
      · exact Or.inl h4
      · exact Or.inr (by omega)
  · obtain rfl : m = 0 := by omega
    obtain rfl : news = [] := List.eq_nil_of_length_eq_zero (by omega)
    obtain ⟨ao', cap', rfl, hle, _⟩ := owns_shape hown
    refine ⟨.slice ao' n cap', w, ?_, by rw [Nat.add_zero, List.append_nil]; exact hown, World.grownBy.refl _ _, fun k hk => Or.inl hk⟩
    exact run_append_nothing w t t ty e i ht hi _ n cap' hle _ (by
        rw [hsize]
        cases ao with
        | none => exact Src.ofNil (w := w) (hk := ht) (c := c)
        | some ad => exact Src.ofSlice (w := w) (hk := ht) (a := ad) (n := 0) (c := c) (news := []) (by simp) (by simp) (by simp))
theorem wpList_append_any {P : Program} (w : World) {ops : Array Oper} {rest : List Oper} {o : Oper} {a : Act} {Q : Exit → Act → World → Prop} (hgd : o.guard = none) (s x : Operand) (t : TypeId)
    (ho : o.op = .call { callee := .builtin .append, args := #[s, x], argTypes := #[t, t] })
    (base : Nat) (e : TypeId) (i : TypeInfo) (z : Value) (size bytes : Nat) (ht : P.underlying t = some (.slice e)) (hi : P.info? e = some i) (hz : i.zero = some z)
    (hsize : i.size = size) (hby : i.bytes = bytes) (hzs : z.cells.size = size) (hsz : 0 < size)
    (v : Value) (n : Nat) (xs : List Value) (hs : a.eval s = v) (hown : w.ownsRow base e size v n xs)
    (ao : Option Addr) (m c : Nat) (news : List Value) (hv : a.eval x = .slice ao m c) (hl : news.length = m * size) (hx : LiesE w ao m news) (h1 : ∀ u ∈ news, u.oneCell' = true)
    (h63 : n + m ≤ maxLen) (hbytes : (n + m) * bytes ≤ 140737488355328) (hbase : base ≤ w.heap.size)
    (h : ∀ v' w', w'.ownsRow base e size v' (n + m) (xs ++ news) → w.grownBy w' v.ownBlock → (∀ k, v'.ownBlock = some k → v.ownBlock = some k ∨ w.heap.size ≤ k) → wpList P ops Q rest (a.put o.dst v') w') : wpList P ops Q (o :: rest) a w := by
  refine wpList_plain hgd fun K hK => ?_
  obtain ⟨v', w', hr, h2, h3, h4⟩ := run_append_any (P := P) w t o.type base e i z size bytes ht hi hz hsize hby hzs hsz v n xs hown ao m c news hl hx h1 h63 hbytes hbase
  unfold Oper.wp execOp
  simp only [ho, resolve, invoke, builtin, Sem.run_bind, Sem.run_pure, Result.andThen_ok, List.map_toArray, List.map_cons, List.map_nil, hs, hv, hr]
  exact hK _ _ (h v' w' h2 h3 h4)
theorem step_append_any {P : Program} (w : World) {ops : Array Oper} {o : Oper} {a : Act} {K : Act → World → Prop} {Q : Exit → Act → World → Prop} {E : Prop} (hgd : o.guard = none) (s x : Operand) (t : TypeId)
    (ho : o.op = .call { callee := .builtin .append, args := #[s, x], argTypes := #[t, t] })
    (base : Nat) (e : TypeId) (i : TypeInfo) (z : Value) (size bytes : Nat) (ht : P.underlying t = some (.slice e)) (hi : P.info? e = some i) (hz : i.zero = some z)
    (hsize : i.size = size) (hby : i.bytes = bytes) (hzs : z.cells.size = size) (hsz : 0 < size)
    (v : Value) (n : Nat) (xs : List Value) (hs : a.eval s = v) (hown : w.ownsRow base e size v n xs)
    (ao : Option Addr) (m c : Nat) (news : List Value) (hv : a.eval x = .slice ao m c) (hl : news.length = m * size) (hx : LiesE w ao m news) (h1 : ∀ u ∈ news, u.oneCell' = true)
    (h63 : n + m ≤ maxLen) (hbytes : (n + m) * bytes ≤ 140737488355328) (hbase : base ≤ w.heap.size)
    (h : ∀ v' w', w'.ownsRow base e size v' (n + m) (xs ++ news) → w.grownBy w' v.ownBlock → (∀ k, v'.ownBlock = some k → v.ownBlock = some k ∨ w.heap.size ≤ k) → K (a.put o.dst v') w') :
    if Region.wanted o (yielded ops a.tmps) = true then Oper.wp P o a w K Q else E := by
  have hw : Region.wanted o (yielded ops a.tmps) = true := by simp [Region.wanted, hgd]
  rw [if_pos hw]
  obtain ⟨v', w', hr, h2, h3, h4⟩ := run_append_any (P := P) w t o.type base e i z size bytes ht hi hz hsize hby hzs hsz v n xs hown ao m c news hl hx h1 h63 hbytes hbase
  unfold Oper.wp execOp
  simp only [ho, resolve, invoke, builtin, Sem.run_bind, Sem.run_pure, Result.andThen_ok, List.map_toArray, List.map_cons, List.map_nil, hs, hv, hr]
  exact h v' w' h2 h3 h4
theorem LiesE.of_row {w W : World} {base : Nat} {ao : Option Addr} {cap : Nat} {l : List Ord} (h : w.ownsRow base 41 5 (.slice ao l.length cap) l.length (oV l)) (hb : Below w.heap.size w W) : LiesE W ao l.length (oV l) := by
  cases l with
  | nil => exact Or.inl ⟨rfl, rfl⟩
  | cons o l =>
    have h' := owns_below h hb (Nat.le_refl _)
    obtain ⟨g, cap', hv, _, _⟩ := h'.form (by simp)
    simp only [Value.slice.injEq, true_and] at hv
    obtain ⟨rfl, rfl⟩ := hv
    refine Or.inr ⟨_, rfl, fun j u hj => ?_⟩
    have hlt : j < (oV (o :: l)).length := by
      rcases Nat.lt_or_ge j (oV (o :: l)).length with h2 | h2
      · exact h2
      · rw [List.getElem?_eq_none h2] at hj; cases hj
    have h2 := (h'.cellAt j (by rw [oV_length] at hlt; exact hlt)).trans hj
    rw [← h2]
    by_cases e : j = 0
    · subst e; rfl
    · simp [Addr.add, e]

/-! both sides are all -/
theorem split_perm {α : Type} (p : α → Bool) : ∀ l : List α, (l.filter p ++ l.filter fun x => !p x).Perm l
  | [] => List.Perm.refl _
  | x :: l => by
    cases h : p x with
    | true => simpa [h] using (split_perm p l).cons x
    | false =>
      have h1 : ((x :: l).filter p) = l.filter p := by simp [h]
      have h2 : ((x :: l).filter fun x => !p x) = x :: l.filter fun x => !p x := by simp [h]
      rw [h1, h2]
      exact List.perm_middle.trans ((split_perm p l).cons x)
theorem sides_perm {L : List Ord} (h : LOk L) : (sideO 1 L ++ sideO 2 L).Perm L := by
  have e : onSide 2 L = L.filter fun o => !(o.side == 1) := by
    unfold onSide
    refine List.filter_congr (fun o ho => ?_)
    rcases h.side o ho with e | e <;> rw [e] <;> rfl
  have h1 : (sideO 1 L).Perm (L.filter fun o => o.side == 1) := ssort_perm _ _
  have h2 : (sideO 2 L).Perm (L.filter fun o => !(o.side == 1)) := by
    rw [← e]; exact ssort_perm _ _
  exact (h1.append h2).trans (split_perm _ L)
theorem demO_cons (p : Int) (o : Ord) (l : List Ord) : demO p (o :: l) = (if buysB p o = true then o.qty else 0) + demO p l := by simp [demO]
theorem supO_cons (p : Int) (o : Ord) (l : List Ord) : supO p (o :: l) = (if sellsB p o = true then o.qty else 0) + supO p l := by simp [supO]
theorem demO_perm (p : Int) {l l' : List Ord} (h : l.Perm l') : demO p l = demO p l' := by
  induction h with
  | nil => rfl
  | cons x _ ih => rw [demO_cons, demO_cons, ih]
  | swap x y l => rw [demO_cons, demO_cons, demO_cons, demO_cons]; omega
  | trans _ _ h1 h2 => exact h1.trans h2
theorem supO_perm (p : Int) {l l' : List Ord} (h : l.Perm l') : supO p l = supO p l' := by
  induction h with
  | nil => rfl
  | cons x _ ih => rw [supO_cons, supO_cons, ih]
  | swap x y l => rw [supO_cons, supO_cons, supO_cons, supO_cons]; omega
  | trans _ _ h1 h2 => exact h1.trans h2
theorem curve_perm {l l' : List Ord} (h : l.Perm l') (more : Int) : curveL l more = curveL l' more := by
  have e : uniqL (sortI (pricesO l more)) = uniqL (sortI (pricesO l' more)) := by
    refine curve_prices (uniqL_rises (sortI_sorted _)) (fun p => ?_)
    rw [uniqL_mem (sortI_sorted _), sortI_mem, pricesO_mem, pricesO_mem]
    constructor
    · rintro (h1 | ⟨o, ho, h1⟩)
      · exact Or.inl h1
      · exact Or.inr ⟨o, h.mem_iff.2 ho, h1⟩
    · rintro (h1 | ⟨o, ho, h1⟩)
      · exact Or.inl h1
      · exact Or.inr ⟨o, h.mem_iff.1 ho, h1⟩
  unfold curveL
  rw [e]
  refine List.map_congr_left (fun p _ => ?_)
  rw [demO_perm p h, supO_perm p h]
end Go.Proofs.YtjdkagafdnchhaaGreatDoor

/-
  How the program's Of counts, as plain lists: the lots that any price suits, and those of each price by itself, summed up from one end of the prices and from the other; and that it is how much is bought and sold at each. No program is named here.
-/
namespace Go.Proofs.YtjdkagafdnchhaaGreatDoor
open Go.RowKit

def sumQ (q : Ord → Bool) (l : List Ord) : Int := (l.map fun o => if q o = true then o.qty else 0).sum
def mkBB (o : Ord) : Bool := (o.kind == 2) && (o.side == 1)
def mkSB (o : Ord) : Bool := (o.kind == 2) && !(o.side == 1)
def limBB (p : Int) (o : Ord) : Bool := !(o.kind == 2) && ((o.price == p) && (o.side == 1))
def limSB (p : Int) (o : Ord) : Bool := !(o.kind == 2) && ((o.price == p) && !(o.side == 1))
/-- the same, at each of several prices -/
def sumX (q : Int → Ord → Bool) (xs : List Int) (l : List Ord) : Int := (xs.map fun p => sumQ (q p) l).sum

theorem sumQ_nil (q : Ord → Bool) : sumQ q [] = 0 := rfl
theorem sumQ_cons (q : Ord → Bool) (o : Ord) (l : List Ord) : sumQ q (o :: l) = (if q o = true then o.qty else 0) + sumQ q l := by simp [sumQ]
theorem sumQ_take {l : List Ord} {k : Nat} (q : Ord → Bool) (h : k < l.length) : sumQ q (l.take (k + 1)) = sumQ q (l.take k) + (if q (oAt l k) = true then (oAt l k).qty else 0) := by
  unfold sumQ
  rw [List.take_succ_eq_append_getElem h, List.map_append, List.map_singleton, sum_snoc, oAt_eq h]
theorem sumQ_yes {l : List Ord} {k : Nat} {q : Ord → Bool} (h : k < l.length) (hq : q (oAt l k) = true) : sumQ q (l.take (k + 1)) = sumQ q (l.take k) + (oAt l k).qty := by rw [sumQ_take q h, if_pos hq]
theorem sumQ_no {l : List Ord} {k : Nat} {q : Ord → Bool} (h : k < l.length) (hq : q (oAt l k) = false) : sumQ q (l.take (k + 1)) = sumQ q (l.take k) := by rw [sumQ_take q h, if_neg (by rw [hq]; decide)]; omega
theorem sumQ_congr {q q' : Ord → Bool} : ∀ {l : List Ord}, (∀ o ∈ l, q o = q' o) → sumQ q l = sumQ q' l
  | [], _ => rfl
  | o :: l, h => by
    rw [sumQ_cons, sumQ_cons, h o (List.mem_cons_self ..), sumQ_congr (fun x hx => h x (List.mem_cons_of_mem _ hx))]
theorem sumQ_add {q q' : Ord → Bool} : ∀ {l : List Ord}, (∀ o ∈ l, q o = true → q' o = false) → sumQ q l + sumQ q' l = sumQ (fun o => q o || q' o) l
  | [], _ => rfl
  | o :: l, h => by
    have ih := sumQ_add (l := l) (fun x hx => h x (List.mem_cons_of_mem _ hx))
    have ho := h o (List.mem_cons_self ..)
    rw [sumQ_cons, sumQ_cons, sumQ_cons, ← ih]
    cases h1 : q o with
    | true => rw [ho h1]; simp; omega
    | false => cases h2 : q' o <;> simp <;> omega
theorem sumQ_in {q : Ord → Bool} : ∀ {l : List Ord}, (∀ o ∈ l, okO o = true) → 0 ≤ sumQ q l ∧ sumQ q l ≤ 1000000 * (l.length : Int)
  | [], _ => by simp [sumQ]
  | o :: l, h => by
    have ih := sumQ_in (q := q) (l := l) (fun x hx => h x (List.mem_cons_of_mem _ hx))
    have ho := (okO_qty (h o (List.mem_cons_self ..))).2
    rw [sumQ_cons, List.length_cons]
    split <;> omega
theorem sumQ_small {q : Ord → Bool} {l : List Ord} (h : ∀ o ∈ l, okO o = true) (hl : l.length ≤ 1000) : 0 ≤ sumQ q l ∧ sumQ q l ≤ 1000000000 := by
  have := sumQ_in (q := q) h; omega
theorem ok_take {l : List Ord} (h : ∀ o ∈ l, okO o = true) (k : Nat) : ∀ o ∈ l.take k, okO o = true := fun o ho => h o (List.mem_of_mem_take ho)

theorem sumX_nil (q : Int → Ord → Bool) (l : List Ord) : sumX q [] l = 0 := rfl
theorem sumX_none (q : Int → Ord → Bool) : ∀ xs : List Int, sumX q xs [] = 0
  | [] => rfl
  | x :: xs => by
    have e : sumX q (x :: xs) [] = sumQ (q x) [] + sumX q xs [] := by simp [sumX]
    rw [e, sumX_none q xs]; rfl
theorem sumX_one (q : Int → Ord → Bool) (x : Int) (xs : List Int) (l : List Ord) : sumX q (x :: xs) l = sumQ (q x) l + sumX q xs l := by simp [sumX]
theorem sumX_snoc (q : Int → Ord → Bool) (xs : List Int) (x : Int) (l : List Ord) : sumX q (xs ++ [x]) l = sumX q xs l + sumQ (q x) l := by
  unfold sumX; rw [List.map_append, List.map_singleton, sum_snoc]
theorem sumX_drop {q : Int → Ord → Bool} {xs : List Int} {k : Nat} (l : List Ord) (h : k < xs.length) : sumX q (xs.drop k) l = sumQ (q (xs.getD k 0)) l + sumX q (xs.drop (k + 1)) l := by
  rw [List.drop_eq_getElem_cons h, sumX_one]; simp [h]
theorem sumX_take {q : Int → Ord → Bool} {xs : List Int} {k : Nat} (l : List Ord) (h : k < xs.length) : sumX q (xs.take (k + 1)) l = sumX q (xs.take k) l + sumQ (q (xs.getD k 0)) l := by
  rw [List.take_succ_eq_append_getElem h, sumX_snoc]; simp [h]
/-- one order lies at one price alone -/
theorem one_price (c : Bool) (p v : Int) : ∀ {xs : List Int}, xs.Nodup → (xs.map fun x => if ((p == x) && c) = true then v else 0).sum = if (c && decide (p ∈ xs)) = true then v else 0
  | [], _ => by simp
  | x :: xs, h => by
    rw [List.nodup_cons] at h
    rw [List.map_cons, List.sum_cons, one_price c p v h.2]
    cases c with
    | false => simp
    | true =>
      by_cases e : p = x
      · subst e
        simp [h.1]
      · simp [e]
theorem sumX_cons (q : Int → Ord → Bool) (o : Ord) (l : List Ord) : ∀ xs : List Int, sumX q xs (o :: l) = (xs.map fun p => if q p o = true then o.qty else 0).sum + sumX q xs l
  | [] => rfl
  | x :: xs => by
    rw [sumX_one, sumX_one, sumX_cons q o l xs, sumQ_cons, List.map_cons, List.sum_cons]; omega
theorem sumX_is (c : Ord → Bool) {q : Int → Ord → Bool} (hq : ∀ p o, q p o = (!(o.kind == 2) && ((o.price == p) && c o))) {xs : List Int} (h : xs.Nodup) : ∀ l : List Ord, sumX q xs l = sumQ (fun o => !(o.kind == 2) && (c o && decide (o.price ∈ xs))) l
  | [] => sumX_none _ _
  | o :: l => by
    rw [sumX_cons, sumX_is c hq h l, sumQ_cons]
    congr 1
    have e := one_price (c o) o.price o.qty h
    cases hk : (o.kind == 2) with
    | true =>
      have : (xs.map fun p => if q p o = true then o.qty else 0) = xs.map fun _ => 0 := by
        congr 1; funext p; rw [hq, hk]; simp
      rw [this]
      have z : ∀ ys : List Int, (ys.map fun _ => (0 : Int)).sum = 0 := fun ys => by induction ys with
        | nil => rfl
        | cons y ys ih => rw [List.map_cons, List.sum_cons, ih]; rfl
      rw [z]; simp
    | false =>
      have : (xs.map fun p => if q p o = true then o.qty else 0) = xs.map fun p => if ((o.price == p) && c o) = true then o.qty else 0 := by
        congr 1; funext p; rw [hq, hk]; simp
      rw [this, e]; simp
theorem sumB_is {xs : List Int} (h : xs.Nodup) (l : List Ord) : sumX limBB xs l = sumQ (fun o => !(o.kind == 2) && ((o.side == 1) && decide (o.price ∈ xs))) l := sumX_is (fun o => o.side == 1) (fun _ _ => rfl) h l
theorem sumS_is {xs : List Int} (h : xs.Nodup) (l : List Ord) : sumX limSB xs l = sumQ (fun o => !(o.kind == 2) && (!(o.side == 1) && decide (o.price ∈ xs))) l := sumX_is (fun o => !(o.side == 1)) (fun _ _ => rfl) h l
/-- the order in which prices are summed up is nothing -/
theorem sumB_same {xs ys : List Int} (h : xs.Nodup) (h' : ys.Nodup) (hm : ∀ p, p ∈ xs ↔ p ∈ ys) (l : List Ord) : sumX limBB xs l = sumX limBB ys l := by
  rw [sumB_is h, sumB_is h']; exact sumQ_congr (fun o _ => by simp [hm])
theorem rises_nodup {xs : List Int} (h : xs.Pairwise (· < ·)) : xs.Nodup := h.imp (fun e => by omega)
theorem rises_getD {xs : List Int} (h : xs.Pairwise (· < ·)) {i j : Nat} (hij : i < j) (hj : j < xs.length) : xs.getD i 0 < xs.getD j 0 := by
  rw [List.getD_eq_getElem?_getD, List.getD_eq_getElem?_getD, List.getElem?_eq_getElem (by omega), List.getElem?_eq_getElem hj, Option.getD_some, Option.getD_some]
  exact List.pairwise_iff_getElem.1 h i j (by omega) hj hij
theorem mem_getD {xs : List Int} {q : Int} (h : q ∈ xs) : ∃ i, i < xs.length ∧ xs.getD i 0 = q := by
  obtain ⟨i, hi, e⟩ := List.mem_iff_getElem.1 h
  exact ⟨i, hi, by simpa [hi] using e⟩
theorem drop_mem {xs : List Int} {k : Nat} {q : Int} : q ∈ xs.drop k ↔ ∃ i, k ≤ i ∧ i < xs.length ∧ xs.getD i 0 = q := by
  rw [List.mem_iff_getElem]
  constructor
  · rintro ⟨i, hi, e⟩
    rw [List.length_drop] at hi
    refine ⟨k + i, by omega, by omega, ?_⟩
    rw [List.getElem_drop] at e
    simpa [List.getD_eq_getElem?_getD, show k + i < xs.length by omega] using e
  · rintro ⟨i, h1, h2, e⟩
    refine ⟨i - k, by rw [List.length_drop]; omega, ?_⟩
    rw [List.getElem_drop]
    simp only [show k + (i - k) = i by omega]
    simpa [List.getD_eq_getElem?_getD, h2] using e
theorem take_mem {xs : List Int} {k : Nat} {q : Int} : q ∈ xs.take k ↔ ∃ i, i < k ∧ i < xs.length ∧ xs.getD i 0 = q := by
  rw [List.mem_iff_getElem]
  constructor
  · rintro ⟨i, hi, e⟩
    rw [List.length_take] at hi
    rw [List.getElem_take] at e
    exact ⟨i, by omega, by omega, by simpa [List.getD_eq_getElem?_getD, show i < xs.length by omega] using e⟩
  · rintro ⟨i, h1, h2, e⟩
    refine ⟨i, by rw [List.length_take]; omega, ?_⟩
    rw [List.getElem_take]
    simpa [List.getD_eq_getElem?_getD, h2] using e
theorem rises_drop {xs : List Int} (h : xs.Pairwise (· < ·)) {k : Nat} (hk : k < xs.length) {q : Int} (hq : q ∈ xs) : q ∈ xs.drop k ↔ xs.getD k 0 ≤ q := by
  rw [drop_mem]
  obtain ⟨i, hi, rfl⟩ := mem_getD hq
  constructor
  · rintro ⟨j, h1, h2, e⟩
    rw [← e]
    rcases Nat.lt_or_eq_of_le h1 with h3 | rfl
    · exact Int.le_of_lt (rises_getD h h3 h2)
    · exact Int.le_refl _
  · intro hle
    refine ⟨i, ?_, hi, rfl⟩
    by_cases hik : i < k
    · have := rises_getD h hik hk; omega
    · omega
theorem rises_take {xs : List Int} (h : xs.Pairwise (· < ·)) {k : Nat} (hk : k < xs.length) {q : Int} (hq : q ∈ xs) : q ∈ xs.take (k + 1) ↔ q ≤ xs.getD k 0 := by
  rw [take_mem]
  obtain ⟨i, hi, rfl⟩ := mem_getD hq
  constructor
  · rintro ⟨j, h1, h2, e⟩
    rw [← e]
    rcases Nat.lt_or_eq_of_le (Nat.le_of_lt_succ h1) with h3 | rfl
    · exact Int.le_of_lt (rises_getD h h3 hk)
    · exact Int.le_refl _
  · intro hle
    refine ⟨i, ?_, hi, rfl⟩
    by_cases hik : k < i
    · have := rises_getD h hik hi; omega
    · omega
/-- at a price as much is bought as any price suits, and is named from there on -/
theorem dem_at {F : List Ord} {xs : List Int} {k : Nat} (hF : ∀ o ∈ F, okO o = true) (h : xs.Pairwise (· < ·)) (hm : ∀ o ∈ F, namesO o = true → o.price ∈ xs) (hk : k < xs.length) :
    sumQ mkBB F + sumX limBB (xs.drop k) F = demO (xs.getD k 0) F := by
  rw [sumB_is ((rises_nodup h).sublist (List.drop_sublist ..)), sumQ_add (fun o _ h1 => by unfold mkBB at h1; rw [Bool.and_eq_true] at h1; simp [h1.1])]
  refine sumQ_congr (q' := buysB (xs.getD k 0)) (fun o ho => ?_)
  have h1 := hF o ho
  unfold mkBB buysB
  rw [h1]
  cases hk2 : (o.kind == 2) with
  | true => simp
  | false =>
    have hn : namesO o = true := by unfold namesO; rw [h1, hk2]; rfl
    have := rises_drop h hk (hm o ho hn)
    simp only [Bool.false_and, Bool.false_or, Bool.not_false, Bool.true_and]
    congr 1
    rw [Bool.eq_iff_iff, decide_eq_true_iff, decide_eq_true_iff]
    exact this
theorem sup_at {F : List Ord} {xs : List Int} {k : Nat} (hF : ∀ o ∈ F, okO o = true) (h : xs.Pairwise (· < ·)) (hm : ∀ o ∈ F, namesO o = true → o.price ∈ xs) (hk : k < xs.length) :
    sumQ mkSB F + sumX limSB (xs.take (k + 1)) F = supO (xs.getD k 0) F := by
  rw [sumS_is ((rises_nodup h).sublist (List.take_sublist ..)), sumQ_add (fun o _ h1 => by unfold mkSB at h1; rw [Bool.and_eq_true] at h1; simp [h1.1])]
  refine sumQ_congr (q' := sellsB (xs.getD k 0)) (fun o ho => ?_)
  have h1 := hF o ho
  have h2 := (okO_qty h1).1
  have hs : (o.side == 2) = !(o.side == 1) := by
    rw [Bool.eq_iff_iff]; simp; omega
  unfold mkSB sellsB
  rw [h1, hs]
  cases hk2 : (o.kind == 2) with
  | true => simp
  | false =>
    have hn : namesO o = true := by unfold namesO; rw [h1, hk2]; rfl
    have := rises_take h hk (hm o ho hn)
    simp only [Bool.false_and, Bool.false_or, Bool.not_false, Bool.true_and]
    congr 1
    rw [Bool.eq_iff_iff, decide_eq_true_iff, decide_eq_true_iff]
    exact this
/-- orders that are nothing count for nothing -/
theorem dem_ok (p : Int) : ∀ l : List Ord, demO p (l.filter okO) = demO p l
  | [] => rfl
  | o :: l => by
    have e : demO p (o :: l) = (if buysB p o = true then o.qty else 0) + demO p l := by simp [demO]
    have ih := dem_ok p l
    rw [e]
    by_cases h : okO o = true
    · rw [List.filter_cons, if_pos h]
      have e2 : demO p (o :: l.filter okO) = (if buysB p o = true then o.qty else 0) + demO p (l.filter okO) := by simp [demO]
      rw [e2, ih]
    · rw [List.filter_cons, if_neg h, ih]
      have : buysB p o = false := by unfold buysB; simp [h]
      rw [this]; simp
theorem sup_ok (p : Int) : ∀ l : List Ord, supO p (l.filter okO) = supO p l
  | [] => rfl
  | o :: l => by
    have e : supO p (o :: l) = (if sellsB p o = true then o.qty else 0) + supO p l := by simp [supO]
    have ih := sup_ok p l
    rw [e]
    by_cases h : okO o = true
    · rw [List.filter_cons, if_pos h]
      have e2 : supO p (o :: l.filter okO) = (if sellsB p o = true then o.qty else 0) + supO p (l.filter okO) := by simp [supO]
      rw [e2, ih]
    · rw [List.filter_cons, if_neg h, ih]
      have : sellsB p o = false := by unfold sellsB; simp [h]
      rw [this]; simp
theorem prices_ok (l : List Ord) (more : Int) : pricesO (l.filter okO) more = pricesO l more := by
  unfold pricesO
  rw [List.filter_filter]
  congr 2
  refine List.filter_congr (fun o _ => ?_)
  unfold namesO
  cases okO o <;> simp
/-- the points, at a rising list of just the prices -/
def ptsX (xs : List Int) (l : List Ord) : List Pt := xs.map fun p => ⟨p, demO p l, supO p l⟩
theorem ptsX_take {xs : List Int} {k : Nat} (l : List Ord) (h : k < xs.length) : ptsX (xs.take (k + 1)) l = ptsX (xs.take k) l ++ [⟨xs.getD k 0, demO (xs.getD k 0) l, supO (xs.getD k 0) l⟩] := by
  unfold ptsX
  rw [List.take_succ_eq_append_getElem h, List.map_append, List.map_singleton]
  simp [h]
theorem ptsX_curve {l : List Ord} {more : Int} {xs : List Int} (h : xs.Pairwise (· < ·)) (hm : ∀ p, p ∈ xs ↔ p ∈ pricesO (l.filter okO) more) : ptsX xs (l.filter okO) = curveL l more := by
  unfold ptsX curveL
  rw [curve_prices h (fun p => by rw [hm, prices_ok])]
  refine List.map_congr_left (fun p _ => ?_)
  rw [dem_ok, sup_ok]
/-- sorted, and none twice: rising -/
theorem sorted_rises {xs : List Int} (h : xs.Nodup) : (sortI xs).Pairwise (· < ·) := by
  have h1 := sortI_sorted xs
  have h2 : (sortI xs).Nodup := (List.mergeSort_perm xs _).nodup_iff.2 h
  refine (h1.and h2).imp (fun ⟨a, b⟩ => by omega)
end Go.Proofs.YtjdkagafdnchhaaGreatDoor

/-
  Orders and points in memory, wherever they lie, and small plain facts on what is bought and sold: what the texts on curves share. Conditions stand in each theorem.
-/
namespace Go.Proofs.YtjdkagafdnchhaaGreatDoor
open Go.RowKit

/-- orders that lie one behind the other, from an address on -/
def OrdsIn (w : World) (a : Option Addr) (l : List Ord) : Prop := ∀ k, k < l.length → ∃ b off, a = some ⟨b, off, none⟩ ∧ w.cell? ⟨b, off + k * 5, none⟩ = some (.int .i64 (oAt l k).id) ∧ w.cell? ⟨b, off + k * 5 + 1, none⟩ = some (.int .i64 (oAt l k).side) ∧ w.cell? ⟨b, off + k * 5 + 2, none⟩ = some (.int .i64 (oAt l k).kind) ∧ w.cell? ⟨b, off + k * 5 + 3, none⟩ = some (.int .i64 (oAt l k).price) ∧ w.cell? ⟨b, off + k * 5 + 4, none⟩ = some (.int .i64 (oAt l k).qty)
theorem cu_cell {w w' : World} {p : Addr} {v : Value} (hb : Below w.heap.size w w') (h : w.cell? p = some v) : w'.cell? p = some v := (hb.cell (World.block_lt_of_cell? w _ h)).trans h
theorem OrdsIn.below {w w' : World} {a : Option Addr} {l : List Ord} (h : OrdsIn w a l) (hb : Below w.heap.size w w') : OrdsIn w' a l := fun k hk => by
  obtain ⟨b, off, e, h0, h1, h2, h3, h4⟩ := h k hk
  exact ⟨b, off, e, cu_cell hb h0, cu_cell hb h1, cu_cell hb h2, cu_cell hb h3, cu_cell hb h4⟩
theorem OrdsIn.of_row {w : World} {base : Nat} {v : Value} {l : List Ord} (h : w.ownsRow base 41 5 v l.length (oV l)) : ∃ a cap, v = .slice a l.length cap ∧ OrdsIn w a l := by
  obtain ⟨a, cap, rfl, _, _⟩ := bk_shape h
  refine ⟨a, cap, rfl, fun k hk => ?_⟩
  obtain ⟨g, cap', e, h0, h1, h2, h3, h4⟩ := row_order h hk
  simp only [Value.slice.injEq, true_and] at e
  exact ⟨g, 0, e.1, by simpa using h0, by simpa using h1, by simpa using h2, by simpa using h3, by simpa using h4⟩
theorem cu_bel1 (w : World) (o : Obj) : Below w.heap.size w (w.alloc o) := (Below.refl _ _).alloc (Nat.le_refl _) o
theorem cu_then {w w1 w2 : World} (h : Below w.heap.size w w1) (h1 : Below w1.heap.size w1 w2) : Below w.heap.size w w2 := h.trans (h1.mono h.size)
theorem cu_blk {w : World} {b j : Nat} {vs : Array Value} {t : TypeId} {v : Value} (h : w.heap[b]? = some (.cells vs t (0, 0))) (hj : vs[j]? = some v) : w.cell? ⟨b, j, none⟩ = some v := (cell_of_row w b j vs t (0, 0) h).trans hj
theorem cu_free {w : World} {b j : Nat} {vs : Array Value} {t : TypeId} (h : w.heap[b]? = some (.cells vs t (0, 0))) : w.frozen? ⟨b, j, none⟩ = false := frozen_of_row w b j vs t h
theorem cu_set {w : World} {b j : Nat} {vs : Array Value} {t : TypeId} (u : Value) (h : w.heap[b]? = some (.cells vs t (0, 0))) : (w.setCell ⟨b, j, none⟩ u).heap[b]? = some (.cells (vs.setIfInBounds j u) t (0, 0)) := heap_setCell_same w b j vs t u h
theorem cu_keep {w w' : World} {b : Nat} {o : Obj} (h : w.heap[b]? = some o) (hb : Below w.heap.size w w') : w'.heap[b]? = some o := (hb.block b (lt_of_block h)).trans h

theorem Tryz.infoInt : (Tryz.prog.info? 3).map (fun i => (i.zero, i.size, i.bytes)) = some (some (.int .i64 0), 1, 8) := by kernel_rfl
def ints (l : List Int) : List Value := l.map (Value.int .i64)
theorem ints_snoc (l : List Int) (x : Int) : ints (l ++ [x]) = ints l ++ [.int .i64 x] := by simp [ints]
theorem ints_at {l : List Int} {k : Nat} (h : k < l.length) : (ints l)[k]? = some (.int .i64 (l.getD k 0)) := by simp [ints, h]
theorem pricesK_pos {l : List Ord} {more : Int} (h : 0 < more) : pricesK l more 0 = [more] := by simp [pricesK, pricesO, h]
theorem pricesK_neg {l : List Ord} {more : Int} (h : ¬ 0 < more) : pricesK l more 0 = [] := by simp [pricesK, pricesO, h]
theorem pricesK_len (l : List Ord) (more : Int) (k : Nat) (hk : k ≤ l.length) : (pricesK l more k).length ≤ k + 1 := by
  have := pricesO_len (l.take k) more
  rw [List.length_take] at this
  unfold pricesK
  omega
theorem uniqK_no {ys : List Int} {k : Nat} (h : fstB ys k = false) : uniqK ys (k + 1) = uniqK ys k := by rw [uniqK_step, if_neg (by rw [h]; decide)]
theorem uniqK_yes {ys : List Int} {k : Nat} (h : fstB ys k = true) : uniqK ys (k + 1) = uniqK ys k ++ [ys.getD k 0] := by rw [uniqK_step, if_pos h]
theorem fstB_zero (ys : List Int) : fstB ys 0 = true := rfl
theorem fstB_succ (ys : List Int) (k : Nat) : fstB ys (k + 1) = !(ys.getD k 0 == ys.getD (k + 1) 0) := by simp [fstB]
theorem dem_no {l : List Ord} {j : Nat} {p : Int} (h : j < l.length) (hb : buysB p (oAt l j) = false) : demO p (l.take (j + 1)) = demO p (l.take j) := by rw [demO_take p h, hb]; simp
theorem dem_yes {l : List Ord} {j : Nat} {p : Int} (h : j < l.length) (hb : buysB p (oAt l j) = true) : demO p (l.take (j + 1)) = demO p (l.take j) + (oAt l j).qty := by rw [demO_take p h, hb]; simp
theorem sup_no {l : List Ord} {j : Nat} {p : Int} (h : j < l.length) (hb : sellsB p (oAt l j) = false) : supO p (l.take (j + 1)) = supO p (l.take j) := by rw [supO_take p h, hb]; simp
theorem sup_yes {l : List Ord} {j : Nat} {p : Int} (h : j < l.length) (hb : sellsB p (oAt l j) = true) : supO p (l.take (j + 1)) = supO p (l.take j) + (oAt l j).qty := by rw [supO_take p h, hb]; simp
theorem buys_out {p : Int} {o : Ord} (h : okO o = false) : buysB p o = false := by unfold buysB; rw [h]; rfl
theorem sells_out {p : Int} {o : Ord} (h : okO o = false) : sellsB p o = false := by unfold sellsB; rw [h]; rfl
theorem buys_side {p : Int} {o : Ord} (h : o.side = 2) : buysB p o = false := by unfold buysB; rw [h]; simp
theorem sells_side {p : Int} {o : Ord} (h : o.side = 1) : sellsB p o = false := by unfold sellsB; rw [h]; simp
theorem buys_mk {p : Int} {o : Ord} (h : okO o = true) (h1 : o.side = 1) (h2 : o.kind = 2) : buysB p o = true := by unfold buysB; rw [h, h1, h2]; simp
theorem sells_mk {p : Int} {o : Ord} (h : okO o = true) (h1 : o.side = 2) (h2 : o.kind = 2) : sellsB p o = true := by unfold sellsB; rw [h, h1, h2]; simp
theorem buys_lim {p : Int} {o : Ord} (h : okO o = true) (h1 : o.side = 1) (h2 : p ≤ o.price) : buysB p o = true := by unfold buysB; rw [h, h1]; simp [h2]
theorem sells_lim {p : Int} {o : Ord} (h : okO o = true) (h1 : o.side = 2) (h2 : o.price ≤ p) : sellsB p o = true := by unfold sellsB; rw [h, h1]; simp [h2]
theorem buys_not {p : Int} {o : Ord} (h1 : ¬ o.kind = 2) (h2 : ¬ p ≤ o.price) : buysB p o = false := by unfold buysB; simp [h1, h2]
theorem sells_not {p : Int} {o : Ord} (h1 : ¬ o.kind = 2) (h2 : ¬ o.price ≤ p) : sellsB p o = false := by unfold sellsB; simp [h1, h2]
theorem owns_base {w : World} {base base' : Nat} {e : TypeId} {size : Nat} {v : Value} {n : Nat} {xs : List Value} (h : w.ownsRow base e size v n xs) (hb : base' ≤ base) : w.ownsRow base' e size v n xs :=
  ⟨h.1, h.2.imp id (fun ⟨g, cap, cur, e, hg, r⟩ => ⟨g, cap, cur, e, Nat.le_trans hb hg, r⟩)⟩
def ptOf (l : List Ord) (p : Int) : Pt := ⟨p, demO p l, supO p l⟩

/-- points that lie one behind the other, from an address on -/
def PtsIn (w : World) (a : Option Addr) (l : List Pt) : Prop := ∀ k, k < l.length → ∃ b off, a = some ⟨b, off, none⟩ ∧ w.cell? ⟨b, off + k * 3, none⟩ = some (.int .i64 (ptAt l k).price) ∧ w.cell? ⟨b, off + k * 3 + 1, none⟩ = some (.int .i64 (ptAt l k).dem) ∧ w.cell? ⟨b, off + k * 3 + 2, none⟩ = some (.int .i64 (ptAt l k).sup)
theorem PtsIn.below {w w' : World} {a : Option Addr} {l : List Pt} (h : PtsIn w a l) (hb : Below w.heap.size w w') : PtsIn w' a l := fun k hk => by
  obtain ⟨b, off, e, h0, h1, h2⟩ := h k hk
  exact ⟨b, off, e, cu_cell hb h0, cu_cell hb h1, cu_cell hb h2⟩
theorem PtsIn.of_row {w : World} {base : Nat} {t : TypeId} {v : Value} {l : List Pt} (h : w.ownsRow base t 3 v l.length (ptV l)) : ∃ a cap, v = .slice a l.length cap ∧ PtsIn w a l := by
  obtain ⟨a, cap, rfl, _, _⟩ := bk_shape h
  refine ⟨a, cap, rfl, fun k hk => ?_⟩
  obtain ⟨g, cap', e, h0, h1, h2⟩ := row_pt h hk
  simp only [Value.slice.injEq, true_and] at e
  exact ⟨g, 0, e.1, by simpa using h0, by simpa using h1, by simpa using h2⟩

def QuoAt (w : World) (qb : Nat) : Prop := w.heap[qb]? = some (.cells #[.int .i64 0, .int .i64 0, .int .i64 0] 69 (0, 0))
theorem QuoAt.below {w w' : World} {qb : Nat} (h : QuoAt w qb) (hb : Below w.heap.size w w') : QuoAt w' qb := cu_keep h hb
end Go.Proofs.YtjdkagafdnchhaaGreatDoor

/-
  The program's map of the lots of each price, and what it holds behind each order; what counts and and return, over this seat's translation. Conditions stand in each theorem.
-/
namespace Go.Proofs.YtjdkagafdnchhaaGreatDoor
open Go.RowKit

theorem Tryz.cu_keyInt : Maps.Keyed Tryz.prog 3 := Maps.int_keyed Tryz.underlying3
theorem Tryz.cu_keyIs {a : Int} (h : (Lit.int .i64 a).wf = true) : keyOf Tryz.prog 3 (.int .i64 a) = some (.int .i64 a) := Maps.keyOf_int_mk Tryz.underlying3 h
theorem Tryz.zeroLots (w : World) : (zeroValue 193).run Tryz.prog w = .ok (.agg #[.int .i64 0, .int .i64 0]) w := by kernel_rfl
def lotR (v : Value) : Option (DataW Unit × List MemPlace) :=
  match v with
  | .agg ⟨[.int .i64 a, .int .i64 b]⟩ => some (.agg [.lit (.int .i64 a), .lit (.int .i64 b)], [])
  | _ => none
def lotE (a b : Int) : DataW Unit := .agg [.lit (.int .i64 a), .lit (.int .i64 b)]
theorem lotR_mk (a b : Int) : lotR (.agg #[.int .i64 a, .int .i64 b]) = some (lotE a b, []) := rfl
theorem lotR_shape {v : Value} {y : DataW Unit × List MemPlace} (h : lotR v = some y) : ∃ a b : Int, v = .agg #[.int .i64 a, .int .i64 b] ∧ y = (lotE a b, []) := by
  unfold lotR at h
  split at h
  · rename_i a b
    exact ⟨a, b, rfl, by simpa [lotE] using h.symm⟩
  · cases h
theorem lotE_inj {a b a' b' : Int} (h : lotE a b = lotE a' b') : a = a' ∧ b = b' := by simpa [lotE] using h
theorem lotR_inv {v : Value} {a b : Int} {ps : List MemPlace} (h : lotR v = some (lotE a b, ps)) : v = .agg #[.int .i64 a, .int .i64 b] := by
  obtain ⟨a', b', rfl, e⟩ := lotR_shape h
  obtain ⟨rfl, rfl⟩ := lotE_inj (Prod.mk.injEq .. ▸ e : lotE a b = lotE a' b' ∧ ps = []).1
  rfl
/-- the lots of each price, of some orders; and a price more -/
def LotD (D : DataW Unit) (l : List Ord) (more : Int) : Prop :=
  (∀ p, D.atKey (.int .i64 p) (lotE 0 0) = lotE (sumQ (limBB p) l) (sumQ (limSB p) l)) ∧ ∀ p, Maps.has D (.int .i64 p) = true ↔ p ∈ pricesO l more
theorem key_lit (a : Int) : WideAt.IsKeyLit (Lit.int .i64 a) := trivial
theorem key_ne {a b : Int} (h : a ≠ b) : (Lit.int .i64 a) ≠ Lit.int .i64 b := fun e => h (by injection e)
theorem LotD.start {more : Int} (h : ¬ 0 < more) : LotD (.map []) [] more := by
  refine ⟨fun p => rfl, fun p => ?_⟩
  rw [pricesO_mem]
  constructor
  · intro e; cases e
  · rintro (⟨h1, _⟩ | ⟨o, ho, _⟩)
    · exact absurd h1 h
    · cases ho
theorem LotD.more {more : Int} (h : 0 < more) : LotD ((DataW.map []).put (.int .i64 more) (lotE 0 0)) [] more := by
  refine ⟨fun p => ?_, fun p => ?_⟩
  · by_cases e : p = more
    · subst e; exact Maps.atKey_put_same ⟨_, rfl⟩ (key_lit _) _ _
    · rw [Maps.atKey_put_other (key_ne e)]; rfl
  · rw [pricesO_mem]
    by_cases e : p = more
    · subst e
      rw [Maps.has_put_same ⟨_, rfl⟩ (key_lit _)]
      simp [h]
    · rw [Maps.has_put_other (key_ne e)]
      constructor
      · intro e'; cases e'
      · rintro (⟨_, h1⟩ | ⟨o, ho, _⟩)
        · exact absurd h1 e
        · cases ho
theorem sumQ_snoc (q : Ord → Bool) (l : List Ord) (o : Ord) : sumQ q (l ++ [o]) = sumQ q l + (if q o = true then o.qty else 0) := by
  unfold sumQ; rw [List.map_append, List.map_singleton, sum_snoc]
theorem pricesO_snoc {l : List Ord} {more : Int} {o : Ord} {p : Int} : p ∈ pricesO (l ++ [o]) more ↔ (p ∈ pricesO l more ∨ (namesO o = true ∧ o.price = p)) := by
  rw [pricesO_mem, pricesO_mem]
  constructor
  · rintro (h | ⟨x, hx, h1, h2⟩)
    · exact Or.inl (Or.inl h)
    · rw [List.mem_append, List.mem_singleton] at hx
      rcases hx with hx | rfl
      · exact Or.inl (Or.inr ⟨x, hx, h1, h2⟩)
      · exact Or.inr ⟨h1, h2⟩
  · rintro ((h | ⟨x, hx, h1, h2⟩) | ⟨h1, h2⟩)
    · exact Or.inl h
    · exact Or.inr ⟨x, by simp [hx], h1, h2⟩
    · exact Or.inr ⟨o, by simp, h1, h2⟩
theorem LotD.same {D : DataW Unit} {l : List Ord} {more : Int} {o : Ord} (h : LotD D l more) (hk : o.kind = 2) : LotD D (l ++ [o]) more := by
  have hn : namesO o = false := by unfold namesO; simp [hk]
  refine ⟨fun p => ?_, fun p => ?_⟩
  · have e1 : limBB p o = false := by unfold limBB; simp [hk]
    have e2 : limSB p o = false := by unfold limSB; simp [hk]
    rw [h.1 p, sumQ_snoc, sumQ_snoc, e1, e2]; simp
  · rw [h.2 p, pricesO_snoc, hn]; simp
theorem LotD.put {D : DataW Unit} {l : List Ord} {more : Int} {o : Ord} (h : LotD D l more) (hD : Maps.IsMap D) (hn : namesO o = true) :
    LotD (D.put (.int .i64 o.price) (lotE (sumQ (limBB o.price) (l ++ [o])) (sumQ (limSB o.price) (l ++ [o])))) (l ++ [o]) more := by
  refine ⟨fun p => ?_, fun p => ?_⟩
  · by_cases e : p = o.price
    · subst e; exact Maps.atKey_put_same hD (key_lit _) _ _
    · have e1 : limBB p o = false := by unfold limBB; simp [Ne.symm e]
      have e2 : limSB p o = false := by unfold limSB; simp [Ne.symm e]
      rw [Maps.atKey_put_other (key_ne e), h.1 p, sumQ_snoc, sumQ_snoc, e1, e2]; simp
  · rw [pricesO_snoc]
    by_cases e : p = o.price
    · subst e
      rw [Maps.has_put_same hD (key_lit _)]
      simp [hn]
    · rw [Maps.has_put_other (key_ne e), h.2 p]
      constructor
      · exact Or.inl
      · rintro (h1 | ⟨_, h1⟩)
        · exact h1
        · exact absurd h1.symm e
/-- the map in memory -/
def LotsAt (w : World) (B : Nat) (l : List Ord) (more : Int) : Prop := ∃ D, w.ownsMap Tryz.prog 3 lotR B (l.length + 1) D ∧ Maps.IsMap D ∧ LotD D l more
theorem LotsAt.lt {w : World} {B : Nat} {l : List Ord} {more : Int} (h : LotsAt w B l more) : B < w.heap.size := by
  obtain ⟨D, ho, _⟩ := h; exact ho.lt
theorem LotsAt.block {w w' : World} {B : Nat} {l : List Ord} {more : Int} (h : LotsAt w B l more) (hb : w'.heap[B]? = w.heap[B]?) : LotsAt w' B l more := by
  obtain ⟨D, ⟨es, clock, e1, e2, e3, e4⟩, h2⟩ := h
  exact ⟨D, ⟨es, clock, hb.trans e1, e2, e3, e4⟩, h2⟩
theorem LotsAt.below {w w' : World} {B : Nat} {l : List Ord} {more : Int} (h : LotsAt w B l more) (hb : Below w.heap.size w w') : LotsAt w' B l more := h.block (hb.block B h.lt)
theorem LotsAt.look {w : World} {B : Nat} {l : List Ord} {more : Int} (h : LotsAt w B l more) {p : Int} (hp : (Lit.int .i64 p).wf = true) :
    (Instr.lookup 194 (.map (some B)) (.int .i64 p) false).run Tryz.prog w = .ok (.agg #[.int .i64 (sumQ (limBB p) l), .int .i64 (sumQ (limSB p) l)]) w := by
  obtain ⟨D, ho, hD, hL⟩ := h
  obtain ⟨v, ps, hrun, hv⟩ := ho.lookup Tryz.cu_keyInt Tryz.underlying194 (Tryz.zeroLots w) (zd := lotE 0 0) (zp := []) rfl (Tryz.cu_keyIs hp)
  rw [hL.1 p] at hv
  rw [hrun, lotR_inv hv]
theorem LotsAt.store {w : World} {B : Nat} {l : List Ord} {more : Int} {o : Ord} (h : LotsAt w B l more) (hn : namesO o = true) (hp : (Lit.int .i64 o.price).wf = true) (hl : l.length ≤ 1000) :
    ∃ w', (Instr.mapUpdate 194 (.map (some B)) (.int .i64 o.price) (.agg #[.int .i64 (sumQ (limBB o.price) (l ++ [o])), .int .i64 (sumQ (limSB o.price) (l ++ [o]))])).run Tryz.prog w = .ok () w' ∧ LotsAt w' B (l ++ [o]) more ∧ w.grownBy w' (some B) := by
  obtain ⟨D, ho, hD, hL⟩ := h
  obtain ⟨w', hr, ho', hg⟩ := ho.update Tryz.cu_keyInt Tryz.underlying194 (by unfold maxLen; omega) (Tryz.cu_keyIs hp) (lotR_mk _ _)
  refine ⟨w', hr, ⟨_, ?_, hD.put _ _, hL.put hD hn⟩, hg⟩
  rw [List.length_append, List.length_singleton]
  exact ho'
theorem LotsAt.same {w : World} {B : Nat} {l : List Ord} {more : Int} {o : Ord} (h : LotsAt w B l more) (hk : o.kind = 2) : LotsAt w B (l ++ [o]) more := by
  obtain ⟨D, ho, hD, hL⟩ := h
  exact ⟨D, ho.mono (by simp), hD, hL.same hk⟩

/-- how many with one order more -/
def andB (o : Ord) (a : Int) : Int := if o.side = 1 then a + o.qty else a
def andS (o : Ord) (b : Int) : Int := if o.side = 1 then b else b + o.qty
set_option maxHeartbeats 1000000 in
theorem cuAnd (a b : Int) (o : Ord) (w : World) (ha : -4000000000000000000 ≤ a ∧ a ≤ 4000000000000000000) (hb : -4000000000000000000 ≤ b ∧ b ≤ 4000000000000000000) (ho : -1000000 ≤ o.qty ∧ o.qty ≤ 1000000) :
    Calls Tryz.prog 127 #[.agg #[.int .i64 a, .int .i64 b], .agg #[.int .i64 o.id, .int .i64 o.side, .int .i64 o.kind, .int .i64 o.price, .int .i64 o.qty]] w fun e w' => e = .returned (.agg #[.int .i64 (andB o a), .int .i64 (andS o b)]) ∧ Below w.heap.size w w' := by
  obtain ⟨ha1, ha2⟩ := ha
  obtain ⟨hb1, hb2⟩ := hb
  obtain ⟨ho1, ho2⟩ := ho
  by_cases hs : o.side = 1
  · have HA : Hid (andB o a = a + o.qty ∧ andS o b = b) := ⟨if_pos hs, if_pos hs⟩
    go_enter Tryz.func127, Tryz.ntmps127
    go_wp2_with fail
    go_returns
    refine ⟨by rw [HA.out.1, HA.out.2], ?_⟩
    go_grown
  · have HA : Hid (andB o a = a ∧ andS o b = b + o.qty) := ⟨if_neg hs, if_neg hs⟩
    go_enter Tryz.func127, Tryz.ntmps127
    go_wp2_with fail
    go_returns
    refine ⟨by rw [HA.out.1, HA.out.2], ?_⟩
    go_grown
set_option maxHeartbeats 1000000 in
theorem cuCounts (o : Ord) (w : World) :
    Calls Tryz.prog 126 #[.agg #[.int .i64 o.id, .int .i64 o.side, .int .i64 o.kind, .int .i64 o.price, .int .i64 o.qty]] w fun e w' => e = .returned (.bool (okO o)) ∧ Below w.heap.size w w' := by
  have HO : Hid (okO o = (((o.side == 1) || (o.side == 2)) && (decide (1 ≤ o.qty) && decide (o.qty ≤ 1000000)))) := by
    show okO o = _
    unfold okO
    congr 1
    rw [Bool.eq_iff_iff, inC_iff]; simp; omega
  go_enter Tryz.func126, Tryz.ntmps126
  go_wp2_with fail
  all_goals
    go_ret
    refine ⟨?_, cu_bel1 w _⟩
    rw [HO.out]
    first | (simp [*]; done) | (simp [*]; omega)
end Go.Proofs.YtjdkagafdnchhaaGreatDoor

/-
  What the program's keep returns of orders that count, over this seat's translation. Conditions stand in the theorem: where the orders lie, and that they are at most 1000.
-/
namespace Go.Proofs.YtjdkagafdnchhaaGreatDoor
open Go.RowKit

theorem ord_filter {q : Ord → Bool} {l : List Ord} {k : Nat} (h : k < l.length) : (l.take (k + 1)).filter q = if q (oAt l k) = true then (l.take k).filter q ++ [oAt l k] else (l.take k).filter q := by
  rw [List.take_succ_eq_append_getElem h, List.filter_append, oAt_eq h]
  by_cases hq : q l[k] = true
  · rw [if_pos hq]; simp [hq]
  · rw [if_neg hq]; simp [hq]
theorem cuO_snoc (a : List Ord) (x : Ord) : oV (a ++ [x]) = oV a ++ [.int .i64 x.id, .int .i64 x.side, .int .i64 x.kind, .int .i64 x.price, .int .i64 x.qty] := by rw [oV_append]; rfl
theorem Tryz.infoOd : (Tryz.prog.info? 41).map (fun i => (i.zero, i.size, i.bytes)) = some (some (.agg #[.int .i64 0, .int .i64 0, .int .i64 0, .int .i64 0, .int .i64 0]), 5, 40) := by kernel_rfl
/-- an order in a block of its own -/
def OdBox (w : World) (b : Nat) (o : Ord) : Prop := w.heap[b]? = some (.cells #[.int .i64 o.id, .int .i64 o.side, .int .i64 o.kind, .int .i64 o.price, .int .i64 o.qty] 41 (0, 0))
theorem OdBox.below {w w' : World} {b : Nat} {o : Ord} (h : OdBox w b o) (hb : Below w.heap.size w w') : OdBox w' b o := cu_keep h hb

set_option maxRecDepth 4000 in
set_option maxHeartbeats 4000000 in
theorem cuKeep (a : Option Addr) (cap : Nat) (l : List Ord) (w : World) (h : OrdsIn w a l) (hl : l.length ≤ 1000) :
    Calls Tryz.prog 125 #[.slice a l.length cap, .func (.func 126) #[] #[]] w fun e w' => ∃ v', e = .returned v' ∧ w'.ownsRow w.heap.size 41 5 v' (l.filter okO).length (oV (l.filter okO)) ∧ Below w.heap.size w w' := by
  obtain ⟨iP, hiP, hP0, hP1, hP2⟩ := info_parts Tryz.infoOd
  have HA : Hid (OrdsIn w a l) := h
  clear h
  go_enter Tryz.func125, Tryz.ntmps125
  go_wp2_with fail
  go_loopw [5, 10] (fun v i wr => ∃ k : Nat, k ≤ l.length ∧ i = .int .i64 k ∧ wr.ownsRow w.heap.size 41 5 v ((l.take k).filter okO).length (oV ((l.take k).filter okO)) ∧ Below w.heap.size w wr) (fun _ i _ => l.length - (RowKit.intOf i).toNat)
  case atStart => exact ⟨0, Nat.zero_le _, rfl, World.ownsRow_nil _ _ _ _, Below.refl _ _⟩
  case round =>
    obtain ⟨k, hk, rfl, hown, hb⟩ := hrel
    have HW : Hid (wr.ownsRow w.heap.size 41 5 u5 ((l.take k).filter okO).length (oV ((l.take k).filter okO))) := hown
    have HB : Hid (Below w.heap.size w wr) := hb
    have hbl : ((l.take k).filter okO).length ≤ 1000 := by
      have := List.length_filter_le okO (l.take k)
      rw [List.length_take] at this
      omega
    obtain ⟨vao, vcap, rfl, _, _⟩ := bk_shape hown
    clear hown
    by_cases hk1 : k < l.length
    · have hlt : (k : Int) < (l.length : Int) := by omega
      obtain ⟨b, off, rfl, d0, d1, d2, d3, d4⟩ := HA.out.below hb k hk1
      have HT : Hid ((l.take (k + 1)).filter okO = if okO (oAt l k) = true then (l.take k).filter okO ++ [oAt l k] else (l.take k).filter okO) := ord_filter hk1
      clear hb
      generalize oAt l k = x at d0 d1 d2 d3 d4 HT
      generalize (l.take k).filter okO = acc at HT HW hbl
      go_wp2_with fail
      have hX : OdBox (wr.alloc (.cells #[.int .i64 x.id, .int .i64 x.side, .int .i64 x.kind, .int .i64 x.price, .int .i64 x.qty] 41)) wr.heap.size x := heap_alloc_new wr _
      have hbA := cu_bel1 wr (.cells #[.int .i64 x.id, .int .i64 x.side, .int .i64 x.kind, .int .i64 x.price, .int .i64 x.qty] 41)
      generalize wr.alloc (.cells #[.int .i64 x.id, .int .i64 x.side, .int .i64 x.kind, .int .i64 x.price, .int .i64 x.qty] 41) = W at hX hbA ⊢
      generalize wr.heap.size = xb at hX ⊢
      refine (cuCounts x W).mono ?_
      rintro e w4 ⟨rfl, hb4⟩
      have hX4 := hX.below hb4
      have HW4 : Hid (w4.ownsRow w.heap.size 41 5 (.slice vao acc.length vcap) acc.length (oV acc)) := bk_below HW.out (cu_then hbA hb4) (Nat.le_refl _)
      have HB4 : Hid (Below w.heap.size w w4) := cu_then HB.out (cu_then hbA hb4)
      clear hX hbA hb4 HW HB d0 d1 d2 d3 d4
      cases hq : okO x with
      | true =>
        have HT2 : Hid ((l.take (k + 1)).filter okO = acc ++ [x]) := by rw [HT.out, if_pos hq]; rfl
        have y0 := cu_blk (j := 0) hX4 rfl
        have y1 := cu_blk (j := 1) hX4 rfl
        have y2 := cu_blk (j := 2) hX4 rfl
        have y3 := cu_blk (j := 3) hX4 rfl
        have y4 := cu_blk (j := 4) hX4 rfl
        clear HT hq hX4
        go_wp2_with (at_builtin; refine wpList_append_own_at _ rfl _ _ 59 rfl w.heap.size 41 iP (.agg #[.int .i64 0, .int .i64 0, .int .i64 0, .int .i64 0, .int .i64 0]) 5 40 Tryz.underlying59 hiP hP0 hP1 hP2 rfl (by decide) _ acc.length (oV acc) rfl (HW4.out.alloc _) ⟨w4.heap.size, 0, none⟩ 1 1 [.int .i64 x.id, .int .i64 x.side, .int .i64 x.kind, .int .i64 x.price, .int .i64 x.qty] rfl rfl (World.news_of_block (cs := #[.int .i64 x.id, .int .i64 x.side, .int .i64 x.kind, .int .i64 x.price, .int .i64 x.qty]) (t := 41) (fr := (0, 0)) (heap_alloc_new w4 _)) (by simp [Value.oneCell']) (by unfold maxLen; omega) (by omega) (by have := HB4.out.size; simp; omega) ?_; intro v' w6 hown6 hgrow6 _ _)
        go_roundw
        case rel =>
          refine ⟨k + 1, hk1, by go_num, ?_, (HB4.out.alloc HB4.out.size _).grown hgrow6 (by have := HB4.out.size; simp; omega) (fun q hq => (HW4.out.lt q hq).1)⟩
          rw [HT2.out, cuO_snoc, List.length_append, List.length_singleton]
          exact hown6
        case measure => simp [RowKit.intOf]; omega
      | false =>
        have HT2 : Hid ((l.take (k + 1)).filter okO = acc) := by rw [HT.out, if_neg (by rw [hq]; decide)]; rfl
        clear HT hq hX4
        go_wp2_with fail
        go_roundw
        case rel => exact ⟨k + 1, hk1, by go_num, by rw [HT2.out]; exact HW4.out, HB4.out⟩
        case measure => simp [RowKit.intOf]; omega
    · obtain rfl : k = l.length := by omega
      rw [List.take_length] at HW hbl ⊢
      clear hb
      go_wp2_with fail
      go_ret
      exact ⟨_, rfl, HW.out, HB.out⟩
end Go.Proofs.YtjdkagafdnchhaaGreatDoor

/-
  What slices.Sort does to a row of whole numbers, over this seat's translation: by the library's own contract, each function's body held against the one of which that is proved. Conditions stand in each theorem.
-/
namespace Go.Proofs.YtjdkagafdnchhaaGreatDoor
open Go.Shelf
def lays189_ren : Go.Shelf.Ren := ⟨fun | 189 => 193 | 125 => 201 | 257 => 200 | 128 => 214 | 129 => 215 | 294 => 205 | 295 => 206 | 296 => 207 | 297 => 208 | 298 => 209 | 299 => 210 | 216 => 211 | 300 => 212 | 301 => 213 | 328 => 216 | 329 => 217 | 330 => 218 | 331 => 219 | 332 => 220 | 215 => 221 | 343 => 222 | n => n, fun | 28 => 65 | 0 => 0 | 3 => 3 | 46 => 208 | 51 => 283 | 53 => 285 | 4 => 4 | 183 => 276 | 182 => 275 | 131 => 280 | 5 => 5 | 9 => 9 | 218 => 286 | 222 => 290 | 228 => 292 | 229 => 57 | n => n, fun | n => n⟩
theorem lays189 : Go.Proofs.Lays.n189 Tryz.prog lays189_ren := {
  mixed := by kernel_rfl
  f125 := Tryz.func201.trans (congrArg some (by kernel_rfl))
  f128 := Tryz.func214.trans (congrArg some (by kernel_rfl))
  f129 := Tryz.func215.trans (congrArg some (by kernel_rfl))
  f189 := Tryz.func193.trans (congrArg some (by kernel_rfl))
  f215 := Tryz.func221.trans (congrArg some (by kernel_rfl))
  f216 := Tryz.func211.trans (congrArg some (by kernel_rfl))
  f257 := Tryz.func200.trans (congrArg some (by kernel_rfl))
  f294 := Tryz.func205.trans (congrArg some (by kernel_rfl))
  f295 := Tryz.func206.trans (congrArg some (by kernel_rfl))
  f296 := Tryz.func207.trans (congrArg some (by kernel_rfl))
  f297 := Tryz.func208.trans (congrArg some (by kernel_rfl))
  f298 := Tryz.func209.trans (congrArg some (by kernel_rfl))
  f299 := Tryz.func210.trans (congrArg some (by kernel_rfl))
  f300 := Tryz.func212.trans (congrArg some (by kernel_rfl))
  f301 := Tryz.func213.trans (congrArg some (by kernel_rfl))
  f328 := Tryz.func216.trans (congrArg some (by kernel_rfl))
  f329 := Tryz.func217.trans (congrArg some (by kernel_rfl))
  f330 := Tryz.func218.trans (congrArg some (by kernel_rfl))
  f331 := Tryz.func219.trans (congrArg some (by kernel_rfl))
  f332 := Tryz.func220.trans (congrArg some (by kernel_rfl))
  f343 := Tryz.func222.trans (congrArg some (by kernel_rfl))
  t0 := Tryz.underlying0
  a0 := Tryz.isAgg0
  z0 := Tryz.sizeOf0
  v0 := Tryz.zeroValue0
  t3 := Tryz.underlying3
  a3 := Tryz.isAgg3
  z3 := Tryz.sizeOf3
  v3 := Tryz.zeroValue3
  t4 := Tryz.underlying4
  a4 := Tryz.isAgg4
  z4 := Tryz.sizeOf4
  v4 := Tryz.zeroValue4
  t5 := Tryz.underlying5
  a5 := Tryz.isAgg5
  z5 := Tryz.sizeOf5
  v5 := Tryz.zeroValue5
  t9 := Tryz.underlying9
  a9 := Tryz.isAgg9
  z9 := Tryz.sizeOf9
  v9 := Tryz.zeroValue9
  t28 := Tryz.underlying65
  a28 := Tryz.isAgg65
  z28 := Tryz.sizeOf65
  v28 := Tryz.zeroValue65
  t46 := Tryz.underlying208
  a46 := Tryz.isAgg208
  z46 := Tryz.sizeOf208
  v46 := Tryz.zeroValue208
  t51 := Tryz.underlying283
  a51 := Tryz.isAgg283
  z51 := Tryz.sizeOf283
  v51 := Tryz.zeroValue283
  t53 := Tryz.underlying285
  a53 := Tryz.isAgg285
  z53 := Tryz.sizeOf285
  v53 := Tryz.zeroValue285
  t131 := Tryz.underlying280
  a131 := Tryz.isAgg280
  z131 := Tryz.sizeOf280
  v131 := Tryz.zeroValue280
  t182 := Tryz.underlying275
  a182 := Tryz.isAgg275
  z182 := Tryz.sizeOf275
  v182 := Tryz.zeroValue275
  t183 := Tryz.underlying276
  a183 := Tryz.isAgg276
  z183 := Tryz.sizeOf276
  v183 := Tryz.zeroValue276
  t218 := Tryz.underlying286
  a218 := Tryz.isAgg286
  z218 := Tryz.sizeOf286
  v218 := Tryz.zeroValue286
  t222 := Tryz.underlying290
  a222 := Tryz.isAgg290
  z222 := Tryz.sizeOf290
  v222 := Tryz.zeroValue290
  t228 := Tryz.underlying292
  a228 := Tryz.isAgg292
  z228 := Tryz.sizeOf292
  v228 := Tryz.zeroValue292
  t229 := Tryz.underlying57
  a229 := Tryz.isAgg57
  z229 := Tryz.sizeOf57
  v229 := Tryz.zeroValue57 }
end Go.Proofs.YtjdkagafdnchhaaGreatDoor

/-
  What maps.Keys and slices.Sorted return of a map of lots, over this seat's translation: by the library's own contracts, each function's body held against the one of which those are proved. Conditions stand in each theorem.
-/
namespace Go.Proofs.YtjdkagafdnchhaaGreatDoor
open Go.RowKit Go.Maps Go.Sort Go.Shelf

def laysK_ren : Go.Shelf.Ren := ⟨fun | 7 => 167 | 10 => 197 | n => n, fun | 23 => 194 | 26 => 3 | 3 => 193 | 28 => 246 | 0 => 0 | 27 => 245 | 33 => 109 | 4 => 4 | n => n, fun n => n⟩
theorem laysK : Go.Proofs.SlLaysZI.n7 Tryz.prog laysK_ren := {
  mixed := by kernel_rfl
  f7 := ⟨Tryz.f167.name, by kernel_rfl, Tryz.func167.trans (congrArg some (by kernel_rfl))⟩
  f10 := ⟨Tryz.f197.name, by kernel_rfl, Tryz.func197.trans (congrArg some (by kernel_rfl))⟩
  t0 := Tryz.underlying0
  a0 := Tryz.isAgg0
  z0 := Tryz.sizeOf0
  v0 := Tryz.zeroValue0
  t4 := Tryz.underlying4
  a4 := Tryz.isAgg4
  z4 := Tryz.sizeOf4
  v4 := Tryz.zeroValue4
  t23 := Tryz.underlying194
  a23 := Tryz.isAgg194
  z23 := Tryz.sizeOf194
  v23 := Tryz.zeroValue194
  t26 := Tryz.underlying3
  a26 := Tryz.isAgg3
  z26 := Tryz.sizeOf3
  v26 := Tryz.zeroValue3
  t27 := Tryz.underlying245
  a27 := Tryz.isAgg245
  z27 := Tryz.sizeOf245
  v27 := Tryz.zeroValue245
  t28 := Tryz.underlying246
  a28 := Tryz.isAgg246
  z28 := Tryz.sizeOf246
  v28 := Tryz.zeroValue246
  t33 := Tryz.underlying109
  a33 := Tryz.isAgg109
  z33 := Tryz.sizeOf109
  v33 := Tryz.zeroValue109 }
def laysS_ren : Go.Shelf.Ren := ⟨fun | 6 => 166 | 8 => 196 | 9 => 193 | 11 => 202 | n => n, fun | 26 => 3 | 28 => 246 | 24 => 65 | 0 => 0 | 3 => 3 | 33 => 109 | 4 => 4 | n => n, fun n => n⟩
theorem laysS : Go.Proofs.SlLaysZI.n6 Tryz.prog laysS_ren := {
  mixed := by kernel_rfl
  f6 := ⟨Tryz.f166.name, by kernel_rfl, Tryz.func166.trans (congrArg some (by kernel_rfl))⟩
  f8 := ⟨Tryz.f196.name, by kernel_rfl, Tryz.func196.trans (congrArg some (by kernel_rfl))⟩
  f11 := ⟨Tryz.f202.name, by kernel_rfl, Tryz.func202.trans (congrArg some (by kernel_rfl))⟩
  t0 := Tryz.underlying0
  a0 := Tryz.isAgg0
  z0 := Tryz.sizeOf0
  v0 := Tryz.zeroValue0
  t24 := Tryz.underlying65
  a24 := Tryz.isAgg65
  z24 := Tryz.sizeOf65
  v24 := Tryz.zeroValue65
  t26 := Tryz.underlying3
  a26 := Tryz.isAgg3
  z26 := Tryz.sizeOf3
  v26 := Tryz.zeroValue3
  t28 := Tryz.underlying246
  a28 := Tryz.isAgg246
  z28 := Tryz.sizeOf246
  v28 := Tryz.zeroValue246
  i26 := by kernel_rfl }
/-- slices.Sort's two contracts -/
theorem sortsS (m : Nat) : AnyZI.SortsIn Tryz.prog laysS_ren Fence.wide m :=
  ⟨fun blk off cap ss W hH hblk hsz => callsIn_wide.2 (Any.slices_Sort_int { lays189 with } blk off cap ss W hH hblk hsz),
   fun p cap W => callsIn_wide.2 (Any.slices_Sort_int_none { lays189 with } p cap W)⟩
theorem keysCall (mb : Option Nat) (W : World) : Calls Tryz.prog 167 #[.map mb] W fun e w' => e = .returned (.func (.func 197) #[] #[.pointer (some ⟨W.heap.size, 0, none⟩)]) ∧ w' = W.alloc (.cells #[.map mb] 194) :=
  (callsIn_wide (n := 5)).1 (AnyZI.keys_in laysK Fence.wide 5 trivial rfl mb W)
theorem sortedCall {R : Value → Option (DataW Unit × List MemPlace)} (b nn : Nat) (D0 : DataW Unit) (w : World) (hown : w.ownsMap Tryz.prog 3 R b nn D0) (hmax : Maps.size D0 ≤ 100000) :
    Calls Tryz.prog 166 #[.func (.func 197) #[] #[.pointer (some ⟨w.heap.size, 0, none⟩)]] (w.alloc (.cells #[.map (some b)] 194)) fun e w' => ∃ (v : Value) (ss : List Int), e = .returned v ∧ ss.Perm (intKeys D0) ∧
      w'.ownsRow (w.alloc (.cells #[.map (some b)] 194)).heap.size 3 1 v ss.length ((ss.mergeSort (fun x y => decide (x ≤ y))).map encZ) ∧ (v = .slice none 0 0 ↔ ss = []) ∧ Below (w.alloc (.cells #[.map (some b)] 194)).heap.size (w.alloc (.cells #[.map (some b)] 194)) w' := by
  have hbl := hown.lt
  have hseq : SeqGives Fence.wide 2 Tryz.prog 197 #[.pointer (some ⟨w.heap.size, 0, none⟩)] encZ (fun ss => ss.Perm (intKeys D0)) (Maps.size D0) (w.alloc (.cells #[.map (some b)] 194)) :=
    AnyZI.keys_gives (ρ := laysK_ren) { laysK with } Fence.wide _ trivial rfl (by omega) w.heap.size b nn D0 _ (by simp) (by simp) (by
      obtain ⟨es, clock, hb, Ft, hs, hD⟩ := hown
      exact ⟨es, clock, (Below.heap_alloc _ _ b hbl).trans hb, Ft, hs, hD⟩)
  have cS := AnyZI.sorted_in laysS Fence.wide 5 trivial trivial trivial trivial rfl (by omega) (sortsS _) (enters_of Tryz.func193 (by kernel_rfl) rfl) 197 #[.pointer (some ⟨w.heap.size, 0, none⟩)] trivial (enters_of Tryz.func197 (by kernel_rfl) rfl) _ _ (by unfold maxLen; omega) (by omega) _ hseq
  exact (callsIn_wide (n := 5)).1 cS
end Go.Proofs.YtjdkagafdnchhaaGreatDoor
