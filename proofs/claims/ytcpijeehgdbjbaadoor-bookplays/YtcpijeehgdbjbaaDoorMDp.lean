/-
  Levels of a side: the document's depth as plain lists, and how lists of levels lie in memory. Conditions stand in each theorem.
-/
import Derived.Test.YtcpijeehgdbjbaaDoorMBa
import Derived.Test.YtcpijeehgdbjbaaDoorMPd
import Derived.Sort.QuietThIn
import Derived.Sort.BigQuietIn
import Derived.Test.YtcpijeehgdbjbaaDoorMBd
import Derived.Maps.AppendAt
import Derived.Deep.Onto
namespace Go.Proofs.YtcpijeehgdbjbaaDoor
open Go.RowKit

structure Lev where
  price : Int
  qty : Int
  orders : Int
def Lev.none_ : Lev := ⟨0, 0, 0⟩
def lvV : List Lev → List Value
  | [] => []
  | x :: l => .int .i64 x.price :: .int .i64 x.qty :: .int .i64 x.orders :: lvV l
def lvAt (l : List Lev) (k : Nat) : Lev := l.getD k Lev.none_
theorem lvV_length (l : List Lev) : (lvV l).length = l.length * 3 := by
  induction l with
  | nil => rfl
  | cons o l ih => simp [lvV, ih]; omega
theorem lvV_append (a b : List Lev) : lvV (a ++ b) = lvV a ++ lvV b := by
  induction a with
  | nil => rfl
  | cons o a ih => simp [lvV, ih]
theorem lvV_snoc (a : List Lev) (x : Lev) : lvV (a ++ [x]) = lvV a ++ [.int .i64 x.price, .int .i64 x.qty, .int .i64 x.orders] := by rw [lvV_append]; rfl
theorem lvV_at {l : List Lev} {k : Nat} (h : k < l.length) : (lvV l)[k * 3]? = some (.int .i64 (lvAt l k).price) ∧ (lvV l)[k * 3 + 1]? = some (.int .i64 (lvAt l k).qty) ∧ (lvV l)[k * 3 + 2]? = some (.int .i64 (lvAt l k).orders) := by
  induction l generalizing k with
  | nil => simp at h
  | cons o l ih =>
    cases k with
    | zero => exact ⟨rfl, rfl, rfl⟩
    | succ k =>
      have := ih (k := k) (by simpa using h)
      rw [show (k + 1) * 3 = k * 3 + 1 + 1 + 1 by omega]
      have e : lvAt (o :: l) (k + 1) = lvAt l k := by simp [lvAt]
      rw [e]
      simpa [lvV] using this
theorem lvV_set (q n : Int) : ∀ (l : List Lev) (k : Nat), k < l.length → ((lvV l).set (k * 3 + 1) (.int .i64 q)).set (k * 3 + 2) (.int .i64 n) = lvV (l.set k ⟨(lvAt l k).price, q, n⟩)
  | [], _, h => by simp at h
  | o :: l, 0, _ => by simp [lvV, lvAt]
  | o :: l, k + 1, h => by
    have := lvV_set q n l k (by simpa using h)
    have e : lvAt (o :: l) (k + 1) = lvAt l k := by simp [lvAt]
    rw [e, show (k + 1) * 3 + 1 = k * 3 + 1 + 1 + 1 + 1 by omega, show (k + 1) * 3 + 2 = k * 3 + 2 + 1 + 1 + 1 by omega]
    simp [lvV, this]
theorem lvAt_eq {l : List Lev} {k : Nat} (h : k < l.length) : lvAt l k = l[k] := by simp [lvAt, h]
theorem lvAt_mem {l : List Lev} {k : Nat} (h : k < l.length) : lvAt l k ∈ l := by rw [lvAt_eq h]; exact List.getElem_mem h
theorem lvAt_pushed (l : List Lev) (x : Lev) : lvAt (l ++ [x]) l.length = x := by simp [lvAt]

/-- one order more -/
def incL (x : Lev) (o : Ord) : Lev := ⟨x.price, x.qty + o.qty, x.orders + 1⟩
def depStep (acc : List Lev) (o : Ord) : List Lev :=
  if o.kind = 2 then acc
  else if 0 < acc.length ∧ (lvAt acc (acc.length - 1)).price = o.price then acc.set (acc.length - 1) (incL (lvAt acc (acc.length - 1)) o)
  else acc ++ [⟨o.price, o.qty, 1⟩]
def depth (l : List Ord) : List Lev := l.foldl depStep []
theorem depth_snoc (l : List Ord) (o : Ord) : depth (l ++ [o]) = depStep (depth l) o := by simp [depth]
theorem depth_take {l : List Ord} {k : Nat} (h : k < l.length) : depth (l.take (k + 1)) = depStep (depth (l.take k)) (oAt l k) := by
  rw [List.take_succ_eq_append_getElem h, depth_snoc, oAt_eq h]
theorem step_market {acc : List Lev} {o : Ord} (h : o.kind = 2) : depStep acc o = acc := if_pos h
theorem step_same {acc : List Lev} {o : Ord} (h : ¬ o.kind = 2) (h1 : 0 < acc.length) (h2 : (lvAt acc (acc.length - 1)).price = o.price) : depStep acc o = acc.set (acc.length - 1) (incL (lvAt acc (acc.length - 1)) o) := by
  unfold depStep; rw [if_neg h, if_pos ⟨h1, h2⟩]
theorem step_other {acc : List Lev} {o : Ord} (h : ¬ o.kind = 2) (h1 : ¬ (0 < acc.length ∧ (lvAt acc (acc.length - 1)).price = o.price)) : depStep acc o = acc ++ [⟨o.price, o.qty, 1⟩] := by
  unfold depStep; rw [if_neg h, if_neg h1]
/-- nothing grows too great -/
structure LevOk (k : Nat) (acc : List Lev) : Prop where
  len : acc.length ≤ k
  each : ∀ x ∈ acc, 0 ≤ x.qty ∧ x.qty ≤ 1000000 * (k : Int) ∧ 0 ≤ x.orders ∧ x.orders ≤ (k : Int)
theorem LevOk.step {k : Nat} {acc : List Lev} {o : Ord} (h : LevOk k acc) (ho : 0 ≤ o.qty ∧ o.qty ≤ 1000000) : LevOk (k + 1) (depStep acc o) := by
  have each : ∀ x ∈ acc, 0 ≤ x.qty ∧ x.qty ≤ 1000000 * ((k + 1 : Nat) : Int) ∧ 0 ≤ x.orders ∧ x.orders ≤ ((k + 1 : Nat) : Int) := fun x hx => by have := h.each x hx; omega
  have hl := h.len
  by_cases h1 : o.kind = 2
  · rw [step_market h1]; exact ⟨by omega, each⟩
  by_cases h2 : 0 < acc.length ∧ (lvAt acc (acc.length - 1)).price = o.price
  · rw [step_same h1 h2.1 h2.2]
    refine ⟨by rw [List.length_set]; omega, fun x hx => ?_⟩
    rcases List.mem_or_eq_of_mem_set hx with hx | rfl
    · exact each x hx
    · have := h.each _ (lvAt_mem (l := acc) (k := acc.length - 1) (by omega))
      show 0 ≤ _ + _ ∧ _ + _ ≤ _ ∧ 0 ≤ _ + _ ∧ _ + _ ≤ _
      omega
  · rw [step_other h1 h2]
    refine ⟨by simp; omega, fun x hx => ?_⟩
    rcases List.mem_append.1 hx with hx | hx
    · exact each x hx
    · simp at hx; subst hx
      show 0 ≤ o.qty ∧ o.qty ≤ _ ∧ (0 : Int) ≤ 1 ∧ (1 : Int) ≤ _
      omega
theorem LevOk.nil : LevOk 0 [] := ⟨Nat.le_refl _, fun x hx => by cases hx⟩
theorem depth_ok {l : List Ord} (h : ∀ o ∈ l, 0 ≤ o.qty ∧ o.qty ≤ 1000000) : ∀ k, k ≤ l.length → LevOk k (depth (l.take k))
  | 0, _ => by rw [List.take_zero]; exact LevOk.nil
  | k + 1, hk => by
    have hk' : k < l.length := by omega
    rw [depth_take hk']
    exact (depth_ok h k (by omega)).step (h _ (by rw [oAt_eq hk']; exact List.getElem_mem hk'))
theorem LevOk.last {k : Nat} {acc : List Lev} (h : LevOk k acc) (h1 : 0 < acc.length) : 0 ≤ (lvAt acc (acc.length - 1)).qty ∧ (lvAt acc (acc.length - 1)).qty ≤ 1000000 * (k : Int) ∧ 0 ≤ (lvAt acc (acc.length - 1)).orders ∧ (lvAt acc (acc.length - 1)).orders ≤ (k : Int) := h.each _ (lvAt_mem (by omega))
/-! the same, with numbers that wrap: whatever the orders are -/
def incW (x : Lev) (o : Ord) : Lev := ⟨x.price, wrap64 (x.qty + o.qty), wrap64 (x.orders + 1)⟩
def depStepW (acc : List Lev) (o : Ord) : List Lev :=
  if o.kind = 2 then acc
  else if 0 < acc.length ∧ (lvAt acc (acc.length - 1)).price = o.price then acc.set (acc.length - 1) (incW (lvAt acc (acc.length - 1)) o)
  else acc ++ [⟨o.price, wrap64 o.qty, 1⟩]
def depthW (l : List Ord) : List Lev := l.foldl depStepW []
theorem depthW_snoc (l : List Ord) (o : Ord) : depthW (l ++ [o]) = depStepW (depthW l) o := by simp [depthW]
theorem stepW_market {acc : List Lev} {o : Ord} (h : o.kind = 2) : depStepW acc o = acc := if_pos h
theorem stepW_same {acc : List Lev} {o : Ord} (h : ¬ o.kind = 2) (h1 : 0 < acc.length) (h2 : (lvAt acc (acc.length - 1)).price = o.price) : depStepW acc o = acc.set (acc.length - 1) (incW (lvAt acc (acc.length - 1)) o) := by
  unfold depStepW; rw [if_neg h, if_pos ⟨h1, h2⟩]
theorem stepW_other {acc : List Lev} {o : Ord} (h : ¬ o.kind = 2) (h1 : ¬ (0 < acc.length ∧ (lvAt acc (acc.length - 1)).price = o.price)) : depStepW acc o = acc ++ [⟨o.price, wrap64 o.qty, 1⟩] := by
  unfold depStepW; rw [if_neg h, if_neg h1]
theorem stepW_len (acc : List Lev) (o : Ord) : (depStepW acc o).length ≤ acc.length + 1 := by
  unfold depStepW
  split
  · omega
  split
  · simp
  · simp
theorem foldW_len : ∀ (l : List Ord) (acc : List Lev), (l.foldl depStepW acc).length ≤ acc.length + l.length
  | [], acc => by simp
  | o :: l, acc => by
    have h1 := foldW_len l (depStepW acc o)
    have h2 := stepW_len acc o
    simp only [List.foldl_cons, List.length_cons]
    omega
theorem depthW_len (l : List Ord) : (depthW l).length ≤ l.length := by have := foldW_len l []; simpa [depthW] using this
theorem stepW_eq {k : Nat} {acc : List Lev} {o : Ord} (h : LevOk k acc) (hk : k ≤ 1000) (ho : 0 ≤ o.qty ∧ o.qty ≤ 1000000) : depStepW acc o = depStep acc o := by
  by_cases h1 : o.kind = 2
  · rw [stepW_market h1, step_market h1]
  by_cases h2 : 0 < acc.length ∧ (lvAt acc (acc.length - 1)).price = o.price
  · rw [stepW_same h1 h2.1 h2.2, step_same h1 h2.1 h2.2]
    have := h.last h2.1
    unfold incW incL
    rw [IntWalk.wrap64_in _ (by omega), IntWalk.wrap64_in _ (by omega)]
  · rw [stepW_other h1 h2, step_other h1 h2, IntWalk.wrap64_in _ (by omega)]
theorem depthW_eq {l : List Ord} (h : ∀ o ∈ l, 0 ≤ o.qty ∧ o.qty ≤ 1000000) (hl : l.length ≤ 1000) : depthW l = depth l := by
  have hk : ∀ k, k ≤ l.length → depthW (l.take k) = depth (l.take k) := fun k => by
    induction k with
    | zero => intro _; rfl
    | succ k ih =>
      intro hk
      have hk' : k < l.length := by omega
      rw [depth_take hk', List.take_succ_eq_append_getElem hk', depthW_snoc, ih (by omega), ← oAt_eq hk']
      exact stepW_eq (depth_ok h k (by omega)) (by omega) (h _ (by rw [oAt_eq hk']; exact List.getElem_mem hk'))
  have := hk l.length (Nat.le_refl _)
  rwa [List.take_length] at this
/-- the last level's cells -/
theorem row_last {w : World} {base : Nat} {v : Value} {l : List Lev} (h : w.ownsRow base 148 3 v l.length (lvV l)) {k : Nat} (hk : k < l.length) :
    ∃ g cap, v = .slice (some ⟨g, 0, none⟩) l.length cap ∧ w.cell? ⟨g, k * 3, none⟩ = some (.int .i64 (lvAt l k).price) ∧ w.cell? ⟨g, k * 3 + 1, none⟩ = some (.int .i64 (lvAt l k).qty) ∧ w.cell? ⟨g, k * 3 + 2, none⟩ = some (.int .i64 (lvAt l k).orders) ∧ w.frozen? ⟨g, k * 3 + 1, none⟩ = false ∧ w.frozen? ⟨g, k * 3 + 2, none⟩ = false := by
  obtain ⟨g, cap, rfl, _, _⟩ := h.form (by omega)
  obtain ⟨h1, h2, h3⟩ := lvV_at hk
  exact ⟨g, cap, rfl, (h.cellAt _ (by omega)).trans h1, (h.cellAt _ (by omega)).trans h2, (h.cellAt _ (by omega)).trans h3, h.frozenAt _, h.frozenAt _⟩
/-- both its numbers are written -/
theorem row_inc {w : World} {base g n cap k : Nat} {l : List Lev} {q m : Int} (h : w.ownsRow base 148 3 (.slice (some ⟨g, 0, none⟩) n cap) l.length (lvV l)) (hk : k < l.length) :
    ((w.setCell ⟨g, k * 3 + 1, none⟩ (.int .i64 q)).setCell ⟨g, k * 3 + 2, none⟩ (.int .i64 m)).ownsRow base 148 3 (.slice (some ⟨g, 0, none⟩) n cap) (l.set k ⟨(lvAt l k).price, q, m⟩).length (lvV (l.set k ⟨(lvAt l k).price, q, m⟩)) := by
  rcases h.2 with ⟨he, _⟩ | ⟨g', cap', cur, he, _⟩
  · cases he
  injection he with _ he _
  subst he
  obtain ⟨h1, _⟩ := h.stored (k * 3 + 1) (.int .i64 q)
  obtain ⟨h2, _⟩ := h1.stored (k * 3 + 2) (.int .i64 m)
  rw [List.length_set, ← lvV_set q m l k hk]
  exact h2
theorem Tryd.infoLev : (Tryd.prog.info? 148).map (fun i => (i.zero, i.size, i.bytes)) = some (some (.agg #[.int .i64 0, .int .i64 0, .int .i64 0]), 3, 24) := by kernel_rfl
end Go.Proofs.YtcpijeehgdbjbaaDoor

/-
  A region that draws its order and only reads, in the round of a range over a function: one walk of its text serves every order, as it does outside of a round. Over any program; conditions stand in each theorem.
-/
namespace Go.Proofs.YtcpijeehgdbjbaaDoor
open Go.RowKit

def plainOps (ops : Array Oper) : Bool := ops.all fun o => match o.op with
  | .defer _ => false
  | _ => true
theorem plain_spec {ops : Array Oper} (h : plainOps ops = true) {i : Nat} {o : Oper} (hi : ops[i]? = some o) : ∀ c, o.op ≠ .defer c := fun c e => by
  have := Array.all_eq_true'.1 h o (Array.mem_of_getElem? hi)
  rw [e] at this
  cases this
section
variable {F : Fence} {n lp : Nat} {P : Program} {ops : Array Oper} {Q : Exit → Act → World → Prop} {md : Region.Mode}
theorem oper_round {o : Oper} {a : Act} {w : World} {K : Act → World → Prop} (hro : F.round = none) (hd : ∀ c, o.op ≠ .defer c) (h : o.wpIn F n P a w K Q) : o.wpIn (F.inRound lp) n P a w K Q := by
  unfold Oper.wpIn at *
  rw [hro, Oper.semAt_none] at h
  rw [Fence.inRound_round, Oper.semAt_some lp _ _ hd]
  refine ⟨h.1, ?_⟩
  have h2 := h.2
  generalize (execOp a.eval o).run P w = r at *
  cases r with
  | ok x w' => cases x <;> exact h2
  | halt x w' => cases x <;> exact h2
theorem opIn_round (hp : plainOps ops = true) (hro : F.round = none) {i : Nat} {a : Act} {w : World} {K : Act → World → Prop} (h : wpOpIn F n P ops Q i K a w) : wpOpIn (F.inRound lp) n P ops Q i K a w := by
  unfold wpOpIn at *
  cases ho : ops[i]? with
  | none => rw [ho] at h; exact h
  | some o =>
    rw [ho] at h
    dsimp only at h ⊢
    split
    · rename_i hw
      rw [if_pos hw] at h
      exact oper_round hro (plain_spec hp ho) h
    · rename_i hw
      rw [if_neg hw] at h
      exact h
theorem anyIn_round (hp : plainOps ops = true) (hro : F.round = none) : ∀ (fuel : Nat) (listed : Array Bool) (a : Act) (w : World), wpAnyIn F n P md ops Q fuel listed a w → wpAnyIn (F.inRound lp) n P md ops Q fuel listed a w
  | 0, _, _, _, h => h
  | fuel + 1, _, _, _, h => ⟨h.1, fun i hi => opIn_round hp hro (wpOpIn_mono (fun a' w' h' => anyIn_round hp hro fuel _ a' w' h') (h.2 i hi))⟩
theorem quiet_round {id : Nat} {a : Act} {w : World} {l : List Oper} (hro : F.round = none) (hp : plainOps l.toArray = true) (hm : P.follows .mixedOrders = true) (hB : Region.lexB .any l.toArray = true)
    (h : wpQuietIn F n P l.toArray (fun w' => ∃ n, w' = w.drewN n) (fun a' => ∀ w', (∃ n, w' = w.drewN n) → Q .normal a' w') l a) : (Code.region id l.toArray true).wpIn (F.inRound lp) n P Q a w := by
  simp only [Region.lexB, Bool.and_eq_true] at hB
  refine wpIn_region_any hm (anyIn_round hp hro _ _ _ _ (wpAnyIn_of_quiet (C := fun w' => ∃ n, w' = w.drewN n) (Q := fun a' => ∀ w', (∃ n, w' = w.drewN n) → Q .normal a' w') hro (fun _ w' hw' h => h w' hw') _ _ _ _ ⟨1, rfl⟩ ?_))
  have := wpAnyQIn_lex (F := F) (n := n) (C := fun w' => ∃ n, w' = w.drewN n) (md := .any) hB.1 l.toArray.toList 0 (Array.replicate l.toArray.size false) a (by simp) (by simpa using hB.2) (by simpa using h)
  simpa using this
end
end Go.Proofs.YtcpijeehgdbjbaaDoor

/-
  What the program's Depth returns, over this seat's translation. Conditions stand in each theorem.
-/
namespace Go.Proofs.YtcpijeehgdbjbaaDoor
open Go.RowKit Go.Shelf

attribute [local go_sem] Oper.semAt_some

theorem blk_apart {w : World} {b b' : Nat} {vs vs' : Array Value} {t t' : TypeId} {f f' : Nat × Nat} (h : w.heap[b]? = some (.cells vs t f)) (h' : w.heap[b']? = some (.cells vs' t' f')) (ht : t ≠ t') : b ≠ b' := fun e => by
  subst e
  rw [h] at h'
  injection h' with h'
  injection h' with _ h' _
  exact ht h'
/-- a block that an append, and the store behind it, leave as it was -/
theorem app_keep {V w1 : World} {b B base size n : Nat} {vs : Array Value} {t e : TypeId} {v u : Value} {xs : List Value} {tmp : Obj} (h : V.heap[b]? = some (.cells vs t (0, 0))) (hrow : V.ownsRow base e size v n xs) (hte : t ≠ e) (hg : (V.alloc tmp).grownBy w1 v.ownBlock) (hb : b ≠ B) : (w1.setCell ⟨B, 0, none⟩ u).heap[b]? = some (.cells vs t (0, 0)) := by
  have h1 := blk_below h (bel1 V tmp) (Nat.le_refl _)
  have h2 := (hg.block b (lt_of_some h1) (fun e' => owns_type hrow h hte e'.symm)).trans h1
  exact blk_out h2 (out_set w1 ⟨B, 0, none⟩ u) hb
/-- the end of a round: the last level's numbers are written -/
theorem dep_close {w W V : World} {bb gl n vcap : Nat} {q m : Int} {acc l' : List Lev} (hv : Boxed V w.heap.size 95 (.slice (some ⟨gl, 0, none⟩) (n + 1) vcap)) (hrow : V.ownsRow w.heap.size 148 3 (.slice (some ⟨gl, 0, none⟩) (n + 1) vcap) acc.length (lvV acc)) (hn : n < acc.length)
    (hbb : W.heap[w.heap.size + 1]? = some (.cells #[.pointer (some ⟨bb, 0, none⟩)] 74 (0, 0))) (hbbV : V.heap[w.heap.size + 1]? = some (.cells #[.pointer (some ⟨bb, 0, none⟩)] 74 (0, 0))) (hk : KeepsOthers W V) (hb : Below w.heap.size W V) (hBW : Below w.heap.size w W) (hl' : l' = acc.set n ⟨(lvAt acc n).price, q, m⟩) :
    KeepsOthers W ((V.setCell ⟨gl, n * 3 + 1, none⟩ (.int .i64 q)).setCell ⟨gl, n * 3 + 2, none⟩ (.int .i64 m)).drew ∧ KpL w.heap.size (w.heap.size + 1) W ((V.setCell ⟨gl, n * 3 + 1, none⟩ (.int .i64 q)).setCell ⟨gl, n * 3 + 2, none⟩ (.int .i64 m)).drew
    ∧ ((∃ v, Boxed ((V.setCell ⟨gl, n * 3 + 1, none⟩ (.int .i64 q)).setCell ⟨gl, n * 3 + 2, none⟩ (.int .i64 m)).drew w.heap.size 95 v ∧ ((V.setCell ⟨gl, n * 3 + 1, none⟩ (.int .i64 q)).setCell ⟨gl, n * 3 + 2, none⟩ (.int .i64 m)).drew.ownsRow w.heap.size 148 3 v l'.length (lvV l') ∧ True)
      ∧ ((V.setCell ⟨gl, n * 3 + 1, none⟩ (.int .i64 q)).setCell ⟨gl, n * 3 + 2, none⟩ (.int .i64 m)).drew.heap[w.heap.size + 1]? = some (.cells #[.pointer (some ⟨bb, 0, none⟩)] 74 (0, 0))) ∧ Below w.heap.size w ((V.setCell ⟨gl, n * 3 + 1, none⟩ (.int .i64 q)).setCell ⟨gl, n * 3 + 2, none⟩ (.int .i64 m)).drew := by
  have hg : w.heap.size ≤ gl := (hrow.lt gl rfl).1
  have n1 : ¬ w.heap.size = gl := fun e => owns_type hrow (show V.heap[w.heap.size]? = some (.cells _ _ (0, 0)) from hv) (by decide) (by rw [e]; rfl)
  have n2 : ¬ w.heap.size + 1 = gl := fun e => owns_type hrow hbbV (by decide) (by rw [e]; rfl)
  have o2 : Out (fun j => j = gl) V ((V.setCell ⟨gl, n * 3 + 1, none⟩ (.int .i64 q)).setCell ⟨gl, n * 3 + 2, none⟩ (.int .i64 m)).drew := out_drew (out_setIn (p := ⟨gl, n * 3 + 2, none⟩) (out_setIn (p := ⟨gl, n * 3 + 1, none⟩) (Out.refl _ _) rfl) rfl)
  have hrow2 := (row_inc (q := q) (m := m) hrow hn).drew
  have hbx := blk_out hbbV o2 n2
  have hbe : Below w.heap.size W ((V.setCell ⟨gl, n * 3 + 1, none⟩ (.int .i64 q)).setCell ⟨gl, n * 3 + 2, none⟩ (.int .i64 m)).drew := ((hb.setCell (p := ⟨gl, n * 3 + 1, none⟩) hg _).setCell (p := ⟨gl, n * 3 + 2, none⟩) hg _).drew
  subst hl'
  refine ⟨((hk.trans (KeepsOthers.setCell _ _ _)).trans (KeepsOthers.setCell _ _ _)).trans (KeepsOthers.drew _), ⟨hbe, fun vs t e => ?_⟩, ⟨⟨_, blk_out hv o2 n1, hrow2, trivial⟩, hbx⟩, hBW.trans hbe⟩
  rw [hbb] at e
  rw [← e]
  exact hbx

set_option maxRecDepth 100000 in
set_option maxHeartbeats 4000000 in
theorem depth_any (bb ab mb nn s : Nat) (vs vf v0 v1 : Value) (rs : List Sot) (fr : List Nat) (S : Nat → List Ly) (hs : s < 2) (hlen : (S s).length ≤ 1000)
    (hth : ∀ x ∈ S s, soAt rs x.slot = (some x.o, x.age)) (w : World) (hB : BookAt w bb ab mb nn vs vf v0 v1 rs fr S) (side : Int) (hsd : side = (s : Int) + 1) :
    Calls Tryd.prog 43 #[.pointer (some ⟨bb, 0, none⟩), .int .i64 side] w fun e W' => ∃ v, e = .returned (.tuple #[v, .nilIface]) ∧ W'.ownsRow w.heap.size 148 3 v (depthW ((S s).map Ly.o)).length (lvV (depthW ((S s).map Ly.o))) ∧ Below w.heap.size w W' := by
  obtain ⟨i0, hi, hz0, hz1, hz2⟩ := info_parts Tryd.infoLev
  have hss : (side == 1 || side == 2) = true := by
    subst hsd
    match s, hs with
    | 0, _ => rfl
    | 1, _ => rfl
  have HS : Hid ((side == 1 || side == 2) = true) := hss
  have hsub : IntKind.i64.wrap (side - 1) = (s : Int) := by rw [hsd, show (s : Int) + 1 - 1 = s by omega]; exact IntWalk.i64_in _ (by omega)
  clear hss hsd
  refine (callsIn_wide (n := 4)).1 ?_
  refine callsIn_of_wp_marks Tryd.func43 rfl trivial ?_ rfl
  simp only [Tryd.ntmps43, List.size_toArray, List.length_cons, List.length_nil, Nat.reduceAdd, Nat.reduceSub, Array.replicate_succ, Array.replicate_zero, List.push_toArray, List.append_toArray, List.nil_append, List.cons_append]
  gi_wp2_with fail
  refine ⟨trivial, (callsIn_wide.2 (isSide_any side _)).mono ?_⟩
  rintro e w' ⟨rfl, hw⟩
  replace hw := hw.symm
  subst hw
  rw [HS.out]
  gi_wp2_with fail
  refine ⟨trivial, (callsIn_wide.2 (lying_any bb _ _)).mono ?_⟩
  rintro e w' ⟨rfl, rfl⟩
  gi_wp2_with fail
  have hB1 := bel1 w (.cells #[.slice none 0 0] 95)
  have bO := Boxed.new w 95 (.slice none 0 0)
  obtain ⟨w2, hw2⟩ : ∃ w2, w.alloc (.cells #[.slice none 0 0] 95) = w2 := ⟨_, rfl⟩
  have hz2' : w2.heap.size = w.heap.size + 1 := by rw [← hw2]; simp
  rw [hw2] at hB1 bO ⊢
  clear hw2
  have hB2 := bel2 w2 (.cells #[.pointer (some ⟨bb, 0, none⟩)] 74) (.cells #[.int .i64 s] 3)
  have bB := two_old w2 (.cells #[.pointer (some ⟨bb, 0, none⟩)] 74) (.cells #[.int .i64 s] 3)
  have bS := two_new w2 (.cells #[.pointer (some ⟨bb, 0, none⟩)] 74) (.cells #[.int .i64 s] 3)
  obtain ⟨W0, hW0⟩ : ∃ W0, (w2.alloc (.cells #[.pointer (some ⟨bb, 0, none⟩)] 74)).alloc (.cells #[.int .i64 s] 3) = W0 := ⟨_, rfl⟩
  have hsz : W0.heap.size = w.heap.size + 3 := by rw [← hW0]; simp; omega
  rw [hW0] at hB2 bB bS ⊢
  clear hW0
  have bO : Boxed W0 w.heap.size 95 (.slice none 0 0) := blk_below bO hB2 (Nat.le_refl _)
  have hB0 : Below w.heap.size w W0 := bel_then hB1 hB2
  rw [hz2'] at bB bS
  have HK : ∀ k, pbB bb ab mb vs vf v0 v1 k → k < w.heap.size := fun k hk => hB.lt hk
  clear hB1 hB2
  refine wpIn_rangeFunc_ownH (F := Fence.wide) (n := 4) rfl (by decide) (gf := 86) (lb := #[.pointer (some ⟨w.heap.size + 1, 0, none⟩), .pointer (some ⟨w.heap.size + 1 + 1, 0, none⟩)]) rfl trivial (enters_of Tryd.func86 (by kernel_rfl) rfl)
    (lySeq 3 (by decide) (w.heap.size + 1) (w.heap.size + 1 + 1) w.heap.size bb ab mb nn s vs vf v0 v1 rs fr S hs hlen hth HK W0 (by omega) (hB.below hB0 (Nat.le_refl _)) bB bS) kpl_t (kpl_b (by omega)) (Below.refl _ _) (fun _ => rfl)
    (fun pre W => ((∃ v, Boxed W w.heap.size 95 v ∧ W.ownsRow w.heap.size 148 3 v (depthW pre).length (lvV (depthW pre)) ∧ True) ∧ W.heap[w.heap.size + 1]? = some (.cells #[.pointer (some ⟨bb, 0, none⟩)] 74 (0, 0))) ∧ Below w.heap.size w W)
    (fun _ _ _ => False)
    (OwnFrom.and (OwnFrom.and (Own.from (holdsRow_own w.heap.size w.heap.size 95 148 3 (fun pre => (depthW pre).length) (fun pre => lvV (depthW pre)) (fun _ _ => True)) _) (Own.from (fun s A B row hs hg hr => blk_kept hs hg hr) _)) (ownFrom_below (Nat.le_refl _) (by omega)))
    (fun _ _ _ _ _ hs _ _ => hs)
    ⟨⟨⟨_, bO, World.ownsRow_nil _ _ _ _, trivial⟩, bB⟩, hB0⟩
    (fun x a' W => ∃ Bx, OrdAt W Bx x ∧ a' = { tmps := #[.pointer (some ⟨bb, 0, none⟩), .int .i64 side, undef, undef, .slice none 0 0, .nilIface, .pointer (some ⟨w.heap.size, 0, none⟩), .pointer (some ⟨Bx, 0, none⟩), undef, .int .i64 side, .bool true, .bool false, undef, .pointer (some ⟨bb, 0, none⟩), .int .i64 side, .int .i64 s, .func (.func 86) #[] #[.pointer (some ⟨w.heap.size + 1, 0, none⟩), .pointer (some ⟨w.heap.size + 1 + 1, 0, none⟩)], Ord.agg x, undef, undef, undef, undef, undef, undef, undef, undef, undef, undef, undef, undef, undef, undef, undef, undef, undef, undef, undef, undef, undef, undef, undef, undef, undef, undef, undef, undef, undef, undef, undef, undef, undef, undef, undef, undef, undef, undef, undef, undef, undef, undef, undef, undef, undef, undef], defers := [] })
    (fun x a' _ X Y row hs hg hr => by obtain ⟨Bx, h2, h3⟩ := hs; exact ⟨Bx, blk_kept h2 hg (fun r e => (hr r e).2), h3⟩)
    ?assign ?body ?done ?stop
  case assign =>
    rintro l pre x W K ⟨⟨⟨v, hv, hrow, _⟩, hbb⟩, hBW⟩ hK
    have lS := hBW.size
    unfold Ord.agg at hK ⊢
    gi_wp2
    refine hK _ _ ((KeepsOthers.alloc _ _).from _) (KpL.of_below (bel1 _ _) lS) ⟨⟨⟨v, hv.alloc _, hrow.alloc _, trivial⟩, blk_below hbb (bel1 _ _) (Nat.le_refl _)⟩, hBW.alloc hBW.size _⟩ ⟨W.heap.size, heap_alloc_new _ _, rfl⟩
  case body =>
    rintro l pre x a' W hl ⟨r, hr⟩ ⟨⟨⟨v, hv, hrow, _⟩, hbb⟩, hBW⟩ ⟨Bx, bX, rfl⟩ hlt
    have hc := hv.cell
    have c0 := blk_cell (j := 0) bX rfl
    have c1 := blk_cell (j := 1) bX rfl
    have c2 := blk_cell (j := 2) bX rfl
    have c3 := blk_cell (j := 3) bX rfl
    have c4 := blk_cell (j := 4) bX rfl
    have HBS := hBW.size
    have hll := depthW_len pre
    have HT : Hid (depthW (pre ++ [x]) = depStepW (depthW pre) x) := depthW_snoc pre x
    generalize depthW pre = acc at hll hrow HT
    clear hr
    obtain ⟨vao, vcap, rfl, _, _⟩ := owns_shape hrow
    unfold Ord.agg
    by_cases hm : x.kind = 2
    · rw [hm] at c2 ⊢
      gi_wp2_with fail
      refine ⟨(KeepsOthers.refl _).from _, KpL.refl _ _ _, ⟨⟨_, hv, by rw [HT.out, stepW_market hm]; exact hrow, trivial⟩, hbb⟩, hBW⟩
    · have hmb : (x.kind == 2) = false := beq_eq_false_iff_ne.2 hm
      have hmix : Tryd.prog.follows .mixedOrders = true := by kernel_rfl
      obtain ⟨N, hN⟩ : ∃ N, acc.length = N := ⟨_, rfl⟩
      rw [hN] at hrow hv hc hll
      cases N with
      | succ n =>
        have hrow' : W.ownsRow w.heap.size 148 3 (.slice vao (n + 1) vcap) acc.length (lvV acc) := by rw [hN]; exact hrow
        obtain ⟨gl, cl, hvl, l0, l1, l2, f1, f2⟩ := row_last hrow' (k := n) (by omega)
        simp only [Value.slice.injEq, true_and, hN] at hvl
        obtain ⟨hvl1, hvl2⟩ := hvl
        subst hvl1 hvl2
        have g0 : ((n : Int) + 1 == 0) = false := beq_eq_false_iff_ne.2 (by omega)
        have g1 : (((n + 1 : Nat) : Int) == 0) = false := beq_eq_false_iff_ne.2 (by omega)
        gi_wp2_with fail
        by_cases h2 : (lvAt acc n).price = x.price
        · have HSt : Hid (depStepW acc x = acc.set n (incW (lvAt acc n) x)) := by
            have := stepW_same (acc := acc) hm (by omega) (by rw [hN, Nat.add_sub_cancel]; exact h2)
            rw [hN, Nat.add_sub_cancel] at this
            exact this
          rw [h2] at l0
          refine quiet_round (F := Fence.wide) rfl (by kernel_rfl) hmix (by kernel_rfl) ?_
          repeat (gi_big_quiet_step (fail))
          refine wpQuietIn_nil ?_
          intro _ hw'
          obtain ⟨nq, hw''⟩ := hw'
          subst hw''
          gi_wp2_with fail
          have hbd := below_drewN (Below.refl W.heap.size W) nq
          have hvV : Boxed (W.drewN nq) w.heap.size 95 (.slice (some ⟨gl, 0, none⟩) (n + 1) vcap) := blk_below hv hbd (Nat.le_refl _)
          have hrowV := owns_below hrow' hbd (Nat.le_refl _)
          have hbbV := blk_below hbb hbd (Nat.le_refl _)
          have bXV := blk_below bX hbd (Nat.le_refl _)
          generalize W.drewN nq = V at hbd hvV hrowV hbbV bXV ⊢
          obtain ⟨gl', cl', hvl, m0, m1, m2, e1, e2⟩ := row_last hrowV (k := n) (by omega)
          simp only [Value.slice.injEq, Option.some.injEq, Addr.mk.injEq, and_true, true_and, hN] at hvl
          obtain ⟨hvl1, hvl2⟩ := hvl
          subst hvl1 hvl2
          have x4 := blk_cell (j := 4) bXV rfl
          have HB : Hid (Below W.heap.size W V) := hbd
          clear c0 c1 c2 c3 c4 l0 l1 l2 f1 f2 hc hbd
          gi_region_with_o (fail)
          all_goals gi_wp2_with fail
          all_goals (
            obtain ⟨k1, k2, k3, k4⟩ := dep_close (q := wrap64 ((lvAt acc n).qty + x.qty)) (m := wrap64 ((lvAt acc n).orders + 1)) (l' := depthW (pre ++ [x])) hvV hrowV (by omega) hbb hbbV (keeps_below HB.out) (HB.out.mono HBS) hBW (HT.out.trans HSt.out)
            first | exact ⟨k1.from _, k2, k3, k4⟩ | exact ⟨k1.from _, k2, ⟨k3.1.imp fun v h => ⟨h.1, h.2.1⟩, k3.2⟩, k4⟩)
        · have h2b : ((lvAt acc n).price == x.price) = false := beq_eq_false_iff_ne.2 h2
          have h2c : ((lvAt acc n).price != x.price) = true := by simpa using h2
          have HSt : Hid (depStepW acc x = acc ++ [⟨x.price, wrap64 x.qty, 1⟩]) := stepW_other hm (fun e => h2 (by have := e.2; rwa [hN, Nat.add_sub_cancel] at this))
          refine quiet_round (F := Fence.wide) rfl (by kernel_rfl) hmix (by kernel_rfl) ?_
          repeat (gi_big_quiet_step (fail))
          refine wpQuietIn_nil ?_
          intro _ hw'
          obtain ⟨nq, hw''⟩ := hw'
          subst hw''
          have hbd := below_drewN (Below.refl W.heap.size W) nq
          have hvV : Boxed (W.drewN nq) w.heap.size 95 (.slice (some ⟨gl, 0, none⟩) (n + 1) vcap) := blk_below hv hbd (Nat.le_refl _)
          have hrowV := owns_below hrow hbd (Nat.le_refl _)
          have hbbV := blk_below hbb hbd (Nat.le_refl _)
          have bXV := blk_below bX hbd (Nat.le_refl _)
          generalize W.drewN nq = V at hbd hvV hrowV hbbV bXV ⊢
          have hcV := hvV.cell
          have hfV := hvV.frozen
          have x3 := blk_cell (j := 3) bXV rfl
          have HB : Hid (Below W.heap.size W V) := hbd
          have hVz : w.heap.size ≤ V.heap.size := Nat.le_trans HBS hbd.size
          have hne1 : Bx ≠ w.heap.size := blk_apart bXV (show V.heap[w.heap.size]? = some (.cells _ _ (0, 0)) from hvV) (by decide)
          clear c0 c1 c2 c3 c4 hc hbd l0 l1 l2 f1 f2
          gi_wp2_with (gi_at_builtin; refine wpListIn_append_own _ rfl _ _ 95 rfl w.heap.size 148 i0 (.agg #[.int .i64 0, .int .i64 0, .int .i64 0]) 3 24 Tryd.underlying95 hi hz0 hz1 hz2 rfl (by decide) _ (n + 1) (lvV acc) rfl (hrowV.alloc _) ⟨V.heap.size, 0, none⟩ 1 1 [.int .i64 x.price, .int .i64 0, .int .i64 0] rfl rfl (World.news_of_block (cs := #[.int .i64 x.price, .int .i64 0, .int .i64 0]) (t := 148) (fr := (0, 0)) (heap_alloc_new V _)) (by simp [Value.oneCell']) (by unfold maxLen; omega) (by omega) (by simp; omega) ?_; intro v' w1 hown' hgrow _; obtain ⟨g', cap', rfl⟩ := ownsRow_succ hown'; obtain ⟨hv1, hv2, hr2, hk2, hb2⟩ := hvV.appended (by decide) hrowV hVz (Nat.le_refl _) hown' hgrow; have hc1 := hv1.cell; have hf1 := hv1.frozen)
          have hbb2 := app_keep (B := w.heap.size) (u := .slice (some ⟨g', 0, none⟩) (n + 1 + 1) cap') hbbV hrowV (by decide) hgrow (by omega)
          have bX2 := app_keep (B := w.heap.size) (u := .slice (some ⟨g', 0, none⟩) (n + 1 + 1) cap') bXV hrowV (by decide) hgrow hne1
          generalize w1.setCell ⟨w.heap.size, 0, none⟩ (.slice (some ⟨g', 0, none⟩) (n + 1 + 1) cap') = U at hv2 hr2 hk2 hb2 hbb2 bX2 ⊢
          clear hv1 hc1 hf1 hgrow hown' hcV hfV x3
          have hr3 : U.ownsRow w.heap.size 148 3 (.slice (some ⟨g', 0, none⟩) (n + 1 + 1) cap') (acc ++ [(⟨x.price, 0, 0⟩ : Lev)]).length (lvV (acc ++ [(⟨x.price, 0, 0⟩ : Lev)])) := by
            rw [List.length_append, List.length_singleton, lvV_snoc, hN]
            exact hr2
          obtain ⟨g2, cl2, hvl2, m0, m1, m2, e1, e2⟩ := row_last hr3 (k := n + 1) (by rw [List.length_append, List.length_singleton, hN]; omega)
          have hla : lvAt (acc ++ [(⟨x.price, 0, 0⟩ : Lev)]) (n + 1) = ⟨x.price, 0, 0⟩ := by rw [← hN]; exact lvAt_pushed _ _
          rw [hla] at m0 m1 m2
          simp only [Value.slice.injEq, Option.some.injEq, Addr.mk.injEq, and_true] at hvl2
          have hvg := hvl2.1
          clear hvl2
          subst hvg
          have x4 := blk_cell (j := 4) bX2 rfl
          gi_region_with_o (fail)
          all_goals gi_wp2_with fail
          all_goals (
            obtain ⟨k1, k2, k3, k4⟩ := dep_close (n := n + 1) (q := wrap64 x.qty) (m := 1) (l' := depthW (pre ++ [x])) hv2 hr3 (by rw [List.length_append, List.length_singleton, hN]; omega) hbb hbb2 ((keeps_below HB.out).trans hk2) ((HB.out.mono HBS).trans hb2) hBW (by rw [HT.out, HSt.out, hla, ← hN]; simp)
            first | exact ⟨k1.from _, k2, k3, k4⟩ | exact ⟨k1.from _, k2, ⟨k3.1.imp fun v h => ⟨h.1, h.2.1⟩, k3.2⟩, k4⟩)
      | zero =>
        have HSt : Hid (depStepW acc x = acc ++ [⟨x.price, wrap64 x.qty, 1⟩]) := stepW_other hm (fun e => by omega)
        gi_wp2_with fail
        refine quiet_round (F := Fence.wide) rfl (by kernel_rfl) hmix (by kernel_rfl) ?_
        repeat (gi_big_quiet_step (fail))
        refine wpQuietIn_nil ?_
        intro _ hw'
        obtain ⟨nq, hw''⟩ := hw'
        subst hw''
        have hbd := below_drewN (Below.refl W.heap.size W) nq
        have hvV : Boxed (W.drewN nq) w.heap.size 95 (.slice vao (0) vcap) := blk_below hv hbd (Nat.le_refl _)
        have hrowV := owns_below hrow hbd (Nat.le_refl _)
        have hbbV := blk_below hbb hbd (Nat.le_refl _)
        have bXV := blk_below bX hbd (Nat.le_refl _)
        generalize W.drewN nq = V at hbd hvV hrowV hbbV bXV ⊢
        have hcV := hvV.cell
        have hfV := hvV.frozen
        have x3 := blk_cell (j := 3) bXV rfl
        have HB : Hid (Below W.heap.size W V) := hbd
        have hVz : w.heap.size ≤ V.heap.size := Nat.le_trans HBS hbd.size
        have hne1 : Bx ≠ w.heap.size := blk_apart bXV (show V.heap[w.heap.size]? = some (.cells _ _ (0, 0)) from hvV) (by decide)
        clear c0 c1 c2 c3 c4 hc hbd 
        gi_wp2_with (gi_at_builtin; refine wpListIn_append_own _ rfl _ _ 95 rfl w.heap.size 148 i0 (.agg #[.int .i64 0, .int .i64 0, .int .i64 0]) 3 24 Tryd.underlying95 hi hz0 hz1 hz2 rfl (by decide) _ (0) (lvV acc) rfl (hrowV.alloc _) ⟨V.heap.size, 0, none⟩ 1 1 [.int .i64 x.price, .int .i64 0, .int .i64 0] rfl rfl (World.news_of_block (cs := #[.int .i64 x.price, .int .i64 0, .int .i64 0]) (t := 148) (fr := (0, 0)) (heap_alloc_new V _)) (by simp [Value.oneCell']) (by unfold maxLen; omega) (by omega) (by simp; omega) ?_; intro v' w1 hown' hgrow _; obtain ⟨g', cap', rfl⟩ := ownsRow_succ hown'; obtain ⟨hv1, hv2, hr2, hk2, hb2⟩ := hvV.appended (by decide) hrowV hVz (Nat.le_refl _) hown' hgrow; have hc1 := hv1.cell; have hf1 := hv1.frozen)
        have hbb2 := app_keep (B := w.heap.size) (u := .slice (some ⟨g', 0, none⟩) (0 + 1) cap') hbbV hrowV (by decide) hgrow (by omega)
        have bX2 := app_keep (B := w.heap.size) (u := .slice (some ⟨g', 0, none⟩) (0 + 1) cap') bXV hrowV (by decide) hgrow hne1
        generalize w1.setCell ⟨w.heap.size, 0, none⟩ (.slice (some ⟨g', 0, none⟩) (0 + 1) cap') = U at hv2 hr2 hk2 hb2 hbb2 bX2 ⊢
        clear hv1 hc1 hf1 hgrow hown' hcV hfV x3
        have hr3 : U.ownsRow w.heap.size 148 3 (.slice (some ⟨g', 0, none⟩) (0 + 1) cap') (acc ++ [(⟨x.price, 0, 0⟩ : Lev)]).length (lvV (acc ++ [(⟨x.price, 0, 0⟩ : Lev)])) := by
          rw [List.length_append, List.length_singleton, lvV_snoc, hN]
          exact hr2
        obtain ⟨g2, cl2, hvl2, m0, m1, m2, e1, e2⟩ := row_last hr3 (k := 0) (by rw [List.length_append, List.length_singleton, hN]; omega)
        have hla : lvAt (acc ++ [(⟨x.price, 0, 0⟩ : Lev)]) (0) = ⟨x.price, 0, 0⟩ := by rw [← hN]; exact lvAt_pushed _ _
        rw [hla] at m0 m1 m2
        simp only [Value.slice.injEq, Option.some.injEq, Addr.mk.injEq, and_true] at hvl2
        have hvg := hvl2.1
        clear hvl2
        subst hvg
        have x4 := blk_cell (j := 4) bX2 rfl
        have m1' : U.cell? ⟨g', 1, none⟩ = some (.int .i64 0) := m1
        have m2' : U.cell? ⟨g', 2, none⟩ = some (.int .i64 0) := m2
        have e1' : U.frozen? ⟨g', 1, none⟩ = false := e1
        have e2' : U.frozen? ⟨g', 2, none⟩ = false := e2
        gi_region_with_o (fail)
        all_goals gi_wp2_with fail
        all_goals (
          obtain ⟨k1, k2, k3, k4⟩ := dep_close (n := 0) (q := wrap64 x.qty) (m := 1) (l' := depthW (pre ++ [x])) hv2 hr3 (by rw [List.length_append, List.length_singleton, hN]; omega) hbb hbb2 ((keeps_below HB.out).trans hk2) ((HB.out.mono HBS).trans hb2) hBW (by rw [HT.out, HSt.out, hla, ← hN]; simp)
          first | exact ⟨k1.from _, k2, k3, k4⟩ | exact ⟨k1.from _, k2, ⟨k3.1.imp fun v h => ⟨h.1, h.2.1⟩, k3.2⟩, k4⟩)
  case done =>
    rintro D ys W hD rfl ⟨⟨⟨v, hv, hrow, _⟩, hbb⟩, hBW⟩ hK
    have hc := hv.cell
    gi_wp2
    refine ⟨by simp, .inl ⟨_, _, rfl, run_takeDeferred hK, ?_⟩⟩
    refine ⟨.tuple #[v, .nilIface], by simp [results, Tryd.results43, go_sem], v, rfl, ownsRow_putObj hrow _ hK rfl, hBW.trans (belowK_b (w := w) (Nat.le_refl _) W D _ _ (by omega) hK rfl rfl)⟩
  case stop =>
    rintro D c pre W _ _ h _
    exact h.elim

set_option maxRecDepth 100000 in
set_option maxHeartbeats 1000000 in
theorem depth_arg (bb : Nat) (w : World) (side : Int) (hss : (side == 1 || side == 2) = false) :
    Calls Tryd.prog 43 #[.pointer (some ⟨bb, 0, none⟩), .int .i64 side] w fun e W' => e = .returned (.tuple #[.slice none 0 0, .iface 22 (.int .i64 1)]) ∧ Below w.heap.size w W' := by
  have HS : Hid ((side == 1 || side == 2) = false) := hss
  clear hss
  go_enter Tryd.func43, Tryd.ntmps43
  go_wp2_with fail
  refine (isSide_any side _).mono ?_
  rintro e w1 ⟨rfl, hw⟩
  replace hw := hw.symm
  subst hw
  rw [HS.out]
  go_wp2_with fail
  go_ret2
  exact ⟨rfl, Below.refl _ _⟩
set_option maxRecDepth 100000 in
set_option maxHeartbeats 1000000 in
theorem side_arg (bb : Nat) (w : World) (side : Int) (hss : (side == 1 || side == 2) = false) :
    Calls Tryd.prog 41 #[.pointer (some ⟨bb, 0, none⟩), .int .i64 side] w fun e W' => e = .returned (.tuple #[.slice none 0 0, .iface 22 (.int .i64 1)]) ∧ Below w.heap.size w W' := by
  have HS : Hid ((side == 1 || side == 2) = false) := hss
  clear hss
  go_enter Tryd.func41, Tryd.ntmps41
  go_wp2_with fail
  refine (isSide_any side _).mono ?_
  rintro e w1 ⟨rfl, hw⟩
  replace hw := hw.symm
  subst hw
  rw [HS.out]
  go_wp2_with fail
  go_ret2
  exact ⟨rfl, Below.refl _ _⟩

/-- 4.2, Depth of a book in memory -/
theorem pbDepth (bb m s : Nat) (b : BkS) (w : World) (h : Bk w bb m b) (hs : s < 2) (side : Int) (hsd : side = (s : Int) + 1) :
    Calls Tryd.prog 43 #[.pointer (some ⟨bb, 0, none⟩), .int .i64 side] w fun e W' => ∃ v, e = .returned (.tuple #[v, .nilIface]) ∧ W'.ownsRow w.heap.size 148 3 v (depth ((b.S s).map Ly.o)).length (lvV (depth ((b.S s).map Ly.o))) ∧ Below w.heap.size w W' := by
  have hlen : (b.S s).length ≤ 1000 := by have h1 := (pb_len b.S [] hs).2; have h2 := h.ok.most; omega
  have he : depthW ((b.S s).map Ly.o) = depth ((b.S s).map Ly.o) := depthW_eq (fun o ho => by
    obtain ⟨x, hx, rfl⟩ := List.mem_map.1 ho
    have := h.ok.ok s hs x hx
    omega) (by rw [List.length_map]; exact hlen)
  rw [← he]
  exact depth_any bb b.ab b.mb b.n s b.vs b.vf b.v0 b.v1 b.rs b.fr b.S hs hlen (h.ok.there s hs) w h.at_ side hsd
end Go.Proofs.YtcpijeehgdbjbaaDoor

/-
  What the document's Depth returns, over this seat's translation. Conditions stand in each theorem.
-/
namespace Go.Proofs.YtcpijeehgdbjbaaDoor
open Go.RowKit

theorem insL_perm {α : Type} (rank : α → Int) (o : α) : ∀ l : List α, (insL rank o l).Perm (o :: l)
  | [] => List.Perm.refl _
  | x :: xs => by
    unfold insL
    split
    · exact ((insL_perm rank o xs).cons x).trans (List.Perm.swap o x xs)
    · exact List.Perm.refl _
theorem foldl_perm {α : Type} (rank : α → Int) : ∀ (l acc : List α), (l.foldl (fun acc o => insL rank o acc) acc).Perm (acc ++ l)
  | [], acc => by simp
  | o :: l, acc => by
    rw [List.foldl_cons]
    exact (foldl_perm rank l _).trans (((insL_perm rank o acc).append_right l).trans List.perm_middle.symm)
theorem ssort_perm {α : Type} (rank : α → Int) (l : List α) : (ssort rank l).Perm l := by have h := foldl_perm rank l []; rw [List.nil_append] at h; exact h
theorem sideO_mem {side : Int} {l : List Ord} {o : Ord} : o ∈ sideO side l ↔ (o ∈ l ∧ o.side = side) := by
  unfold sideO onSide
  rw [(ssort_perm _ _).mem_iff, List.mem_filter]
  simp
theorem sideO_len (side : Int) (l : List Ord) : (sideO side l).length ≤ l.length := by
  unfold sideO onSide
  rw [(ssort_perm _ _).length_eq]
  exact List.length_filter_le _ _

theorem blk_cellB {w : World} {b j : Nat} {vs : Array Value} {t : TypeId} {v : Value} (h : w.heap[b]? = some (.cells vs t (0, 0))) (hj : vs[j]? = some v) : w.cell? ⟨b, j, none⟩ = some v := (cell_of_row w b j vs t (0, 0) h).trans hj
set_option maxRecDepth 4000 in
set_option maxHeartbeats 4000000 in
theorem bkDepth (base bb : Nat) (v : Value) (l : List Ord) (side : Int) (w : World) (h : BookIs w base bb v l) (hl : l.length ≤ 1000) (hp : ∀ o ∈ l, -1000000000 ≤ o.price ∧ o.price ≤ 1000000000) (hq : ∀ o ∈ l, 0 ≤ o.qty ∧ o.qty ≤ 1000000) :
    Calls Tryd.prog 68 #[.pointer (some ⟨bb, 0, none⟩), .int .i64 side] w fun e w' => ∃ v', e = .returned v' ∧ w'.ownsRow w.heap.size 148 3 v' (depth (sideO side l)).length (lvV (depth (sideO side l))) ∧ Below w.heap.size w w' := by
  obtain ⟨i0, hi, hz0, hz1, hz2⟩ := info_parts Tryd.infoLev
  have HQ : Hid (∀ o ∈ sideO side l, 0 ≤ o.qty ∧ o.qty ≤ 1000000) := fun o ho => hq o (sideO_mem.1 ho).1
  have hL : (sideO side l).length ≤ 1000 := Nat.le_trans (sideO_len side l) hl
  go_enter Tryd.func68, Tryd.ntmps68
  go_wp2_with fail
  refine (bkSide base bb v l side w h hl hp).mono ?_
  rintro e w1 ⟨v', rfl, hown1, hb1⟩
  clear h hl hp hq
  obtain ⟨L, hLe⟩ : ∃ L, L = sideO side l := ⟨_, rfl⟩
  have HLE : Hid (sideO side l = L) := hLe.symm
  rw [← hLe] at HQ hL hown1
  clear hLe
  have HO1 : Hid (w1.ownsRow w.heap.size 81 5 v' L.length (oV L)) := hown1
  have HB1 : Hid (Below w.heap.size w w1) := hb1
  obtain ⟨ao, cap, rfl, _, _⟩ := bk_shape hown1
  clear hown1 hb1
  go_wp2_with fail
  go_loopw [5, 13] (fun vo vi wr => ∃ k : Nat, k ≤ L.length ∧ vi = .int .i64 k ∧ Below w1.heap.size w1 wr ∧ wr.ownsRow w1.heap.size 148 3 vo (depth (L.take k)).length (lvV (depth (L.take k)))) (fun _ vi _ => L.length - (intOf vi).toNat)
  case atStart => exact ⟨0, Nat.zero_le _, rfl, Below.refl _ _, World.ownsRow_nil _ _ _ _⟩
  case round =>
    obtain ⟨k, hk, rfl, hb, hown⟩ := hrel
    have HB : Hid (Below w1.heap.size w1 wr) := hb
    have HW : Hid (wr.ownsRow w1.heap.size 148 3 u5 (depth (L.take k)).length (lvV (depth (L.take k)))) := hown
    have hok := depth_ok HQ.out k hk
    obtain ⟨vao, vcap, rfl, _, _⟩ := bk_shape hown
    by_cases hk1 : k < L.length
    · obtain ⟨g, cap', hv, d0, d1, d2, d3, d4⟩ := row_order (bk_below HO1.out hb (Nat.le_refl _)) hk1
      simp only [Value.slice.injEq, true_and] at hv
      obtain ⟨rfl, rfl⟩ := hv
      have HT : Hid (depth (L.take (k + 1)) = depStep (depth (L.take k)) (oAt L k)) := depth_take hk1
      have ho := HQ.out (oAt L k) (by rw [oAt_eq hk1]; exact List.getElem_mem hk1)
      have q0 : (0 : Int) ≤ (k : Int) := by omega
      have q1 : (k : Int) < (L.length : Int) := by omega
      generalize oAt L k = o at HT d0 d1 d2 d3 d4 ho
      generalize depth (L.take k) = acc at HT HW hok hown
      by_cases hm : o.kind = 2
      · rw [hm] at d2
        clear hb hown
        go_wp2_with fail
        go_roundw
        case rel => exact ⟨k + 1, hk1, by go_num, HB.out.alloc HB.out.size _, by rw [HT.out, step_market hm]; exact HW.out.alloc _⟩
        case measure => simp [intOf]; omega
      · have hmb : (o.kind == 2) = false := beq_eq_false_iff_ne.2 hm
        have hA := heap_alloc_new wr (.cells #[.int .i64 o.id, .int .i64 o.side, .int .i64 o.kind, .int .i64 o.price, .int .i64 o.qty] 81)
        have hbA := HB.out.alloc HB.out.size (.cells #[.int .i64 o.id, .int .i64 o.side, .int .i64 o.kind, .int .i64 o.price, .int .i64 o.qty] 81)
        have hoA := hown.alloc (.cells #[.int .i64 o.id, .int .i64 o.side, .int .i64 o.kind, .int .i64 o.price, .int .i64 o.qty] 81)
        have hll := hok.len
        have hlast := hok.last
        have HOK : Hid (LevOk k acc) := hok
        clear hb hown hok
        obtain ⟨N, hN⟩ : ∃ N, acc.length = N := ⟨_, rfl⟩
        rw [hN] at hoA HW hll hlast ⊢
        cases N with
        | succ n =>
          rw [Nat.add_sub_cancel] at hlast
          have hlast := hlast (Nat.succ_pos n)
          go_wp2_with fail
          generalize wr.alloc (.cells #[.int .i64 o.id, .int .i64 o.side, .int .i64 o.kind, .int .i64 o.price, .int .i64 o.qty] 81) = W at hA hbA hoA ⊢
          have e3 := blk_cellB (j := 3) hA rfl
          have e4 := blk_cellB (j := 4) hA rfl
          rw [← hN] at hoA
          obtain ⟨gl, cl, hvl, c0, c1, c2, f1, f2⟩ := row_last hoA (k := n) (by omega)
          rw [hN] at hoA
          simp only [Value.slice.injEq, true_and, hN] at hvl
          obtain ⟨hvl1, hvl2⟩ := hvl
          subst hvl1 hvl2
          by_cases h2 : (lvAt acc n).price = o.price
          · have HS : Hid (depStep acc o = acc.set n (incL (lvAt acc n) o)) := by
              have := step_same (acc := acc) hm (by omega) (by rw [hN, Nat.add_sub_cancel]; exact h2)
              rw [hN, Nat.add_sub_cancel] at this
              exact this
            rw [h2] at c0
            clear f1 f2
            go_quiet (fail)
            go_wp2_with fail
            have hbd := below_drewN (Below.refl W.heap.size W) nq
            have hoV := bk_below hoA hbd (Nat.le_refl _)
            have hAV := (hbd.block wr.heap.size (lt_of_block hA)).trans hA
            have hbV := hbA.trans (hbd.mono hbA.size)
            generalize W.drewN nq = V at hoV hAV hbV ⊢
            clear hbd hoA hA hbA c0 c1 c2 e3 e4
            rw [← hN] at hoV
            obtain ⟨gl', cl', hvl, c0, c1, c2, f1, f2⟩ := row_last hoV (k := n) (by omega)
            rw [hN] at hoV
            simp only [Value.slice.injEq, Option.some.injEq, Addr.mk.injEq, and_true, true_and, hN] at hvl
            obtain ⟨hvl1, hvl2⟩ := hvl
            subst hvl1 hvl2
            have e4 := blk_cellB (j := 4) hAV rfl
            have hne : wr.heap.size ≠ gl := fun e => bk_ne hoV hAV (by decide) (by rw [e]; rfl)
            go_region
            go_wp2_with fail
            have hgl : w1.heap.size ≤ gl := (hoV.lt gl rfl).1
            have h5 : World.ownsRow V w1.heap.size 148 3 (.slice (some ⟨gl, 0, none⟩) (n + 1) vcap) acc.length (lvV acc) := by rw [hN]; exact hoV
            have h6 := row_inc (k := n) (q := (lvAt acc n).qty + o.qty) (m := (lvAt acc n).orders + 1) h5 (by omega)
            go_roundw
            case rel =>
              refine ⟨k + 1, hk1, by go_num, ((hbV.setCell (p := ⟨gl, n * 3 + 1, none⟩) hgl _).setCell (p := ⟨gl, n * 3 + 2, none⟩) hgl _).drew, ?_⟩
              rw [HT.out, HS.out]
              exact h6.drew
            case measure => simp [intOf]; omega
          · have h2b : ((lvAt acc n).price == o.price) = false := beq_eq_false_iff_ne.2 h2
            have HS : Hid (depStep acc o = acc ++ [⟨o.price, o.qty, 1⟩]) := step_other hm (fun e => h2 (by have := e.2; rwa [hN, Nat.add_sub_cancel] at this))
            go_quiet (fail)
            have hbd := below_drewN (Below.refl W.heap.size W) nq
            have hoV := bk_below hoA hbd (Nat.le_refl _)
            have hAV := (hbd.block wr.heap.size (lt_of_block hA)).trans hA
            have hbV := hbA.trans (hbd.mono hbA.size)
            generalize W.drewN nq = V at hoV hAV hbV ⊢
            clear hbd hoA hA hbA e3 e4 c0 c1 c2 f1 f2
            have e3 := blk_cellB (j := 3) hAV rfl
            have e4 := blk_cellB (j := 4) hAV rfl
            go_wp2_with (at_builtin; refine wpList_append_own_at _ rfl _ _ 95 rfl w1.heap.size 148 i0 (.agg #[.int .i64 0, .int .i64 0, .int .i64 0]) 3 24 Tryd.underlying95 hi hz0 hz1 hz2 rfl (by decide) _ (n + 1) (lvV acc) rfl (hoV.alloc _) ⟨V.heap.size, 0, none⟩ 1 1 [.int .i64 o.price, .int .i64 o.qty, .int .i64 1] rfl rfl (World.news_of_block (cs := #[.int .i64 o.price, .int .i64 o.qty, .int .i64 1]) (t := 148) (fr := (0, 0)) (heap_alloc_new V _)) (by simp [Value.oneCell']) (by unfold maxLen; omega) (by omega) (by have := hbV.size; simp; omega) ?_; intro v' w6 hown6 hgrow6 _ _)
            go_roundw
            case rel =>
              refine ⟨k + 1, hk1, by go_num, (hbV.alloc hbV.size _).grown hgrow6 (by have := hbV.size; simp; omega) (fun q hq => (hoV.lt q hq).1), ?_⟩
              rw [HT.out, HS.out, List.length_append, List.length_singleton, lvV_snoc, hN]
              exact hown6
            case measure => simp [intOf]; omega
        | zero =>
          go_wp2_with fail
          generalize wr.alloc (.cells #[.int .i64 o.id, .int .i64 o.side, .int .i64 o.kind, .int .i64 o.price, .int .i64 o.qty] 81) = W at hA hbA hoA ⊢
          have e3 := blk_cellB (j := 3) hA rfl
          have e4 := blk_cellB (j := 4) hA rfl
          have HS : Hid (depStep acc o = acc ++ [⟨o.price, o.qty, 1⟩]) := step_other hm (fun e => by omega)
          go_quiet (fail)
          have hbd := below_drewN (Below.refl W.heap.size W) nq
          have hoV := bk_below hoA hbd (Nat.le_refl _)
          have hAV := (hbd.block wr.heap.size (lt_of_block hA)).trans hA
          have hbV := hbA.trans (hbd.mono hbA.size)
          generalize W.drewN nq = V at hoV hAV hbV ⊢
          clear hbd hoA hA hbA e3 e4 
          have e3 := blk_cellB (j := 3) hAV rfl
          have e4 := blk_cellB (j := 4) hAV rfl
          go_wp2_with (at_builtin; refine wpList_append_own_at _ rfl _ _ 95 rfl w1.heap.size 148 i0 (.agg #[.int .i64 0, .int .i64 0, .int .i64 0]) 3 24 Tryd.underlying95 hi hz0 hz1 hz2 rfl (by decide) _ (0) (lvV acc) rfl (hoV.alloc _) ⟨V.heap.size, 0, none⟩ 1 1 [.int .i64 o.price, .int .i64 o.qty, .int .i64 1] rfl rfl (World.news_of_block (cs := #[.int .i64 o.price, .int .i64 o.qty, .int .i64 1]) (t := 148) (fr := (0, 0)) (heap_alloc_new V _)) (by simp [Value.oneCell']) (by unfold maxLen; omega) (by omega) (by have := hbV.size; simp; omega) ?_; intro v' w6 hown6 hgrow6 _ _)
          go_roundw
          case rel =>
            refine ⟨k + 1, hk1, by go_num, (hbV.alloc hbV.size _).grown hgrow6 (by have := hbV.size; simp; omega) (fun q hq => (hoV.lt q hq).1), ?_⟩
            rw [HT.out, HS.out, List.length_append, List.length_singleton, lvV_snoc, hN]
            exact hown6
          case measure => simp [intOf]; omega
    · obtain rfl : k = L.length := by omega
      go_wp2_with fail
      go_ret
      have h9 := HW.out.mono HB1.out.size
      rw [HLE.out]
      refine ⟨_, rfl, ?_, HB1.out.trans (HB.out.mono HB1.out.size)⟩
      show World.ownsRow _ _ _ _ (.slice vao (depth (L.take L.length)).length vcap) _ _
      rw [List.take_length] at h9 ⊢
      exact h9
end Go.Proofs.YtcpijeehgdbjbaaDoor
