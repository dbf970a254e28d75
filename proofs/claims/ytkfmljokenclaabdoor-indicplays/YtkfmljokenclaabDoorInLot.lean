/-
  Lots by place (side, kind, price), and orders that have just those lots, each of at most 1000000: how many orders these are, and that what is bought and sold at a price hangs on the lots alone. No program is named here.
-/
import Derived.Test.YtkfmljokenclaabDoorCuWay
import Derived.Test.YtkfmljokenclaabDoorInMap
namespace Go.Proofs.YtkfmljokenclaabDoor
open Go.RowKit

abbrev Pl : Type := Int × Int × Int
def nAt (n : Int → Int → Int → Int) (x : Pl) : Int := n x.1 x.2.1 x.2.2
/-- lots, and a little more for each place that has any -/
def wt0 (r : Int) : Int := r + (if r = 0 then 0 else 999999)
def sumW (n : Int → Int → Int → Int) (ss : List Pl) : Int := (ss.map fun x => wt0 (nAt n x)).sum
theorem sumW_cons (n : Int → Int → Int → Int) (x : Pl) (ss : List Pl) : sumW n (x :: ss) = wt0 (nAt n x) + sumW n ss := by simp [sumW]
theorem sumW_snoc (n : Int → Int → Int → Int) (ss : List Pl) (x : Pl) : sumW n (ss ++ [x]) = sumW n ss + wt0 (nAt n x) := by simp [sumW]
/-- a place that may be -/
def PlOk (s k p : Int) : Prop := (s = 1 ∨ s = 2) ∧ ((k = 0 ∧ 1 ≤ p ∧ p ≤ 1000000) ∨ (k = 2 ∧ p = 0))
theorem PlOk.wf {s k p : Int} (h : PlOk s k p) : Wf3 s k p := by
  obtain ⟨h1, h2⟩ := h
  refine ⟨WalkArith.wf_i64 (by omega), WalkArith.wf_i64 (by omega), WalkArith.wf_i64 (by omega)⟩
/-- lots of at most i steps -/
structure NOk (n : Int → Int → Int → Int) (i : Nat) : Prop where
  nn : ∀ s k p, 0 ≤ n s k p
  pl : ∀ s k p, n s k p ≠ 0 → PlOk s k p
  sum : ∀ ss : List Pl, ss.Nodup → sumW n ss ≤ 2000000 * (i : Int)
theorem NOk.start : NOk (fun _ _ _ => 0) 0 := by
  refine ⟨fun _ _ _ => Int.le_refl _, fun _ _ _ h => absurd rfl h, fun ss _ => ?_⟩
  have : ∀ ss : List Pl, sumW (fun _ _ _ => 0) ss = 0 := fun ss => by
    induction ss with
    | nil => rfl
    | cons x ss ih => rw [sumW_cons, ih]; rfl
  rw [this]; omega
theorem NOk.small {n : Int → Int → Int → Int} {i : Nat} (h : NOk n i) (s k p : Int) : n s k p ≤ 2000000 * (i : Int) := by
  have h1 := h.sum [(s, k, p)] (by simp)
  have h2 := h.nn s k p
  rw [sumW_cons] at h1
  have e : nAt n (s, k, p) = n s k p := rfl
  rw [e] at h1
  unfold wt0 sumW at h1
  simp only [List.map_nil, List.sum_nil] at h1
  split at h1 <;> omega
theorem sumW_up {n : Int → Int → Int → Int} {s k p x : Int} : ∀ {ss : List Pl}, ss.Nodup → sumW (up3 n s k p x) ss = sumW n ss + (if (s, k, p) ∈ ss then wt0 x - wt0 (n s k p) else 0)
  | [], _ => by simp [sumW]
  | y :: ss, h => by
    rw [List.nodup_cons] at h
    rw [sumW_cons, sumW_cons, sumW_up h.2]
    obtain ⟨a, b, c⟩ := y
    have ey : nAt (up3 n s k p x) (a, b, c) = up3 n s k p x a b c := rfl
    have en : nAt n (a, b, c) = n a b c := rfl
    rw [ey, en]
    by_cases e : a = s ∧ b = k ∧ c = p
    · obtain ⟨rfl, rfl, rfl⟩ := e
      rw [up3_same, if_neg h.1, if_pos (List.mem_cons_self ..)]
      omega
    · rw [up3_other x e]
      have : (s, k, p) ∈ (a, b, c) :: ss ↔ (s, k, p) ∈ ss := by
        rw [List.mem_cons]
        constructor
        · rintro (h1 | h1)
          · injection h1 with h1 h2; injection h2 with h2 h3; exact absurd ⟨h1.symm, h2.symm, h3.symm⟩ e
          · exact h1
        · exact Or.inr
      simp only [this]
      omega
theorem wt0_in {r : Int} (h : 0 ≤ r) : 0 ≤ wt0 r := by unfold wt0; split <;> omega
theorem NOk.more {n : Int → Int → Int → Int} {i : Nat} (h : NOk n i) : NOk n (i + 1) := ⟨h.nn, h.pl, fun ss hs => by have := h.sum ss hs; omega⟩
theorem NOk.add {n : Int → Int → Int → Int} {i : Nat} (h : NOk n i) {s k p q : Int} (hp : PlOk s k p) (hq : 1 ≤ q ∧ q ≤ 1000000) : NOk (up3 n s k p (n s k p + q)) (i + 1) := by
  have h0 := h.nn s k p
  refine ⟨fun a b c => ?_, fun a b c hx => ?_, fun ss hs => ?_⟩
  · by_cases e : a = s ∧ b = k ∧ c = p
    · obtain ⟨rfl, rfl, rfl⟩ := e; rw [up3_same]; omega
    · rw [up3_other _ e]; exact h.nn a b c
  · by_cases e : a = s ∧ b = k ∧ c = p
    · obtain ⟨rfl, rfl, rfl⟩ := e; exact hp
    · rw [up3_other _ e] at hx; exact h.pl a b c hx
  · rw [sumW_up hs]
    have := h.sum ss hs
    have e : wt0 (n s k p + q) - wt0 (n s k p) ≤ 2000000 := by unfold wt0; split <;> split <;> omega
    split <;> omega
theorem NOk.take {n : Int → Int → Int → Int} {i : Nat} (h : NOk n i) {s k p q : Int} (hq : 1 ≤ q) (hn : q ≤ n s k p) : NOk (up3 n s k p (n s k p - q)) (i + 1) := by
  have h0 := h.nn s k p
  refine ⟨fun a b c => ?_, fun a b c hx => ?_, fun ss hs => ?_⟩
  · by_cases e : a = s ∧ b = k ∧ c = p
    · obtain ⟨rfl, rfl, rfl⟩ := e; rw [up3_same]; omega
    · rw [up3_other _ e]; exact h.nn a b c
  · by_cases e : a = s ∧ b = k ∧ c = p
    · obtain ⟨rfl, rfl, rfl⟩ := e; exact h.pl a b c (by omega)
    · rw [up3_other _ e] at hx; exact h.pl a b c hx
  · rw [sumW_up hs]
    have := h.sum ss hs
    have e : wt0 (n s k p - q) - wt0 (n s k p) ≤ 0 := by unfold wt0; split <;> split <;> omega
    split <;> omega

/-- is it one place's? -/
def atP (s k p : Int) (o : Ord) : Bool := (o.side == s) && ((o.kind == k) && (o.price == p))
/-- an order that the law lays -/
def OrdOk (o : Ord) : Prop := okO o = true ∧ PlOk o.side o.kind o.price
/-- the orders of the places ss -/
structure GOut (n : Int → Int → Int → Int) (ss : List Pl) (G : List Ord) : Prop where
  ok : ∀ o ∈ G, OrdOk o
  sums : ∀ s k p, sumQ (atP s k p) G = if (s, k, p) ∈ ss then n s k p else 0
  len : (G.length : Int) * 1000000 ≤ sumW n ss
/-- .. and of one place more, of which r lots are left -/
structure GIn (n : Int → Int → Int → Int) (ss : List Pl) (s k p r : Int) (G : List Ord) : Prop where
  ok : ∀ o ∈ G, OrdOk o
  sums : ∀ a b c, sumQ (atP a b c) G = if (a, b, c) ∈ ss then n a b c else if a = s ∧ b = k ∧ c = p then n s k p - r else 0
  len : (G.length : Int) * 1000000 + wt0 r ≤ sumW n ss + wt0 (n s k p)
theorem GOut.start (n : Int → Int → Int → Int) : GOut n [] [] := ⟨fun _ h => (by cases h), fun _ _ _ => rfl, by simp [sumW]⟩
theorem GIn.start {n : Int → Int → Int → Int} {ss : List Pl} {G : List Ord} (h : GOut n ss G) (s k p : Int) : GIn n ss s k p (n s k p) G := by
  refine ⟨h.ok, fun a b c => ?_, by have := h.len; omega⟩
  rw [h.sums]
  by_cases h1 : (a, b, c) ∈ ss
  · rw [if_pos h1, if_pos h1]
  · rw [if_neg h1, if_neg h1]
    split <;> omega
theorem sumQ_one (q : Ord → Bool) (G : List Ord) (o : Ord) : sumQ q (G ++ [o]) = sumQ q G + (if q o = true then o.qty else 0) := by
  unfold sumQ; rw [List.map_append, List.map_singleton, sum_snoc]
theorem GIn.step {n : Int → Int → Int → Int} {ss : List Pl} {s k p r : Int} {G : List Ord} (h : GIn n ss s k p r G) (hp : PlOk s k p) (hr : 0 < r) (hn : (s, k, p) ∉ ss) : GIn n ss s k p (r - min r 1000000) (G ++ [⟨0, s, k, p, min r 1000000⟩]) := by
  refine ⟨fun o ho => ?_, fun a b c => ?_, ?_⟩
  · rw [List.mem_append, List.mem_singleton] at ho
    rcases ho with ho | rfl
    · exact h.ok o ho
    · refine ⟨?_, hp⟩
      unfold okO
      rw [Bool.and_eq_true, inC_iff, inC_iff]
      have := hp.1
      exact ⟨by show 1 ≤ s ∧ s ≤ 2; omega, by show 1 ≤ min r 1000000 ∧ min r 1000000 ≤ 1000000; omega⟩
  · rw [sumQ_one, h.sums]
    by_cases e : a = s ∧ b = k ∧ c = p
    · obtain ⟨rfl, rfl, rfl⟩ := e
      have h1 : a = a ∧ b = b ∧ c = c := ⟨rfl, rfl, rfl⟩
      have h2 : atP a b c ⟨0, a, b, c, min r 1000000⟩ = true := by simp [atP]
      rw [if_neg hn, if_neg hn, if_pos h1, if_pos h2, if_pos h1]
      show n a b c - r + min r 1000000 = _
      omega
    · have hx : ¬ atP a b c ⟨0, s, k, p, min r 1000000⟩ = true := fun hx => by
        simp only [atP, Bool.and_eq_true, beq_iff_eq] at hx
        exact e ⟨hx.1.symm, hx.2.1.symm, hx.2.2.symm⟩
      rw [if_neg hx, if_neg e, if_neg e]
      omega
  · have := h.len
    rw [List.length_append, List.length_singleton]
    have e : 1000000 + wt0 (r - min r 1000000) ≤ wt0 r := by unfold wt0; split <;> split <;> omega
    omega
theorem GIn.done {n : Int → Int → Int → Int} {ss : List Pl} {s k p r : Int} {G : List Ord} (h : GIn n ss s k p r G) (hr : r = 0) : GOut n (ss ++ [(s, k, p)]) G := by
  subst hr
  refine ⟨h.ok, fun a b c => ?_, ?_⟩
  · rw [h.sums]
    by_cases h1 : (a, b, c) ∈ ss
    · rw [if_pos h1, if_pos (List.mem_append_left _ h1)]
    · rw [if_neg h1]
      by_cases e : a = s ∧ b = k ∧ c = p
      · obtain ⟨rfl, rfl, rfl⟩ := e
        rw [if_pos ⟨rfl, rfl, rfl⟩, if_pos (by simp)]; omega
      · rw [if_neg e, if_neg]
        rw [List.mem_append, List.mem_singleton]
        rintro (h2 | h2)
        · exact h1 h2
        · injection h2 with h2 h3; injection h3 with h3 h4; exact e ⟨h2, h3, h4⟩
  · have := h.len
    rw [sumW_snoc]
    have e : nAt n (s, k, p) = n s k p := rfl
    have z : wt0 0 = 0 := rfl
    rw [e]; omega

/-- orders that have just the lots -/
structure GAll (n : Int → Int → Int → Int) (G : List Ord) : Prop where
  ok : ∀ o ∈ G, OrdOk o
  sums : ∀ s k p, sumQ (atP s k p) G = n s k p
  len : G.length ≤ 200
theorem GOut.all {n : Int → Int → Int → Int} {i : Nat} {ss : List Pl} {G : List Ord} (h : GOut n ss G) (hn : NOk n i) (hi : i ≤ 100) (hd : ss.Nodup) (hs : ∀ s k p, n s k p ≠ 0 → (s, k, p) ∈ ss) : GAll n G := by
  refine ⟨h.ok, fun s k p => ?_, ?_⟩
  · rw [h.sums]
    by_cases h1 : (s, k, p) ∈ ss
    · rw [if_pos h1]
    · rw [if_neg h1]
      exact (Decidable.byContradiction fun e => h1 (hs s k p (fun e' => e e'.symm)))
  · have h1 := h.len
    have h2 := hn.sum ss hd
    omega
theorem GAll.okO {n : Int → Int → Int → Int} {G : List Ord} (h : GAll n G) : ∀ o ∈ G, okO o = true := fun o ho => (h.ok o ho).1
theorem GAll.prices {n : Int → Int → Int → Int} {G : List Ord} (h : GAll n G) : ∀ o ∈ G, namesO o = true → 0 ≤ o.price ∧ o.price ≤ 1000000 := fun o ho _ => by
  have := (h.ok o ho).2.2; omega
theorem GAll.eqs {n : Int → Int → Int → Int} {G : List Ord} (h : GAll n G) : (fun p => n 1 0 p) = (fun p => sumQ (limBB p) G) ∧ (fun p => n 2 0 p) = (fun p => sumQ (limSB p) G) ∧ n 1 2 0 = sumQ mkBB G ∧ n 2 2 0 = sumQ mkSB G := by
  refine ⟨funext fun p => ?_, funext fun p => ?_, ?_, ?_⟩
  · rw [← h.sums]
    refine sumQ_congr (fun o ho => ?_)
    have h1 := (h.ok o ho).2
    unfold atP limBB
    rcases h1.2 with ⟨h2, _⟩ | ⟨h2, _⟩
    · rw [h2]; simp [Bool.and_comm]
    · rw [h2]; simp
  · rw [← h.sums]
    refine sumQ_congr (fun o ho => ?_)
    have h1 := (h.ok o ho).2
    unfold atP limSB
    rcases h1.2 with ⟨h2, _⟩ | ⟨h2, _⟩
    · rw [h2]
      rcases h1.1 with h3 | h3
      · rw [h3]; simp
      · rw [h3]; simp
    · rw [h2]; simp
  · rw [← h.sums]
    refine sumQ_congr (fun o ho => ?_)
    have h1 := (h.ok o ho).2
    unfold atP mkBB
    rcases h1.2 with ⟨h2, _⟩ | ⟨h2, h4⟩
    · rw [h2]; simp
    · rw [h2, h4]; simp
  · rw [← h.sums]
    refine sumQ_congr (fun o ho => ?_)
    have h1 := (h.ok o ho).2
    unfold atP mkSB
    rcases h1.2 with ⟨h2, _⟩ | ⟨h2, h4⟩
    · rw [h2]; simp
    · rw [h2, h4]
      rcases h1.1 with h3 | h3
      · rw [h3]; simp
      · rw [h3]; simp

/-- the places that the range has given -/
structure CollP (D : DataW Unit) (left : Lit → Bool) (ss : List Pl) : Prop where
  nd : ss.Nodup
  mem : ∀ s k p, Wf3 s k p → ((s, k, p) ∈ ss ↔ (Maps.has D (KL s k p) = true ∧ left (KL s k p) = false))
  wf : ∀ s k p, (s, k, p) ∈ ss → Wf3 s k p
theorem CollP.start (D : DataW Unit) : CollP D (Maps.has D) [] := by
  refine ⟨List.nodup_nil, fun s k p _ => ?_, fun s k p h => by cases h⟩
  constructor
  · intro h; cases h
  · rintro ⟨h1, h2⟩; rw [h1] at h2; cases h2
theorem CollP.fresh {D : DataW Unit} {left : Lit → Bool} {ss : List Pl} (h : CollP D left ss) {s k p : Int} (hw : Wf3 s k p) (hl : left (KL s k p) = true) : (s, k, p) ∉ ss := fun hm => by
  have := ((h.mem s k p hw).1 hm).2; rw [hl] at this; cases this
theorem CollP.step {D : DataW Unit} {left : Lit → Bool} {ss : List Pl} (h : CollP D left ss) {s k p : Int} (hw : Wf3 s k p) (hl : left (KL s k p) = true) (hh : Maps.has D (KL s k p) = true) : CollP D (fun z => left z && !z.sameKey (KL s k p)) (ss ++ [(s, k, p)]) := by
  refine ⟨?_, fun a b c hw' => ?_, fun a b c hm => ?_⟩
  · rw [List.nodup_append]
    refine ⟨h.nd, by simp, fun x hx y hy e => ?_⟩
    rw [List.mem_singleton] at hy
    subst hy; subst e
    exact h.fresh hw hl hx
  · rw [List.mem_append, List.mem_singleton]
    by_cases e : a = s ∧ b = k ∧ c = p
    · obtain ⟨rfl, rfl, rfl⟩ := e
      rw [WideAt.sameKey_self (KL_key ..)]
      simp [hh]
    · rw [Maps.sameKey_ne (KL_ne hw' hw e), h.mem a b c hw']
      constructor
      · rintro (h1 | h1)
        · simpa using h1
        · injection h1 with h1 h2; injection h2 with h2 h3; exact absurd ⟨h1, h2, h3⟩ e
      · intro h1; exact Or.inl (by simpa using h1)
  · rw [List.mem_append, List.mem_singleton] at hm
    rcases hm with hm | hm
    · exact h.wf a b c hm
    · injection hm with h1 h2; injection h2 with h2 h3; subst h1; subst h2; subst h3; exact hw
theorem CollP.all {D : DataW Unit} {left : Lit → Bool} {ss : List Pl} {n : Int → Int → Int → Int} {i : Nat} (h : CollP D left ss) (hL : LtD D n) (hn : NOk n i) (hl : ∀ kl, left kl = false) : ∀ s k p, n s k p ≠ 0 → (s, k, p) ∈ ss := fun s k p hx => by
  have hw := (hn.pl s k p hx).wf
  rw [h.mem s k p hw]
  refine ⟨?_, hl _⟩
  cases hh : Maps.has D (KL s k p) with
  | true => rfl
  | false =>
    have h1 := hL.1 s k p hw
    rw [Maps.atKey_of_not_has hh] at h1
    have : (0 : Int) = n s k p := by simpa [litI] using h1
    exact absurd this.symm hx
end Go.Proofs.YtkfmljokenclaabDoor
