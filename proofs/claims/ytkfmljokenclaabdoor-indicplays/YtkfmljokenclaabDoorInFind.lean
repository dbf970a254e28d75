/-
  What sort.Search returns of a function value that tells yes or no of each number, and where the program's find finds a price in a row of levels, over this seat's translation. Conditions stand in each theorem.
-/
import Derived.Test.YtkfmljokenclaabDoorInLv
import Derived.Deep.RegionWith
import Derived.Lib.Walk
import Derived.Deep.LoopGhost
import Derived.Shelf.Abstract
namespace Go.Proofs.YtkfmljokenclaabDoor
open Go.RowKit

/-- a function value that tells yes or no of each number below n, and lays blocks at most -/
structure IdxFn (g : Nat) (lb : Array Value) (q : Nat → Bool) (n : Nat) (w0 : World) : Prop where
  enters : ∀ args w, (callFunc g args).run Tryd.prog w = .ok (.enter g args) w
  tells : ∀ W, Below w0.heap.size w0 W → ∀ k, k < n → Calls Tryd.prog g (#[.int .i64 (k : Int)] ++ lb) W fun e W' => e = .returned (.bool (q k)) ∧ Below W.heap.size W W'

set_option maxRecDepth 4000 in
set_option maxHeartbeats 4000000 in
theorem srSearch (g : Nat) (lb : Array Value) (q : Nat → Bool) (n : Nat) (w : World) (hn : n ≤ 100000) (hf : IdxFn g lb q n w) :
    Calls Tryd.prog 46 #[.int .i64 n, .func (.func g) #[] lb] w fun e w' => ∃ k : Nat, k ≤ n ∧ e = .returned (.int .i64 k) ∧ (k = 0 ∨ q (k - 1) = false) ∧ (k = n ∨ q k = true) ∧ Below w.heap.size w w' := by
  have HF : Hid (IdxFn g lb q n w) := hf
  have eg := hf.enters
  clear hf
  go_enter Tryd.func46, Tryd.ntmps46
  go_wp2_with fail
  go_loopg [5, 6, 7] n (fun m s5 s6 _ wr => ∃ lo hi : Nat, s5 = .int .i64 lo ∧ s6 = .int .i64 hi ∧ lo ≤ hi ∧ hi ≤ n ∧ hi - lo ≤ m ∧ (lo = 0 ∨ q (lo - 1) = false) ∧ (hi = n ∨ q hi = true) ∧ Below w.heap.size w wr)
  case atStart => exact ⟨0, n, rfl, rfl, Nat.zero_le _, Nat.le_refl _, by omega, Or.inl rfl, Or.inl rfl, Below.refl _ _⟩
  case round =>
    obtain ⟨lo, hi, rfl, rfl, hlh, hin, hg, h1, h2, hb⟩ := hrel
    have I : Hid ((lo = 0 ∨ q (lo - 1) = false) ∧ (hi = n ∨ q hi = true)) := ⟨h1, h2⟩
    have HB : Hid (Below w.heap.size w wr) := hb
    clear h1 h2 hb
    by_cases hlt : lo < hi
    · have HT := HF.out.tells wr HB.out ((lo + hi) / 2) (by omega)
      go_wp2_with fail
      rw [show ((((lo + hi) / 2 : Nat)) : Int) = ((lo : Int) + (hi : Int)) / 2 by omega] at HT
      refine HT.mono ?_
      rintro e w1 ⟨rfl, hb1⟩
      have HB1 : Hid (Below w.heap.size w w1) := bel_then HB.out hb1
      clear HT hb1 HB
      cases hq : q ((lo + hi) / 2) with
      | false =>
        have HQ : Hid (q ((lo + hi) / 2) = false) := hq
        clear hq
        go_wp2_with fail
        go_roundg (hi - ((lo + hi) / 2 + 1))
        case measure => omega
        case rel => exact ⟨(lo + hi) / 2 + 1, hi, by rw [show ((lo : Int) + (hi : Int)) / 2 + 1 = (((lo + hi) / 2 + 1 : Nat) : Int) by omega], rfl, by omega, hin, Nat.le_refl _, Or.inr HQ.out, I.out.2, HB1.out⟩
      | true =>
        have HQ : Hid (q ((lo + hi) / 2) = true) := hq
        clear hq
        go_wp2_with fail
        go_roundg ((lo + hi) / 2 - lo)
        case measure => omega
        case rel => exact ⟨lo, (lo + hi) / 2, rfl, by rw [show ((lo : Int) + (hi : Int)) / 2 = (((lo + hi) / 2 : Nat) : Int) by omega], by omega, by omega, Nat.le_refl _, I.out.1, Or.inr HQ.out, HB1.out⟩
    · obtain rfl : lo = hi := by omega
      go_wp2_with fail
      go_ret
      exact ⟨lo, hin, rfl, I.out.1, I.out.2, HB.out⟩

/-- levels that lie one behind the other, from an address on -/
def LvsIn (w : World) (a : Option Addr) (l : List Lv) : Prop := ∀ k, k < l.length → ∃ b off, a = some ⟨b, off, none⟩ ∧ w.cell? ⟨b, off + k * 4, none⟩ = some (.int .i64 (lvAt l k).price) ∧ w.cell? ⟨b, off + k * 4 + 1, none⟩ = some (.int .i64 0) ∧ w.cell? ⟨b, off + k * 4 + 2, none⟩ = some (.int .i64 (lvAt l k).buy) ∧ w.cell? ⟨b, off + k * 4 + 3, none⟩ = some (.int .i64 (lvAt l k).sell)
theorem lv_cell {w w' : World} {p : Addr} {v : Value} (hb : Below w.heap.size w w') (h : w.cell? p = some v) : w'.cell? p = some v := (hb.cell (World.block_lt_of_cell? w _ h)).trans h
theorem LvsIn.below {w w' : World} {a : Option Addr} {l : List Lv} (h : LvsIn w a l) (hb : Below w.heap.size w w') : LvsIn w' a l := fun k hk => by
  obtain ⟨b, off, e, h0, h1, h2, h3⟩ := h k hk
  exact ⟨b, off, e, lv_cell hb h0, lv_cell hb h1, lv_cell hb h2, lv_cell hb h3⟩
theorem LvsIn.of_row {w : World} {base : Nat} {v : Value} {l : List Lv} (h : w.ownsRow base 67 4 v l.length (lvV l)) : ∃ a cap, v = .slice a l.length cap ∧ LvsIn w a l := by
  obtain ⟨a, cap, rfl, _, _⟩ := owns_shape h
  refine ⟨a, cap, rfl, fun k hk => ?_⟩
  obtain ⟨g, cap', e, _, _⟩ := h.form (by omega)
  simp only [Value.slice.injEq, true_and] at e
  obtain ⟨rfl, rfl⟩ := e
  obtain ⟨h1, h2, h3, h4⟩ := lvV_at hk
  exact ⟨g, 0, rfl, by simpa using (h.cellAt _ (by omega)).trans h1, by simpa using (h.cellAt _ (by omega)).trans h2, by simpa using (h.cellAt _ (by omega)).trans h3, by simpa using (h.cellAt _ (by omega)).trans h4⟩

set_option maxRecDepth 4000 in
set_option maxHeartbeats 4000000 in
theorem fnFind (lb pb : Nat) (a : Option Addr) (cap : Nat) (l : List Lv) (p : Int) (w : World) (h : LvsIn w a l) (h1 : w.cell? ⟨lb, 0, none⟩ = some (.slice a l.length cap)) (h2 : w.cell? ⟨pb, 0, none⟩ = some (.int .i64 p)) :
    IdxFn 47 #[.pointer (some ⟨lb, 0, none⟩), .pointer (some ⟨pb, 0, none⟩)] (fun k => decide (p ≤ (lvAt l k).price)) l.length w := by
  refine ⟨enters_of Tryd.func47 (by kernel_rfl) rfl, fun W hW k hk => ?_⟩
  show Calls Tryd.prog 47 #[.int .i64 (k : Int), .pointer (some ⟨lb, 0, none⟩), .pointer (some ⟨pb, 0, none⟩)] W _
  obtain ⟨b, off, rfl, d0, _⟩ := h.below hW k hk
  have c1 := lv_cell hW h1
  have c2 := lv_cell hW h2
  have q0 : (0 : Int) ≤ (k : Int) := by omega
  have hlt : (k : Int) < (l.length : Int) := by omega
  generalize (lvAt l k).price = x at d0 ⊢
  clear h h1 h2 hW
  go_enter Tryd.func47, Tryd.ntmps47
  go_wp2_with fail
  go_quiet (fail)
  go_wp2_with fail
  go_ret
  exact ⟨rfl, below_drewN (Below.refl _ _) _⟩

set_option maxRecDepth 4000 in
set_option maxHeartbeats 4000000 in
theorem inFind (a : Option Addr) (cap : Nat) (l : List Lv) (p : Int) (w : World) (h : LvsIn w a l) (hr : RiseL l) (hl : l.length ≤ 1000) :
    Calls Tryd.prog 28 #[.slice a l.length cap, .int .i64 p] w fun e w' => e = .returned (.tuple #[.int .i64 (posL p l), .bool (hasL p l)]) ∧ Below w.heap.size w w' := by
  have HA : Hid (LvsIn w a l) := h
  have HR : Hid (RiseL l) := hr
  clear h hr
  go_enter Tryd.func28, Tryd.ntmps28
  go_wp2_with fail
  have b1 := two_old w (.cells #[.slice a l.length cap] 23) (.cells #[.int .i64 p] 3)
  have b2 := two_new w (.cells #[.slice a l.length cap] 23) (.cells #[.int .i64 p] 3)
  have hb := bel2 w (.cells #[.slice a l.length cap] 23) (.cells #[.int .i64 p] 3)
  generalize (w.alloc (.cells #[.slice a l.length cap] 23)).alloc (.cells #[.int .i64 p] 3) = W at b1 b2 hb ⊢
  have c1 := blk_cell (j := 0) b1 rfl
  have c2 := blk_cell (j := 0) b2 rfl
  have HLW : Hid (LvsIn W a l) := HA.out.below hb
  refine (srSearch _ _ _ l.length W (by omega) (fnFind w.heap.size (w.heap.size + 1) a cap l p W HLW.out c1 c2)).mono ?_
  rintro e w1 ⟨k, hk, rfl, hk1, hk2, hb1⟩
  have hpos : posL p l = k := posL_is HR.out hk (hk1.imp id (fun e => by simpa using e)) (hk2.imp id (fun e => by simpa using e))
  subst hpos
  have d1 := lv_cell hb1 c1
  have d2 := lv_cell hb1 c2
  have HB1 : Hid (Below w.heap.size w w1) := bel_then hb hb1
  have HL1 : Hid (LvsIn w1 a l) := HLW.out.below hb1
  clear hk1 hk2 hb1 c1 c2 b1 b2 hb HLW HA
  by_cases hlt : posL p l < l.length
  · obtain ⟨b, off, rfl, d0, _⟩ := HL1.out (posL p l) hlt
    have HH : Hid (hasL p l = ((lvAt l (posL p l)).price == p)) := hasL_at hlt
    have hlt' : ((posL p l : Nat) : Int) < (l.length : Int) := by omega
    have q0 : (0 : Int) ≤ (posL p l : Int) := by omega
    obtain ⟨x, hx⟩ : ∃ x, (lvAt l (posL p l)).price = x := ⟨_, rfl⟩
    rw [hx] at d0
    have HX : Hid ((lvAt l (posL p l)).price = x) := hx
    clear hx
    go_wp2_with fail
    go_quiet (fail)
    go_wp2_with fail
    go_ret2
    exact ⟨by rw [HH.out, HX.out]; rfl, below_drewN HB1.out _⟩
  · have HH : Hid (hasL p l = false) := hasL_no hlt
    have hlt' : ¬ ((posL p l : Nat) : Int) < (l.length : Int) := by omega
    go_wp2_with fail
    go_quiet (fail)
    go_wp2_with fail
    go_ret2
    exact ⟨by rw [HH.out]; rfl, below_drewN HB1.out _⟩
end Go.Proofs.YtkfmljokenclaabDoor
