/-
  What the document's Willing (8.1) returns, over this seat's translation. Conditions stand in each theorem: where the Book lies, and that its orders may lie.
-/
import Derived.Test.YtcoijhofliilmabGreatDoorFM
import Derived.Test.YtcoijhofliilmabGreatDoorFK
import Derived.Deep.CutBlock
import Derived.Deep.CutRange
import Derived.Test.YtcoijhofliilmabGreatDoorFD
namespace Go.Proofs.YtcoijhofliilmabGreatDoor
open Go.RowKit

theorem LOk.take {L : List Ord} (h : LOk L) (k : Nat) : LOk (L.take k) := ⟨fun o ho => h.side o (List.mem_of_mem_take ho), ((List.take_sublist k L).map Ord.id).nodup h.ids, fun o ho => h.ok o (List.mem_of_mem_take ho)⟩
theorem wilL_take {L : List Ord} {k : Nat} (s p : Int) (h : k < L.length) : wilL s p (L.take (k + 1)) = wilL s p (L.take k) + (if ((oAt L k).side == s && wilB s p (oAt L k)) = true then (oAt L k).qty else 0) := by
  unfold wilL
  rw [List.take_succ_eq_append_getElem h, List.map_append, List.map_singleton, List.sum_append, oAt_eq h]
  simp

set_option maxRecDepth 4000 in
set_option maxHeartbeats 4000000 in
theorem bkWil1 (base bb : Nat) (v : Value) (l : List Ord) (p : Int) (w : World) (h : BookIs w base bb v l) (hl : l.length ≤ 100) (hok : LOk l) :
    Calls Tryz.prog 21 #[.pointer (some ⟨bb, 0, none⟩), .int .i64 1, .int .i64 p] w fun e w' => e = .returned (.int .i64 (wilL 1 p l)) ∧ Below w.heap.size w w' := by
  have c0 : w.cell? ⟨bb, 0, none⟩ = some v := cell_of_one h.box
  have HA : Hid (BookIs w base bb v l) := h
  have HK : Hid (LOk l) := hok
  obtain ⟨ao, cap, rfl, _, _⟩ := bk_shape h.all
  clear h hok
  go_enter Tryz.func21, Tryz.ntmps21
  go_wp2_with fail
  go_loopw [7, 9, 15] (fun u _ i wr => ∃ k : Nat, k ≤ l.length ∧ i = .int .i64 k ∧ u = .int .i64 (wilL 1 p (l.take k)) ∧ Below w.heap.size w wr) (fun _ _ i _ => l.length - (intOf i).toNat)
  case atStart => exact ⟨0, Nat.zero_le _, rfl, rfl, Below.refl _ _⟩
  case round =>
    obtain ⟨k, hk, rfl, rfl, hb⟩ := hrel
    have HB : Hid (Below w.heap.size w wr) := hb
    by_cases hk1 : k < l.length
    · have hlt : (k : Int) < (l.length : Int) := by omega
      obtain ⟨g, cap', hv, d0, d1, d2, d3, d4⟩ := row_order (HA.out.below hb (Nat.le_refl _)).all hk1
      simp only [Value.slice.injEq, true_and] at hv
      obtain ⟨rfl, rfl⟩ := hv
      have hin := wilL_in 1 p (HK.out.take k)
      have hq := HK.out.ok _ (oAt_in hk1)
      have htl : (l.take k).length ≤ 100 := by rw [List.length_take]; omega
      have HW : Hid (wilL 1 p (l.take (k + 1)) = wilL 1 p (l.take k) + (if ((oAt l k).side == 1 && wilB 1 p (oAt l k)) = true then (oAt l k).qty else 0)) := wilL_take 1 p hk1
      clear hb
      generalize oAt l k = o at d0 d1 d2 d3 d4 hq HW
      generalize wilL 1 p (l.take k) = nn at hin HW ⊢
      go_upto_region 5 with fail
      obtain ⟨cc, hcc⟩ : ∃ cc : Bool, cc = (o.side == 1 && wilB 1 p o) := ⟨_, rfl⟩
      have HCC : Hid (cc = (o.side == 1 && wilB 1 p o)) := hcc
      rw [← hcc] at HW
      clear hcc
      go_cut [47] from 16 to 52 (fun u wc => u = .bool cc ∧ wc = wr.alloc (.cells #[.int .i64 o.id, .int .i64 o.side, .int .i64 o.kind, .int .i64 o.price, .int .i64 o.qty] 40))
      case first =>
        by_cases h1 : o.side = 1
        · have b1 : (o.side == 1) = true := beq_iff_eq.2 h1
          by_cases h2 : o.kind = 2
          · have b2 : (o.kind == 2) = true := beq_iff_eq.2 h2
            have HC : Hid (cc = true) := by show cc = true; rw [HCC.out]; unfold wilB; rw [b1, b2]; rfl
            clear h1 h2
            go_wp2_with fail
            go_meet
            exact ⟨by rw [HC.out], rfl⟩
          · have b2 : (o.kind == 2) = false := beq_eq_false_iff_ne.2 h2
            by_cases h3 : p ≤ o.price
            · have HC : Hid (cc = true) := by show cc = true; rw [HCC.out]; unfold wilB; rw [b1, b2]; simp [h3]
              clear h1 h2
              go_wp2_with fail
              go_meet
              exact ⟨by rw [HC.out], rfl⟩
            · have HC : Hid (cc = false) := by show cc = false; rw [HCC.out]; unfold wilB; rw [b1, b2]; simp [h3]
              clear h1 h2
              go_wp2_with fail
              go_meet
              exact ⟨by rw [HC.out], rfl⟩
        · have b1 : (o.side == 1) = false := beq_eq_false_iff_ne.2 h1
          have HC : Hid (cc = false) := by show cc = false; rw [HCC.out, b1]; rfl
          clear h1
          go_wp2_with fail
          go_meet
          exact ⟨by rw [HC.out], rfl⟩
      case rest =>
        obtain ⟨rfl, rfl⟩ := hcut
        cases hc : cc with
        | true =>
          have HW2 : Hid (wilL 1 p (l.take (k + 1)) = nn + o.qty) := by rw [HW.out, if_pos hc]; rfl
          clear hc HW
          go_wp2_with fail
          go_roundw
          case rel => exact ⟨k + 1, hk1, by go_num, by rw [HW2.out], HB.out.alloc HB.out.size _⟩
          case measure => simp [intOf]; omega
        | false =>
          have HW2 : Hid (wilL 1 p (l.take (k + 1)) = nn) := by show _ = _; rw [HW.out, if_neg (by rw [hc]; decide)]; omega
          clear hc HW
          go_wp2_with fail
          go_roundw
          case rel => exact ⟨k + 1, hk1, by go_num, by rw [HW2.out], HB.out.alloc HB.out.size _⟩
          case measure => simp [intOf]; omega
    · obtain rfl : k = l.length := by omega
      rw [List.take_length]
      clear hb
      go_wp2_with fail
      go_ret
      exact ⟨rfl, HB.out⟩

set_option maxRecDepth 4000 in
set_option maxHeartbeats 4000000 in
theorem bkWil2 (base bb : Nat) (v : Value) (l : List Ord) (p : Int) (w : World) (h : BookIs w base bb v l) (hl : l.length ≤ 100) (hok : LOk l) :
    Calls Tryz.prog 21 #[.pointer (some ⟨bb, 0, none⟩), .int .i64 2, .int .i64 p] w fun e w' => e = .returned (.int .i64 (wilL 2 p l)) ∧ Below w.heap.size w w' := by
  have c0 : w.cell? ⟨bb, 0, none⟩ = some v := cell_of_one h.box
  have HA : Hid (BookIs w base bb v l) := h
  have HK : Hid (LOk l) := hok
  obtain ⟨ao, cap, rfl, _, _⟩ := bk_shape h.all
  clear h hok
  go_enter Tryz.func21, Tryz.ntmps21
  go_wp2_with fail
  go_loopw [7, 9, 15] (fun u _ i wr => ∃ k : Nat, k ≤ l.length ∧ i = .int .i64 k ∧ u = .int .i64 (wilL 2 p (l.take k)) ∧ Below w.heap.size w wr) (fun _ _ i _ => l.length - (intOf i).toNat)
  case atStart => exact ⟨0, Nat.zero_le _, rfl, rfl, Below.refl _ _⟩
  case round =>
    obtain ⟨k, hk, rfl, rfl, hb⟩ := hrel
    have HB : Hid (Below w.heap.size w wr) := hb
    by_cases hk1 : k < l.length
    · have hlt : (k : Int) < (l.length : Int) := by omega
      obtain ⟨g, cap', hv, d0, d1, d2, d3, d4⟩ := row_order (HA.out.below hb (Nat.le_refl _)).all hk1
      simp only [Value.slice.injEq, true_and] at hv
      obtain ⟨rfl, rfl⟩ := hv
      have hin := wilL_in 2 p (HK.out.take k)
      have hq := HK.out.ok _ (oAt_in hk1)
      have htl : (l.take k).length ≤ 100 := by rw [List.length_take]; omega
      have HW : Hid (wilL 2 p (l.take (k + 1)) = wilL 2 p (l.take k) + (if ((oAt l k).side == 2 && wilB 2 p (oAt l k)) = true then (oAt l k).qty else 0)) := wilL_take 2 p hk1
      clear hb
      generalize oAt l k = o at d0 d1 d2 d3 d4 hq HW
      generalize wilL 2 p (l.take k) = nn at hin HW ⊢
      go_upto_region 5 with fail
      obtain ⟨cc, hcc⟩ : ∃ cc : Bool, cc = (o.side == 2 && wilB 2 p o) := ⟨_, rfl⟩
      have HCC : Hid (cc = (o.side == 2 && wilB 2 p o)) := hcc
      rw [← hcc] at HW
      clear hcc
      go_cut [47] from 16 to 52 (fun u wc => u = .bool cc ∧ wc = wr.alloc (.cells #[.int .i64 o.id, .int .i64 o.side, .int .i64 o.kind, .int .i64 o.price, .int .i64 o.qty] 40))
      case first =>
        by_cases h1 : o.side = 2
        · have b1 : (o.side == 2) = true := beq_iff_eq.2 h1
          by_cases h2 : o.kind = 2
          · have b2 : (o.kind == 2) = true := beq_iff_eq.2 h2
            have HC : Hid (cc = true) := by show cc = true; rw [HCC.out]; unfold wilB; rw [b1, b2]; rfl
            clear h1 h2
            go_wp2_with fail
            go_meet
            exact ⟨by rw [HC.out], rfl⟩
          · have b2 : (o.kind == 2) = false := beq_eq_false_iff_ne.2 h2
            by_cases h3 : o.price ≤ p
            · have HC : Hid (cc = true) := by show cc = true; rw [HCC.out]; unfold wilB; rw [b1, b2]; simp [h3]
              clear h1 h2
              go_wp2_with fail
              go_meet
              exact ⟨by rw [HC.out], rfl⟩
            · have HC : Hid (cc = false) := by show cc = false; rw [HCC.out]; unfold wilB; rw [b1, b2]; simp [h3]
              clear h1 h2
              go_wp2_with fail
              go_meet
              exact ⟨by rw [HC.out], rfl⟩
        · have b1 : (o.side == 2) = false := beq_eq_false_iff_ne.2 h1
          have HC : Hid (cc = false) := by show cc = false; rw [HCC.out, b1]; rfl
          clear h1
          go_wp2_with fail
          go_meet
          exact ⟨by rw [HC.out], rfl⟩
      case rest =>
        obtain ⟨rfl, rfl⟩ := hcut
        cases hc : cc with
        | true =>
          have HW2 : Hid (wilL 2 p (l.take (k + 1)) = nn + o.qty) := by rw [HW.out, if_pos hc]; rfl
          clear hc HW
          go_wp2_with fail
          go_roundw
          case rel => exact ⟨k + 1, hk1, by go_num, by rw [HW2.out], HB.out.alloc HB.out.size _⟩
          case measure => simp [intOf]; omega
        | false =>
          have HW2 : Hid (wilL 2 p (l.take (k + 1)) = nn) := by show _ = _; rw [HW.out, if_neg (by rw [hc]; decide)]; omega
          clear hc HW
          go_wp2_with fail
          go_roundw
          case rel => exact ⟨k + 1, hk1, by go_num, by rw [HW2.out], HB.out.alloc HB.out.size _⟩
          case measure => simp [intOf]; omega
    · obtain rfl : k = l.length := by omega
      rw [List.take_length]
      clear hb
      go_wp2_with fail
      go_ret
      exact ⟨rfl, HB.out⟩
end Go.Proofs.YtcoijhofliilmabGreatDoor

/-
  Whom an order that comes meets (8.2), as plain lists, and what stays true from trade to trade. No program is named here.
-/
namespace Go.Proofs.YtcoijhofliilmabGreatDoor
open Go.RowKit

/-- between two trades: the fills, the orders that lie, the lots that are left, the prices that were told -/
structure MS where
  fs : List Fil
  L : List Ord
  q : Int
  ts : List Int
def mfill (o x : Ord) (n : Int) : Fil := if o.side = 1 then ⟨o.id, x.id, x.price, n⟩ else ⟨x.id, o.id, x.price, n⟩
def mstep (o x : Ord) (s : MS) : MS := ⟨s.fs ++ [mfill o x (min s.q x.qty)], lessF x.id (min s.q x.qty) s.L, s.q - min s.q x.qty, s.ts ++ [x.price]⟩
/-- the other one's price is too far -/
def farB (o x : Ord) : Bool := !decide (o.kind = 2) && (decide (o.side = 1) && decide (o.price < x.price) || decide (o.side = 2) && decide (x.price < o.price))
def meet (al : Int → Bool) (o : Ord) : List Ord → MS → MS × Bool
  | [], s => (s, false)
  | x :: T, s => if s.q ≤ 0 then (s, false) else if x.kind = 2 then meet al o T s else if farB o x = true then (s, false) else if al x.price = true then meet al o T (mstep o x s) else (s, true)
variable {al : Int → Bool} {o x : Ord} {T X : List Ord} {s : MS}
theorem meet_done (h : s.q ≤ 0) : ∀ X, meet al o X s = (s, false)
  | [] => rfl
  | _ :: _ => by unfold meet; rw [if_pos h]
theorem meet_pass (h : 0 < s.q) (hk : x.kind = 2) : meet al o (x :: T) s = meet al o T s := by
  rw [meet, if_neg (by omega), if_pos hk]
theorem meet_far (h : 0 < s.q) (hk : x.kind ≠ 2) (hf : farB o x = true) : meet al o (x :: T) s = (s, false) := by
  rw [meet, if_neg (by omega), if_neg hk, if_pos hf]
theorem meet_stop (h : 0 < s.q) (hk : x.kind ≠ 2) (hf : farB o x = false) (ha : al x.price = false) : meet al o (x :: T) s = (s, true) := by
  rw [meet, if_neg (by omega), if_neg hk, if_neg (by rw [hf]; decide), if_neg (by rw [ha]; decide)]
theorem meet_trade (h : 0 < s.q) (hk : x.kind ≠ 2) (hf : farB o x = false) (ha : al x.price = true) : meet al o (x :: T) s = meet al o T (mstep o x s) := by
  rw [meet, if_neg (by omega), if_neg hk, if_neg (by rw [hf]; decide), if_pos ha]
/-- X: who is yet to be met -/
structure MOk (X : List Ord) (s : MS) : Prop where
  ok : LOk s.L
  here : ∀ x ∈ X, x ∈ s.L
  ids : (X.map Ord.id).Nodup
  one : s.ts.length = s.fs.length
theorem MOk.pass (h : MOk (x :: T) s) : MOk T s := ⟨h.ok, fun y hy => h.here y (List.mem_cons_of_mem _ hy), (List.nodup_cons.1 h.ids).2, h.one⟩
theorem MOk.lots (h : MOk (x :: T) s) (hq : 0 < s.q) : 1 ≤ min s.q x.qty ∧ min s.q x.qty ≤ x.qty ∧ min s.q x.qty ≤ s.q := by
  have := h.ok.ok x (h.here x (List.mem_cons_self ..))
  omega
theorem MOk.step (o : Ord) (h : MOk (x :: T) s) (hq : 0 < s.q) : MOk T (mstep o x s) := by
  have h1 := (List.nodup_cons.1 h.ids)
  have hn := h.lots hq
  refine ⟨h.ok.less _ (by omega), fun y hy => ?_, h1.2, ?_⟩
  · have hne : y.id ≠ x.id := fun e => h1.1 (by rw [← e]; exact List.mem_map_of_mem hy)
    have hL := h.here y (List.mem_cons_of_mem _ hy)
    show y ∈ lessF _ _ _
    unfold lessF
    rw [List.mem_filter, List.mem_map]
    exact ⟨⟨y, hL, cutF_qty hne⟩, by have := h.ok.ok y hL; simpa using (show 0 < y.qty by omega)⟩
  · show (s.ts ++ [_]).length = (s.fs ++ [_]).length
    rw [List.length_append, List.length_append, h.one]; rfl
theorem MOk.start {l : List Ord} (h : LOk l) (t q : Int) : MOk (sideO t l) ⟨[], l, q, []⟩ := ⟨h, fun _ hx => (sideO_mem.1 hx).1, side_ids h t, rfl⟩
end Go.Proofs.YtcoijhofliilmabGreatDoor

/-
  Two calls that each lay a row, and two boxes for the heads of those rows, in whatever order: what a region 'x, y := b.Side(1)[0], b.Side(2)[0]' keeps between its operations. Conditions stand in each theorem.
-/
namespace Go.Proofs.YtcoijhofliilmabGreatDoor
open Go.RowKit

section
variable {P : Program} {ops : Array Oper} {Q : Exit → Act → World → Prop} {md : Region.Mode} {S S' : World → Prop} {L : Nat → Bool}
/-- what must hold behind each operation may be made more, on the way -/
theorem wpAnyL_more (hS : ∀ w, S' w → S w) : ∀ (fuel : Nat) (listed : Array Bool) (a : Act) (w : World), wpAnyL P md ops Q S' L fuel listed a w → wpAnyL P md ops Q S L fuel listed a w
  | 0, _, _, _, h => h
  | fuel + 1, _, _, _, h => ⟨h.1, fun i hi => wpOp_mono (fun a' w' h' => ⟨fun hl => hS w' (h'.1 hl), wpAnyL_more hS fuel _ a' w' h'.2⟩) (h.2 i hi)⟩
end

/-- an order in a block of its own -/
def DBox (w : World) (b : Nat) (o : Ord) : Prop := w.heap[b]? = some (.cells #[.int .i64 o.id, .int .i64 o.side, .int .i64 o.kind, .int .i64 o.price, .int .i64 o.qty] 40 (0, 0))
def ZBox (w : World) (b : Nat) : Prop := w.heap[b]? = some (.cells #[.int .i64 0, .int .i64 0, .int .i64 0, .int .i64 0, .int .i64 0] 40 (0, 0))
/-- an order at the head of a row -/
def Head (w : World) (g : Nat) (x : Ord) : Prop := w.cell? ⟨g, 0, none⟩ = some (.int .i64 x.id) ∧ w.cell? ⟨g, 1, none⟩ = some (.int .i64 x.side) ∧ w.cell? ⟨g, 2, none⟩ = some (.int .i64 x.kind) ∧ w.cell? ⟨g, 3, none⟩ = some (.int .i64 x.price) ∧ w.cell? ⟨g, 4, none⟩ = some (.int .i64 x.qty)
theorem cr_cell {w w' : World} {p : Addr} {v : Value} (hb : Below w.heap.size w w') (h : w.cell? p = some v) : w'.cell? p = some v := (hb.cell (World.block_lt_of_cell? w _ h)).trans h
theorem Head.lt {w : World} {g : Nat} {x : Ord} (h : Head w g x) : g < w.heap.size := World.block_lt_of_cell? w _ h.1
theorem Head.below {w w' : World} {g : Nat} {x : Ord} (h : Head w g x) (hb : Below w.heap.size w w') : Head w' g x := ⟨cr_cell hb h.1, cr_cell hb h.2.1, cr_cell hb h.2.2.1, cr_cell hb h.2.2.2.1, cr_cell hb h.2.2.2.2⟩
theorem ZBox.lt {w : World} {b : Nat} (h : ZBox w b) : b < w.heap.size := lt_of_block h
theorem head_cells {w : World} {base : Nat} {v : Value} {l : List Ord} {x : Ord} {T : List Ord} (h : w.ownsRow base 40 5 v l.length (oV l)) (hl : l = x :: T) : ∃ g cap, v = .slice (some ⟨g, 0, none⟩) (T.length + 1) cap ∧ base ≤ g ∧ Head w g x := by
  obtain ⟨g, cap, e, d0, d1, d2, d3, d4⟩ := row_order h (k := 0) (by rw [hl]; simp)
  have ex : oAt l 0 = x := by rw [hl]; rfl
  rw [ex] at d0 d1 d2 d3 d4
  have hg : base ≤ g := by
    rcases h.2 with ⟨h', _⟩ | ⟨g', cap', cur, h', hb, _⟩
    · rw [e] at h'; cases h'
    · rw [e] at h'
      injection h' with h1
      injection h1 with h1
      injection h1 with h1
      omega
  exact ⟨g, cap, e.trans (by rw [hl]; rfl), hg, by simpa using d0, by simpa using d1, by simpa using d2, by simpa using d3, by simpa using d4⟩

structure Two (wr w : World) (x y : Ord) (A B X Y : Option Nat) : Prop where
  bel : Below wr.heap.size wr w
  a : ∀ g, A = some g → X ≠ some g ∧ Y ≠ some g ∧ Head w g x
  b : ∀ g, B = some g → X ≠ some g ∧ Y ≠ some g ∧ Head w g y
  x : ∀ j, X = some j → wr.heap.size ≤ j ∧ Y ≠ some j ∧ ZBox w j
  y : ∀ j, Y = some j → wr.heap.size ≤ j ∧ ZBox w j
variable {wr w w' : World} {x y : Ord} {A B X Y : Option Nat}
theorem Two.start (wr : World) (x y : Ord) : Two wr wr.drew x y none none none none := ⟨(Below.refl _ _).drew, fun _ h => by (cases h), fun _ h => by (cases h), fun _ h => by (cases h), fun _ h => by (cases h)⟩
theorem Two.keep (h : Two wr w x y A B X Y) (hb : Below w.heap.size w w') : Two wr w' x y A B X Y :=
  ⟨bel_then h.bel hb, fun g e => ⟨(h.a g e).1, (h.a g e).2.1, (h.a g e).2.2.below hb⟩, fun g e => ⟨(h.b g e).1, (h.b g e).2.1, (h.b g e).2.2.below hb⟩, fun j e => ⟨(h.x j e).1, (h.x j e).2.1, blk_below (h.x j e).2.2 hb (Nat.le_refl _)⟩, fun j e => ⟨(h.y j e).1, blk_below (h.y j e).2 hb (Nat.le_refl _)⟩⟩
theorem Two.noX (h : Two wr w x y A B X Y) {g : Nat} (hg : w.heap.size ≤ g) : X ≠ some g := fun e => by have := (h.x g e).2.2.lt; omega
theorem Two.noY (h : Two wr w x y A B X Y) {g : Nat} (hg : w.heap.size ≤ g) : Y ≠ some g := fun e => by have := (h.y g e).2.lt; omega
theorem Two.callA (h : Two wr w x y none B X Y) (hb : Below w.heap.size w w') {g : Nat} (hg : w.heap.size ≤ g) (hh : Head w' g x) : Two wr w' x y (some g) B X Y :=
  ⟨(h.keep hb).bel, fun g' e => by injection e with e; subst e; exact ⟨h.noX hg, h.noY hg, hh⟩, (h.keep hb).b, (h.keep hb).x, (h.keep hb).y⟩
theorem Two.callB (h : Two wr w x y A none X Y) (hb : Below w.heap.size w w') {g : Nat} (hg : w.heap.size ≤ g) (hh : Head w' g y) : Two wr w' x y A (some g) X Y :=
  ⟨(h.keep hb).bel, (h.keep hb).a, fun g' e => by injection e with e; subst e; exact ⟨h.noX hg, h.noY hg, hh⟩, (h.keep hb).x, (h.keep hb).y⟩
theorem Two.boxX (h : Two wr w x y A B none Y) : Two wr (w.alloc (.cells #[.int .i64 0, .int .i64 0, .int .i64 0, .int .i64 0, .int .i64 0] 40)) x y A B (some w.heap.size) Y := by
  have k := h.keep (bel1 w (.cells #[.int .i64 0, .int .i64 0, .int .i64 0, .int .i64 0, .int .i64 0] 40))
  refine ⟨k.bel, fun g e => ⟨fun e' => ?_, (k.a g e).2.1, (k.a g e).2.2⟩, fun g e => ⟨fun e' => ?_, (k.b g e).2.1, (k.b g e).2.2⟩, fun j e => ?_, k.y⟩
  · injection e' with e'; have := (h.a g e).2.2.lt; omega
  · injection e' with e'; have := (h.b g e).2.2.lt; omega
  · injection e with e; subst e; exact ⟨h.bel.size, h.noY (Nat.le_refl _), heap_alloc_new w _⟩
theorem Two.boxY (h : Two wr w x y A B X none) : Two wr (w.alloc (.cells #[.int .i64 0, .int .i64 0, .int .i64 0, .int .i64 0, .int .i64 0] 40)) x y A B X (some w.heap.size) := by
  have k := h.keep (bel1 w (.cells #[.int .i64 0, .int .i64 0, .int .i64 0, .int .i64 0, .int .i64 0] 40))
  refine ⟨k.bel, fun g e => ⟨(k.a g e).1, fun e' => ?_, (k.a g e).2.2⟩, fun g e => ⟨(k.b g e).1, fun e' => ?_, (k.b g e).2.2⟩, fun j e => ⟨(k.x j e).1, fun e' => ?_, (k.x j e).2.2⟩, fun j e => ?_⟩
  · injection e' with e'; have := (h.a g e).2.2.lt; omega
  · injection e' with e'; have := (h.b g e).2.2.lt; omega
  · injection e' with e'; have := (h.x j e).2.2.lt; omega
  · injection e with e; subst e; exact ⟨h.bel.size, heap_alloc_new w _⟩

/-- an order written into a box -/
def boxed (w : World) (b : Nat) (o : Ord) : World := ((((w.setCell ⟨b, 0, none⟩ (.int .i64 o.id)).setCell ⟨b, 1, none⟩ (.int .i64 o.side)).setCell ⟨b, 2, none⟩ (.int .i64 o.kind)).setCell ⟨b, 3, none⟩ (.int .i64 o.price)).setCell ⟨b, 4, none⟩ (.int .i64 o.qty)
theorem boxed_out (w : World) (b : Nat) (o : Ord) : Out (fun j => j = b) w (boxed w b o) :=
  ((((out_set w ⟨b, 0, none⟩ _).trans (out_set _ ⟨b, 1, none⟩ _) (Went.refl _ _)).trans (out_set _ ⟨b, 2, none⟩ _) (Went.refl _ _)).trans (out_set _ ⟨b, 3, none⟩ _) (Went.refl _ _)).trans (out_set _ ⟨b, 4, none⟩ _) (Went.refl _ _)
theorem boxed_is {w : World} {b : Nat} (o : Ord) (h : ZBox w b) : DBox (boxed w b o) b o :=
  blk_set (j := 4) _ (blk_set (j := 3) _ (blk_set (j := 2) _ (blk_set (j := 1) _ (blk_set (j := 0) _ h))))
theorem cr_other {w w' : World} {b g : Nat} {x : Ord} (h : Head w g x) (ho : Out (fun j => j = b) w w') (hn : b ≠ g) : Head w' g x := by
  have hk := ho.block g h.lt (fun e => hn e.symm)
  have hc : ∀ i, w'.cell? ⟨g, i, none⟩ = w.cell? ⟨g, i, none⟩ := fun i => by unfold World.cell?; simp only [hk]
  exact ⟨(hc 0).trans h.1, (hc 1).trans h.2.1, (hc 2).trans h.2.2.1, (hc 3).trans h.2.2.2.1, (hc 4).trans h.2.2.2.2⟩
/-- behind the first box's filling -/
theorem Two.first {a b xb yb : Nat} (h : Two wr w x y (some a) (some b) (some xb) (some yb)) : Head (boxed w xb x) a x ∧ Head (boxed w xb x) b y ∧ DBox (boxed w xb x) xb x ∧ ZBox (boxed w xb x) yb ∧ Below wr.heap.size wr (boxed w xb x) := by
  obtain ⟨a1, a2, a3⟩ := h.a a rfl
  obtain ⟨b1, b2, b3⟩ := h.b b rfl
  obtain ⟨x1, x2, x3⟩ := h.x xb rfl
  obtain ⟨y1, y2⟩ := h.y yb rfl
  have ho := boxed_out w xb x
  exact ⟨cr_other a3 ho (fun e => a1 (congrArg some e)), cr_other b3 ho (fun e => b1 (congrArg some e)), boxed_is x x3, blk_out y2 ho (fun e => x2 (congrArg some e)), h.bel.trans (ho.below (fun j hj => by rw [show j = xb from hj]; exact x1) h.bel.size)⟩
/-- behind both -/
theorem Two.both {xb yb : Nat} (h : Two wr w x y A B (some xb) (some yb)) {wm : World} (d : DBox wm xb x) (z : ZBox wm yb) (hb : Below wr.heap.size wr wm) : DBox (boxed wm yb y) xb x ∧ DBox (boxed wm yb y) yb y ∧ Below wr.heap.size wr (boxed wm yb y) := by
  obtain ⟨x1, x2, x3⟩ := h.x xb rfl
  obtain ⟨y1, y2⟩ := h.y yb rfl
  have ho := boxed_out wm yb y
  exact ⟨blk_out d ho (fun e => x2 (congrArg some (Eq.symm e))), boxed_is y z, hb.trans (ho.below (fun j hj => by rw [show j = yb from hj]; exact y1) hb.size)⟩
end Go.Proofs.YtcoijhofliilmabGreatDoor

/-
  What lies in memory between two trades of the document's Meets (8.2), and what each of its steps leaves of it. Conditions stand in each theorem.
-/
namespace Go.Proofs.YtcoijhofliilmabGreatDoor
open Go.RowKit

theorem cr_book {S : Nat → Prop} {w w' : World} {base bb : Nat} {v : Value} {l : List Ord} (h : BookIs w base bb v l) (hb : Out S w w') (h1 : ¬ S bb) (h2 : ∀ k, v.ownBlock = some k → ¬ S k) : BookIs w' base bb v l := ⟨blk_out h.box hb h1, owns_out h.all hb h2⟩
theorem less_len (id n : Int) (L : List Ord) : (lessF id n L).length ≤ L.length := by
  unfold lessF
  exact Nat.le_trans (List.length_filter_le _ _) (by rw [List.length_map]; exact Nat.le_refl _)
/-- a function value that tells yes or no of a price, wherever no more than S was changed -/
structure AskFn (g : Nat) (lb : Array Value) (al : Int → Bool) (S : Nat → Prop) (w0 : World) : Prop where
  enters : ∀ args w, (callFunc g args).run Tryz.prog w = .ok (.enter g args) w
  tells : ∀ W, Out S w0 W → ∀ p : Int, 1 ≤ p → p ≤ 1000000 → Calls Tryz.prog g (#[.int .i64 p] ++ lb) W fun e W' => e = .returned (.bool (al p)) ∧ Below W.heap.size W W'
/-- a function value that is told prices: St w ts D: in w it was told ts, and that lies in the blocks D -/
structure TellFn (g : Nat) (lb : Array Value) (St : World → List Int → (Nat → Prop) → Prop) : Prop where
  enters : ∀ args w, (callFunc g args).run Tryz.prog w = .ok (.enter g args) w
  keep : ∀ {w w' ts D S}, St w ts D → Out S w w' → (∀ j, D j → ¬ S j) → St w' ts D
  far : ∀ {w ts D}, St w ts D → ∀ j, D j → j < w.heap.size ∧ ∀ vs t fr, w.heap[j]? = some (.cells vs t fr) → t ≠ 40 ∧ t ≠ 59 ∧ t ≠ 52
  tells : ∀ {W ts D}, St W ts D → ts.length ≤ 1000 → ∀ p : Int, Calls Tryz.prog g (#[.int .i64 p] ++ lb) W fun e W' => e = .returned (.tuple #[]) ∧ ∃ D', St W' (ts ++ [p]) D' ∧ Out D W W' ∧ ∀ j, D' j → D j ∨ W.heap.size ≤ j
def leftO (o : Ord) (q : Int) : Ord := ⟨o.id, o.side, o.kind, o.price, q⟩

structure Mt (w W : World) (base bb ob rb B : Nat) (vx vb vf : Value) (X : List Ord) (o : Ord) (s : MS) (St : World → List Int → (Nat → Prop) → Prop) (D0 D : Nat → Prop) : Prop where
  old : w.heap.size ≤ ob ∧ w.heap.size ≤ rb ∧ ob ≠ rb ∧ ob < B ∧ rb < B ∧ bb < w.heap.size
  row : W.ownsRow B 40 5 vx X.length (oV X)
  box : DBox W ob (leftO o s.q)
  res : ZBox W rb
  book : BookIs W base bb vb s.L
  far : ∀ j, vb.ownBlock = some j → j ≠ ob ∧ j ≠ rb
  fils : W.ownsRow w.heap.size 59 4 vf s.fs.length (fV s.fs)
  told : St W s.ts D
  out : Out (fun j => j = bb ∨ D0 j) w W
  dees : ∀ j, D j → D0 j ∨ w.heap.size ≤ j
variable {w W W' : World} {base bb ob rb B g : Nat} {lb : Array Value} {vx vb vf : Value} {X : List Ord} {o : Ord} {s : MS} {St : World → List Int → (Nat → Prop) → Prop} {D0 D : Nat → Prop}
theorem Mt.below (hF : TellFn g lb St) (h : Mt w W base bb ob rb B vx vb vf X o s St D0 D) (hb : Below W.heap.size W W') : Mt w W' base bb ob rb B vx vb vf X o s St D0 D :=
  ⟨h.old, owns_below h.row hb (Nat.le_refl _), blk_below h.box hb (Nat.le_refl _), blk_below h.res hb (Nat.le_refl _), h.book.below hb (Nat.le_refl _), h.far, owns_below h.fils hb (Nat.le_refl _), hF.keep h.told (Out.of_below (S := fun _ => False) hb (Nat.le_refl _)) (fun _ _ e => e), out_then h.out (Out.of_below hb (Nat.le_refl _)), h.dees⟩
/-- a fill laid onto the row -/
theorem Mt.push (hF : TellFn g lb St) (h : Mt w W base bb ob rb B vx vb vf X o s St D0 D) {obj : Obj} {v' : Value} {f : Fil} (hg : (W.alloc obj).grownBy W' vf.ownBlock) (hn : W'.ownsRow w.heap.size 59 4 v' (s.fs.length + 1) (fV s.fs ++ [.int .i64 f.buyer, .int .i64 f.seller, .int .i64 f.price, .int .i64 f.qty])) :
    Mt w W' base bb ob rb B vx vb v' X o ⟨s.fs ++ [f], s.L, s.q, s.ts⟩ St D0 D := by
  have h6 : Out (fun j => vf.ownBlock = some j) W W' := out_then (out_alloc (Out.refl _ _) _) (Out.of_grown hg (fun k hk => hk))
  refine ⟨h.old, owns_out h.row h6 (fun k hk => owns_types h.row h.fils (by decide) hk), blk_out h.box h6 (owns_type h.fils h.box (by decide)), blk_out h.res h6 (owns_type h.fils h.res (by decide)), cr_book h.book h6 (owns_type h.fils h.book.box (by decide)) (fun k hk => owns_types h.book.all h.fils (by decide) hk), h.far, ?_, hF.keep h.told h6 (fun j hj e => ?_), h.out.trans h6 (fun k hk => Or.inr (h.fils.lt k hk).1), h.dees⟩
  · rw [fV_snoc, List.length_append, List.length_singleton]; exact hn
  · rcases h.fils.2 with ⟨rfl, _⟩ | ⟨g, cap, cur, rfl, _, hh, _⟩
    · cases e
    · have e' : g = j := by simpa [Value.ownBlock] using e
      subst e'
      exact ((hF.far h.told _ hj).2 _ _ _ hh).2.1 rfl
/-- an order of the Book cut -/
theorem Mt.cut (hF : TellFn g lb St) (h : Mt w W base bb ob rb B vx vb vf X o s St D0 D) {v' : Value} {L' : List Ord} (ho : Out (fun j => j = bb) W W') (hb : BookIs W' base bb v' L') (hf : ∀ j, v'.ownBlock = some j → W.heap.size ≤ j) :
    Mt w W' base bb ob rb B vx v' vf X o ⟨s.fs, L', s.q, s.ts⟩ St D0 D := by
  have e1 := lt_of_block h.box
  have e2 := lt_of_block h.res
  refine ⟨h.old, owns_out h.row ho (fun k hk e => owns_type h.row h.book.box (by decide) (hk.trans (congrArg some e))), blk_out h.box ho (blk_ne h.box h.book.box (by decide)), blk_out h.res ho (blk_ne h.res h.book.box (by decide)), hb, fun j hj => ?_, owns_out h.fils ho (fun k hk e => owns_type h.fils h.book.box (by decide) (hk.trans (congrArg some e))), hF.keep h.told ho (fun j hj e => ?_), h.out.trans ho (fun k hk => Or.inl (Or.inl hk)), h.dees⟩
  · have := hf j hj; omega
  · have e' : j = bb := e
    subst e'
    exact ((hF.far h.told _ hj).2 _ _ _ h.book.box).2.2 rfl
/-- the lots that are left, written -/
theorem Mt.left (hF : TellFn g lb St) (h : Mt w W base bb ob rb B vx vb vf X o s St D0 D) (q : Int) :
    Mt w (W.setCell ⟨ob, 4, none⟩ (.int .i64 q)) base bb ob rb B vx vb vf X o ⟨s.fs, s.L, q, s.ts⟩ St D0 D := by
  have ho : Out (fun j => j = ob) W (W.setCell ⟨ob, 4, none⟩ (.int .i64 q)) := out_set W ⟨ob, 4, none⟩ _
  obtain ⟨o1, o2, o3, o4, o5, o6⟩ := h.old
  refine ⟨h.old, owns_out h.row ho (fun k hk e => ?_), blk_set (j := 4) (.int .i64 q) h.box, blk_out h.res ho (fun e => o3 e.symm), cr_book h.book ho (blk_ne h.book.box h.box (by decide)) (fun k hk => (h.far k hk).1), h.far, owns_out h.fils ho (fun k hk e => owns_type h.fils h.box (by decide) (hk.trans (congrArg some e))), hF.keep h.told ho (fun j hj e => ?_), h.out.trans ho (fun k hk => Or.inr (by rw [show k = ob from hk]; exact o1)), h.dees⟩
  · have := (h.row.lt k hk).1
    have e' : k = ob := e
    omega
  · have e' : j = ob := e
    subst e'
    exact ((hF.far h.told _ hj).2 _ _ _ h.box).1 rfl
/-- a price told -/
theorem Mt.tell (hF : TellFn g lb St) (h : Mt w W base bb ob rb B vx vb vf X o s St D0 D) {D' : Nat → Prop} {p : Int} (ht : St W' (s.ts ++ [p]) D') (ho : Out D W W') (hd : ∀ j, D' j → D j ∨ W.heap.size ≤ j) :
    Mt w W' base bb ob rb B vx vb vf X o ⟨s.fs, s.L, s.q, s.ts ++ [p]⟩ St D0 D' := by
  have hs := h.out.size
  have no : ∀ {b : Nat} {vs : Array Value} {t : TypeId} {fr : Nat × Nat}, W.heap[b]? = some (.cells vs t fr) → (t = 40 ∨ t = 59 ∨ t = 52) → ¬ D b := fun hb ht hD => by
    have := (hF.far h.told _ hD).2 _ _ _ hb
    rcases ht with e | e | e
    · exact this.1 e
    · exact this.2.1 e
    · exact this.2.2 e
  have nr : ∀ {base' : Nat} {e : TypeId} {size n : Nat} {v : Value} {xs : List Value}, W.ownsRow base' e size v n xs → (e = 40 ∨ e = 59 ∨ e = 52) → ∀ k, v.ownBlock = some k → ¬ D k := fun hr he k hk => by
    rcases hr.2 with ⟨rfl, _⟩ | ⟨g, cap, cur, rfl, _, hh, _⟩
    · cases hk
    · have e' : g = k := by simpa [Value.ownBlock] using hk
      subst e'
      exact no hh he
  exact ⟨h.old, owns_out h.row ho (nr h.row (Or.inl rfl)), blk_out h.box ho (no h.box (Or.inl rfl)), blk_out h.res ho (no h.res (Or.inl rfl)), cr_book h.book ho (no h.book.box (Or.inr (Or.inr rfl))) (nr h.book.all (Or.inl rfl)), h.far, owns_out h.fils ho (nr h.fils (Or.inr (Or.inl rfl))), ht, h.out.trans ho (fun k hk => (h.dees k hk).elim (fun e => Or.inl (Or.inr e)) Or.inr), fun j hj => by
    rcases hd j hj with e | e
    · exact h.dees j e
    · exact Or.inr (Nat.le_trans hs e)⟩
end Go.Proofs.YtcoijhofliilmabGreatDoor
