/-
  A function value that tells a number of each point, or yes and no; what the program's keep, most, least and all return by it, over this seat's translation. Conditions stand in each theorem: where the points lie, that they are at most 1000, and what the function value tells.
-/
import Derived.Test.YtcoijhofliilmabHL
import Derived.Test.YtcoijhofliilmabHJ
import Derived.Deep.RegionWith
import Derived.Deep.CutRange
import Derived.Deep.RegionHeld3
import Derived.Lib.QuietBelow
import Derived.Lib.MinMax
import Derived.Shelf.Abstract
import Derived.Deep.DeepCutAuto
import Derived.Deep.CutBlock
namespace Go.Proofs.Ytcoijhofliilmab
open Go.RowKit

/-- a function value that tells a number of each point, and lays blocks at most -/
structure NumFn (g : Nat) (lb : Array Value) (f : Pt → Int) (l : List Pt) (w0 : World) : Prop where
  enters : ∀ args w, (callFunc g args).run Try.prog w = .ok (.enter g args) w
  tells : ∀ W, Below w0.heap.size w0 W → ∀ x ∈ l, Calls Try.prog g (#[.agg #[.int .i64 x.price, .int .i64 x.dem, .int .i64 x.sup]] ++ lb) W fun e W' => e = .returned (.int .i64 (f x)) ∧ Below W.heap.size W W'
/-- one that tells yes or no -/
structure BoolFn (g : Nat) (lb : Array Value) (q : Pt → Bool) (l : List Pt) (w0 : World) : Prop where
  enters : ∀ args w, (callFunc g args).run Try.prog w = .ok (.enter g args) w
  tells : ∀ W, Below w0.heap.size w0 W → ∀ x ∈ l, Calls Try.prog g (#[.agg #[.int .i64 x.price, .int .i64 x.dem, .int .i64 x.sup]] ++ lb) W fun e W' => e = .returned (.bool (q x)) ∧ Below W.heap.size W W'
theorem NumFn.later {g : Nat} {lb : Array Value} {f : Pt → Int} {l : List Pt} {w0 w1 : World} (h : NumFn g lb f l w0) (hb : Below w0.heap.size w0 w1) : NumFn g lb f l w1 :=
  ⟨h.enters, fun W hW x hx => h.tells W (cu_then hb hW) x hx⟩
theorem NumFn.fewer {g : Nat} {lb : Array Value} {f : Pt → Int} {l l' : List Pt} {w0 : World} (h : NumFn g lb f l w0) (hl : ∀ x ∈ l', x ∈ l) : NumFn g lb f l' w0 :=
  ⟨h.enters, fun W hW x hx => h.tells W hW x (hl x hx)⟩
theorem filter_take {α : Type} (q : α → Bool) {l : List α} {k : Nat} (h : k < l.length) : (l.take (k + 1)).filter q = if q l[k] = true then (l.take k).filter q ++ [l[k]] else (l.take k).filter q := by
  rw [List.take_succ_eq_append_getElem h, List.filter_append]
  by_cases hq : q l[k] = true
  · rw [if_pos hq]; simp [hq]
  · rw [if_neg hq]; simp [hq]
theorem Try.infoCp : (Try.prog.info? 55).map (fun i => (i.zero, i.size, i.bytes)) = some (some (.agg #[.int .i64 0, .int .i64 0, .int .i64 0]), 3, 24) := by kernel_rfl
/-- a point in a block of its own -/
def CpBox (w : World) (b : Nat) (x : Pt) : Prop := w.heap[b]? = some (.cells #[.int .i64 x.price, .int .i64 x.dem, .int .i64 x.sup] 55 (0, 0))
theorem CpBox.below {w w' : World} {b : Nat} {x : Pt} (h : CpBox w b x) (hb : Below w.heap.size w w') : CpBox w' b x := cu_keep h hb

set_option maxRecDepth 4000 in
set_option maxHeartbeats 4000000 in
theorem chKeep (a : Option Addr) (cap : Nat) (l : List Pt) (g : Nat) (lb : Array Value) (q : Pt → Bool) (w : World) (h : PtsIn w a l) (hl : l.length ≤ 1000) (hf : BoolFn g lb q l w) :
    Calls Try.prog 46 #[.slice a l.length cap, .func (.func g) #[] lb] w fun e w' => ∃ v', e = .returned v' ∧ w'.ownsRow w.heap.size 55 3 v' (l.filter q).length (ptV (l.filter q)) ∧ Below w.heap.size w w' := by
  obtain ⟨iP, hiP, hP0, hP1, hP2⟩ := info_parts Try.infoCp
  have HA : Hid (PtsIn w a l) := h
  have HF : Hid (BoolFn g lb q l w) := hf
  have eg := hf.enters
  clear h hf
  go_enter Try.func46, Try.ntmps46
  go_wp2_with fail
  go_loopw [5, 10] (fun v i wr => ∃ k : Nat, k ≤ l.length ∧ i = .int .i64 k ∧ wr.ownsRow w.heap.size 55 3 v ((l.take k).filter q).length (ptV ((l.take k).filter q)) ∧ Below w.heap.size w wr) (fun _ i _ => l.length - (intOf i).toNat)
  case atStart => exact ⟨0, Nat.zero_le _, rfl, World.ownsRow_nil _ _ _ _, Below.refl _ _⟩
  case round =>
    obtain ⟨k, hk, rfl, hown, hb⟩ := hrel
    have HW : Hid (wr.ownsRow w.heap.size 55 3 u5 ((l.take k).filter q).length (ptV ((l.take k).filter q))) := hown
    have HB : Hid (Below w.heap.size w wr) := hb
    have hbl : ((l.take k).filter q).length ≤ 1000 := by
      have := List.length_filter_le q (l.take k)
      rw [List.length_take] at this
      omega
    obtain ⟨vao, vcap, rfl, _, _⟩ := bk_shape hown
    clear hown
    by_cases hk1 : k < l.length
    · have hlt : (k : Int) < (l.length : Int) := by omega
      obtain ⟨b, off, rfl, d0, d1, d2⟩ := HA.out.below hb k hk1
      have HC : Hid (∀ W, Below w.heap.size w W → Calls Try.prog g (#[.agg #[.int .i64 (ptAt l k).price, .int .i64 (ptAt l k).dem, .int .i64 (ptAt l k).sup]] ++ lb) W fun e W' => e = .returned (.bool (q (ptAt l k))) ∧ Below W.heap.size W W') := fun W hW => HF.out.tells W hW _ (ptAt_mem hk1)
      have HT : Hid ((l.take (k + 1)).filter q = if q (ptAt l k) = true then (l.take k).filter q ++ [ptAt l k] else (l.take k).filter q) := by rw [ptAt_eq hk1]; exact filter_take q hk1
      clear hb
      generalize ptAt l k = x at d0 d1 d2 HC HT
      generalize (l.take k).filter q = acc at HT HW hbl
      go_wp2_with fail
      have hX : CpBox (wr.alloc (.cells #[.int .i64 x.price, .int .i64 x.dem, .int .i64 x.sup] 55)) wr.heap.size x := heap_alloc_new wr _
      have hbA := cu_bel1 wr (.cells #[.int .i64 x.price, .int .i64 x.dem, .int .i64 x.sup] 55)
      generalize wr.alloc (.cells #[.int .i64 x.price, .int .i64 x.dem, .int .i64 x.sup] 55) = W at hX hbA ⊢
      generalize wr.heap.size = xb at hX ⊢
      refine (HC.out W (cu_then HB.out hbA)).mono ?_
      rintro e w4 ⟨rfl, hb4⟩
      have hX4 := hX.below hb4
      have HW4 : Hid (w4.ownsRow w.heap.size 55 3 (.slice vao acc.length vcap) acc.length (ptV acc)) := bk_below HW.out (cu_then hbA hb4) (Nat.le_refl _)
      have HB4 : Hid (Below w.heap.size w w4) := cu_then HB.out (cu_then hbA hb4)
      clear hX hbA hb4 HW HB d0 d1 d2 HC
      cases hq : q x with
      | true =>
        have HT2 : Hid ((l.take (k + 1)).filter q = acc ++ [x]) := by rw [HT.out, if_pos hq]; rfl
        have y0 := cu_blk (j := 0) hX4 rfl
        have y1 := cu_blk (j := 1) hX4 rfl
        have y2 := cu_blk (j := 2) hX4 rfl
        clear HT hq hX4
        go_wp2_with (at_builtin; refine wpList_append_own_at _ rfl _ _ 29 rfl w.heap.size 55 iP (.agg #[.int .i64 0, .int .i64 0, .int .i64 0]) 3 24 Try.underlying29 hiP hP0 hP1 hP2 rfl (by decide) _ acc.length (ptV acc) rfl (HW4.out.alloc _) ⟨w4.heap.size, 0, none⟩ 1 1 [.int .i64 x.price, .int .i64 x.dem, .int .i64 x.sup] rfl rfl (World.news_of_block (cs := #[.int .i64 x.price, .int .i64 x.dem, .int .i64 x.sup]) (t := 55) (fr := (0, 0)) (heap_alloc_new w4 _)) (by simp [Value.oneCell']) (by unfold maxLen; omega) (by omega) (by have := HB4.out.size; simp; omega) ?_; intro v' w6 hown6 hgrow6 _ _)
        go_roundw
        case rel =>
          refine ⟨k + 1, hk1, by go_num, ?_, (HB4.out.alloc HB4.out.size _).grown hgrow6 (by have := HB4.out.size; simp; omega) (fun q hq => (HW4.out.lt q hq).1)⟩
          rw [HT2.out, ptV_snoc, List.length_append, List.length_singleton]
          exact hown6
        case measure => simp [intOf]; omega
      | false =>
        have HT2 : Hid ((l.take (k + 1)).filter q = acc) := by rw [HT.out, if_neg (by rw [hq]; decide)]; rfl
        clear HT hq hX4
        go_wp2_with fail
        go_roundw
        case rel => exact ⟨k + 1, hk1, by go_num, by rw [HT2.out]; exact HW4.out, HB4.out⟩
        case measure => simp [intOf]; omega
    · obtain rfl : k = l.length := by omega
      rw [List.take_length] at HW hbl ⊢
      clear hb
      go_wp2_with fail
      go_ret
      exact ⟨_, rfl, HW.out, HB.out⟩
end Go.Proofs.Ytcoijhofliilmab

/-
  What the program's most, least and all return, over this seat's translation. Conditions stand in each theorem: where the points lie, that they are at most 1000, and what the function value tells.
-/
namespace Go.Proofs.Ytcoijhofliilmab
open Go.RowKit

/-- but for one block the world is as it was -/
structure But (tb : Nat) (w w' : World) : Prop where
  size : w.heap.size ≤ w'.heap.size
  block : ∀ k, k < w.heap.size → k ≠ tb → w'.heap[k]? = w.heap[k]?
theorem But.refl (tb : Nat) (w : World) : But tb w w := ⟨Nat.le_refl _, fun _ _ _ => rfl⟩
theorem But.drew {tb : Nat} {w w' : World} (h : But tb w w') : But tb w w'.drew := ⟨h.size, h.block⟩
theorem But.call {tb : Nat} {w w1 w2 : World} (h : But tb w w1) (hb : Below w1.heap.size w1 w2) : But tb w w2 :=
  ⟨Nat.le_trans h.size hb.size, fun k hk hn => (hb.block k (Nat.lt_of_lt_of_le hk h.size)).trans (h.block k hk hn)⟩
theorem But.set {tb : Nat} {w w' : World} (h : But tb w w') (j : Nat) (v : Value) : But tb w (w'.setCell ⟨tb, j, none⟩ v) :=
  ⟨by simpa using h.size, fun k hk hn => by rw [← h.block k hk hn]; exact Below.heap_setCell _ _ _ _ hn⟩
theorem But.cell {tb : Nat} {w w' : World} (h : But tb w w') {p : Addr} {v : Value} (hc : w.cell? p = some v) (hn : p.block ≠ tb) : w'.cell? p = some v :=
  (World.cell?_of_block (h.block _ (World.block_lt_of_cell? w _ hc) hn)).trans hc

set_option maxRecDepth 4000 in
set_option maxHeartbeats 1000000 in
theorem mostFn {g : Nat} {lb : Array Value} {f : Pt → Int} {l : List Pt} {w : World} (hN : NumFn g lb f l w) {nb tb : Nat} {top : Int} (h1 : w.cell? ⟨nb, 0, none⟩ = some (.func (.func g) #[] lb)) (h2 : w.cell? ⟨tb, 0, none⟩ = some (.int .i64 top)) :
    BoolFn 47 #[.pointer (some ⟨nb, 0, none⟩), .pointer (some ⟨tb, 0, none⟩)] (fun x => f x == top) l w := by
  refine ⟨enters_of Try.func47 (by kernel_rfl) rfl, fun W hW x hx => ?_⟩
  show Calls Try.prog 47 #[.agg #[.int .i64 x.price, .int .i64 x.dem, .int .i64 x.sup], .pointer (some ⟨nb, 0, none⟩), .pointer (some ⟨tb, 0, none⟩)] W _
  have eg := hN.enters
  have hX : CpBox (W.alloc (.cells #[.int .i64 x.price, .int .i64 x.dem, .int .i64 x.sup] 55)) W.heap.size x := heap_alloc_new W _
  have hb1 := cu_bel1 W (.cells #[.int .i64 x.price, .int .i64 x.dem, .int .i64 x.sup] 55)
  have c1 := cu_cell hb1 (cu_cell hW h1)
  have c2 := cu_cell hb1 (cu_cell hW h2)
  have HB1 : Hid (Below W.heap.size W (W.alloc (.cells #[.int .i64 x.price, .int .i64 x.dem, .int .i64 x.sup] 55))) := hb1
  have cN : ∀ dq os, Calls Try.prog g (#[.agg #[.int .i64 x.price, .int .i64 x.dem, .int .i64 x.sup]] ++ lb) (Go.Sort.grow (redrawn (W.alloc (.cells #[.int .i64 x.price, .int .i64 x.dem, .int .i64 x.sup] 55)) dq) os) fun e w'' => e = .returned (.int .i64 (f x)) ∧ ∃ q : Regrown, w'' = Go.Sort.grow (redrawn (W.alloc (.cells #[.int .i64 x.price, .int .i64 x.dem, .int .i64 x.sup] 55)) q.d) q.os := fun dq os =>
    Calls.regrown_of (hN.tells _ (cu_then (cu_then hW hb1) (below_regrown ..)) x hx)
  clear hN hW h1 h2 hb1
  go_enter Try.func47, Try.ntmps47
  go_wp2_with fail
  generalize W.alloc (.cells #[.int .i64 x.price, .int .i64 x.dem, .int .i64 x.sup] 55) = V at hX HB1 c1 c2 cN ⊢
  generalize hsz : W.heap.size = xb at hX HB1 ⊢
  have k0 := cell_regrown (cu_blk (j := 0) hX rfl)
  have k1 := cell_regrown (cu_blk (j := 1) hX rfl)
  have k2 := cell_regrown (cu_blk (j := 2) hX rfl)
  have k3 := cell_regrown c1
  have k4 := cell_regrown c2
  clear hX c1 c2
  refine wp_region_quiet_below (by kernel_rfl) (by kernel_rfl) ?_
  repeat (go_big_quiet_step (exact cN _ _))
  refine wpQuiet_nil ?_
  intro _ hw'
  obtain ⟨⟨dq, osq⟩, hw''⟩ := hw'
  subst hw''
  go_wp2
  go_ret
  subst hsz
  exact ⟨rfl, cu_then HB1.out (below_regrown ..)⟩
set_option maxHeartbeats 1000000 in
theorem leastFn {g : Nat} {lb : Array Value} {f : Pt → Int} {l : List Pt} {w : World} (hN : NumFn g lb f l w) {nb : Nat} (h1 : w.cell? ⟨nb, 0, none⟩ = some (.func (.func g) #[] lb)) (hf : ∀ x ∈ l, -9000000000000000000 ≤ f x ∧ f x ≤ 9000000000000000000) :
    NumFn 48 #[.pointer (some ⟨nb, 0, none⟩)] (fun x => -f x) l w := by
  refine ⟨enters_of Try.func48 (by kernel_rfl) rfl, fun W hW x hx => ?_⟩
  show Calls Try.prog 48 #[.agg #[.int .i64 x.price, .int .i64 x.dem, .int .i64 x.sup], .pointer (some ⟨nb, 0, none⟩)] W _
  have eg := hN.enters
  have c1 := cu_cell (cu_bel1 W (.cells #[.int .i64 x.price, .int .i64 x.dem, .int .i64 x.sup] 55)) (cu_cell hW h1)
  obtain ⟨f1, f2⟩ := hf x hx
  have HC : Hid (∀ V, Below W.heap.size W V → Calls Try.prog g (#[.agg #[.int .i64 x.price, .int .i64 x.dem, .int .i64 x.sup]] ++ lb) V fun e W' => e = .returned (.int .i64 (f x)) ∧ Below V.heap.size V W') := fun V hV => hN.tells V (cu_then hW hV) x hx
  clear hN hW h1 hf
  generalize f x = z at f1 f2 HC ⊢
  go_enter Try.func48, Try.ntmps48
  go_wp2_with fail
  refine (HC.out _ (cu_bel1 W _)).mono ?_
  rintro e w3 ⟨rfl, hb3⟩
  have HB3 : Hid (Below W.heap.size W w3) := cu_then (cu_bel1 W _) hb3
  clear hb3
  go_wp2_with fail
  go_ret
  exact ⟨rfl, HB3.out⟩

set_option maxRecDepth 4000 in
set_option maxHeartbeats 4000000 in
theorem chMost (a : Option Addr) (cap : Nat) (l : List Pt) (g : Nat) (lb : Array Value) (f : Pt → Int) (w : World) (h : PtsIn w a l) (hl : l.length ≤ 1000) (hf : NumFn g lb f l w) :
    Calls Try.prog 17 #[.slice a l.length cap, .func (.func g) #[] lb] w fun e w' => ∃ v', e = .returned v' ∧ w'.ownsRow w.heap.size 55 3 v' (mostF f l).length (ptV (mostF f l)) ∧ Below w.heap.size w w' := by
  have HA : Hid (PtsIn w a l) := h
  have HF : Hid (NumFn g lb f l w) := hf
  have eg := hf.enters
  have hbA := cu_bel1 w (.cells #[.func (.func g) #[] lb] 53)
  have hN : (w.alloc (.cells #[.func (.func g) #[] lb] 53)).heap[w.heap.size]? = _ := heap_alloc_new w _
  clear h hf
  by_cases h0 : 0 < l.length
  · obtain ⟨b, off, rfl, d0, d1, d2⟩ := HA.out.below hbA 0 h0
    have hlen : ((l.length : Int) == 0) = false := beq_eq_false_iff_ne.2 (by omega)
    have hlt : (0 : Int) < (l.length : Int) := by omega
    go_enter Try.func17, Try.ntmps17
    go_upto_region 3 with fail
    have HBA : Hid (Below w.heap.size w (w.alloc (.cells #[.func (.func g) #[] lb] 53))) := hbA
    have HC : Hid (∀ W, Below w.heap.size w W → Calls Try.prog g (#[.agg #[.int .i64 (ptAt l 0).price, .int .i64 (ptAt l 0).dem, .int .i64 (ptAt l 0).sup]] ++ lb) W fun e W' => e = .returned (.int .i64 (f (ptAt l 0))) ∧ Below W.heap.size W W') := fun W hW => HF.out.tells W hW _ (ptAt_mem h0)
    have HN : Hid ((w.alloc (.cells #[.func (.func g) #[] lb] 53)).heap[w.heap.size]? = some (.cells #[.func (.func g) #[] lb] 53 (0, 0))) := hN
    have n0 := cu_blk (j := 0) hN rfl
    have HTOP : Hid (f (ptAt l 0) = topF f (f (ptAt l 0)) (l.take 0)) := rfl
    have HZ0 : Hid (mostF f l = l.filter fun x => f x == topF f (f (ptAt l 0)) l) := rfl
    generalize f (ptAt l 0) = z0 at HC HTOP HZ0
    generalize ptAt l 0 = x0 at d0 d1 d2 HC
    generalize w.alloc (.cells #[.func (.func g) #[] lb] 53) = V at d0 d1 d2 HBA HN n0 ⊢
    clear hbA hN hlen
    rw [Nat.zero_mul, Nat.add_zero] at d0 d1 d2
    go_cut [5] from 11 to 15 (fun v wc => ∃ tb : Nat, v = .pointer (some ⟨tb, 0, none⟩) ∧ V.heap.size ≤ tb ∧ wc.heap[tb]? = some (.cells #[.int .i64 z0] 3 (0, 0)) ∧ Below V.heap.size V wc)
    case first =>
      have HS : Hid (∀ w', Below V.heap.size V w' → w'.cell? ⟨w.heap.size, 0, none⟩ = some (.func (.func g) #[] lb) ∧ w'.cell? ⟨b, off, none⟩ = some (.int .i64 x0.price) ∧ w'.cell? ⟨b, off + 1, none⟩ = some (.int .i64 x0.dem) ∧ w'.cell? ⟨b, off + 2, none⟩ = some (.int .i64 x0.sup) ∧ Below V.heap.size V w') := fun w' hb => ⟨cu_cell hb n0, cu_cell hb d0, cu_cell hb d1, cu_cell hb d2, hb⟩
      go_region_held3 (fun w' => w'.cell? ⟨w.heap.size, 0, none⟩ = some (.func (.func g) #[] lb) ∧ w'.cell? ⟨b, off, none⟩ = some (.int .i64 x0.price) ∧ w'.cell? ⟨b, off + 1, none⟩ = some (.int .i64 x0.dem) ∧ w'.cell? ⟨b, off + 2, none⟩ = some (.int .i64 x0.sup) ∧ Below V.heap.size V w')
        ((refine HS.out _ ?_; (repeat' first | assumption | exact Below.refl _ _ | exact Nat.le_refl _ | refine Below.drew ?_ | refine Below.alloc ?_ ?_ _ | refine cu_then ?_ hb1 | refine Below.setCell ?_ ?_ _ | (simp; done) | (simp; omega) | (have h9 := hb1.size; simp at h9 ⊢; omega))))
        (first | (go_at_fn g; refine (HC.out _ ?_).mono ?_; (refine cu_then HBA.out ?_; go_split_ands; assumption); rintro e w5 ⟨rfl, hb1⟩; first | (have t5 : w5.heap[V.heap.size]? = some (.cells #[.int .i64 0] 3 (0, 0)) := cu_keep (heap_alloc_new V.drew _) hb1; have c5 := cu_blk (j := 0) t5 rfl; have f5 := cu_free (j := 0) t5) | skip))
      · have HR : Hid (Below V.heap.size V (w5.alloc (.cells #[.int .i64 z0] 3))) := by go_split_ands; assumption
        have HZ : Hid (V.heap.size ≤ w5.heap.size) := hb1.size
        go_wp2_with fail
        go_meet
        exact ⟨_, rfl, HZ.out, heap_alloc_new w5 _, HR.out⟩
      · have HR : Hid (Below V.heap.size V (w5.setCell ⟨V.heap.size, 0, none⟩ (.int .i64 z0))) := by go_split_ands; assumption
        have HZ : Hid _ := t5
        go_wp2_with fail
        go_meet
        exact ⟨_, rfl, Nat.le_refl _, cu_set (j := 0) _ HZ.out, HR.out⟩
    case rest =>
      obtain ⟨tb, rfl, htb, hT, hBV⟩ := hcut
      have HT0 : Hid (wc.heap[tb]? = some (.cells #[.int .i64 (topF f z0 (l.take 0))] 3 (0, 0))) := by rw [← HTOP.out]; exact hT
      have HN0 : Hid (wc.heap[w.heap.size]? = some (.cells #[.func (.func g) #[] lb] 53 (0, 0))) := cu_keep HN.out hBV
      have HB0 : Hid (Below w.heap.size w wc) := cu_then HBA.out hBV
      have htb' : w.heap.size < tb := Nat.lt_of_lt_of_le (lt_of_block HN.out) htb
      clear hT hBV HBA HN htb HC d0 d1 d2 n0 HTOP
      go_wp2_with fail
      go_loopw [18] (fun i wr => ∃ k : Nat, k ≤ l.length ∧ i = .int .i64 k ∧ wr.heap[tb]? = some (.cells #[.int .i64 (topF f z0 (l.take k))] 3 (0, 0)) ∧ wr.heap[w.heap.size]? = some (.cells #[.func (.func g) #[] lb] 53 (0, 0)) ∧ Below w.heap.size w wr) (fun i _ => l.length - (intOf i).toNat)
      case atStart => exact ⟨0, Nat.zero_le _, rfl, HT0.out, HN0.out, HB0.out⟩
      case round =>
        obtain ⟨k, hk, rfl, hT, hN, hb⟩ := hrel
        clear HT0 HN0 HB0
        have HB : Hid (Below w.heap.size w wr) := hb
        by_cases hk1 : k < l.length
        · have hklt : (k : Int) < (l.length : Int) := by omega
          obtain ⟨b', off', he, d0, d1, d2⟩ := HA.out.below hb k hk1
          obtain ⟨rfl, rfl⟩ : b = b' ∧ off = off' := by simpa using he
          have HTK : Hid (topF f z0 (l.take (k + 1)) = max (topF f z0 (l.take k)) (f (ptAt l k))) := topF_take hk1
          have HC : Hid (∀ W, Below w.heap.size w W → Calls Try.prog g (#[.agg #[.int .i64 (ptAt l k).price, .int .i64 (ptAt l k).dem, .int .i64 (ptAt l k).sup]] ++ lb) W fun e W' => e = .returned (.int .i64 (f (ptAt l k))) ∧ Below W.heap.size W W') := fun W hW => HF.out.tells W hW _ (ptAt_mem hk1)
          generalize f (ptAt l k) = z at HTK HC
          generalize ptAt l k = x at d0 d1 d2 HC
          generalize topF f z0 (l.take k) = m at HTK hT
          clear hb he
          go_upto_region 7 with fail
          have hX : CpBox (wr.alloc (.cells #[.int .i64 x.price, .int .i64 x.dem, .int .i64 x.sup] 55)) wr.heap.size x := heap_alloc_new wr _
          have hbA := cu_bel1 wr (.cells #[.int .i64 x.price, .int .i64 x.dem, .int .i64 x.sup] 55)
          have hxt : wr.heap.size ≠ tb := fun e => by have := lt_of_block hT; omega
          generalize wr.alloc (.cells #[.int .i64 x.price, .int .i64 x.dem, .int .i64 x.sup] 55) = V2 at hX hbA ⊢
          generalize wr.heap.size = xb at hX hxt ⊢
          have HB2 : Hid (Below w.heap.size w V2) := cu_then HB.out hbA
          have hT2 := cu_keep hT hbA
          have hN2 := cu_keep hN hbA
          have HN2 : Hid (V2.heap[w.heap.size]? = some (.cells #[.func (.func g) #[] lb] 53 (0, 0))) := hN2
          have t2 := cu_blk (j := 0) hT2 rfl
          clear hT hN hbA HB d0 d1 d2
          have n2 := cu_blk (j := 0) hN2 rfl
          have x0 := cu_blk (j := 0) hX rfl
          have x1 := cu_blk (j := 1) hX rfl
          have x2 := cu_blk (j := 2) hX rfl
          have HT2 : Hid (V2.heap[tb]? = some (.cells #[.int .i64 m] 3 (0, 0))) := hT2
          clear hT2 hN2 hX
          go_region_with (go_at_fn g; refine (HC.out _ ?_).mono ?_; (refine cu_then HB2.out ?_; (repeat' first | assumption | exact Below.refl _ _ | exact Nat.le_refl _ | refine Below.drew ?_ | refine Below.alloc ?_ ?_ _ | (simp; done) | (simp; omega))); rintro e w5 ⟨rfl, hb1⟩; (have t5 : w5.heap[tb]? = some (.cells #[.int .i64 m] 3 (0, 0)) := cu_keep (w := V2.drew) HT2.out hb1; have c5 := cu_blk (j := 0) t5 rfl; have f5 := cu_free (j := 0) t5))
          all_goals
            have HT5 : Hid (w5.heap[tb]? = some (.cells #[.int .i64 m] 3 (0, 0))) := t5
            have HB5 : Hid (Below w.heap.size w w5) := cu_then (w1 := V2.drew) HB2.out.drew hb1
            have HN5 : Hid (w5.heap[w.heap.size]? = some (.cells #[.func (.func g) #[] lb] 53 (0, 0))) := cu_keep (w := V2.drew) HN2.out hb1
            clear hb1 t5 c5 f5 t2 n2 x0 x1 x2
            go_wp2_with fail
            go_roundw
            case rel => exact ⟨k + 1, hk1, by go_num, by rw [HTK.out]; exact cu_set (j := 0) _ HT5.out, (Below.heap_setCell _ _ _ _ (Nat.ne_of_lt htb')).trans HN5.out, HB5.out.setCell (Nat.le_of_lt htb') _⟩
            case measure => simp [intOf]; omega
        · obtain rfl : k = l.length := by omega
          rw [List.take_length] at hT
          have HK : Hid (∀ ca, Calls Try.prog 46 #[.slice (some ⟨b, off, none⟩) l.length ca, .func (.func 47) #[] #[.pointer (some ⟨w.heap.size, 0, none⟩), .pointer (some ⟨tb, 0, none⟩)]] wr fun e w' => ∃ v', e = .returned v' ∧ w'.ownsRow wr.heap.size 55 3 v' (l.filter fun x => f x == topF f z0 l).length (ptV (l.filter fun x => f x == topF f z0 l)) ∧ Below wr.heap.size wr w') := fun ca =>
            chKeep _ ca l _ _ _ wr (HA.out.below hb) hl (mostFn (HF.out.later hb) (cu_blk (j := 0) hN rfl) (cu_blk (j := 0) hT rfl))
          clear hb hT hN
          go_wp2_with fail
          refine (HK.out _).mono ?_
          rintro e w9 ⟨v', rfl, hown, hb9⟩
          have HO : Hid (w9.ownsRow w.heap.size 55 3 v' (mostF f l).length (ptV (mostF f l))) := by rw [HZ0.out]; exact owns_base hown HB.out.size
          have HB9 : Hid (Below w.heap.size w w9) := cu_then HB.out hb9
          clear hown hb9
          go_wp2_with fail
          go_ret
          exact ⟨_, rfl, HO.out, HB9.out⟩
  · have hlen : ((l.length : Int) == 0) = true := beq_iff_eq.2 (by omega)
    have HE : Hid (mostF f l = []) := by
      obtain rfl : l = [] := List.length_eq_zero_iff.1 (by omega)
      rfl
    go_enter Try.func17, Try.ntmps17
    go_wp2_with fail
    go_ret
    refine ⟨_, rfl, ?_, hbA⟩
    rw [HE.out]
    exact World.ownsRow_nil _ _ _ _
set_option maxHeartbeats 1000000 in
theorem chLeast (a : Option Addr) (cap : Nat) (l : List Pt) (g : Nat) (lb : Array Value) (f : Pt → Int) (w : World) (h : PtsIn w a l) (hl : l.length ≤ 1000) (hf : NumFn g lb f l w) (hfb : ∀ x ∈ l, -9000000000000000000 ≤ f x ∧ f x ≤ 9000000000000000000) :
    Calls Try.prog 19 #[.slice a l.length cap, .func (.func g) #[] lb] w fun e w' => ∃ v', e = .returned v' ∧ w'.ownsRow w.heap.size 55 3 v' (leastF f l).length (ptV (leastF f l)) ∧ Below w.heap.size w w' := by
  have hbA := cu_bel1 w (.cells #[.func (.func g) #[] lb] 53)
  have hN : (w.alloc (.cells #[.func (.func g) #[] lb] 53)).heap[w.heap.size]? = _ := heap_alloc_new w _
  have HM : Hid (∀ ca, Calls Try.prog 17 #[.slice a l.length ca, .func (.func 48) #[] #[.pointer (some ⟨w.heap.size, 0, none⟩)]] (w.alloc (.cells #[.func (.func g) #[] lb] 53)) fun e w' => ∃ v', e = .returned v' ∧ w'.ownsRow (w.alloc (.cells #[.func (.func g) #[] lb] 53)).heap.size 55 3 v' (leastF f l).length (ptV (leastF f l)) ∧ Below (w.alloc (.cells #[.func (.func g) #[] lb] 53)).heap.size (w.alloc (.cells #[.func (.func g) #[] lb] 53)) w') := fun ca =>
    chMost a ca l _ _ (fun x => -f x) _ (h.below hbA) hl (leastFn (hf.later hbA) (cu_blk (j := 0) hN rfl) hfb)
  clear hN h hf
  go_enter Try.func19, Try.ntmps19
  go_wp2_with fail
  refine (HM.out _).mono ?_
  rintro e w9 ⟨v', rfl, hown, hb9⟩
  have HO : Hid (w9.ownsRow w.heap.size 55 3 v' (leastF f l).length (ptV (leastF f l))) := owns_base hown hbA.size
  have HB9 : Hid (Below w.heap.size w w9) := cu_then hbA hb9
  clear hown hb9 hbA
  go_wp2_with fail
  go_ret
  exact ⟨_, rfl, HO.out, HB9.out⟩
set_option maxHeartbeats 1000000 in
theorem chAll (a : Option Addr) (cap : Nat) (l : List Pt) (g : Nat) (lb : Array Value) (q : Pt → Bool) (w : World) (h : PtsIn w a l) (hl : l.length ≤ 1000) (hf : BoolFn g lb q l w) :
    Calls Try.prog 23 #[.slice a l.length cap, .func (.func g) #[] lb] w fun e w' => e = .returned (.bool (allP q l)) ∧ Below w.heap.size w w' := by
  have HK : Hid (∀ ca, Calls Try.prog 46 #[.slice a l.length ca, .func (.func g) #[] lb] w fun e w' => ∃ v', e = .returned v' ∧ w'.ownsRow w.heap.size 55 3 v' (l.filter q).length (ptV (l.filter q)) ∧ Below w.heap.size w w') := fun ca => chKeep a ca l g lb q w h hl hf
  have HP : Hid (allP q l = (((l.filter q).length : Int) == (l.length : Int))) := rfl
  clear h hf
  go_enter Try.func23, Try.ntmps23
  go_wp2_with fail
  refine (HK.out _).mono ?_
  rintro e w9 ⟨v', rfl, hown, hb9⟩
  obtain ⟨ao, vcap, rfl, _, _⟩ := bk_shape hown
  clear hown
  go_wp2_with fail
  go_ret
  exact ⟨by rw [HP.out]; rfl, hb9⟩
end Go.Proofs.Ytcoijhofliilmab

/-
  What the program's Choose returns, over this seat's translation. Conditions stand in each theorem: where the points lie, that they are at most 1000, and that their numbers are within 2^40.
-/
namespace Go.Proofs.Ytcoijhofliilmab
open Go.RowKit

set_option maxHeartbeats 1000000 in
theorem prTraded (x : Pt) (w : World) :
    Calls Try.prog 18 #[.agg #[.int .i64 x.price, .int .i64 x.dem, .int .i64 x.sup]] w fun e w' => e = .returned (.int .i64 (trB x)) ∧ Below w.heap.size w w' := by
  have HT : Hid (trB x = min x.dem x.sup) := rfl
  go_enter Try.func18, Try.ntmps18
  go_wp2
  go_ret
  exact ⟨by rw [HT.out]; first | rfl | (congr 2; omega), cu_bel1 w _⟩
set_option maxHeartbeats 1000000 in
theorem prSurplus (x : Pt) (hx : x.Small) (w : World) :
    Calls Try.prog 25 #[.agg #[.int .i64 x.price, .int .i64 x.dem, .int .i64 x.sup]] w fun e w' => e = .returned (.int .i64 (surB x)) ∧ Below w.heap.size w w' := by
  have HT : Hid (surB x = x.dem - x.sup) := rfl
  obtain ⟨_, ⟨hd1, hd2⟩, ⟨hs1, hs2⟩⟩ := hx
  go_enter Try.func25, Try.ntmps25
  go_wp2
  go_ret
  exact ⟨by rw [HT.out]; rfl, cu_bel1 w _⟩
set_option maxHeartbeats 1000000 in
theorem prApart (a b : Int) (ha : -1099511627776 ≤ a ∧ a ≤ 1099511627776) (hb : -1099511627776 ≤ b ∧ b ≤ 1099511627776) (w : World) :
    Calls Try.prog 21 #[.int .i64 a, .int .i64 b] w fun e w' => e = .returned (.int .i64 (apB a b)) ∧ w' = w := by
  have HT : Hid (apB a b = max a b - min a b) := rfl
  obtain ⟨ha1, ha2⟩ := ha
  obtain ⟨hb1, hb2⟩ := hb
  go_enter Try.func21, Try.ntmps21
  go_wp2
  go_ret
  exact ⟨by rw [HT.out]; rfl, rfl⟩
theorem fnTraded (l : List Pt) (w : World) : NumFn 18 #[] trB l w :=
  ⟨enters_of Try.func18 (by kernel_rfl) rfl, fun W _ x _ => prTraded x W⟩
set_option maxHeartbeats 1000000 in
theorem fnLeft {l : List Pt} (hs : ∀ x ∈ l, x.Small) (w : World) : NumFn 20 #[] lfP l w := by
  refine ⟨enters_of Try.func20 (by kernel_rfl) rfl, fun W _ x hx => ?_⟩
  show Calls Try.prog 20 #[.agg #[.int .i64 x.price, .int .i64 x.dem, .int .i64 x.sup]] W _
  have HT : Hid (lfP x = apB x.dem x.sup) := rfl
  have HX : Hid x.Small := hs x hx
  clear hs hx
  go_enter Try.func20, Try.ntmps20
  go_wp2_with fail
  refine (prApart _ _ HX.out.d HX.out.s _).mono ?_
  rintro e w5 ⟨rfl, hw⟩
  subst hw
  go_wp2_with fail
  go_ret
  exact ⟨by rw [HT.out]; rfl, cu_bel1 W _⟩
set_option maxHeartbeats 1000000 in
theorem fnPrice (l : List Pt) (w : World) : NumFn 22 #[] Pt.price l w := by
  refine ⟨enters_of Try.func22 (by kernel_rfl) rfl, fun W _ x hx => ?_⟩
  show Calls Try.prog 22 #[.agg #[.int .i64 x.price, .int .i64 x.dem, .int .i64 x.sup]] W _
  go_enter Try.func22, Try.ntmps22
  go_wp2_with fail
  go_ret
  exact ⟨rfl, cu_bel1 W _⟩
set_option maxHeartbeats 1000000 in
theorem fnUp {l : List Pt} (hs : ∀ x ∈ l, x.Small) (w : World) : BoolFn 24 #[] upB l w := by
  refine ⟨enters_of Try.func24 (by kernel_rfl) rfl, fun W _ x hx => ?_⟩
  show Calls Try.prog 24 #[.agg #[.int .i64 x.price, .int .i64 x.dem, .int .i64 x.sup]] W _
  have HT : Hid (upB x = decide (surB x > 0)) := rfl
  have HX : Hid x.Small := hs x hx
  clear hs hx
  go_enter Try.func24, Try.ntmps24
  go_wp2_with fail
  refine (prSurplus x HX.out _).mono ?_
  rintro e w5 ⟨rfl, hb⟩
  have HB : Hid (Below W.heap.size W w5) := cu_then (cu_bel1 W _) hb
  clear hb
  go_wp2_with fail
  go_ret
  exact ⟨by rw [HT.out]; rfl, HB.out⟩
set_option maxHeartbeats 1000000 in
theorem fnDown {l : List Pt} (hs : ∀ x ∈ l, x.Small) (w : World) : BoolFn 26 #[] chDownB l w := by
  refine ⟨enters_of Try.func26 (by kernel_rfl) rfl, fun W _ x hx => ?_⟩
  show Calls Try.prog 26 #[.agg #[.int .i64 x.price, .int .i64 x.dem, .int .i64 x.sup]] W _
  have HT : Hid (chDownB x = decide (surB x < 0)) := rfl
  have HX : Hid x.Small := hs x hx
  clear hs hx
  go_enter Try.func26, Try.ntmps26
  go_wp2_with fail
  refine (prSurplus x HX.out _).mono ?_
  rintro e w5 ⟨rfl, hb⟩
  have HB : Hid (Below W.heap.size W w5) := cu_then (cu_bel1 W _) hb
  clear hb
  go_wp2_with fail
  go_ret
  exact ⟨by rw [HT.out]; rfl, HB.out⟩
set_option maxHeartbeats 1000000 in
theorem fnNear {l : List Pt} (hs : ∀ x ∈ l, x.Small) {w : World} {ab : Nat} {around : Int} (ha : -1099511627776 ≤ around ∧ around ≤ 1099511627776) (hc : w.cell? ⟨ab, 0, none⟩ = some (.int .i64 around)) : NumFn 27 #[.pointer (some ⟨ab, 0, none⟩)] (nearP around) l w := by
  refine ⟨enters_of Try.func27 (by kernel_rfl) rfl, fun W hW x hx => ?_⟩
  show Calls Try.prog 27 #[.agg #[.int .i64 x.price, .int .i64 x.dem, .int .i64 x.sup], .pointer (some ⟨ab, 0, none⟩)] W _
  have HT : Hid (nearP around x = apB x.price around) := rfl
  have HX : Hid x.Small := hs x hx
  have c1 := cu_cell (cu_bel1 W (.cells #[.int .i64 x.price, .int .i64 x.dem, .int .i64 x.sup] 55)) (cu_cell hW hc)
  clear hs hx hW hc
  go_enter Try.func27, Try.ntmps27
  go_wp2_with fail
  refine (prApart _ _ HX.out.p ha _).mono ?_
  rintro e w5 ⟨rfl, hw⟩
  subst hw
  go_wp2_with fail
  go_ret
  exact ⟨by rw [HT.out]; rfl, cu_bel1 W _⟩
end Go.Proofs.Ytcoijhofliilmab

/-
  What the program's Choose returns, whole, over this seat's translation. Conditions stand in the theorem: where the points lie, that they are at most 1000, and that their numbers are within 2^40.
-/
namespace Go.Proofs.Ytcoijhofliilmab
open Go.RowKit

theorem apB_in {a b : Int} (ha : -1099511627776 ≤ a ∧ a ≤ 1099511627776) (hb : -1099511627776 ≤ b ∧ b ≤ 1099511627776) : -9000000000000000000 ≤ apB a b ∧ apB a b ≤ 9000000000000000000 := by
  unfold apB; omega
theorem row_ptb {w : World} {base : Nat} {t : TypeId} {v : Value} {l : List Pt} (h : w.ownsRow base t 3 v l.length (ptV l)) {k : Nat} (hk : k < l.length) :
    ∃ g cap, v = .slice (some ⟨g, 0, none⟩) l.length cap ∧ base ≤ g ∧ w.cell? ⟨g, k * 3, none⟩ = some (.int .i64 (ptAt l k).price) ∧ w.cell? ⟨g, k * 3 + 1, none⟩ = some (.int .i64 (ptAt l k).dem) ∧ w.cell? ⟨g, k * 3 + 2, none⟩ = some (.int .i64 (ptAt l k).sup) := by
  obtain ⟨g, cap, rfl, hg, _⟩ := h.form (by omega)
  obtain ⟨h1, h2, h3⟩ := ptV_at hk
  exact ⟨g, cap, rfl, hg, (h.cellAt _ (by omega)).trans h1, (h.cellAt _ (by omega)).trans h2, (h.cellAt _ (by omega)).trans h3⟩
def quoA (q : Quo) : Value := .agg #[.int .i64 q.price, .int .i64 q.qty, .int .i64 q.sur]

set_option maxRecDepth 4000 in
set_option maxHeartbeats 4000000 in
theorem prChoose (a : Option Addr) (cap : Nat) (l : List Pt) (around : Int) (w : World) (h : PtsIn w a l) (hl : l.length ≤ 1000) (hs : ∀ x ∈ l, x.Small) (ha : -1099511627776 ≤ around ∧ around ≤ 1099511627776) :
    Calls Try.prog 8 #[.slice a l.length cap, .int .i64 around] w fun e w' => e = .returned (.agg #[.int .i64 (chooseL l around).price, .int .i64 (chooseL l around).qty, .int .i64 (chooseL l around).sur]) ∧ Below w.heap.size w w' := by
  have HA : Hid (PtsIn w a l) := h
  have HS : Hid (∀ x ∈ l, x.Small) := hs
  have HR : Hid (-1099511627776 ≤ around ∧ around ≤ 1099511627776) := ha
  have HC : Hid (chooseL l around = chooseP l around) := (chooseP_is l around).symm
  clear h hs ha
  go_enter Try.func8, Try.ntmps8
  go_wp2_with fail
  have hq0 : QuoAt ((w.alloc (.cells #[.int .i64 around] 3)).alloc (.cells #[.int .i64 0, .int .i64 0, .int .i64 0] 27)) (w.heap.size + 1) := by
    have := heap_alloc_new (w.alloc (.cells #[.int .i64 around] 3)) (.cells #[.int .i64 0, .int .i64 0, .int .i64 0] 27)
    unfold QuoAt
    simpa using this
  have ha0 : ((w.alloc (.cells #[.int .i64 around] 3)).alloc (.cells #[.int .i64 0, .int .i64 0, .int .i64 0] 27)).cell? ⟨w.heap.size, 0, none⟩ = some (.int .i64 around) := cu_cell (cu_bel1 _ _) (cu_blk (j := 0) (heap_alloc_new w _) rfl)
  have hb0 : Below w.heap.size w ((w.alloc (.cells #[.int .i64 around] 3)).alloc (.cells #[.int .i64 0, .int .i64 0, .int .i64 0] 27)) := cu_then (cu_bel1 w _) (cu_bel1 _ _)
  generalize (w.alloc (.cells #[.int .i64 around] 3)).alloc (.cells #[.int .i64 0, .int .i64 0, .int .i64 0] 27) = W0 at hq0 ha0 hb0 ⊢
  refine (chMost a _ l _ _ trB W0 (HA.out.below hb0) hl (fnTraded l W0)).mono ?_
  rintro e w1 ⟨v1, rfl, hown, hb1⟩
  have HQ1 : Hid (QuoAt w1 (w.heap.size + 1)) := hq0.below hb1
  have HA1 : Hid (w1.cell? ⟨w.heap.size, 0, none⟩ = some (.int .i64 around)) := cu_cell hb1 ha0
  have HB1 : Hid (Below w.heap.size w w1) := cu_then hb0 hb1
  have HC1 : Hid (chooseL l around = if nothP (mostF trB l) = true then ⟨0, 0, 0⟩ else quoP (ptAt (lastP around (leastF lfP (mostF trB l))) 0)) := HC.out
  have HS1 : Hid (∀ x ∈ mostF trB l, x.Small) := fun x hx => HS.out x (mostF_mem hx)
  have hl1 : (mostF trB l).length ≤ 1000 := Nat.le_trans (mostF_len trB l) hl
  have HW1 : Hid (w1.ownsRow w.heap.size 55 3 v1 (mostF trB l).length (ptV (mostF trB l))) := owns_base hown hb0.size
  obtain ⟨ao, c1, rfl, _, _⟩ := bk_shape hown
  clear hq0 ha0 hb0 hown hb1 HS HC HA hl
  generalize mostF trB l = l1 at HC1 HS1 hl1 HW1 ⊢
  by_cases h0 : 0 < l1.length
  · have hlen : ((l1.length : Int) == 0) = false := beq_eq_false_iff_ne.2 (by omega)
    have hlt : (0 : Int) < (l1.length : Int) := by omega
    obtain ⟨g, cap1, hv, d0, d1, d2⟩ := row_pt HW1.out h0
    simp only [Value.slice.injEq, true_and] at hv
    obtain ⟨rfl, rfl⟩ := hv
    have HNO : Hid (nothP l1 = decide (trB (ptAt l1 0) < 1)) := by
      show nothP l1 = _
      unfold nothP; rw [hlen]; rfl
    rw [Nat.zero_mul] at d0
    rw [Nat.zero_mul, Nat.zero_add] at d1 d2
    generalize ptAt l1 0 = x0 at d0 d1 d2 HNO
    go_wp2_with fail
    refine (prTraded x0 _).mono ?_
    rintro e w2 ⟨rfl, hb2⟩
    have HQ2 : Hid (QuoAt w2 (w.heap.size + 1)) := HQ1.out.below hb2
    have HA2 : Hid (w2.cell? ⟨w.heap.size, 0, none⟩ = some (.int .i64 around)) := cu_cell hb2 HA1.out
    have HB2 : Hid (Below w.heap.size w w2) := cu_then HB1.out hb2
    have HW2 : Hid (w2.ownsRow w.heap.size 55 3 (.slice (some ⟨g, 0, none⟩) l1.length c1) l1.length (ptV l1)) := bk_below HW1.out hb2 (Nat.le_refl _)
    clear hb2 HQ1 HA1 HB1 HW1 d0 d1 d2
    by_cases ht : trB x0 < 1
    · have HC2 : Hid (chooseL l around = ⟨0, 0, 0⟩) := by rw [HC1.out, HNO.out, decide_eq_true ht]; rfl
      have q0 := cu_blk (j := 0) HQ2.out rfl
      have q1 := cu_blk (j := 1) HQ2.out rfl
      have q2 := cu_blk (j := 2) HQ2.out rfl
      have f0 := cu_free (j := 0) HQ2.out
      have f1 := cu_free (j := 1) HQ2.out
      have f2 := cu_free (j := 2) HQ2.out
      have hF := cu_set (j := 2) (.int .i64 0) (cu_set (j := 1) (.int .i64 0) (cu_set (j := 0) (.int .i64 0) HQ2.out))
      have HB9 : Hid (Below w.heap.size w (((w2.setCell ⟨w.heap.size + 1, 0, none⟩ (.int .i64 0)).setCell ⟨w.heap.size + 1, 1, none⟩ (.int .i64 0)).setCell ⟨w.heap.size + 1, 2, none⟩ (.int .i64 0))) := ((HB2.out.setCell (Nat.le_succ _) _).setCell (Nat.le_succ _) _).setCell (Nat.le_succ _) _
      go_wp2_with fail
      generalize ((w2.setCell ⟨w.heap.size + 1, 0, none⟩ (.int .i64 0)).setCell ⟨w.heap.size + 1, 1, none⟩ (.int .i64 0)).setCell ⟨w.heap.size + 1, 2, none⟩ (.int .i64 0) = V at hF HB9 ⊢
      have z0 := cu_blk (j := 0) hF rfl
      have z1 := cu_blk (j := 1) hF rfl
      have z2 := cu_blk (j := 2) hF rfl
      refine bodyPost_ret (by simp [results, Try.results8, go_sem, z0, z1, z2]; try rfl) rfl ?_
      exact ⟨by rw [HC2.out], HB9.out⟩
    · have HC2 : Hid (chooseL l around = quoP (ptAt (lastP around (leastF lfP l1)) 0)) := by rw [HC1.out, HNO.out, decide_eq_false ht]; rfl
      clear HC1 HNO
      have HLF : Hid (∀ x ∈ l1, -9000000000000000000 ≤ lfP x ∧ lfP x ≤ 9000000000000000000) := fun x hx => apB_in (HS1.out x hx).d (HS1.out x hx).s
      have HP2 : Hid (0 < (leastF lfP l1).length) := mostF_pos _ h0
      have HS2 : Hid (∀ x ∈ leastF lfP l1, x.Small) := fun x hx => HS1.out x (leastF_mem hx)
      have hl2 : (leastF lfP l1).length ≤ 1000 := Nat.le_trans (leastF_len lfP l1) hl1
      obtain ⟨aw, cw, hvw, hpts⟩ := PtsIn.of_row HW2.out
      simp only [Value.slice.injEq, true_and] at hvw
      obtain ⟨rfl, rfl⟩ := hvw
      have HL2 : Hid (∀ ca, Calls Try.prog 19 #[.slice (some ⟨g, 0, none⟩) l1.length ca, .func (.func 20) #[] #[]] w2 fun e w' => ∃ v', e = .returned v' ∧ w'.ownsRow w2.heap.size 55 3 v' (leastF lfP l1).length (ptV (leastF lfP l1)) ∧ Below w2.heap.size w2 w') := fun ca => chLeast _ ca l1 _ _ lfP w2 hpts hl1 (fnLeft HS1.out w2) HLF.out
      clear hpts HLF HS1
      go_wp2_with fail
      refine (HL2.out _).mono ?_
      rintro e w3 ⟨v2, rfl, hown2, hb3⟩
      have HQ3 : Hid (QuoAt w3 (w.heap.size + 1)) := HQ2.out.below hb3
      have HA3 : Hid (w3.cell? ⟨w.heap.size, 0, none⟩ = some (.int .i64 around)) := cu_cell hb3 HA2.out
      have HB3 : Hid (Below w.heap.size w w3) := cu_then HB2.out hb3
      obtain ⟨a2, c2, rfl, hpts⟩ := PtsIn.of_row hown2
      have HI : Hid (PtsIn w3 a2 (leastF lfP l1)) := hpts
      clear hown2 hb3 hpts HQ2 HA2 HB2 HW2 HL2 hl1 h0 hlen hlt ht
      generalize leastF lfP l1 = l2 at HP2 HS2 hl2 HI HC2 ⊢
      have HLA : Hid (lastP around l2 = if allP upB l2 = true then mostF Pt.price l2 else if allP chDownB l2 = true then leastF Pt.price l2 else leastF Pt.price (leastF (nearP around) l2)) := rfl
      have HPR : Hid (∀ x ∈ l2, -9000000000000000000 ≤ Pt.price x ∧ Pt.price x ≤ 9000000000000000000) := fun x hx => by have := (HS2.out x hx).p; omega
      have HNR : Hid (∀ x ∈ l2, -9000000000000000000 ≤ nearP around x ∧ nearP around x ≤ 9000000000000000000) := fun x hx => apB_in (HS2.out x hx).p HR.out
      go_upto_block 0 with fail
      go_cut [0] from 21 to 38 (fun v wc => wc.ownsRow w3.heap.size 55 3 v (lastP around l2).length (ptV (lastP around l2)) ∧ Below w3.heap.size w3 wc)
      case first =>
        go_wp2_with fail
        refine (chAll a2 _ l2 _ _ upB w3 HI.out hl2 (fnUp HS2.out w3)).mono ?_
        rintro e w4 ⟨rfl, hb4⟩
        have HB4 : Hid (Below w3.heap.size w3 w4) := hb4
        clear hb4
        cases hup : allP upB l2 with
        | true =>
          have HL : Hid (lastP around l2 = mostF Pt.price l2) := by rw [HLA.out, hup]; rfl
          go_wp2_with fail
          refine (chMost a2 _ l2 _ _ Pt.price w4 (HI.out.below HB4.out) hl2 (fnPrice l2 w4)).mono ?_
          rintro e w5 ⟨v5, rfl, hown5, hb5⟩
          have HO5 : Hid (w5.ownsRow w3.heap.size 55 3 v5 (lastP around l2).length (ptV (lastP around l2))) := by rw [HL.out]; exact owns_base hown5 HB4.out.size
          have HB5 : Hid (Below w3.heap.size w3 w5) := cu_then HB4.out hb5
          clear hown5 hb5
          go_wp2_with fail
          go_meet
          exact ⟨HO5.out, HB5.out⟩
        | false =>
          go_wp2_with fail
          refine (chAll a2 _ l2 _ _ chDownB w4 (HI.out.below HB4.out) hl2 (fnDown HS2.out w4)).mono ?_
          rintro e w5 ⟨rfl, hb5⟩
          have HB5 : Hid (Below w3.heap.size w3 w5) := cu_then HB4.out hb5
          clear hb5
          cases hdn : allP chDownB l2 with
          | true =>
            have HL : Hid (lastP around l2 = leastF Pt.price l2) := by rw [HLA.out, hup, hdn]; rfl
            go_wp2_with fail
            refine (chLeast a2 _ l2 _ _ Pt.price w5 (HI.out.below HB5.out) hl2 (fnPrice l2 w5) HPR.out).mono ?_
            rintro e w6 ⟨v6, rfl, hown6, hb6⟩
            have HO6 : Hid (w6.ownsRow w3.heap.size 55 3 v6 (lastP around l2).length (ptV (lastP around l2))) := by rw [HL.out]; exact owns_base hown6 HB5.out.size
            have HB6 : Hid (Below w3.heap.size w3 w6) := cu_then HB5.out hb6
            clear hown6 hb6
            go_wp2_with fail
            go_meet
            exact ⟨HO6.out, HB6.out⟩
          | false =>
            have HL : Hid (lastP around l2 = leastF Pt.price (leastF (nearP around) l2)) := by rw [HLA.out, hup, hdn]; rfl
            go_wp2_with fail
            refine (chLeast a2 _ l2 _ _ (nearP around) w5 (HI.out.below HB5.out) hl2 (fnNear HS2.out HR.out (cu_cell HB5.out HA3.out)) HNR.out).mono ?_
            rintro e w6 ⟨v6, rfl, hown6, hb6⟩
            have HB6 : Hid (Below w3.heap.size w3 w6) := cu_then HB5.out hb6
            obtain ⟨a6, c6, rfl, hpts⟩ := PtsIn.of_row hown6
            have HI6 : Hid (PtsIn w6 a6 (leastF (nearP around) l2)) := hpts
            have hl6 : (leastF (nearP around) l2).length ≤ 1000 := Nat.le_trans (leastF_len (nearP around) l2) hl2
            have HPR6 : Hid (∀ x ∈ leastF (nearP around) l2, -9000000000000000000 ≤ Pt.price x ∧ Pt.price x ≤ 9000000000000000000) := fun x hx => HPR.out x (leastF_mem hx)
            clear hown6 hb6 hpts
            generalize leastF (nearP around) l2 = l6 at HI6 hl6 HPR6 HL ⊢
            go_wp2_with fail
            refine (chLeast a6 _ l6 _ _ Pt.price w6 HI6.out hl6 (fnPrice l6 w6) HPR6.out).mono ?_
            rintro e w7 ⟨v7, rfl, hown7, hb7⟩
            have HO7 : Hid (w7.ownsRow w3.heap.size 55 3 v7 (lastP around l2).length (ptV (lastP around l2))) := by rw [HL.out]; exact owns_base hown7 HB6.out.size
            have HB7 : Hid (Below w3.heap.size w3 w7) := cu_then HB6.out hb7
            clear hown7 hb7
            go_wp2_with fail
            go_meet
            exact ⟨HO7.out, HB7.out⟩
      case rest =>
        obtain ⟨ho, hbc⟩ := hcut
        have hpos := lastP_pos around HP2.out
        have hsm := HS2.out _ (quo_in (around := around) HP2.out)
        obtain ⟨g3, cap3, rfl, hg3, d0, d1, d2⟩ := row_ptb ho hpos
        have hlt : (0 : Int) < ((lastP around l2).length : Int) := by omega
        have HQd : Hid (QuoAt wc.drew (w.heap.size + 1)) := (HQ3.out.below hbc : QuoAt wc (w.heap.size + 1))
        have hng : ¬ w.heap.size + 1 = g3 := fun e => by have := lt_of_block HQ3.out; omega
        have hng' : ¬ g3 = w.heap.size + 1 := fun e => hng e.symm
        have HBd : Hid (Below w.heap.size w wc.drew) := (cu_then HB3.out hbc).drew
        rw [Nat.zero_mul] at d0
        rw [Nat.zero_mul, Nat.zero_add] at d1 d2
        generalize (lastP around l2).length = n3 at hlt hpos ⊢
        generalize ptAt (lastP around l2) 0 = x at d0 d1 d2 HC2 hsm
        have HX : Hid x.Small := hsm
        have HC3 : Hid ((chooseL l around).price = x.price ∧ (chooseL l around).qty = trB x ∧ (chooseL l around).sur = surB x) := by rw [HC2.out]; exact ⟨rfl, rfl, rfl⟩
        clear ho hbc hsm HLA HPR HNR HI HS2 HP2 HQ3 HA3 HB3 HC2
        go_wp2_with fail
        go_region_held3 (fun w' => w'.cell? ⟨g3, 0, none⟩ = some (.int .i64 x.price) ∧ w'.cell? ⟨g3, 1, none⟩ = some (.int .i64 x.dem) ∧ w'.cell? ⟨g3, 2, none⟩ = some (.int .i64 x.sup))
          (first | go_keep | (go_split_ands; refine ⟨?_, ?_, ?_⟩ <;> (refine cu_cell hbk ?_; assumption)))
          (first | (go_at_call 18; refine (prTraded x _).mono ?_; rintro e w5 ⟨rfl, hbk⟩; have HQ5 : Hid (QuoAt w5 (w.heap.size + 1)) := HQd.out.below hbk; have HB5 : Hid (Below w.heap.size w w5) := cu_then HBd.out hbk) | (go_at_call 25; refine (prSurplus x HX.out _).mono ?_; rintro e w6 ⟨rfl, hbk⟩; have hq6 := HQ5.out.below hbk; have q0 := cu_blk (j := 0) hq6 rfl; have q1 := cu_blk (j := 1) hq6 rfl; have q2 := cu_blk (j := 2) hq6 rfl; have f0 := cu_free (j := 0) hq6; have f1 := cu_free (j := 1) hq6; have f2 := cu_free (j := 2) hq6; have HB6 : Hid (Below w.heap.size w w6) := cu_then HB5.out hbk; have HQ6 : Hid (QuoAt w6 (w.heap.size + 1)) := hq6; clear hq6))
        have hF := cu_set (j := 2) (.int .i64 (surB x)) (cu_set (j := 1) (.int .i64 (trB x)) (cu_set (j := 0) (.int .i64 x.price) HQ6.out))
        have HB9 : Hid (Below w.heap.size w (((w6.setCell ⟨w.heap.size + 1, 0, none⟩ (.int .i64 x.price)).setCell ⟨w.heap.size + 1, 1, none⟩ (.int .i64 (trB x))).setCell ⟨w.heap.size + 1, 2, none⟩ (.int .i64 (surB x)))) := ((HB6.out.setCell (Nat.le_succ _) _).setCell (Nat.le_succ _) _).setCell (Nat.le_succ _) _
        rename_i hHeld9
        clear hHeld9 q0 q1 q2 f0 f1 f2 d0 d1 d2
        generalize ((w6.setCell ⟨w.heap.size + 1, 0, none⟩ (.int .i64 x.price)).setCell ⟨w.heap.size + 1, 1, none⟩ (.int .i64 (trB x))).setCell ⟨w.heap.size + 1, 2, none⟩ (.int .i64 (surB x)) = V at hF HB9 ⊢
        have z0 := cu_blk (j := 0) hF rfl
        have z1 := cu_blk (j := 1) hF rfl
        have z2 := cu_blk (j := 2) hF rfl
        clear hF
        go_wp2_with fail
        refine bodyPost_ret (by simp [results, Try.results8, go_sem, z0, z1, z2]; try rfl) rfl ?_
        exact ⟨by rw [HC3.out.1, HC3.out.2.1, HC3.out.2.2], HB9.out⟩
  · have hlen : ((l1.length : Int) == 0) = true := beq_iff_eq.2 (by omega)
    have HC2 : Hid (chooseL l around = ⟨0, 0, 0⟩) := by
      show chooseL l around = _
      rw [HC1.out]
      exact if_pos (by unfold nothP; rw [hlen]; rfl)
    have q0 := cu_blk (j := 0) HQ1.out rfl
    have q1 := cu_blk (j := 1) HQ1.out rfl
    have q2 := cu_blk (j := 2) HQ1.out rfl
    have f0 := cu_free (j := 0) HQ1.out
    have f1 := cu_free (j := 1) HQ1.out
    have f2 := cu_free (j := 2) HQ1.out
    have hF := cu_set (j := 2) (.int .i64 0) (cu_set (j := 1) (.int .i64 0) (cu_set (j := 0) (.int .i64 0) HQ1.out))
    have HB9 : Hid (Below w.heap.size w (((w1.setCell ⟨w.heap.size + 1, 0, none⟩ (.int .i64 0)).setCell ⟨w.heap.size + 1, 1, none⟩ (.int .i64 0)).setCell ⟨w.heap.size + 1, 2, none⟩ (.int .i64 0))) := ((HB1.out.setCell (Nat.le_succ _) _).setCell (Nat.le_succ _) _).setCell (Nat.le_succ _) _
    go_wp2_with fail
    generalize ((w1.setCell ⟨w.heap.size + 1, 0, none⟩ (.int .i64 0)).setCell ⟨w.heap.size + 1, 1, none⟩ (.int .i64 0)).setCell ⟨w.heap.size + 1, 2, none⟩ (.int .i64 0) = V at hF HB9 ⊢
    have z0 := cu_blk (j := 0) hF rfl
    have z1 := cu_blk (j := 1) hF rfl
    have z2 := cu_blk (j := 2) hF rfl
    refine bodyPost_ret (by simp [results, Try.results8, go_sem, z0, z1, z2]; try rfl) rfl ?_
    exact ⟨by rw [HC2.out], HB9.out⟩
end Go.Proofs.Ytcoijhofliilmab
