/-
  What the program's most, least and all return, over this seat's translation. Conditions stand in each theorem: where the points lie, that they are at most 1000, and what the function value tells.
-/
import Derived.Test.YtkfmljokenclaabDoorChKeep
import Derived.Deep.CutRange
import Derived.Deep.RegionHeld3
import Derived.Lib.QuietBelow
import Derived.Lib.MinMax
import Derived.Shelf.Abstract
import Derived.Deep.DeepCutAuto
namespace Go.Proofs.YtkfmljokenclaabDoor
open Go.RowKit

/-- but for one block the world is as it was -/
structure But (tb : Nat) (w w' : World) : Prop where
  size : w.heap.size ≤ w'.heap.size
  block : ∀ k, k < w.heap.size → k ≠ tb → w'.heap[k]? = w.heap[k]?
theorem But.refl (tb : Nat) (w : World) : But tb w w := ⟨Nat.le_refl _, fun _ _ _ => rfl⟩
theorem But.drew {tb : Nat} {w w' : World} (h : But tb w w') : But tb w w'.drew := ⟨h.size, h.block⟩
theorem But.call {tb : Nat} {w w1 w2 : World} (h : But tb w w1) (hb : Below w1.heap.size w1 w2) : But tb w w2 :=
  ⟨Nat.le_trans h.size hb.size, fun k hk hn => (hb.block k (Nat.lt_of_lt_of_le hk h.size)).trans (h.block k hk hn)⟩
theorem But.set {tb : Nat} {w w' : World} (h : But tb w w') (j : Nat) (v : Value) : But tb w (w'.setCell ⟨tb, j, none⟩ v) :=
  ⟨by simpa using h.size, fun k hk hn => by rw [← h.block k hk hn]; exact Below.heap_setCell _ _ _ _ hn⟩
theorem But.cell {tb : Nat} {w w' : World} (h : But tb w w') {p : Addr} {v : Value} (hc : w.cell? p = some v) (hn : p.block ≠ tb) : w'.cell? p = some v :=
  (World.cell?_of_block (h.block _ (World.block_lt_of_cell? w _ hc) hn)).trans hc

set_option maxRecDepth 4000 in
set_option maxHeartbeats 1000000 in
theorem mostFn {g : Nat} {lb : Array Value} {f : Pt → Int} {l : List Pt} {w : World} (hN : NumFn g lb f l w) {nb tb : Nat} {top : Int} (h1 : w.cell? ⟨nb, 0, none⟩ = some (.func (.func g) #[] lb)) (h2 : w.cell? ⟨tb, 0, none⟩ = some (.int .i64 top)) :
    BoolFn 53 #[.pointer (some ⟨nb, 0, none⟩), .pointer (some ⟨tb, 0, none⟩)] (fun x => f x == top) l w := by
  refine ⟨enters_of Tryd.func53 (by kernel_rfl) rfl, fun W hW x hx => ?_⟩
  show Calls Tryd.prog 53 #[.agg #[.int .i64 x.price, .int .i64 x.dem, .int .i64 x.sup], .pointer (some ⟨nb, 0, none⟩), .pointer (some ⟨tb, 0, none⟩)] W _
  have eg := hN.enters
  have hX : CpBox (W.alloc (.cells #[.int .i64 x.price, .int .i64 x.dem, .int .i64 x.sup] 62)) W.heap.size x := heap_alloc_new W _
  have hb1 := cu_bel1 W (.cells #[.int .i64 x.price, .int .i64 x.dem, .int .i64 x.sup] 62)
  have c1 := cu_cell hb1 (cu_cell hW h1)
  have c2 := cu_cell hb1 (cu_cell hW h2)
  have HB1 : Hid (Below W.heap.size W (W.alloc (.cells #[.int .i64 x.price, .int .i64 x.dem, .int .i64 x.sup] 62))) := hb1
  have cN : ∀ dq os, Calls Tryd.prog g (#[.agg #[.int .i64 x.price, .int .i64 x.dem, .int .i64 x.sup]] ++ lb) (Go.Sort.grow (redrawn (W.alloc (.cells #[.int .i64 x.price, .int .i64 x.dem, .int .i64 x.sup] 62)) dq) os) fun e w'' => e = .returned (.int .i64 (f x)) ∧ ∃ q : Regrown, w'' = Go.Sort.grow (redrawn (W.alloc (.cells #[.int .i64 x.price, .int .i64 x.dem, .int .i64 x.sup] 62)) q.d) q.os := fun dq os =>
    Calls.regrown_of (hN.tells _ (cu_then (cu_then hW hb1) (below_regrown ..)) x hx)
  clear hN hW h1 h2 hb1
  go_enter Tryd.func53, Tryd.ntmps53
  go_wp2_with fail
  generalize W.alloc (.cells #[.int .i64 x.price, .int .i64 x.dem, .int .i64 x.sup] 62) = V at hX HB1 c1 c2 cN ⊢
  generalize hsz : W.heap.size = xb at hX HB1 ⊢
  have k0 := cell_regrown (cu_blk (j := 0) hX rfl)
  have k1 := cell_regrown (cu_blk (j := 1) hX rfl)
  have k2 := cell_regrown (cu_blk (j := 2) hX rfl)
  have k3 := cell_regrown c1
  have k4 := cell_regrown c2
  clear hX c1 c2
  refine wp_region_quiet_below (by kernel_rfl) (by kernel_rfl) ?_
  repeat (go_big_quiet_step (exact cN _ _))
  refine wpQuiet_nil ?_
  intro _ hw'
  obtain ⟨⟨dq, osq⟩, hw''⟩ := hw'
  subst hw''
  go_wp2
  go_ret
  subst hsz
  exact ⟨rfl, cu_then HB1.out (below_regrown ..)⟩
set_option maxHeartbeats 1000000 in
theorem leastFn {g : Nat} {lb : Array Value} {f : Pt → Int} {l : List Pt} {w : World} (hN : NumFn g lb f l w) {nb : Nat} (h1 : w.cell? ⟨nb, 0, none⟩ = some (.func (.func g) #[] lb)) (hf : ∀ x ∈ l, -9000000000000000000 ≤ f x ∧ f x ≤ 9000000000000000000) :
    NumFn 54 #[.pointer (some ⟨nb, 0, none⟩)] (fun x => -f x) l w := by
  refine ⟨enters_of Tryd.func54 (by kernel_rfl) rfl, fun W hW x hx => ?_⟩
  show Calls Tryd.prog 54 #[.agg #[.int .i64 x.price, .int .i64 x.dem, .int .i64 x.sup], .pointer (some ⟨nb, 0, none⟩)] W _
  have eg := hN.enters
  have c1 := cu_cell (cu_bel1 W (.cells #[.int .i64 x.price, .int .i64 x.dem, .int .i64 x.sup] 62)) (cu_cell hW h1)
  obtain ⟨f1, f2⟩ := hf x hx
  have HC : Hid (∀ V, Below W.heap.size W V → Calls Tryd.prog g (#[.agg #[.int .i64 x.price, .int .i64 x.dem, .int .i64 x.sup]] ++ lb) V fun e W' => e = .returned (.int .i64 (f x)) ∧ Below V.heap.size V W') := fun V hV => hN.tells V (cu_then hW hV) x hx
  clear hN hW h1 hf
  generalize f x = z at f1 f2 HC ⊢
  go_enter Tryd.func54, Tryd.ntmps54
  go_wp2_with fail
  refine (HC.out _ (cu_bel1 W _)).mono ?_
  rintro e w3 ⟨rfl, hb3⟩
  have HB3 : Hid (Below W.heap.size W w3) := cu_then (cu_bel1 W _) hb3
  clear hb3
  go_wp2_with fail
  go_ret
  exact ⟨rfl, HB3.out⟩

set_option maxRecDepth 4000 in
set_option maxHeartbeats 4000000 in
theorem chMost (a : Option Addr) (cap : Nat) (l : List Pt) (g : Nat) (lb : Array Value) (f : Pt → Int) (w : World) (h : PtsIn w a l) (hl : l.length ≤ 1000) (hf : NumFn g lb f l w) :
    Calls Tryd.prog 32 #[.slice a l.length cap, .func (.func g) #[] lb] w fun e w' => ∃ v', e = .returned v' ∧ w'.ownsRow w.heap.size 62 3 v' (mostF f l).length (ptV (mostF f l)) ∧ Below w.heap.size w w' := by
  have HA : Hid (PtsIn w a l) := h
  have HF : Hid (NumFn g lb f l w) := hf
  have eg := hf.enters
  have hbA := cu_bel1 w (.cells #[.func (.func g) #[] lb] 80)
  have hN : (w.alloc (.cells #[.func (.func g) #[] lb] 80)).heap[w.heap.size]? = _ := heap_alloc_new w _
  clear h hf
  by_cases h0 : 0 < l.length
  · obtain ⟨b, off, rfl, d0, d1, d2⟩ := HA.out.below hbA 0 h0
    have hlen : ((l.length : Int) == 0) = false := beq_eq_false_iff_ne.2 (by omega)
    have hlt : (0 : Int) < (l.length : Int) := by omega
    go_enter Tryd.func32, Tryd.ntmps32
    go_upto_region 3 with fail
    have HBA : Hid (Below w.heap.size w (w.alloc (.cells #[.func (.func g) #[] lb] 80))) := hbA
    have HC : Hid (∀ W, Below w.heap.size w W → Calls Tryd.prog g (#[.agg #[.int .i64 (ptAt l 0).price, .int .i64 (ptAt l 0).dem, .int .i64 (ptAt l 0).sup]] ++ lb) W fun e W' => e = .returned (.int .i64 (f (ptAt l 0))) ∧ Below W.heap.size W W') := fun W hW => HF.out.tells W hW _ (ptAt_mem h0)
    have HN : Hid ((w.alloc (.cells #[.func (.func g) #[] lb] 80)).heap[w.heap.size]? = some (.cells #[.func (.func g) #[] lb] 80 (0, 0))) := hN
    have n0 := cu_blk (j := 0) hN rfl
    have HTOP : Hid (f (ptAt l 0) = topF f (f (ptAt l 0)) (l.take 0)) := rfl
    have HZ0 : Hid (mostF f l = l.filter fun x => f x == topF f (f (ptAt l 0)) l) := rfl
    generalize f (ptAt l 0) = z0 at HC HTOP HZ0
    generalize ptAt l 0 = x0 at d0 d1 d2 HC
    generalize w.alloc (.cells #[.func (.func g) #[] lb] 80) = V at d0 d1 d2 HBA HN n0 ⊢
    clear hbA hN hlen
    rw [Nat.zero_mul, Nat.add_zero] at d0 d1 d2
    go_cut [5] from 11 to 15 (fun v wc => ∃ tb : Nat, v = .pointer (some ⟨tb, 0, none⟩) ∧ V.heap.size ≤ tb ∧ wc.heap[tb]? = some (.cells #[.int .i64 z0] 3 (0, 0)) ∧ Below V.heap.size V wc)
    case first =>
      have HS : Hid (∀ w', Below V.heap.size V w' → w'.cell? ⟨w.heap.size, 0, none⟩ = some (.func (.func g) #[] lb) ∧ w'.cell? ⟨b, off, none⟩ = some (.int .i64 x0.price) ∧ w'.cell? ⟨b, off + 1, none⟩ = some (.int .i64 x0.dem) ∧ w'.cell? ⟨b, off + 2, none⟩ = some (.int .i64 x0.sup) ∧ Below V.heap.size V w') := fun w' hb => ⟨cu_cell hb n0, cu_cell hb d0, cu_cell hb d1, cu_cell hb d2, hb⟩
      go_region_held3 (fun w' => w'.cell? ⟨w.heap.size, 0, none⟩ = some (.func (.func g) #[] lb) ∧ w'.cell? ⟨b, off, none⟩ = some (.int .i64 x0.price) ∧ w'.cell? ⟨b, off + 1, none⟩ = some (.int .i64 x0.dem) ∧ w'.cell? ⟨b, off + 2, none⟩ = some (.int .i64 x0.sup) ∧ Below V.heap.size V w')
        ((refine HS.out _ ?_; (repeat' first | assumption | exact Below.refl _ _ | exact Nat.le_refl _ | refine Below.drew ?_ | refine Below.alloc ?_ ?_ _ | refine cu_then ?_ hb1 | refine Below.setCell ?_ ?_ _ | (simp; done) | (simp; omega) | (have h9 := hb1.size; simp at h9 ⊢; omega))))
        (first | (go_at_fn g; refine (HC.out _ ?_).mono ?_; (refine cu_then HBA.out ?_; go_split_ands; assumption); rintro e w5 ⟨rfl, hb1⟩; first | (have t5 : w5.heap[V.heap.size]? = some (.cells #[.int .i64 0] 3 (0, 0)) := cu_keep (heap_alloc_new V.drew _) hb1; have c5 := cu_blk (j := 0) t5 rfl; have f5 := cu_free (j := 0) t5) | skip))
      · have HR : Hid (Below V.heap.size V (w5.alloc (.cells #[.int .i64 z0] 3))) := by go_split_ands; assumption
        have HZ : Hid (V.heap.size ≤ w5.heap.size) := hb1.size
        go_wp2_with fail
        go_meet
        exact ⟨_, rfl, HZ.out, heap_alloc_new w5 _, HR.out⟩
      · have HR : Hid (Below V.heap.size V (w5.setCell ⟨V.heap.size, 0, none⟩ (.int .i64 z0))) := by go_split_ands; assumption
        have HZ : Hid _ := t5
        go_wp2_with fail
        go_meet
        exact ⟨_, rfl, Nat.le_refl _, cu_set (j := 0) _ HZ.out, HR.out⟩
    case rest =>
      obtain ⟨tb, rfl, htb, hT, hBV⟩ := hcut
      have HT0 : Hid (wc.heap[tb]? = some (.cells #[.int .i64 (topF f z0 (l.take 0))] 3 (0, 0))) := by rw [← HTOP.out]; exact hT
      have HN0 : Hid (wc.heap[w.heap.size]? = some (.cells #[.func (.func g) #[] lb] 80 (0, 0))) := cu_keep HN.out hBV
      have HB0 : Hid (Below w.heap.size w wc) := cu_then HBA.out hBV
      have htb' : w.heap.size < tb := Nat.lt_of_lt_of_le (lt_of_block HN.out) htb
      clear hT hBV HBA HN htb HC d0 d1 d2 n0 HTOP
      go_wp2_with fail
      go_loopw [18] (fun i wr => ∃ k : Nat, k ≤ l.length ∧ i = .int .i64 k ∧ wr.heap[tb]? = some (.cells #[.int .i64 (topF f z0 (l.take k))] 3 (0, 0)) ∧ wr.heap[w.heap.size]? = some (.cells #[.func (.func g) #[] lb] 80 (0, 0)) ∧ Below w.heap.size w wr) (fun i _ => l.length - (intOf i).toNat)
      case atStart => exact ⟨0, Nat.zero_le _, rfl, HT0.out, HN0.out, HB0.out⟩
      case round =>
        obtain ⟨k, hk, rfl, hT, hN, hb⟩ := hrel
        clear HT0 HN0 HB0
        have HB : Hid (Below w.heap.size w wr) := hb
        by_cases hk1 : k < l.length
        · have hklt : (k : Int) < (l.length : Int) := by omega
          obtain ⟨b', off', he, d0, d1, d2⟩ := HA.out.below hb k hk1
          obtain ⟨rfl, rfl⟩ : b = b' ∧ off = off' := by simpa using he
          have HTK : Hid (topF f z0 (l.take (k + 1)) = max (topF f z0 (l.take k)) (f (ptAt l k))) := topF_take hk1
          have HC : Hid (∀ W, Below w.heap.size w W → Calls Tryd.prog g (#[.agg #[.int .i64 (ptAt l k).price, .int .i64 (ptAt l k).dem, .int .i64 (ptAt l k).sup]] ++ lb) W fun e W' => e = .returned (.int .i64 (f (ptAt l k))) ∧ Below W.heap.size W W') := fun W hW => HF.out.tells W hW _ (ptAt_mem hk1)
          generalize f (ptAt l k) = z at HTK HC
          generalize ptAt l k = x at d0 d1 d2 HC
          generalize topF f z0 (l.take k) = m at HTK hT
          clear hb he
          go_upto_region 7 with fail
          have hX : CpBox (wr.alloc (.cells #[.int .i64 x.price, .int .i64 x.dem, .int .i64 x.sup] 62)) wr.heap.size x := heap_alloc_new wr _
          have hbA := cu_bel1 wr (.cells #[.int .i64 x.price, .int .i64 x.dem, .int .i64 x.sup] 62)
          have hxt : wr.heap.size ≠ tb := fun e => by have := lt_of_block hT; omega
          generalize wr.alloc (.cells #[.int .i64 x.price, .int .i64 x.dem, .int .i64 x.sup] 62) = V2 at hX hbA ⊢
          generalize wr.heap.size = xb at hX hxt ⊢
          have HB2 : Hid (Below w.heap.size w V2) := cu_then HB.out hbA
          have hT2 := cu_keep hT hbA
          have hN2 := cu_keep hN hbA
          have HN2 : Hid (V2.heap[w.heap.size]? = some (.cells #[.func (.func g) #[] lb] 80 (0, 0))) := hN2
          have t2 := cu_blk (j := 0) hT2 rfl
          clear hT hN hbA HB d0 d1 d2
          have n2 := cu_blk (j := 0) hN2 rfl
          have x0 := cu_blk (j := 0) hX rfl
          have x1 := cu_blk (j := 1) hX rfl
          have x2 := cu_blk (j := 2) hX rfl
          have HT2 : Hid (V2.heap[tb]? = some (.cells #[.int .i64 m] 3 (0, 0))) := hT2
          clear hT2 hN2 hX
          go_region_with (go_at_fn g; refine (HC.out _ ?_).mono ?_; (refine cu_then HB2.out ?_; (repeat' first | assumption | exact Below.refl _ _ | exact Nat.le_refl _ | refine Below.drew ?_ | refine Below.alloc ?_ ?_ _ | (simp; done) | (simp; omega))); rintro e w5 ⟨rfl, hb1⟩; (have t5 : w5.heap[tb]? = some (.cells #[.int .i64 m] 3 (0, 0)) := cu_keep (w := V2.drew) HT2.out hb1; have c5 := cu_blk (j := 0) t5 rfl; have f5 := cu_free (j := 0) t5))
          all_goals
            have HT5 : Hid (w5.heap[tb]? = some (.cells #[.int .i64 m] 3 (0, 0))) := t5
            have HB5 : Hid (Below w.heap.size w w5) := cu_then (w1 := V2.drew) HB2.out.drew hb1
            have HN5 : Hid (w5.heap[w.heap.size]? = some (.cells #[.func (.func g) #[] lb] 80 (0, 0))) := cu_keep (w := V2.drew) HN2.out hb1
            clear hb1 t5 c5 f5 t2 n2 x0 x1 x2
            go_wp2_with fail
            go_roundw
            case rel => exact ⟨k + 1, hk1, by go_num, by rw [HTK.out]; exact cu_set (j := 0) _ HT5.out, (Below.heap_setCell _ _ _ _ (Nat.ne_of_lt htb')).trans HN5.out, HB5.out.setCell (Nat.le_of_lt htb') _⟩
            case measure => simp [intOf]; omega
        · obtain rfl : k = l.length := by omega
          rw [List.take_length] at hT
          have HK : Hid (∀ ca, Calls Tryd.prog 52 #[.slice (some ⟨b, off, none⟩) l.length ca, .func (.func 53) #[] #[.pointer (some ⟨w.heap.size, 0, none⟩), .pointer (some ⟨tb, 0, none⟩)]] wr fun e w' => ∃ v', e = .returned v' ∧ w'.ownsRow wr.heap.size 62 3 v' (l.filter fun x => f x == topF f z0 l).length (ptV (l.filter fun x => f x == topF f z0 l)) ∧ Below wr.heap.size wr w') := fun ca =>
            chKeep _ ca l _ _ _ wr (HA.out.below hb) hl (mostFn (HF.out.later hb) (cu_blk (j := 0) hN rfl) (cu_blk (j := 0) hT rfl))
          clear hb hT hN
          go_wp2_with fail
          refine (HK.out _).mono ?_
          rintro e w9 ⟨v', rfl, hown, hb9⟩
          have HO : Hid (w9.ownsRow w.heap.size 62 3 v' (mostF f l).length (ptV (mostF f l))) := by rw [HZ0.out]; exact owns_base hown HB.out.size
          have HB9 : Hid (Below w.heap.size w w9) := cu_then HB.out hb9
          clear hown hb9
          go_wp2_with fail
          go_ret
          exact ⟨_, rfl, HO.out, HB9.out⟩
  · have hlen : ((l.length : Int) == 0) = true := beq_iff_eq.2 (by omega)
    have HE : Hid (mostF f l = []) := by
      obtain rfl : l = [] := List.length_eq_zero_iff.1 (by omega)
      rfl
    go_enter Tryd.func32, Tryd.ntmps32
    go_wp2_with fail
    go_ret
    refine ⟨_, rfl, ?_, hbA⟩
    rw [HE.out]
    exact World.ownsRow_nil _ _ _ _
set_option maxHeartbeats 1000000 in
theorem chLeast (a : Option Addr) (cap : Nat) (l : List Pt) (g : Nat) (lb : Array Value) (f : Pt → Int) (w : World) (h : PtsIn w a l) (hl : l.length ≤ 1000) (hf : NumFn g lb f l w) (hfb : ∀ x ∈ l, -9000000000000000000 ≤ f x ∧ f x ≤ 9000000000000000000) :
    Calls Tryd.prog 34 #[.slice a l.length cap, .func (.func g) #[] lb] w fun e w' => ∃ v', e = .returned v' ∧ w'.ownsRow w.heap.size 62 3 v' (leastF f l).length (ptV (leastF f l)) ∧ Below w.heap.size w w' := by
  have hbA := cu_bel1 w (.cells #[.func (.func g) #[] lb] 80)
  have hN : (w.alloc (.cells #[.func (.func g) #[] lb] 80)).heap[w.heap.size]? = _ := heap_alloc_new w _
  have HM : Hid (∀ ca, Calls Tryd.prog 32 #[.slice a l.length ca, .func (.func 54) #[] #[.pointer (some ⟨w.heap.size, 0, none⟩)]] (w.alloc (.cells #[.func (.func g) #[] lb] 80)) fun e w' => ∃ v', e = .returned v' ∧ w'.ownsRow (w.alloc (.cells #[.func (.func g) #[] lb] 80)).heap.size 62 3 v' (leastF f l).length (ptV (leastF f l)) ∧ Below (w.alloc (.cells #[.func (.func g) #[] lb] 80)).heap.size (w.alloc (.cells #[.func (.func g) #[] lb] 80)) w') := fun ca =>
    chMost a ca l _ _ (fun x => -f x) _ (h.below hbA) hl (leastFn (hf.later hbA) (cu_blk (j := 0) hN rfl) hfb)
  clear hN h hf
  go_enter Tryd.func34, Tryd.ntmps34
  go_wp2_with fail
  refine (HM.out _).mono ?_
  rintro e w9 ⟨v', rfl, hown, hb9⟩
  have HO : Hid (w9.ownsRow w.heap.size 62 3 v' (leastF f l).length (ptV (leastF f l))) := owns_base hown hbA.size
  have HB9 : Hid (Below w.heap.size w w9) := cu_then hbA hb9
  clear hown hb9 hbA
  go_wp2_with fail
  go_ret
  exact ⟨_, rfl, HO.out, HB9.out⟩
set_option maxHeartbeats 1000000 in
theorem chAll (a : Option Addr) (cap : Nat) (l : List Pt) (g : Nat) (lb : Array Value) (q : Pt → Bool) (w : World) (h : PtsIn w a l) (hl : l.length ≤ 1000) (hf : BoolFn g lb q l w) :
    Calls Tryd.prog 38 #[.slice a l.length cap, .func (.func g) #[] lb] w fun e w' => e = .returned (.bool (allP q l)) ∧ Below w.heap.size w w' := by
  have HK : Hid (∀ ca, Calls Tryd.prog 52 #[.slice a l.length ca, .func (.func g) #[] lb] w fun e w' => ∃ v', e = .returned v' ∧ w'.ownsRow w.heap.size 62 3 v' (l.filter q).length (ptV (l.filter q)) ∧ Below w.heap.size w w') := fun ca => chKeep a ca l g lb q w h hl hf
  have HP : Hid (allP q l = (((l.filter q).length : Int) == (l.length : Int))) := rfl
  clear h hf
  go_enter Tryd.func38, Tryd.ntmps38
  go_wp2_with fail
  refine (HK.out _).mono ?_
  rintro e w9 ⟨v', rfl, hown, hb9⟩
  obtain ⟨ao, vcap, rfl, _, _⟩ := bk_shape hown
  clear hown
  go_wp2_with fail
  go_ret
  exact ⟨by rw [HP.out]; rfl, hb9⟩
end Go.Proofs.YtkfmljokenclaabDoor
