/-
  What the program's most, least and all return, over this seat's translation. Conditions stand in each theorem: where the points lie, that they are at most 1000, and what the function value tells.
-/
import Derived.Test.YtjdkagafdnchhaaGreatDoorLL
import Derived.Deep.CutRange
import Derived.Deep.RegionHeld3
import Derived.Lib.QuietBelow
import Derived.Lib.MinMax
import Derived.Shelf.Abstract
import Derived.Deep.DeepCutAuto
import Derived.Deep.CutBlock
import Derived.Test.YtjdkagafdnchhaaGreatDoorLK
import Derived.Test.YtjdkagafdnchhaaGreatDoorLI
import Derived.Test.YtjdkagafdnchhaaGreatDoorLA
import Derived.Defers
import Derived.Recover
namespace Go.Proofs.YtjdkagafdnchhaaGreatDoor
open Go.RowKit

/-- but for one block the world is as it was -/
structure But (tb : Nat) (w w' : World) : Prop where
  size : w.heap.size ≤ w'.heap.size
  block : ∀ k, k < w.heap.size → k ≠ tb → w'.heap[k]? = w.heap[k]?
theorem But.refl (tb : Nat) (w : World) : But tb w w := ⟨Nat.le_refl _, fun _ _ _ => rfl⟩
theorem But.drew {tb : Nat} {w w' : World} (h : But tb w w') : But tb w w'.drew := ⟨h.size, h.block⟩
theorem But.call {tb : Nat} {w w1 w2 : World} (h : But tb w w1) (hb : Below w1.heap.size w1 w2) : But tb w w2 :=
  ⟨Nat.le_trans h.size hb.size, fun k hk hn => (hb.block k (Nat.lt_of_lt_of_le hk h.size)).trans (h.block k hk hn)⟩
theorem But.set {tb : Nat} {w w' : World} (h : But tb w w') (j : Nat) (v : Value) : But tb w (w'.setCell ⟨tb, j, none⟩ v) :=
  ⟨by simpa using h.size, fun k hk hn => by rw [← h.block k hk hn]; exact Below.heap_setCell _ _ _ _ hn⟩
theorem But.cell {tb : Nat} {w w' : World} (h : But tb w w') {p : Addr} {v : Value} (hc : w.cell? p = some v) (hn : p.block ≠ tb) : w'.cell? p = some v :=
  (World.cell?_of_block (h.block _ (World.block_lt_of_cell? w _ hc) hn)).trans hc

set_option maxRecDepth 4000 in
set_option maxHeartbeats 1000000 in
theorem mostFn {g : Nat} {lb : Array Value} {f : Pt → Int} {l : List Pt} {w : World} (hN : NumFn g lb f l w) {nb tb : Nat} {top : Int} (h1 : w.cell? ⟨nb, 0, none⟩ = some (.func (.func g) #[] lb)) (h2 : w.cell? ⟨tb, 0, none⟩ = some (.int .i64 top)) :
    BoolFn 164 #[.pointer (some ⟨nb, 0, none⟩), .pointer (some ⟨tb, 0, none⟩)] (fun x => f x == top) l w := by
  refine ⟨enters_of Tryz.func164 (by kernel_rfl) rfl, fun W hW x hx => ?_⟩
  show Calls Tryz.prog 164 #[.agg #[.int .i64 x.price, .int .i64 x.dem, .int .i64 x.sup], .pointer (some ⟨nb, 0, none⟩), .pointer (some ⟨tb, 0, none⟩)] W _
  have eg := hN.enters
  have hX : CpBox (W.alloc (.cells #[.int .i64 x.price, .int .i64 x.dem, .int .i64 x.sup] 189)) W.heap.size x := heap_alloc_new W _
  have hb1 := cu_bel1 W (.cells #[.int .i64 x.price, .int .i64 x.dem, .int .i64 x.sup] 189)
  have c1 := cu_cell hb1 (cu_cell hW h1)
  have c2 := cu_cell hb1 (cu_cell hW h2)
  have HB1 : Hid (Below W.heap.size W (W.alloc (.cells #[.int .i64 x.price, .int .i64 x.dem, .int .i64 x.sup] 189))) := hb1
  have cN : ∀ dq os, Calls Tryz.prog g (#[.agg #[.int .i64 x.price, .int .i64 x.dem, .int .i64 x.sup]] ++ lb) (Go.Sort.grow (redrawn (W.alloc (.cells #[.int .i64 x.price, .int .i64 x.dem, .int .i64 x.sup] 189)) dq) os) fun e w'' => e = .returned (.int .i64 (f x)) ∧ ∃ q : Regrown, w'' = Go.Sort.grow (redrawn (W.alloc (.cells #[.int .i64 x.price, .int .i64 x.dem, .int .i64 x.sup] 189)) q.d) q.os := fun dq os =>
    Calls.regrown_of (hN.tells _ (cu_then (cu_then hW hb1) (below_regrown ..)) x hx)
  clear hN hW h1 h2 hb1
  go_enter Tryz.func164, Tryz.ntmps164
  go_wp2_with fail
  generalize W.alloc (.cells #[.int .i64 x.price, .int .i64 x.dem, .int .i64 x.sup] 189) = V at hX HB1 c1 c2 cN ⊢
  generalize hsz : W.heap.size = xb at hX HB1 ⊢
  have k0 := cell_regrown (cu_blk (j := 0) hX rfl)
  have k1 := cell_regrown (cu_blk (j := 1) hX rfl)
  have k2 := cell_regrown (cu_blk (j := 2) hX rfl)
  have k3 := cell_regrown c1
  have k4 := cell_regrown c2
  clear hX c1 c2
  refine wp_region_quiet_below (by kernel_rfl) (by kernel_rfl) ?_
  repeat (go_big_quiet_step (exact cN _ _))
  refine wpQuiet_nil ?_
  intro _ hw'
  obtain ⟨⟨dq, osq⟩, hw''⟩ := hw'
  subst hw''
  go_wp2
  go_ret
  subst hsz
  exact ⟨rfl, cu_then HB1.out (below_regrown ..)⟩
set_option maxHeartbeats 1000000 in
theorem leastFn {g : Nat} {lb : Array Value} {f : Pt → Int} {l : List Pt} {w : World} (hN : NumFn g lb f l w) {nb : Nat} (h1 : w.cell? ⟨nb, 0, none⟩ = some (.func (.func g) #[] lb)) (hf : ∀ x ∈ l, -9000000000000000000 ≤ f x ∧ f x ≤ 9000000000000000000) :
    NumFn 165 #[.pointer (some ⟨nb, 0, none⟩)] (fun x => -f x) l w := by
  refine ⟨enters_of Tryz.func165 (by kernel_rfl) rfl, fun W hW x hx => ?_⟩
  show Calls Tryz.prog 165 #[.agg #[.int .i64 x.price, .int .i64 x.dem, .int .i64 x.sup], .pointer (some ⟨nb, 0, none⟩)] W _
  have eg := hN.enters
  have c1 := cu_cell (cu_bel1 W (.cells #[.int .i64 x.price, .int .i64 x.dem, .int .i64 x.sup] 189)) (cu_cell hW h1)
  obtain ⟨f1, f2⟩ := hf x hx
  have HC : Hid (∀ V, Below W.heap.size W V → Calls Tryz.prog g (#[.agg #[.int .i64 x.price, .int .i64 x.dem, .int .i64 x.sup]] ++ lb) V fun e W' => e = .returned (.int .i64 (f x)) ∧ Below V.heap.size V W') := fun V hV => hN.tells V (cu_then hW hV) x hx
  clear hN hW h1 hf
  generalize f x = z at f1 f2 HC ⊢
  go_enter Tryz.func165, Tryz.ntmps165
  go_wp2_with fail
  refine (HC.out _ (cu_bel1 W _)).mono ?_
  rintro e w3 ⟨rfl, hb3⟩
  have HB3 : Hid (Below W.heap.size W w3) := cu_then (cu_bel1 W _) hb3
  clear hb3
  go_wp2_with fail
  go_ret
  exact ⟨rfl, HB3.out⟩

set_option maxRecDepth 4000 in
set_option maxHeartbeats 4000000 in
theorem chMost (a : Option Addr) (cap : Nat) (l : List Pt) (g : Nat) (lb : Array Value) (f : Pt → Int) (w : World) (h : PtsIn w a l) (hl : l.length ≤ 1000) (hf : NumFn g lb f l w) :
    Calls Tryz.prog 114 #[.slice a l.length cap, .func (.func g) #[] lb] w fun e w' => ∃ v', e = .returned v' ∧ w'.ownsRow w.heap.size 189 3 v' (mostF f l).length (ptV (mostF f l)) ∧ Below w.heap.size w w' := by
  have HA : Hid (PtsIn w a l) := h
  have HF : Hid (NumFn g lb f l w) := hf
  have eg := hf.enters
  have hbA := cu_bel1 w (.cells #[.func (.func g) #[] lb] 187)
  have hN : (w.alloc (.cells #[.func (.func g) #[] lb] 187)).heap[w.heap.size]? = _ := heap_alloc_new w _
  clear h hf
  by_cases h0 : 0 < l.length
  · obtain ⟨b, off, rfl, d0, d1, d2⟩ := HA.out.below hbA 0 h0
    have hlen : ((l.length : Int) == 0) = false := beq_eq_false_iff_ne.2 (by omega)
    have hlt : (0 : Int) < (l.length : Int) := by omega
    go_enter Tryz.func114, Tryz.ntmps114
    go_upto_region 3 with fail
    have HBA : Hid (Below w.heap.size w (w.alloc (.cells #[.func (.func g) #[] lb] 187))) := hbA
    have HC : Hid (∀ W, Below w.heap.size w W → Calls Tryz.prog g (#[.agg #[.int .i64 (ptAt l 0).price, .int .i64 (ptAt l 0).dem, .int .i64 (ptAt l 0).sup]] ++ lb) W fun e W' => e = .returned (.int .i64 (f (ptAt l 0))) ∧ Below W.heap.size W W') := fun W hW => HF.out.tells W hW _ (ptAt_mem h0)
    have HN : Hid ((w.alloc (.cells #[.func (.func g) #[] lb] 187)).heap[w.heap.size]? = some (.cells #[.func (.func g) #[] lb] 187 (0, 0))) := hN
    have n0 := cu_blk (j := 0) hN rfl
    have HTOP : Hid (f (ptAt l 0) = topF f (f (ptAt l 0)) (l.take 0)) := rfl
    have HZ0 : Hid (mostF f l = l.filter fun x => f x == topF f (f (ptAt l 0)) l) := rfl
    generalize f (ptAt l 0) = z0 at HC HTOP HZ0
    generalize ptAt l 0 = x0 at d0 d1 d2 HC
    generalize w.alloc (.cells #[.func (.func g) #[] lb] 187) = V at d0 d1 d2 HBA HN n0 ⊢
    clear hbA hN hlen
    rw [Nat.zero_mul, Nat.add_zero] at d0 d1 d2
    go_cut [5] from 11 to 15 (fun v wc => ∃ tb : Nat, v = .pointer (some ⟨tb, 0, none⟩) ∧ V.heap.size ≤ tb ∧ wc.heap[tb]? = some (.cells #[.int .i64 z0] 3 (0, 0)) ∧ Below V.heap.size V wc)
    case first =>
      have HS : Hid (∀ w', Below V.heap.size V w' → w'.cell? ⟨w.heap.size, 0, none⟩ = some (.func (.func g) #[] lb) ∧ w'.cell? ⟨b, off, none⟩ = some (.int .i64 x0.price) ∧ w'.cell? ⟨b, off + 1, none⟩ = some (.int .i64 x0.dem) ∧ w'.cell? ⟨b, off + 2, none⟩ = some (.int .i64 x0.sup) ∧ Below V.heap.size V w') := fun w' hb => ⟨cu_cell hb n0, cu_cell hb d0, cu_cell hb d1, cu_cell hb d2, hb⟩
      go_region_held3 (fun w' => w'.cell? ⟨w.heap.size, 0, none⟩ = some (.func (.func g) #[] lb) ∧ w'.cell? ⟨b, off, none⟩ = some (.int .i64 x0.price) ∧ w'.cell? ⟨b, off + 1, none⟩ = some (.int .i64 x0.dem) ∧ w'.cell? ⟨b, off + 2, none⟩ = some (.int .i64 x0.sup) ∧ Below V.heap.size V w')
        ((refine HS.out _ ?_; (repeat' first | assumption | exact Below.refl _ _ | exact Nat.le_refl _ | refine Below.drew ?_ | refine Below.alloc ?_ ?_ _ | refine cu_then ?_ hb1 | refine Below.setCell ?_ ?_ _ | (simp; done) | (simp; omega) | (have h9 := hb1.size; simp at h9 ⊢; omega))))
        (first | (go_at_fn g; refine (HC.out _ ?_).mono ?_; (refine cu_then HBA.out ?_; go_split_ands; assumption); rintro e w5 ⟨rfl, hb1⟩; first | (have t5 : w5.heap[V.heap.size]? = some (.cells #[.int .i64 0] 3 (0, 0)) := cu_keep (heap_alloc_new V.drew _) hb1; have c5 := cu_blk (j := 0) t5 rfl; have f5 := cu_free (j := 0) t5) | skip))
      · have HR : Hid (Below V.heap.size V (w5.alloc (.cells #[.int .i64 z0] 3))) := by go_split_ands; assumption
        have HZ : Hid (V.heap.size ≤ w5.heap.size) := hb1.size
        go_wp2_with fail
        go_meet
        exact ⟨_, rfl, HZ.out, heap_alloc_new w5 _, HR.out⟩
      · have HR : Hid (Below V.heap.size V (w5.setCell ⟨V.heap.size, 0, none⟩ (.int .i64 z0))) := by go_split_ands; assumption
        have HZ : Hid _ := t5
        go_wp2_with fail
        go_meet
        exact ⟨_, rfl, Nat.le_refl _, cu_set (j := 0) _ HZ.out, HR.out⟩
    case rest =>
      obtain ⟨tb, rfl, htb, hT, hBV⟩ := hcut
      have HT0 : Hid (wc.heap[tb]? = some (.cells #[.int .i64 (topF f z0 (l.take 0))] 3 (0, 0))) := by rw [← HTOP.out]; exact hT
      have HN0 : Hid (wc.heap[w.heap.size]? = some (.cells #[.func (.func g) #[] lb] 187 (0, 0))) := cu_keep HN.out hBV
      have HB0 : Hid (Below w.heap.size w wc) := cu_then HBA.out hBV
      have htb' : w.heap.size < tb := Nat.lt_of_lt_of_le (lt_of_block HN.out) htb
      clear hT hBV HBA HN htb HC d0 d1 d2 n0 HTOP
      go_wp2_with fail
      go_loopw [18] (fun i wr => ∃ k : Nat, k ≤ l.length ∧ i = .int .i64 k ∧ wr.heap[tb]? = some (.cells #[.int .i64 (topF f z0 (l.take k))] 3 (0, 0)) ∧ wr.heap[w.heap.size]? = some (.cells #[.func (.func g) #[] lb] 187 (0, 0)) ∧ Below w.heap.size w wr) (fun i _ => l.length - (intOf i).toNat)
      case atStart => exact ⟨0, Nat.zero_le _, rfl, HT0.out, HN0.out, HB0.out⟩
      case round =>
        obtain ⟨k, hk, rfl, hT, hN, hb⟩ := hrel
        clear HT0 HN0 HB0
        have HB : Hid (Below w.heap.size w wr) := hb
        by_cases hk1 : k < l.length
        · have hklt : (k : Int) < (l.length : Int) := by omega
          obtain ⟨b', off', he, d0, d1, d2⟩ := HA.out.below hb k hk1
          obtain ⟨rfl, rfl⟩ : b = b' ∧ off = off' := by simpa using he
          have HTK : Hid (topF f z0 (l.take (k + 1)) = max (topF f z0 (l.take k)) (f (ptAt l k))) := topF_take hk1
          have HC : Hid (∀ W, Below w.heap.size w W → Calls Tryz.prog g (#[.agg #[.int .i64 (ptAt l k).price, .int .i64 (ptAt l k).dem, .int .i64 (ptAt l k).sup]] ++ lb) W fun e W' => e = .returned (.int .i64 (f (ptAt l k))) ∧ Below W.heap.size W W') := fun W hW => HF.out.tells W hW _ (ptAt_mem hk1)
          generalize f (ptAt l k) = z at HTK HC
          generalize ptAt l k = x at d0 d1 d2 HC
          generalize topF f z0 (l.take k) = m at HTK hT
          clear hb he
          go_upto_region 7 with fail
          have hX : CpBox (wr.alloc (.cells #[.int .i64 x.price, .int .i64 x.dem, .int .i64 x.sup] 189)) wr.heap.size x := heap_alloc_new wr _
          have hbA := cu_bel1 wr (.cells #[.int .i64 x.price, .int .i64 x.dem, .int .i64 x.sup] 189)
          have hxt : wr.heap.size ≠ tb := fun e => by have := lt_of_block hT; omega
          generalize wr.alloc (.cells #[.int .i64 x.price, .int .i64 x.dem, .int .i64 x.sup] 189) = V2 at hX hbA ⊢
          generalize wr.heap.size = xb at hX hxt ⊢
          have HB2 : Hid (Below w.heap.size w V2) := cu_then HB.out hbA
          have hT2 := cu_keep hT hbA
          have hN2 := cu_keep hN hbA
          have HN2 : Hid (V2.heap[w.heap.size]? = some (.cells #[.func (.func g) #[] lb] 187 (0, 0))) := hN2
          have t2 := cu_blk (j := 0) hT2 rfl
          clear hT hN hbA HB d0 d1 d2
          have n2 := cu_blk (j := 0) hN2 rfl
          have x0 := cu_blk (j := 0) hX rfl
          have x1 := cu_blk (j := 1) hX rfl
          have x2 := cu_blk (j := 2) hX rfl
          have HT2 : Hid (V2.heap[tb]? = some (.cells #[.int .i64 m] 3 (0, 0))) := hT2
          clear hT2 hN2 hX
          go_region_with (go_at_fn g; refine (HC.out _ ?_).mono ?_; (refine cu_then HB2.out ?_; (repeat' first | assumption | exact Below.refl _ _ | exact Nat.le_refl _ | refine Below.drew ?_ | refine Below.alloc ?_ ?_ _ | (simp; done) | (simp; omega))); rintro e w5 ⟨rfl, hb1⟩; (have t5 : w5.heap[tb]? = some (.cells #[.int .i64 m] 3 (0, 0)) := cu_keep (w := V2.drew) HT2.out hb1; have c5 := cu_blk (j := 0) t5 rfl; have f5 := cu_free (j := 0) t5))
          all_goals
            have HT5 : Hid (w5.heap[tb]? = some (.cells #[.int .i64 m] 3 (0, 0))) := t5
            have HB5 : Hid (Below w.heap.size w w5) := cu_then (w1 := V2.drew) HB2.out.drew hb1
            have HN5 : Hid (w5.heap[w.heap.size]? = some (.cells #[.func (.func g) #[] lb] 187 (0, 0))) := cu_keep (w := V2.drew) HN2.out hb1
            clear hb1 t5 c5 f5 t2 n2 x0 x1 x2
            go_wp2_with fail
            go_roundw
            case rel => exact ⟨k + 1, hk1, by go_num, by rw [HTK.out]; exact cu_set (j := 0) _ HT5.out, (Below.heap_setCell _ _ _ _ (Nat.ne_of_lt htb')).trans HN5.out, HB5.out.setCell (Nat.le_of_lt htb') _⟩
            case measure => simp [intOf]; omega
        · obtain rfl : k = l.length := by omega
          rw [List.take_length] at hT
          have HK : Hid (∀ ca, Calls Tryz.prog 163 #[.slice (some ⟨b, off, none⟩) l.length ca, .func (.func 164) #[] #[.pointer (some ⟨w.heap.size, 0, none⟩), .pointer (some ⟨tb, 0, none⟩)]] wr fun e w' => ∃ v', e = .returned v' ∧ w'.ownsRow wr.heap.size 189 3 v' (l.filter fun x => f x == topF f z0 l).length (ptV (l.filter fun x => f x == topF f z0 l)) ∧ Below wr.heap.size wr w') := fun ca =>
            chKeep _ ca l _ _ _ wr (HA.out.below hb) hl (mostFn (HF.out.later hb) (cu_blk (j := 0) hN rfl) (cu_blk (j := 0) hT rfl))
          clear hb hT hN
          go_wp2_with fail
          refine (HK.out _).mono ?_
          rintro e w9 ⟨v', rfl, hown, hb9⟩
          have HO : Hid (w9.ownsRow w.heap.size 189 3 v' (mostF f l).length (ptV (mostF f l))) := by rw [HZ0.out]; exact owns_base hown HB.out.size
          have HB9 : Hid (Below w.heap.size w w9) := cu_then HB.out hb9
          clear hown hb9
          go_wp2_with fail
          go_ret
          exact ⟨_, rfl, HO.out, HB9.out⟩
  · have hlen : ((l.length : Int) == 0) = true := beq_iff_eq.2 (by omega)
    have HE : Hid (mostF f l = []) := by
      obtain rfl : l = [] := List.length_eq_zero_iff.1 (by omega)
      rfl
    go_enter Tryz.func114, Tryz.ntmps114
    go_wp2_with fail
    go_ret
    refine ⟨_, rfl, ?_, hbA⟩
    rw [HE.out]
    exact World.ownsRow_nil _ _ _ _
set_option maxHeartbeats 1000000 in
theorem chLeast (a : Option Addr) (cap : Nat) (l : List Pt) (g : Nat) (lb : Array Value) (f : Pt → Int) (w : World) (h : PtsIn w a l) (hl : l.length ≤ 1000) (hf : NumFn g lb f l w) (hfb : ∀ x ∈ l, -9000000000000000000 ≤ f x ∧ f x ≤ 9000000000000000000) :
    Calls Tryz.prog 116 #[.slice a l.length cap, .func (.func g) #[] lb] w fun e w' => ∃ v', e = .returned v' ∧ w'.ownsRow w.heap.size 189 3 v' (leastF f l).length (ptV (leastF f l)) ∧ Below w.heap.size w w' := by
  have hbA := cu_bel1 w (.cells #[.func (.func g) #[] lb] 187)
  have hN : (w.alloc (.cells #[.func (.func g) #[] lb] 187)).heap[w.heap.size]? = _ := heap_alloc_new w _
  have HM : Hid (∀ ca, Calls Tryz.prog 114 #[.slice a l.length ca, .func (.func 165) #[] #[.pointer (some ⟨w.heap.size, 0, none⟩)]] (w.alloc (.cells #[.func (.func g) #[] lb] 187)) fun e w' => ∃ v', e = .returned v' ∧ w'.ownsRow (w.alloc (.cells #[.func (.func g) #[] lb] 187)).heap.size 189 3 v' (leastF f l).length (ptV (leastF f l)) ∧ Below (w.alloc (.cells #[.func (.func g) #[] lb] 187)).heap.size (w.alloc (.cells #[.func (.func g) #[] lb] 187)) w') := fun ca =>
    chMost a ca l _ _ (fun x => -f x) _ (h.below hbA) hl (leastFn (hf.later hbA) (cu_blk (j := 0) hN rfl) hfb)
  clear hN h hf
  go_enter Tryz.func116, Tryz.ntmps116
  go_wp2_with fail
  refine (HM.out _).mono ?_
  rintro e w9 ⟨v', rfl, hown, hb9⟩
  have HO : Hid (w9.ownsRow w.heap.size 189 3 v' (leastF f l).length (ptV (leastF f l))) := owns_base hown hbA.size
  have HB9 : Hid (Below w.heap.size w w9) := cu_then hbA hb9
  clear hown hb9 hbA
  go_wp2_with fail
  go_ret
  exact ⟨_, rfl, HO.out, HB9.out⟩
set_option maxHeartbeats 1000000 in
theorem chAll (a : Option Addr) (cap : Nat) (l : List Pt) (g : Nat) (lb : Array Value) (q : Pt → Bool) (w : World) (h : PtsIn w a l) (hl : l.length ≤ 1000) (hf : BoolFn g lb q l w) :
    Calls Tryz.prog 120 #[.slice a l.length cap, .func (.func g) #[] lb] w fun e w' => e = .returned (.bool (allP q l)) ∧ Below w.heap.size w w' := by
  have HK : Hid (∀ ca, Calls Tryz.prog 163 #[.slice a l.length ca, .func (.func g) #[] lb] w fun e w' => ∃ v', e = .returned v' ∧ w'.ownsRow w.heap.size 189 3 v' (l.filter q).length (ptV (l.filter q)) ∧ Below w.heap.size w w') := fun ca => chKeep a ca l g lb q w h hl hf
  have HP : Hid (allP q l = (((l.filter q).length : Int) == (l.length : Int))) := rfl
  clear h hf
  go_enter Tryz.func120, Tryz.ntmps120
  go_wp2_with fail
  refine (HK.out _).mono ?_
  rintro e w9 ⟨v', rfl, hown, hb9⟩
  obtain ⟨ao, vcap, rfl, _, _⟩ := bk_shape hown
  clear hown
  go_wp2_with fail
  go_ret
  exact ⟨by rw [HP.out]; rfl, hb9⟩
end Go.Proofs.YtjdkagafdnchhaaGreatDoor

/-
  What the program's Choose returns, over this seat's translation. Conditions stand in each theorem: where the points lie, that they are at most 1000, and that their numbers are within 2^40.
-/
namespace Go.Proofs.YtjdkagafdnchhaaGreatDoor
open Go.RowKit

set_option maxHeartbeats 1000000 in
theorem prTraded (x : Pt) (w : World) :
    Calls Tryz.prog 115 #[.agg #[.int .i64 x.price, .int .i64 x.dem, .int .i64 x.sup]] w fun e w' => e = .returned (.int .i64 (trB x)) ∧ Below w.heap.size w w' := by
  have HT : Hid (trB x = min x.dem x.sup) := rfl
  go_enter Tryz.func115, Tryz.ntmps115
  go_wp2
  go_ret
  exact ⟨by rw [HT.out]; first | rfl | (congr 2; omega), cu_bel1 w _⟩
set_option maxHeartbeats 1000000 in
theorem prSurplus (x : Pt) (hx : x.Small) (w : World) :
    Calls Tryz.prog 122 #[.agg #[.int .i64 x.price, .int .i64 x.dem, .int .i64 x.sup]] w fun e w' => e = .returned (.int .i64 (surB x)) ∧ Below w.heap.size w w' := by
  have HT : Hid (surB x = x.dem - x.sup) := rfl
  obtain ⟨_, ⟨hd1, hd2⟩, ⟨hs1, hs2⟩⟩ := hx
  go_enter Tryz.func122, Tryz.ntmps122
  go_wp2
  go_ret
  exact ⟨by rw [HT.out]; rfl, cu_bel1 w _⟩
set_option maxHeartbeats 1000000 in
theorem prApart (a b : Int) (ha : -1099511627776 ≤ a ∧ a ≤ 1099511627776) (hb : -1099511627776 ≤ b ∧ b ≤ 1099511627776) (w : World) :
    Calls Tryz.prog 118 #[.int .i64 a, .int .i64 b] w fun e w' => e = .returned (.int .i64 (apB a b)) ∧ w' = w := by
  have HT : Hid (apB a b = max a b - min a b) := rfl
  obtain ⟨ha1, ha2⟩ := ha
  obtain ⟨hb1, hb2⟩ := hb
  go_enter Tryz.func118, Tryz.ntmps118
  go_wp2
  go_ret
  exact ⟨by rw [HT.out]; rfl, rfl⟩
theorem fnTraded (l : List Pt) (w : World) : NumFn 115 #[] trB l w :=
  ⟨enters_of Tryz.func115 (by kernel_rfl) rfl, fun W _ x _ => prTraded x W⟩
set_option maxHeartbeats 1000000 in
theorem fnLeft {l : List Pt} (hs : ∀ x ∈ l, x.Small) (w : World) : NumFn 117 #[] lfP l w := by
  refine ⟨enters_of Tryz.func117 (by kernel_rfl) rfl, fun W _ x hx => ?_⟩
  show Calls Tryz.prog 117 #[.agg #[.int .i64 x.price, .int .i64 x.dem, .int .i64 x.sup]] W _
  have HT : Hid (lfP x = apB x.dem x.sup) := rfl
  have HX : Hid x.Small := hs x hx
  clear hs hx
  go_enter Tryz.func117, Tryz.ntmps117
  go_wp2_with fail
  refine (prApart _ _ HX.out.d HX.out.s _).mono ?_
  rintro e w5 ⟨rfl, hw⟩
  subst hw
  go_wp2_with fail
  go_ret
  exact ⟨by rw [HT.out]; rfl, cu_bel1 W _⟩
set_option maxHeartbeats 1000000 in
theorem fnPrice (l : List Pt) (w : World) : NumFn 119 #[] Pt.price l w := by
  refine ⟨enters_of Tryz.func119 (by kernel_rfl) rfl, fun W _ x hx => ?_⟩
  show Calls Tryz.prog 119 #[.agg #[.int .i64 x.price, .int .i64 x.dem, .int .i64 x.sup]] W _
  go_enter Tryz.func119, Tryz.ntmps119
  go_wp2_with fail
  go_ret
  exact ⟨rfl, cu_bel1 W _⟩
set_option maxHeartbeats 1000000 in
theorem fnUp {l : List Pt} (hs : ∀ x ∈ l, x.Small) (w : World) : BoolFn 121 #[] upB l w := by
  refine ⟨enters_of Tryz.func121 (by kernel_rfl) rfl, fun W _ x hx => ?_⟩
  show Calls Tryz.prog 121 #[.agg #[.int .i64 x.price, .int .i64 x.dem, .int .i64 x.sup]] W _
  have HT : Hid (upB x = decide (surB x > 0)) := rfl
  have HX : Hid x.Small := hs x hx
  clear hs hx
  go_enter Tryz.func121, Tryz.ntmps121
  go_wp2_with fail
  refine (prSurplus x HX.out _).mono ?_
  rintro e w5 ⟨rfl, hb⟩
  have HB : Hid (Below W.heap.size W w5) := cu_then (cu_bel1 W _) hb
  clear hb
  go_wp2_with fail
  go_ret
  exact ⟨by rw [HT.out]; rfl, HB.out⟩
set_option maxHeartbeats 1000000 in
theorem fnDown {l : List Pt} (hs : ∀ x ∈ l, x.Small) (w : World) : BoolFn 123 #[] chDownB l w := by
  refine ⟨enters_of Tryz.func123 (by kernel_rfl) rfl, fun W _ x hx => ?_⟩
  show Calls Tryz.prog 123 #[.agg #[.int .i64 x.price, .int .i64 x.dem, .int .i64 x.sup]] W _
  have HT : Hid (chDownB x = decide (surB x < 0)) := rfl
  have HX : Hid x.Small := hs x hx
  clear hs hx
  go_enter Tryz.func123, Tryz.ntmps123
  go_wp2_with fail
  refine (prSurplus x HX.out _).mono ?_
  rintro e w5 ⟨rfl, hb⟩
  have HB : Hid (Below W.heap.size W w5) := cu_then (cu_bel1 W _) hb
  clear hb
  go_wp2_with fail
  go_ret
  exact ⟨by rw [HT.out]; rfl, HB.out⟩
set_option maxHeartbeats 1000000 in
theorem fnNear {l : List Pt} (hs : ∀ x ∈ l, x.Small) {w : World} {ab : Nat} {around : Int} (ha : -1099511627776 ≤ around ∧ around ≤ 1099511627776) (hc : w.cell? ⟨ab, 0, none⟩ = some (.int .i64 around)) : NumFn 124 #[.pointer (some ⟨ab, 0, none⟩)] (nearP around) l w := by
  refine ⟨enters_of Tryz.func124 (by kernel_rfl) rfl, fun W hW x hx => ?_⟩
  show Calls Tryz.prog 124 #[.agg #[.int .i64 x.price, .int .i64 x.dem, .int .i64 x.sup], .pointer (some ⟨ab, 0, none⟩)] W _
  have HT : Hid (nearP around x = apB x.price around) := rfl
  have HX : Hid x.Small := hs x hx
  have c1 := cu_cell (cu_bel1 W (.cells #[.int .i64 x.price, .int .i64 x.dem, .int .i64 x.sup] 189)) (cu_cell hW hc)
  clear hs hx hW hc
  go_enter Tryz.func124, Tryz.ntmps124
  go_wp2_with fail
  refine (prApart _ _ HX.out.p ha _).mono ?_
  rintro e w5 ⟨rfl, hw⟩
  subst hw
  go_wp2_with fail
  go_ret
  exact ⟨by rw [HT.out]; rfl, cu_bel1 W _⟩
end Go.Proofs.YtjdkagafdnchhaaGreatDoor

/-
  What the program's Choose returns, whole, over this seat's translation. Conditions stand in the theorem: where the points lie, that they are at most 1000, and that their numbers are within 2^40.
-/
namespace Go.Proofs.YtjdkagafdnchhaaGreatDoor
open Go.RowKit

theorem apB_in {a b : Int} (ha : -1099511627776 ≤ a ∧ a ≤ 1099511627776) (hb : -1099511627776 ≤ b ∧ b ≤ 1099511627776) : -9000000000000000000 ≤ apB a b ∧ apB a b ≤ 9000000000000000000 := by
  unfold apB; omega
theorem row_ptb {w : World} {base : Nat} {t : TypeId} {v : Value} {l : List Pt} (h : w.ownsRow base t 3 v l.length (ptV l)) {k : Nat} (hk : k < l.length) :
    ∃ g cap, v = .slice (some ⟨g, 0, none⟩) l.length cap ∧ base ≤ g ∧ w.cell? ⟨g, k * 3, none⟩ = some (.int .i64 (ptAt l k).price) ∧ w.cell? ⟨g, k * 3 + 1, none⟩ = some (.int .i64 (ptAt l k).dem) ∧ w.cell? ⟨g, k * 3 + 2, none⟩ = some (.int .i64 (ptAt l k).sup) := by
  obtain ⟨g, cap, rfl, hg, _⟩ := h.form (by omega)
  obtain ⟨h1, h2, h3⟩ := ptV_at hk
  exact ⟨g, cap, rfl, hg, (h.cellAt _ (by omega)).trans h1, (h.cellAt _ (by omega)).trans h2, (h.cellAt _ (by omega)).trans h3⟩
def quoA (q : Quo) : Value := .agg #[.int .i64 q.price, .int .i64 q.qty, .int .i64 q.sur]

set_option maxRecDepth 4000 in
set_option maxHeartbeats 4000000 in
theorem prChoose (a : Option Addr) (cap : Nat) (l : List Pt) (around : Int) (w : World) (h : PtsIn w a l) (hl : l.length ≤ 1000) (hs : ∀ x ∈ l, x.Small) (ha : -1099511627776 ≤ around ∧ around ≤ 1099511627776) :
    Calls Tryz.prog 71 #[.slice a l.length cap, .int .i64 around] w fun e w' => e = .returned (.agg #[.int .i64 (chooseL l around).price, .int .i64 (chooseL l around).qty, .int .i64 (chooseL l around).sur]) ∧ Below w.heap.size w w' := by
  have HA : Hid (PtsIn w a l) := h
  have HS : Hid (∀ x ∈ l, x.Small) := hs
  have HR : Hid (-1099511627776 ≤ around ∧ around ≤ 1099511627776) := ha
  have HC : Hid (chooseL l around = chooseP l around) := (chooseP_is l around).symm
  clear h hs ha
  go_enter Tryz.func71, Tryz.ntmps71
  go_wp2_with fail
  have hq0 : QuoAt ((w.alloc (.cells #[.int .i64 around] 3)).alloc (.cells #[.int .i64 0, .int .i64 0, .int .i64 0] 69)) (w.heap.size + 1) := by
    have := heap_alloc_new (w.alloc (.cells #[.int .i64 around] 3)) (.cells #[.int .i64 0, .int .i64 0, .int .i64 0] 69)
    unfold QuoAt
    simpa using this
  have ha0 : ((w.alloc (.cells #[.int .i64 around] 3)).alloc (.cells #[.int .i64 0, .int .i64 0, .int .i64 0] 69)).cell? ⟨w.heap.size, 0, none⟩ = some (.int .i64 around) := cu_cell (cu_bel1 _ _) (cu_blk (j := 0) (heap_alloc_new w _) rfl)
  have hb0 : Below w.heap.size w ((w.alloc (.cells #[.int .i64 around] 3)).alloc (.cells #[.int .i64 0, .int .i64 0, .int .i64 0] 69)) := cu_then (cu_bel1 w _) (cu_bel1 _ _)
  generalize (w.alloc (.cells #[.int .i64 around] 3)).alloc (.cells #[.int .i64 0, .int .i64 0, .int .i64 0] 69) = W0 at hq0 ha0 hb0 ⊢
  refine (chMost a _ l _ _ trB W0 (HA.out.below hb0) hl (fnTraded l W0)).mono ?_
  rintro e w1 ⟨v1, rfl, hown, hb1⟩
  have HQ1 : Hid (QuoAt w1 (w.heap.size + 1)) := hq0.below hb1
  have HA1 : Hid (w1.cell? ⟨w.heap.size, 0, none⟩ = some (.int .i64 around)) := cu_cell hb1 ha0
  have HB1 : Hid (Below w.heap.size w w1) := cu_then hb0 hb1
  have HC1 : Hid (chooseL l around = if nothP (mostF trB l) = true then ⟨0, 0, 0⟩ else quoP (ptAt (lastP around (leastF lfP (mostF trB l))) 0)) := HC.out
  have HS1 : Hid (∀ x ∈ mostF trB l, x.Small) := fun x hx => HS.out x (mostF_mem hx)
  have hl1 : (mostF trB l).length ≤ 1000 := Nat.le_trans (mostF_len trB l) hl
  have HW1 : Hid (w1.ownsRow w.heap.size 189 3 v1 (mostF trB l).length (ptV (mostF trB l))) := owns_base hown hb0.size
  obtain ⟨ao, c1, rfl, _, _⟩ := bk_shape hown
  clear hq0 ha0 hb0 hown hb1 HS HC HA hl
  generalize mostF trB l = l1 at HC1 HS1 hl1 HW1 ⊢
  by_cases h0 : 0 < l1.length
  · have hlen : ((l1.length : Int) == 0) = false := beq_eq_false_iff_ne.2 (by omega)
    have hlt : (0 : Int) < (l1.length : Int) := by omega
    obtain ⟨g, cap1, hv, d0, d1, d2⟩ := row_pt HW1.out h0
    simp only [Value.slice.injEq, true_and] at hv
    obtain ⟨rfl, rfl⟩ := hv
    have HNO : Hid (nothP l1 = decide (trB (ptAt l1 0) < 1)) := by
      show nothP l1 = _
      unfold nothP; rw [hlen]; rfl
    rw [Nat.zero_mul] at d0
    rw [Nat.zero_mul, Nat.zero_add] at d1 d2
    generalize ptAt l1 0 = x0 at d0 d1 d2 HNO
    go_wp2_with fail
    refine (prTraded x0 _).mono ?_
    rintro e w2 ⟨rfl, hb2⟩
    have HQ2 : Hid (QuoAt w2 (w.heap.size + 1)) := HQ1.out.below hb2
    have HA2 : Hid (w2.cell? ⟨w.heap.size, 0, none⟩ = some (.int .i64 around)) := cu_cell hb2 HA1.out
    have HB2 : Hid (Below w.heap.size w w2) := cu_then HB1.out hb2
    have HW2 : Hid (w2.ownsRow w.heap.size 189 3 (.slice (some ⟨g, 0, none⟩) l1.length c1) l1.length (ptV l1)) := bk_below HW1.out hb2 (Nat.le_refl _)
    clear hb2 HQ1 HA1 HB1 HW1 d0 d1 d2
    by_cases ht : trB x0 < 1
    · have HC2 : Hid (chooseL l around = ⟨0, 0, 0⟩) := by rw [HC1.out, HNO.out, decide_eq_true ht]; rfl
      have q0 := cu_blk (j := 0) HQ2.out rfl
      have q1 := cu_blk (j := 1) HQ2.out rfl
      have q2 := cu_blk (j := 2) HQ2.out rfl
      have f0 := cu_free (j := 0) HQ2.out
      have f1 := cu_free (j := 1) HQ2.out
      have f2 := cu_free (j := 2) HQ2.out
      have hF := cu_set (j := 2) (.int .i64 0) (cu_set (j := 1) (.int .i64 0) (cu_set (j := 0) (.int .i64 0) HQ2.out))
      have HB9 : Hid (Below w.heap.size w (((w2.setCell ⟨w.heap.size + 1, 0, none⟩ (.int .i64 0)).setCell ⟨w.heap.size + 1, 1, none⟩ (.int .i64 0)).setCell ⟨w.heap.size + 1, 2, none⟩ (.int .i64 0))) := ((HB2.out.setCell (Nat.le_succ _) _).setCell (Nat.le_succ _) _).setCell (Nat.le_succ _) _
      go_wp2_with fail
      generalize ((w2.setCell ⟨w.heap.size + 1, 0, none⟩ (.int .i64 0)).setCell ⟨w.heap.size + 1, 1, none⟩ (.int .i64 0)).setCell ⟨w.heap.size + 1, 2, none⟩ (.int .i64 0) = V at hF HB9 ⊢
      have z0 := cu_blk (j := 0) hF rfl
      have z1 := cu_blk (j := 1) hF rfl
      have z2 := cu_blk (j := 2) hF rfl
      refine bodyPost_ret (by simp [results, Tryz.results71, go_sem, z0, z1, z2]; try rfl) rfl ?_
      exact ⟨by rw [HC2.out], HB9.out⟩
    · have HC2 : Hid (chooseL l around = quoP (ptAt (lastP around (leastF lfP l1)) 0)) := by rw [HC1.out, HNO.out, decide_eq_false ht]; rfl
      clear HC1 HNO
      have HLF : Hid (∀ x ∈ l1, -9000000000000000000 ≤ lfP x ∧ lfP x ≤ 9000000000000000000) := fun x hx => apB_in (HS1.out x hx).d (HS1.out x hx).s
      have HP2 : Hid (0 < (leastF lfP l1).length) := mostF_pos _ h0
      have HS2 : Hid (∀ x ∈ leastF lfP l1, x.Small) := fun x hx => HS1.out x (leastF_mem hx)
      have hl2 : (leastF lfP l1).length ≤ 1000 := Nat.le_trans (leastF_len lfP l1) hl1
      obtain ⟨aw, cw, hvw, hpts⟩ := PtsIn.of_row HW2.out
      simp only [Value.slice.injEq, true_and] at hvw
      obtain ⟨rfl, rfl⟩ := hvw
      have HL2 : Hid (∀ ca, Calls Tryz.prog 116 #[.slice (some ⟨g, 0, none⟩) l1.length ca, .func (.func 117) #[] #[]] w2 fun e w' => ∃ v', e = .returned v' ∧ w'.ownsRow w2.heap.size 189 3 v' (leastF lfP l1).length (ptV (leastF lfP l1)) ∧ Below w2.heap.size w2 w') := fun ca => chLeast _ ca l1 _ _ lfP w2 hpts hl1 (fnLeft HS1.out w2) HLF.out
      clear hpts HLF HS1
      go_wp2_with fail
      refine (HL2.out _).mono ?_
      rintro e w3 ⟨v2, rfl, hown2, hb3⟩
      have HQ3 : Hid (QuoAt w3 (w.heap.size + 1)) := HQ2.out.below hb3
      have HA3 : Hid (w3.cell? ⟨w.heap.size, 0, none⟩ = some (.int .i64 around)) := cu_cell hb3 HA2.out
      have HB3 : Hid (Below w.heap.size w w3) := cu_then HB2.out hb3
      obtain ⟨a2, c2, rfl, hpts⟩ := PtsIn.of_row hown2
      have HI : Hid (PtsIn w3 a2 (leastF lfP l1)) := hpts
      clear hown2 hb3 hpts HQ2 HA2 HB2 HW2 HL2 hl1 h0 hlen hlt ht
      generalize leastF lfP l1 = l2 at HP2 HS2 hl2 HI HC2 ⊢
      have HLA : Hid (lastP around l2 = if allP upB l2 = true then mostF Pt.price l2 else if allP chDownB l2 = true then leastF Pt.price l2 else leastF Pt.price (leastF (nearP around) l2)) := rfl
      have HPR : Hid (∀ x ∈ l2, -9000000000000000000 ≤ Pt.price x ∧ Pt.price x ≤ 9000000000000000000) := fun x hx => by have := (HS2.out x hx).p; omega
      have HNR : Hid (∀ x ∈ l2, -9000000000000000000 ≤ nearP around x ∧ nearP around x ≤ 9000000000000000000) := fun x hx => apB_in (HS2.out x hx).p HR.out
      go_upto_block 0 with fail
      go_cut [0] from 21 to 38 (fun v wc => wc.ownsRow w3.heap.size 189 3 v (lastP around l2).length (ptV (lastP around l2)) ∧ Below w3.heap.size w3 wc)
      case first =>
        go_wp2_with fail
        refine (chAll a2 _ l2 _ _ upB w3 HI.out hl2 (fnUp HS2.out w3)).mono ?_
        rintro e w4 ⟨rfl, hb4⟩
        have HB4 : Hid (Below w3.heap.size w3 w4) := hb4
        clear hb4
        cases hup : allP upB l2 with
        | true =>
          have HL : Hid (lastP around l2 = mostF Pt.price l2) := by rw [HLA.out, hup]; rfl
          go_wp2_with fail
          refine (chMost a2 _ l2 _ _ Pt.price w4 (HI.out.below HB4.out) hl2 (fnPrice l2 w4)).mono ?_
          rintro e w5 ⟨v5, rfl, hown5, hb5⟩
          have HO5 : Hid (w5.ownsRow w3.heap.size 189 3 v5 (lastP around l2).length (ptV (lastP around l2))) := by rw [HL.out]; exact owns_base hown5 HB4.out.size
          have HB5 : Hid (Below w3.heap.size w3 w5) := cu_then HB4.out hb5
          clear hown5 hb5
          go_wp2_with fail
          go_meet
          exact ⟨HO5.out, HB5.out⟩
        | false =>
          go_wp2_with fail
          refine (chAll a2 _ l2 _ _ chDownB w4 (HI.out.below HB4.out) hl2 (fnDown HS2.out w4)).mono ?_
          rintro e w5 ⟨rfl, hb5⟩
          have HB5 : Hid (Below w3.heap.size w3 w5) := cu_then HB4.out hb5
          clear hb5
          cases hdn : allP chDownB l2 with
          | true =>
            have HL : Hid (lastP around l2 = leastF Pt.price l2) := by rw [HLA.out, hup, hdn]; rfl
            go_wp2_with fail
            refine (chLeast a2 _ l2 _ _ Pt.price w5 (HI.out.below HB5.out) hl2 (fnPrice l2 w5) HPR.out).mono ?_
            rintro e w6 ⟨v6, rfl, hown6, hb6⟩
            have HO6 : Hid (w6.ownsRow w3.heap.size 189 3 v6 (lastP around l2).length (ptV (lastP around l2))) := by rw [HL.out]; exact owns_base hown6 HB5.out.size
            have HB6 : Hid (Below w3.heap.size w3 w6) := cu_then HB5.out hb6
            clear hown6 hb6
            go_wp2_with fail
            go_meet
            exact ⟨HO6.out, HB6.out⟩
          | false =>
            have HL : Hid (lastP around l2 = leastF Pt.price (leastF (nearP around) l2)) := by rw [HLA.out, hup, hdn]; rfl
            go_wp2_with fail
            refine (chLeast a2 _ l2 _ _ (nearP around) w5 (HI.out.below HB5.out) hl2 (fnNear HS2.out HR.out (cu_cell HB5.out HA3.out)) HNR.out).mono ?_
            rintro e w6 ⟨v6, rfl, hown6, hb6⟩
            have HB6 : Hid (Below w3.heap.size w3 w6) := cu_then HB5.out hb6
            obtain ⟨a6, c6, rfl, hpts⟩ := PtsIn.of_row hown6
            have HI6 : Hid (PtsIn w6 a6 (leastF (nearP around) l2)) := hpts
            have hl6 : (leastF (nearP around) l2).length ≤ 1000 := Nat.le_trans (leastF_len (nearP around) l2) hl2
            have HPR6 : Hid (∀ x ∈ leastF (nearP around) l2, -9000000000000000000 ≤ Pt.price x ∧ Pt.price x ≤ 9000000000000000000) := fun x hx => HPR.out x (leastF_mem hx)
            clear hown6 hb6 hpts
            generalize leastF (nearP around) l2 = l6 at HI6 hl6 HPR6 HL ⊢
            go_wp2_with fail
            refine (chLeast a6 _ l6 _ _ Pt.price w6 HI6.out hl6 (fnPrice l6 w6) HPR6.out).mono ?_
            rintro e w7 ⟨v7, rfl, hown7, hb7⟩
            have HO7 : Hid (w7.ownsRow w3.heap.size 189 3 v7 (lastP around l2).length (ptV (lastP around l2))) := by rw [HL.out]; exact owns_base hown7 HB6.out.size
            have HB7 : Hid (Below w3.heap.size w3 w7) := cu_then HB6.out hb7
            clear hown7 hb7
            go_wp2_with fail
            go_meet
            exact ⟨HO7.out, HB7.out⟩
      case rest =>
        obtain ⟨ho, hbc⟩ := hcut
        have hpos := lastP_pos around HP2.out
        have hsm := HS2.out _ (quo_in (around := around) HP2.out)
        obtain ⟨g3, cap3, rfl, hg3, d0, d1, d2⟩ := row_ptb ho hpos
        have hlt : (0 : Int) < ((lastP around l2).length : Int) := by omega
        have HQd : Hid (QuoAt wc.drew (w.heap.size + 1)) := (HQ3.out.below hbc : QuoAt wc (w.heap.size + 1))
        have hng : ¬ w.heap.size + 1 = g3 := fun e => by have := lt_of_block HQ3.out; omega
        have hng' : ¬ g3 = w.heap.size + 1 := fun e => hng e.symm
        have HBd : Hid (Below w.heap.size w wc.drew) := (cu_then HB3.out hbc).drew
        rw [Nat.zero_mul] at d0
        rw [Nat.zero_mul, Nat.zero_add] at d1 d2
        generalize (lastP around l2).length = n3 at hlt hpos ⊢
        generalize ptAt (lastP around l2) 0 = x at d0 d1 d2 HC2 hsm
        have HX : Hid x.Small := hsm
        have HC3 : Hid ((chooseL l around).price = x.price ∧ (chooseL l around).qty = trB x ∧ (chooseL l around).sur = surB x) := by rw [HC2.out]; exact ⟨rfl, rfl, rfl⟩
        clear ho hbc hsm HLA HPR HNR HI HS2 HP2 HQ3 HA3 HB3 HC2
        go_wp2_with fail
        go_region_held3 (fun w' => w'.cell? ⟨g3, 0, none⟩ = some (.int .i64 x.price) ∧ w'.cell? ⟨g3, 1, none⟩ = some (.int .i64 x.dem) ∧ w'.cell? ⟨g3, 2, none⟩ = some (.int .i64 x.sup))
          (first | go_keep | (go_split_ands; refine ⟨?_, ?_, ?_⟩ <;> (refine cu_cell hbk ?_; assumption)))
          (first | (go_at_call 115; refine (prTraded x _).mono ?_; rintro e w5 ⟨rfl, hbk⟩; have HQ5 : Hid (QuoAt w5 (w.heap.size + 1)) := HQd.out.below hbk; have HB5 : Hid (Below w.heap.size w w5) := cu_then HBd.out hbk) | (go_at_call 122; refine (prSurplus x HX.out _).mono ?_; rintro e w6 ⟨rfl, hbk⟩; have hq6 := HQ5.out.below hbk; have q0 := cu_blk (j := 0) hq6 rfl; have q1 := cu_blk (j := 1) hq6 rfl; have q2 := cu_blk (j := 2) hq6 rfl; have f0 := cu_free (j := 0) hq6; have f1 := cu_free (j := 1) hq6; have f2 := cu_free (j := 2) hq6; have HB6 : Hid (Below w.heap.size w w6) := cu_then HB5.out hbk; have HQ6 : Hid (QuoAt w6 (w.heap.size + 1)) := hq6; clear hq6))
        have hF := cu_set (j := 2) (.int .i64 (surB x)) (cu_set (j := 1) (.int .i64 (trB x)) (cu_set (j := 0) (.int .i64 x.price) HQ6.out))
        have HB9 : Hid (Below w.heap.size w (((w6.setCell ⟨w.heap.size + 1, 0, none⟩ (.int .i64 x.price)).setCell ⟨w.heap.size + 1, 1, none⟩ (.int .i64 (trB x))).setCell ⟨w.heap.size + 1, 2, none⟩ (.int .i64 (surB x)))) := ((HB6.out.setCell (Nat.le_succ _) _).setCell (Nat.le_succ _) _).setCell (Nat.le_succ _) _
        rename_i hHeld9
        clear hHeld9 q0 q1 q2 f0 f1 f2 d0 d1 d2
        generalize ((w6.setCell ⟨w.heap.size + 1, 0, none⟩ (.int .i64 x.price)).setCell ⟨w.heap.size + 1, 1, none⟩ (.int .i64 (trB x))).setCell ⟨w.heap.size + 1, 2, none⟩ (.int .i64 (surB x)) = V at hF HB9 ⊢
        have z0 := cu_blk (j := 0) hF rfl
        have z1 := cu_blk (j := 1) hF rfl
        have z2 := cu_blk (j := 2) hF rfl
        clear hF
        go_wp2_with fail
        refine bodyPost_ret (by simp [results, Tryz.results71, go_sem, z0, z1, z2]; try rfl) rfl ?_
        exact ⟨by rw [HC3.out.1, HC3.out.2.1, HC3.out.2.2], HB9.out⟩
  · have hlen : ((l1.length : Int) == 0) = true := beq_iff_eq.2 (by omega)
    have HC2 : Hid (chooseL l around = ⟨0, 0, 0⟩) := by
      show chooseL l around = _
      rw [HC1.out]
      exact if_pos (by unfold nothP; rw [hlen]; rfl)
    have q0 := cu_blk (j := 0) HQ1.out rfl
    have q1 := cu_blk (j := 1) HQ1.out rfl
    have q2 := cu_blk (j := 2) HQ1.out rfl
    have f0 := cu_free (j := 0) HQ1.out
    have f1 := cu_free (j := 1) HQ1.out
    have f2 := cu_free (j := 2) HQ1.out
    have hF := cu_set (j := 2) (.int .i64 0) (cu_set (j := 1) (.int .i64 0) (cu_set (j := 0) (.int .i64 0) HQ1.out))
    have HB9 : Hid (Below w.heap.size w (((w1.setCell ⟨w.heap.size + 1, 0, none⟩ (.int .i64 0)).setCell ⟨w.heap.size + 1, 1, none⟩ (.int .i64 0)).setCell ⟨w.heap.size + 1, 2, none⟩ (.int .i64 0))) := ((HB1.out.setCell (Nat.le_succ _) _).setCell (Nat.le_succ _) _).setCell (Nat.le_succ _) _
    go_wp2_with fail
    generalize ((w1.setCell ⟨w.heap.size + 1, 0, none⟩ (.int .i64 0)).setCell ⟨w.heap.size + 1, 1, none⟩ (.int .i64 0)).setCell ⟨w.heap.size + 1, 2, none⟩ (.int .i64 0) = V at hF HB9 ⊢
    have z0 := cu_blk (j := 0) hF rfl
    have z1 := cu_blk (j := 1) hF rfl
    have z2 := cu_blk (j := 2) hF rfl
    refine bodyPost_ret (by simp [results, Tryz.results71, go_sem, z0, z1, z2]; try rfl) rfl ?_
    exact ⟨by rw [HC2.out], HB9.out⟩
end Go.Proofs.YtjdkagafdnchhaaGreatDoor

/-
  What the program's lying, Side and Quote (9.1) return, over this seat's translation. Conditions stand in each theorem: where the engine lies.
-/
namespace Go.Proofs.YtjdkagafdnchhaaGreatDoor
open Go.RowKit

theorem egSide (eb s : Nat) (k : EgK) (M : Mkt) (w : World) (h : Eg w eb k M) (hs : s < 2) (side : Int) (hsd : side = (s : Int) + 1) :
    Calls Tryz.prog 22 #[.pointer (some ⟨eb, 0, none⟩), .int .i64 side] w fun e w' => ∃ v, e = .returned (.tuple #[v, .nilIface]) ∧ w'.ownsRow w.heap.size 41 5 v (sideO side M.L).length (oV (sideO side M.L)) ∧ Below w.heap.size w w' := by
  have c2 : w.cell? ⟨eb, 2, none⟩ = some (.pointer (some ⟨k.bb, 0, none⟩)) := blk_cell (j := 2) h.box rfl
  have HE : Hid ((k.b.S s).map Ly.o = sideO side M.L) := by show _ = _; rw [hsd]; exact h.lnk.side s hs
  have HSD : Hid (side = (s : Int) + 1) := hsd
  have HB : Hid _ := h.bk
  clear h hsd
  go_enter Tryz.func22, Tryz.ntmps22
  go_wp2_with fail
  refine (pbSideOf k.bb k.m s k.b w HB.out hs side HSD.out).mono ?_
  rintro e w1 ⟨v, rfl, h1, h2⟩
  rw [HE.out, show (k.b.S s).length = (sideO side M.L).length by rw [← HE.out, List.length_map]] at h1
  have H1 : Hid _ := h1
  have H2 : Hid _ := h2
  clear h1 h2
  go_wp2_with fail
  go_ret2
  exact ⟨v, rfl, H1.out, H2.out⟩
def bothO (L : List Ord) : List Ord := sideO 1 L ++ sideO 2 L
theorem bothO_len {L : List Ord} (h : LOk L) : (bothO L).length = L.length := (sides_perm h).length_eq
theorem Tryz.infoOrdE : (Tryz.prog.info? 41).map (fun i => (i.zero, i.size, i.bytes)) = some (some (.agg #[.int .i64 0, .int .i64 0, .int .i64 0, .int .i64 0, .int .i64 0]), 5, 40) := by kernel_rfl
set_option maxRecDepth 4000 in
set_option maxHeartbeats 2000000 in
theorem egLying (eb : Nat) (k : EgK) (M : Mkt) (w : World) (h : Eg w eb k M) :
    Calls Tryz.prog 73 #[.pointer (some ⟨eb, 0, none⟩)] w fun e w' => ∃ v, e = .returned v ∧ w'.ownsRow w.heap.size 41 5 v (bothO M.L).length (oV (bothO M.L)) ∧ Below w.heap.size w w' := by
  obtain ⟨i0, hi0, hz0, hz1, hz2⟩ := info_parts Tryz.infoOrdE
  have hl : (sideO 1 M.L).length + (sideO 2 M.L).length ≤ 100 := by
    have h1 := bothO_len h.lok
    have h2 := h.few100
    unfold bothO at h1
    rw [List.length_append] at h1
    omega
  have c2 : w.cell? ⟨eb, 2, none⟩ = some (.pointer (some ⟨k.bb, 0, none⟩)) := blk_cell (j := 2) h.box rfl
  have HE1 : Hid ((k.b.S 0).map Ly.o = sideO 1 M.L) := h.lnk.side 0 (by decide)
  have HE2 : Hid ((k.b.S 1).map Ly.o = sideO 2 M.L) := h.lnk.side 1 (by decide)
  have H : Hid (Eg w eb k M) := h
  clear h
  go_enter Tryz.func73, Tryz.ntmps73
  go_wp2_with fail
  refine (pbSideOf k.bb k.m 0 k.b w H.out.bk (by decide) 1 rfl).mono ?_
  rintro e w1 ⟨v1, rfl, h1, hb1⟩
  rw [HE1.out, show (k.b.S 0).length = (sideO 1 M.L).length by rw [← HE1.out, List.length_map]] at h1
  have c2' : w1.cell? ⟨eb, 2, none⟩ = some (.pointer (some ⟨k.bb, 0, none⟩)) := blk_cell (j := 2) (H.out.below hb1).box rfl
  have H1 : Hid _ := h1
  have HB1 : Hid (Below w.heap.size w w1) := hb1
  clear h1 hb1 c2
  go_wp2_with fail
  refine (pbSideOf k.bb k.m 1 k.b w1 (H.out.below HB1.out).bk (by decide) 2 rfl).mono ?_
  rintro e w2 ⟨v2, rfl, h2, hb2⟩
  rw [HE2.out, show (k.b.S 1).length = (sideO 2 M.L).length by rw [← HE2.out, List.length_map]] at h2
  have hr1 : w2.ownsRow w.heap.size 41 5 v1 (sideO 1 M.L).length (oV (sideO 1 M.L)) := owns_below H1.out hb2 (Nat.le_refl _)
  obtain ⟨a2, n2, rfl, _, _⟩ := owns_shape h2
  have HL2 : Hid (LiesE w2 a2 (sideO 2 M.L).length (oV (sideO 2 M.L))) := LiesE.of_row h2 (Below.refl _ _)
  have HR1 : Hid (w2.ownsRow w.heap.size 41 5 v1 (sideO 1 M.L).length (oV (sideO 1 M.L))) := hr1
  have HB2 : Hid (Below w.heap.size w w2) := bel_then HB1.out hb2
  have hws : w.heap.size ≤ w2.heap.size := HB2.out.size
  have q63 : (sideO 1 M.L).length + (sideO 2 M.L).length ≤ maxLen := by unfold maxLen; omega
  clear h2 hb2 hr1 c2'
  go_wp2_with (at_builtin; refine wpList_append_any _ rfl _ _ 59 rfl w.heap.size 41 i0 _ 5 40 Tryz.underlying59 hi0 hz0 hz1 hz2 (by rfl) (by omega) v1 (sideO 1 M.L).length (oV (sideO 1 M.L)) (by rfl) HR1.out a2 (sideO 2 M.L).length n2 (oV (sideO 2 M.L)) (by rfl) (oV_length _) HL2.out (oV_one _) q63 (by omega) hws ?_; intro v3 w3 h3 hg3 hk3; have H3 : Hid _ := h3; have HO3 : Hid (Out (fun j => v1.ownBlock = some j) w2 w3) := Out.of_grown hg3 (fun _ e => e); clear h3 hg3 hk3)
  go_ret
  have hbb : Below w.heap.size w w3 := by
    have ho : Out (fun j => v1.ownBlock = some j) w w3 := (Out.of_below HB2.out (Nat.le_refl _)).trans HO3.out (Went.refl _ _)
    exact ⟨ho.os, ho.tape, ho.output, ho.size, fun j hj => by
      by_cases hlt : j < w.heap.size
      · exact ho.block j hlt (fun e => by have := (HR1.out.lt j e).1; omega)
      · omega⟩
  refine ⟨v3, rfl, ?_, hbb⟩
  have := H3.out
  unfold bothO
  rw [List.length_append, oV_append]
  exact this
/-- a quote as a value -/
def qAggE (q : Quo) : Value := .agg #[.int .i64 q.price, .int .i64 q.qty, .int .i64 q.sur]
set_option maxRecDepth 4000 in
set_option maxHeartbeats 4000000 in
theorem egQuote (eb : Nat) (k : EgK) (M : Mkt) (w : World) (h : Eg w eb k M) (hla : 1 ≤ M.la ∧ M.la ≤ 1000000) :
    Calls Tryz.prog 25 #[.pointer (some ⟨eb, 0, none⟩)] w fun e w' => e = .returned (qAggE (quoteM M)) ∧ Below w.heap.size w w' := by
  have hok := h.lok
  have hL := h.few100
  have hbl : (bothO M.L).length ≤ 100 := by rw [bothO_len hok]; exact hL
  have HP : Hid (curveL (bothO M.L) M.la = curveL M.L M.la) := curve_perm (sides_perm hok) M.la
  have HWF : Hid (∀ o ∈ bothO M.L, wf64 o.price) := fun o ho => by have := hok.ok o ((sides_perm hok).mem_iff.1 ho); exact WalkArith.wf_i64 (by omega)
  have hsm : ∀ x ∈ curveL M.L M.la, x.Small := curve_small (by omega) (fun o ho => by have := hok.ok o ho; omega) (by omega)
  have HSM : Hid (∀ x ∈ curveL M.L M.la, x.Small) := hsm
  have hcl : (curveL M.L M.la).length ≤ 1000 := by have := curve_len M.L M.la; omega
  have H : Hid (Eg w eb k M) := h
  have hb0 := bel1 w (.cells #[.int .i64 0, .int .i64 0, .int .i64 0] 69)
  have hq0 := heap_alloc_new w (.cells #[.int .i64 0, .int .i64 0, .int .i64 0] 69)
  clear h hok hsm
  cases ha : auctB M.ph with
  | false =>
    have HQ : Hid (quoteM M = ⟨0, 0, 0⟩) := by show _ = _; unfold quoteM; rw [ha]; rfl
    have HA : Hid (auctB M.ph = false) := ha
    clear ha
    go_enter Tryz.func25, Tryz.ntmps25
    go_upto_region 1 with fail
    generalize w.alloc (.cells #[.int .i64 0, .int .i64 0, .int .i64 0] 69) = w1 at hb0 hq0 ⊢
    have c5 : w1.cell? ⟨eb, 5, none⟩ = some (.int .i64 M.ph) := blk_cell (j := 5) (H.out.below hb0).box rfl
    have z0 := blk_cell (j := 0) hq0 rfl
    have z1 := blk_cell (j := 1) hq0 rfl
    have z2 := blk_cell (j := 2) hq0 rfl
    have y0 := blk_free (j := 0) hq0
    have y1 := blk_free (j := 1) hq0
    have y2 := blk_free (j := 2) hq0
    have HB0 : Hid (Below w.heap.size w w1) := hb0
    have HQ0 : Hid _ := hq0
    clear hb0 hq0
    go_wp2_with fail
    refine (tkAuct M.ph w1).mono ?_
    rintro e w1' ⟨rfl, hw⟩
    subst hw
    rw [HA.out]
    go_wp2_with fail
    have HW := blk_set (j := 2) (.int .i64 0) (blk_set (j := 1) (.int .i64 0) (blk_set (j := 0) (.int .i64 0) HQ0.out))
    have HB7 : Hid (Below w.heap.size w (((w1'.setCell ⟨w.heap.size, 0, none⟩ (.int .i64 0)).setCell ⟨w.heap.size, 1, none⟩ (.int .i64 0)).setCell ⟨w.heap.size, 2, none⟩ (.int .i64 0))) := ((HB0.out.setCell (p := ⟨w.heap.size, 0, none⟩) (Nat.le_refl _) _).setCell (p := ⟨w.heap.size, 1, none⟩) (Nat.le_refl _) _).setCell (p := ⟨w.heap.size, 2, none⟩) (Nat.le_refl _) _
    clear z0 z1 z2 y0 y1 y2 c5
    generalize ((w1'.setCell ⟨w.heap.size, 0, none⟩ (.int .i64 0)).setCell ⟨w.heap.size, 1, none⟩ (.int .i64 0)).setCell ⟨w.heap.size, 2, none⟩ (.int .i64 0) = w7 at HW HB7 ⊢
    have q0 : w7.cell? ⟨w.heap.size, 0, none⟩ = some (.int .i64 0) := blk_cell (j := 0) HW rfl
    have q1 : w7.cell? ⟨w.heap.size, 1, none⟩ = some (.int .i64 0) := blk_cell (j := 1) HW rfl
    have q2 : w7.cell? ⟨w.heap.size, 2, none⟩ = some (.int .i64 0) := blk_cell (j := 2) HW rfl
    refine bodyPost_ret (by simp [results, Tryz.results25, go_sem, q0, q1, q2]; try rfl) rfl ?_
    exact ⟨by rw [HQ.out]; rfl, HB7.out⟩
  | true =>
    have HQ : Hid (quoteM M = chooseL (curveL M.L M.la) M.la) := by show _ = _; unfold quoteM; rw [ha]; rfl
    have HA : Hid (auctB M.ph = true) := ha
    clear ha
    go_enter Tryz.func25, Tryz.ntmps25
    go_upto_region 1 with fail
    generalize w.alloc (.cells #[.int .i64 0, .int .i64 0, .int .i64 0] 69) = w1 at hb0 hq0 ⊢
    have h1 := H.out.below hb0
    have c5 : w1.cell? ⟨eb, 5, none⟩ = some (.int .i64 M.ph) := blk_cell (j := 5) h1.box rfl
    have c1 : w1.cell? ⟨eb, 1, none⟩ = some (.pointer (some ⟨k.nb, 0, none⟩)) := blk_cell (j := 1) h1.box rfl
    have H1 : Hid (Eg w1 eb k M) := h1
    have HB0 : Hid (Below w.heap.size w w1) := hb0
    have HQ0 : Hid _ := hq0
    clear hb0 hq0 h1
    go_wp2_with fail
    refine (tkAuct M.ph w1).mono ?_
    rintro e w1' ⟨rfl, hw⟩
    subst hw
    rw [HA.out]
    go_wp2_with fail
    refine (bnLast k.nb M.st M.dy M.an M.la w1' H1.out.bn).mono ?_
    rintro e w2 ⟨rfl, hb2⟩
    have H2 : Hid (Eg w2 eb k M) := H1.out.below hb2
    have HQ2 : Hid _ := blk_below HQ0.out hb2 (Nat.le_refl _)
    have HB2 : Hid (Below w.heap.size w w2) := bel_then HB0.out hb2
    clear hb2 c5 c1
    go_wp2_with fail
    refine (egLying eb k M w2 H2.out).mono ?_
    rintro e w3 ⟨v3, rfl, hr3, hb3⟩
    obtain ⟨a3, n3, rfl, hin3⟩ := OrdsIn.of_row hr3
    have HI3 : Hid _ := hin3
    have HQ3 : Hid _ := blk_below HQ2.out hb3 (Nat.le_refl _)
    have HB3 : Hid (Below w.heap.size w w3) := bel_then HB2.out hb3
    clear hb3 hr3 hin3
    go_wp2_with fail
    refine (cuOfP a3 n3 (bothO M.L) M.la w3 HI3.out (by omega) HWF.out (WalkArith.wf_i64 (by omega))).mono ?_
    rintro e w4 ⟨v4, rfl, hr4, hb4⟩
    rw [HP.out] at hr4
    obtain ⟨a4, n4, rfl, hin4⟩ := PtsIn.of_row hr4
    have HI4 : Hid _ := hin4
    have HQ4 : Hid _ := blk_below HQ3.out hb4 (Nat.le_refl _)
    have HB4 : Hid (Below w.heap.size w w4) := bel_then HB3.out hb4
    clear hb4 hr4 hin4
    go_wp2_with fail
    refine (prChoose a4 n4 (curveL M.L M.la) M.la w4 HI4.out hcl HSM.out (by omega)).mono ?_
    rintro e w6 ⟨rfl, hb6⟩
    have hq6 := blk_below HQ4.out hb6 (Nat.le_refl _)
    have HB6 : Hid (Below w.heap.size w w6) := bel_then HB4.out hb6
    have z0 := blk_cell (j := 0) hq6 rfl
    have z1 := blk_cell (j := 1) hq6 rfl
    have z2 := blk_cell (j := 2) hq6 rfl
    have y0 := blk_free (j := 0) hq6
    have y1 := blk_free (j := 1) hq6
    have y2 := blk_free (j := 2) hq6
    have HQ6 : Hid _ := hq6
    clear hq6 hb6
    go_wp2_with fail
    have HW7 := blk_set (j := 2) (.int .i64 (chooseL (curveL M.L M.la) M.la).sur) (blk_set (j := 1) (.int .i64 (chooseL (curveL M.L M.la) M.la).qty) (blk_set (j := 0) (.int .i64 (chooseL (curveL M.L M.la) M.la).price) HQ6.out))
    have HB7 : Hid (Below w.heap.size w (((w6.setCell ⟨w.heap.size, 0, none⟩ (.int .i64 (chooseL (curveL M.L M.la) M.la).price)).setCell ⟨w.heap.size, 1, none⟩ (.int .i64 (chooseL (curveL M.L M.la) M.la).qty)).setCell ⟨w.heap.size, 2, none⟩ (.int .i64 (chooseL (curveL M.L M.la) M.la).sur))) := ((HB6.out.setCell (p := ⟨w.heap.size, 0, none⟩) (Nat.le_refl _) _).setCell (p := ⟨w.heap.size, 1, none⟩) (Nat.le_refl _) _).setCell (p := ⟨w.heap.size, 2, none⟩) (Nat.le_refl _) _
    clear z0 z1 z2 y0 y1 y2
    generalize (((w6.setCell ⟨w.heap.size, 0, none⟩ (.int .i64 (chooseL (curveL M.L M.la) M.la).price)).setCell ⟨w.heap.size, 1, none⟩ (.int .i64 (chooseL (curveL M.L M.la) M.la).qty)).setCell ⟨w.heap.size, 2, none⟩ (.int .i64 (chooseL (curveL M.L M.la) M.la).sur)) = w7 at HW7 HB7 ⊢
    have q0 : w7.cell? ⟨w.heap.size, 0, none⟩ = some (.int .i64 (chooseL (curveL M.L M.la) M.la).price) := blk_cell (j := 0) HW7 rfl
    have q1 : w7.cell? ⟨w.heap.size, 1, none⟩ = some (.int .i64 (chooseL (curveL M.L M.la) M.la).qty) := blk_cell (j := 1) HW7 rfl
    have q2 : w7.cell? ⟨w.heap.size, 2, none⟩ = some (.int .i64 (chooseL (curveL M.L M.la) M.la).sur) := blk_cell (j := 2) HW7 rfl
    go_wp2_with fail
    refine bodyPost_ret (by simp [results, Tryz.results25, go_sem, q0, q1, q2]; try rfl) rfl ?_
    exact ⟨by rw [HQ.out]; rfl, HB7.out⟩
end Go.Proofs.YtjdkagafdnchhaaGreatDoor

/-
  What the program's lay and close (9.2, 9.3) do, over this seat's translation. Conditions stand in each theorem: where the engine lies, and where the orders lie that are to be laid.
-/
namespace Go.Proofs.YtjdkagafdnchhaaGreatDoor
open Go.RowKit

def layL (l : List Ord) (L : List Ord) : List Ord := l.foldl (fun L o => addL o L) L
theorem layL_take {l : List Ord} {i : Nat} (L : List Ord) (h : i < l.length) : layL (l.take (i + 1)) L = addL (oAt l i) (layL (l.take i) L) := by
  unfold layL
  rw [List.take_succ_eq_append_getElem h, List.foldl_append, ← oAt_eq h]
  rfl
theorem OrdsIn.out {S : Nat → Prop} {w w' : World} {a : Option Addr} {l : List Ord} (h : OrdsIn w a l) (ho : Out S w w') (hS : ∀ b off, a = some ⟨b, off, none⟩ → ¬ S b) : OrdsIn w' a l := fun k hk => by
  obtain ⟨b, off, e, h0, h1, h2, h3, h4⟩ := h k hk
  have hn := hS b off e
  exact ⟨b, off, e, cell_outE h0 ho hn, cell_outE h1 ho hn, cell_outE h2 ho hn, cell_outE h3 ho hn, cell_outE h4 ho hn⟩
theorem goes_then {w w1 w2 : World} {bb m m1 : Nat} {b b1 b2 : BkS} (h : Goes w w1 bb m b b1) (h1 : Goes w1 w2 bb m1 b1 b2) : Goes w w2 bb m1 b b2 := ⟨h1.1, h.2.1.trans h1.2.1 h.2.2, h.2.2.trans h1.2.2 h.2.1.size⟩
theorem goes_bel {w w1 w2 : World} {bb m : Nat} {b b1 : BkS} (h : Goes w w1 bb m b b1) (h1 : Below w1.heap.size w1 w2) : Goes w w2 bb m b b1 := goes_then h ⟨h.1.below h1 (Nat.le_refl _), Out.of_below h1 (Nat.le_refl _), Went.refl _ _⟩
theorem goes_from {w w1 w2 : World} {bb m m1 : Nat} {b b1 : BkS} (h : Bk w bb m b) (hb : Below w.heap.size w w1) (h1 : Goes w1 w2 bb m1 b b1) : Goes w w2 bb m1 b b1 := goes_then ⟨h.below hb (Nat.le_refl _), Out.of_below hb (Nat.le_refl _), Went.refl _ _⟩ h1

set_option maxRecDepth 4000 in
set_option maxHeartbeats 2000000 in
theorem egLay (eb : Nat) (k : EgK) (M : Mkt) (a : Option Addr) (cap : Nat) (l : List Ord) (w : World) (h : Eg w eb k M) (hin : OrdsIn w a l) (hw : ∀ o ∈ l, (Lit.int .i64 o.id).wf = true) (hf : ∀ b off, a = some ⟨b, off, none⟩ → ¬ k.b.foot k.bb b) (hm : k.m + l.length ≤ 900000) :
    Calls Tryz.prog 50 #[.pointer (some ⟨eb, 0, none⟩), .slice a l.length cap] w fun e w' => e = .returned (.tuple #[]) ∧ ∃ b', Lnk b'.S (layL l M.L) ∧ Goes w w' k.bb (k.m + l.length) k.b b' := by
  have H : Hid (Eg w eb k M) := h
  have HIN : Hid (OrdsIn w a l) := hin
  have HW : Hid (∀ o ∈ l, (Lit.int .i64 o.id).wf = true) := hw
  have HF : Hid (∀ b off, a = some ⟨b, off, none⟩ → ¬ k.b.foot k.bb b) := hf
  clear h hin hw hf
  go_enter Tryz.func50, Tryz.ntmps50
  go_wp2_with fail
  go_loopw [8] (fun u wr => ∃ (i : Nat) (b1 : BkS), u = .int .i64 i ∧ i ≤ l.length ∧ Lnk b1.S (layL (l.take i) M.L) ∧ Goes w wr k.bb (k.m + i) k.b b1) (fun u _ => l.length - (intOf u).toNat)
  case atStart => exact ⟨0, k.b, rfl, Nat.zero_le _, H.out.lnk, H.out.bk, Out.refl _ _, Went.refl _ _⟩
  case round =>
    obtain ⟨i, b1, rfl, hi, hln, hg⟩ := hrel
    have HLN : Hid (Lnk b1.S (layL (l.take i) M.L)) := hln
    have HG : Hid (Goes w wr k.bb (k.m + i) k.b b1) := hg
    by_cases hi1 : i < l.length
    · have hlt : (i : Int) < (l.length : Int) := by omega
      obtain ⟨g, off, e1, d0, d1, d2, d3, d4⟩ := (HIN.out.out hg.2.1 HF.out) i hi1
      subst e1
      have HWI : Hid ((Lit.int .i64 (oAt l i).id).wf = true) := HW.out _ (by rw [oAt_eq hi1]; exact List.getElem_mem hi1)
      have HS : Hid (layL (l.take (i + 1)) M.L = addL (oAt l i) (layL (l.take i) M.L)) := layL_take M.L hi1
      have HE : Hid (Eg wr eb { k with m := k.m + i, b := b1 } { M with L := layL (l.take i) M.L }) := (H.out.ofBook hg hln (Nat.le_add_right _ _)).1
      generalize oAt l i = o at d0 d1 d2 d3 d4 HWI HS
      clear hg hln
      go_upto_region 3 with fail
      have hx := heap_alloc_new wr (.cells #[.int .i64 o.id, .int .i64 o.side, .int .i64 o.kind, .int .i64 o.price, .int .i64 o.qty] 41)
      have HB1 := bel1 wr (.cells #[.int .i64 o.id, .int .i64 o.side, .int .i64 o.kind, .int .i64 o.price, .int .i64 o.qty] 41)
      generalize wr.alloc (.cells #[.int .i64 o.id, .int .i64 o.side, .int .i64 o.kind, .int .i64 o.price, .int .i64 o.qty] 41) = w1 at hx HB1 ⊢
      have h1 := HE.out.below HB1
      have HG1 : Hid (Goes w w1 k.bb (k.m + i) k.b b1) := goes_bel HG.out HB1
      have hne : ¬ b1.foot k.bb wr.heap.size := h1.bk.farBox hx (by decide) (by decide) (by decide) (by decide) (by decide)
      have HSS : Hid (∀ w', Out (b1.foot k.bb) w1 w' → w'.cell? ⟨eb, 2, none⟩ = some (.pointer (some ⟨k.bb, 0, none⟩)) ∧ w'.cell? ⟨wr.heap.size, 0, none⟩ = some (.int .i64 o.id) ∧ w'.cell? ⟨wr.heap.size, 1, none⟩ = some (.int .i64 o.side) ∧ w'.cell? ⟨wr.heap.size, 2, none⟩ = some (.int .i64 o.kind) ∧ w'.cell? ⟨wr.heap.size, 3, none⟩ = some (.int .i64 o.price) ∧ w'.cell? ⟨wr.heap.size, 4, none⟩ = some (.int .i64 o.qty) ∧ Out (b1.foot k.bb) w1 w') := fun w' ho => by
        have hx' := blk_out hx ho hne
        exact ⟨blk_cell (j := 2) (blk_out h1.box ho h1.ebbk) rfl, blk_cell (j := 0) hx' rfl, blk_cell (j := 1) hx' rfl, blk_cell (j := 2) hx' rfl, blk_cell (j := 3) hx' rfl, blk_cell (j := 4) hx' rfl, ho⟩
      have HBK : Hid (Bk w1 k.bb (k.m + i) b1) := h1.bk
      clear hx HB1 d0 d1 d2 d3 d4 hne h1 HE HG
      have hm1 : k.m + i + 1 ≤ 900000 := by omega
      go_region_held3 (fun w' => w'.cell? ⟨eb, 2, none⟩ = some (.pointer (some ⟨k.bb, 0, none⟩)) ∧ w'.cell? ⟨wr.heap.size, 0, none⟩ = some (.int .i64 o.id) ∧ w'.cell? ⟨wr.heap.size, 1, none⟩ = some (.int .i64 o.side) ∧ w'.cell? ⟨wr.heap.size, 2, none⟩ = some (.int .i64 o.kind) ∧ w'.cell? ⟨wr.heap.size, 3, none⟩ = some (.int .i64 o.price) ∧ w'.cell? ⟨wr.heap.size, 4, none⟩ = some (.int .i64 o.qty) ∧ Out (b1.foot k.bb) w1 w')
        ((refine HSS.out _ ?_; (first | exact HO2.out | exact Out.refl _ _ | exact out_drew (Out.refl _ _))))
        ((go_at_call 98; refine (prog_add (HBK.out.below (Below.refl _ _).drew (Nat.le_refl _)) hm1 HLN.out o HWI.out).mono ?_; rintro e w2 ⟨err, rfl, _, b2, hl2, hg2⟩; have HL2 : Hid _ := hl2; have HG2 : Hid (Goes w1 w2 k.bb (k.m + i + 1) b1 b2) := goes_from HBK.out (Below.refl _ _).drew hg2; have HO2 : Hid (Out (b1.foot k.bb) w1 w2) := HG2.out.2.1; clear hl2 hg2))
      go_wp2_with fail
      go_roundw
      case rel => exact ⟨i + 1, b2, by go_num, hi1, by rw [HS.out]; exact HL2.out, goes_then HG1.out HG2.out⟩
      case measure => first | (simp [RowKit.intOf]; omega) | (show l.length - (i + 1) < l.length - i; omega) | omega
    · obtain rfl : i = l.length := by omega
      rw [List.take_length] at HLN
      clear hg hln
      go_wp2_with fail
      refine bodyPost_end (results_none rfl _ _ _) rfl ?_
      exact ⟨rfl, b1, HLN.out, HG.out⟩
end Go.Proofs.YtjdkagafdnchhaaGreatDoor

/-
  What the program's uncross (9.3) does, over this seat's translation. Conditions stand in each theorem: where the engine lies, that its phase is an auction.
-/
namespace Go.Proofs.YtjdkagafdnchhaaGreatDoor
open Go.RowKit

/-- orders of a list taken out, one after the other, unless they are limits -/
def goL (X : List Ord) (L : List Ord) : List Ord := X.foldl (fun L o => if o.kind = 1 then L else canL o.id L) L
theorem goL_take {l : List Ord} {i : Nat} (L : List Ord) (h : i < l.length) : goL (l.take (i + 1)) L = if (oAt l i).kind = 1 then goL (l.take i) L else canL (oAt l i).id (goL (l.take i) L) := by
  unfold goL
  rw [List.take_succ_eq_append_getElem h, List.foldl_append, ← oAt_eq h]
  rfl
theorem canL_filter {L : List Ord} (hn : (L.map Ord.id).Nodup) (id : Int) : canL id L = L.filter fun o => decide (o.id ≠ id) := by
  unfold canL
  rcases idxF_in id L 0 with h | ⟨j, hj, h1, h2⟩
  · have h3 : idxO id L = -1 := h
    rw [if_pos h3]
    refine (List.filter_eq_self.2 (fun o ho => ?_)).symm
    rw [decide_eq_true_eq]
    intro e
    have := idxF_some id L 0 ⟨o, ho, e⟩
    have e2 : idxF id 0 L = -1 := h
    omega
  · have h3 : idxO id L = (j : Int) := by
      have : idxO id L = ((0 + j : Nat) : Int) := h1
      rw [this]; congr 1; omega
    rw [if_neg (by omega), show (idxO id L).toNat = j by omega, ← h2]
    exact goneL_filter hn hj
theorem goL_filter : ∀ (X : List Ord) {L : List Ord}, (L.map Ord.id).Nodup → goL X L = L.filter fun o => !(X.any fun x => decide (x.kind ≠ 1) && decide (x.id = o.id))
  | [], L, _ => by
    show L = _
    exact (List.filter_eq_self.2 (fun o _ => rfl)).symm
  | x :: X, L, hn => by
    show goL X (if x.kind = 1 then L else canL x.id L) = _
    by_cases hk : x.kind = 1
    · rw [if_pos hk, goL_filter X hn]
      refine List.filter_congr (fun o _ => ?_)
      rw [List.any_cons, decide_eq_false (p := x.kind ≠ 1) (fun e => e hk)]
      rfl
    · have hn' : ((L.filter fun o => decide (o.id ≠ x.id)).map Ord.id).Nodup := hn.sublist (List.filter_sublist.map _)
      rw [if_neg hk, canL_filter hn, goL_filter X hn', List.filter_filter]
      refine List.filter_congr (fun o _ => ?_)
      rw [List.any_cons, decide_eq_true (p := x.kind ≠ 1) hk]
      by_cases e : o.id = x.id
      · simp [e]
      · have e' : ¬ x.id = o.id := fun h => e h.symm
        simp [e, e']
theorem goL_lim {L : List Ord} (h : LOk L) : goL (bothO L) L = limL L := by
  rw [goL_filter _ h.ids]
  unfold limL
  refine List.filter_congr (fun o ho => ?_)
  have hmem : ∀ x, x ∈ bothO L ↔ x ∈ L := fun x => (sides_perm h).mem_iff
  by_cases hk : o.kind = 1
  · rw [show (o.kind == 1) = true by simpa using hk]
    have : ((bothO L).any fun x => decide (x.kind ≠ 1) && decide (x.id = o.id)) = false := by
      rw [List.any_eq_false]
      intro x hx
      have hxo : x.id = o.id → x = o := fun e => id_inj h.ids ((hmem x).1 hx) ho e
      simp only [Bool.and_eq_true, decide_eq_true_eq, not_and]
      intro h1 h2
      exact h1 (by rw [hxo h2]; exact hk)
    rw [this]; rfl
  · rw [show (o.kind == 1) = false by simpa using hk]
    have : ((bothO L).any fun x => decide (x.kind ≠ 1) && decide (x.id = o.id)) = true := by
      rw [List.any_eq_true]
      exact ⟨o, (hmem o).2 ho, by simp [hk]⟩
    rw [this]; rfl
end Go.Proofs.YtjdkagafdnchhaaGreatDoor

/-
  What the program's ask and tell (8.2) return of a function value that returns: the deferred function finds nothing to recover. Conditions stand in each theorem.
-/
namespace Go.Proofs.YtjdkagafdnchhaaGreatDoor
open Go.RowKit

theorem askD_idleE (w : World) : CallsD Tryz.prog 184 #[] .returning w fun e u' w' => e = .returned (.tuple #[]) ∧ u' = .returning ∧ w' = w := by
  refine callsD_of_wpS Tryz.func184 rfl fun c₀ cs hu => ?_
  apply wpS_region
  simp [wpOpsS, go_sem, recoverD, hu, Tryz.ntmps184, bodyPostS, results, Tryz.results184]
  cases c₀
  simp_all
theorem tellD_idleE (w : World) : CallsD Tryz.prog 186 #[] .returning w fun e u' w' => e = .returned (.tuple #[]) ∧ u' = .returning ∧ w' = w := by
  refine callsD_of_wpS Tryz.func186 rfl fun c₀ cs hu => ?_
  apply wpS_region
  simp [wpOpsS, go_sem, recoverD, hu, Tryz.ntmps186, bodyPostS, results, Tryz.results186]
  cases c₀
  simp_all

set_option maxHeartbeats 1000000 in
theorem cpAskE (g : Nat) (fa la : Array Value) (p : Int) (v : Bool) (W : World) (hen : ∀ args w, (callFunc g args).run Tryz.prog w = .ok (.enter g args) w) (Q : World → Prop)
    (hc : Calls Tryz.prog g (fa ++ #[.int .i64 p] ++ la) W fun e W' => e = .returned (.bool v) ∧ Q W') :
    Calls Tryz.prog 143 #[.func (.func g) fa la, .int .i64 p] W fun e W' => e = .returned (.bool v) ∧ Q W' := by
  go_enter_defers Tryz.func143, Tryz.ntmps143
  go_wp2_with fail
  refine hc.mono ?_
  rintro e w1 ⟨rfl, hq⟩
  have HQ : Hid (Q w1) := hq
  clear hq
  go_wp2_with fail
  refine leaves_cons (f := 184) (args := #[]) (by simp) (by simp [go_sem]) ?_
  refine (askD_idleE _).mono ?_
  rintro e u' w'' ⟨rfl, rfl, rfl⟩
  exact ⟨_, results_tmp rfl _ _ _, rfl, HQ.out⟩

set_option maxHeartbeats 1000000 in
theorem cpTellE (g : Nat) (fa la : Array Value) (p : Int) (W : World) (hen : ∀ args w, (callFunc g args).run Tryz.prog w = .ok (.enter g args) w) (Q : World → Prop)
    (hc : Calls Tryz.prog g (fa ++ #[.int .i64 p] ++ la) W fun e W' => e = .returned (.tuple #[]) ∧ Q W') :
    Calls Tryz.prog 146 #[.func (.func g) fa la, .int .i64 p] W fun e W' => e = .returned (.tuple #[]) ∧ Q W' := by
  go_enter_defers Tryz.func146, Tryz.ntmps146
  go_wp2_with fail
  refine hc.mono ?_
  rintro e w1 ⟨rfl, hq⟩
  have HQ : Hid (Q w1) := hq
  clear hq
  go_wp2_with fail
  refine leaves_cons (f := 186) (args := #[]) (by simp) (by simp [go_sem]) ?_
  refine (tellD_idleE _).mono ?_
  rintro e u' w'' ⟨rfl, rfl, rfl⟩
  exact ⟨_, results_none rfl _ _ _, rfl, HQ.out⟩
end Go.Proofs.YtjdkagafdnchhaaGreatDoor
