/-
  A function value that tells a number of each point, or yes and no; what the program's keep, most, least and all return by it, over this seat's translation. Conditions stand in each theorem: where the points lie, that they are at most 1000, and what the function value tells.
-/
import Derived.Test.YtkfmljokenclaabDoorChPick
import Derived.Test.YtkfmljokenclaabDoorCuIn
import Derived.Deep.RegionWith
namespace Go.Proofs.YtkfmljokenclaabDoor
open Go.RowKit

/-- a function value that tells a number of each point, and lays blocks at most -/
structure NumFn (g : Nat) (lb : Array Value) (f : Pt → Int) (l : List Pt) (w0 : World) : Prop where
  enters : ∀ args w, (callFunc g args).run Tryd.prog w = .ok (.enter g args) w
  tells : ∀ W, Below w0.heap.size w0 W → ∀ x ∈ l, Calls Tryd.prog g (#[.agg #[.int .i64 x.price, .int .i64 x.dem, .int .i64 x.sup]] ++ lb) W fun e W' => e = .returned (.int .i64 (f x)) ∧ Below W.heap.size W W'
/-- one that tells yes or no -/
structure BoolFn (g : Nat) (lb : Array Value) (q : Pt → Bool) (l : List Pt) (w0 : World) : Prop where
  enters : ∀ args w, (callFunc g args).run Tryd.prog w = .ok (.enter g args) w
  tells : ∀ W, Below w0.heap.size w0 W → ∀ x ∈ l, Calls Tryd.prog g (#[.agg #[.int .i64 x.price, .int .i64 x.dem, .int .i64 x.sup]] ++ lb) W fun e W' => e = .returned (.bool (q x)) ∧ Below W.heap.size W W'
theorem NumFn.later {g : Nat} {lb : Array Value} {f : Pt → Int} {l : List Pt} {w0 w1 : World} (h : NumFn g lb f l w0) (hb : Below w0.heap.size w0 w1) : NumFn g lb f l w1 :=
  ⟨h.enters, fun W hW x hx => h.tells W (cu_then hb hW) x hx⟩
theorem NumFn.fewer {g : Nat} {lb : Array Value} {f : Pt → Int} {l l' : List Pt} {w0 : World} (h : NumFn g lb f l w0) (hl : ∀ x ∈ l', x ∈ l) : NumFn g lb f l' w0 :=
  ⟨h.enters, fun W hW x hx => h.tells W hW x (hl x hx)⟩
theorem filter_take {α : Type} (q : α → Bool) {l : List α} {k : Nat} (h : k < l.length) : (l.take (k + 1)).filter q = if q l[k] = true then (l.take k).filter q ++ [l[k]] else (l.take k).filter q := by
  rw [List.take_succ_eq_append_getElem h, List.filter_append]
  by_cases hq : q l[k] = true
  · rw [if_pos hq]; simp [hq]
  · rw [if_neg hq]; simp [hq]
theorem Tryd.infoCp : (Tryd.prog.info? 62).map (fun i => (i.zero, i.size, i.bytes)) = some (some (.agg #[.int .i64 0, .int .i64 0, .int .i64 0]), 3, 24) := by kernel_rfl
/-- a point in a block of its own -/
def CpBox (w : World) (b : Nat) (x : Pt) : Prop := w.heap[b]? = some (.cells #[.int .i64 x.price, .int .i64 x.dem, .int .i64 x.sup] 62 (0, 0))
theorem CpBox.below {w w' : World} {b : Nat} {x : Pt} (h : CpBox w b x) (hb : Below w.heap.size w w') : CpBox w' b x := cu_keep h hb

set_option maxRecDepth 4000 in
set_option maxHeartbeats 4000000 in
theorem chKeep (a : Option Addr) (cap : Nat) (l : List Pt) (g : Nat) (lb : Array Value) (q : Pt → Bool) (w : World) (h : PtsIn w a l) (hl : l.length ≤ 1000) (hf : BoolFn g lb q l w) :
    Calls Tryd.prog 52 #[.slice a l.length cap, .func (.func g) #[] lb] w fun e w' => ∃ v', e = .returned v' ∧ w'.ownsRow w.heap.size 62 3 v' (l.filter q).length (ptV (l.filter q)) ∧ Below w.heap.size w w' := by
  obtain ⟨iP, hiP, hP0, hP1, hP2⟩ := info_parts Tryd.infoCp
  have HA : Hid (PtsIn w a l) := h
  have HF : Hid (BoolFn g lb q l w) := hf
  have eg := hf.enters
  clear h hf
  go_enter Tryd.func52, Tryd.ntmps52
  go_wp2_with fail
  go_loopw [5, 10] (fun v i wr => ∃ k : Nat, k ≤ l.length ∧ i = .int .i64 k ∧ wr.ownsRow w.heap.size 62 3 v ((l.take k).filter q).length (ptV ((l.take k).filter q)) ∧ Below w.heap.size w wr) (fun _ i _ => l.length - (intOf i).toNat)
  case atStart => exact ⟨0, Nat.zero_le _, rfl, World.ownsRow_nil _ _ _ _, Below.refl _ _⟩
  case round =>
    obtain ⟨k, hk, rfl, hown, hb⟩ := hrel
    have HW : Hid (wr.ownsRow w.heap.size 62 3 u5 ((l.take k).filter q).length (ptV ((l.take k).filter q))) := hown
    have HB : Hid (Below w.heap.size w wr) := hb
    have hbl : ((l.take k).filter q).length ≤ 1000 := by
      have := List.length_filter_le q (l.take k)
      rw [List.length_take] at this
      omega
    obtain ⟨vao, vcap, rfl, _, _⟩ := bk_shape hown
    clear hown
    by_cases hk1 : k < l.length
    · have hlt : (k : Int) < (l.length : Int) := by omega
      obtain ⟨b, off, rfl, d0, d1, d2⟩ := HA.out.below hb k hk1
      have HC : Hid (∀ W, Below w.heap.size w W → Calls Tryd.prog g (#[.agg #[.int .i64 (ptAt l k).price, .int .i64 (ptAt l k).dem, .int .i64 (ptAt l k).sup]] ++ lb) W fun e W' => e = .returned (.bool (q (ptAt l k))) ∧ Below W.heap.size W W') := fun W hW => HF.out.tells W hW _ (ptAt_mem hk1)
      have HT : Hid ((l.take (k + 1)).filter q = if q (ptAt l k) = true then (l.take k).filter q ++ [ptAt l k] else (l.take k).filter q) := by rw [ptAt_eq hk1]; exact filter_take q hk1
      clear hb
      generalize ptAt l k = x at d0 d1 d2 HC HT
      generalize (l.take k).filter q = acc at HT HW hbl
      go_wp2_with fail
      have hX : CpBox (wr.alloc (.cells #[.int .i64 x.price, .int .i64 x.dem, .int .i64 x.sup] 62)) wr.heap.size x := heap_alloc_new wr _
      have hbA := cu_bel1 wr (.cells #[.int .i64 x.price, .int .i64 x.dem, .int .i64 x.sup] 62)
      generalize wr.alloc (.cells #[.int .i64 x.price, .int .i64 x.dem, .int .i64 x.sup] 62) = W at hX hbA ⊢
      generalize wr.heap.size = xb at hX ⊢
      refine (HC.out W (cu_then HB.out hbA)).mono ?_
      rintro e w4 ⟨rfl, hb4⟩
      have hX4 := hX.below hb4
      have HW4 : Hid (w4.ownsRow w.heap.size 62 3 (.slice vao acc.length vcap) acc.length (ptV acc)) := bk_below HW.out (cu_then hbA hb4) (Nat.le_refl _)
      have HB4 : Hid (Below w.heap.size w w4) := cu_then HB.out (cu_then hbA hb4)
      clear hX hbA hb4 HW HB d0 d1 d2 HC
      cases hq : q x with
      | true =>
        have HT2 : Hid ((l.take (k + 1)).filter q = acc ++ [x]) := by rw [HT.out, if_pos hq]; rfl
        have y0 := cu_blk (j := 0) hX4 rfl
        have y1 := cu_blk (j := 1) hX4 rfl
        have y2 := cu_blk (j := 2) hX4 rfl
        clear HT hq hX4
        go_wp2_with (at_builtin; refine wpList_append_own_at _ rfl _ _ 43 rfl w.heap.size 62 iP (.agg #[.int .i64 0, .int .i64 0, .int .i64 0]) 3 24 Tryd.underlying43 hiP hP0 hP1 hP2 rfl (by decide) _ acc.length (ptV acc) rfl (HW4.out.alloc _) ⟨w4.heap.size, 0, none⟩ 1 1 [.int .i64 x.price, .int .i64 x.dem, .int .i64 x.sup] rfl rfl (World.news_of_block (cs := #[.int .i64 x.price, .int .i64 x.dem, .int .i64 x.sup]) (t := 62) (fr := (0, 0)) (heap_alloc_new w4 _)) (by simp [Value.oneCell']) (by unfold maxLen; omega) (by omega) (by have := HB4.out.size; simp; omega) ?_; intro v' w6 hown6 hgrow6 _ _)
        go_roundw
        case rel =>
          refine ⟨k + 1, hk1, by go_num, ?_, (HB4.out.alloc HB4.out.size _).grown hgrow6 (by have := HB4.out.size; simp; omega) (fun q hq => (HW4.out.lt q hq).1)⟩
          rw [HT2.out, ptV_snoc, List.length_append, List.length_singleton]
          exact hown6
        case measure => simp [intOf]; omega
      | false =>
        have HT2 : Hid ((l.take (k + 1)).filter q = acc) := by rw [HT.out, if_neg (by rw [hq]; decide)]; rfl
        clear HT hq hX4
        go_wp2_with fail
        go_roundw
        case rel => exact ⟨k + 1, hk1, by go_num, by rw [HT2.out]; exact HW4.out, HB4.out⟩
        case measure => simp [intOf]; omega
    · obtain rfl : k = l.length := by omega
      rw [List.take_length] at HW hbl ⊢
      clear hb
      go_wp2_with fail
      go_ret
      exact ⟨_, rfl, HW.out, HB.out⟩
end Go.Proofs.YtkfmljokenclaabDoor
