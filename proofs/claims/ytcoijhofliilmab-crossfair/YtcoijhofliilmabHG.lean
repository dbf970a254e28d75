/-
  A book of a call's own; what Add and Cancel do to it. Conditions stand in each theorem.
-/
import Derived.Test.YtcoijhofliilmabHF
import Derived.Test.YtcoijhofliilmabHB
import Derived.Deep.RegionWith
import Derived.Test.YtcoijhofliilmabHA
namespace Go.Proofs.Ytcoijhofliilmab
open Go.RowKit

/-- a book that was made behind w0, and nothing of w0 has changed -/
structure MyBk (w0 w : World) (bb m : Nat) (b : BkS) : Prop where
  bk : Bk w bb m b
  bel : Below w0.heap.size w0 w
  mine : ∀ k, b.foot bb k → w0.heap.size ≤ k
theorem bel_of_out {S : Nat → Prop} {w0 w w' : World} (h : Out S w w') (hS : ∀ k, S k → w0.heap.size ≤ k) (hb : Below w0.heap.size w0 w) : Below w0.heap.size w0 w' :=
  hb.trans ⟨h.os, h.tape, h.output, h.size, fun k hk => h.block k (Nat.lt_of_lt_of_le hk hb.size) (fun e => by have := hS k e; omega)⟩
theorem MyBk.goes {w0 w w' : World} {bb m m' : Nat} {b b' : BkS} (h : MyBk w0 w bb m b) (hg : Goes w w' bb m' b b') : MyBk w0 w' bb m' b' :=
  ⟨hg.1, bel_of_out hg.2.1 h.mine h.bel, fun k hk => (hg.2.2 k hk).elim (h.mine k) (fun e => Nat.le_trans h.bel.size e)⟩
theorem MyBk.below {w0 w w' : World} {bb m : Nat} {b : BkS} (h : MyBk w0 w bb m b) (hb : Below w.heap.size w w') : MyBk w0 w' bb m b :=
  ⟨h.bk.below hb (Nat.le_refl _), bel_then h.bel hb, h.mine⟩
theorem MyBk.start {w0 w' : World} (h : Bk w' (w0.heap.size + 2) 0 (BkS.none_ w0.heap.size)) (hb : Below w0.heap.size w0 w') : MyBk w0 w' (w0.heap.size + 2) 0 (BkS.none_ w0.heap.size) :=
  ⟨h, hb, fun _ hk => new_own w0 hk⟩

/-- Add of an order that may lie -/
theorem pbAdd_yes (bb m : Nat) (b : BkS) (o : Ord) (w : World) (h : Bk w bb m b) (hm : m + 1 ≤ 900) (hw : (Lit.int .i64 o.id).wf = true) (hs : sideP o.side = true) (hid : ¬ o.id < 1) (hr : rightB (lieP o).price (lieP o).qty = true) (hno : ∀ s, s < 2 → ∀ x ∈ b.S s, x.o.id ≠ o.id) (hc : (b.S 0).length + (b.S 1).length < 100) :
    Calls Try.prog 13 #[.pointer (some ⟨bb, 0, none⟩), o.agg] w fun e W' => e = .returned .nilIface ∧ ∃ (b' : BkS) (s k : Nat) (a : Int), s < 2 ∧ o.side = (s : Int) + 1 ∧ b'.S = upS b.S s (insAt (rankN (lieP o) ((b.S s).map Ly.o)) ⟨k, a, lieP o⟩ (b.S s)) ∧ Goes w W' bb (m + 1) b b' := by
  refine (pbAdd bb m b o w h hm hw).mono ?_
  rintro e W' (⟨h1, _⟩ | ⟨_, _, h1, _⟩ | ⟨_, _, _, ⟨s, h2, x, hx, he⟩, _⟩ | ⟨_, _, _, _, h1, _⟩ | ⟨_, _, _, _, _, h1, h2⟩)
  · rcases h1 with h1 | h1
    · rw [hs] at h1; cases h1
    · exact absurd h1 hid
  · rw [hr] at h1; cases h1
  · exact absurd he (hno s h2 x hx)
  · omega
  · exact ⟨h1, h2⟩

/-- Add of any order, over a book of the call's own -/
theorem pbAdd_my {w0 w : World} {bb m : Nat} {b : BkS} (h : MyBk w0 w bb m b) (o : Ord) (hm : m + 1 ≤ 900) (hw : (Lit.int .i64 o.id).wf = true) :
    Calls Try.prog 13 #[.pointer (some ⟨bb, 0, none⟩), o.agg] w fun e W' =>
      (∃ n, e = .returned (.iface 75 (.int .i64 n)) ∧ Goes w W' bb (m + 1) b b ∧ MyBk w0 W' bb (m + 1) b)
      ∨ (e = .returned .nilIface ∧ ∃ (b' : BkS) (s n : Nat) (x : Ly), s < 2 ∧ x.o.id = o.id ∧ (∀ t, t < 2 → ∀ y ∈ b.S t, y.o.id ≠ x.o.id) ∧ b'.S = upS b.S s (insAt n x (b.S s)) ∧ Goes w W' bb (m + 1) b b' ∧ MyBk w0 W' bb (m + 1) b') := by
  refine (pbAdd bb m b o w h.bk hm hw).mono ?_
  rintro e W' (⟨_, rfl, hg⟩ | ⟨_, _, _, rfl, hg⟩ | ⟨_, _, _, _, rfl, hg⟩ | ⟨_, _, _, _, _, rfl, hg⟩ | ⟨_, _, _, hno, _, rfl, b', s, k, a, hs, _, hS, hg⟩)
  · exact Or.inl ⟨1, rfl, hg, h.goes hg⟩
  · exact Or.inl ⟨2, rfl, hg, h.goes hg⟩
  · exact Or.inl ⟨9, rfl, hg, h.goes hg⟩
  · exact Or.inl ⟨12, rfl, hg, h.goes hg⟩
  · exact Or.inr ⟨rfl, b', s, _, ⟨k, a, lieP o⟩, hs, lieP_id o, fun t ht y hy e => hno t ht y hy (by rw [e]; exact lieP_id o), hS, hg, h.goes hg⟩
/-- Cancel of an order that was added behind -/
theorem pbCancel_my {w0 w : World} {bb m : Nat} {b : BkS} {S : Nat → List Ly} {A A' : List Int} {id : Int} (h : MyBk w0 w bb m b) (hk : Kept S b.S A) (hm : m + 1 ≤ 900) (hid : id ∈ A) (hA' : ∀ j, j ∈ A' ↔ (j ∈ A ∧ j ≠ id)) :
    Calls Try.prog 64 #[.pointer (some ⟨bb, 0, none⟩), .int .i64 id] w fun e W' => ∃ (o : Ord) (b' : BkS), e = .returned (.tuple #[o.agg, .nilIface]) ∧ Kept S b'.S A' ∧ Goes w W' bb (m + 1) b b' ∧ MyBk w0 W' bb (m + 1) b' := by
  obtain ⟨s, hs, x, hx, rfl⟩ := hk.lie id hid
  refine (cancel_yes bb m s b x w h.bk hm hs hx).mono ?_
  rintro e W' ⟨rfl, b', ⟨i, hi, hix, hS⟩, hg⟩
  exact ⟨x.o, b', rfl, by rw [hS]; exact hk.gone h.bk.ok hs hi hix hid hA', hg, h.goes hg⟩
/-- since w the book b, now b', has changed, and nothing else that was there -/
def Since (w W : World) (bb : Nat) (b b' : BkS) : Prop := Out (b.foot bb) w W ∧ Went w (b.foot bb) (b'.foot bb)
theorem Since.refl (w : World) (bb : Nat) (b : BkS) : Since w w bb b b := ⟨Out.refl _ _, Went.refl _ _⟩
theorem Since.goes {w W W' : World} {bb m : Nat} {b b1 b2 : BkS} (h : Since w W bb b b1) (hg : Goes W W' bb m b1 b2) : Since w W' bb b b2 :=
  ⟨h.1.trans hg.2.1 h.2, fun k hk => (hg.2.2 k hk).elim (h.2 k) (fun e => Or.inr (Nat.le_trans h.1.size e))⟩
theorem Since.below {w W W' : World} {bb : Nat} {b b1 : BkS} (h : Since w W bb b b1) (hb : Below W.heap.size W W') : Since w W' bb b b1 :=
  ⟨h.1.trans (Out.of_below (S := b1.foot bb) hb (Nat.le_refl _)) h.2, h.2⟩
end Go.Proofs.Ytcoijhofliilmab

/-
  What the program's arena of orders does at Set. Conditions stand in each theorem.
-/
namespace Go.Proofs.Ytcoijhofliilmab
open Go.RowKit

set_option maxRecDepth 4000 in
set_option maxHeartbeats 1000000 in
theorem oaSet (ab : Nat) (most : Int) (vs vf : Value) (rs : List Sot) (fr : List Nat) (k : Nat) (o x : Ord) (a : Int) (w : World) (h : ArOr w ab most vs vf rs fr) (hk : soAt rs k = (some o, a)) :
    Calls Try.prog 65 #[.pointer (some ⟨ab, 0, none⟩), .agg #[.int .i64 k, .int .i64 a], x.agg] w
      fun e w' => e = .returned .nilIface ∧ ArOr w' ab most vs vf (rs.set k (some x, a)) fr ∧ Out (aoB ab vs vf) w w' := by
  have HA : Hid (ArOr w ab most vs vf rs fr) := h
  have HK : Hid (soAt rs k = (some o, a)) := hk
  clear h hk
  unfold Ord.agg
  go_enter Try.func65, Try.ntmps65
  go_wp2_with fail
  refine (oaFind ab most vs vf rs fr k o a _ (HA.out.below (bel2 _ _ _) (Nat.le_refl _)) HK.out).mono ?_
  rintro e w1 ⟨hb, g, cap, rfl, rfl⟩
  have hx := (hb.block (w.heap.size + 1) (by simp)).trans (two_new w _ _)
  have x0 := blk_cell (j := 0) hx rfl
  have x1 := blk_cell (j := 1) hx rfl
  have x2 := blk_cell (j := 2) hx rfl
  have x3 := blk_cell (j := 3) hx rfl
  have x4 := blk_cell (j := 4) hx rfl
  have HB : Hid (Below w.heap.size w w1) := bel_then (bel2 w _ _) hb
  have HA1 : Hid (ArOr w1 ab most (.slice (some ⟨g, 0, none⟩) rs.length cap) vf rs fr) := HA.out.below HB.out (Nat.le_refl _)
  obtain ⟨hk1, g', cap', hv, d0, d1, d2, d3, d4, _, _⟩ := HA1.out.has HK.out
  simp only [Value.slice.injEq, Option.some.injEq, Addr.mk.injEq, and_true, true_and] at hv
  obtain ⟨rfl, rfl⟩ := hv
  have f0 := HA1.out.slots.frozenAt (k * 7)
  have f1 := HA1.out.slots.frozenAt (k * 7 + 1)
  have f2 := HA1.out.slots.frozenAt (k * 7 + 2)
  have f3 := HA1.out.slots.frozenAt (k * 7 + 3)
  have f4 := HA1.out.slots.frozenAt (k * 7 + 4)
  clear hb hx
  go_wp2
  go_ret
  obtain ⟨r1, r2⟩ := HA1.out.setThing (x := x) hk1 (by rw [HK.out]; rfl)
  rw [HK.out] at r1
  exact ⟨rfl, r1, (Out.of_below HB.out (Nat.le_refl _)).trans (r2.mono (fun j hj => Or.inr (Or.inl (by rw [hj]; rfl)))) (Went.refl _ _)⟩
end Go.Proofs.Ytcoijhofliilmab

/-
  A book in memory, one of its orders cut. Conditions stand in each theorem.
-/
namespace Go.Proofs.Ytcoijhofliilmab
open Go.RowKit

/-- the book with an order cut -/
def BkS.cut (b : BkS) (s : Nat) (x : Ly) (o' : Ord) : BkS := { b with rs := b.rs.set x.slot (some o', x.age), S := upS b.S s (cutL x o' (b.S s)) }
theorem Goes.cut {w w' : World} {bb m s : Nat} {b : BkS} {x : Ly} {o' : Ord} (h : Bk w bb m b) (hm : m + 1 ≤ 900) (hs : s < 2) (hx : x ∈ b.S s) (h1 : o'.id = x.o.id) (h2 : o'.side = x.o.side) (h3 : 1 ≤ o'.price ∧ o'.price ≤ 1000000 ∧ 1 ≤ o'.qty ∧ o'.qty ≤ 1000000)
    (ha : ArOr w' b.ab 100 b.vs b.vf (b.rs.set x.slot (some o', x.age)) b.fr) (ho : Out (aoB b.ab b.vs b.vf) w w') : Goes w w' bb (m + 1) b (b.cut s x o') := by
  have hat := BookAt.newAr h.at_ ho ha
  have hmem : ∀ t, t < 2 → ∀ y, y ∈ upS b.S s (cutL x o' (b.S s)) t → ∃ z ∈ b.S t, z.o.id = y.o.id ∧ z.slot = y.slot ∧ z.age = y.age := fun t ht y hy => by
    rcases mem_up hy with ⟨rfl, h5⟩ | ⟨_, h5⟩
    · obtain ⟨z, hz, rfl⟩ := List.mem_map.1 h5
      refine ⟨z, hz, ?_⟩
      split
      · rename_i e
        obtain rfl := h.ok.one_slot ht ht hz hx e
        exact ⟨h1.symm, rfl, rfl⟩
      · exact ⟨rfl, rfl, rfl⟩
    · exact ⟨y, h5, rfl, rfl, rfl⟩
  have hmem2 : ∀ t, t < 2 → ∀ z, z ∈ b.S t → ∃ y ∈ upS b.S s (cutL x o' (b.S s)) t, y.o.id = z.o.id := fun t ht z hz => by
    by_cases e : t = s
    · subst e
      rw [upS_same]
      refine ⟨_, List.mem_map.2 ⟨z, hz, rfl⟩, ?_⟩
      split
      · rename_i e
        obtain rfl := h.ok.one_slot ht ht hz hx e
        exact h1
      · rfl
    · exact ⟨z, by rw [upS_other _ e]; exact hz, rfl⟩
  have hrow : ∀ t, hV (upS b.S s (cutL x o' (b.S s)) t) = hV (b.S t) ∧ (upS b.S s (cutL x o' (b.S s)) t).length = (b.S t).length := fun t => by
    by_cases e : t = s
    · subst e; rw [upS_same]; exact ⟨cutL_hV _ _ _, cutL_length _ _ _⟩
    · rw [upS_other _ e]; exact ⟨rfl, rfl⟩
  refine ⟨⟨⟨hat.box, hat.ar, hat.map.like (fun t ht y hy => hmem t ht y hy) (fun t ht z hz => hmem2 t ht z hz), ?_, ?_, hat.apart⟩, h.ok.cut hs hx h1 h2 h3, Nat.le_trans h.small (Nat.le_succ _), hm⟩, ho.mono (fun k hk => Or.inr (Or.inl hk)), Went.refl _ _⟩
  · show World.ownsRow _ _ _ _ _ (upS b.S s (cutL x o' (b.S s)) 0).length (hV (upS b.S s (cutL x o' (b.S s)) 0))
    rw [(hrow 0).1, (hrow 0).2]; exact hat.row0
  · show World.ownsRow _ _ _ _ _ (upS b.S s (cutL x o' (b.S s)) 1).length (hV (upS b.S s (cutL x o' (b.S s)) 1))
    rw [(hrow 1).1, (hrow 1).2]; exact hat.row1
end Go.Proofs.Ytcoijhofliilmab

/-
  What the program's Cut does, over this seat's translation. Conditions stand in each theorem.
-/
namespace Go.Proofs.Ytcoijhofliilmab
open Go.RowKit

set_option maxRecDepth 100000 in
set_option maxHeartbeats 2000000 in
theorem cut_no (bb m : Nat) (b : BkS) (id q : Int) (w : World) (h : Bk w bb m b) (hw : (Lit.int .i64 id).wf = true) (hno : ∀ s, s < 2 → ∀ x ∈ b.S s, x.o.id ≠ id) :
    Calls Try.prog 45 #[.pointer (some ⟨bb, 0, none⟩), .int .i64 id, .int .i64 q] w fun e W' => e = .returned (.iface 75 (.int .i64 7)) ∧ Below w.heap.size w W' := by
  have H : Hid (Bk w bb m b) := h
  have HN : Hid (∀ s, s < 2 → ∀ x ∈ b.S s, x.o.id ≠ id) := hno
  clear h hno
  go_enter Try.func45, Try.ntmps45
  go_wp2_with fail
  refine (find_no bb m b id _ H.out hw HN.out).mono ?_
  rintro e w1 ⟨rfl, hb1⟩
  unfold Ord.agg Ord.none_
  have HB1 : Hid (Below w.heap.size w w1) := hb1
  clear hb1
  go_wp2_with fail
  go_ret
  exact ⟨rfl, bel_then HB1.out (bel2 _ _ _)⟩

set_option maxRecDepth 100000 in
set_option maxHeartbeats 2000000 in
theorem cut_range (bb m s : Nat) (b : BkS) (x : Ly) (q : Int) (w : World) (h : Bk w bb m b) (hs : s < 2) (hx : x ∈ b.S s) (hq : q < 1 ∨ x.o.qty < q) :
    Calls Try.prog 45 #[.pointer (some ⟨bb, 0, none⟩), .int .i64 x.o.id, .int .i64 q] w fun e W' => e = .returned (.iface 75 (.int .i64 2)) ∧ Below w.heap.size w W' := by
  have H : Hid (Bk w bb m b) := h
  have HX : Hid (x ∈ b.S s) := hx
  clear h hx
  go_enter Try.func45, Try.ntmps45
  go_wp2_with fail
  refine (find_yes bb m s b x _ H.out hs HX.out).mono ?_
  rintro e w1 ⟨rfl, hb1⟩
  unfold Ord.agg plV
  have HB1 : Hid (Below w.heap.size w w1) := hb1
  clear hb1
  have o4 : ((w1.alloc (.cells #[.int .i64 x.o.id, .int .i64 x.o.side, .int .i64 x.o.kind, .int .i64 x.o.price, .int .i64 x.o.qty] 40)).alloc (.cells #[.int .i64 x.slot, .int .i64 x.age, .int .i64 s] 80)).cell? ⟨w1.heap.size, 4, none⟩ = some (.int .i64 x.o.qty) := blk_cell (j := 4) (two_old w1 _ _) rfl
  by_cases hq1 : q < 1
  · have k1 : decide (q < 1) = true := decide_eq_true hq1
    go_wp2_with fail
    go_ret
    exact ⟨rfl, bel_then HB1.out (bel2 _ _ _)⟩
  · have k1 : decide (q < 1) = false := decide_eq_false hq1
    have k2 : decide (q > x.o.qty) = true := decide_eq_true (by omega)
    go_wp2_with fail
    go_ret
    exact ⟨rfl, bel_then HB1.out (bel2 _ _ _)⟩

set_option maxRecDepth 100000 in
set_option maxHeartbeats 2000000 in
theorem cut_all (bb m s : Nat) (b : BkS) (x : Ly) (w : World) (h : Bk w bb m b) (hm : m + 1 ≤ 900) (hs : s < 2) (hx : x ∈ b.S s) (hq : ¬ x.o.qty < 1) :
    Calls Try.prog 45 #[.pointer (some ⟨bb, 0, none⟩), .int .i64 x.o.id, .int .i64 x.o.qty] w fun e W' => e = .returned .nilIface ∧ ∃ b' : BkS, (∃ i, i < (b.S s).length ∧ lyAt (b.S s) i = x ∧ b'.S = upS b.S s (outAt i (b.S s))) ∧ Goes w W' bb (m + 1) b b' := by
  have H : Hid (Bk w bb m b) := h
  have HX : Hid (x ∈ b.S s) := hx
  clear h hx
  go_enter Try.func45, Try.ntmps45
  go_wp2_with fail
  refine (find_yes bb m s b x _ H.out hs HX.out).mono ?_
  rintro e w1 ⟨rfl, hb1⟩
  unfold Ord.agg plV
  have HB1 : Hid (Below w.heap.size w w1) := hb1
  clear hb1
  have o4 : ((w1.alloc (.cells #[.int .i64 x.o.id, .int .i64 x.o.side, .int .i64 x.o.kind, .int .i64 x.o.price, .int .i64 x.o.qty] 40)).alloc (.cells #[.int .i64 x.slot, .int .i64 x.age, .int .i64 s] 80)).cell? ⟨w1.heap.size, 4, none⟩ = some (.int .i64 x.o.qty) := blk_cell (j := 4) (two_old w1 _ _) rfl
  have k1 : decide (x.o.qty < 1) = false := decide_eq_false (by omega)
  go_wp2_with fail
  have HB2 : Hid (Below w.heap.size w _) := bel_then HB1.out (bel2 w1 (.cells #[.int .i64 x.o.id, .int .i64 x.o.side, .int .i64 x.o.kind, .int .i64 x.o.price, .int .i64 x.o.qty] 40) (.cells #[.int .i64 x.slot, .int .i64 x.age, .int .i64 s] 80))
  clear o4 k1
  generalize (w1.alloc (.cells #[.int .i64 x.o.id, .int .i64 x.o.side, .int .i64 x.o.kind, .int .i64 x.o.price, .int .i64 x.o.qty] 40)).alloc (.cells #[.int .i64 x.slot, .int .i64 x.age, .int .i64 s] 80) = w2 at HB2 ⊢
  refine (cancel_yes bb m s b x w2 (H.out.below HB2.out (Nat.le_refl _)) hm hs HX.out).mono ?_
  rintro e w3 ⟨rfl, b', hb', hg⟩
  have HG : Hid (Goes w2 w3 bb (m + 1) b b') := hg
  have HB' : Hid (∃ i, i < (b.S s).length ∧ lyAt (b.S s) i = x ∧ b'.S = upS b.S s (outAt i (b.S s))) := hb'
  clear hg hb'
  unfold Ord.agg
  go_wp2_with fail
  go_ret
  refine ⟨rfl, b', HB'.out, HG.out.1, (Out.of_below HB2.out (Nat.le_refl _)).trans HG.out.2.1 (Went.refl _ _), fun k hk => (HG.out.2.2 k hk).elim Or.inl (fun e => Or.inr (Nat.le_trans HB2.out.size e))⟩

/-- an order with fewer lots -/
def lessO (q : Int) (o : Ord) : Ord := ⟨o.id, o.side, o.kind, o.price, o.qty - q⟩
set_option maxRecDepth 100000 in
set_option maxHeartbeats 2000000 in
theorem cut_part (bb m s : Nat) (b : BkS) (x : Ly) (q : Int) (w : World) (h : Bk w bb m b) (hm : m + 1 ≤ 900) (hs : s < 2) (hx : x ∈ b.S s) (hq : ¬ q < 1) (hq2 : q < x.o.qty) :
    Calls Try.prog 45 #[.pointer (some ⟨bb, 0, none⟩), .int .i64 x.o.id, .int .i64 q] w fun e W' => e = .returned .nilIface ∧ Goes w W' bb (m + 1) b (b.cut s x (lessO q x.o)) := by
  have H : Hid (Bk w bb m b) := h
  have HX : Hid (x ∈ b.S s) := hx
  have HO : Hid (soAt b.rs x.slot = (some x.o, x.age)) := h.ok.there s hs x hx
  have hrg := h.ok.ok s hs x hx
  clear h hx
  go_enter Try.func45, Try.ntmps45
  go_wp2_with fail
  refine (find_yes bb m s b x _ H.out hs HX.out).mono ?_
  rintro e w1 ⟨rfl, hb1⟩
  unfold Ord.agg plV
  have HB1 : Hid (Below w.heap.size w w1) := hb1
  clear hb1
  go_upto_region 4 with fail
  have hb2 := bel2 w1 (.cells #[.int .i64 x.o.id, .int .i64 x.o.side, .int .i64 x.o.kind, .int .i64 x.o.price, .int .i64 x.o.qty] 40) (.cells #[.int .i64 x.slot, .int .i64 x.age, .int .i64 s] 80)
  have hr1 := two_old w1 (.cells #[.int .i64 x.o.id, .int .i64 x.o.side, .int .i64 x.o.kind, .int .i64 x.o.price, .int .i64 x.o.qty] 40) (.cells #[.int .i64 x.slot, .int .i64 x.age, .int .i64 s] 80)
  have hr2 := two_new w1 (.cells #[.int .i64 x.o.id, .int .i64 x.o.side, .int .i64 x.o.kind, .int .i64 x.o.price, .int .i64 x.o.qty] 40) (.cells #[.int .i64 x.slot, .int .i64 x.age, .int .i64 s] 80)
  generalize (w1.alloc (.cells #[.int .i64 x.o.id, .int .i64 x.o.side, .int .i64 x.o.kind, .int .i64 x.o.price, .int .i64 x.o.qty] 40)).alloc (.cells #[.int .i64 x.slot, .int .i64 x.age, .int .i64 s] 80) = w2 at hb2 hr1 hr2 ⊢
  have HB2 : Hid (Below w.heap.size w w2) := bel_then HB1.out hb2
  have hz : w.heap.size ≤ w1.heap.size := HB1.out.size
  have k1 : decide (q < 1) = false := decide_eq_false (by omega)
  have k2 : decide (q > x.o.qty) = false := decide_eq_false (by omega)
  have k3 : (q == x.o.qty) = false := beq_eq_false_iff_ne.2 (by omega)
  have c4 := blk_cell (j := 4) hr1 rfl
  have f4 := blk_free (j := 4) hr1
  have HR1 : Hid _ := hr1
  have HR2 : Hid _ := hr2
  clear hb2 hr1 hr2
  go_wp2_with fail
  have hr1 := blk_set (j := 4) (.int .i64 (x.o.qty - q)) HR1.out
  have hr2 := blk_out HR2.out (out_set w2 ⟨w1.heap.size, 4, none⟩ (.int .i64 (x.o.qty - q))) (by simp)
  have hb3 := HB2.out.setCell (p := ⟨w1.heap.size, 4, none⟩) hz (.int .i64 (x.o.qty - q))
  generalize w2.setCell ⟨w1.heap.size, 4, none⟩ (.int .i64 (x.o.qty - q)) = w3 at hr1 hr2 hb3 ⊢
  have HB3 : Hid (Below w.heap.size w w3) := hb3
  have HBK : Hid (Bk w3 bb m b) := H.out.below hb3 (Nat.le_refl _)
  have x0 := blk_cell (j := 0) hr1 rfl
  have x1 := blk_cell (j := 1) hr1 rfl
  have x2 := blk_cell (j := 2) hr1 rfl
  have x3 := blk_cell (j := 3) hr1 rfl
  have x4 := blk_cell (j := 4) hr1 rfl
  have p0 := blk_cell (j := 0) hr2 rfl
  have p1 := blk_cell (j := 1) hr2 rfl
  have b0 := blk_cell (j := 0) HBK.out.at_.box rfl
  clear hr1 hr2 hb3 HR1 HR2 HB2 c4 f4 k1 k2 k3
  go_region_with (go_at_call 65; refine (oaSet b.ab 100 b.vs b.vf b.rs b.fr x.slot x.o (lessO q x.o) x.age _ (HBK.out.at_.ar.below (B := w3.heap.size) ?_ (Nat.le_refl _)) HO.out).mono ?_; (repeat' first | assumption | exact Below.refl _ _ | exact Nat.le_refl _ | refine Below.drew ?_ | refine Below.alloc ?_ ?_ _ | (simp; done) | (simp; omega)); rintro e w4 ⟨rfl, ha, ho⟩)
  all_goals go_wp2_with fail
  all_goals go_ret
  all_goals (
    have hG : Goes w3 w4 bb (m + 1) b (b.cut s x (lessO q x.o)) := Goes.cut HBK.out hm hs HX.out rfl rfl (by have := hrg; simp only [lessO]; omega) ha (by first | exact ho | exact (out_drew (Out.refl _ _)).trans ho (Went.refl _ _))
    exact ⟨rfl, hG.1, (Out.of_below HB3.out (Nat.le_refl _)).trans hG.2.1 (Went.refl _ _), fun k hk => (hG.2.2 k hk).elim Or.inl (fun e => Or.inr (Nat.le_trans HB3.out.size e))⟩)
end Go.Proofs.Ytcoijhofliilmab

/-
  The document's orders as plain lists (4.1, 4.2): a stable sort, a side, what Add answers, what is left when one goes or is cut. No program is named here.
-/
namespace Go.Proofs.Ytcoijhofliilmab
open Go.RowKit

/-- a stable sort of a list by what 'rank' tells -/
def insL {α : Type} (rank : α → Int) (o : α) : List α → List α
  | [] => [o]
  | x :: xs => if rank x ≤ rank o then x :: insL rank o xs else o :: x :: xs
def ssort {α : Type} (rank : α → Int) (l : List α) : List α := l.foldl (fun acc o => insL rank o acc) []
theorem ssort_push {α : Type} (rank : α → Int) (l : List α) (o : α) : ssort rank (l ++ [o]) = insL rank o (ssort rank l) := by simp [ssort]
/-- 4.2: what orders of a side are compared by -/
def rankI (side kind price : Int) : Int := if kind = 2 then -2000000 else if side = 1 then -price else price
def onSide (side : Int) (l : List Ord) : List Ord := l.filter fun o => o.side == side
def rankO (side : Int) (o : Ord) : Int := rankI side o.kind o.price
def sideO (side : Int) (l : List Ord) : List Ord := ssort (rankO side) (onSide side l)
theorem onSide_mem {side : Int} {l : List Ord} {o : Ord} (h : o ∈ onSide side l) : o ∈ l := (List.mem_filter.1 h).1
theorem ssort_tiny {α : Type} (rank : α → Int) {l : List α} (h : l.length ≤ 1) : ssort rank l = l := by
  match l, h with
  | [], _ => rfl
  | [a], _ => rfl
/-- 1.1 -/
def rightO (p q : Int) : Bool := (decide (1 ≤ p) && decide (p ≤ 1000000)) && (decide (1 ≤ q) && decide (q ≤ 1000000))
/-- 4.1: an order as it lies, and what is wrong with it (0: nothing) -/
def lieO (o : Ord) : Ord := if o.kind = 2 then { o with price := 1 } else o
def addN (o : Ord) (l : List Ord) : Int :=
  if (decide (1 ≤ o.side) && decide (o.side ≤ 2)) = false ∨ o.id < 1 then 1 else if rightO (lieO o).price (lieO o).qty = false then 2 else if 0 ≤ idxO o.id l then 9 else if 100 ≤ l.length then 12 else 0
theorem lieO_id (o : Ord) : (lieO o).id = o.id := by unfold lieO; split <;> rfl
theorem lieO_side (o : Ord) : (lieO o).side = o.side := by unfold lieO; split <;> rfl
theorem addN_arg {o : Ord} {l : List Ord} (h : (decide (1 ≤ o.side) && decide (o.side ≤ 2)) = false ∨ o.id < 1) : addN o l = 1 := by unfold addN; rw [if_pos h]
theorem addN_range {o : Ord} {l : List Ord} (h : (decide (1 ≤ o.side) && decide (o.side ≤ 2)) = true) (h1 : ¬ o.id < 1) (h2 : rightO (lieO o).price (lieO o).qty = false) : addN o l = 2 := by
  unfold addN; rw [if_neg (by rw [h]; simp; omega), if_pos h2]
theorem addN_rest {o : Ord} {l : List Ord} (h : (decide (1 ≤ o.side) && decide (o.side ≤ 2)) = true) (h1 : ¬ o.id < 1) (h2 : rightO (lieO o).price (lieO o).qty = true) : addN o l = if 0 ≤ idxO o.id l then 9 else if 100 ≤ l.length then 12 else 0 := by
  unfold addN; rw [if_neg (by rw [h]; simp; omega), if_neg (by rw [h2]; simp)]
def addL (o : Ord) (l : List Ord) : List Ord := if addN o l = 0 then l ++ [lieO o] else l
def goneL (k : Nat) (l : List Ord) : List Ord := l.take k ++ l.drop (k + 1)
theorem goneL_set : ∀ (l : List Ord) (k : Nat) (x : Ord), goneL k (l.set k x) = goneL k l
  | [], _, _ => rfl
  | _ :: _, 0, _ => rfl
  | o :: l, k + 1, x => by
    have := goneL_set l k x
    unfold goneL at this ⊢
    simpa using this
theorem idxF_set (id : Int) : ∀ (l : List Ord) (k i : Nat) (x : Ord), x.id = (oAt l k).id → idxF id i (l.set k x) = idxF id i l
  | [], _, _, _, _ => rfl
  | o :: l, 0, i, x, h => by
    have e : x.id = o.id := by simpa [oAt] using h
    show (if x.id = id then (i : Int) else idxF id (i + 1) l) = (if o.id = id then (i : Int) else idxF id (i + 1) l)
    rw [e]
  | o :: l, k + 1, i, x, h => by
    have e : x.id = (oAt l k).id := by simpa [oAt] using h
    show (if o.id = id then (i : Int) else idxF id (i + 1) (l.set k x)) = (if o.id = id then (i : Int) else idxF id (i + 1) l)
    rw [idxF_set id l k (i + 1) x e]
def cutO (q : Int) (o : Ord) : Ord := { o with qty := o.qty - q }
theorem insL_perm {α : Type} (rank : α → Int) (o : α) : ∀ l : List α, (insL rank o l).Perm (o :: l)
  | [] => List.Perm.refl _
  | x :: xs => by
    unfold insL
    split
    · exact ((insL_perm rank o xs).cons x).trans (List.Perm.swap o x xs)
    · exact List.Perm.refl _
theorem foldl_perm {α : Type} (rank : α → Int) : ∀ (l acc : List α), (l.foldl (fun acc o => insL rank o acc) acc).Perm (acc ++ l)
  | [], acc => by simp
  | o :: l, acc => by
    rw [List.foldl_cons]
    exact (foldl_perm rank l _).trans (((insL_perm rank o acc).append_right l).trans List.perm_middle.symm)
theorem ssort_perm {α : Type} (rank : α → Int) (l : List α) : (ssort rank l).Perm l := by have h := foldl_perm rank l []; rw [List.nil_append] at h; exact h
theorem sideO_mem {side : Int} {l : List Ord} {o : Ord} : o ∈ sideO side l ↔ (o ∈ l ∧ o.side = side) := by
  unfold sideO onSide
  rw [(ssort_perm _ _).mem_iff, List.mem_filter]
  simp
theorem sideO_len (side : Int) (l : List Ord) : (sideO side l).length ≤ l.length := by
  unfold sideO onSide
  rw [(ssort_perm _ _).length_eq]
  exact List.length_filter_le _ _
end Go.Proofs.Ytcoijhofliilmab

/-
  The program's sides and the document's list, as plain lists: they stay of one mind through Add, Cancel and Cut. No program is named here but by the texts that it imports; conditions stand in each theorem.
-/
namespace Go.Proofs.Ytcoijhofliilmab
open Go.RowKit

theorem snoc_ind {α : Type} {P : List α → Prop} (h0 : P []) (h1 : ∀ l a, P l → P (l ++ [a])) (l : List α) : P l := by
  rw [← List.reverse_reverse l]
  generalize l.reverse = r
  induction r with
  | nil => exact h0
  | cons a r ih => rw [List.reverse_cons]; exact h1 _ _ ih

section
variable {α : Type} {rank : α → Int}
theorem insL_mem {o y : α} {l : List α} : y ∈ insL rank o l ↔ y = o ∨ y ∈ l := by rw [(insL_perm rank o l).mem_iff]; simp
theorem insL_srt {o : α} : ∀ {l : List α}, l.Pairwise (fun a b => rank a ≤ rank b) → (insL rank o l).Pairwise (fun a b => rank a ≤ rank b)
  | [], _ => by simp [insL]
  | x :: xs, hp => by
    obtain ⟨h1, h2⟩ := List.pairwise_cons.1 hp
    unfold insL
    split
    · rename_i hk
      refine List.pairwise_cons.2 ⟨fun y hy => ?_, insL_srt h2⟩
      rcases insL_mem.1 hy with rfl | hy
      · exact hk
      · exact h1 y hy
    · rename_i hk
      refine List.pairwise_cons.2 ⟨fun y hy => ?_, hp⟩
      rcases List.mem_cons.1 hy with rfl | hy
      · omega
      · have := h1 y hy; omega
theorem ssort_srt (l : List α) : (ssort rank l).Pairwise (fun a b => rank a ≤ rank b) := by
  induction l using snoc_ind with
  | h0 => exact List.Pairwise.nil
  | h1 l a ih => rw [ssort_push]; exact insL_srt ih
/-- in a sorted list the new one lies between those that are not greater and the rest -/
theorem insL_eq {o : α} : ∀ {l : List α}, l.Pairwise (fun a b => rank a ≤ rank b) → insL rank o l = l.filter (fun y => decide (rank y ≤ rank o)) ++ o :: l.filter (fun y => !decide (rank y ≤ rank o))
  | [], _ => rfl
  | x :: xs, hp => by
    obtain ⟨h1, h2⟩ := List.pairwise_cons.1 hp
    unfold insL
    split
    · rename_i hk
      rw [List.filter_cons_of_pos (by simpa using hk), List.filter_cons_of_neg (by simpa using hk), insL_eq h2]
      rfl
    · rename_i hk
      have e1 : (x :: xs).filter (fun y => decide (rank y ≤ rank o)) = [] := by
        rw [List.filter_eq_nil_iff]
        intro y hy
        rcases List.mem_cons.1 hy with rfl | hy
        · simpa using hk
        · have := h1 y hy; simp; omega
      have e2 : (x :: xs).filter (fun y => !decide (rank y ≤ rank o)) = x :: xs := by
        rw [List.filter_eq_self]
        intro y hy
        rcases List.mem_cons.1 hy with rfl | hy
        · simpa using hk
        · have := h1 y hy; simp; omega
      rw [e1, e2]
      rfl
theorem ssort_filter (p : α → Bool) (l : List α) : ssort rank (l.filter p) = (ssort rank l).filter p := by
  induction l using snoc_ind with
  | h0 => rfl
  | h1 l a ih =>
    rw [List.filter_append, ssort_push, insL_eq (ssort_srt l), List.filter_append]
    by_cases hp : p a = true
    · have e0 : [a].filter p = [a] := by rw [List.filter_cons_of_pos hp, List.filter_nil]
      rw [e0, List.filter_cons_of_pos hp, ssort_push, ih, insL_eq ((ssort_srt l).sublist List.filter_sublist), List.filter_filter, List.filter_filter, List.filter_filter, List.filter_filter]
      congr 1
      · congr 1; funext y; exact Bool.and_comm _ _
      · congr 2; funext y; exact Bool.and_comm _ _
    · have e0 : [a].filter p = [] := by rw [List.filter_cons_of_neg hp, List.filter_nil]
      rw [e0, List.filter_cons_of_neg hp, List.append_nil, ih, List.filter_filter, List.filter_filter]
      have hs := ssort_srt (rank := rank) l
      clear ih
      generalize ssort rank l = r at hs
      induction r with
      | nil => rfl
      | cons x xs ih2 =>
        obtain ⟨h1, h2⟩ := List.pairwise_cons.1 hs
        have ih3 := ih2 h2
        by_cases hx : rank x ≤ rank a
        · by_cases hpx : p x = true
          · rw [List.filter_cons_of_pos hpx, List.filter_cons_of_pos (by simp [hx, hpx]), List.filter_cons_of_neg (by simp [hx]), ih3]; rfl
          · rw [List.filter_cons_of_neg hpx, List.filter_cons_of_neg (by simp [hpx]), List.filter_cons_of_neg (by simp [hx]), ih3]
        · have e1 : (x :: xs).filter (fun y => p y && decide (rank y ≤ rank a)) = [] := by
            rw [List.filter_eq_nil_iff]
            intro y hy
            rcases List.mem_cons.1 hy with rfl | hy
            · simp [hx]
            · have := h1 y hy
              have hn : ¬ rank y ≤ rank a := by omega
              simp [hn]
          have e2 : (x :: xs).filter (fun y => p y && !decide (rank y ≤ rank a)) = (x :: xs).filter p := by
            apply List.filter_congr
            intro y hy
            have hn : ¬ rank y ≤ rank a := by
              rcases List.mem_cons.1 hy with rfl | hy
              · exact hx
              · have := h1 y hy; omega
            simp [hn]
          rw [e1, e2]; rfl
theorem insL_mapf {f : α → α} (hf : ∀ a, rank (f a) = rank a) (o : α) : ∀ l : List α, insL rank (f o) (l.map f) = (insL rank o l).map f
  | [] => rfl
  | x :: xs => by
    simp only [List.map_cons, insL]
    rw [hf, hf]
    split
    · rw [List.map_cons, insL_mapf hf o xs]
    · rfl
theorem ssort_map {f : α → α} (hf : ∀ a, rank (f a) = rank a) (l : List α) : ssort rank (l.map f) = (ssort rank l).map f := by
  induction l using snoc_ind with
  | h0 => rfl
  | h1 l a ih => rw [List.map_append, List.map_singleton, ssort_push, ssort_push, ih, insL_mapf hf]
theorem insL_take {o : α} : ∀ l : List α, insL rank o l = l.take (l.takeWhile fun y => decide (rank y ≤ rank o)).length ++ o :: l.drop (l.takeWhile fun y => decide (rank y ≤ rank o)).length
  | [] => rfl
  | x :: xs => by
    unfold insL
    split
    · rename_i hk
      rw [List.takeWhile_cons, if_pos (by simpa using hk), List.length_cons, List.take_succ_cons, List.drop_succ_cons, insL_take xs]
      rfl
    · rename_i hk
      rw [List.takeWhile_cons, if_neg (by simpa using hk)]
      rfl
end

/-! sides of lists -/
theorem sideO_filter (side : Int) (p : Ord → Bool) (l : List Ord) : sideO side (l.filter p) = (sideO side l).filter p := by
  unfold sideO onSide
  rw [← ssort_filter, List.filter_filter, List.filter_filter]
  congr 2
  funext y
  exact Bool.and_comm _ _
theorem sideO_map (side : Int) {f : Ord → Ord} (h1 : ∀ o, (f o).side = o.side) (h2 : ∀ o, (f o).kind = o.kind) (h3 : ∀ o, (f o).price = o.price) (l : List Ord) : sideO side (l.map f) = (sideO side l).map f := by
  unfold sideO
  rw [← ssort_map (fun a => by unfold rankO; rw [h2, h3])]
  congr 1
  unfold onSide
  rw [List.filter_map]
  congr 1
  apply List.filter_congr
  intro o _
  simp [h1]
theorem sideO_push_same {side : Int} {l : List Ord} {p : Ord} (h : p.side = side) : sideO side (l ++ [p]) = insL (rankO side) p (sideO side l) := by
  unfold sideO
  rw [← ssort_push]
  congr 1
  unfold onSide
  rw [List.filter_append, List.filter_cons_of_pos (by simpa using h)]
  rfl
theorem sideO_push_other {side : Int} {l : List Ord} {p : Ord} (h : p.side ≠ side) : sideO side (l ++ [p]) = sideO side l := by
  unfold sideO
  congr 1
  unfold onSide
  rw [List.filter_append, List.filter_cons_of_neg (by simpa using h)]
  simp
theorem better_rank {side : Int} {p y : Ord} (hs : side = 1 ∨ side = 2) (hp : p.side = side) (h1 : 1 ≤ p.price ∧ p.price ≤ 1000000) (h2 : 1 ≤ y.price ∧ y.price ≤ 1000000) : (!betterO p y) = decide (rankO side y ≤ rankO side p) := by
  unfold betterO rankO rankI
  by_cases k1 : y.kind = 2
  · rw [if_pos k1, if_pos k1]
    by_cases k2 : p.kind = 2
    · rw [if_pos k2]; rfl
    · rw [if_neg k2]
      rcases hs with rfl | rfl
      · rw [if_pos rfl]; simp; omega
      · rw [if_neg (by decide)]; simp; omega
  · rw [if_neg k1, if_neg k1]
    by_cases k2 : p.kind = 2
    · rw [if_pos k2, if_pos k2]
      rcases hs with rfl | rfl
      · rw [if_pos rfl]; simp; omega
      · rw [if_neg (by decide)]; simp; omega
    · rw [if_neg k2, if_neg k2, hp]
      rcases hs with rfl | rfl
      · rw [if_pos rfl, if_pos rfl, if_pos rfl]; by_cases hlt : y.price < p.price <;> simp [hlt] <;> omega
      · rw [if_neg (by decide), if_neg (by decide), if_neg (by decide)]; by_cases hlt : p.price < y.price <;> simp [hlt] <;> omega
theorem rankN_is {side : Int} {p : Ord} {l : List Ord} (hs : side = 1 ∨ side = 2) (hp : p.side = side) (h1 : 1 ≤ p.price ∧ p.price ≤ 1000000) (h2 : ∀ y ∈ l, 1 ≤ y.price ∧ y.price ≤ 1000000) : rankN p l = (l.takeWhile fun y => decide (rankO side y ≤ rankO side p)).length := by
  unfold rankN
  congr 1
  induction l with
  | nil => rfl
  | cons y l ih => rw [List.takeWhile_cons, List.takeWhile_cons, better_rank hs hp h1 (h2 y (by simp)), ih (fun z hz => h2 z (by simp [hz]))]
end Go.Proofs.Ytcoijhofliilmab

/-
  The program's book and the document's, side by side, as plain lists: Add, Cancel, Cut. Conditions stand in each theorem.
-/
namespace Go.Proofs.Ytcoijhofliilmab
open Go.RowKit

theorem id_inj : ∀ {l : List Ord}, (l.map Ord.id).Nodup → ∀ {a b : Ord}, a ∈ l → b ∈ l → a.id = b.id → a = b
  | [], _, _, _, h, _, _ => by cases h
  | x :: l, hn, a, b, ha, hb, e => by
    rw [List.map_cons, List.nodup_cons] at hn
    rcases List.mem_cons.1 ha with e1 | h1
    · rcases List.mem_cons.1 hb with e2 | h2
      · rw [e1, e2]
      · exact (hn.1 (List.mem_map.2 ⟨b, h2, by rw [← e, e1]⟩)).elim
    · rcases List.mem_cons.1 hb with e2 | h2
      · exact (hn.1 (List.mem_map.2 ⟨a, h1, by rw [e, e2]⟩)).elim
      · exact id_inj hn.2 h1 h2 e
theorem oAt_in {l : List Ord} {k : Nat} (h : k < l.length) : oAt l k ∈ l := by rw [oAt_eq h]; exact List.getElem_mem h
theorem idxF_none (id : Int) : ∀ (l : List Ord) (i : Nat), (∀ o ∈ l, o.id ≠ id) → idxF id i l = -1
  | [], _, _ => rfl
  | o :: l, i, h => by
    show (if o.id = id then (i : Int) else idxF id (i + 1) l) = -1
    rw [if_neg (h o (by simp)), idxF_none id l (i + 1) (fun y hy => h y (by simp [hy]))]
theorem idxF_some (id : Int) : ∀ (l : List Ord) (i : Nat), (∃ o ∈ l, o.id = id) → 0 ≤ idxF id i l
  | [], _, h => by obtain ⟨_, h, _⟩ := h; cases h
  | o :: l, i, h => by
    show 0 ≤ (if o.id = id then (i : Int) else idxF id (i + 1) l)
    split
    · omega
    · rename_i hne
      obtain ⟨y, hy, e⟩ := h
      rcases List.mem_cons.1 hy with rfl | hy
      · exact absurd e hne
      · exact idxF_some id l (i + 1) ⟨y, hy, e⟩
theorem split_at {l : List Ord} {k : Nat} (h : k < l.length) : l = l.take k ++ oAt l k :: l.drop (k + 1) := by rw [oAt_eq h, ← List.drop_eq_getElem_cons h, List.take_append_drop]
/-- in a list whose ids are each their own, the others than number k are those of another id -/
theorem others {l : List Ord} {k : Nat} (hn : (l.map Ord.id).Nodup) (hk : k < l.length) : (∀ o ∈ l.take k, o.id ≠ (oAt l k).id) ∧ (∀ o ∈ l.drop (k + 1), o.id ≠ (oAt l k).id) := by
  rw [split_at hk, List.map_append, List.map_cons, List.nodup_append] at hn
  obtain ⟨_, h2, h3⟩ := hn
  rw [List.nodup_cons] at h2
  refine ⟨fun o ho e => ?_, fun o ho e => ?_⟩
  · exact h3 o.id (List.mem_map.2 ⟨o, ho, rfl⟩) (oAt l k).id (by simp) e
  · exact h2.1 (List.mem_map.2 ⟨o, ho, e⟩)
theorem goneL_filter {l : List Ord} {k : Nat} (hn : (l.map Ord.id).Nodup) (hk : k < l.length) : goneL k l = l.filter (fun o => decide (o.id ≠ (oAt l k).id)) := by
  obtain ⟨h1, h2⟩ := others hn hk
  have hsp := split_at hk
  generalize oAt l k = x at h1 h2 hsp ⊢
  conv => rhs; rw [hsp]
  rw [List.filter_append, List.filter_cons_of_neg (by simp), List.filter_eq_self.2 (fun o ho => by simpa using h1 o ho), List.filter_eq_self.2 (fun o ho => by simpa using h2 o ho)]
  rfl
/-- the order of that id with fewer lots -/
def cutF (id q : Int) (o : Ord) : Ord := if o.id = id then cutO q o else o
theorem cutF_id (id q : Int) (o : Ord) : (cutF id q o).id = o.id := by unfold cutF; split <;> rfl
theorem cutF_side (id q : Int) (o : Ord) : (cutF id q o).side = o.side := by unfold cutF; split <;> rfl
theorem cutF_kind (id q : Int) (o : Ord) : (cutF id q o).kind = o.kind := by unfold cutF; split <;> rfl
theorem cutF_price (id q : Int) (o : Ord) : (cutF id q o).price = o.price := by unfold cutF; split <;> rfl
theorem set_map {l : List Ord} {k : Nat} (q : Int) (hn : (l.map Ord.id).Nodup) (hk : k < l.length) : l.set k (cutO q (oAt l k)) = l.map (cutF (oAt l k).id q) := by
  obtain ⟨h1, h2⟩ := others hn hk
  have hsp := split_at hk
  rw [List.set_eq_take_append_cons_drop, if_pos hk]
  generalize oAt l k = x at h1 h2 hsp ⊢
  have e1 : (l.take k).map (cutF x.id q) = l.take k := by
    conv => rhs; rw [← List.map_id (l.take k)]
    apply List.map_congr_left
    intro o ho
    unfold cutF; rw [if_neg (h1 o ho)]; rfl
  have e2 : (l.drop (k + 1)).map (cutF x.id q) = l.drop (k + 1) := by
    conv => rhs; rw [← List.map_id (l.drop (k + 1))]
    apply List.map_congr_left
    intro o ho
    unfold cutF; rw [if_neg (h2 o ho)]; rfl
  have e3 : cutF x.id q x = cutO q x := if_pos rfl
  conv => rhs; rw [hsp]
  rw [List.map_append, List.map_cons, e1, e2, e3]

/-- one mind -/
structure Lnk (S : Nat → List Ly) (L : List Ord) : Prop where
  side : ∀ s, s < 2 → (S s).map Ly.o = sideO ((s : Int) + 1) L
  all : ∀ o ∈ L, o.side = 1 ∨ o.side = 2
  ids : (L.map Ord.id).Nodup
theorem Lnk.start : Lnk (fun _ => []) [] := ⟨fun _ _ => rfl, fun _ h => (by cases h), List.nodup_nil⟩
section
variable {S : Nat → List Ly} {L : List Ord} {m : Nat} {rs : List Sot} {fr : List Nat}
theorem Lnk.mem (h : Lnk S L) {o : Ord} : o ∈ L ↔ ∃ s, s < 2 ∧ ∃ x ∈ S s, x.o = o := by
  constructor
  · intro ho
    have key : ∀ s : Nat, s < 2 → o.side = (s : Int) + 1 → ∃ s, s < 2 ∧ ∃ x ∈ S s, x.o = o := fun s hs e => by
      have h1 : o ∈ sideO ((s : Int) + 1) L := sideO_mem.2 ⟨ho, e⟩
      rw [← h.side s hs] at h1
      obtain ⟨x, hx, rfl⟩ := List.mem_map.1 h1
      exact ⟨s, hs, x, hx, rfl⟩
    rcases h.all o ho with e | e
    · exact key 0 (by decide) (by rw [e]; rfl)
    · exact key 1 (by decide) (by rw [e]; rfl)
  · rintro ⟨s, hs, x, hx, rfl⟩
    have h1 : x.o ∈ (S s).map Ly.o := List.mem_map.2 ⟨x, hx, rfl⟩
    rw [h.side s hs] at h1
    exact (sideO_mem.1 h1).1
theorem Lnk.none (h : Lnk S L) {id : Int} (hn : ∀ s, s < 2 → ∀ x ∈ S s, x.o.id ≠ id) : ∀ o ∈ L, o.id ≠ id := fun o ho => by
  obtain ⟨s, hs, x, hx, rfl⟩ := h.mem.1 ho
  exact hn s hs x hx
theorem Lnk.idx_no (h : Lnk S L) {id : Int} (hn : ∀ s, s < 2 → ∀ x ∈ S s, x.o.id ≠ id) : idxO id L = -1 := idxF_none id L 0 (h.none hn)
theorem Lnk.idx_yes (h : Lnk S L) {s : Nat} (hs : s < 2) {x : Ly} (hx : x ∈ S s) : 0 ≤ idxO x.o.id L := idxF_some _ L 0 ⟨x.o, h.mem.2 ⟨s, hs, x, hx, rfl⟩, rfl⟩
theorem Lnk.at (h : Lnk S L) {s k : Nat} (hs : s < 2) {x : Ly} (hx : x ∈ S s) (hk : k < L.length) (e : (oAt L k).id = x.o.id) : oAt L k = x.o := id_inj h.ids (oAt_in hk) (h.mem.2 ⟨s, hs, x, hx, rfl⟩) e
theorem Lnk.len (h : Lnk S L) : L.length = (S 0).length + (S 1).length := by
  have hl : ∀ s, s < 2 → (S s).length = (onSide ((s : Int) + 1) L).length := fun s hs => by
    have := congrArg List.length (h.side s hs)
    rw [List.length_map] at this
    rw [this]
    exact (ssort_perm _ _).length_eq
  have both : ∀ l : List Ord, (∀ o ∈ l, o.side = 1 ∨ o.side = 2) → l.length = (onSide 1 l).length + (onSide 2 l).length := fun l => by
    induction l with
    | nil => intro _; rfl
    | cons o l ih =>
      intro ha
      have := ih (fun y hy => ha y (by simp [hy]))
      unfold onSide at *
      rcases ha o (by simp) with e | e
      · rw [List.filter_cons_of_pos (by simp [e]), List.filter_cons_of_neg (by simp [e])]; simp; omega
      · rw [List.filter_cons_of_neg (by simp [e]), List.filter_cons_of_pos (by simp [e])]; simp; omega
  rw [hl 0 (by decide), hl 1 (by decide)]
  exact both L h.all
theorem Lnk.ok (h : Lnk S L) (hp : Pb m rs fr S) : ∀ o ∈ L, 1 ≤ o.price ∧ o.price ≤ 1000000 ∧ 1 ≤ o.qty ∧ o.qty ≤ 1000000 := fun o ho => by
  obtain ⟨s, hs, x, hx, rfl⟩ := h.mem.1 ho
  have := hp.ok s hs x hx
  omega
theorem Lnk.add (h : Lnk S L) {s k : Nat} {a : Int} {p : Ord} (hs : s < 2) (hp : p.side = (s : Int) + 1) (h1 : 1 ≤ p.price ∧ p.price ≤ 1000000) (hok : ∀ o ∈ L, 1 ≤ o.price ∧ o.price ≤ 1000000) (hno : ∀ o ∈ L, o.id ≠ p.id) :
    Lnk (upS S s (insAt (rankN p ((S s).map Ly.o)) ⟨k, a, p⟩ (S s))) (L ++ [p]) := by
  have hsd : (s : Int) + 1 = 1 ∨ (s : Int) + 1 = 2 := by omega
  refine ⟨fun t ht => ?_, fun o ho => ?_, ?_⟩
  · by_cases e : t = s
    · subst e
      rw [upS_same, sideO_push_same hp, insL_take]
      unfold insAt
      rw [List.map_append, List.map_cons, List.map_take, List.map_drop, h.side t ht, rankN_is hsd hp h1 (fun y hy => hok y (sideO_mem.1 hy).1)]
    · rw [upS_other _ e, sideO_push_other (by rw [hp]; omega)]
      exact h.side t ht
  · rcases List.mem_append.1 ho with ho | ho
    · exact h.all o ho
    · simp at ho; subst ho; rw [hp]; exact hsd
  · rw [List.map_append, List.nodup_append]
    refine ⟨h.ids, by simp, fun i hi j hj => ?_⟩
    obtain ⟨o, ho, rfl⟩ := List.mem_map.1 hi
    simp at hj
    subst hj
    exact hno o ho
theorem Lnk.gone (h : Lnk S L) (hp : Pb m rs fr S) {s i k : Nat} {x : Ly} (hs : s < 2) (hi : i < (S s).length) (hx : lyAt (S s) i = x) (hk : k < L.length) (hid : (oAt L k).id = x.o.id) : Lnk (upS S s (outAt i (S s))) (goneL k L) := by
  have hxm : x ∈ S s := by rw [← hx]; exact lyAt_mem hi
  rw [goneL_filter h.ids hk, hid]
  refine ⟨fun t ht => ?_, fun o ho => h.all o (List.mem_filter.1 ho).1, ?_⟩
  · rw [sideO_filter, ← h.side t ht]
    by_cases e : t = s
    · subst e
      have hn : (((S t).map Ly.o).map Ord.id).Nodup := by
        rw [List.map_map]
        have h5 := (pb_all S ht).map (fun x => x.o.id)
        have h6 := h5.nodup_iff.1 hp.ids
        rw [List.map_append] at h6
        exact (List.nodup_append.1 h6).1
      have hi' : i < ((S t).map Ly.o).length := by rw [List.length_map]; exact hi
      have hat : oAt ((S t).map Ly.o) i = x.o := by rw [← hx, lyAt_eq hi, oAt_eq hi', List.getElem_map]
      have h7 := goneL_filter hn hi'
      rw [hat] at h7
      rw [upS_same, ← h7]
      unfold outAt goneL
      rw [List.map_append, List.map_take, List.map_drop]
    · rw [upS_other _ e]
      symm
      rw [List.filter_eq_self]
      intro o ho
      obtain ⟨y, hy, rfl⟩ := List.mem_map.1 ho
      simp only [decide_eq_true_eq]
      intro e2
      have e3 := hp.one_id ht hs hy hxm e2
      subst e3
      exact e (hp.one_side ht hs hy hxm)
  · exact h.ids.sublist (List.filter_sublist.map _)
theorem Lnk.cut (h : Lnk S L) (hp : Pb m rs fr S) {s k : Nat} {q : Int} {x : Ly} (hs : s < 2) (hx : x ∈ S s) (hk : k < L.length) (hid : (oAt L k).id = x.o.id) : Lnk (upS S s (cutL x (lessO q x.o) (S s))) (L.set k (cutO q (oAt L k))) := by
  rw [set_map q h.ids hk, hid]
  have hrow : ∀ t, t < 2 → (upS S s (cutL x (lessO q x.o) (S s)) t).map Ly.o = ((S t).map Ly.o).map (cutF x.o.id q) := fun t ht => by
    by_cases e : t = s
    · subst e
      rw [upS_same]
      unfold cutL
      rw [List.map_map, List.map_map]
      apply List.map_congr_left
      intro y hy
      simp only [Function.comp]
      split
      · rename_i e1
        obtain rfl := hp.one_slot ht ht hy hx e1
        unfold cutF; rw [if_pos rfl]; rfl
      · rename_i e1
        unfold cutF
        rw [if_neg (fun e2 => e1 (by rw [hp.one_id ht ht hy hx e2]))]
    · rw [upS_other _ e, List.map_map]
      apply List.map_congr_left
      intro y hy
      simp only [Function.comp]
      unfold cutF
      rw [if_neg (fun e2 => by
        have e3 := hp.one_id ht hs hy hx e2
        subst e3
        exact e (hp.one_side ht hs hy hx))]
  refine ⟨fun t ht => ?_, fun o ho => ?_, ?_⟩
  · rw [hrow t ht, sideO_map _ (cutF_side _ _) (cutF_kind _ _) (cutF_price _ _), h.side t ht]
  · obtain ⟨y, hy, rfl⟩ := List.mem_map.1 ho
    rw [cutF_side]; exact h.all y hy
  · rw [List.map_map]
    have : (Ord.id ∘ cutF x.o.id q) = Ord.id := by funext o; exact cutF_id _ _ _
    rw [this]; exact h.ids
end
theorem lie_same (o : Ord) : lieP o = lieO o := rfl
theorem sideP_is (s : Int) : sideP s = (decide (1 ≤ s) && decide (s ≤ 2)) := by
  unfold sideP
  by_cases h : s = 1
  · subst h; rfl
  by_cases h' : s = 2
  · subst h'; rfl
  have h1 : (s == 1) = false := beq_eq_false_iff_ne.2 h
  have h2 : (s == 2) = false := beq_eq_false_iff_ne.2 h'
  rw [h1, h2]
  by_cases h3 : 1 ≤ s
  · have : ¬ s ≤ 2 := by omega
    simp [this]
  · simp [h3]
end Go.Proofs.Ytcoijhofliilmab

/-
  What Order, Cancel and Cut are (4.1), as plain functions of the document's list of orders; and what a cut that may be does to each side. No program is named here.
-/
namespace Go.Proofs.Ytcoijhofliilmab
open Go.RowKit

/-! 4.1, as plain functions of the document's list -/
def canO (id : Int) (L : List Ord) : Ord := if idxO id L = -1 then Ord.none_ else oAt L (idxO id L).toNat
def canN (id : Int) (L : List Ord) : Int := if idxO id L = -1 then 7 else 0
def canL (id : Int) (L : List Ord) : List Ord := if idxO id L = -1 then L else goneL (idxO id L).toNat L
def cutN (id q : Int) (L : List Ord) : Int := if idxO id L = -1 then 7 else if (decide (1 ≤ q) && decide (q ≤ (oAt L (idxO id L).toNat).qty)) = false then 2 else 0
def cutM (id q : Int) (L : List Ord) : List Ord := if idxO id L = -1 then L else if (decide (1 ≤ q) && decide (q ≤ (oAt L (idxO id L).toNat).qty)) = false then L else if (oAt L (idxO id L).toNat).qty = q then goneL (idxO id L).toNat L else L.set (idxO id L).toNat (cutO q (oAt L (idxO id L).toNat))

end Go.Proofs.Ytcoijhofliilmab

/-
  What the program's Add, Cancel and Cut do to a book in memory, in the words of the document's list of orders. Conditions stand in each theorem.
-/
namespace Go.Proofs.Ytcoijhofliilmab
open Go.RowKit

/-- an error of the program's and the document's number for it -/
def ErrVal (err : Value) (n : Int) : Prop := (err = .nilIface ∧ n = 0) ∨ err = .iface 75 (.int .i64 n)
section
variable {w0 w : World} {bb rb m : Nat} {b : BkS} {v : Value} {L : List Ord}
theorem lnk_few {S : Nat → List Ly} {n : Nat} {rs : List Sot} {fr : List Nat} (hp : Pb n rs fr S) (hl : Lnk S L) : L.length ≤ 100 := by have := hp.most; have := hl.len; omega
theorem idx_at (hl : Lnk b.S L) {s : Nat} (hs : s < 2) {x : Ly} (hx : x ∈ b.S s) : ∃ k, k < L.length ∧ idxO x.o.id L = k ∧ oAt L k = x.o := by
  rcases idxF_in x.o.id L 0 with h | ⟨k, hk, h1, h2⟩
  · have h3 : idxO x.o.id L = -1 := h
    have := hl.idx_yes hs hx
    omega
  · exact ⟨k, hk, by have : idxO x.o.id L = ((0 + k : Nat) : Int) := h1; rw [this]; congr 1; omega, hl.at hs hx hk h2⟩
theorem prog_add (h : Bk w bb m b) (hm : m + 1 ≤ 900) (hl : Lnk b.S L) (o : Ord) (hw : (Lit.int .i64 o.id).wf = true) :
    Calls Try.prog 13 #[.pointer (some ⟨bb, 0, none⟩), o.agg] w fun e W' => ∃ err, e = .returned err ∧ ErrVal err (addN o L) ∧ ∃ b', Lnk b'.S (addL o L) ∧ Goes w W' bb (m + 1) b b' := by
  have stay : ∀ n : Int, n ≠ 0 → addN o L = n → addL o L = L := fun n h1 h2 => by unfold addL; rw [if_neg (by rw [h2]; exact h1)]
  refine (pbAdd bb m b o w h hm hw).mono ?_
  rintro e W' (⟨h1, rfl, hg⟩ | ⟨h1, h2, h3, rfl, hg⟩ | ⟨h1, h2, h3, h4, rfl, hg⟩ | ⟨h1, h2, h3, h4, h5, rfl, hg⟩ | ⟨h1, h2, h3, h4, h5, rfl, b', s, k, a, hs, hsd, hS, hg⟩)
  · have hn : addN o L = 1 := addN_arg (by rw [← sideP_is]; exact h1)
    exact ⟨_, rfl, Or.inr (by rw [hn]), b, by rw [stay 1 (by decide) hn]; exact hl, hg⟩
  · have hn : addN o L = 2 := addN_range (by rw [← sideP_is]; exact h1) h2 h3
    exact ⟨_, rfl, Or.inr (by rw [hn]), b, by rw [stay 2 (by decide) hn]; exact hl, hg⟩
  · have hn : addN o L = 9 := by
      rw [addN_rest (by rw [← sideP_is]; exact h1) h2 h3]
      obtain ⟨s, hs, x, hx, he⟩ := h4
      rw [if_pos (by rw [← he]; exact hl.idx_yes hs hx)]
    exact ⟨_, rfl, Or.inr (by rw [hn]), b, by rw [stay 9 (by decide) hn]; exact hl, hg⟩
  · have hlen := hl.len
    have hn : addN o L = 12 := by
      rw [addN_rest (by rw [← sideP_is]; exact h1) h2 h3, hl.idx_no h4, if_neg (by decide), if_pos (by omega)]
    exact ⟨_, rfl, Or.inr (by rw [hn]), b, by rw [stay 12 (by decide) hn]; exact hl, hg⟩
  · have hlen := hl.len
    have hn : addN o L = 0 := by
      rw [addN_rest (by rw [← sideP_is]; exact h1) h2 h3, hl.idx_no h4, if_neg (by decide), if_neg (by omega)]
    obtain ⟨hp1, _⟩ : inB 1 1000000 (lieP o).price = true ∧ inB 1 1000000 (lieP o).qty = true := by simpa [rightB] using h3
    have hpr := inB_true hp1
    refine ⟨_, rfl, Or.inl ⟨rfl, hn⟩, b', ?_, hg⟩
    unfold addL
    rw [if_pos hn, hS, ← lie_same]
    exact hl.add hs (by rw [lieP_side]; exact hsd) hpr (fun y hy => by have := hl.ok h.ok y hy; omega) (by rw [lieP_id]; exact hl.none h4)
theorem prog_cancel (h : Bk w bb m b) (hm : m + 1 ≤ 900) (hl : Lnk b.S L) (id : Int) (hw : (Lit.int .i64 id).wf = true) :
    Calls Try.prog 64 #[.pointer (some ⟨bb, 0, none⟩), .int .i64 id] w fun e W' => ∃ err, e = .returned (.tuple #[(canO id L).agg, err]) ∧ ErrVal err (canN id L) ∧ ∃ b', Lnk b'.S (canL id L) ∧ Goes w W' bb (m + 1) b b' := by
  rcases lies_dec b.S id with ⟨s, hs, x, hx, rfl⟩ | hno
  · obtain ⟨k, hk, hi, ho⟩ := idx_at hl hs hx
    have hne : ¬ idxO x.o.id L = -1 := by omega
    have hkk : (idxO x.o.id L).toNat = k := by omega
    refine (cancel_yes bb m s b x w h hm hs hx).mono ?_
    rintro e W' ⟨rfl, b', ⟨i, hi2, hix, hS⟩, hg⟩
    refine ⟨.nilIface, by unfold canO; rw [if_neg hne, hkk, ho], Or.inl ⟨rfl, by unfold canN; rw [if_neg hne]⟩, b', ?_, hg⟩
    unfold canL
    rw [if_neg hne, hkk, hS]
    exact hl.gone h.ok hs hi2 hix hk (by rw [ho])
  · have h1 := hl.idx_no hno
    refine (cancel_no bb m b id w h hw hno).mono ?_
    rintro e W' ⟨rfl, hb⟩
    exact ⟨_, by unfold canO; rw [if_pos h1], Or.inr (by unfold canN; rw [if_pos h1]), b, by unfold canL; rw [if_pos h1]; exact hl, Goes.stay h hb (Nat.le_succ _) hm⟩
theorem prog_cut (h : Bk w bb m b) (hm : m + 1 ≤ 900) (hl : Lnk b.S L) (id q : Int) (hw : (Lit.int .i64 id).wf = true) :
    Calls Try.prog 45 #[.pointer (some ⟨bb, 0, none⟩), .int .i64 id, .int .i64 q] w fun e W' => ∃ err, e = .returned err ∧ ErrVal err (cutN id q L) ∧ ∃ b', Lnk b'.S (cutM id q L) ∧ Goes w W' bb (m + 1) b b' := by
  rcases lies_dec b.S id with ⟨s, hs, x, hx, rfl⟩ | hno
  · obtain ⟨k, hk, hi, ho⟩ := idx_at hl hs hx
    have hne : ¬ idxO x.o.id L = -1 := by omega
    have hkk : (idxO x.o.id L).toNat = k := by omega
    by_cases hq : q < 1 ∨ x.o.qty < q
    · have h3 : (decide (1 ≤ q) && decide (q ≤ (oAt L k).qty)) = false := by
        rw [ho]
        rcases hq with hq | hq
        · rw [decide_eq_false (by omega)]; rfl
        · rw [decide_eq_false (p := q ≤ x.o.qty) (by omega)]; exact Bool.and_false _
      refine (cut_range bb m s b x q w h hs hx hq).mono ?_
      rintro e W' ⟨rfl, hb⟩
      exact ⟨_, rfl, Or.inr (by unfold cutN; rw [if_neg hne, hkk, if_pos h3]), b, by unfold cutM; rw [if_neg hne, hkk, if_pos h3]; exact hl, Goes.stay h hb (Nat.le_succ _) hm⟩
    · have h3 : ¬ (decide (1 ≤ q) && decide (q ≤ (oAt L k).qty)) = false := by
        rw [ho, decide_eq_true (by omega : 1 ≤ q), decide_eq_true (by omega : q ≤ x.o.qty)]; decide
      by_cases he : q = x.o.qty
      · subst he
        refine (cut_all bb m s b x w h hm hs hx (by omega)).mono ?_
        rintro e W' ⟨rfl, b', ⟨i, hi2, hix, hS⟩, hg⟩
        refine ⟨_, rfl, Or.inl ⟨rfl, by unfold cutN; rw [if_neg hne, hkk, if_neg h3]⟩, b', ?_, hg⟩
        unfold cutM
        rw [if_neg hne, hkk, if_neg h3, if_pos (by rw [ho]), hS]
        exact hl.gone h.ok hs hi2 hix hk (by rw [ho])
      · refine (cut_part bb m s b x q w h hm hs hx (by omega) (by omega)).mono ?_
        rintro e W' ⟨rfl, hg⟩
        refine ⟨_, rfl, Or.inl ⟨rfl, by unfold cutN; rw [if_neg hne, hkk, if_neg h3]⟩, _, ?_, hg⟩
        unfold cutM
        rw [if_neg hne, hkk, if_neg h3, if_neg (by rw [ho]; omega)]
        exact hl.cut h.ok hs hx hk (by rw [ho])
  · have h1 := hl.idx_no hno
    refine (cut_no bb m b id q w h hw hno).mono ?_
    rintro e W' ⟨rfl, hb⟩
    exact ⟨_, rfl, Or.inr (by unfold cutN; rw [if_pos h1]), b, by unfold cutM; rw [if_pos h1]; exact hl, Goes.stay h hb (Nat.le_succ _) hm⟩
end
end Go.Proofs.Ytcoijhofliilmab
