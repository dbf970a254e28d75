/-
  What the document's Meets (8.2) returns, over this seat's translation. Conditions stand in the theorem.
-/
import Derived.Test.YtcoijhofliilmabGreatDoorGO
import Derived.Test.YtcoijhofliilmabGreatDoorGM
import Derived.Lib.MinMax
namespace Go.Proofs.YtcoijhofliilmabGreatDoor
open Go.RowKit

theorem Mt.start {w W W' : World} {base bb ob rb g : Nat} {lb : Array Value} {vx v : Value} {l X : List Ord} {o : Ord} {St : World → List Int → (Nat → Prop) → Prop} {D : Nat → Prop} (hF : TellFn g lb St) (h : BookIs w base bb v l) (hst : St w [] D) (hb : Below w.heap.size w W) (ho : DBox W ob o) (hr : ZBox W rb) (h1 : w.heap.size ≤ ob) (h2 : w.heap.size ≤ rb) (h3 : ob ≠ rb) (hx : W'.ownsRow W.heap.size 40 5 vx X.length (oV X)) (hb2 : Below W.heap.size W W') :
    Mt w W' base bb ob rb W.heap.size vx v (.slice none 0 0) X o ⟨[], l, o.qty, []⟩ St D D := by
  have hb3 := bel_then hb hb2
  refine ⟨⟨h1, h2, h3, lt_of_block ho, lt_of_block hr, lt_of_block h.box⟩, hx, blk_below ho hb2 (Nat.le_refl _), blk_below hr hb2 (Nat.le_refl _), h.below hb3 (Nat.le_refl _), fun j hj => ?_, World.ownsRow_nil _ _ _ _, hF.keep hst (Out.of_below (S := fun _ => False) hb3 (Nat.le_refl _)) (fun _ _ e => e), Out.of_below hb3 (Nat.le_refl _), fun j hj => Or.inl hj⟩
  have := (h.all.lt j hj).2
  omega
/-- what is left of o, told -/
theorem Mt.done {w W : World} {base bb ob rb B g : Nat} {lb : Array Value} {vx vb vf : Value} {X : List Ord} {o : Ord} {s : MS} {St : World → List Int → (Nat → Prop) → Prop} {D0 D : Nat → Prop} (hF : TellFn g lb St) (h : Mt w W base bb ob rb B vx vb vf X o s St D0 D) :
    DBox (boxed W rb (leftO o s.q)).drew rb (leftO o s.q) ∧ (boxed W rb (leftO o s.q)).drew.ownsRow w.heap.size 59 4 vf s.fs.length (fV s.fs) ∧ BookIs (boxed W rb (leftO o s.q)).drew base bb vb s.L ∧ St (boxed W rb (leftO o s.q)).drew s.ts D ∧ Out (fun j => j = bb ∨ D0 j) w (boxed W rb (leftO o s.q)).drew ∧ ∀ j, D j → D0 j ∨ w.heap.size ≤ j := by
  have ho : Out (fun j => j = rb) W (boxed W rb (leftO o s.q)).drew := out_drew (boxed_out W rb (leftO o s.q))
  have hd : DBox (boxed W rb (leftO o s.q)).drew rb (leftO o s.q) := by
    unfold DBox
    rw [drew_heap]
    exact boxed_is (leftO o s.q) h.res
  generalize (boxed W rb (leftO o s.q)).drew = W' at ho hd ⊢
  obtain ⟨o1, o2, o3, o4, o5, o6⟩ := h.old
  refine ⟨hd, owns_out h.fils ho (fun k hk e => owns_type h.fils h.res (by decide) (hk.trans (congrArg some e))), cr_book h.book ho (blk_ne h.book.box h.res (by decide)) (fun k hk => (h.far k hk).2), hF.keep h.told ho (fun j hj e => ?_), h.out.trans ho (fun k hk => Or.inr (by rw [show k = rb from hk]; exact o2)), h.dees⟩
  have e' : j = rb := e
  subst e'
  exact ((hF.far h.told _ hj).2 _ _ _ h.res).1 rfl
theorem Mt.pushX {w W W' : World} {base bb ob rb B xb : Nat} {vx vb vf : Value} {X : List Ord} {o x : Ord} {s : MS} {St : World → List Int → (Nat → Prop) → Prop} {D0 D : Nat → Prop} {obj : Obj} (h : Mt w W base bb ob rb B vx vb vf X o s St D0 D) (hg : (W.alloc obj).grownBy W' vf.ownBlock) (hx : DBox W xb x) : DBox W' xb x := by
  have h6 : Out (fun j => vf.ownBlock = some j) W W' := out_then (out_alloc (Out.refl _ _) _) (Out.of_grown hg (fun k hk => hk))
  exact blk_out hx h6 (owns_type h.fils hx (by decide))
theorem oAt_drop {X : List Ord} {k : Nat} (h : k < X.length) : X.drop k = oAt X k :: X.drop (k + 1) := by
  rw [List.drop_eq_getElem_cons h]
  congr 1
  simp [oAt, h]
/-- Cut of lots that an order has; the row is a new one -/
theorem bkCut_new (base bb : Nat) (v : Value) (l : List Ord) (o : Ord) (n : Int) (w : World) (h : BookIs w base bb v l) (hl : l.length ≤ 100) (hbs : base ≤ w.heap.size) (hok : LOk l) (ho : o ∈ l) (hn : 1 ≤ n ∧ n ≤ o.qty) :
    Calls Tryz.prog 23 #[.pointer (some ⟨bb, 0, none⟩), .int .i64 o.id, .int .i64 n] w fun e w' => e = .returned (.int .i64 0) ∧ Out (fun j => j = bb) w w' ∧ ∃ v', BookIs w' base bb v' (lessF o.id n l) ∧ ∀ j, v'.ownBlock = some j → w.heap.size ≤ j := by
  refine (bkCutN base bb v l o.id n w h hl hbs hok.qtys).mono ?_
  obtain ⟨k0, hk0, h01, h02⟩ := idx_of hok ho
  obtain ⟨c1, c2⟩ := cut_is hok ho hn
  rintro e w' ⟨hO, v', ⟨h1, _, _⟩ | ⟨k, hk, h1, h2, ⟨h3, _, _⟩ | ⟨h3, he, hB, hN⟩⟩⟩
  · omega
  · obtain rfl : k = k0 := by omega
    rw [h02] at h3
    simp [hn.1, hn.2] at h3
  · obtain rfl : k = k0 := by omega
    refine ⟨he, hO, v', ?_, hN⟩
    have hne : ¬ idxO o.id l = -1 := by omega
    have hkk : (idxO o.id l).toNat = k := by omega
    unfold cutM at c1
    rw [if_neg hne, hkk, if_neg (by rw [h3]; decide)] at c1
    rw [← c1]; exact hB

/-- what Meets tells, and what it leaves -/
def MeetsIs (al : Int → Bool) (o : Ord) (l : List Ord) (base bb : Nat) (St : World → List Int → (Nat → Prop) → Prop) (D : Nat → Prop) (w : World) (e : Ending) (w' : World) : Prop :=
  ∃ (s : MS) (b : Bool) (vf v' : Value) (D' : Nat → Prop), meet al o (sideO (3 - o.side) l) ⟨[], l, o.qty, []⟩ = (s, b) ∧ e = .returned (.tuple #[vf, .agg #[.int .i64 o.id, .int .i64 o.side, .int .i64 o.kind, .int .i64 o.price, .int .i64 s.q], .bool b]) ∧ w'.ownsRow w.heap.size 59 4 vf s.fs.length (fV s.fs) ∧ BookIs w' base bb v' s.L ∧ St w' s.ts D' ∧ Out (fun j => j = bb ∨ D j) w w' ∧ ∀ j, D' j → D j ∨ w.heap.size ≤ j
theorem meets_is {al : Int → Bool} {o : Ord} {l : List Ord} {base bb : Nat} {St : World → List Int → (Nat → Prop) → Prop} {D D' : Nat → Prop} {w w' : World} {s : MS} {b : Bool} {vf v' : Value} (h : meet al o (sideO (3 - o.side) l) ⟨[], l, o.qty, []⟩ = (s, b)) (h2 : w'.ownsRow w.heap.size 59 4 vf s.fs.length (fV s.fs) ∧ BookIs w' base bb v' s.L ∧ St w' s.ts D' ∧ Out (fun j => j = bb ∨ D j) w w' ∧ ∀ j, D' j → D j ∨ w.heap.size ≤ j) :
    MeetsIs al o l base bb St D w (.returned (.tuple #[vf, .agg #[.int .i64 o.id, .int .i64 o.side, .int .i64 o.kind, .int .i64 o.price, .int .i64 s.q], .bool b])) w' := ⟨s, b, vf, v', D', h, rfl, h2⟩

set_option maxRecDepth 4000 in
set_option maxHeartbeats 8000000 in
theorem bkMeets (base bb : Nat) (v : Value) (l : List Ord) (o : Ord) (ga gt : Nat) (la lt : Array Value) (al : Int → Bool) (St : World → List Int → (Nat → Prop) → Prop) (D : Nat → Prop) (w : World) (h : BookIs w base bb v l) (hbs : base ≤ w.heap.size) (hl : l.length ≤ 100) (hok : LOk l) (hside : o.side = 1 ∨ o.side = 2) (hqb : -9223372036854775808 ≤ o.qty ∧ o.qty ≤ 9223372036854775807) (hA : AskFn ga la al (fun j => j = bb ∨ D j) w) (hT : TellFn gt lt St) (hst : St w [] D) :
    Calls Tryz.prog 13 #[.pointer (some ⟨bb, 0, none⟩), .agg #[.int .i64 o.id, .int .i64 o.side, .int .i64 o.kind, .int .i64 o.price, .int .i64 o.qty], .func (.func ga) #[] la, .func (.func gt) #[] lt] w
      fun e w' => MeetsIs al o l base bb St D w e w' := by
  obtain ⟨iF, hiF, hF0, hF1, hF2⟩ := info_parts Tryz.infoFi
  have HA : Hid (BookIs w base bb v l) := h
  have HK : Hid (LOk l) := hok
  have HAF : Hid (AskFn ga la al (fun j => j = bb ∨ D j) w) := hA
  have HTF : Hid (TellFn gt lt St) := hT
  have HST : Hid (St w [] D) := hst
  have eA := hA.enters
  have eT := hT.enters
  have hlb : bb < w.heap.size := lt_of_block h.box
  have s3 : IntKind.i64.wrap (3 - o.side) = 3 - o.side := IntWalk.i64_in _ (by omega)
  clear h hok hA hT hst
  go_enter Tryz.func13, Tryz.ntmps13
  go_wp2_with fail
  have hB0 := bel2 w (.cells #[.int .i64 o.id, .int .i64 o.side, .int .i64 o.kind, .int .i64 o.price, .int .i64 o.qty] 40) (.cells #[.int .i64 0, .int .i64 0, .int .i64 0, .int .i64 0, .int .i64 0] 40)
  have hO0 := two_old w (.cells #[.int .i64 o.id, .int .i64 o.side, .int .i64 o.kind, .int .i64 o.price, .int .i64 o.qty] 40) (.cells #[.int .i64 0, .int .i64 0, .int .i64 0, .int .i64 0, .int .i64 0] 40)
  have hR0 := two_new w (.cells #[.int .i64 o.id, .int .i64 o.side, .int .i64 o.kind, .int .i64 o.price, .int .i64 o.qty] 40) (.cells #[.int .i64 0, .int .i64 0, .int .i64 0, .int .i64 0, .int .i64 0] 40)
  generalize (w.alloc (.cells #[.int .i64 o.id, .int .i64 o.side, .int .i64 o.kind, .int .i64 o.price, .int .i64 o.qty] 40)).alloc (.cells #[.int .i64 0, .int .i64 0, .int .i64 0, .int .i64 0, .int .i64 0] 40) = w1 at hB0 hO0 hR0 ⊢
  refine (bkSide base bb v l (3 - o.side) w1 (HA.out.below hB0 (Nat.le_refl _)) (by omega) HK.out.prices).mono ?_
  rintro e w2 ⟨vx, rfl, hrx, hb2⟩
  have hm := Mt.start HTF.out HA.out HST.out hB0 hO0 hR0 (Nat.le_refl _) (by omega) (by omega) hrx hb2
  have HM0 : Hid _ := hm
  have HMO : Hid _ := MOk.start HK.out (3 - o.side) o.qty
  obtain ⟨xa, xc, rfl, _, _⟩ := owns_shape hrx
  have hXl : (sideO (3 - o.side) l).length ≤ l.length := sideO_len _ _
  generalize hX : sideO (3 - o.side) l = X at *
  have HXE : Hid (sideO (3 - o.side) l = X) := hX
  generalize w1.heap.size = B at *
  clear hX hrx hb2 hB0 hO0 hR0 hm HST
  go_wp2_with fail
  go_loopw [11, 14, 15, 23] (fun u11 _ _ u23 wr => ∃ (k : Nat) (s : MS) (vb : Value) (D' : Nat → Prop), u23 = .int .i64 k ∧ k ≤ X.length ∧ meet al o (X.drop k) s = meet al o X ⟨[], l, o.qty, []⟩ ∧ MOk (X.drop k) s ∧ s.L.length ≤ l.length ∧ s.fs.length ≤ k ∧ (-9223372036854775808 ≤ s.q ∧ s.q ≤ 9223372036854775807) ∧ Mt w wr base bb w.heap.size (w.heap.size + 1) B (.slice xa X.length xc) vb u11 X o s St D D') (fun _ _ _ u23 _ => X.length - (intOf u23).toNat)
  case atStart => exact ⟨0, _, v, D, rfl, Nat.zero_le _, rfl, HMO.out, Nat.le_refl _, Nat.le_refl _, hqb, HM0.out⟩
  case round =>
    obtain ⟨k, s, vb, D', rfl, hk, hmt, hmo, hLl, hfl, hsq, hM⟩ := hrel
    have HMT : Hid (meet al o (X.drop k) s = meet al o X ⟨[], l, o.qty, []⟩) := hmt
    have HM : Hid (Mt w wr base bb w.heap.size (w.heap.size + 1) B (.slice xa X.length xc) vb u11 X o s St D D') := hM
    have HMK : Hid (MOk (X.drop k) s) := hmo
    obtain ⟨fa, fc, rfl, _, _⟩ := owns_shape hM.fils
    clear hmt hmo HM0 HMO
    by_cases hk1 : k < X.length
    · have hlt : (k : Int) < (X.length : Int) := by omega
      obtain ⟨g, cap, e, d0, d1, d2, d3, d4⟩ := row_order hM.row hk1
      injection e with e1 _ e2
      subst e1 e2
      have HD : Hid (X.drop k = oAt X k :: X.drop (k + 1)) := oAt_drop hk1
      generalize oAt X k = x at d0 d1 d2 d3 d4 HD
      clear hM
      go_upto_region 6 with fail
      have hbA := bel1 wr (.cells #[.int .i64 x.id, .int .i64 x.side, .int .i64 x.kind, .int .i64 x.price, .int .i64 x.qty] 40)
      have hxA := heap_alloc_new wr (.cells #[.int .i64 x.id, .int .i64 x.side, .int .i64 x.kind, .int .i64 x.price, .int .i64 x.qty] 40)
      have hMW := HM.out.below HTF.out hbA
      generalize wr.alloc (.cells #[.int .i64 x.id, .int .i64 x.side, .int .i64 x.kind, .int .i64 x.price, .int .i64 x.qty] 40) = W at hbA hxA hMW ⊢
      have hR := HM.out.res
      clear hbA HM d0 d1 d2 d3 d4
      have hxb : w.heap.size + 1 < wr.heap.size := lt_of_block hR
      clear hR
      generalize wr.heap.size = xb at hxA hxb ⊢
      have HX : Hid (DBox W xb x) := hxA
      have HM : Hid (Mt w W base bb w.heap.size (w.heap.size + 1) B (.slice (some ⟨g, 0, none⟩) X.length xc) vb (.slice fa s.fs.length fc) X o s St D D') := hMW
      have x0 := blk_cell (j := 0) hxA rfl
      have x2 := blk_cell (j := 2) hxA rfl
      have x3 := blk_cell (j := 3) hxA rfl
      have x4 := blk_cell (j := 4) hxA rfl
      have hoA : W.heap[w.heap.size]? = some (.cells #[.int .i64 o.id, .int .i64 o.side, .int .i64 o.kind, .int .i64 o.price, .int .i64 s.q] 40 (0, 0)) := hMW.box
      have o0 := blk_cell (j := 0) hoA rfl
      have o1 := blk_cell (j := 1) hoA rfl
      have o2 := blk_cell (j := 2) hoA rfl
      have o3 := blk_cell (j := 3) hoA rfl
      have o4 := blk_cell (j := 4) hoA rfl
      clear hxA hMW hoA
      by_cases hq : s.q ≤ 0
      · have HE0 : Hid (meet al o X ⟨[], l, o.qty, []⟩ = (s, false)) := by have := HMT.out; rw [meet_done hq] at this; exact this.symm
        go_wp2_with fail
        have hz := HM.out.res
        have z0 := blk_cell (j := 0) hz rfl
        have z1 := blk_cell (j := 1) hz rfl
        have z2 := blk_cell (j := 2) hz rfl
        have z3 := blk_cell (j := 3) hz rfl
        have z4 := blk_cell (j := 4) hz rfl
        have f0 := blk_free (j := 0) hz
        have f1 := blk_free (j := 1) hz
        have f2 := blk_free (j := 2) hz
        have f3 := blk_free (j := 3) hz
        have f4 := blk_free (j := 4) hz
        have HE : Hid (meet al o (sideO (3 - o.side) l) ⟨[], l, o.qty, []⟩ = (s, false)) := by show _ = _; rw [HXE.out]; exact HE0.out
        have hend := HM.out.done HTF.out
        unfold boxed leftO DBox at hend
        have HEND : Hid _ := hend
        clear hz hend
        go_region
        all_goals go_wp2_with fail
        all_goals generalize (((((W.setCell ⟨w.heap.size + 1, 0, none⟩ (.int .i64 o.id)).setCell ⟨w.heap.size + 1, 1, none⟩ (.int .i64 o.side)).setCell ⟨w.heap.size + 1, 2, none⟩ (.int .i64 o.kind)).setCell ⟨w.heap.size + 1, 3, none⟩ (.int .i64 o.price)).setCell ⟨w.heap.size + 1, 4, none⟩ (.int .i64 s.q)).drew = wz at HEND ⊢
        all_goals have e0 := blk_cell (j := 0) HEND.out.1 rfl
        all_goals have e1 := blk_cell (j := 1) HEND.out.1 rfl
        all_goals have e2 := blk_cell (j := 2) HEND.out.1 rfl
        all_goals have e3 := blk_cell (j := 3) HEND.out.1 rfl
        all_goals have e4 := blk_cell (j := 4) HEND.out.1 rfl
        all_goals refine bodyPost_ret (by simp [results, Tryz.results13, go_sem, e0, e1, e2, e3, e4]; try rfl) rfl ?_
        all_goals exact meets_is HE.out HEND.out.2
      · have hq1 : 0 < s.q := by omega
        have HPX : Hid (1 ≤ x.price ∧ x.price ≤ 1000000 ∧ 1 ≤ x.qty ∧ x.qty ≤ 1000000) := by
          have hm := HMK.out
          rw [HD.out] at hm
          exact hm.ok.ok x (hm.here x (List.mem_cons_self ..))
        by_cases hm : x.kind = 2
        · have hmb : (x.kind == 2) = true := beq_iff_eq.2 hm
          have HM2 : Hid (meet al o (X.drop (k + 1)) s = meet al o X ⟨[], l, o.qty, []⟩) := by have := HMT.out; rw [HD.out, meet_pass hq1 hm] at this; exact this
          have HK2 : Hid (MOk (X.drop (k + 1)) s) := by have h1 := HMK.out; rw [HD.out] at h1; exact h1.pass
          go_wp2_with fail
          go_roundw
          case rel => exact ⟨k + 1, s, vb, D', by go_num, hk1, HM2.out, HK2.out, hLl, by omega, hsq, HM.out⟩
          case measure => simp [RowKit.intOf]; omega
        · have hmb : (x.kind == 2) = false := beq_eq_false_iff_ne.2 hm
          have HMN : Hid (x.kind ≠ 2) := hm
          clear hm
          cases hfar : farB o x with
          | true =>
            have HE0 : Hid (meet al o X ⟨[], l, o.qty, []⟩ = (s, false)) := by have := HMT.out; rw [HD.out, meet_far hq1 HMN.out hfar] at this; exact this.symm
            have hf2 : o.kind ≠ 2 ∧ (o.side = 1 ∧ o.price < x.price ∨ o.side = 2 ∧ x.price < o.price) := by simpa [farB] using hfar
            obtain ⟨hok2, hf3⟩ := hf2
            have hokb : (o.kind == 2) = false := beq_eq_false_iff_ne.2 hok2
            clear hside
            rcases hf3 with ⟨hs1, hlt2⟩ | ⟨hs1, hlt2⟩
            · have hsb : (o.side == 1) = true := beq_iff_eq.2 hs1
              clear hs1
              go_wp2_with fail
              have hz := HM.out.res
              have z0 := blk_cell (j := 0) hz rfl
              have z1 := blk_cell (j := 1) hz rfl
              have z2 := blk_cell (j := 2) hz rfl
              have z3 := blk_cell (j := 3) hz rfl
              have z4 := blk_cell (j := 4) hz rfl
              have f0 := blk_free (j := 0) hz
              have f1 := blk_free (j := 1) hz
              have f2 := blk_free (j := 2) hz
              have f3 := blk_free (j := 3) hz
              have f4 := blk_free (j := 4) hz
              have HE : Hid (meet al o (sideO (3 - o.side) l) ⟨[], l, o.qty, []⟩ = (s, false)) := by show _ = _; rw [HXE.out]; exact HE0.out
              have hend := HM.out.done HTF.out
              unfold boxed leftO DBox at hend
              have HEND : Hid _ := hend
              clear hz hend
              go_region
              all_goals go_wp2_with fail
              all_goals generalize (((((W.setCell ⟨w.heap.size + 1, 0, none⟩ (.int .i64 o.id)).setCell ⟨w.heap.size + 1, 1, none⟩ (.int .i64 o.side)).setCell ⟨w.heap.size + 1, 2, none⟩ (.int .i64 o.kind)).setCell ⟨w.heap.size + 1, 3, none⟩ (.int .i64 o.price)).setCell ⟨w.heap.size + 1, 4, none⟩ (.int .i64 s.q)).drew = wz at HEND ⊢
              all_goals have e0 := blk_cell (j := 0) HEND.out.1 rfl
              all_goals have e1 := blk_cell (j := 1) HEND.out.1 rfl
              all_goals have e2 := blk_cell (j := 2) HEND.out.1 rfl
              all_goals have e3 := blk_cell (j := 3) HEND.out.1 rfl
              all_goals have e4 := blk_cell (j := 4) HEND.out.1 rfl
              all_goals refine bodyPost_ret (by simp [results, Tryz.results13, go_sem, e0, e1, e2, e3, e4]; try rfl) rfl ?_
              all_goals exact meets_is HE.out HEND.out.2
            · have hsb : (o.side == 1) = false := beq_eq_false_iff_ne.2 (by omega)
              have hsb2 : (o.side == 2) = true := beq_iff_eq.2 hs1
              clear hs1
              go_wp2_with fail
              have hz := HM.out.res
              have z0 := blk_cell (j := 0) hz rfl
              have z1 := blk_cell (j := 1) hz rfl
              have z2 := blk_cell (j := 2) hz rfl
              have z3 := blk_cell (j := 3) hz rfl
              have z4 := blk_cell (j := 4) hz rfl
              have f0 := blk_free (j := 0) hz
              have f1 := blk_free (j := 1) hz
              have f2 := blk_free (j := 2) hz
              have f3 := blk_free (j := 3) hz
              have f4 := blk_free (j := 4) hz
              have HE : Hid (meet al o (sideO (3 - o.side) l) ⟨[], l, o.qty, []⟩ = (s, false)) := by show _ = _; rw [HXE.out]; exact HE0.out
              have hend := HM.out.done HTF.out
              unfold boxed leftO DBox at hend
              have HEND : Hid _ := hend
              clear hz hend
              go_region
              all_goals go_wp2_with fail
              all_goals generalize (((((W.setCell ⟨w.heap.size + 1, 0, none⟩ (.int .i64 o.id)).setCell ⟨w.heap.size + 1, 1, none⟩ (.int .i64 o.side)).setCell ⟨w.heap.size + 1, 2, none⟩ (.int .i64 o.kind)).setCell ⟨w.heap.size + 1, 3, none⟩ (.int .i64 o.price)).setCell ⟨w.heap.size + 1, 4, none⟩ (.int .i64 s.q)).drew = wz at HEND ⊢
              all_goals have e0 := blk_cell (j := 0) HEND.out.1 rfl
              all_goals have e1 := blk_cell (j := 1) HEND.out.1 rfl
              all_goals have e2 := blk_cell (j := 2) HEND.out.1 rfl
              all_goals have e3 := blk_cell (j := 3) HEND.out.1 rfl
              all_goals have e4 := blk_cell (j := 4) HEND.out.1 rfl
              all_goals refine bodyPost_ret (by simp [results, Tryz.results13, go_sem, e0, e1, e2, e3, e4]; try rfl) rfl ?_
              all_goals exact meets_is HE.out HEND.out.2
          | false =>
            go_upto_if 35 with fail
            go_cut [] from 35 to 55 (fun wc => wc = W)
            case first =>
              by_cases hok2 : o.kind = 2
              · have hokb : (o.kind == 2) = true := beq_iff_eq.2 hok2
                clear hok2
                go_wp2_with fail
                go_meet
                rfl
              · have hokb : (o.kind == 2) = false := beq_eq_false_iff_ne.2 hok2
                rcases hside with hs1 | hs1
                · have hsb : (o.side == 1) = true := beq_iff_eq.2 hs1
                  have hsb2 : (o.side == 2) = false := beq_eq_false_iff_ne.2 (by omega)
                  have hle : ¬ o.price < x.price := by simpa [farB, hok2, hs1] using hfar
                  clear hs1 hok2
                  go_wp2_with fail
                  go_meet
                  rfl
                · have hsb : (o.side == 1) = false := beq_eq_false_iff_ne.2 (by omega)
                  have hsb2 : (o.side == 2) = true := beq_iff_eq.2 hs1
                  have hle : ¬ x.price < o.price := by simpa [farB, hok2, hs1] using hfar
                  clear hs1 hok2
                  go_wp2_with fail
                  go_meet
                  rfl
            case rest =>
              subst hcut
              have HS : Hid (o.side = 1 ∨ o.side = 2) := hside
              clear hside
              go_wp2_with fail
              refine (HAF.out.tells wc HM.out.out x.price HPX.out.1 HPX.out.2.1).mono ?_
              rintro e w4 ⟨rfl, hb4⟩
              have hM4 := HM.out.below HTF.out hb4
              have hX4 : DBox w4 xb x := blk_below HX.out hb4 (Nat.le_refl _)
              clear hb4 x0 x2 x3 x4 o0 o1 o2 o3 o4 HM HX
              have HX : Hid (DBox w4 xb x) := hX4
              have HM : Hid (Mt w w4 base bb w.heap.size (w.heap.size + 1) B (.slice (some ⟨g, 0, none⟩) X.length xc) vb (.slice fa s.fs.length fc) X o s St D D') := hM4
              have x0 := blk_cell (j := 0) hX4 rfl
              have x3 := blk_cell (j := 3) hX4 rfl
              have x4 := blk_cell (j := 4) hX4 rfl
              have hoA : w4.heap[w.heap.size]? = some (.cells #[.int .i64 o.id, .int .i64 o.side, .int .i64 o.kind, .int .i64 o.price, .int .i64 s.q] 40 (0, 0)) := hM4.box
              have o0 := blk_cell (j := 0) hoA rfl
              have o1 := blk_cell (j := 1) hoA rfl
              have o2 := blk_cell (j := 2) hoA rfl
              have o3 := blk_cell (j := 3) hoA rfl
              have o4 := blk_cell (j := 4) hoA rfl
              clear hM4 hX4 hoA
              cases ha : al x.price with
              | false =>
                have HE0 : Hid (meet al o X ⟨[], l, o.qty, []⟩ = (s, true)) := by have := HMT.out; rw [HD.out, meet_stop hq1 HMN.out hfar ha] at this; exact this.symm
                go_wp2_with fail
                have hz := HM.out.res
                have z0 := blk_cell (j := 0) hz rfl
                have z1 := blk_cell (j := 1) hz rfl
                have z2 := blk_cell (j := 2) hz rfl
                have z3 := blk_cell (j := 3) hz rfl
                have z4 := blk_cell (j := 4) hz rfl
                have f0 := blk_free (j := 0) hz
                have f1 := blk_free (j := 1) hz
                have f2 := blk_free (j := 2) hz
                have f3 := blk_free (j := 3) hz
                have f4 := blk_free (j := 4) hz
                have HE : Hid (meet al o (sideO (3 - o.side) l) ⟨[], l, o.qty, []⟩ = (s, true)) := by show _ = _; rw [HXE.out]; exact HE0.out
                have hend := HM.out.done HTF.out
                unfold boxed leftO DBox at hend
                have HEND : Hid _ := hend
                clear hz hend
                go_region
                all_goals go_wp2_with fail
                all_goals generalize (((((w4.setCell ⟨w.heap.size + 1, 0, none⟩ (.int .i64 o.id)).setCell ⟨w.heap.size + 1, 1, none⟩ (.int .i64 o.side)).setCell ⟨w.heap.size + 1, 2, none⟩ (.int .i64 o.kind)).setCell ⟨w.heap.size + 1, 3, none⟩ (.int .i64 o.price)).setCell ⟨w.heap.size + 1, 4, none⟩ (.int .i64 s.q)).drew = wz at HEND ⊢
                all_goals have e0 := blk_cell (j := 0) HEND.out.1 rfl
                all_goals have e1 := blk_cell (j := 1) HEND.out.1 rfl
                all_goals have e2 := blk_cell (j := 2) HEND.out.1 rfl
                all_goals have e3 := blk_cell (j := 3) HEND.out.1 rfl
                all_goals have e4 := blk_cell (j := 4) HEND.out.1 rfl
                all_goals refine bodyPost_ret (by simp [results, Tryz.results13, go_sem, e0, e1, e2, e3, e4]; try rfl) rfl ?_
                all_goals exact meets_is HE.out HEND.out.2
              | true =>
                have HE0 : Hid (meet al o (X.drop (k + 1)) (mstep o x s) = meet al o X ⟨[], l, o.qty, []⟩) := by have := HMT.out; rw [HD.out, meet_trade hq1 HMN.out hfar ha] at this; exact this
                have hk100 : s.fs.length ≤ 100 := by omega
                have hw4 : w.heap.size ≤ w4.heap.size := HM.out.out.size
                go_upto_if 70 with fail
                go_cut [11] from 70 to 92 (fun u11 wc => ∃ (fa' : Option Addr) (fc' : Nat), u11 = .slice fa' (s.fs.length + 1) fc' ∧ Mt w wc base bb w.heap.size (w.heap.size + 1) B (.slice (some ⟨g, 0, none⟩) X.length xc) vb u11 X o ⟨s.fs ++ [mfill o x (min s.q x.qty)], s.L, s.q, s.ts⟩ St D D' ∧ DBox wc xb x)
                case first =>
                  rcases HS.out with hs1 | hs1
                  · have hsb : (o.side == 1) = true := beq_iff_eq.2 hs1
                    have HF : Hid (mfill o x (min s.q x.qty) = ⟨o.id, x.id, x.price, min s.q x.qty⟩) := if_pos hs1
                    clear hs1
                    go_wp2_with (at_builtin; refine wpList_append_own_at _ rfl _ _ 27 rfl w.heap.size 59 iF (.agg #[.int .i64 0, .int .i64 0, .int .i64 0, .int .i64 0]) 4 32 Tryz.underlying27 hiF hF0 hF1 hF2 rfl (by decide) _ s.fs.length (fV s.fs) rfl (HM.out.fils.alloc _) ⟨w4.heap.size, 0, none⟩ 1 1 [.int .i64 o.id, .int .i64 x.id, .int .i64 x.price, .int .i64 (min s.q x.qty)] rfl rfl (World.news_of_block (cs := #[.int .i64 o.id, .int .i64 x.id, .int .i64 x.price, .int .i64 (min s.q x.qty)]) (t := 59) (fr := (0, 0)) (heap_alloc_new w4 _)) (by simp [Value.oneCell']) (by unfold maxLen; omega) (by omega) (by simp; omega) ?_; intro v6 w6 hown6 hgrow6 _ _; have HW6 : Hid _ := hown6; have HG6 : Hid _ := hgrow6; clear hown6 hgrow6)
                    obtain ⟨fa', fc', rfl, _, _⟩ := owns_shape HW6.out
                    go_meet
                    exact ⟨fa', fc', rfl, by rw [HF.out]; exact HM.out.push HTF.out HG6.out HW6.out, HM.out.pushX HG6.out HX.out⟩
                  · have hsb : (o.side == 1) = false := beq_eq_false_iff_ne.2 (by omega)
                    have HF : Hid (mfill o x (min s.q x.qty) = ⟨x.id, o.id, x.price, min s.q x.qty⟩) := if_neg (by omega)
                    clear hs1
                    go_wp2_with (at_builtin; refine wpList_append_own_at _ rfl _ _ 27 rfl w.heap.size 59 iF (.agg #[.int .i64 0, .int .i64 0, .int .i64 0, .int .i64 0]) 4 32 Tryz.underlying27 hiF hF0 hF1 hF2 rfl (by decide) _ s.fs.length (fV s.fs) rfl (HM.out.fils.alloc _) ⟨w4.heap.size, 0, none⟩ 1 1 [.int .i64 x.id, .int .i64 o.id, .int .i64 x.price, .int .i64 (min s.q x.qty)] rfl rfl (World.news_of_block (cs := #[.int .i64 x.id, .int .i64 o.id, .int .i64 x.price, .int .i64 (min s.q x.qty)]) (t := 59) (fr := (0, 0)) (heap_alloc_new w4 _)) (by simp [Value.oneCell']) (by unfold maxLen; omega) (by omega) (by simp; omega) ?_; intro v6 w6 hown6 hgrow6 _ _; have HW6 : Hid _ := hown6; have HG6 : Hid _ := hgrow6; clear hown6 hgrow6)
                    obtain ⟨fa', fc', rfl, _, _⟩ := owns_shape HW6.out
                    go_meet
                    exact ⟨fa', fc', rfl, by rw [HF.out]; exact HM.out.push HTF.out HG6.out HW6.out, HM.out.pushX HG6.out HX.out⟩
                case rest =>
                  obtain ⟨fa', fc', rfl, hM5, hX5⟩ := hcut
                  have hmk := HMK.out
                  rw [HD.out] at hmk
                  have hlots := hmk.lots hq1
                  have HMX : Hid (MOk (x :: X.drop (k + 1)) s) := hmk
                  have HM5 : Hid _ := hM5
                  have HX5 : Hid (DBox wc xb x) := hX5
                  have x0 := blk_cell (j := 0) hX5 rfl
                  have hwc : w.heap.size ≤ wc.heap.size := hM5.out.size
                  clear hM5 hX5 hmk HM HX
                  go_wp2_with fail
                  refine (bkCut_new base bb vb s.L x (min s.q x.qty) wc HM5.out.book (by omega) (by omega) HMX.out.ok (HMX.out.here x (List.mem_cons_self ..)) ⟨hlots.1, hlots.2.1⟩).mono ?_
                  rintro e w7 ⟨rfl, ho7, v7, hb7, hn7⟩
                  have hM7 := HM5.out.cut HTF.out ho7 hb7 hn7
                  have hX7 : DBox w7 xb x := blk_out HX5.out ho7 (blk_ne HX5.out HM5.out.book.box (by decide))
                  have HM7 : Hid _ := hM7
                  have x7 := blk_cell (j := 3) hX7 rfl
                  have hoB : w7.heap[w.heap.size]? = some (.cells #[.int .i64 o.id, .int .i64 o.side, .int .i64 o.kind, .int .i64 o.price, .int .i64 s.q] 40 (0, 0)) := hM7.box
                  have o7 := blk_cell (j := 4) hoB rfl
                  have f7 := blk_free (j := 4) hoB
                  have nxb : xb ≠ w.heap.size := by omega
                  have q4 : IntKind.i64.wrap (s.q - min s.q x.qty) = s.q - min s.q x.qty := IntWalk.i64_in _ (by omega)
                  clear ho7 hb7 hn7 hM7 hX7 hoB HM5 HX5
                  go_wp2_with fail
                  have hM8 := HM7.out.left HTF.out (s.q - min s.q x.qty)
                  generalize w7.setCell ⟨w.heap.size, 4, none⟩ (.int .i64 (s.q - min s.q x.qty)) = w8 at hM8 ⊢
                  have hone := HMX.out.one
                  refine (HTF.out.tells hM8.told (by show s.ts.length ≤ 1000; omega) x.price).mono ?_
                  rintro e w9 ⟨rfl, D2, ht9, ho9, hd9⟩
                  have HM9 : Hid (Mt w w9 base bb w.heap.size (w.heap.size + 1) B (.slice (some ⟨g, 0, none⟩) X.length xc) v7 (.slice fa' (s.fs.length + 1) fc') X o (mstep o x s) St D D2) := hM8.tell HTF.out ht9 ho9 hd9
                  have HK2 : Hid (MOk (X.drop (k + 1)) (mstep o x s)) := HMX.out.step o hq1
                  clear hM8 ht9 ho9 hd9
                  go_wp2_with fail
                  go_roundw
                  case rel =>
                    refine ⟨k + 1, mstep o x s, v7, D2, by go_num, hk1, HE0.out, HK2.out, Nat.le_trans (less_len _ _ _) hLl, ?_, ?_, HM9.out⟩
                    · show (s.fs ++ [_]).length ≤ k + 1
                      rw [List.length_append, List.length_singleton]; omega
                    · show -9223372036854775808 ≤ s.q - min s.q x.qty ∧ s.q - min s.q x.qty ≤ 9223372036854775807
                      omega
                  case measure => simp [RowKit.intOf]; omega
    · have hkx : k = X.length := by omega
      have hoA : wr.heap[w.heap.size]? = some (.cells #[.int .i64 o.id, .int .i64 o.side, .int .i64 o.kind, .int .i64 o.price, .int .i64 s.q] 40 (0, 0)) := hM.box
      have o0 := blk_cell (j := 0) hoA rfl
      have o1 := blk_cell (j := 1) hoA rfl
      have o2 := blk_cell (j := 2) hoA rfl
      have o3 := blk_cell (j := 3) hoA rfl
      have o4 := blk_cell (j := 4) hoA rfl
      have HE0 : Hid (meet al o X ⟨[], l, o.qty, []⟩ = (s, false)) := by have := HMT.out; rw [List.drop_eq_nil_of_le (by omega)] at this; exact this.symm
      clear hM hoA
      go_wp2_with fail
      have hz := HM.out.res
      have z0 := blk_cell (j := 0) hz rfl
      have z1 := blk_cell (j := 1) hz rfl
      have z2 := blk_cell (j := 2) hz rfl
      have z3 := blk_cell (j := 3) hz rfl
      have z4 := blk_cell (j := 4) hz rfl
      have f0 := blk_free (j := 0) hz
      have f1 := blk_free (j := 1) hz
      have f2 := blk_free (j := 2) hz
      have f3 := blk_free (j := 3) hz
      have f4 := blk_free (j := 4) hz
      have HE : Hid (meet al o (sideO (3 - o.side) l) ⟨[], l, o.qty, []⟩ = (s, false)) := by show _ = _; rw [HXE.out]; exact HE0.out
      have hend := HM.out.done HTF.out
      unfold boxed leftO DBox at hend
      have HEND : Hid _ := hend
      clear hz hend
      go_region
      all_goals go_wp2_with fail
      all_goals generalize (((((wr.setCell ⟨w.heap.size + 1, 0, none⟩ (.int .i64 o.id)).setCell ⟨w.heap.size + 1, 1, none⟩ (.int .i64 o.side)).setCell ⟨w.heap.size + 1, 2, none⟩ (.int .i64 o.kind)).setCell ⟨w.heap.size + 1, 3, none⟩ (.int .i64 o.price)).setCell ⟨w.heap.size + 1, 4, none⟩ (.int .i64 s.q)).drew = wz at HEND ⊢
      all_goals have e0 := blk_cell (j := 0) HEND.out.1 rfl
      all_goals have e1 := blk_cell (j := 1) HEND.out.1 rfl
      all_goals have e2 := blk_cell (j := 2) HEND.out.1 rfl
      all_goals have e3 := blk_cell (j := 3) HEND.out.1 rfl
      all_goals have e4 := blk_cell (j := 4) HEND.out.1 rfl
      all_goals refine bodyPost_ret (by simp [results, Tryz.results13, go_sem, e0, e1, e2, e3, e4]; try rfl) rfl ?_
      all_goals exact meets_is HE.out HEND.out.2
end Go.Proofs.YtcoijhofliilmabGreatDoor

/-
  What the program's small functions of chapter 8 return (willing, lying, lots, between, other), over this seat's translation. Conditions stand in each theorem.
-/
namespace Go.Proofs.YtcoijhofliilmabGreatDoor
open Go.RowKit

/-- 8.1, as the program asks it: is an order willing at a price? -/
def wilP (p : Int) (o : Ord) : Bool := if (o.kind == 2) = true then true else if (o.side == 1) = true then decide (p ≤ o.price) else decide (o.price ≤ p)
theorem wilP_is {s p : Int} {o : Ord} (hs : s = 1 ∨ s = 2) (ho : o.side = s) : wilP p o = wilB s p o := by
  unfold wilP wilB
  rw [ho]
  rcases hs with rfl | rfl
  · by_cases h : (o.kind == 2) = true
    · rw [if_pos h, h]; rfl
    · rw [if_neg h, show (o.kind == 2) = false from Bool.eq_false_iff.2 h]; simp
  · by_cases h : (o.kind == 2) = true
    · rw [if_pos h, h]; rfl
    · rw [if_neg h, show (o.kind == 2) = false from Bool.eq_false_iff.2 h]; simp

set_option maxHeartbeats 1000000 in
theorem cpWilling (p : Int) (w : World) : Calls Tryz.prog 24 #[.int .i64 p] w fun e w' => e = .returned (.func (.func 52) #[] #[.pointer (some ⟨w.heap.size, 0, none⟩)]) ∧ w' = w.alloc (.cells #[.int .i64 p] 3) := by
  go_enter Tryz.func24, Tryz.ntmps24
  go_wp2
  go_ret
  exact ⟨rfl, rfl⟩

set_option maxRecDepth 4000 in
set_option maxHeartbeats 1000000 in
theorem cpWil (p : Int) (o : Ord) (b : Nat) (w : World) (h : w.heap[b]? = some (.cells #[.int .i64 p] 3 (0, 0))) :
    Calls Tryz.prog 52 #[.agg #[.int .i64 o.id, .int .i64 o.side, .int .i64 o.kind, .int .i64 o.price, .int .i64 o.qty], .pointer (some ⟨b, 0, none⟩)] w fun e w' => e = .returned (.bool (wilP p o)) ∧ Below w.heap.size w w' := by
  have hb := bel1 w (.cells #[.int .i64 o.id, .int .i64 o.side, .int .i64 o.kind, .int .i64 o.price, .int .i64 o.qty] 40)
  have c0 := blk_cell (j := 0) (blk_below h hb (Nat.le_refl _)) rfl
  have HB : Hid _ := hb
  clear h hb
  unfold wilP
  cases hk : (o.kind == 2) with
  | true =>
    go_enter Tryz.func52, Tryz.ntmps52
    go_wp2
    go_ret
    exact ⟨rfl, HB.out⟩
  | false =>
    cases hs : (o.side == 1) with
    | true =>
      go_enter Tryz.func52, Tryz.ntmps52
      go_wp2
      go_ret
      exact ⟨rfl, HB.out⟩
    | false =>
      go_enter Tryz.func52, Tryz.ntmps52
      go_wp2
      go_ret
      exact ⟨rfl, HB.out⟩

set_option maxHeartbeats 1000000 in
/-- the orders of a side -/
theorem cpLying (bb m s : Nat) (b : BkS) (L : List Ord) (w : World) (h : Bk w bb m b) (hl : Lnk b.S L) (hs : s < 2) (side : Int) (hsd : side = (s : Int) + 1) :
    Calls Tryz.prog 37 #[.pointer (some ⟨bb, 0, none⟩), .int .i64 side] w fun e w' => ∃ v, e = .returned v ∧ w'.ownsRow w.heap.size 40 5 v (sideO side L).length (oV (sideO side L)) ∧ Below w.heap.size w w' := by
  have H : Hid (Bk w bb m b) := h
  have e1 : (b.S s).map Ly.o = sideO side L := by rw [hsd]; exact hl.side s hs
  have HE : Hid ((b.S s).map Ly.o = sideO side L) := e1
  have HSD : Hid (side = (s : Int) + 1) := hsd
  clear h e1 hl hsd
  go_enter Tryz.func37, Tryz.ntmps37
  go_wp2_with fail
  refine (pbSideOf bb m s b w H.out hs side HSD.out).mono ?_
  rintro e w1 ⟨v, rfl, h1, h2⟩
  rw [HE.out, show (b.S s).length = (sideO side L).length by rw [← HE.out, List.length_map]] at h1
  have H1 : Hid _ := h1
  have H2 : Hid _ := h2
  clear h1 h2
  go_wp2_with fail
  go_ret
  exact ⟨v, rfl, H1.out, H2.out⟩

set_option maxHeartbeats 1000000 in
theorem cpOther (s : Int) (hs : s = 1 ∨ s = 2) (w : World) : Calls Tryz.prog 38 #[.int .i64 s] w fun e w' => e = .returned (.int .i64 (3 - s)) ∧ w' = w := by
  rcases hs with rfl | rfl
  · go_enter Tryz.func38, Tryz.ntmps38
    go_wp2
    go_ret
    exact ⟨rfl, rfl⟩
  · go_enter Tryz.func38, Tryz.ntmps38
    go_wp2
    go_ret
    exact ⟨rfl, rfl⟩
end Go.Proofs.YtcoijhofliilmabGreatDoor

/-
  What the program's between and lots (8.1) return, over this seat's translation. Conditions stand in each theorem.
-/
namespace Go.Proofs.YtcoijhofliilmabGreatDoor
open Go.RowKit

set_option maxRecDepth 4000 in
set_option maxHeartbeats 2000000 in
theorem cpBetween1 (o x : Ord) (p : Int) (w : World) (hs : (o.side == 2) = false) :
    Calls Tryz.prog 27 #[.agg #[.int .i64 o.id, .int .i64 o.side, .int .i64 o.kind, .int .i64 o.price, .int .i64 o.qty], .agg #[.int .i64 x.id, .int .i64 x.side, .int .i64 x.kind, .int .i64 x.price, .int .i64 x.qty], .int .i64 p] w
      fun e w' => e = .returned (.agg #[.int .i64 o.id, .int .i64 x.id, .int .i64 p, .int .i64 (min o.qty x.qty)]) ∧ Below w.heap.size w w' := by
  have HS : Hid ((o.side == 2) = false) := hs
  go_enter Tryz.func27, Tryz.ntmps27
  go_wp2_with fail
  refine bodyPost_ret (by simp [results, Tryz.results27, go_sem]; try rfl) rfl ?_
  refine ⟨rfl, ?_⟩
  (repeat' first | assumption | exact Below.refl _ _ | exact Nat.le_refl _ | refine Below.alloc ?_ ?_ _ | refine Below.setCell ?_ ?_ _ | (simp; done) | (simp; omega))

set_option maxRecDepth 4000 in
set_option maxHeartbeats 4000000 in
theorem cpBetween2 (o x : Ord) (p : Int) (w : World) (hs : (o.side == 2) = true) :
    Calls Tryz.prog 27 #[.agg #[.int .i64 o.id, .int .i64 o.side, .int .i64 o.kind, .int .i64 o.price, .int .i64 o.qty], .agg #[.int .i64 x.id, .int .i64 x.side, .int .i64 x.kind, .int .i64 x.price, .int .i64 x.qty], .int .i64 p] w
      fun e w' => e = .returned (.agg #[.int .i64 x.id, .int .i64 o.id, .int .i64 p, .int .i64 (min x.qty o.qty)]) ∧ Below w.heap.size w w' := by
  have HS : Hid ((o.side == 2) = true) := hs
  go_enter Tryz.func27, Tryz.ntmps27
  go_wp2_with fail
  refine bodyPost_ret (by simp [results, Tryz.results27, go_sem]; try rfl) rfl ?_
  refine ⟨rfl, ?_⟩
  (repeat' first | assumption | exact Below.refl _ _ | exact Nat.le_refl _ | refine Below.alloc ?_ ?_ _ | refine Below.setCell ?_ ?_ _ | (simp; done) | (simp; omega))

def lotsP (p : Int) (X : List Ord) : Int := (X.map fun o => if wilP p o = true then o.qty else 0).sum
theorem lotsP_take {X : List Ord} {k : Nat} (p : Int) (h : k < X.length) : lotsP p (X.take (k + 1)) = lotsP p (X.take k) + (if wilP p (oAt X k) = true then (oAt X k).qty else 0) := by
  unfold lotsP
  rw [List.take_succ_eq_append_getElem h, List.map_append, List.sum_append, ← oAt_eq h]
  simp
theorem sum_perm {f : Ord → Int} {a b : List Ord} (h : a.Perm b) : (a.map f).sum = (b.map f).sum := by
  induction h with
  | nil => rfl
  | cons x _ ih => simp [ih]
  | swap x y l => simp; omega
  | trans _ _ i1 i2 => exact i1.trans i2
theorem lotsP_on (s p : Int) (hs : s = 1 ∨ s = 2) : ∀ L : List Ord, lotsP p (onSide s L) = wilL s p L
  | [] => rfl
  | o :: L => by
    have ih := lotsP_on s p hs L
    rw [wilL_cons, ← ih]
    unfold onSide
    by_cases h : (o.side == s) = true
    · have e : (o :: L).filter (fun o => o.side == s) = o :: L.filter (fun o => o.side == s) := List.filter_cons_of_pos (by exact h)
      rw [e, h, Bool.true_and, ← wilP_is hs (beq_iff_eq.1 h)]
      rfl
    · have e : (o :: L).filter (fun o => o.side == s) = L.filter (fun o => o.side == s) := List.filter_cons_of_neg (by exact h)
      rw [e, if_neg (by rw [show (o.side == s) = false from Bool.eq_false_iff.2 h]; simp)]
      omega
theorem lotsP_is {s p : Int} (hs : s = 1 ∨ s = 2) (L : List Ord) : lotsP p (sideO s L) = wilL s p L := by
  rw [← lotsP_on s p hs L]
  exact sum_perm (ssort_perm _ _)
theorem lotsP_in {p : Int} {X : List Ord} (h : ∀ o ∈ X, 1 ≤ o.qty ∧ o.qty ≤ 1000000) : ∀ k, k ≤ X.length → 0 ≤ lotsP p (X.take k) ∧ lotsP p (X.take k) ≤ 1000000 * (k : Int)
  | 0, _ => by simp [lotsP]
  | k + 1, hk => by
    have ih := lotsP_in (p := p) h k (by omega)
    have hx := h (oAt X k) (oAt_in (by omega))
    rw [lotsP_take p (by omega)]
    split <;> omega

set_option maxRecDepth 4000 in
set_option maxHeartbeats 4000000 in
theorem cpLots (bb m s : Nat) (b : BkS) (L : List Ord) (p : Int) (pb : Nat) (w : World) (h : Bk w bb m b) (hl : Lnk b.S L) (hok : LOk L) (hs : s < 2) (side : Int) (hsd : side = (s : Int) + 1) (hp : w.heap[pb]? = some (.cells #[.int .i64 p] 3 (0, 0))) :
    Calls Tryz.prog 25 #[.pointer (some ⟨bb, 0, none⟩), .int .i64 side, .func (.func 52) #[] #[.pointer (some ⟨pb, 0, none⟩)]] w fun e w' => e = .returned (.int .i64 (wilL side p L)) ∧ Below w.heap.size w w' := by
  have H : Hid (Bk w bb m b) := h
  have HL : Hid (Lnk b.S L) := hl
  have HP : Hid (w.heap[pb]? = some (.cells #[.int .i64 p] 3 (0, 0))) := hp
  have HQ : Hid (∀ o ∈ sideO side L, 1 ≤ o.qty ∧ o.qty ≤ 1000000) := fun o ho => (hok.ok o (sideO_mem.1 ho).1).2.2
  have hlen : (sideO side L).length ≤ 100 := Nat.le_trans (sideO_len _ _) (lnk_few h.ok hl)
  have HW : Hid (lotsP p (sideO side L) = wilL side p L) := lotsP_is (by omega) L
  have HSD : Hid (side = (s : Int) + 1) := hsd
  clear h hl hp hok hsd
  go_enter Tryz.func25, Tryz.ntmps25
  go_wp2_with fail
  refine (cpLying bb m s b L w H.out HL.out hs side HSD.out).mono ?_
  rintro e w1 ⟨v, rfl, h1, h2⟩
  obtain ⟨xa, xc, rfl, _, _⟩ := owns_shape h1
  have HR : Hid _ := h1
  have HB : Hid (Below w.heap.size w w1) := h2
  have HP1 : Hid (w1.heap[pb]? = some (.cells #[.int .i64 p] 3 (0, 0))) := blk_below HP.out h2 (Nat.le_refl _)
  clear h1 h2 HL H HP
  generalize sideO side L = X at *
  go_wp2_with fail
  go_loopw [7, 9, 14] (fun u7 _ u14 wr => ∃ k : Nat, k ≤ X.length ∧ u14 = .int .i64 k ∧ u7 = .int .i64 (lotsP p (X.take k)) ∧ Below w1.heap.size w1 wr) (fun _ _ u14 _ => X.length - (intOf u14).toNat)
  case atStart => exact ⟨0, Nat.zero_le _, rfl, rfl, Below.refl _ _⟩
  case round =>
    obtain ⟨k, hk, rfl, rfl, hb⟩ := hrel
    have HBR : Hid (Below w1.heap.size w1 wr) := hb
    by_cases hk1 : k < X.length
    · have hlt : (k : Int) < (X.length : Int) := by omega
      obtain ⟨g, cap, e, d0, d1, d2, d3, d4⟩ := row_order (owns_below HR.out hb (Nat.le_refl _)) hk1
      injection e with e1 _ e2
      subst e1 e2
      have hin := lotsP_in (p := p) HQ.out k hk
      have HT : Hid (lotsP p (X.take (k + 1)) = lotsP p (X.take k) + (if wilP p (oAt X k) = true then (oAt X k).qty else 0)) := lotsP_take p hk1
      have hq := HQ.out (oAt X k) (oAt_in hk1)
      generalize oAt X k = x at d0 d1 d2 d3 d4 HT hq
      generalize lotsP p (X.take k) = n at *
      clear hb
      go_wp2_with fail
      have hbA := bel1 wr (.cells #[.int .i64 x.id, .int .i64 x.side, .int .i64 x.kind, .int .i64 x.price, .int .i64 x.qty] 40)
      have hxA := heap_alloc_new wr (.cells #[.int .i64 x.id, .int .i64 x.side, .int .i64 x.kind, .int .i64 x.price, .int .i64 x.qty] 40)
      generalize wr.alloc (.cells #[.int .i64 x.id, .int .i64 x.side, .int .i64 x.kind, .int .i64 x.price, .int .i64 x.qty] 40) = W at hbA hxA ⊢
      have HBW : Hid (Below w1.heap.size w1 W) := bel_then HBR.out hbA
      refine (cpWil p x pb W (blk_below HP1.out HBW.out (Nat.le_refl _))).mono ?_
      rintro e w4 ⟨rfl, hb4⟩
      have x4 := blk_cell (j := 4) (blk_below hxA hb4 (Nat.le_refl _)) rfl
      have HB4 : Hid (Below w1.heap.size w1 w4) := bel_then HBW.out hb4
      clear hbA hxA hb4 d0 d1 d2 d3 d4
      cases hw : wilP p x with
      | true =>
        have HT2 : Hid (lotsP p (X.take (k + 1)) = n + x.qty) := by have := HT.out; rw [hw, if_pos rfl] at this; exact this
        go_wp2_with fail
        go_roundw
        case rel => exact ⟨k + 1, hk1, by go_num, by rw [HT2.out], HB4.out⟩
        case measure => simp [RowKit.intOf]; omega
      | false =>
        have HT2 : Hid (lotsP p (X.take (k + 1)) = n) := by have := HT.out; rw [hw, if_neg (by decide)] at this; rw [this]; exact Int.add_zero _
        go_wp2_with fail
        go_roundw
        case rel => exact ⟨k + 1, hk1, by go_num, by rw [HT2.out], HB4.out⟩
        case measure => simp [RowKit.intOf]; omega
    · have hkx : k = X.length := by omega
      have HT2 : Hid (lotsP p (X.take k) = lotsP p X) := by show _ = _; rw [List.take_of_length_le (by omega)]
      generalize lotsP p (X.take k) = n at *
      clear hb
      go_wp2_with fail
      go_ret
      exact ⟨by rw [HT2.out, HW.out]; rfl, bel_then HB.out HBR.out⟩
end Go.Proofs.YtcoijhofliilmabGreatDoor

/-
  How many trades there are at an auction's price (8.1): never more than orders lie. No program is named here.
-/
namespace Go.Proofs.YtcoijhofliilmabGreatDoor
open Go.RowKit

theorem less_le (id n : Int) (L : List Ord) : (lessF id n L).length ≤ L.length := by
  unfold lessF
  exact Nat.le_trans (List.length_filter_le _ _) (by rw [List.length_map]; exact Nat.le_refl _)
theorem less_lt {L : List Ord} {x : Ord} (hx : x ∈ L) : (lessF x.id x.qty L).length < L.length := by
  have h : ((L.map (cutF x.id x.qty)).filter fun o => decide (0 < o.qty)).length < (L.map (cutF x.id x.qty)).length := by
    refine List.length_filter_lt_length_iff_exists.2 ⟨cutF x.id x.qty x, List.mem_map_of_mem hx, ?_⟩
    rw [cutF_hit]
    show ¬ decide (0 < x.qty - x.qty) = true
    simp
  rw [List.length_map] at h
  exact h
/-- as long as lots are left behind a trade, one order less lies -/
theorem fstep_few {p : Int} {s : FS} (h : FOk p s) (hq : 0 < s.q) (hq2 : 0 < (fstep p s).q) : (fstep p s).L.length < s.L.length := by
  obtain ⟨⟨x, T, y, U, _, _, hbx, hby, hxL, _, hy1, _, _, n3, n4, _, hL2, _, _, _⟩, _⟩ := fstep_ok h hq
  have e1 : lotN s = min s.q (min x.qty y.qty) := by unfold lotN; rw [hbx, hby]
  have e2 : (fstep p s).q = s.q - lotN s := rfl
  rw [hL2]
  have hc : lotN s = x.qty ∨ lotN s = y.qty := by omega
  rcases hc with hc | hc
  · rw [hc]; exact Nat.lt_of_le_of_lt (less_le _ _ _) (less_lt hxL)
  · rw [hc] at hy1 ⊢; exact Nat.lt_of_lt_of_le (less_lt hy1) (less_le _ _ _)
theorem fiter_few {p : Int} {s : FS} (h : FOk p s) : ∀ k, (∀ j, j < k + 1 → 0 < (fiter p s j).q) → k + (fiter p s k).L.length ≤ s.L.length
  | 0, _ => by show 0 + s.L.length ≤ s.L.length; omega
  | k + 1, hq => by
    have ih := fiter_few h k (fun j hj => hq j (by omega))
    have h1 := fstep_few (fiter_ok h k (fun j hj => hq j (by omega))) (hq k (by omega)) (hq (k + 1) (by omega))
    have e : fiter p s (k + 1) = fstep p (fiter p s k) := rfl
    rw [e]; omega
end Go.Proofs.YtcoijhofliilmabGreatDoor
