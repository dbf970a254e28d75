/-
  A market's day as its keeper has it, in memory; what the keeper's apart (9.5) returns, over this seat's translation. Conditions stand in each theorem.
-/
import Derived.Test.YtjdkagafdnchhaaGreatDoorLS
import Derived.Test.YtjdkagafdnchhaaGreatDoorLD
import Derived.Deep.CutRange
import Derived.Deep.CutBlock
namespace Go.Proofs.YtjdkagafdnchhaaGreatDoor
open Go.RowKit Go.Maps

/-- a day's config -/
structure DCfg where
  tv : Value
  rs : List (Int × Int)
  st : Int
  dy : Int
  pr : Int
  ti : Int
  mo : Int
/-- where a day's parts lie -/
structure DayK where
  db : Nat
  eb : Nat
  k : EgK
  lb : Nat
  sb : Nat
  nl : Nat
  ns : Nat
def DayK.foot (d : DayK) (j : Nat) : Prop := d.k.foot d.eb j ∨ j = d.db ∨ j = d.lb ∨ j = d.sb
def dayV (c : DCfg) (d : DayK) (since : Int) (hands : Bool) : Array Value := #[.pointer (some ⟨d.eb, 0, none⟩), c.tv, .int .i64 c.st, .int .i64 c.dy, .int .i64 c.pr, .int .i64 c.ti, .int .i64 c.mo, .map (some d.lb), .map (some d.sb), .int .i64 since, .bool hands]
structure Day (w : World) (base : Nat) (c : DCfg) (d : DayK) (M : Mkt) (lots side : Int → Int) (since : Int) (hands : Bool) : Prop where
  box : w.heap[d.db]? = some (.cells (dayV c d since hands) 85 (0, 0))
  eg : Eg w d.eb d.k M
  lo : KdAt w d.lb lots d.nl
  si : KdAt w d.sb side d.ns
  ne : d.lb ≠ d.sb
  far : ∀ j, j = d.db ∨ j = d.lb ∨ j = d.sb → ¬ d.k.foot d.eb j
  rl : 0 < c.rs.length
  own : ∀ j, d.foot j → base ≤ j
  sw : ∀ id, side id ≠ 0 → (Lit.int .i64 id).wf = true
  cfg : M.rs = c.rs ∧ M.st = c.st ∧ M.dy = c.dy ∧ M.ti = c.ti ∧ M.mo = c.mo
section
variable {w w' : World} {base : Nat} {c : DCfg} {d : DayK} {M M' : Mkt} {lots side : Int → Int} {since : Int} {hands : Bool}
theorem Day.out {S : Nat → Prop} (h : Day w base c d M lots side since hands) (ho : Out S w w') (hS : ∀ j, d.foot j ∨ j = d.k.tb ∨ j = d.k.cb → ¬ S j) : Day w' base c d M lots side since hands :=
  ⟨blk_out h.box ho (hS _ (Or.inl (Or.inr (Or.inl rfl)))), h.eg.out ho (fun j hj => hS j (hj.imp Or.inl id)), h.lo.out ho (hS _ (Or.inl (Or.inr (Or.inr (Or.inl rfl))))), h.si.out ho (hS _ (Or.inl (Or.inr (Or.inr (Or.inr rfl))))), h.ne, h.far, h.rl, h.own, h.sw, h.cfg⟩
theorem Day.below (h : Day w base c d M lots side since hands) (hb : Below w.heap.size w w') : Day w' base c d M lots side since hands := h.out (S := fun _ => False) (Out.of_below hb (Nat.le_refl _)) (fun _ _ e => e)
theorem Day.lt (h : Day w base c d M lots side since hands) {j : Nat} (hj : d.foot j) : j < w.heap.size := by
  rcases hj with hj | rfl | rfl | rfl
  · exact h.eg.lt hj
  · exact lt_of_block h.box
  · exact h.lo.lt
  · exact h.si.lt
/-- the engine went on -/
theorem Day.ofEg {k' : EgK} (h : Day w base c d M lots side since hands) (hg : EgGo w w' d.eb d.k k' M') (hb : base ≤ w.heap.size) (hc : M'.rs = M.rs ∧ M'.st = M.st ∧ M'.dy = M.dy ∧ M'.ti = M.ti ∧ M'.mo = M.mo) : Day w' base c { d with k := k' } M' lots side since hands := by
  obtain ⟨g1, g2, g3, _⟩ := hg
  have hf := h.far
  refine ⟨blk_out h.box g2 (hf _ (Or.inl rfl)), g1, h.lo.out g2 (hf _ (Or.inr (Or.inl rfl))), h.si.out g2 (hf _ (Or.inr (Or.inr rfl))), h.ne, fun j hj e => ?_, h.rl, fun j hj => ?_, h.sw, ?_⟩
  · rcases g3 j e with e | e
    · exact hf j hj e
    · have : j < w.heap.size := h.lt (Or.inr hj)
      omega
  · rcases hj with e | e
    · rcases g3 j e with e | e
      · exact h.own j (Or.inl e)
      · omega
    · exact h.own j (Or.inr e)
  · obtain ⟨c1, c2, c3, c4, c5⟩ := h.cfg
    obtain ⟨e1, e2, e3, e4, e5⟩ := hc
    exact ⟨e1.trans c1, e2.trans c2, e3.trans c3, e4.trans c4, e5.trans c5⟩
theorem map_none {w : World} {b o : Nat} {es : Array MapEntry} {cl : Nat} (h : w.heap[b]? = some (.map es cl)) : w.cell? ⟨b, o, none⟩ = none := by simp [World.cell?, h]
theorem KdAt.isMap {B i : Nat} {f : Int → Int} (h : KdAt w B f i) : ∃ es cl, w.heap[B]? = some (.map es cl) := by
  obtain ⟨D, ⟨es, cl, e1, _⟩, _⟩ := h
  exact ⟨es, cl, e1⟩
/-- none of the keeper's own blocks is the table's -/
theorem Day.tfar (h : Day w base c d M lots side since hands) {j : Nat} (hj : j = d.db ∨ j = d.lb ∨ j = d.sb) : j ≠ d.k.tb ∧ j ≠ d.k.cb := by
  have h1 := h.eg.tab.1
  have h2 := (h.eg.tab.2.row (k := 0) (by rw [h.cfg.1]; exact h.rl)).1
  have hm : ∀ {f : Int → Int} {B i : Nat}, KdAt w B f i → B ≠ d.k.tb ∧ B ≠ d.k.cb := fun hk => by
    obtain ⟨es, cl, e⟩ := hk.isMap
    refine ⟨fun e1 => ?_, fun e1 => ?_⟩
    · rw [← e1, map_none e] at h1; cases h1
    · rw [← e1, map_none e] at h2; cases h2
  rcases hj with rfl | rfl | rfl
  · have h0 : w.cell? ⟨d.db, 0, none⟩ = some (.pointer (some ⟨d.eb, 0, none⟩)) := blk_cell (j := 0) h.box rfl
    refine ⟨fun e1 => ?_, fun e1 => ?_⟩
    · rw [← e1, h0] at h1; cases h1
    · rw [← e1] at h2
      have h2' : w.cell? ⟨d.db, 0, none⟩ = some (.int .i64 (rowAt M.rs 0).1) := h2
      rw [h0] at h2'; cases h2'
  · exact hm h.lo
  · exact hm h.si
/-- what is written is the keeper's own -/
theorem Day.mine {S : Nat → Prop} (_ : Day w base c d M lots side since hands) (ho : Out S w w') (hS : ∀ j, S j → base ≤ j) (hb : base ≤ w.heap.size) : Below base w w' :=
  ⟨ho.os, ho.tape, ho.output, ho.size, fun j hj => ho.block j (by omega) (fun e => by have := hS j e; omega)⟩
theorem Day.dbm (h : Day w base c d M lots side since hands) : d.db ≠ d.lb ∧ d.db ≠ d.sb := ⟨fun e => h.lo.ne h.box e.symm, fun e => h.si.ne h.box e.symm⟩
/-- since, or hands, written -/
theorem Day.write (h : Day w base c d M lots side since hands) {i : Nat} {u : Value} {since' : Int} {hands' : Bool} (he : (dayV c d since hands).setIfInBounds i u = dayV c d since' hands') : Day (w.setCell ⟨d.db, i, none⟩ u) base c d M lots side since' hands' := by
  have ho := out_set w ⟨d.db, i, none⟩ u
  have hb := blk_set (j := i) u h.box
  rw [he] at hb
  have hf := h.far _ (Or.inl rfl)
  have ht := h.tfar (Or.inl rfl)
  refine ⟨hb, h.eg.out ho (fun j hj e => ?_), h.lo.out ho (fun e => h.dbm.1 e.symm), h.si.out ho (fun e => h.dbm.2 e.symm), h.ne, h.far, h.rl, h.own, h.sw, h.cfg⟩
  have e' : j = d.db := e
  subst e'
  rcases hj with hj | hj | hj
  · exact hf hj
  · exact ht.1 hj
  · exact ht.2 hj
/-- a number of lots written -/
theorem Day.ofLots (h : Day w base c d M lots side since hands) {lots' : Int → Int} {n' : Nat} (hl : KdAt w' d.lb lots' n') (ho : Out (fun j => j = d.lb) w w') : Day w' base c { d with nl := n' } M lots' side since hands := by
  have hf := h.far _ (Or.inr (Or.inl rfl))
  have ht := h.tfar (Or.inr (Or.inl rfl))
  refine ⟨blk_out h.box ho h.dbm.1, h.eg.out ho (fun j hj e => ?_), hl, h.si.out ho (fun e => h.ne e.symm), h.ne, h.far, h.rl, h.own, h.sw, h.cfg⟩
  have e' : j = d.lb := e
  subst e'
  rcases hj with hj | hj | hj
  · exact hf hj
  · exact ht.1 hj
  · exact ht.2 hj
theorem Day.ofSide (h : Day w base c d M lots side since hands) {side' : Int → Int} {n' : Nat} (hl : KdAt w' d.sb side' n') (ho : Out (fun j => j = d.sb) w w') (hw : ∀ id, side' id ≠ 0 → (Lit.int .i64 id).wf = true) : Day w' base c { d with ns := n' } M lots side' since hands := by
  have hf := h.far _ (Or.inr (Or.inr rfl))
  have ht := h.tfar (Or.inr (Or.inr rfl))
  refine ⟨blk_out h.box ho h.dbm.2, h.eg.out ho (fun j hj e => ?_), h.lo.out ho (fun e => h.ne e), hl, h.ne, h.far, h.rl, h.own, hw, h.cfg⟩
  have e' : j = d.sb := e
  subst e'
  rcases hj with hj | hj | hj
  · exact hf hj
  · exact ht.1 hj
  · exact ht.2 hj
theorem Day.belGo {k' : EgK} (h : Day w base c d M lots side since hands) (hg : EgGo w w' d.eb d.k k' M') (hb : base ≤ w.heap.size) : Below base w w' :=
  ⟨hg.2.1.os, hg.2.1.tape, hg.2.1.output, hg.2.1.size, fun j hj => hg.2.1.block j (by omega) (fun e => by have := h.own j (Or.inl e); omega)⟩
end
set_option maxRecDepth 8000 in
set_option maxHeartbeats 4000000 in
theorem drApart (base : Nat) (c : DCfg) (d : DayK) (M : Mkt) (lots side : Int → Int) (since : Int) (hands : Bool) (w : World) (h : Day w base c d M lots side since hands) (hk : Keeps lots side M.L) (h1 : ∀ x ∈ M.L, x.kind = 1) (ha : Apart M.L) :
    Calls Tryz.prog 81 #[.pointer (some ⟨d.db, 0, none⟩)] w fun e w' => e = .returned (.bool true) ∧ Below w.heap.size w w' := by
  obtain ⟨i0, hi0, hz0, hz1, hz2⟩ := info_parts Tryz.infoOrdE
  have hok := h.eg.lok
  have hl : (sideO 1 M.L).length + (sideO 2 M.L).length ≤ 100 := by
    have e1 := bothO_len hok
    have e2 := h.eg.few100
    unfold bothO at e1
    rw [List.length_append] at e1
    omega
  have HWF : Hid (∀ x ∈ M.L, (Lit.int .i64 x.id).wf = true) := fun x hx => lnk_wf h.eg.bk h.eg.lnk hx
  have HK : Hid (Keeps lots side M.L) := hk
  have H1 : Hid (∀ x ∈ M.L, x.kind = 1) := h1
  have HA : Hid (Apart M.L) := ha
  have H : Hid (Day w base c d M lots side since hands) := h
  have HM : Hid (∀ x, x ∈ sideO 1 M.L ++ sideO 2 M.L → x ∈ M.L) := fun x hx => (sides_perm hok).mem_iff.1 hx
  have c0 : w.cell? ⟨d.db, 0, none⟩ = some (.pointer (some ⟨d.eb, 0, none⟩)) := blk_cell (j := 0) h.box rfl
  clear h hk h1 ha hok
  go_enter Tryz.func81, Tryz.ntmps81
  go_wp2_with fail
  refine (egSide d.eb 0 d.k M w H.out.eg (by decide) 1 rfl).mono ?_
  rintro e w1 ⟨v1, rfl, hr1, hb1⟩
  have c0' : w1.cell? ⟨d.db, 0, none⟩ = some (.pointer (some ⟨d.eb, 0, none⟩)) := blk_cell (j := 0) (H.out.below hb1).box rfl
  have HR1 : Hid (w1.ownsRow w.heap.size 41 5 v1 (sideO 1 M.L).length (oV (sideO 1 M.L))) := hr1
  have HB1 : Hid (Below w.heap.size w w1) := hb1
  clear hr1 hb1 c0
  go_wp2_with fail
  refine (egSide d.eb 1 d.k M w1 (H.out.below HB1.out).eg (by decide) 2 rfl).mono ?_
  rintro e w2 ⟨v2, rfl, hr2, hb2⟩
  have hr1' : w2.ownsRow w.heap.size 41 5 v1 (sideO 1 M.L).length (oV (sideO 1 M.L)) := owns_below HR1.out hb2 (Nat.le_refl _)
  obtain ⟨a1, n1, rfl, _, _⟩ := owns_shape hr1'
  obtain ⟨a2, n2, rfl, _, _⟩ := owns_shape hr2
  have HR1' : Hid (w2.ownsRow w.heap.size 41 5 (.slice a1 (sideO 1 M.L).length n1) (sideO 1 M.L).length (oV (sideO 1 M.L))) := hr1'
  have HR2 : Hid (w2.ownsRow w1.heap.size 41 5 (.slice a2 (sideO 2 M.L).length n2) (sideO 2 M.L).length (oV (sideO 2 M.L))) := hr2
  have HB2 : Hid (Below w.heap.size w w2) := bel_then HB1.out hb2
  have q63 : 0 + (sideO 1 M.L).length ≤ maxLen := by unfold maxLen; omega
  have q64 : 0 + (sideO 1 M.L).length + (sideO 2 M.L).length ≤ maxLen := by unfold maxLen; omega
  clear hr1' hr2 hb2 c0' HR1
  go_wp2_with (first | (at_builtin; refine wpList_append_any _ rfl (.tmp 31) (.tmp 32) 59 rfl w2.heap.size 41 i0 _ 5 40 Tryz.underlying59 hi0 hz0 hz1 hz2 (by rfl) (by omega) _ 0 [] (by rfl) (World.ownsRow_made w2 #[] 0 (Nat.le_refl _) (Nat.zero_le _) (by simp)) a1 (sideO 1 M.L).length n1 (oV (sideO 1 M.L)) (by rfl) (oV_length _) (LiesE.of_row HR1'.out (bel1 _ _)) (oV_one _) q63 (by omega) (by simp) ?_; intro v3 w3 h3 hg3 hk3; have HB3 : Hid (Below w2.heap.size w2 w3) := ((Below.refl _ w2).alloc (Nat.le_refl _) _).grown hg3 (by simp) (fun j hj => by have e : some w2.heap.size = some j := hj; injection e with e; omega); have H3 : Hid (w3.ownsRow w2.heap.size 41 5 v3 (0 + (sideO 1 M.L).length) ([] ++ oV (sideO 1 M.L))) := h3; clear h3 hg3 hk3) | (at_builtin; refine wpList_append_any _ rfl (.tmp 33) (.tmp 34) 59 rfl w2.heap.size 41 i0 _ 5 40 Tryz.underlying59 hi0 hz0 hz1 hz2 (by rfl) (by omega) v3 (0 + (sideO 1 M.L).length) ([] ++ oV (sideO 1 M.L)) (by rfl) H3.out a2 (sideO 2 M.L).length n2 (oV (sideO 2 M.L)) (by rfl) (oV_length _) (LiesE.of_row HR2.out HB3.out) (oV_one _) q64 (by omega) HB3.out.size ?_; intro v4 w4 h4 hg4 hk4; generalize hnX : 0 + (sideO 1 M.L).length + (sideO 2 M.L).length = nX at h4; obtain ⟨a4, n4, hv4, _, _⟩ := owns_shape h4; subst hv4; have HNX : Hid (0 + (sideO 1 M.L).length + (sideO 2 M.L).length = nX) := hnX; clear hnX; have HB4 : Hid (Below w2.heap.size w2 w4) := HB3.out.grown hg4 HB3.out.size (fun j hj => (H3.out.lt j hj).1); have H4 : Hid (w4.ownsRow w2.heap.size 41 5 (.slice a4 nX n4) nX ([] ++ oV (sideO 1 M.L) ++ oV (sideO 2 M.L))) := h4; clear h4 hg4 hk4 H3 HB3))
  have hlX : nX = (sideO 1 M.L ++ sideO 2 M.L).length := by rw [← HNX.out, List.length_append]; omega
  subst hlX
  have hrX : w4.ownsRow w2.heap.size 41 5 (.slice a4 (sideO 1 M.L ++ sideO 2 M.L).length n4) (sideO 1 M.L ++ sideO 2 M.L).length (oV (sideO 1 M.L ++ sideO 2 M.L)) := by
    have := H4.out
    rw [List.nil_append, ← oV_append] at this
    exact this
  have hX100 : (sideO 1 M.L ++ sideO 2 M.L).length ≤ 100 := by rw [List.length_append]; omega
  clear HNX H4
  generalize hX : sideO 1 M.L ++ sideO 2 M.L = X at hrX HM hX100 ⊢
  have HRX : Hid (w4.ownsRow w2.heap.size 41 5 (.slice a4 X.length n4) X.length (oV X)) := hrX
  have H4D : Hid (Day w4 base c d M lots side since hands) := (H.out.below HB2.out).below HB4.out
  have HRA : Hid (w4.ownsRow w.heap.size 41 5 (.slice a1 (sideO 1 M.L).length n1) (sideO 1 M.L).length (oV (sideO 1 M.L))) := owns_below HR1'.out HB4.out (Nat.le_refl _)
  have HRB : Hid (w4.ownsRow w1.heap.size 41 5 (.slice a2 (sideO 2 M.L).length n2) (sideO 2 M.L).length (oV (sideO 2 M.L))) := owns_below HR2.out HB4.out (Nat.le_refl _)
  have HBW : Hid (Below w.heap.size w w4) := bel_then HB2.out HB4.out
  clear hX hrX HR1' HR2 HB2 HB4 HB1 q63 q64
  go_loopw [37] (fun u wr => ∃ i : Nat, u = .int .i64 i ∧ i ≤ X.length ∧ Below w4.heap.size w4 wr) (fun u _ => X.length - (intOf u).toNat)
  case atStart => exact ⟨0, rfl, Nat.zero_le _, Below.refl _ _⟩
  case round =>
    obtain ⟨i, rfl, hi, hb⟩ := hrel
    have HB : Hid (Below w4.heap.size w4 wr) := hb
    by_cases hi1 : i < X.length
    · have hlt : (i : Int) < (X.length : Int) := by omega
      have hrX : wr.ownsRow w2.heap.size 41 5 (.slice a4 X.length n4) X.length (oV X) := owns_below HRX.out hb (Nat.le_refl _)
      obtain ⟨g, cap, e1, d0, d1, d2, d3, d4⟩ := row_order hrX hi1
      injection e1 with e1 _ e2
      subst e1 e2
      have hmem : oAt X i ∈ M.L := HM.out _ (by rw [oAt_eq hi1]; exact List.getElem_mem hi1)
      have HKX : Hid (lots (oAt X i).id = (oAt X i).qty) := (HK.out _ hmem).1
      have HK1 : Hid ((oAt X i).kind = 1) := H1.out _ hmem
      have HWX : Hid ((Lit.int .i64 (oAt X i).id).wf = true) := HWF.out _ hmem
      generalize oAt X i = o at d0 d1 d2 d3 d4 HKX HK1 HWX
      clear hb hrX hmem
      go_upto_region 8 with fail
      have hx := heap_alloc_new wr (.cells #[.int .i64 o.id, .int .i64 o.side, .int .i64 o.kind, .int .i64 o.price, .int .i64 o.qty] 41)
      have hb5 := bel1 wr (.cells #[.int .i64 o.id, .int .i64 o.side, .int .i64 o.kind, .int .i64 o.price, .int .i64 o.qty] 41)
      generalize wr.alloc (.cells #[.int .i64 o.id, .int .i64 o.side, .int .i64 o.kind, .int .i64 o.price, .int .i64 o.qty] 41) = w5 at hx hb5 ⊢
      have HB5 : Hid (Below w4.heap.size w4 w5) := bel_then HB.out hb5
      have h5 := H4D.out.below HB5.out
      have k0 := cell_regrown (blk_cell (j := 0) (v := .int .i64 o.id) hx rfl)
      have k2 := cell_regrown (blk_cell (j := 2) (v := .int .i64 o.kind) hx rfl)
      have k4 := cell_regrown (blk_cell (j := 4) (v := .int .i64 o.qty) hx rfl)
      have k7 := cell_regrown (blk_cell (j := 7) (v := .map (some d.lb)) h5.box rfl)
      have lk : ∀ dq os, (Instr.lookup 83 (.map (some d.lb)) (.int .i64 o.id) false).run Tryz.prog (Go.Sort.grow (redrawn w5 dq) os) = .ok (.int .i64 o.qty) (Go.Sort.grow (redrawn w5 dq) os) := fun dq os => by rw [← HKX.out]; exact (h5.lo.below (below_regrown w5 dq os)).look HWX.out
      have b1 : (o.kind != 1) = false := by simp [HK1.out]
      clear hx hb5 h5 d0 d1 d2 d3 d4
      refine wp_region_quiet_below (by kernel_rfl) (by kernel_rfl) ?_
      repeat (go_big_quiet_step (fail))
      refine wpQuiet_nil ?_
      intro _ hw'
      obtain ⟨⟨dq, osq⟩, hw''⟩ := hw'
      subst hw''
      have HB6 : Hid (Below w4.heap.size w4 (Go.Sort.grow (redrawn w5 dq) osq)) := bel_then HB5.out (below_regrown w5 dq osq)
      generalize Go.Sort.grow (redrawn w5 dq) osq = w6 at HB6 ⊢
      clear k0 k2 k4 k7 lk
      go_wp2_with fail
      go_roundw
      case rel => exact ⟨i + 1, by go_num, hi1, HB6.out⟩
      case measure => first | (simp [RowKit.intOf]; omega) | (show X.length - (i + 1) < X.length - i; omega) | omega
    · have HBR : Hid (Below w.heap.size w wr) := bel_then HBW.out hb
      have hra : wr.ownsRow w.heap.size 41 5 (.slice a1 (sideO 1 M.L).length n1) (sideO 1 M.L).length (oV (sideO 1 M.L)) := owns_below HRA.out hb (Nat.le_refl _)
      have hrb : wr.ownsRow w1.heap.size 41 5 (.slice a2 (sideO 2 M.L).length n2) (sideO 2 M.L).length (oV (sideO 2 M.L)) := owns_below HRB.out hb (Nat.le_refl _)
      clear hb
      have HPR : Hid (∀ x ∈ sideO 1 M.L, ∀ y ∈ sideO 2 M.L, x.price < y.price) := fun x hx y hy => HA.out x (sideO_mem.1 hx).1 y (sideO_mem.1 hy).1 (sideO_mem.1 hx).2 (sideO_mem.1 hy).2
      generalize sideO 1 M.L = A at hra HPR HRA hl
      generalize sideO 2 M.L = B at hrb HPR HRB hl
      go_upto_region 11 with fail
      by_cases hA0 : A.length = 0
      · have eA : ((A.length : Int) == 0) = true := by simp [hA0]
        clear hA0
        refine wp_region_quiet_below (by kernel_rfl) (by kernel_rfl) ?_
        repeat (go_big_quiet_step (fail))
        refine wpQuiet_nil ?_
        intro _ hw'
        obtain ⟨⟨dq, osq⟩, hw''⟩ := hw'
        subst hw''
        have HB6 : Hid (Below w.heap.size w (Go.Sort.grow (redrawn wr dq) osq)) := bel_then HBR.out (below_regrown wr dq osq)
        generalize Go.Sort.grow (redrawn wr dq) osq = w6 at HB6 ⊢
        go_wp2_with fail
        go_ret
        exact ⟨rfl, HB6.out⟩
      · have eA : ((A.length : Int) == 0) = false := beq_eq_false_iff_ne.2 (by omega)
        by_cases hB0 : B.length = 0
        · have eB : ((B.length : Int) == 0) = true := by simp [hB0]
          clear hA0 hB0
          refine wp_region_quiet_below (by kernel_rfl) (by kernel_rfl) ?_
          repeat (go_big_quiet_step (fail))
          refine wpQuiet_nil ?_
          intro _ hw'
          obtain ⟨⟨dq, osq⟩, hw''⟩ := hw'
          subst hw''
          have HB6 : Hid (Below w.heap.size w (Go.Sort.grow (redrawn wr dq) osq)) := bel_then HBR.out (below_regrown wr dq osq)
          generalize Go.Sort.grow (redrawn wr dq) osq = w6 at HB6 ⊢
          go_wp2_with fail
          go_ret
          exact ⟨rfl, HB6.out⟩
        · have eB : ((B.length : Int) == 0) = false := beq_eq_false_iff_ne.2 (by omega)
          obtain ⟨ga, ca, e1, _, _, _, pa, _⟩ := row_order hra (k := 0) (by omega)
          injection e1 with e1 _ e2
          subst e1 e2
          obtain ⟨gb, cb, e3, _, _, _, pb, _⟩ := row_order hrb (k := 0) (by omega)
          injection e3 with e3 _ e4
          subst e3 e4
          have hpp := HPR.out (oAt A 0) (by rw [oAt_eq (by omega)]; exact List.getElem_mem _) (oAt B 0) (by rw [oAt_eq (by omega)]; exact List.getElem_mem _)
          have kA := cell_regrown pa
          have kB := cell_regrown pb
          have qA : (0 : Int) < (A.length : Int) := by omega
          have qB : (0 : Int) < (B.length : Int) := by omega
          clear pa pb hra hrb
          refine wp_region_quiet_below (by kernel_rfl) (by kernel_rfl) ?_
          repeat (go_big_quiet_step (fail))
          refine wpQuiet_nil ?_
          intro _ hw'
          obtain ⟨⟨dq, osq⟩, hw''⟩ := hw'
          subst hw''
          have HB6 : Hid (Below w.heap.size w (Go.Sort.grow (redrawn wr dq) osq)) := bel_then HBR.out (below_regrown wr dq osq)
          generalize Go.Sort.grow (redrawn wr dq) osq = w6 at HB6 ⊢
          go_wp2_with fail
          go_ret
          exact ⟨rfl, HB6.out⟩
end Go.Proofs.YtjdkagafdnchhaaGreatDoor

/-
  How many trades a step makes at most; which of a market's numbers no step changes; the keeper's pick. Conditions stand in each theorem.
-/
namespace Go.Proofs.YtjdkagafdnchhaaGreatDoor
open Go.RowKit

theorem fiter_flen (p : Int) (s : FS) : ∀ k, (fiter p s k).fs.length = s.fs.length + k
  | 0 => rfl
  | k + 1 => by
    show ((fiter p s k).fs ++ [_]).length = _
    rw [List.length_append, fiter_flen p s k]; rfl
theorem uncM_flen {M : Mkt} (h : LOk M.L) (hL : M.L.length ≤ 100) : (uncM M).1.length ≤ 101 := by
  unfold uncM
  by_cases hq : 0 < (wouldM M).qty
  · rw [if_pos hq]
    have hF : FOk (wouldM M).price ⟨[], M.L, (wouldM M).qty⟩ := auction_fits M.la h hq
    obtain ⟨K, e, _, hj⟩ := fillsF_run hF
    show (fillsF (wouldM M).price (wouldM M).qty M.L).fs.length ≤ 101
    rw [e, fiter_flen]
    cases K with
    | zero => exact Nat.zero_le _
    | succ K =>
      have := fiter_few hF K hj
      have e3 : (⟨[], M.L, (wouldM M).qty⟩ : FS).L.length = M.L.length := rfl
      have e4 : (⟨[], M.L, (wouldM M).qty⟩ : FS).fs.length = 0 := rfl
      omega
  · rw [if_neg hq]; exact Nat.zero_le _
/-- what no step changes -/
def SameC (M M' : Mkt) : Prop := M'.rs = M.rs ∧ M'.st = M.st ∧ M'.dy = M.dy ∧ M'.ti = M.ti ∧ M'.mo = M.mo
theorem uncM_same (M : Mkt) : SameC M (uncM M).2 := by
  unfold uncM
  split <;> exact ⟨rfl, rfl, rfl, rfl, rfl⟩
theorem uncM_now (M : Mkt) : (uncM M).2.now = M.now := by unfold uncM; split <;> rfl
theorem tickM_len {M : Mkt} (h : LOk M.L) (hL : M.L.length ≤ 100) : (tickM M).1.length ≤ 101 ∧ SameC M (tickM M).2 ∧ (tickM M).2.now ≤ M.now + 1 := by
  have hu := uncM_flen (M := { M with now := M.now + 1 }) h hL
  have hs : SameC M (uncM { M with now := M.now + 1 }).2 := uncM_same { M with now := M.now + 1 }
  have hn : (uncM { M with now := M.now + 1 }).2.now = M.now + 1 := uncM_now { M with now := M.now + 1 }
  have hself : SameC M M := ⟨rfl, rfl, rfl, rfl, rfl⟩
  have hself1 : SameC M { M with now := M.now + 1 } := ⟨rfl, rfl, rfl, rfl, rfl⟩
  unfold tickM
  by_cases h7 : M.ph = 7
  · rw [if_pos h7]; exact ⟨Nat.zero_le _, hself, by show M.now ≤ M.now + 1; omega⟩
  rw [if_neg h7, tickA_is]
  have hres : (resM { M with now := M.now + 1 }).1.length ≤ 101 ∧ SameC M (resM { M with now := M.now + 1 }).2 ∧ (resM { M with now := M.now + 1 }).2.now ≤ M.now + 1 := ⟨hu, hs, by show (uncM { M with now := M.now + 1 }).2.now ≤ M.now + 1; omega⟩
  split
  · unfold finM
    by_cases h5 : M.ph = 5
    · rw [if_pos (show ({ M with now := M.now + 1 } : Mkt).ph = 5 from h5), if_pos (show ({ M with now := M.now + 1 } : Mkt).ph = 5 from h5)]
      exact ⟨hu, hs, by show (uncM { M with now := M.now + 1 }).2.now ≤ M.now + 1; omega⟩
    · rw [if_neg (show ¬ ({ M with now := M.now + 1 } : Mkt).ph = 5 from h5), if_neg (show ¬ ({ M with now := M.now + 1 } : Mkt).ph = 5 from h5)]
      exact ⟨Nat.zero_le _, hself1, Int.le_refl _⟩
  split
  · exact ⟨Nat.zero_le _, hself1, Int.le_refl _⟩
  split
  · unfold turnM
    split
    · exact hres
    split
    · exact ⟨Nat.zero_le _, hself1, Int.le_refl _⟩
    · exact ⟨Nat.zero_le _, hself1, Int.le_refl _⟩
  split
  · unfold setM
    split
    · exact hres
    split
    · exact ⟨Nat.zero_le _, hself1, Int.le_refl _⟩
    · exact ⟨Nat.zero_le _, hself1, Int.le_refl _⟩
  · exact ⟨Nat.zero_le _, hself1, Int.le_refl _⟩
theorem ordM_len {M : Mkt} {o : Ord} (hL : M.L.length ≤ 100) : (ordM M o).1.length ≤ 101 ∧ SameC M (ordM M o).2 ∧ (ordM M o).2.now = M.now := by
  unfold ordM
  split
  · unfold takenM
    split
    · exact ⟨Nat.zero_le _, ⟨rfl, rfl, rfl, rfl, rfl⟩, rfl⟩
    split
    · exact ⟨Nat.zero_le _, ⟨rfl, rfl, rfl, rfl, rfl⟩, rfl⟩
    · unfold tradeM
      refine ⟨?_, ?_, ?_⟩
      · have := (meetS_len (alM { M with I := M.I ++ [o.id] }) (lieO o) (sideO (3 - (lieO o).side) M.L) ⟨[], M.L, (lieO o).qty, []⟩).1
        have h2 := sideO_len (3 - (lieO o).side) M.L
        have e : (⟨[], M.L, (lieO o).qty, []⟩ : MS).fs.length = 0 := rfl
        show (meetM { M with I := M.I ++ [o.id] } (lieO o)).1.fs.length ≤ 101
        unfold meetM
        show (meetS (alM { M with I := M.I ++ [o.id] }) (lieO o) (sideO (3 - (lieO o).side) M.L) ⟨[], M.L, (lieO o).qty, []⟩).1.fs.length ≤ 101
        omega
      · dsimp only
        split <;> exact ⟨rfl, rfl, rfl, rfl, rfl⟩
      · dsimp only
        split <;> rfl
  · exact ⟨Nat.zero_le _, ⟨rfl, rfl, rfl, rfl, rfl⟩, rfl⟩
theorem canM_same (M : Mkt) (id : Int) : SameC M (canM M id) ∧ (canM M id).now = M.now := by
  unfold canM
  split
  · exact ⟨⟨rfl, rfl, rfl, rfl, rfl⟩, rfl⟩
  split <;> exact ⟨⟨rfl, rfl, rfl, rfl, rfl⟩, rfl⟩
theorem haltM_same (M : Mkt) : SameC M (haltM M) ∧ (haltM M).now = M.now := by
  unfold haltM
  split <;> exact ⟨⟨rfl, rfl, rfl, rfl, rfl⟩, rfl⟩
theorem openM_same (M : Mkt) : SameC M (openM M) ∧ (openM M).now = M.now := by
  unfold openM
  split
  · split
    · exact ⟨⟨rfl, rfl, rfl, rfl, rfl⟩, rfl⟩
    split <;> exact ⟨⟨rfl, rfl, rfl, rfl, rfl⟩, rfl⟩
  · exact ⟨⟨rfl, rfl, rfl, rfl, rfl⟩, rfl⟩
def pickE (a n : Int) : Int := wrap64 ((IntKind.u64.wrap a).tmod n)
theorem pickE_in (a n : Int) (hn : 1 ≤ n ∧ n ≤ 1000000) : 0 ≤ pickE a n ∧ pickE a n < n := by
  have h0 : 0 ≤ IntKind.u64.wrap a := by rw [IntKind.wrap_u64]; omega
  have h1 := Int.tmod_nonneg n h0
  have h2 := Int.tmod_lt_of_pos (IntKind.u64.wrap a) (by omega : 0 < n)
  unfold pickE
  rw [IntWalk.wrap64_in ((IntKind.u64.wrap a).tmod n) (by omega)]
  exact ⟨h1, h2⟩
set_option maxHeartbeats 400000 in
theorem drPick (a n : Int) (w : World) (hn : 1 ≤ n ∧ n ≤ 1000000) : Calls Tryz.prog 79 #[.int .i64 a, .int .i64 n] w fun e w' => e = .returned (.int .i64 (pickE a n)) ∧ w' = w := by
  go_enter Tryz.func79, Tryz.ntmps79
  go_wp2_with fail
  go_ret
  exact ⟨rfl, rfl⟩
end Go.Proofs.YtjdkagafdnchhaaGreatDoor

/-
  A region that draws its order, some of whose loads read cells that the region's own stores write: the loads may be taken first, because those stores wait for them; an operation that reads nothing may be taken first at any time. Over any program; conditions stand in each theorem.
-/
namespace Go.Proofs.YtjdkagafdnchhaaGreatDoor
open Go.RowKit

/-- two things kept, each by all but some -/
def lateS (A B : World → Prop) : Nat → World → Prop
  | 0 => A
  | _ + 1 => B
def lateL (A B : Nat → Bool) : Nat → Nat → Bool
  | 0 => A
  | _ + 1 => B
theorem lateS_zero {A B : World → Prop} {w : World} : lateS A B 0 w = A w := rfl
theorem lateS_one {A B : World → Prop} {w : World} : lateS A B 1 w = B w := rfl
theorem lateS_all {A B : World → Prop} {w : World} (ha : A w) (hb : B w) : ∀ n, lateS A B n w
  | 0 => ha
  | _ + 1 => hb
section
variable {P : Program} {ops : Array Oper} {Q : Exit → Act → World → Prop} {md : Region.Mode} {S : Nat → World → Prop} {L : Nat → Nat → Bool}

/-- In whatever order the rest comes up; each operation but those of L n keeps S n. -/
def wpAnyM (P : Program) (md : Region.Mode) (ops : Array Oper) (Q : Exit → Act → World → Prop) (S : Nat → World → Prop) (L : Nat → Nat → Bool) : Nat → Array Bool → Act → World → Prop
  | 0, listed, a, w => Region.ready md ops listed = [] ∧ Q .normal a w
  | fuel + 1, listed, a, w => (Region.ready md ops listed = [] → Q .normal a w) ∧ ∀ i ∈ Region.ready md ops listed, wpOp P ops Q i (fun a' w' => (∀ n, L n i = false → S n w → S n w') ∧ wpAnyM P md ops Q S L fuel (listed.setIfInBounds i true) a' w') a w
theorem wpAny_of_lateM : ∀ (fuel : Nat) (listed : Array Bool) (a : Act) (w : World), wpAnyM P md ops Q S L fuel listed a w → wpAny P md ops Q fuel listed a w
  | 0, _, _, _, h => h
  | fuel + 1, _, _, _, h => ⟨h.1, fun i hi => wpOp_mono (fun a' w' h' => wpAny_of_lateM fuel _ a' w' h'.2) (h.2 i hi)⟩
/-- D holds as long as number i has not come up -/
theorem wpAnyM_first {i : Nat} {oi : Oper} {v : Value} {D : World → Prop} (hi : ops[i]? = some oi) (hsel : ∀ (j : Nat) (o : Oper) cs b, ops[j]? = some o → o.op ≠ .select cs b) (hQ : ∀ c a w, Q (.panic c) (a.put oi.dst v) w → Q (.panic c) a w)
    (hD : ∀ (listed : Array Bool) (j : Nat) (w w' : World), Down md ops listed → listed.getD i true = false → j ∈ Region.ready md ops listed → (∀ n, L n j = false → S n w → S n w') → D w → D w') :
    ∀ (fuel : Nat) (listed : Array Bool) (a : Act) (w : World),
      (∀ j oj, ops[j]? = some oj → j ≠ i → listed.getD j true = false → (∀ e ∈ oj.after, Region.binds md e = true → e.on ≠ i) → oi.apart ops oj = true) → Down md ops listed →
      i ∈ Region.ready md ops listed → YieldsIf P ops D oi v a → D w → wpAnyM P md ops Q S L fuel (listed.setIfInBounds i true) (a.put oi.dst v) w → wpAnyM P md ops Q S L (fuel + 1) listed a w := by
  intro fuel
  induction fuel with
  | zero =>
    intro listed a w _ _ hr hy hS H
    refine ⟨fun h => (by rw [h] at hr; cases hr), fun j hj => ?_⟩
    by_cases hji : j = i
    · subst hji; exact hy.wpOp hi hS ⟨fun _ _ h => h, H⟩
    · have := ready_mono hj hji
      rw [H.1] at this
      cases this
  | succ fuel ih =>
    intro listed a w hfree hd hr hy hS H
    refine ⟨fun h => (by rw [h] at hr; cases hr), fun j hj => ?_⟩
    by_cases hji : j = i
    · subst hji; exact hy.wpOp hi hS ⟨fun _ _ h => h, H⟩
    obtain ⟨hjun, oj, hoj, hall⟩ := mem_ready.1 hj
    have hun : listed.getD i true = false := (mem_ready.1 hr).1
    have hnot : ∀ e ∈ oj.after, Region.binds md e = true → e.on ≠ i := fun e he hb heq => by
      have h1 := hall e he hb
      rw [heq] at h1
      rcases Nat.lt_or_ge i listed.size with h' | h'
      · simp [h'] at hun h1; rw [hun] at h1; cases h1
      · simp [Array.getElem?_eq_none h'] at h1
    have h2 := wpOp_putIf hoj (hfree j oj hoj hji hjun hnot) (fun cs b => hsel i oi cs b hi) (fun cs b => hsel j oj cs b hoj) hQ hy (H.2 j (ready_mono hj hji))
    refine wpOp_mono (fun a' w' h3 => ⟨h3.2.1, ih (listed.setIfInBounds j true) a' w' (fun k ok hk hki hku hno => hfree k ok hk hki (by
      by_cases hjk : j = k
      · subst hjk; exact hjun
      · rw [getD_set_ne true hjk] at hku; exact hku) hno) (hd.more hj) (ready_mono hr (Ne.symm hji)) h3.1 (hD listed j w w' hd hun hj h3.2.1 hS) ?_⟩) h2
    rw [Array.setIfInBounds_comm _ _ hji]
    exact h3.2.2
/-- a load of a cell that S tells of -/
theorem wpAnyM_take (n : Nat) {i : Nat} {oi : Oper} {v : Value} {fuel : Nat} {listed : Array Bool} {a : Act} {w : World} (hi : ops[i]? = some oi) (hs : Region.noSelect ops = true) (hf : Region.free md ops listed i = true) (hr : (Region.ready md ops listed).contains i = true) (hl : lateB md ops (L n) i = true) (hd : downB md ops listed = true)
    (hQ : ∀ c a w, Q (.panic c) (a.put oi.dst v) w → Q (.panic c) a w) (hw : Region.wanted oi (yielded ops a.tmps) = true) (hy : ∀ w, S n w → (execOp a.eval oi).run P w = .ok (.value v) w) (hS : S n w)
    (h : wpAnyM P md ops Q S L fuel (listed.setIfInBounds i true) (a.put oi.dst v) w) : wpAnyM P md ops Q S L (fuel + 1) listed a w :=
  wpAnyM_first (D := S n) hi (Region.noSelect_spec hs) hQ (fun listed' j w w' hd' hun hj hk hS' => hk n (late_not hl hd' (by
      rcases Nat.lt_or_ge i listed'.size with h' | h'
      · simpa [h'] using hun
      · simp [Array.getElem?_eq_none h']) hj) hS') fuel listed a w (Region.free_spec hi hf) (down_spec hd) (by simpa using hr) (Or.inl ⟨hw, hy⟩) hS h
/-- an operation that reads no memory -/
theorem wpAnyM_pure {i : Nat} {oi : Oper} {v : Value} {fuel : Nat} {listed : Array Bool} {a : Act} {w : World} (hi : ops[i]? = some oi) (hs : Region.noSelect ops = true) (hf : Region.free md ops listed i = true) (hr : (Region.ready md ops listed).contains i = true) (hd : downB md ops listed = true)
    (hQ : ∀ c a w, Q (.panic c) (a.put oi.dst v) w → Q (.panic c) a w) (hw : Region.wanted oi (yielded ops a.tmps) = true) (hy : ∀ w, (execOp a.eval oi).run P w = .ok (.value v) w)
    (h : wpAnyM P md ops Q S L fuel (listed.setIfInBounds i true) (a.put oi.dst v) w) : wpAnyM P md ops Q S L (fuel + 1) listed a w :=
  wpAnyM_first (D := fun _ => True) hi (Region.noSelect_spec hs) hQ (fun _ _ _ _ _ _ _ _ _ => trivial) fuel listed a w (Region.free_spec hi hf) (down_spec hd) (by simpa using hr) (Or.inl ⟨hw, fun w _ => hy w⟩) trivial h
/-- just one may come up -/
theorem wpAnyM_one {i : Nat} {o : Oper} {fuel : Nat} {listed : Array Bool} {a : Act} {w : World} (hr : Region.ready md ops listed = [i]) (ho : ops[i]? = some o)
    (h : ∀ K' : Act → World → Prop, Shut (∀ a w', (∀ n, L n i = false → S n w → S n w') → wpAnyM P md ops Q S L fuel (listed.setIfInBounds i true) a w' → K' a w') → if Region.wanted o (yielded ops a.tmps) = true then Oper.wp P o a w K' Q else K' (a.put o.dst undef) w) : wpAnyM P md ops Q S L (fuel + 1) listed a w :=
  ⟨fun h0 => (by rw [hr] at h0; cases h0), fun j hj => by
    rw [hr] at hj
    rcases List.mem_cons.1 hj with rfl | hj
    · exact wpOp_step ho (fun K' hK => h K' (fun a w' hS hW => hK a w' ⟨hS, hW⟩))
    · cases hj⟩
theorem wpAnyM_done {listed : Array Bool} {a : Act} {w : World} (hr : Region.ready md ops listed = []) (h : Q .normal a w) : ∀ fuel, wpAnyM P md ops Q S L fuel listed a w
  | 0 => ⟨hr, h⟩
  | _ + 1 => ⟨fun _ => h, by rw [hr]; simp⟩
theorem wp_region_lateM {id : Nat} {a : Act} {w : World} (S : Nat → World → Prop) (L : Nat → Nat → Bool) (hm : P.follows .mixedOrders = true) (hS : ∀ n, S n w.drew) (h : (∀ n, S n w.drew) → wpAnyM P .any ops Q S L ops.size (Array.replicate ops.size false) a w.drew) : (Code.region id ops true).wp P Q a w :=
  wp_region_any hm (wpAny_of_lateM _ _ _ _ (h hS))
end
end Go.Proofs.YtjdkagafdnchhaaGreatDoor

/-
  What lies between the parts of the keeper's does (9.5): ahead of its trades, between two of them, behind a step. Conditions stand in each theorem.
-/
namespace Go.Proofs.YtjdkagafdnchhaaGreatDoor
open Go.RowKit Go.Maps

/-- a step's tick: none, or one, and none behind the day's end -/
def NowGo (M M' : Mkt) : Prop := M'.now ≤ M.now + 1 ∧ (M.ph = 7 → M'.now = M.now)
theorem NowGo.same {M M' : Mkt} (h : M'.now = M.now) : NowGo M M' := ⟨by omega, fun _ => h⟩
/-- behind the step itself, ahead of its trades' looking through -/
def DoMid (w : World) (base : Nat) (c : DCfg) (d : DayK) (M : Mkt) (since : Int) (what : Int) (u9 : Value) (wc : World) : Prop :=
  ∃ (d1 : DayK) (M1 : Mkt) (lots1 side1 : Int → Int) (hands1 : Bool) (fs : List Fil),
    Day wc base c d1 M1 lots1 side1 since hands1 ∧ wc.ownsRow w.heap.size 115 4 u9 fs.length (fV fs) ∧ FillsOk side1 lots1 fs ∧ (∀ id, 0 ≤ lots1 id ∧ lots1 id ≤ 1000000) ∧ fs.length ≤ 101
    ∧ DayInv M1 (fillsUp lots1 fs) side1 (if what = 2 then sinceT M M1 since else sinceN M1 since) hands1
    ∧ (what = 0 → BandsOk M.st M.dy M.an M.la fs ∧ (fs ≠ [] → M.ph = 3))
    ∧ (d1.db = d.db ∧ d1.eb = d.eb) ∧ d1.k.m ≤ d.k.m + 302 ∧ d1.nl ≤ d.nl + 1 ∧ d1.ns ≤ d.ns + 1 ∧ NowGo M M1 ∧ Below base w wc
theorem band_yes {p s : Int} (hp : 1 ≤ p ∧ p ≤ 1000000) (hs : 0 ≤ s ∧ s ≤ 10000) : bandOk p s = true := by
  unfold bandOk
  rw [inB_yes hp, inB_yes hs]; rfl
theorem allows_in {st dy an la p : Int} (h : allowsB st dy an la p = true) (ha : 1 ≤ an ∧ an ≤ 1000000) (hs : 0 ≤ st ∧ st ≤ 10000) : 1 ≤ p ∧ p ≤ 1000000 := by
  unfold allowsB at h
  rw [Bool.and_eq_true] at h
  have h1 := inB_true h.1
  rw [bandL_ok (band_yes ha hs), bandH_ok (band_yes ha hs)] at h1
  omega
theorem row_fillE {w : World} {base : Nat} {v : Value} {l : List Fil} (h : w.ownsRow base 115 4 v l.length (fV l)) {k : Nat} (hk : k < l.length) :
    ∃ g cap, v = .slice (some ⟨g, 0, none⟩) l.length cap ∧ w.cell? ⟨g, k * 4, none⟩ = some (.int .i64 (fAt l k).buyer) ∧ w.cell? ⟨g, k * 4 + 1, none⟩ = some (.int .i64 (fAt l k).seller) ∧ w.cell? ⟨g, k * 4 + 2, none⟩ = some (.int .i64 (fAt l k).price) ∧ w.cell? ⟨g, k * 4 + 3, none⟩ = some (.int .i64 (fAt l k).qty) := by
  obtain ⟨g, cap, rfl, _, _⟩ := h.form (by omega)
  obtain ⟨h1, h2, h3, h4⟩ := fV_at hk
  exact ⟨g, cap, rfl, (h.cellAt _ (by omega)).trans h1, (h.cellAt _ (by omega)).trans h2, (h.cellAt _ (by omega)).trans h3, (h.cellAt _ (by omega)).trans h4⟩
theorem drop_fAt {l : List Fil} {k : Nat} (h : k < l.length) : l.drop k = fAt l k :: l.drop (k + 1) := by
  rw [List.drop_eq_getElem_cons h]
  unfold fAt
  simp [h]
/-- between two of a step's trades, as they are looked through -/
def DoLp (w : World) (base : Nat) (c : DCfg) (d d1 : DayK) (M M1 : Mkt) (lots1 side1 : Int → Int) (since : Int) (hands1 : Bool) (what : Int) (o : Ord) (vf : Value) (fs : List Fil) (i : Nat) (la : Int) (wr : World) : Prop :=
  ∃ (d2 : DayK) (lots2 : Int → Int), Day wr base c d2 M1 lots2 side1 since hands1 ∧ wr.ownsRow w.heap.size 115 4 vf fs.length (fV fs) ∧ FillsOk side1 lots2 (fs.drop i) ∧ (∀ id, 0 ≤ lots2 id ∧ lots2 id ≤ 1000000) ∧ fillsUp lots2 (fs.drop i) = fillsUp lots1 fs
    ∧ (what = 0 → BandsOk M.st M.dy M.an la (fs.drop i) ∧ 1 ≤ la ∧ la ≤ 1000000)
    ∧ wr.heap[w.heap.size]? = some (.cells #[.int .i64 what, .int .i64 o.id, .int .i64 o.side, .int .i64 o.kind, .int .i64 o.price, .int .i64 o.qty] 80 (0, 0))
    ∧ d2.db = d.db ∧ d2.eb = d.eb ∧ d2.k = d1.k ∧ d2.nl ≤ d1.nl + 2 * i ∧ d2.ns = d1.ns ∧ Below base w wr
theorem since_two {M M1 : Mkt} {since what : Int} {b : Bool} (hb : b = decide (what = 2 ∧ M.ph = 4)) :
    (if what = 2 then sinceT M M1 since else sinceN M1 since) = if M1.ph = 4 then (if b = true then since + 1 else since) else 0 := by
  unfold sinceT sinceN
  by_cases h2 : what = 2
  · by_cases h4 : M.ph = 4
    · have e : b = true := by rw [hb]; exact decide_eq_true ⟨h2, h4⟩
      rw [if_pos h2, if_pos h4, if_pos e]
    · have e : ¬ b = true := by rw [hb, decide_eq_false (fun e : what = 2 ∧ M.ph = 4 => h4 e.2)]; decide
      rw [if_pos h2, if_neg h4, if_neg e]
  · have e : ¬ b = true := by rw [hb, decide_eq_false (fun e : what = 2 ∧ M.ph = 4 => h2 e.1)]; decide
    rw [if_neg h2, if_neg e]
theorem since_in {M1 : Mkt} {since : Int} {b : Bool} (h0 : 0 ≤ since) : 0 ≤ (if M1.ph = 4 then (if b = true then since + 1 else since) else 0) ∧ (if M1.ph = 4 then (if b = true then since + 1 else since) else 0) ≤ since + 1 := by
  by_cases h4 : M1.ph = 4
  · rw [if_pos h4]
    by_cases hb : b = true
    · rw [if_pos hb]; omega
    · rw [if_neg hb]; omega
  · rw [if_neg h4]; omega
/-- behind a step -/
def DoEnd (w : World) (base : Nat) (c : DCfg) (d : DayK) (M : Mkt) (since : Int) (w' : World) : Prop :=
  ∃ d' M' lots' side' since' hands', Day w' base c d' M' lots' side' since' hands' ∧ DayInv M' lots' side' since' hands' ∧ d'.db = d.db ∧ d'.k.m ≤ d.k.m + 302 ∧ d'.nl ≤ d.nl + 210 ∧ d'.ns ≤ d.ns + 1 ∧ NowGo M M' ∧ since' ≤ since + 1 ∧ Below base w w'
end Go.Proofs.YtjdkagafdnchhaaGreatDoor
