/-
  The law BandsPlay, walked: whatever the shares, the price and the script are it returns true. Conditions stand in each theorem: where the script lies, the cell of errors.errorType (ErrT).
-/
import Derived.Test.YtnkfegpacfdcbaaDoorBnRef
import Derived.Test.YtnkfegpacfdcbaaDoorScript
import Derived.Deep.CutBlock
namespace Go.Proofs.YtnkfegpacfdcbaaDoor
open Go.RowKit

set_option maxRecDepth 4000 in
set_option maxHeartbeats 400000 in
theorem bands_long (s d p : Int) (a : Option Addr) (n cap : Nat) (w : World) (hn : 60 < n) :
    Calls Tryd.prog 8 #[.int .i64 s, .int .i64 d, .int .i64 p, .slice a n cap] w fun e w' => e = .returned (.bool true) ∧ Below w.heap.size w w' := by
  go_enter Tryd.func8, Tryd.ntmps8
  go_wp2_with fail
  go_ret
  exact ⟨rfl, Below.refl _ _⟩

theorem newOk_parts {s d p : Int} (h : newOk s d p = true) : inB 1 1000000 p = true ∧ (0 ≤ s ∧ s ≤ 10000) ∧ (0 ≤ d ∧ d ≤ 10000) := by
  unfold newOk bandOk at h
  rw [Bool.and_eq_true, Bool.and_eq_true, Bool.and_eq_true] at h
  exact ⟨h.1.1, inB_true h.1.2, inB_true h.2.2⟩
theorem newOk_of {s d p : Int} (hp : inB 1 1000000 p = true) (hs : 0 ≤ s ∧ s ≤ 10000) (hd : 0 ≤ d ∧ d ≤ 10000) : newOk s d p = true := by
  unfold newOk bandOk
  rw [hp, inB_yes hs, inB_yes hd]; rfl

set_option maxRecDepth 4000 in
set_option maxHeartbeats 4000000 in
theorem bands_bad (s d p : Int) (a : Option Addr) (n cap : Nat) (w : World) (hn : n ≤ 60) (h : newOk s d p = false) (hg : ErrT w) :
    Calls Tryd.prog 8 #[.int .i64 s, .int .i64 d, .int .i64 p, .slice a n cap] w fun e w' => e = .returned (.bool true) ∧ Below w.heap.size w w' := by
  have HN : Hid (newOk s d p = false) := h
  have HG : Hid (ErrT w) := hg
  clear h hg
  go_enter Tryd.func8, Tryd.ntmps8
  go_wp2_with fail
  refine (bnNew_no s d p _ HN.out).mono ?_
  rintro e w1 ⟨rfl, hb1⟩
  have HB1 : Hid (Below w.heap.size w w1) := hb1
  clear hb1
  go_wp2_with fail
  refine (refRight_any p 1 _).mono ?_
  rintro e w2 ⟨rfl, hw⟩
  subst hw
  rw [rightB_one]
  have hsplit : inB 1 1000000 p = false ∨ (inB 1 1000000 p = true ∧ s < 0) ∨ (inB 1 1000000 p = true ∧ 0 ≤ s ∧ 10000 < s) ∨ (inB 1 1000000 p = true ∧ 0 ≤ s ∧ s ≤ 10000 ∧ d < 0) ∨ (inB 1 1000000 p = true ∧ 0 ≤ s ∧ s ≤ 10000 ∧ 0 ≤ d ∧ 10000 < d) := by
    cases hp : inB 1 1000000 p with
    | false => exact Or.inl rfl
    | true =>
      by_cases h1 : s < 0
      · exact Or.inr (Or.inl ⟨rfl, h1⟩)
      by_cases h2 : 10000 < s
      · exact Or.inr (Or.inr (Or.inl ⟨rfl, by omega, h2⟩))
      by_cases h3 : d < 0
      · exact Or.inr (Or.inr (Or.inr (Or.inl ⟨rfl, by omega, by omega, h3⟩)))
      by_cases h4 : 10000 < d
      · exact Or.inr (Or.inr (Or.inr (Or.inr ⟨rfl, by omega, by omega, by omega, h4⟩)))
      have := HN.out
      rw [newOk_of hp (by omega) (by omega)] at this
      cases this
  rcases hsplit with hp | ⟨hp, h1⟩ | ⟨hp, h1, h2⟩ | ⟨hp, h1, h2, h3⟩ | ⟨hp, h1, h2, h3, h4⟩
  all_goals
    rw [hp]
    clear hp
    go_wp2_with fail
    refine (bare_yes _ 2 _ (HG.out.below HB1.out) (Or.inr (Or.inl ⟨rfl, rfl⟩))).mono ?_
    rintro e w3 ⟨rfl, hb3⟩
    have HB3 : Hid (Below w.heap.size w w3) := bn_then HB1.out hb3
    clear hb3
    go_wp2
    go_ret
    exact ⟨rfl, HB3.out⟩

/-- Both side by side: the program's bands and the document's market. -/
structure Twin (w0 w : World) (bb mb : Nat) (s d a l : Int) : Prop where
  bn : BnAt w bb s d a l
  mkt : MkAt w mb s d a l
  bel : Below w0.heap.size w0 w
  lo : w0.heap.size ≤ bb
  hi : w0.heap.size ≤ mb
  ne : bb ≠ mb
theorem Twin.below {w0 w w' : World} {bb mb : Nat} {s d a l : Int} (h : Twin w0 w bb mb s d a l) (hb : Below w.heap.size w w') : Twin w0 w' bb mb s d a l :=
  ⟨h.bn.below hb, h.mkt.below hb, bn_then h.bel hb, h.lo, h.hi, h.ne⟩
/-- a row of the law's script, in a block of its own -/
def RowAt (w : World) (x : Nat) (t p : Int) : Prop := w.heap[x]? = some (.cells #[.int .i64 t, .int .i64 p] 107 (0, 0))
theorem RowAt.ne {w : World} {x mb : Nat} {t p s d a l : Int} (h : RowAt w x t p) (h' : MkAt w mb s d a l) : x ≠ mb := fun e => by
  subst e; unfold RowAt at h; unfold MkAt at h'; rw [h] at h'; injection h' with h'; injection h' with _ h' _; exact absurd h' (by decide)
theorem RowAt.ne' {w : World} {x bb : Nat} {t p s d a l : Int} (h : RowAt w x t p) (h' : BnAt w bb s d a l) : x ≠ bb := fun e => by
  subst e; unfold RowAt at h; unfold BnAt at h'; rw [h] at h'; injection h' with h'; injection h' with _ h' _; exact absurd h' (by decide)
/-- the document's Last is another -/
theorem mk_last {w0 w : World} {bb mb : Nat} {s d a l : Int} (h : Twin w0 w bb mb s d a l) (q : Int) {x : Nat} {t p : Int} (hr : RowAt w x t p) :
    BnAt (w.setCell ⟨mb, 4, none⟩ (.int .i64 q)) bb s d a l ∧ MkAt (w.setCell ⟨mb, 4, none⟩ (.int .i64 q)) mb s d a q ∧ Below w0.heap.size w0 (w.setCell ⟨mb, 4, none⟩ (.int .i64 q)) ∧ RowAt (w.setCell ⟨mb, 4, none⟩ (.int .i64 q)) x t p :=
  ⟨bn_out h.bn (bn_out_set w ⟨mb, 4, none⟩ _) h.ne, bn_set (j := 4) (.int .i64 q) h.mkt, h.bel.setCell h.hi _, bn_out hr (bn_out_set w ⟨mb, 4, none⟩ _) (hr.ne h.mkt)⟩
theorem mk_anchor {w0 w : World} {bb mb : Nat} {s d a l a' l' : Int} (hb : BnAt w bb s d a l) (hm : MkAt w mb s d a' l') (hbel : Below w0.heap.size w0 w) (hi : w0.heap.size ≤ mb) (ne : bb ≠ mb) (q : Int) {x : Nat} {t p : Int} (hr : RowAt w x t p) :
    BnAt (w.setCell ⟨mb, 3, none⟩ (.int .i64 q)) bb s d a l ∧ MkAt (w.setCell ⟨mb, 3, none⟩ (.int .i64 q)) mb s d q l' ∧ Below w0.heap.size w0 (w.setCell ⟨mb, 3, none⟩ (.int .i64 q)) ∧ RowAt (w.setCell ⟨mb, 3, none⟩ (.int .i64 q)) x t p :=
  ⟨bn_out hb (bn_out_set w ⟨mb, 3, none⟩ _) ne, bn_set (j := 3) (.int .i64 q) hm, hbel.setCell hi _, bn_out hr (bn_out_set w ⟨mb, 3, none⟩ _) (hr.ne hm)⟩
theorem mk_last' {w0 w : World} {bb mb : Nat} {s d a l a' l' : Int} (hb : BnAt w bb s d a l) (hm : MkAt w mb s d a' l') (hbel : Below w0.heap.size w0 w) (hi : w0.heap.size ≤ mb) (ne : bb ≠ mb) (q : Int) {x : Nat} {t p : Int} (hr : RowAt w x t p) :
    BnAt (w.setCell ⟨mb, 4, none⟩ (.int .i64 q)) bb s d a l ∧ MkAt (w.setCell ⟨mb, 4, none⟩ (.int .i64 q)) mb s d a' q ∧ Below w0.heap.size w0 (w.setCell ⟨mb, 4, none⟩ (.int .i64 q)) ∧ RowAt (w.setCell ⟨mb, 4, none⟩ (.int .i64 q)) x t p :=
  ⟨bn_out hb (bn_out_set w ⟨mb, 4, none⟩ _) ne, bn_set (j := 4) (.int .i64 q) hm, hbel.setCell hi _, bn_out hr (bn_out_set w ⟨mb, 4, none⟩ _) (hr.ne hm)⟩
theorem twin_of {w0 w w' : World} {bb mb : Nat} {s d a l : Int} (hm : MkAt w mb s d a l) (hl : Below w0.heap.size w0 w) (ho : Out (fun j => j = bb) w w') (hn : BnAt w' bb s d a l) (lo : w0.heap.size ≤ bb) (hi : w0.heap.size ≤ mb) (ne : bb ≠ mb) : Twin w0 w' bb mb s d a l :=
  ⟨hn, bn_out hm ho (fun e => ne e.symm), hl.trans (ho.below (B := w0.heap.size) (fun k hk => by rw [show k = bb from hk]; exact lo) hl.size), lo, hi, ne⟩
theorem RowAt.below {w w' : World} {x : Nat} {t p : Int} (h : RowAt w x t p) (hb : Below w.heap.size w w') : RowAt w' x t p := bn_below h hb (Nat.le_refl _)

set_option maxRecDepth 4000 in
set_option maxHeartbeats 40000000 in
theorem bands_rows (s d p : Int) (a : Option Addr) (b off len cap : Nat) (X : Nat → Nat → Int) (w : World) (ha : 0 < len → a = some ⟨b, off, none⟩) (hX : ∀ i, i < len → ∀ j, j < 2 → w.cell? ⟨b, off + i * 2 + j, none⟩ = some (.int .i64 (X i j))) (hn : len ≤ 60) (h : newOk s d p = true) (hg : ErrT w) :
    Calls Tryd.prog 8 #[.int .i64 s, .int .i64 d, .int .i64 p, .slice a len cap] w fun e w' => e = .returned (.bool true) ∧ Below w.heap.size w w' := by
  have HA : Hid (0 < len → a = some ⟨b, off, none⟩) := ha
  have HG : Hid (ErrT w) := hg
  have HX : Hid (∀ i, i < len → ∀ j, j < 2 → w.cell? ⟨b, off + i * 2 + j, none⟩ = some (.int .i64 (X i j))) := hX
  have HN : Hid (newOk s d p = true) := h
  obtain ⟨hp, ⟨hs1, hs2⟩, hd1, hd2⟩ := newOk_parts h
  have HP : Hid (inB 1 1000000 p = true) := hp
  clear hg hX ha h hp
  go_enter Tryd.func8, Tryd.ntmps8
  go_wp2_with fail
  refine (bnNew_ok s d p _ HN.out).mono ?_
  rintro e w1 ⟨rfl, hb1, hn1⟩
  have HB1 : Hid (Below w.heap.size w w1) := hb1
  have HN1 : Hid (BnAt w1 w.heap.size s d p p) := hn1
  clear hb1 hn1
  go_wp2_with fail
  refine (refRight_any p 1 _).mono ?_
  rintro e w2 ⟨rfl, hw⟩
  subst hw
  rw [rightB_one, HP.out]
  go_wp2_with fail
  have hT : Twin w (w2.alloc (.cells #[.slice none 0 0, .int .i64 s, .int .i64 d, .int .i64 p, .int .i64 p, .int .i64 0, .int .i64 0, .slice none 0 0, .slice none 0 0, .slice none 0 0, .int .i64 0, .int .i64 0, .int .i64 0, .int .i64 0] 105)) w.heap.size w2.heap.size s d p p :=
    ⟨HN1.out.below (bn_bel1 _ _), heap_alloc_new _ _, bn_then HB1.out (bn_bel1 _ _), Nat.le_refl _, HB1.out.size, by have := lt_of_block HN1.out; omega⟩
  have HT : Hid (Twin w (w2.alloc (.cells #[.slice none 0 0, .int .i64 s, .int .i64 d, .int .i64 p, .int .i64 p, .int .i64 0, .int .i64 0, .slice none 0 0, .slice none 0 0, .slice none 0 0, .int .i64 0, .int .i64 0, .int .i64 0, .int .i64 0] 105)) w.heap.size w2.heap.size s d p p) := hT
  clear hT HN1
  generalize w2.alloc (.cells #[.slice none 0 0, .int .i64 s, .int .i64 d, .int .i64 p, .int .i64 p, .int .i64 0, .int .i64 0, .slice none 0 0, .slice none 0 0, .slice none 0 0, .int .i64 0, .int .i64 0, .int .i64 0, .int .i64 0] 105) = w3 at HT ⊢
  generalize w2.heap.size = mb at HT ⊢
  go_loopw [12] (fun v wr => ∃ (k : Nat) (an la : Int), k ≤ len ∧ v = .int .i64 k ∧ Twin w wr w.heap.size mb s d an la) (fun v _ => len - (intOf v).toNat)
  case atStart => exact ⟨0, p, p, Nat.zero_le _, rfl, HT.out⟩
  case round =>
    obtain ⟨k, an, la, hk, rfl, hT⟩ := hrel
    clear HT
    have HT : Hid (Twin w wr w.heap.size mb s d an la) := hT
    clear hT
    by_cases hk1 : k < len
    · obtain rfl := HA.out (by omega)
      have e0 := (HT.out.bel.cell (p := ⟨b, off + k * 2 + 0, none⟩) (World.block_lt_of_cell? w _ (HX.out k hk1 0 (by decide)))).trans (HX.out k hk1 0 (by decide))
      have e1 := (HT.out.bel.cell (p := ⟨b, off + k * 2 + 1, none⟩) (World.block_lt_of_cell? w _ (HX.out k hk1 1 (by decide)))).trans (HX.out k hk1 1 (by decide))
      rw [Nat.add_zero] at e0
      generalize X k 0 = t at e0
      generalize X k 1 = q at e1
      go_wp2_with fail
      have hR : RowAt (wr.alloc (.cells #[.int .i64 t, .int .i64 q] 107)) wr.heap.size t q := heap_alloc_new wr _
      have hT := HT.out.below (bn_bel1 wr (.cells #[.int .i64 t, .int .i64 q] 107))
      generalize wr.alloc (.cells #[.int .i64 t, .int .i64 q] 107) = wx at hR hT ⊢
      generalize wr.heap.size = x at hR ⊢
      clear HT e0 e1
      have HR : Hid (RowAt wx x t q) := hR
      have HT : Hid (Twin w wx w.heap.size mb s d an la) := hT
      clear hR hT
      refine (refRight_any q 1 _).mono ?_
      rintro e w4 ⟨rfl, hw⟩
      subst hw
      rw [rightB_one]
      cases hq : inB 1 1000000 q with
      | true =>
        have HQ : Hid (inB 1 1000000 q = true) := hq
        clear hq
        have r0 := bn_cell (j := 0) HR.out rfl
        go_upto_block 2 with fail
        clear r0
        go_cut [] from 86 to 124 (fun wc => ∃ an' la' : Int, Twin w wc w.heap.size mb s d an' la' ∧ RowAt wc x t q)
        case first =>
          have r0 := bn_cell (j := 0) HR.out rfl
          have r1 := bn_cell (j := 1) HR.out rfl
          have c3 := bn_cell (j := 3) HT.out.mkt rfl
          have c4 := bn_cell (j := 4) HT.out.mkt rfl
          have f3 := bn_free (j := 3) HT.out.mkt
          have f4 := bn_free (j := 4) HT.out.mkt
          by_cases g0 : t = 0
          · subst g0
            go_upto_region 20 with fail
            obtain ⟨hb5, hm5, hl5, hr5⟩ := mk_last HT.out q HR.out
            clear r0 r1 c3 c4 f3 f4
            generalize w4.setCell ⟨mb, 4, none⟩ (.int .i64 q) = w5 at hb5 hm5 hl5 hr5 ⊢
            have HB5 : Hid (BnAt w5 w.heap.size s d an la) := hb5
            have HM5 : Hid (MkAt w5 mb s d an q) := hm5
            have HL5 : Hid (Below w.heap.size w w5) := hl5
            have HR5 : Hid (RowAt w5 x 0 q) := hr5
            have HTn : Hid (w.heap.size ≤ mb ∧ w.heap.size ≠ mb) := ⟨HT.out.hi, HT.out.ne⟩
            clear hb5 hm5 hl5 hr5 HR HT
            have r1 := bn_cell (j := 1) HR5.out rfl
            go_wp2_with fail
            refine (bnTrade w.heap.size s d an la q _ HB5.out HQ.out).mono ?_
            rintro e w6 ⟨rfl, ho6, hn6⟩
            have HT6 : Hid (Twin w w6 w.heap.size mb s d an q) := twin_of HM5.out HL5.out ho6 hn6 (Nat.le_refl _) HTn.out.1 HTn.out.2
            have HR6 : Hid (RowAt w6 x 0 q) := bn_out HR5.out ho6 (HR5.out.ne' HB5.out)
            clear ho6 hn6 r1 HB5 HM5 HL5 HR5
            go_wp2_with fail
            refine (bare_yes _ 0 _ (HG.out.below HT6.out.bel) (Or.inl ⟨rfl, rfl, rfl⟩)).mono ?_
            rintro e w7 ⟨rfl, hb7⟩
            have HT7 : Hid (Twin w w7 w.heap.size mb s d an q) := HT6.out.below hb7
            have HR7 : Hid (RowAt w7 x 0 q) := HR6.out.below hb7
            clear hb7
            go_wp2_with fail
            go_meet
            exact ⟨an, q, HT7.out, HR7.out⟩
          by_cases g1 : t = 1
          · subst g1
            go_upto_region 24 with fail
            have nxm := HR.out.ne HT.out.mkt
            have HTn : Hid (w.heap.size ≤ mb ∧ w.heap.size ≠ mb) := ⟨HT.out.hi, HT.out.ne⟩
            go_cut [] from 108 to 117 (fun wc => BnAt wc w.heap.size s d an la ∧ MkAt wc mb s d q q ∧ Below w.heap.size w wc ∧ RowAt wc x 1 q)
            case first =>
              go_region
              go_wp2_with fail
              go_meet
              obtain ⟨hb5, hm5, hl5, hr5⟩ := mk_last HT.out q HR.out
              obtain ⟨hb6, hm6, hl6, hr6⟩ := mk_anchor hb5 hm5 hl5 HT.out.hi HT.out.ne q hr5
              exact ⟨hb6, hm6, hl6.drew, hr6⟩
            case rest =>
              obtain ⟨hb5, hm5, hl5, hr5⟩ := hcut
              have HB5 : Hid (BnAt wc w.heap.size s d an la) := hb5
              have HM5 : Hid (MkAt wc mb s d q q) := hm5
              have HL5 : Hid (Below w.heap.size w wc) := hl5
              have HR5 : Hid (RowAt wc x 1 q) := hr5
              clear hb5 hm5 hl5 hr5 HR HT r0 r1 c3 c4 f3 f4
              have r1 := bn_cell (j := 1) HR5.out rfl
              go_wp2_with fail
              refine (bnFix w.heap.size s d an la q _ HB5.out HQ.out).mono ?_
              rintro e w6 ⟨rfl, ho6, hn6⟩
              have HT6 : Hid (Twin w w6 w.heap.size mb s d q q) := twin_of HM5.out HL5.out ho6 hn6 (Nat.le_refl _) HTn.out.1 HTn.out.2
              have HR6 : Hid (RowAt w6 x 1 q) := bn_out HR5.out ho6 (HR5.out.ne' HB5.out)
              clear ho6 hn6 r1 HB5 HM5 HL5 HR5
              go_wp2_with fail
              refine (bare_yes _ 0 _ (HG.out.below HT6.out.bel) (Or.inl ⟨rfl, rfl, rfl⟩)).mono ?_
              rintro e w7 ⟨rfl, hb7⟩
              have HT7 : Hid (Twin w w7 w.heap.size mb s d q q) := HT6.out.below hb7
              have HR7 : Hid (RowAt w7 x 1 q) := HR6.out.below hb7
              clear hb7
              go_wp2_with fail
              go_meet
              exact ⟨q, q, HT7.out, HR7.out⟩
          · go_wp2_with fail
            go_meet
            exact ⟨an, la, HT.out, HR.out⟩
        case rest =>
          obtain ⟨an', la', hT', hR'⟩ := hcut
          have HT' : Hid (Twin w wc w.heap.size mb s d an' la') := hT'
          have HR' : Hid (RowAt wc x t q) := hR'
          clear hT' hR' HT HR
          have c3 := bn_cell (j := 3) HT'.out.mkt rfl
          have c4 := bn_cell (j := 4) HT'.out.mkt rfl
          go_wp2_with fail
          refine (refBand_any an' s _).mono ?_
          rintro e w6 ⟨rfl, hw⟩
          subst hw
          go_wp2_with fail
          refine (refBand_any la' d _).mono ?_
          rintro e w7 ⟨rfl, hw⟩
          subst hw
          clear c3 c4
          go_wp2_with fail
          refine (bnStatic w.heap.size s d an' la' _ HT'.out.bn).mono ?_
          rintro e w8 ⟨rfl, hb8⟩
          have HT8 : Hid (Twin w w8 w.heap.size mb s d an' la') := HT'.out.below hb8
          have HR8 : Hid (RowAt w8 x t q) := HR'.out.below hb8
          clear hb8 HT' HR'
          go_wp2_with fail
          refine (bnDynamic w.heap.size s d an' la' _ HT8.out.bn).mono ?_
          rintro e w9 ⟨rfl, hb9⟩
          have HT9 : Hid (Twin w w9 w.heap.size mb s d an' la') := HT8.out.below hb9
          have HR9 : Hid (RowAt w9 x t q) := HR8.out.below hb9
          clear hb9 HT8 HR8
          go_upto_region 31 with fail
          have k3 := cell_regrown (bn_cell (j := 3) HT9.out.mkt rfl)
          have k4 := cell_regrown (bn_cell (j := 4) HT9.out.mkt rfl)
          have kr := cell_regrown (bn_cell (j := 1) HR9.out rfl)
          have cA : ∀ dq os, Calls Tryd.prog 50 #[.pointer (some ⟨w.heap.size, 0, none⟩)] (Go.Sort.grow (redrawn w9 dq) os) fun e w'' => e = .returned (.int .i64 an') ∧ ∃ p : Regrown, w'' = Go.Sort.grow (redrawn w9 p.d) p.os := fun dq os => Calls.regrown_of (bnAnchor _ s d an' la' _ (HT9.out.bn.below (below_regrown w9 dq os)))
          have cL : ∀ dq os, Calls Tryd.prog 51 #[.pointer (some ⟨w.heap.size, 0, none⟩)] (Go.Sort.grow (redrawn w9 dq) os) fun e w'' => e = .returned (.int .i64 la') ∧ ∃ p : Regrown, w'' = Go.Sort.grow (redrawn w9 p.d) p.os := fun dq os => Calls.regrown_of (bnLast _ s d an' la' _ (HT9.out.bn.below (below_regrown w9 dq os)))
          have cC : ∀ dq os, Calls Tryd.prog 52 #[.pointer (some ⟨w.heap.size, 0, none⟩), .int .i64 q] (Go.Sort.grow (redrawn w9 dq) os) fun e w'' => e = .returned (.bool (calmB s an' q)) ∧ ∃ p : Regrown, w'' = Go.Sort.grow (redrawn w9 p.d) p.os := fun dq os => Calls.regrown_of (bnCalm _ s d an' la' q _ (HT9.out.bn.below (below_regrown w9 dq os)))
          have cW : ∀ dq os, Calls Tryd.prog 54 #[.pointer (some ⟨w.heap.size, 0, none⟩), .int .i64 q] (Go.Sort.grow (redrawn w9 dq) os) fun e w'' => e = .returned (.bool (allowsB s d an' la' q)) ∧ ∃ p : Regrown, w'' = Go.Sort.grow (redrawn w9 p.d) p.os := fun dq os => Calls.regrown_of (bnAllows _ s d an' la' q _ (HT9.out.bn.below (below_regrown w9 dq os)))
          have dC : ∀ dq os, Calls Tryd.prog 53 #[.pointer (some ⟨mb, 0, none⟩), .int .i64 q] (Go.Sort.grow (redrawn w9 dq) os) fun e w'' => e = .returned (.bool (calmB s an' q)) ∧ ∃ p : Regrown, w'' = Go.Sort.grow (redrawn w9 p.d) p.os := fun dq os => Calls.regrown_of (mkCalm _ s d an' la' q _ (HT9.out.mkt.below (below_regrown w9 dq os)))
          have dW : ∀ dq os, Calls Tryd.prog 55 #[.pointer (some ⟨mb, 0, none⟩), .int .i64 q] (Go.Sort.grow (redrawn w9 dq) os) fun e w'' => e = .returned (.bool (allowsB s d an' la' q)) ∧ ∃ p : Regrown, w'' = Go.Sort.grow (redrawn w9 p.d) p.os := fun dq os => Calls.regrown_of (mkAllows _ s d an' la' q _ (HT9.out.mkt.below (below_regrown w9 dq os)))
          refine wp_region_quiet_below (by kernel_rfl) (by kernel_rfl) ?_
          repeat (go_big_quiet_step (first | exact cA _ _ | exact cL _ _ | exact cC _ _ | exact dC _ _ | exact cW _ _ | exact dW _ _))
          refine wpQuiet_nil ?_
          intro _ hw'
          obtain ⟨⟨dq, osq⟩, hw''⟩ := hw'
          subst hw''
          have HT5 : Hid (Twin w (Go.Sort.grow (redrawn w9 dq) osq) w.heap.size mb s d an' la') := HT9.out.below (below_regrown w9 dq osq)
          generalize Go.Sort.grow (redrawn w9 dq) osq = w10 at HT5 ⊢
          clear k3 k4 kr cA cL cC cW dC dW HR9 HT9
          go_wp2_with fail
          go_roundw
          case rel => exact ⟨k + 1, an', la', by omega, by go_num, HT5.out⟩
          case measure => simp [intOf]; omega
      | false =>
        have HQ : Hid (inB 1 1000000 q = false) := hq
        clear hq
        have r0 := bn_cell (j := 0) HR.out rfl
        go_upto_block 2 with fail
        clear r0
        go_cut [] from 86 to 124 (fun wc => ∃ an' la' : Int, Twin w wc w.heap.size mb s d an' la' ∧ RowAt wc x t q)
        case first =>
          have r0 := bn_cell (j := 0) HR.out rfl
          have r1 := bn_cell (j := 1) HR.out rfl
          by_cases g0 : t = 0
          · subst g0
            go_wp2_with fail
            clear r0 r1
            refine (bnTrade_no w.heap.size q _ HQ.out).mono ?_
            rintro e w6 ⟨rfl, hb6⟩
            have HT6 : Hid (Twin w w6 w.heap.size mb s d an la) := HT.out.below hb6
            have HR6 : Hid (RowAt w6 x 0 q) := HR.out.below hb6
            clear hb6 HT HR
            go_wp2_with fail
            refine (bare_yes _ 2 _ (HG.out.below HT6.out.bel) (Or.inr (Or.inl ⟨rfl, rfl⟩))).mono ?_
            rintro e w7 ⟨rfl, hb7⟩
            have HT7 : Hid (Twin w w7 w.heap.size mb s d an la) := HT6.out.below hb7
            have HR7 : Hid (RowAt w7 x 0 q) := HR6.out.below hb7
            clear hb7
            go_wp2_with fail
            go_meet
            exact ⟨an, la, HT7.out, HR7.out⟩
          by_cases g1 : t = 1
          · subst g1
            go_wp2_with fail
            clear r0 r1
            refine (bnFix_no w.heap.size q _ HQ.out).mono ?_
            rintro e w6 ⟨rfl, hb6⟩
            have HT6 : Hid (Twin w w6 w.heap.size mb s d an la) := HT.out.below hb6
            have HR6 : Hid (RowAt w6 x 1 q) := HR.out.below hb6
            clear hb6 HT HR
            go_wp2_with fail
            refine (bare_yes _ 2 _ (HG.out.below HT6.out.bel) (Or.inr (Or.inl ⟨rfl, rfl⟩))).mono ?_
            rintro e w7 ⟨rfl, hb7⟩
            have HT7 : Hid (Twin w w7 w.heap.size mb s d an la) := HT6.out.below hb7
            have HR7 : Hid (RowAt w7 x 1 q) := HR6.out.below hb7
            clear hb7
            go_wp2_with fail
            go_meet
            exact ⟨an, la, HT7.out, HR7.out⟩
          · go_wp2_with fail
            go_meet
            exact ⟨an, la, HT.out, HR.out⟩
        case rest =>
          obtain ⟨an', la', hT', hR'⟩ := hcut
          have HT' : Hid (Twin w wc w.heap.size mb s d an' la') := hT'
          have HR' : Hid (RowAt wc x t q) := hR'
          clear hT' hR' HT HR
          have c3 := bn_cell (j := 3) HT'.out.mkt rfl
          have c4 := bn_cell (j := 4) HT'.out.mkt rfl
          go_wp2_with fail
          refine (refBand_any an' s _).mono ?_
          rintro e w6 ⟨rfl, hw⟩
          subst hw
          go_wp2_with fail
          refine (refBand_any la' d _).mono ?_
          rintro e w7 ⟨rfl, hw⟩
          subst hw
          clear c3 c4
          go_wp2_with fail
          refine (bnStatic w.heap.size s d an' la' _ HT'.out.bn).mono ?_
          rintro e w8 ⟨rfl, hb8⟩
          have HT8 : Hid (Twin w w8 w.heap.size mb s d an' la') := HT'.out.below hb8
          have HR8 : Hid (RowAt w8 x t q) := HR'.out.below hb8
          clear hb8 HT' HR'
          go_wp2_with fail
          refine (bnDynamic w.heap.size s d an' la' _ HT8.out.bn).mono ?_
          rintro e w9 ⟨rfl, hb9⟩
          have HT9 : Hid (Twin w w9 w.heap.size mb s d an' la') := HT8.out.below hb9
          have HR9 : Hid (RowAt w9 x t q) := HR8.out.below hb9
          clear hb9 HT8 HR8
          go_upto_region 31 with fail
          have k3 := cell_regrown (bn_cell (j := 3) HT9.out.mkt rfl)
          have k4 := cell_regrown (bn_cell (j := 4) HT9.out.mkt rfl)
          have kr := cell_regrown (bn_cell (j := 1) HR9.out rfl)
          have cA : ∀ dq os, Calls Tryd.prog 50 #[.pointer (some ⟨w.heap.size, 0, none⟩)] (Go.Sort.grow (redrawn w9 dq) os) fun e w'' => e = .returned (.int .i64 an') ∧ ∃ p : Regrown, w'' = Go.Sort.grow (redrawn w9 p.d) p.os := fun dq os => Calls.regrown_of (bnAnchor _ s d an' la' _ (HT9.out.bn.below (below_regrown w9 dq os)))
          have cL : ∀ dq os, Calls Tryd.prog 51 #[.pointer (some ⟨w.heap.size, 0, none⟩)] (Go.Sort.grow (redrawn w9 dq) os) fun e w'' => e = .returned (.int .i64 la') ∧ ∃ p : Regrown, w'' = Go.Sort.grow (redrawn w9 p.d) p.os := fun dq os => Calls.regrown_of (bnLast _ s d an' la' _ (HT9.out.bn.below (below_regrown w9 dq os)))
          have cC : ∀ dq os, Calls Tryd.prog 52 #[.pointer (some ⟨w.heap.size, 0, none⟩), .int .i64 q] (Go.Sort.grow (redrawn w9 dq) os) fun e w'' => e = .returned (.bool (calmB s an' q)) ∧ ∃ p : Regrown, w'' = Go.Sort.grow (redrawn w9 p.d) p.os := fun dq os => Calls.regrown_of (bnCalm _ s d an' la' q _ (HT9.out.bn.below (below_regrown w9 dq os)))
          have cW : ∀ dq os, Calls Tryd.prog 54 #[.pointer (some ⟨w.heap.size, 0, none⟩), .int .i64 q] (Go.Sort.grow (redrawn w9 dq) os) fun e w'' => e = .returned (.bool (allowsB s d an' la' q)) ∧ ∃ p : Regrown, w'' = Go.Sort.grow (redrawn w9 p.d) p.os := fun dq os => Calls.regrown_of (bnAllows _ s d an' la' q _ (HT9.out.bn.below (below_regrown w9 dq os)))
          have dC : ∀ dq os, Calls Tryd.prog 53 #[.pointer (some ⟨mb, 0, none⟩), .int .i64 q] (Go.Sort.grow (redrawn w9 dq) os) fun e w'' => e = .returned (.bool (calmB s an' q)) ∧ ∃ p : Regrown, w'' = Go.Sort.grow (redrawn w9 p.d) p.os := fun dq os => Calls.regrown_of (mkCalm _ s d an' la' q _ (HT9.out.mkt.below (below_regrown w9 dq os)))
          have dW : ∀ dq os, Calls Tryd.prog 55 #[.pointer (some ⟨mb, 0, none⟩), .int .i64 q] (Go.Sort.grow (redrawn w9 dq) os) fun e w'' => e = .returned (.bool (allowsB s d an' la' q)) ∧ ∃ p : Regrown, w'' = Go.Sort.grow (redrawn w9 p.d) p.os := fun dq os => Calls.regrown_of (mkAllows _ s d an' la' q _ (HT9.out.mkt.below (below_regrown w9 dq os)))
          refine wp_region_quiet_below (by kernel_rfl) (by kernel_rfl) ?_
          repeat (go_big_quiet_step (first | exact cA _ _ | exact cL _ _ | exact cC _ _ | exact dC _ _ | exact cW _ _ | exact dW _ _))
          refine wpQuiet_nil ?_
          intro _ hw'
          obtain ⟨⟨dq, osq⟩, hw''⟩ := hw'
          subst hw''
          have HT5 : Hid (Twin w (Go.Sort.grow (redrawn w9 dq) osq) w.heap.size mb s d an' la') := HT9.out.below (below_regrown w9 dq osq)
          generalize Go.Sort.grow (redrawn w9 dq) osq = w10 at HT5 ⊢
          clear k3 k4 kr cA cL cC cW dC dW HR9 HT9
          go_wp2_with fail
          go_roundw
          case rel => exact ⟨k + 1, an', la', by omega, by go_num, HT5.out⟩
          case measure => simp [intOf]; omega
    · go_wp2_with fail
      go_ret
      exact ⟨rfl, HT.out.bel⟩
end Go.Proofs.YtnkfegpacfdcbaaDoor
