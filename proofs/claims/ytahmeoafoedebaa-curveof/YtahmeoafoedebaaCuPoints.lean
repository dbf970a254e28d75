/-
  What the program's points returns of a map of lots, over this seat's translation. Conditions stand in the theorem: which lots the map holds, and that they are of at most 1000 orders that count.
-/
import Derived.Test.YtahmeoafoedebaaCuKeep
import Derived.Test.YtahmeoafoedebaaCuKeys
namespace Go.Proofs.Ytahmeoafoedebaa
open Go.RowKit

theorem Try.infoCq : (Try.prog.info? 59).map (fun i => (i.zero, i.size, i.bytes)) = some (some (.agg #[.int .i64 0, .int .i64 0, .int .i64 0]), 3, 24) := by kernel_rfl
theorem lots_of {D : DataW Unit} {F : List Ord} {more : Int} (h : LotD D F more) {kl : Lit} {x : Int} (hk : kl = .int .i64 x) {c : Int × Int} {y : DataW Unit × List MemPlace} (hv : lotR (.agg #[.int .i64 c.1, .int .i64 c.2]) = some y) (hat : ∀ zd, D.atKey kl zd = y.1) : c.1 = sumQ (limBB x) F ∧ c.2 = sumQ (limSB x) F := by
  subst hk
  have h1 := h.1 x
  rw [hat] at h1
  rw [lotR_mk] at hv
  cases hv
  exact lotE_inj h1
theorem prices_of {D : DataW Unit} {F : List Ord} {more : Int} (h : LotD D F more) {left : Lit → Bool} {ss : List Int} (hC : CollectedI D left ss) (hl : ∀ kl, left kl = false) : ss.Nodup ∧ ∀ p, p ∈ ss ↔ p ∈ pricesO F more :=
  ⟨hC.1, fun p => by rw [hC.2 p, h.2 p, hl]; simp⟩
theorem nodup_perm {D : DataW Unit} {F : List Ord} {more : Int} (h : LotD D F more) {left : Lit → Bool} {ss : List Int} (hC : CollectedI D left ss) (hl : ∀ kl, left kl = false) {w : World} {B n : Nat} (ho : w.ownsMap Try.prog 3 lotR B n D) {tt : List Int} (hp : tt.Perm (intKeys D)) : (sortI tt).Pairwise (· < ·) ∧ (∀ p, p ∈ sortI tt ↔ p ∈ pricesO F more) ∧ ∀ p ∈ sortI tt, (Lit.int .i64 p).wf = true := by
  have h1 := hC.perm ho Try.keyInt Try.underlying3 hl
  have h2 : tt.Nodup := (hp.trans h1.symm).nodup_iff.2 hC.1
  refine ⟨sorted_rises h2, fun p => ?_, fun p hp' => ?_⟩
  · rw [sortI_mem, (hp.trans h1.symm).mem_iff]; exact (prices_of h hC hl).2 p
  · rw [sortI_mem, hp.mem_iff] at hp'
    exact intKeys_wf ho Try.underlying3 p hp'

theorem fld0 (a b : Int) (W : World) : (Instr.field 108 (.agg #[.int .i64 a, .int .i64 b]) 0).run Try.prog W = .ok (.int .i64 a) W := by kernel_rfl
theorem fld1 (a b : Int) (W : World) : (Instr.field 108 (.agg #[.int .i64 a, .int .i64 b]) 1).run Try.prog W = .ok (.int .i64 b) W := by kernel_rfl
theorem row_other {w w' : World} {base : Nat} {e : TypeId} {size : Nat} {v : Value} {n : Nat} {xs : List Value} {row : Option Nat} (h : w.ownsRow base e size v n xs) (hg : w.grownBy w' row) (hne : ∀ k, v.ownBlock = some k → row ≠ some k) : w'.ownsRow base e size v n xs := by
  refine ⟨h.1, h.2.imp id (fun ⟨g, cap, cur, e1, hb, hh, r⟩ => ⟨g, cap, cur, e1, hb, (hg.block g (lt_of_block hh) (fun e2 => hne g (by rw [e1]; rfl) e2.symm)).trans hh, r⟩)⟩
/-- rows of two types lie in two blocks -/
theorem row_types {w : World} {base base' : Nat} {e e' : TypeId} {size size' : Nat} {v v' : Value} {n n' : Nat} {xs xs' : List Value} (h : w.ownsRow base e size v n xs) (h' : w.ownsRow base' e' size' v' n' xs') (ht : e ≠ e') : ∀ k, v.ownBlock = some k → v'.ownBlock ≠ some k := fun k hv hv' => by
  rcases h.2 with ⟨rfl, _⟩ | ⟨g, cap, cur, rfl, _, hh, _⟩
  · simp [Value.ownBlock] at hv
  · rcases h'.2 with ⟨rfl, _⟩ | ⟨g', cap', cur', rfl, _, hh', _⟩
    · simp [Value.ownBlock] at hv'
    · simp [Value.ownBlock] at hv hv'
      subst hv
      subst hv'
      rw [hh] at hh'
      simp at hh'
      exact ht hh'.2

set_option maxRecDepth 4000 in
set_option maxHeartbeats 4000000 in
theorem cuPoints (B : Nat) (F : List Ord) (more : Int) (w : World) (hL : LotsAt w B F more) (hF : ∀ o ∈ F, okO o = true) (hl : F.length ≤ 1000) :
    Calls Try.prog 54 #[.map (some B), .agg #[.int .i64 (sumQ mkBB F), .int .i64 (sumQ mkSB F)]] w fun e w' => ∃ (v' : Value) (xs : List Int), e = .returned v' ∧ xs.Pairwise (· < ·) ∧ (∀ p, p ∈ xs ↔ p ∈ pricesO F more) ∧ w'.ownsRow w.heap.size 59 3 v' (ptsX xs F).length (ptV (ptsX xs F)) ∧ Below w.heap.size w w' := by
  obtain ⟨iP, hiP, hP0, hP1, hP2⟩ := info_parts Try.infoCq
  have HL : Hid (LotsAt w B F more) := hL
  have HF : Hid (∀ o ∈ F, okO o = true) := hF
  obtain ⟨D, ho, hD, hLD⟩ := hL
  have HO : Hid (w.ownsMap Try.prog 3 lotR B (F.length + 1) D) := ho
  have HD : Hid (LotD D F more) := hLD
  have hsz := ho.size_le
  have hmB := sumQ_small (q := mkBB) hF hl
  have hmS := sumQ_small (q := mkSB) hF hl
  clear ho hD hLD hF
  go_enter Try.func54, Try.ntmps54
  go_wp2_with fail
  go_quiet (fail)
  have hbW : Below w.heap.size w ((w.alloc (.cells #[.int .i64 (sumQ mkBB F), .int .i64 (sumQ mkSB F)] 108)).drewN nq) := below_drewN (cu_bel1 w _) _
  have HBW : Hid (Below w.heap.size w ((w.alloc (.cells #[.int .i64 (sumQ mkBB F), .int .i64 (sumQ mkSB F)] 108)).drewN nq)) := hbW
  have HOW : Hid (((w.alloc (.cells #[.int .i64 (sumQ mkBB F), .int .i64 (sumQ mkSB F)] 108)).drewN nq).ownsMap Try.prog 3 lotR B (F.length + 1) D) := by
    obtain ⟨es, clock, e1, e2, e3, e4⟩ := HO.out
    exact ⟨es, clock, (hbW.block B HO.out.lt).trans e1, e2, e3, e4⟩
  clear hbW
  generalize (w.alloc (.cells #[.int .i64 (sumQ mkBB F), .int .i64 (sumQ mkSB F)] 108)).drewN nq = W at HBW HOW ⊢
  have hM : sumQ mkBB F = sumQ mkBB F + sumX limBB [] F := by rw [sumX_nil]; omega
  have HM : Hid (sumQ mkBB F + sumX limBB [] F = sumQ mkBB F) := hM.symm
  clear hM
  go_wp2_with (first | (at_range; refine wpList_range_own _ rfl _ 109 rfl 3 108 Try.keyInt Try.underlying109 _ B (F.length + 1) _ rfl HOW.out ?_; intro w0 hrg0 hg0 hs0) | go_in)
  go_frame
  have HRG : Hid (w0.ranges Try.prog 3 lotR B W.heap.size (F.length + 1) D (Maps.has D) (Maps.size D)) := hrg0
  have HB0 : Hid (Below w.heap.size w w0) := HBW.out.grown hg0 HBW.out.size (fun q hq => by cases hq)
  clear hrg0 hg0 hs0
  go_loopw [5] (fun v wr => ∃ (left : Lit → Bool) (cnt : Nat) (ss : List Int), v = .int .i64 (sumQ mkBB F + sumX limBB ss F) ∧ wr.ranges Try.prog 3 lotR B W.heap.size (F.length + 1) D left cnt ∧ CollectedI D left ss ∧ Below w.heap.size w wr) (fun _ wr => wr.rangeLeft B W.heap.size)
  case atStart => exact ⟨_, _, [], by rw [HM.out], HRG.out, CollectedI.start D, HB0.out⟩
  case round =>
    obtain ⟨left, cnt, ss, rfl, hrg, hC, hb⟩ := hrel
    have HRW : Hid (wr.ranges Try.prog 3 lotR B W.heap.size (F.length + 1) D left cnt) := hrg
    have HC : Hid (CollectedI D left ss) := hC
    have HB : Hid (Below w.heap.size w wr) := hb
    have hbs : 0 ≤ sumX limBB ss F ∧ sumX limBB ss F ≤ 1000000000 := by rw [sumB_is hC.1]; exact sumQ_small HF.out hl
    clear hrg hC hb HRG HB0 HM
    go_wp2_with (first | (at_next; refine wpList_next_ranges _ rfl _ rfl 3 Try.keyInt lotR (Value.int .i64) (fun c : Int × Int => .agg #[.int .i64 c.1, .int .i64 c.2]) (fun key kl hk => by obtain ⟨x, hx, _⟩ := Maps.keyOf_i64 Try.underlying3 hk; exact ⟨x, hx⟩) (fun v y hv => by obtain ⟨a, b, hx, _⟩ := lotR_shape hv; exact ⟨(a, b), hx⟩) B W.heap.size (F.length + 1) _ _ _ rfl HRW.out ?_ ?_) | go_in)
    · intro hc0 hl0
      have HOr : Hid (wr.ownsMap Try.prog 3 lotR B (F.length + 1) D) := HRW.out.owns
      have HPR : Hid (ss.Nodup ∧ ∀ p, p ∈ ss ↔ p ∈ pricesO F more) := prices_of HD.out HC.out hl0
      have HNP : Hid (∀ {W3 : World}, W3.ownsMap Try.prog 3 lotR B (F.length + 1) D → ∀ {tt : List Int}, tt.Perm (intKeys D) → (sortI tt).Pairwise (· < ·) ∧ (∀ p, p ∈ sortI tt ↔ p ∈ pricesO F more) ∧ ∀ p ∈ sortI tt, (Lit.int .i64 p).wf = true) := fun hW3 _ hp => nodup_perm HD.out HC.out hl0 hW3 hp
      clear hc0 hl0 HRW HC
      go_wp2_with (first | (at_len; refine wpList_len_own _ rfl _ 109 rfl 3 108 Try.underlying109 _ B (F.length + 1) D rfl HOr.out ?_) | (at_make; refine wpList_make_own _ rfl _ _ 53 rfl wr.heap.size 59 iP (.agg #[.int .i64 0, .int .i64 0, .int .i64 0]) 3 Try.underlying53 hiP hP0 hP1 _ _ _ (Maps.size D) rfl rfl rfl (by rw [hP2]; omega) (by unfold maxLen; omega) (Nat.le_refl _) ?_; intro w3 hown3 hg3))
      refine (keysCall (some B) w3).mono ?_
      rintro e w4 ⟨rfl, hw4⟩
      subst hw4
      have HB3 : Hid (Below w.heap.size w w3) := HB.out.grown hg3 HB.out.size (fun q hq => by cases hq)
      have HO3 : Hid (w3.ownsMap Try.prog 3 lotR B (F.length + 1) D) := HOr.out.kept hg3 (by simp)
      have HW3 : Hid (w3.ownsRow w.heap.size 59 3 (.slice (some ⟨wr.heap.size, 0, none⟩) 0 (Maps.size D)) 0 []) := owns_base hown3 HB.out.size
      clear hown3 hg3 HOr
      go_wp2_with fail
      refine (sortedCall B (F.length + 1) D w3 HO3.out (by omega)).mono ?_
      rintro e w5 ⟨v5, tt, rfl, hp, hrow, _, hb5⟩
      obtain ⟨hx1, hx2, hx3⟩ := HNP.out HO3.out hp
      have hb35 : Below w3.heap.size w3 w5 := cu_then (cu_bel1 w3 _) hb5
      have HB5 : Hid (Below w.heap.size w w5) := cu_then HB3.out hb35
      have HW5 : Hid (w5.ownsRow w.heap.size 59 3 (.slice (some ⟨wr.heap.size, 0, none⟩) 0 (Maps.size D)) 0 []) := bk_below HW3.out hb35 (Nat.le_refl _)
      have HI5 : Hid (w5.ownsRow w.heap.size 3 1 v5 (sortI tt).length (ints (sortI tt))) := by
        rw [sortI_length]
        exact owns_base hrow (Nat.le_trans HB3.out.size (cu_bel1 w3 _).size)
      have hxl : (sortI tt).length ≤ 1001 := by
        rw [sortI_length, hp.length_eq]
        have := hsz
        obtain ⟨es, rfl, _⟩ := HO3.out.keysOf
        simp only [intKeys, List.length_map]
        rw [Maps.size_eq] at this
        omega
      have HXR : Hid ((sortI tt).Pairwise (· < ·)) := hx1
      have HXM : Hid (∀ p, p ∈ sortI tt ↔ p ∈ pricesO F more) := hx2
      have HXW : Hid (∀ p ∈ sortI tt, (Lit.int .i64 p).wf = true) := hx3
      clear hp hrow hb5 hb35 hx1 hx2 hx3 HNP HO3 HB3 HW3 HB
      generalize sortI tt = xs at HI5 hxl HXR HXM HXW
      have HSM : Hid (sumX limBB ss F = sumX limBB (xs.drop 0) F) := sumB_same HPR.out.1 (rises_nodup HXR.out) (fun p => by rw [HPR.out.2, HXM.out]) F
      have HNM : Hid (∀ o ∈ F, namesO o = true → o.price ∈ xs) := fun o ho hn => (HXM.out _).2 (pricesO_mem.2 (Or.inr ⟨o, ho, hn, rfl⟩))
      rw [HSM.out]
      have hS0 : sumQ mkSB F = sumQ mkSB F + sumX limSB (xs.take 0) F := by rw [List.take_zero, sumX_nil]; omega
      have HS0 : Hid (sumQ mkSB F = sumQ mkSB F + sumX limSB (xs.take 0) F) := hS0
      clear HSM HPR hS0 hbs
      obtain ⟨ai, ci, rfl, _, _⟩ := bk_shape HI5.out
      go_wp2_with fail
      go_loopw [5, 6, 9, 11, 33] (fun d s o _ i w6 => ∃ k : Nat, k ≤ xs.length ∧ i = .int .i64 k ∧ d = .int .i64 (sumQ mkBB F + sumX limBB (xs.drop k) F) ∧ s = .int .i64 (sumQ mkSB F + sumX limSB (xs.take k) F) ∧ w6.ownsRow w.heap.size 59 3 o (ptsX (xs.take k) F).length (ptV (ptsX (xs.take k) F)) ∧ w6.ownsRow w.heap.size 3 1 (.slice ai xs.length ci) xs.length (ints xs) ∧ Below w.heap.size w w6) (fun _ _ _ _ i _ => xs.length - (RowKit.intOf i).toNat)
      case atStart => exact ⟨0, Nat.zero_le _, rfl, rfl, by rw [← HS0.out], HW5.out, HI5.out, HB5.out⟩
      case round =>
        obtain ⟨k, hk, rfl, rfl, rfl, ho, hi, hb⟩ := hrel
        have HW : Hid (wr.ownsRow w.heap.size 59 3 u9 (ptsX (xs.take k) F).length (ptV (ptsX (xs.take k) F))) := ho
        have HI : Hid (wr.ownsRow w.heap.size 3 1 (.slice ai xs.length ci) xs.length (ints xs)) := hi
        have HB : Hid (Below w.heap.size w wr) := hb
        have hpl : (ptsX (xs.take k) F).length ≤ 1001 := by
          unfold ptsX
          rw [List.length_map, List.length_take]
          omega
        obtain ⟨oao, ocap, rfl, _, _⟩ := bk_shape ho
        clear HW5 HI5 HB5 HS0 ho
        by_cases hk1 : k < xs.length
        · have hlt : (k : Int) < (xs.length : Int) := by omega
          obtain ⟨g, cap', hv, _, _⟩ := hi.form (by omega)
          simp only [Value.slice.injEq, true_and] at hv
          obtain ⟨rfl, rfl⟩ := hv
          have c0 : wr.cell? ⟨g, k, none⟩ = some (.int .i64 (xs.getD k 0)) := (hi.cellAt k (by omega)).trans (ints_at hk1)
          have hmem : xs.getD k 0 ∈ xs := by
            rw [List.getD_eq_getElem?_getD, List.getElem?_eq_getElem hk1]
            exact List.getElem_mem hk1
          have HWP : Hid ((Lit.int .i64 (xs.getD k 0)).wf = true) := HXW.out _ hmem
          have HST : Hid (sumX limSB (xs.take (k + 1)) F = sumX limSB (xs.take k) F + sumQ (limSB (xs.getD k 0)) F) := sumX_take F hk1
          have HDT : Hid (sumX limBB (xs.drop k) F = sumQ (limBB (xs.getD k 0)) F + sumX limBB (xs.drop (k + 1)) F) := sumX_drop F hk1
          have HPT : Hid (ptsX (xs.take (k + 1)) F = ptsX (xs.take k) F ++ [⟨xs.getD k 0, sumQ mkBB F + sumX limBB (xs.drop k) F, sumQ mkSB F + sumX limSB (xs.take k) F + sumQ (limSB (xs.getD k 0)) F⟩]) := by
            rw [ptsX_take F hk1, dem_at HF.out HXR.out HNM.out hk1, ← sup_at HF.out HXR.out HNM.out hk1, HST.out, Int.add_assoc]
            rfl
          have hlk := (HL.out.below hb).look HWP.out
          have hq1 := sumQ_small (q := limBB (xs.getD k 0)) HF.out hl
          have hq2 := sumQ_small (q := limSB (xs.getD k 0)) HF.out hl
          have hq3 : 0 ≤ sumX limBB (xs.drop k) F ∧ sumX limBB (xs.drop k) F ≤ 1000000000 := by
            rw [sumB_is ((rises_nodup HXR.out).sublist (List.drop_sublist ..))]; exact sumQ_small HF.out hl
          have hq4 : 0 ≤ sumX limSB (xs.take k) F ∧ sumX limSB (xs.take k) F ≤ 1000000000 := by
            rw [sumS_is ((rises_nodup HXR.out).sublist (List.take_sublist ..))]; exact sumQ_small HF.out hl
          clear hb hi hmem
          generalize xs.getD k 0 = p at c0 HWP HST HDT HPT hlk hq1 hq2
          generalize hDK : sumX limBB (xs.drop k) F = dk at HDT HPT hq3 ⊢
          generalize hSK : sumX limSB (xs.take k) F = sk at HST HPT hq4 ⊢
          generalize ptsX (xs.take k) F = acc at HPT HW hpl ⊢
          clear hDK hSK
          have hf0 := fld0
          have hf1 := fld1
          go_wp2_with (at_builtin; refine wpList_append_own_at _ rfl _ _ 53 rfl w.heap.size 59 iP (.agg #[.int .i64 0, .int .i64 0, .int .i64 0]) 3 24 Try.underlying53 hiP hP0 hP1 hP2 rfl (by decide) _ acc.length (ptV acc) rfl (HW.out.alloc _) ⟨wr.heap.size, 0, none⟩ 1 1 [.int .i64 p, .int .i64 (sumQ mkBB F + dk), .int .i64 (sumQ mkSB F + sk + sumQ (limSB p) F)] rfl rfl (World.news_of_block (cs := #[.int .i64 p, .int .i64 (sumQ mkBB F + dk), .int .i64 (sumQ mkSB F + sk + sumQ (limSB p) F)]) (t := 59) (fr := (0, 0)) (heap_alloc_new wr _)) (by simp [Value.oneCell']) (by unfold maxLen; omega) (by omega) (by have := HB.out.size; simp; omega) ?_; intro v' w6 hown6 hgrow6 _ _; have hb6 := (HB.out.alloc HB.out.size _).grown hgrow6 (by have := HB.out.size; simp; omega) (fun q hq => (HW.out.lt q hq).1); have hlk6 := (HL.out.below hb6).look HWP.out)
          go_roundw
          case rel =>
            refine ⟨k + 1, hk1, by go_num, ?_, ?_, ?_, row_other (HI.out.alloc _) hgrow6 (row_types (w := wr) HI.out HW.out (by decide)), hb6⟩
            · rw [HDT.out]; congr 1; omega
            · rw [HST.out, Int.add_assoc]
            · rw [HPT.out, ptV_snoc, List.length_append, List.length_singleton]
              exact hown6
          case measure => simp [RowKit.intOf]; omega
        · obtain rfl : k = xs.length := by omega
          rw [List.take_length] at HW ⊢
          clear hb hi
          go_wp2_with fail
          go_ret
          exact ⟨_, xs, rfl, HXR.out, HXM.out, HW.out, HB.out⟩
    · intro x ca cb kl yd yp w2 cnt2 hkey hlk hv hat hrg2 hlt hg2 hs2 hen
      obtain ⟨x', hx', hkl, hwx⟩ := Maps.keyOf_i64 Try.underlying3 hkey
      obtain rfl : x = x' := by simpa using hx'
      obtain ⟨hc1, hc2⟩ := lots_of (c := (ca, cb)) HD.out hkl hv hat
      replace hc1 : ca = _ := hc1
      replace hc2 : cb = _ := hc2
      subst hc1 hc2 hkl
      have HR2 : Hid (w2.ranges Try.prog 3 lotR B W.heap.size (F.length + 1) D (fun z => left z && !z.sameKey (.int .i64 x)) cnt2) := hrg2
      have HC2 : Hid (CollectedI D (fun z => left z && !z.sameKey (.int .i64 x)) (ss ++ [x])) := HC.out.step hlk hat
      have HB2 : Hid (Below w.heap.size w w2) := HB.out.grown hg2 HB.out.size (fun q hq => by cases hq; exact HBW.out.size)
      have HLT : Hid (cnt2 < cnt) := hlt
      have HSX : Hid (sumX limBB (ss ++ [x]) F = sumX limBB ss F + sumQ (limBB x) F) := sumX_snoc _ _ _ _
      have hq1 := sumQ_small (q := limBB x) HF.out hl
      have hq2 := sumQ_small (q := limSB x) HF.out hl
      clear hkey hlk hv hat hrg2 hlt hg2 hs2 hx'
      go_wp2_with fail
      go_roundw
      case rel => exact ⟨_, cnt2, ss ++ [x], by rw [HSX.out, Int.add_assoc], HR2.out.alloc _, HC2.out, HB2.out.alloc HB2.out.size _⟩
      case measure => rw [(HR2.out.alloc _).left_eq, HRW.out.left_eq]; exact HLT.out
end Go.Proofs.Ytahmeoafoedebaa
