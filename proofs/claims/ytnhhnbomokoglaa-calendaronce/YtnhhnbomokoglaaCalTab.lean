/-
  What calendar.New and a Table's Phase return, over this seat's translation, at every list of at most 60 rows. Conditions stand in each theorem: where the rows lie, that each number of theirs is an int.
-/
import Derived.Test.YtnhhnbomokoglaaCalNew
namespace Go.Proofs.Ytnhhnbomokoglaa
open Go.RowKit

/-- A region that draws its order, whose first n operations only read and feed the rest, which has one order: in the text's order. -/
theorem region_tail {P : Program} {id : Nat} {Q : Exit → Act → World → Prop} {a : Act} {w : World} {l : List Oper} (n : Nat) (hm : P.follows .mixedOrders = true) (hB : Region.lexTailB .any l.toArray n = true)
    (h : wpStill P l.toArray w.drew (fun a' => wpList P l.toArray Q (l.drop n) a' w.drew) (l.take n) a) : (Code.region id l.toArray true).wp P Q a w := wp_region_still_tail n hm hB h

theorem new_empty (a : Option Addr) (cap : Nat) (w : World) : Calls Try.prog 14 #[.slice a 0 cap] w fun e w' => e = .returned (.tuple #[.pointer none, .iface 41 (.int .i64 8)]) ∧ w' = w := by
  go_enter Try.func14, Try.ntmps14
  go_wp2
  go_ret2
  exact ⟨rfl, rfl⟩

def wfRows (rs : List (Int × Int)) : Prop := ∀ k, k < rs.length → (Lit.int .i64 (rowAt rs k).1).wf = true ∧ (Lit.int .i64 (rowAt rs k).2).wf = true

theorem scan_step {p : Int × Int} {rs : List (Int × Int)} {k : Nat} (h : k < rs.length) (he : rowE p (rowAt rs k) = 0) : scanE p k (rs.drop k) = scanE (rowAt rs k) (k + 1) (rs.drop (k + 1)) := by
  rw [List.drop_eq_getElem_cons h]
  have : rs[k] = rowAt rs k := by simp [rowAt, h]
  rw [this]; simp [scanE, he]
theorem scan_stop {p : Int × Int} {rs : List (Int × Int)} {k : Nat} (h : k < rs.length) (he : ¬ rowE p (rowAt rs k) = 0) : scanE p k (rs.drop k) = (rowE p (rowAt rs k), (k : Int)) := by
  rw [List.drop_eq_getElem_cons h]
  have : rs[k] = rowAt rs k := by simp [rowAt, h]
  rw [this]; simp [scanE, he]
theorem scan_end {p : Int × Int} {rs : List (Int × Int)} {k : Nat} (h : rs.length ≤ k) : scanE p k (rs.drop k) = (0, -1) := by
  rw [List.drop_eq_nil_of_le h]; rfl
theorem tab_cons (r : Int × Int) (rs : List (Int × Int)) : tabE (r :: rs) = if 20 < (r :: rs).length then (4, -1) else if r = (0, 1) then scanE r 1 rs else (1, 0) := rfl
theorem tab_long {rs : List (Int × Int)} (h : 20 < rs.length) : tabE rs = (4, -1) := by
  cases rs with
  | nil => simp at h
  | cons r rs => rw [tab_cons, if_pos h]
theorem tab_first {rs : List (Int × Int)} (h0 : 0 < rs.length) (h : rs.length ≤ 20) (he : ¬ rowAt rs 0 = (0, 1)) : tabE rs = (1, 0) := by
  cases rs with
  | nil => simp at h0
  | cons r rs => rw [tab_cons, if_neg (by omega), if_neg (by exact he)]
theorem tab_scan {rs : List (Int × Int)} (h0 : 0 < rs.length) (h : rs.length ≤ 20) (he : rowAt rs 0 = (0, 1)) : tabE rs = scanE (rowAt rs 0) 1 (rs.drop 1) := by
  cases rs with
  | nil => simp at h0
  | cons r rs => rw [tab_cons, if_neg (by omega), if_pos (by exact he)]; rfl

theorem bne_yes {a : Int} (h : (a != 0) = true) : ¬ a = 0 := by simpa using h
theorem bne_no {a : Int} (h : (a != 0) = false) : a = 0 := by simpa using h

theorem wrong_row (v : Value) (p r : Int × Int) (w : World) (h : IntsAt w v (folL p.2)) :
    Calls Try.prog 21 #[v, .agg #[.int .i64 p.1, .int .i64 p.2], .agg #[.int .i64 r.1, .int .i64 r.2]] w fun e w' => e = .returned (.int .i64 (rowE p r)) ∧ Below w.heap.size w w' := wrong_any v _ _ _ _ _ w h

set_option maxRecDepth 4000 in
set_option maxHeartbeats 1000000 in
theorem new_any (b off cap : Nat) (rs : List (Int × Int)) (w : World) (h : RowsAt w b off rs) (hwf : wfRows rs) (hne : 0 < rs.length) (hlen : rs.length ≤ 60) :
    Calls Try.prog 14 #[.slice (some ⟨b, off, none⟩) rs.length cap] w fun e w' => ∃ t err, e = .returned (.tuple #[t, err]) ∧ NewIs w' rs t err ∧ Below w.heap.size w w' := by
  have HR : Hid (RowsAt w b off rs) := h
  have HW : Hid (wfRows rs) := hwf
  obtain ⟨hc0, hc1⟩ := h.row hne
  simp only [Nat.zero_mul, Nat.add_zero] at hc0 hc1
  clear h hwf
  go_enter Try.func14, Try.ntmps14
  go_wp2_with fail
  · go_ret2
    exact ⟨_, _, rfl, Or.inr ⟨by rw [tab_long (by omega)]; decide, rfl, Or.inl (by rw [tab_long (by omega)]; exact ⟨rfl, rfl⟩)⟩, Below.refl _ _⟩
  · refine (followers_any _).mono ?_
    rintro e w1 ⟨rfl, hF, hb1⟩
    have H0 : Hid (tabE rs = scanE (rowAt rs 0) 1 (rs.drop 1)) := tab_scan hne (by omega) (by apply Prod.ext <;> assumption)
    have HF : Hid (FolAt w1 w.heap.size) := hF
    have HB : Hid (Below w.heap.size w w1) := hb1
    clear hF hb1 hc0 hc1
    go_wp2_with fail
    go_loopw [5, 6] (fun i _ wr => ∃ m : Nat, m < rs.length ∧ i = .int .i64 ((m + 1 : Nat) : Int) ∧ FolAt wr w.heap.size ∧ Below w.heap.size w wr ∧ scanE (rowAt rs m) (m + 1) (rs.drop (m + 1)) = tabE rs) (fun i _ _ => rs.length - (intOf i).toNat)
    case atStart => exact ⟨0, hne, rfl, HF.out, HB.out, H0.out.symm⟩
    case round =>
      obtain ⟨m, hm, rfl, hf, hb, hq⟩ := hrel
      have HF : Hid (FolAt wr w.heap.size) := hf
      have HB : Hid (Below w.heap.size w wr) := hb
      have HQ : Hid (scanE (rowAt rs m) (m + 1) (rs.drop (m + 1)) = tabE rs) := hq
      obtain ⟨c0, c1⟩ := (HR.out.below hb (Nat.le_refl _)).row hm
      clear hf hb hq
      go_wp2_with fail
      · have hm1 : m + 1 < rs.length := by omega
        obtain ⟨d0, d1⟩ := (HR.out.below HB.out (Nat.le_refl _)).row hm1
        obtain ⟨v, hrun, hv⟩ := (HF.out.below (Below.refl wr.heap.size wr).drew (Nat.le_refl _)).look (HW.out m hm).2
        have HV : Hid (IntsAt wr.drew v (folL (rowAt rs m).2)) := hv
        clear hv
        have q1 : IntKind.i64.wrap (m : Int) = m := IntWalk.i64_in _ (by omega)
        have q2 : (m : Int) < rs.length := by omega
        have q3 : (m : Int) + 1 < rs.length := by omega
        have q4 : (0 : Int) ≤ (m : Int) + 1 := by omega
        have q5 : ((m : Int) + 1).toNat = m + 1 := by omega
        refine region_tail 17 (by kernel_rfl) (by kernel_rfl) ?_
        simp only [List.take_succ_cons, List.take_zero, List.drop_succ_cons, List.drop_zero]
        repeat still_step
        try refine wpStill_nil ?_
        clear hrun q1 q2 q3 q4 q5 c0 c1 d0 d1
        go_wp2_with fail
        refine (wrong_row v (rowAt rs m) (rowAt rs (m + 1)) _ HV.out).mono ?_
        rintro e w2 ⟨rfl, hb2⟩
        have HB2 : Hid (Below wr.heap.size wr w2) := (Below.refl _ wr).drew.trans hb2
        clear hb2
        go_wp2_with fail
        · go_ret2
          have hT : tabE rs = (rowE (rowAt rs m) (rowAt rs (m + 1)), ((m + 1 : Nat) : Int)) := HQ.out.symm.trans (scan_stop hm1 (bne_yes (by assumption)))
          exact ⟨_, _, rfl, Or.inr ⟨by rw [hT]; exact bne_yes (by assumption), rfl, Or.inr ⟨w2.heap.size, rfl, by rw [hT]; exact World.cell?_alloc_at _ _ _ _ rfl, by rw [hT]; exact World.cell?_alloc_at _ _ _ _ rfl⟩⟩,
            (HB.out.trans (HB2.out.mono HB.out.size)).alloc (Nat.le_trans HB.out.size HB2.out.size) _⟩
        · go_roundw
          case rel => exact ⟨m + 1, hm1, by go_num, HF.out.below HB2.out (Nat.le_refl _), HB.out.trans (HB2.out.mono HB.out.size), (scan_step hm1 (bne_no (by assumption))).symm.trans HQ.out⟩
          case measure => simp [intOf]; omega
      · refine (clone_any b off cap rs _ (HR.out.below HB.out (Nat.le_refl _)) hne hlen).mono ?_
        rintro e w2 ⟨cb, c, rfl, hr, hb2⟩
        have hT : Hid (tabE rs = (0, -1)) := HQ.out.symm.trans (scan_end (by omega))
        have HR2 : Hid (RowsAt w2 cb 0 rs) := hr
        have HB2 : Hid (Below wr.heap.size wr w2) := hb2
        clear hb2 hr
        go_wp2
        go_ret2
        exact ⟨_, _, rfl, Or.inl ⟨hT.out, rfl, w2.heap.size, rfl, cb, c, World.cell?_alloc_at _ _ _ _ rfl, HR2.out.below ((Below.refl _ _).alloc (Nat.le_refl _) _) (Nat.le_refl _)⟩,
          (HB.out.trans (HB2.out.mono HB.out.size)).alloc (Nat.le_trans HB.out.size HB2.out.size) _⟩
  · go_ret2
    have hT : tabE rs = (1, 0) := tab_first hne (by omega) (fun e => absurd (congrArg Prod.snd e) (by assumption))
    exact ⟨_, _, rfl, Or.inr ⟨by rw [hT]; decide, rfl, Or.inr ⟨w.heap.size, rfl, by rw [hT]; exact World.cell?_alloc_at _ _ _ _ rfl, by rw [hT]; exact World.cell?_alloc_at _ _ _ _ rfl⟩⟩, (Below.refl _ _).alloc (Nat.le_refl _) _⟩
  · go_ret2
    have hT : tabE rs = (1, 0) := tab_first hne (by omega) (fun e => absurd (congrArg Prod.fst e) (by assumption))
    exact ⟨_, _, rfl, Or.inr ⟨by rw [hT]; decide, rfl, Or.inr ⟨w.heap.size, rfl, by rw [hT]; exact World.cell?_alloc_at _ _ _ _ rfl, by rw [hT]; exact World.cell?_alloc_at _ _ _ _ rfl⟩⟩, (Below.refl _ _).alloc (Nat.le_refl _) _⟩
end Go.Proofs.Ytnhhnbomokoglaa
