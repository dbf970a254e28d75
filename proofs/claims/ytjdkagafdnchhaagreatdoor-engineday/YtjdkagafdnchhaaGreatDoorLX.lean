/-
  The table that the keeper's begins (9.5) makes, over plain lists. Conditions stand in each theorem.
-/
import Derived.Test.YtjdkagafdnchhaaGreatDoorLI
import Derived.Test.YtjdkagafdnchhaaGreatDoorLT
import Derived.Test.YtjdkagafdnchhaaGreatDoorLW
import Derived.Test.YtjdkagafdnchhaaGreatDoorRows
import Derived.WalkKit
import Derived.WalkSpells
import Derived.WalkLawsBesides
import Derived.LaidEql
import Derived.Stop.Asserts
import Derived.RowKitTokens
import Derived.Lib.ReflectliteSlice
import Derived.Handy
import Derived.BigQuiet
namespace Go.Proofs.YtjdkagafdnchhaaGreatDoor
open Go.RowKit Go.Maps

def phT (i : Nat) : Int := if i = 0 then 1 else if i = 1 then 2 else if i = 2 then 3 else if i = 3 then 5 else 7
theorem row_ok {p q a0 a1 : Int} (h : hasB (folL p) q = true) (h1 : a0 < a1) (h2 : a1 ≤ 1000000) : rowE (a0, p) (a1, q) = 0 := by
  show wrongN (folL p) a0 a1 q = 0
  unfold wrongN
  rw [if_pos h, if_neg (by omega), if_neg (by omega)]
theorem scan_ok {p r : Int × Int} {i : Nat} {rs : List (Int × Int)} (h : rowE p r = 0) : scanE p i (r :: rs) = scanE r (i + 1) rs := if_pos h
theorem tab_five {t1 t2 t3 t4 : Int} (h1 : 0 < t1) (h2 : t1 < t2) (h3 : t2 < t3) (h4 : t3 < t4) (h5 : t4 ≤ 1000000) : tabE [(0, 1), (t1, 2), (t2, 3), (t3, 5), (t4, 7)] = (0, -1) := by
  have e : tabE [(0, 1), (t1, 2), (t2, 3), (t3, 5), (t4, 7)] = scanE (0, 1) 1 [(t1, 2), (t2, 3), (t3, 5), (t4, 7)] := by
    show (if 20 < ([(0, 1), (t1, 2), (t2, 3), (t3, 5), (t4, 7)] : List (Int × Int)).length then ((4 : Int), (-1 : Int)) else if ((0 : Int), (1 : Int)) = (0, 1) then scanE (0, 1) 1 [(t1, 2), (t2, 3), (t3, 5), (t4, 7)] else (1, 0)) = _
    rw [if_neg (by simp), if_pos rfl]
  rw [e, scan_ok (row_ok (by decide) h1 (by omega)), scan_ok (row_ok (by decide) h2 (by omega)), scan_ok (row_ok (by decide) h3 (by omega)), scan_ok (row_ok (by decide) h4 h5)]
  rfl
/-- the table's first rows; at: ahead of which the next one is not -/
def TabN : Nat → List (Int × Int) → Int → Prop
  | 0, rs, at_ => rs = [] ∧ at_ = 0
  | i + 1, rs, at_ => ∃ rs0 at0, TabN i rs0 at0 ∧ rs = rs0 ++ [(at0, phT i)] ∧ at0 < at_ ∧ at_ ≤ at0 + 60
theorem TabN.len : ∀ {i : Nat} {rs : List (Int × Int)} {a : Int}, TabN i rs a → rs.length = i ∧ 0 ≤ a ∧ a ≤ 60 * i
  | 0, _, _, ⟨h, e⟩ => by subst h e; exact ⟨rfl, by omega, by omega⟩
  | i + 1, _, _, ⟨rs0, at0, h, e, h1, h2⟩ => by
    have := TabN.len h
    subst e
    refine ⟨by rw [List.length_append, this.1]; rfl, by omega, by omega⟩
theorem TabN.five {rs : List (Int × Int)} {a : Int} (h : TabN 5 rs a) : tabE rs = (0, -1) ∧ wfRows rs ∧ rs.length = 5 := by
  have hl := h.len.1
  obtain ⟨r4, a4, ⟨r3, a3, ⟨r2, a2, ⟨r1, a1, ⟨r0, a0, ⟨rfl, rfl⟩, rfl, l1, m1⟩, rfl, l2, m2⟩, rfl, l3, m3⟩, rfl, l4, m4⟩, rfl, l5, m5⟩ := h
  refine ⟨tab_five l1 l2 l3 l4 (by omega), fun k hk => ?_, hl⟩
  have hk5 : k < 5 := hk
  have : k = 0 ∨ k = 1 ∨ k = 2 ∨ k = 3 ∨ k = 4 := by omega
  rcases this with rfl | rfl | rfl | rfl | rfl
  · exact ⟨show (Lit.int .i64 0).wf = true by decide, show (Lit.int .i64 1).wf = true by decide⟩
  · exact ⟨WalkArith.wf_i64 (by show -9223372036854775808 ≤ a1 ∧ a1 ≤ 9223372036854775807; omega), show (Lit.int .i64 2).wf = true by decide⟩
  · exact ⟨WalkArith.wf_i64 (by show -9223372036854775808 ≤ a2 ∧ a2 ≤ 9223372036854775807; omega), show (Lit.int .i64 3).wf = true by decide⟩
  · exact ⟨WalkArith.wf_i64 (by show -9223372036854775808 ≤ a3 ∧ a3 ≤ 9223372036854775807; omega), show (Lit.int .i64 5).wf = true by decide⟩
  · exact ⟨WalkArith.wf_i64 (by show -9223372036854775808 ≤ a4 ∧ a4 ≤ 9223372036854775807; omega), show (Lit.int .i64 7).wf = true by decide⟩
/-- a day's table, row by row -/
theorem TabN.is {rs : List (Int × Int)} {a : Int} (h : TabN 5 rs a) : ∃ t1 t2 t3 t4 : Int, rs = [(0, 1), (t1, 2), (t2, 3), (t3, 5), (t4, 7)] ∧ 0 < t1 ∧ t1 < t2 ∧ t2 < t3 ∧ t3 < t4 ∧ t4 ≤ 240 := by
  obtain ⟨r4, a4, ⟨r3, a3, ⟨r2, a2, ⟨r1, a1, ⟨r0, a0, ⟨rfl, rfl⟩, rfl, l1, m1⟩, rfl, l2, m2⟩, rfl, l3, m3⟩, rfl, l4, m4⟩, rfl, l5, m5⟩ := h
  exact ⟨a1, a2, a3, a4, rfl, l1, l2, l3, l4, by omega⟩
/-- when a day ends -/
theorem TabN.ends {rs : List (Int × Int)} {a : Int} (h : TabN 5 rs a) : (0 < (rowAt rs 4).1 ∧ (rowAt rs 4).1 ≤ 240) ∧ ∀ now : Int, (phaseV rs now).1 = 7 ↔ (rowAt rs 4).1 ≤ now := by
  obtain ⟨t1, t2, t3, t4, rfl, h1, h2, h3, h4, h5⟩ := h.is
  have e4 : (rowAt [(0, 1), (t1, 2), (t2, 3), (t3, 5), (t4, 7)] 4).1 = t4 := rfl
  rw [e4]
  refine ⟨⟨by omega, h5⟩, fun now => ?_⟩
  have e : phaseV [(0, 1), (t1, 2), (t2, 3), (t3, 5), (t4, 7)] now = if now < t1 then (1, t1) else if now < t2 then (2, t2) else if now < t3 then (3, t3) else if now < t4 then (5, t4) else (7, -1) := rfl
  rw [e]
  by_cases g1 : now < t1
  · rw [if_pos g1]; constructor
    · intro e; cases e
    · intro e; omega
  rw [if_neg g1]
  by_cases g2 : now < t2
  · rw [if_pos g2]; constructor
    · intro e; cases e
    · intro e; omega
  rw [if_neg g2]
  by_cases g3 : now < t3
  · rw [if_pos g3]; constructor
    · intro e; cases e
    · intro e; omega
  rw [if_neg g3]
  by_cases g4 : now < t4
  · rw [if_pos g4]; constructor
    · intro e; cases e
    · intro e; omega
  rw [if_neg g4]
  exact ⟨fun _ => by omega, fun _ => rfl⟩
end Go.Proofs.YtjdkagafdnchhaaGreatDoor

/-
  The keeper's begins (9.5): a day's start. Over this seat's translation. Conditions stand in each theorem.
-/
namespace Go.Proofs.YtjdkagafdnchhaaGreatDoor
open Go.RowKit Go.Maps

theorem Tryz.infoRowE : (Tryz.prog.info? 82).map (fun i => (i.zero, i.size, i.bytes)) = some (some (.agg #[.int .i64 0, .int .i64 0]), 2, 16) := by kernel_rfl
theorem flat_snoc (a : List (Int × Int)) (x y : Int) : flat (a ++ [(x, y)]) = flat a ++ [.int .i64 x, .int .i64 y] := by
  induction a with
  | nil => rfl
  | cons r rs ih => show Value.int .i64 r.1 :: Value.int .i64 r.2 :: flat (rs ++ [(x, y)]) = _; rw [ih]; rfl
abbrev cfgV (v : Value) (c : DCfg) : Array Value := #[v, .int .i64 c.st, .int .i64 c.dy, .int .i64 c.pr, .int .i64 c.ti, .int .i64 c.mo]
/-- a day that begins: the day itself, its table -/
def BegIs (w w' : World) (base : Nat) (c : DCfg) (d : DayK) (M : Mkt) (g vc : Nat) : Prop :=
  (w.heap.size ≤ base ∧ base ≤ w'.heap.size) ∧ Day w' base c d M (fun _ => 0) (fun _ => 0) 0 false ∧ DayInv M (fun _ => 0) (fun _ => 0) 0 false ∧ c.tv = .slice (some ⟨g, 0, none⟩) 5 vc ∧ g < base ∧ RowsAt w' g 0 c.rs ∧ (∃ a, TabN 5 c.rs a)
    ∧ d.k.m = 0 ∧ d.nl = 0 ∧ d.ns = 0 ∧ M.now = 0 ∧ (20 ≤ c.pr ∧ c.pr ≤ 1000) ∧ Below w.heap.size w w'
set_option maxRecDepth 8000 in
set_option maxHeartbeats 4000000 in
theorem drBegins (a b c0 e0 f0 : Int) (wa : Option Addr) (cap : Nat) (ws : List Int) (w : World) (hws : ∀ (j : Nat) (z : Int), ws[j]? = some z → ∃ gb go, wa = some ⟨gb, go, none⟩ ∧ w.cell? ⟨gb, go + j, none⟩ = some (.int .i64 z)) (_hlen : ws.length ≤ 10) :
    Calls Tryz.prog 31 #[.int .i64 a, .int .i64 b, .int .i64 c0, .int .i64 e0, .int .i64 f0, .slice wa ws.length cap] w fun e w' => ∃ (base : Nat) (c : DCfg) (d : DayK) (M : Mkt) (g vc : Nat), e = .returned (.pointer (some ⟨d.db, 0, none⟩)) ∧ BegIs w w' base c d M g vc := by
  obtain ⟨i0, hi0, hz0, hz1, hz2⟩ := info_parts Tryz.infoRowE
  have p0 := pickE_in a 3000 (by decide)
  have p1 := pickE_in b 1500 (by decide)
  have p2 := pickE_in c0 200 (by decide)
  have p3 := pickE_in e0 5 (by decide)
  have p4 := pickE_in f0 4 (by decide)
  have r2 : IntKind.i64.wrap (20 + pickE c0 200) = 20 + pickE c0 200 := IntWalk.i64_in _ (by omega)
  have r3 : IntKind.i64.wrap (1 + pickE e0 5) = 1 + pickE e0 5 := IntWalk.i64_in _ (by omega)
  have HWS : Hid (∀ (j : Nat) (z : Int), ws[j]? = some z → ∃ gb go, wa = some ⟨gb, go, none⟩ ∧ w.cell? ⟨gb, go + j, none⟩ = some (.int .i64 z)) := hws
  clear hws
  go_enter Tryz.func31, Tryz.ntmps31
  go_wp2_with fail
  refine (drPick a 3000 _ (by decide)).mono ?_
  rintro e w' ⟨rfl, hw⟩
  rw [hw]
  clear hw w'
  go_wp2_with fail
  refine (drPick b 1500 _ (by decide)).mono ?_
  rintro e w' ⟨rfl, hw⟩
  rw [hw]
  clear hw w'
  go_wp2_with fail
  refine (drPick c0 200 _ (by decide)).mono ?_
  rintro e w' ⟨rfl, hw⟩
  rw [hw]
  clear hw w'
  go_wp2_with fail
  refine (drPick e0 5 _ (by decide)).mono ?_
  rintro e w' ⟨rfl, hw⟩
  rw [hw]
  clear hw w'
  go_wp2_with fail
  refine (drPick f0 4 _ (by decide)).mono ?_
  rintro e w' ⟨rfl, hw⟩
  rw [hw]
  clear hw w'
  go_wp2_with fail
  have hb2 : Below w.heap.size w ((w.alloc (.cells #[.slice none 0 0, .int .i64 (pickE a 3000), .int .i64 (pickE b 1500), .int .i64 (20 + pickE c0 200), .int .i64 (1 + pickE e0 5), .int .i64 (pickE f0 4)] 24)).alloc (.cells #[.int .i64 1, .int .i64 2, .int .i64 3, .int .i64 5, .int .i64 7] 3)) := bel_then (bel1 w _) (bel1 _ _)
  have hx1 := blk_below (heap_alloc_new w (.cells #[.slice none 0 0, .int .i64 (pickE a 3000), .int .i64 (pickE b 1500), .int .i64 (20 + pickE c0 200), .int .i64 (1 + pickE e0 5), .int .i64 (pickE f0 4)] 24)) (bel1 (w.alloc (.cells #[.slice none 0 0, .int .i64 (pickE a 3000), .int .i64 (pickE b 1500), .int .i64 (20 + pickE c0 200), .int .i64 (1 + pickE e0 5), .int .i64 (pickE f0 4)] 24)) (.cells #[.int .i64 1, .int .i64 2, .int .i64 3, .int .i64 5, .int .i64 7] 3)) (Nat.le_refl _)
  have hx2 := heap_alloc_new (w.alloc (.cells #[.slice none 0 0, .int .i64 (pickE a 3000), .int .i64 (pickE b 1500), .int .i64 (20 + pickE c0 200), .int .i64 (1 + pickE e0 5), .int .i64 (pickE f0 4)] 24)) (.cells #[.int .i64 1, .int .i64 2, .int .i64 3, .int .i64 5, .int .i64 7] 3)
  rw [show (w.alloc (.cells #[.slice none 0 0, .int .i64 (pickE a 3000), .int .i64 (pickE b 1500), .int .i64 (20 + pickE c0 200), .int .i64 (1 + pickE e0 5), .int .i64 (pickE f0 4)] 24)).heap.size = w.heap.size + 1 by simp] at hx2
  have hsz : ((w.alloc (.cells #[.slice none 0 0, .int .i64 (pickE a 3000), .int .i64 (pickE b 1500), .int .i64 (20 + pickE c0 200), .int .i64 (1 + pickE e0 5), .int .i64 (pickE f0 4)] 24)).alloc (.cells #[.int .i64 1, .int .i64 2, .int .i64 3, .int .i64 5, .int .i64 7] 3)).heap.size = w.heap.size + 2 := by simp
  generalize (w.alloc (.cells #[.slice none 0 0, .int .i64 (pickE a 3000), .int .i64 (pickE b 1500), .int .i64 (20 + pickE c0 200), .int .i64 (1 + pickE e0 5), .int .i64 (pickE f0 4)] 24)).alloc (.cells #[.int .i64 1, .int .i64 2, .int .i64 3, .int .i64 5, .int .i64 7] 3) = w2 at hb2 hx1 hx2 hsz ⊢
  obtain ⟨st, est⟩ : ∃ st, st = pickE a 3000 := ⟨_, rfl⟩
  obtain ⟨dy, edy⟩ : ∃ dy, dy = pickE b 1500 := ⟨_, rfl⟩
  obtain ⟨pr, epr⟩ : ∃ pr, pr = 20 + pickE c0 200 := ⟨_, rfl⟩
  obtain ⟨ti, eti⟩ : ∃ ti, ti = 1 + pickE e0 5 := ⟨_, rfl⟩
  obtain ⟨mo, emo⟩ : ∃ mo, mo = pickE f0 4 := ⟨_, rfl⟩
  rw [← est, ← edy, ← epr, ← eti, ← emo] at hx1
  have HC : Hid ((0 ≤ st ∧ st < 3000) ∧ (0 ≤ dy ∧ dy < 1500) ∧ (20 ≤ pr ∧ pr < 220) ∧ (1 ≤ ti ∧ ti ≤ 5) ∧ (0 ≤ mo ∧ mo < 4)) := by show _ ∧ _; omega
  have HX1 : Hid (w2.heap[w.heap.size]? = some (.cells #[.slice none 0 0, .int .i64 st, .int .i64 dy, .int .i64 pr, .int .i64 ti, .int .i64 mo] 24 (0, 0))) := hx1
  have HX2 : Hid (w2.heap[w.heap.size + 1]? = some (.cells #[.int .i64 1, .int .i64 2, .int .i64 3, .int .i64 5, .int .i64 7] 3 (0, 0))) := hx2
  have HB2 : Hid (Below w.heap.size w w2) := hb2
  clear hb2 hx1 hx2 r2 r3 est edy epr eti emo
  go_loopw [14, 34] (fun u14 u34 wr => ∃ (i : Nat) (rs : List (Int × Int)) (at_ : Int) (v : Value), u34 = .int .i64 i ∧ i ≤ 5 ∧ u14 = .int .i64 at_ ∧ TabN i rs at_ ∧ wr.heap[w.heap.size]? = some (.cells #[v, .int .i64 st, .int .i64 dy, .int .i64 pr, .int .i64 ti, .int .i64 mo] 24 (0, 0)) ∧ wr.ownsRow (w.heap.size + 2) 82 2 v i (flat rs) ∧ wr.heap[w.heap.size + 1]? = some (.cells #[.int .i64 1, .int .i64 2, .int .i64 3, .int .i64 5, .int .i64 7] 3 (0, 0)) ∧ Below w.heap.size w wr) (fun _ u34 _ => 5 - (intOf u34).toNat)
  case atStart => exact ⟨0, [], 0, _, rfl, by omega, rfl, ⟨rfl, rfl⟩, HX1.out, World.ownsRow_nil _ _ _ _, HX2.out, HB2.out⟩
  case round =>
    obtain ⟨i, rs, at_, v, rfl, hi, rfl, ht, hx1, hr, hx2, hbr⟩ := hrel
    have HL : Hid (rs.length = i) := ht.len.1
    have l2 := ht.len.2.1
    have l3 := ht.len.2.2
    by_cases hi5 : i < 5
    · have hlt : (i : Int) < 5 := by omega
      have hph : wr.cell? ⟨w.heap.size + 1, i, none⟩ = some (.int .i64 (phT i)) := blk_cell (j := i) hx2 (by
        have : i = 0 ∨ i = 1 ∨ i = 2 ∨ i = 3 ∨ i = 4 := by omega
        rcases this with rfl | rfl | rfl | rfl | rfl <;> rfl)
      have cv : wr.cell? ⟨w.heap.size, 0, none⟩ = some v := blk_cell (j := 0) hx1 rfl
      obtain ⟨va, vc, rfl, _, _⟩ := owns_shape hr
      have q63 : i + 1 ≤ maxLen := by unfold maxLen; omega
      have hsw : w.heap.size + 2 ≤ wr.heap.size := lt_of_block hx2
      have r1 : IntKind.i64.wrap (at_ + 1) = at_ + 1 := IntWalk.i64_in _ (by omega)
      have HR : Hid (wr.ownsRow (w.heap.size + 2) 82 2 (.slice va i vc) i (flat rs)) := hr
      have HXr : Hid (wr.heap[w.heap.size]? = some (.cells #[.slice va i vc, .int .i64 st, .int .i64 dy, .int .i64 pr, .int .i64 ti, .int .i64 mo] 24 (0, 0))) := hx1
      have HPr : Hid (wr.heap[w.heap.size + 1]? = some (.cells #[.int .i64 1, .int .i64 2, .int .i64 3, .int .i64 5, .int .i64 7] 3 (0, 0))) := hx2
      have HBr : Hid (Below w.heap.size w wr) := hbr
      have HT : Hid (TabN i rs at_) := ht
      clear hr hx1 hx2 hbr ht
      go_upto_region 8 with (at_builtin; refine wpList_append_any _ rfl (.tmp 40) (.tmp 44) 22 rfl (w.heap.size + 2) 82 i0 _ 2 16 Tryz.underlying22 hi0 hz0 hz1 hz2 (by rfl) (by omega) (.slice va i vc) i (flat rs) (by rfl) (owns_below HR.out (bel1 _ _) (Nat.le_refl _)) (some ⟨wr.heap.size, 0, none⟩) 1 1 [.int .i64 at_, .int .i64 (phT i)] (by rfl) (by rfl) (Or.inr ⟨_, rfl, World.news_of_block (cs := #[.int .i64 at_, .int .i64 (phT i)]) (t := 82) (fr := (0, 0)) (heap_alloc_new wr _)⟩) (by simp [Value.oneCell']) q63 (by omega) (by simp; omega) ?_; intro v3 w3 h3 hg3 hk3; obtain ⟨a3, n3, hv3, _, _⟩ := owns_shape h3; subst hv3; have HB3 : Hid (Below (w.heap.size + 2) wr w3) := ((Below.refl (w.heap.size + 2) wr).alloc hsw _).grown hg3 (by simp; omega) (fun j hj => (HR.out.lt j hj).1); have H3 : Hid (w3.ownsRow (w.heap.size + 2) 82 2 (.slice a3 (i + 1) n3) (i + 1) (flat rs ++ [.int .i64 at_, .int .i64 (phT i)])) := h3; have HX3 : Hid (w3.heap[w.heap.size]? = some (.cells #[.slice va i vc, .int .i64 st, .int .i64 dy, .int .i64 pr, .int .i64 ti, .int .i64 mo] 24 (0, 0))) := (HB3.out.block _ (by omega)).trans HXr.out; have c3 := blk_cell (j := 0) (v := .slice va i vc) HX3.out rfl; have g3 := blk_free (j := 0) HX3.out; clear h3 hg3 hk3)
      have h4 : (w3.setCell ⟨w.heap.size, 0, none⟩ (.slice a3 (i + 1) n3)).heap[w.heap.size]? = some (.cells #[.slice a3 (i + 1) n3, .int .i64 st, .int .i64 dy, .int .i64 pr, .int .i64 ti, .int .i64 mo] 24 (0, 0)) := blk_set (j := 0) _ HX3.out
      have o4 := out_set w3 ⟨w.heap.size, 0, none⟩ (.slice a3 (i + 1) n3)
      have r4 : (w3.setCell ⟨w.heap.size, 0, none⟩ (.slice a3 (i + 1) n3)).ownsRow (w.heap.size + 2) 82 2 (.slice a3 (i + 1) n3) (i + 1) (flat (rs ++ [(at_, phT i)])) := by
        rw [flat_snoc]
        exact owns_out H3.out o4 (fun j hj e => by have := (H3.out.lt j hj).1; have e' : j = w.heap.size := e; omega)
      have p4' : (w3.setCell ⟨w.heap.size, 0, none⟩ (.slice a3 (i + 1) n3)).heap[w.heap.size + 1]? = some (.cells #[.int .i64 1, .int .i64 2, .int .i64 3, .int .i64 5, .int .i64 7] 3 (0, 0)) := blk_out ((HB3.out.block _ (by omega)).trans HPr.out) o4 (fun e => by have e' : w.heap.size + 1 = w.heap.size := e; omega)
      have b4 : Below w.heap.size w (w3.setCell ⟨w.heap.size, 0, none⟩ (.slice a3 (i + 1) n3)) := (HBr.out.trans (HB3.out.mono (by omega))).setCell (p := ⟨w.heap.size, 0, none⟩) (Nat.le_refl _) _
      generalize (w3.setCell ⟨w.heap.size, 0, none⟩ (.slice a3 (i + 1) n3)) = w4 at h4 r4 p4' b4 ⊢
      have HN : Hid (∀ (w' : World) (at2 : Int), Below w4.heap.size w4 w' → at_ < at2 → at2 ≤ at_ + 60 → ∃ (i' : Nat) (rs' : List (Int × Int)) (at_' : Int) (v' : Value), (i' : Int) = (i : Int) + 1 ∧ i' = i + 1 ∧ i' ≤ 5 ∧ at2 = at_' ∧ TabN i' rs' at_' ∧ w'.heap[w.heap.size]? = some (.cells #[v', .int .i64 st, .int .i64 dy, .int .i64 pr, .int .i64 ti, .int .i64 mo] 24 (0, 0)) ∧ w'.ownsRow (w.heap.size + 2) 82 2 v' i' (flat rs') ∧ w'.heap[w.heap.size + 1]? = some (.cells #[.int .i64 1, .int .i64 2, .int .i64 3, .int .i64 5, .int .i64 7] 3 (0, 0)) ∧ Below w.heap.size w w') := fun w' at2 hb' g1 g2 => ⟨i + 1, rs ++ [(at_, phT i)], at2, _, by omega, rfl, by omega, rfl, ⟨rs, at_, HT.out, rfl, g1, g2⟩, blk_below h4 hb' (Nat.le_refl _), owns_below r4 hb' (Nat.le_refl _), blk_below p4' hb' (Nat.le_refl _), bel_then b4 hb'⟩
      have HB4 : Hid (Below w.heap.size w w4) := b4
      clear h4 r4 p4' b4 o4 c3 g3 cv hph HX3 H3 HB3
      by_cases hiw : i < ws.length
      · have hltw : (i : Int) < (ws.length : Int) := by omega
        obtain ⟨gb, go, rfl, hz⟩ := HWS.out i ws[i] (List.getElem?_eq_getElem hiw)
        have hz4 := (HB4.out.cell (p := ⟨gb, go + i, none⟩) (World.block_lt_of_cell? w _ hz)).trans hz
        generalize ws[i] = z at hz hz4
        have HZ5 : Hid ((w4.alloc (.cells #[.int .i64 3, .int .i64 4, .int .i64 60, .int .i64 6, .int .i64 1] 3)).drew.cell? ⟨gb, go + i, none⟩ = some (.int .i64 z)) := ((bel1 w4 (.cells #[.int .i64 3, .int .i64 4, .int .i64 60, .int .i64 6, .int .i64 1] 3)).drew.cell (p := ⟨gb, go + i, none⟩) (World.block_lt_of_cell? w4 _ hz4)).trans hz4
        obtain ⟨nn, hnn, hn1⟩ : ∃ nn : Int, (w4.alloc (.cells #[.int .i64 3, .int .i64 4, .int .i64 60, .int .i64 6, .int .i64 1] 3)).cell? ⟨w4.heap.size, i, none⟩ = some (.int .i64 nn) ∧ (1 ≤ nn ∧ nn ≤ 60) := by
          have hx := heap_alloc_new w4 (.cells #[.int .i64 3, .int .i64 4, .int .i64 60, .int .i64 6, .int .i64 1] 3)
          have : i = 0 ∨ i = 1 ∨ i = 2 ∨ i = 3 ∨ i = 4 := by omega
          rcases this with rfl | rfl | rfl | rfl | rfl
          · exact ⟨3, blk_cell (j := 0) hx rfl, by decide⟩
          · exact ⟨4, blk_cell (j := 1) hx rfl, by decide⟩
          · exact ⟨60, blk_cell (j := 2) hx rfl, by decide⟩
          · exact ⟨6, blk_cell (j := 3) hx rfl, by decide⟩
          · exact ⟨1, blk_cell (j := 4) hx rfl, by decide⟩
        have hpk := pickE_in z nn (by omega)
        have r9 : IntKind.i64.wrap (at_ + 1 + pickE z nn) = at_ + 1 + pickE z nn := IntWalk.i64_in _ (by omega)
        go_upto_region 9 with fail
        refine wp_region_lateM (fun _ w' => w'.cell? ⟨gb, go + i, none⟩ = some (.int .i64 z)) (fun _ _ => false) (by kernel_rfl) (fun _ => hz4) (fun hHeld => ?_)
        refine wpAnyM_pure (i := 0) (v := ?_) rfl (by kernel_rfl) (by kernel_rfl) (by kernel_rfl) (by kernel_rfl) (by first | exact fun _ _ _ h => h | exact fun _ _ _ h => HP.out _ _ _ _ (by rfl) h) (by rfl) ?_ ?_
        rotate_left
        · intro w
          go_simp
          try rfl
        refine wpAnyM_pure (i := 1) (v := ?_) rfl (by kernel_rfl) (by kernel_rfl) (by kernel_rfl) (by kernel_rfl) (by first | exact fun _ _ _ h => h | exact fun _ _ _ h => HP.out _ _ _ _ (by rfl) h) (by rfl) ?_ ?_
        rotate_left
        · intro w
          go_simp
          try rfl
        refine wpAnyM_pure (i := 2) (v := ?_) rfl (by kernel_rfl) (by kernel_rfl) (by kernel_rfl) (by kernel_rfl) (by first | exact fun _ _ _ h => h | exact fun _ _ _ h => HP.out _ _ _ _ (by rfl) h) (by rfl) ?_ ?_
        rotate_left
        · intro w
          go_simp
          try rfl
        refine wpAnyM_pure (i := 3) (v := ?_) rfl (by kernel_rfl) (by kernel_rfl) (by kernel_rfl) (by kernel_rfl) (by first | exact fun _ _ _ h => h | exact fun _ _ _ h => HP.out _ _ _ _ (by rfl) h) (by rfl) ?_ ?_
        rotate_left
        · intro w
          go_simp
          try rfl
        refine wpAnyM_pure (i := 6) (v := ?_) rfl (by kernel_rfl) (by kernel_rfl) (by kernel_rfl) (by kernel_rfl) (by first | exact fun _ _ _ h => h | exact fun _ _ _ h => HP.out _ _ _ _ (by rfl) h) (by rfl) ?_ ?_
        rotate_left
        · intro w
          go_simp
          try rfl
        refine wpAnyM_take 0 (i := 4) (v := ?_) rfl (by kernel_rfl) (by kernel_rfl) (by kernel_rfl) (by kernel_rfl) (by kernel_rfl) (by first | exact fun _ _ _ h => h | exact fun _ _ _ h => HP.out _ _ _ _ (by rfl) h) (by rfl) ?_ (hHeld 0) ?_
        rotate_left
        · intro w hSw
          try simp only [lateS_zero] at hSw
          try dsimp only at hSw
          go_simp
          try rfl
        refine wpAnyM_one (i := 5) (by kernel_rfl) rfl (fun K hK => ?_)
        go_simp
        refine hK.out _ _ (fun _ _ _ => HZ5.out) ?_
        clear hK K
        refine wpAnyM_pure (i := 7) (v := ?_) rfl (by kernel_rfl) (by kernel_rfl) (by kernel_rfl) (by kernel_rfl) (by first | exact fun _ _ _ h => h | exact fun _ _ _ h => HP.out _ _ _ _ (by rfl) h) (by rfl) ?_ ?_
        rotate_left
        · intro w
          go_simp
          try rfl
        refine wpAnyM_one (i := 8) (by kernel_rfl) rfl (fun K hK => ?_)
        go_simp
        refine hK.out _ _ (fun _ _ h => h) ?_
        clear hK K
        refine wpAnyM_one (i := 9) (by kernel_rfl) rfl (fun K hK => ?_)
        go_simp
        refine (drPick z nn _ (by omega)).mono ?_
        rintro e w' ⟨rfl, hw⟩
        rw [hw]
        clear hw w'
        refine hK.out _ _ (fun _ _ h => h) ?_
        clear hK K
        refine wpAnyM_pure (i := 10) (v := ?_) rfl (by kernel_rfl) (by kernel_rfl) (by kernel_rfl) (by kernel_rfl) (by first | exact fun _ _ _ h => h | exact fun _ _ _ h => HP.out _ _ _ _ (by rfl) h) (by rfl) ?_ ?_
        rotate_left
        · intro w
          go_simp
          try rfl
        refine wpAnyM_pure (i := 11) (v := ?_) rfl (by kernel_rfl) (by kernel_rfl) (by kernel_rfl) (by kernel_rfl) (by first | exact fun _ _ _ h => h | exact fun _ _ _ h => HP.out _ _ _ _ (by rfl) h) (by rfl) ?_ ?_
        rotate_left
        · intro w
          go_simp
          try rfl
        refine wpAnyM_done (by kernel_rfl) ?_ _
        have HW : Hid (Below w4.heap.size w4 (w4.alloc (.cells #[.int .i64 3, .int .i64 4, .int .i64 60, .int .i64 6, .int .i64 1] 3)).drew) := (bel1 _ _).drew
        generalize (w4.alloc (.cells #[.int .i64 3, .int .i64 4, .int .i64 60, .int .i64 6, .int .i64 1] 3)).drew = w5 at HW ⊢
        clear hnn hz4 hz HZ5
        go_wp2_with fail
        go_roundw
        case rel =>
          obtain ⟨i', rs', at', v', g1, g1', g2, g3, g4, g5, g6, g7, g8⟩ := HN.out w5 (at_ + 1 + pickE z nn) HW.out (by omega) (by omega)
          exact ⟨i', rs', at', v', by rw [g1], g2, by rw [g3], g4, g5, g6, g7, g8⟩
        case measure => first | (simp [RowKit.intOf]; omega) | (show 5 - (i + 1) < 5 - i; omega) | omega
      · have hgew : ¬ (i : Int) < (ws.length : Int) := by omega
        go_wp2_with fail
        go_roundw
        case rel =>
          obtain ⟨i', rs', at', v', g1, g1', g2, g3, g4, g5, g6, g7, g8⟩ := HN.out w4 (at_ + 1) (Below.refl _ _) (by omega) (by omega)
          exact ⟨i', rs', at', v', by rw [g1], g2, by rw [g3], g4, g5, g6, g7, g8⟩
        case measure => first | (simp [RowKit.intOf]; omega) | (show 5 - (i + 1) < 5 - i; omega) | omega
    · have ei : i = 5 := by omega
      subst ei
      have hge : ¬ ((5 : Nat) : Int) < 5 := by omega
      obtain ⟨tk1, tk2, tk3⟩ := ht.five
      obtain ⟨g, vc, rfl, _, _⟩ := hr.form (by omega)
      have hrow : RowsAt wr g 0 rs := fun j u hj => by
        rw [Nat.zero_add]
        have hjl : j < 5 * 2 := by have := (List.getElem?_eq_some_iff.1 hj).1; rw [flat_length, tk3] at this; exact this
        exact (hr.cellAt j (by omega)).trans hj
      have hc := HC.out
      have hok : newOk st dy pr = true := by
        unfold newOk bandOk
        rw [inB_yes (show (1 : Int) ≤ pr ∧ pr ≤ 1000000 by omega), inB_yes (show (0 : Int) ≤ st ∧ st ≤ 10000 by omega), inB_yes (show (0 : Int) ≤ dy ∧ dy ≤ 10000 by omega)]
        rfl
      have HROW : Hid (RowsAt wr g 0 rs ∧ g < wr.heap.size ∧ TabN 5 rs at_) := ⟨hrow, World.block_lt_of_cell? wr ⟨g, 0 + 0, none⟩ (hrow 0 (.int .i64 (rowAt rs 0).1) (by obtain ⟨t1, t2, t3, t4, e, _⟩ := ht.is; rw [e]; rfl)), ht⟩
      have hnew := egNew_ok g 0 vc rs st dy pr ti mo wr hrow tk2 (by omega) (by omega) tk1 hok (by omega) (by omega)
      rw [tk3] at hnew
      have HNEW : Hid (Calls Tryz.prog 5 #[.agg #[.slice (some ⟨g, 0, none⟩) 5 vc, .int .i64 st, .int .i64 dy, .int .i64 pr, .int .i64 ti, .int .i64 mo]] wr fun e w' => NewEg wr rs st dy pr ti mo e w') := hnew
      have HINV : Hid (DayInv (newM rs st dy pr ti mo) (fun _ => 0) (fun _ => 0) 0 false) := inv_start tk1 (by omega) (by omega) (by omega) (by omega) (by omega) (by omega)
      have HX : Hid (wr.heap[w.heap.size]? = some (.cells #[.slice (some ⟨g, 0, none⟩) 5 vc, .int .i64 st, .int .i64 dy, .int .i64 pr, .int .i64 ti, .int .i64 mo] 24 (0, 0))) := hx1
      have HBR : Hid (Below w.heap.size w wr) := hbr
      have HRL : Hid (rs.length = 5) := tk3
      have y0 : wr.cell? ⟨w.heap.size, 0, none⟩ = some (.slice (some ⟨g, 0, none⟩) 5 vc) := blk_cell (j := 0) hx1 rfl
      have y1 : wr.cell? ⟨w.heap.size, 1, none⟩ = some (.int .i64 st) := blk_cell (j := 1) hx1 rfl
      have y2 : wr.cell? ⟨w.heap.size, 2, none⟩ = some (.int .i64 dy) := blk_cell (j := 2) hx1 rfl
      have y3 : wr.cell? ⟨w.heap.size, 3, none⟩ = some (.int .i64 pr) := blk_cell (j := 3) hx1 rfl
      have y4 : wr.cell? ⟨w.heap.size, 4, none⟩ = some (.int .i64 ti) := blk_cell (j := 4) hx1 rfl
      have y5 : wr.cell? ⟨w.heap.size, 5, none⟩ = some (.int .i64 mo) := blk_cell (j := 5) hx1 rfl
      have hmm := @run_makeMap Tryz.prog
      clear hx1 hx2 hr ht hbr hnew hrow tk1 tk2 tk3 hc hok
      go_wp2_with fail
      refine HNEW.out.mono ?_
      rintro e w3 ⟨eb, k, rfl, hE, hk0, hft, hb3⟩
      have H3 : Hid (Eg w3 eb k (newM rs st dy pr ti mo)) := hE
      have HF : Hid (∀ j, k.foot eb j → wr.heap.size ≤ j) := hft
      have HB3 : Hid (Below w.heap.size w w3) := bel_then HBR.out hb3
      have HBW3 : Hid (Below wr.heap.size wr w3) := hb3
      have HK0 : Hid (k.m = 0) := hk0
      have hx3 := blk_below HX.out hb3 (Nat.le_refl _)
      have z0 : w3.cell? ⟨w.heap.size, 0, none⟩ = some (.slice (some ⟨g, 0, none⟩) 5 vc) := blk_cell (j := 0) hx3 rfl
      have z1 : w3.cell? ⟨w.heap.size, 1, none⟩ = some (.int .i64 st) := blk_cell (j := 1) hx3 rfl
      have z2 : w3.cell? ⟨w.heap.size, 2, none⟩ = some (.int .i64 dy) := blk_cell (j := 2) hx3 rfl
      have z3 : w3.cell? ⟨w.heap.size, 3, none⟩ = some (.int .i64 pr) := blk_cell (j := 3) hx3 rfl
      have z4 : w3.cell? ⟨w.heap.size, 4, none⟩ = some (.int .i64 ti) := blk_cell (j := 4) hx3 rfl
      have z5 : w3.cell? ⟨w.heap.size, 5, none⟩ = some (.int .i64 mo) := blk_cell (j := 5) hx3 rfl
      clear hE hft hb3 hk0 hx3 y0 y1 y2 y3 y4 y5
      go_wp2_with fail
      go_ret
      have h4 := heap_alloc_new ((w3.alloc (.map #[] 0)).alloc (.map #[] 0)) (.cells #[.pointer (some ⟨eb, 0, none⟩), .slice (some ⟨g, 0, none⟩) 5 vc, .int .i64 st, .int .i64 dy, .int .i64 pr, .int .i64 ti, .int .i64 mo, .map (some w3.heap.size), .map (some (w3.heap.size + 1)), .int .i64 0, .bool false] 85)
      have b4 : Below w3.heap.size w3 (w3.alloc (.map #[] 0)) := bel1 _ _
      have b5 : Below (w3.alloc (.map #[] 0)).heap.size (w3.alloc (.map #[] 0)) ((w3.alloc (.map #[] 0)).alloc (.map #[] 0)) := bel1 _ _
      have b6 := bel1 ((w3.alloc (.map #[] 0)).alloc (.map #[] 0)) (.cells #[.pointer (some ⟨eb, 0, none⟩), .slice (some ⟨g, 0, none⟩) 5 vc, .int .i64 st, .int .i64 dy, .int .i64 pr, .int .i64 ti, .int .i64 mo, .map (some w3.heap.size), .map (some (w3.heap.size + 1)), .int .i64 0, .bool false] 85)
      have k4 := kd_made w3
      have k5 := kd_made (w3.alloc (.map #[] 0))
      have z4 : (w3.alloc (.map #[] 0)).heap.size = w3.heap.size + 1 := by simp
      have z5 : ((w3.alloc (.map #[] 0)).alloc (.map #[] 0)).heap.size = w3.heap.size + 1 + 1 := by simp
      rw [z5] at h4
      rw [z4] at k5
      generalize ((w3.alloc (.map #[] 0)).alloc (.map #[] 0)).alloc (.cells #[.pointer (some ⟨eb, 0, none⟩), .slice (some ⟨g, 0, none⟩) 5 vc, .int .i64 st, .int .i64 dy, .int .i64 pr, .int .i64 ti, .int .i64 mo, .map (some w3.heap.size), .map (some (w3.heap.size + 1)), .int .i64 0, .bool false] 85) = w6 at h4 b6 ⊢
      have b56 := bel_then b5 b6
      have b36 := bel_then b4 b56
      have s3 := HBW3.out.size
      have hD : Day w6 wr.heap.size ⟨.slice (some ⟨g, 0, none⟩) 5 vc, rs, st, dy, pr, ti, mo⟩ ⟨w3.heap.size + 1 + 1, eb, k, w3.heap.size, w3.heap.size + 1, 0, 0⟩ (newM rs st dy pr ti mo) (fun _ => 0) (fun _ => 0) 0 false := by
        refine ⟨h4, H3.out.below b36, k4.below b56, k5.below b6, (by show w3.heap.size ≠ w3.heap.size + 1; omega), fun j hj e => ?_, (by show 0 < rs.length; rw [HRL.out]; decide), fun j hj => ?_, fun id hne => absurd rfl hne, ⟨rfl, rfl, rfl, rfl, rfl⟩⟩
        · have hlt : j < w3.heap.size := H3.out.lt e
          rcases hj with e' | e' | e'
          · have e2 : j = w3.heap.size + 1 + 1 := e'
            omega
          · have e2 : j = w3.heap.size := e'
            omega
          · have e2 : j = w3.heap.size + 1 := e'
            omega
        · rcases hj with e' | e' | e' | e'
          · exact HF.out j e'
          · have e2 : j = w3.heap.size + 1 + 1 := e'
            omega
          · have e2 : j = w3.heap.size := e'
            omega
          · have e2 : j = w3.heap.size + 1 := e'
            omega
      have hc := HC.out
      exact ⟨wr.heap.size, _, _, _, g, vc, rfl, ⟨HBR.out.size, Nat.le_trans s3 b36.size⟩, hD, HINV.out, rfl, HROW.out.2.1, (HROW.out.1.below HBW3.out (Nat.le_refl _)).below b36 (Nat.le_refl _), ⟨_, HROW.out.2.2⟩, HK0.out, rfl, rfl, rfl, (by show 20 ≤ pr ∧ pr ≤ 1000; omega), bel_then HB3.out b36⟩
end Go.Proofs.YtjdkagafdnchhaaGreatDoor

/-
  A day, step by step (9.5): what lies in memory between two steps, and that each step's does returns true. Over this seat's translation. Conditions stand in each theorem.
-/
namespace Go.Proofs.YtjdkagafdnchhaaGreatDoor
open Go.RowKit Go.Maps

/-- a day's steps, as they lie in an argument -/
def StepsIn (w : World) (a : Option Addr) (n : Nat) (X : Nat → Nat → Int) : Prop := ∀ i, i < n → ∃ b off, a = some ⟨b, off, none⟩ ∧ ∀ j, j < 6 → w.cell? ⟨b, off + i * 6 + j, none⟩ = some (.int .i64 (X i j))
/-- a day's config that begins made: its table, its first price -/
structure CfgOk (c : DCfg) (base g vc : Nat) : Prop where
  tv : c.tv = .slice (some ⟨g, 0, none⟩) 5 vc
  gb : g < base
  tab : ∃ a, TabN 5 c.rs a
  pr : 20 ≤ c.pr ∧ c.pr ≤ 1000
/-- between two steps of a day -/
def DayLp (w : World) (base g db : Nat) (c : DCfg) (i : Nat) (wr : World) : Prop :=
  ∃ (d : DayK) (M : Mkt) (lots side : Int → Int) (since : Int) (hands : Bool), Day wr base c d M lots side since hands ∧ DayInv M lots side since hands ∧ d.db = db ∧ d.k.m ≤ 302 * i ∧ d.nl ≤ 210 * i ∧ d.ns ≤ i ∧ M.now ≤ (rowAt c.rs 4).1 ∧ since ≤ (i : Int)
    ∧ Below w.heap.size w wr ∧ (w.heap.size ≤ base ∧ base ≤ wr.heap.size) ∧ RowsAt wr g 0 c.rs
theorem begIs_lp {w0 w w' : World} {base g vc : Nat} {c : DCfg} {d : DayK} {M : Mkt} (h : BegIs w w' base c d M g vc) (hb : Below w0.heap.size w0 w) : CfgOk c base g vc ∧ DayLp w0 base g d.db c 0 w' := by
  obtain ⟨h1, hD, hI, htv, hgb, hrow, ht, hm, hnl, hns, hnow, hpr, hbw⟩ := h
  obtain ⟨a, ha⟩ := ht
  have := ha.ends.1
  exact ⟨⟨htv, hgb, ⟨a, ha⟩, hpr⟩, d, M, _, _, _, _, hD, hI, rfl, by omega, by omega, by omega, by omega, Int.le_refl _, bel_then hb hbw, ⟨Nat.le_trans hb.size h1.1, h1.2⟩, hrow⟩
theorem now_step {c : DCfg} {M M' : Mkt} {lots side : Int → Int} {since : Int} {hands : Bool} (hI : DayInv M lots side since hands) (hc : M.rs = c.rs) (ht : ∃ a, TabN 5 c.rs a) (hn : M.now ≤ (rowAt c.rs 4).1) (hg : NowGo M M') : M'.now ≤ (rowAt c.rs 4).1 := by
  obtain ⟨a, ha⟩ := ht
  by_cases h7 : M.ph = 7
  · rw [hg.2 h7]; exact hn
  · have h1 : ¬ (rowAt c.rs 4).1 ≤ M.now := fun e => h7 (hI.fin (by rw [hc]; exact (ha.ends.2 M.now).2 e))
    have := hg.1
    omega
theorem DayLp.does {w wr : World} {base g db vc : Nat} {c : DCfg} {i : Nat} (h : DayLp w base g db c i wr) (hC : CfgOk c base g vc) (hi : i ≤ 1000) (what : Int) (o : Ord) :
    Calls Tryz.prog 32 #[.pointer (some ⟨db, 0, none⟩), .agg #[.int .i64 what, .int .i64 o.id, .int .i64 o.side, .int .i64 o.kind, .int .i64 o.price, .int .i64 o.qty]] wr
      fun e w' => e = .returned (.bool true) ∧ DayLp w base g db c (i + 1) w' := by
  obtain ⟨d, M, lots, side, since, hands, hD, hI, rfl, hm, hnl, hns, hnow, hsn, hbw, hbb, hrow⟩ := h
  obtain ⟨a, ha⟩ := hC.tab
  have hend := ha.ends.1
  refine (drDoes base c d M lots side since hands what o wr hD hI hbb.2 (by omega) (by omega) (by omega) (by omega) (by omega) hC.pr).mono ?_
  rintro e w' ⟨rfl, d', M', lots', side', since', hands', hD', hI', e1, e2, e3, e4, e5, e6, hb'⟩
  exact ⟨rfl, d', M', lots', side', since', hands', hD', hI', e1, by omega, by omega, by omega, now_step hI hD.cfg.1 ⟨a, ha⟩ hnow e5, by omega, hbw.trans (hb'.mono hbb.1), ⟨hbb.1, Nat.le_trans hbb.2 hb'.size⟩, fun j u hj => (hb'.cell (p := ⟨g, 0 + j, none⟩) hC.gb).trans (hrow j u hj)⟩
end Go.Proofs.YtjdkagafdnchhaaGreatDoor

/-
  The keeper's traded (9.5): a day that is fixed. Over plain functions. Conditions stand in each theorem.
-/
namespace Go.Proofs.YtjdkagafdnchhaaGreatDoor
open Go.RowKit

def tabT : List (Int × Int) := [(0, 1), (1, 2), (2, 3)]
def tm0 : Mkt := newM tabT 1000 500 100 3 0
def tm2 : Mkt := (tickM (tickM tm0).2).2
def to1 : Ord := ⟨1, 2, 1, 101, 5⟩
def to2 : Ord := ⟨2, 1, 2, 0, 2⟩
def tm3 : Mkt := (ordM tm2 to1).2
def tm4 : Mkt := (ordM tm3 to2).2
theorem tabT_ok : tabE tabT = (0, -1) := by kernel_rfl
theorem tm2_ph : tm2.ph = 3 := by kernel_rfl
theorem to1_no : ordN tm2 to1 = 0 := by kernel_rfl
theorem to1_fs : (ordM tm2 to1).1 = [] := by kernel_rfl
theorem to2_no : ordN tm3 to2 = 0 := by kernel_rfl
theorem to2_fs : (ordM tm3 to2).1 = [⟨2, 1, 101, 2⟩] := by kernel_rfl
theorem tm4_ph : tm4.ph = 3 := by kernel_rfl
theorem tm1_now : (tickM tm0).2.now = 1 := by kernel_rfl
theorem tm2_now : tm2.now = 2 := by kernel_rfl
theorem tm3_now : tm3.now = 2 := by kernel_rfl
theorem row_fillT {w : World} {base : Nat} {v : Value} {l : List Fil} (h : w.ownsRow base 115 4 v l.length (fV l)) {k : Nat} (hk : k < l.length) :
    ∃ g cap, v = .slice (some ⟨g, 0, none⟩) l.length cap ∧ w.cell? ⟨g, k * 4, none⟩ = some (.int .i64 (fAt l k).buyer) ∧ w.cell? ⟨g, k * 4 + 1, none⟩ = some (.int .i64 (fAt l k).seller) ∧ w.cell? ⟨g, k * 4 + 2, none⟩ = some (.int .i64 (fAt l k).price) ∧ w.cell? ⟨g, k * 4 + 3, none⟩ = some (.int .i64 (fAt l k).qty) := by
  obtain ⟨g, cap, rfl, _, _⟩ := h.form (by omega)
  obtain ⟨h1, h2, h3, h4⟩ := fV_at hk
  exact ⟨g, cap, rfl, (h.cellAt _ (by omega)).trans h1, (h.cellAt _ (by omega)).trans h2, (h.cellAt _ (by omega)).trans h3, (h.cellAt _ (by omega)).trans h4⟩
theorem tm0_inv : DayInv tm0 (fun _ => 0) (fun _ => 0) 0 false := inv_start tabT_ok (by decide) (by decide) (by decide) (by decide) (by decide) (by decide)
theorem tabT_wf : wfRows tabT := fun k hk => by
  have hk' : k < 3 := hk
  have : k = 0 ∨ k = 1 ∨ k = 2 := by omega
  rcases this with rfl | rfl | rfl <;> exact ⟨by decide, by decide⟩
set_option maxRecDepth 8000 in
set_option maxHeartbeats 4000000 in
theorem drTraded (w : World) : Calls Tryz.prog 30 #[] w fun e w' => e = .returned (.bool true) ∧ Below w.heap.size w w' := by
  go_enter Tryz.func30, Tryz.ntmps30
  go_wp2_with fail
  have hx := heap_alloc_new w (.cells #[.int .i64 0, .int .i64 1, .int .i64 1, .int .i64 2, .int .i64 2, .int .i64 3] 82)
  have hb1 := bel1 w (.cells #[.int .i64 0, .int .i64 1, .int .i64 1, .int .i64 2, .int .i64 2, .int .i64 3] 82)
  generalize w.alloc (.cells #[.int .i64 0, .int .i64 1, .int .i64 1, .int .i64 2, .int .i64 2, .int .i64 3] 82) = w1 at hx hb1 ⊢
  have hrow : RowsAt w1 w.heap.size 0 tabT := fun j u hj => by
    rw [Nat.zero_add]
    refine blk_cell (j := j) hx ?_
    rw [← hj]
    exact List.getElem?_toArray
  refine (egNew_ok w.heap.size 0 3 tabT 1000 500 100 3 0 w1 hrow tabT_wf (by decide) (by decide) tabT_ok (by decide) (by decide) (by decide)).mono ?_
  rintro e w2 ⟨eb, k, rfl, hE, hk0, hft, hb2⟩
  have H2 : Hid (Eg w2 eb k tm0) := hE
  have HF : Hid (∀ j, k.foot eb j → w.heap.size ≤ j) := fun j hj => Nat.le_trans hb1.size (hft j hj)
  have HB2 : Hid (Below w.heap.size w w2) := bel_then hb1 hb2
  clear hE hft hb1 hb2 hx hrow
  go_wp2_with fail
  refine (egTick eb k tm0 w2 H2.out (tm0_inv.num (by decide)) tm0_inv.auct (by omega)).mono ?_
  rintro e w3 ⟨vf3, err3, rfl, _, k3, _, hg3, hk3⟩
  have hi1 := (tm0_inv.tick H2.out.lok).2
  have HI1 : Hid (DayInv (tickM tm0).2 (fillsUp (fun _ => 0) (tickM tm0).1) (fun _ => 0) (sinceT tm0 (tickM tm0).2 0) false) := hi1
  have HG3 : Hid (EgGo w2 w3 eb k k3 (tickM tm0).2) := hg3
  clear hg3 hi1
  go_wp2_with fail
  refine (egTick eb k3 (tickM tm0).2 w3 HG3.out.1 (HI1.out.num (by rw [tm1_now]; decide)) HI1.out.auct (by omega)).mono ?_
  rintro e w4 ⟨vf4, err4, rfl, _, k4, _, hg4, hk4⟩
  have hi2 := (HI1.out.tick HG3.out.1.lok).2
  obtain ⟨lots2, side2, since2, hi2⟩ : ∃ lots side since, DayInv tm2 lots side since false := ⟨_, _, _, hi2⟩
  have HI2 : Hid (DayInv tm2 lots2 side2 since2 false) := hi2
  have HG4 : Hid (EgGo w2 w4 eb k k4 tm2) := HG3.out.trans hg4
  clear hg4 hi2 HI1 HG3
  go_wp2_with fail
  refine (egOrder eb k4 tm2 to1 w4 HG4.out.1 (HI2.out.num (by rw [tm2_now]; decide)) (by decide) (by omega)).mono ?_
  rintro e w5 ⟨vf5, err5, rfl, he5, k5, _, hg5, hk5⟩
  rcases he5 with ⟨rfl, _⟩ | ⟨_, h0⟩
  · have hi3 := (HI2.out.order_yes HG4.out.1.lok (by decide) to1_no).2.2.2
    obtain ⟨lots3, side3, since3, hi3⟩ : ∃ lots side since, DayInv tm3 lots side since false := ⟨_, _, _, hi3⟩
    have HI3 : Hid (DayInv tm3 lots3 side3 since3 false) := hi3
    have HG5 : Hid (EgGo w2 w5 eb k k5 tm3) := HG4.out.trans hg5
    clear hg5 hi3 HI2 HG4
    go_wp2_with fail
    refine (egOrder eb k5 tm3 to2 w5 HG5.out.1 (HI3.out.num (by rw [tm3_now]; decide)) (by decide) (by omega)).mono ?_
    rintro e w6 ⟨vf6, err6, rfl, he6, k6, hr6, hg6, hk6⟩
    rcases he6 with ⟨rfl, _⟩ | ⟨_, h0⟩
    · rw [to2_fs] at hr6
      obtain ⟨g, cap, rfl, z0, z1, z2, z3⟩ := row_fillT (l := [⟨2, 1, 101, 2⟩]) hr6 (k := 0) (by decide)
      have y0 : w6.cell? ⟨g, 0, none⟩ = some (.int .i64 2) := z0
      have y1 : w6.cell? ⟨g, 1, none⟩ = some (.int .i64 1) := z1
      have y2 : w6.cell? ⟨g, 2, none⟩ = some (.int .i64 101) := z2
      have y3 : w6.cell? ⟨g, 3, none⟩ = some (.int .i64 2) := z3
      have HG6 : Hid (EgGo w2 w6 eb k k6 tm4) := HG5.out.trans hg6
      have HP : Hid (tm4.ph = 3) := tm4_ph
      clear hg6 hr6 z0 z1 z2 z3
      go_wp2_with fail
      refine (egPhase eb k6 tm4 w6 HG6.out.1).mono ?_
      rintro e w7 ⟨rfl, hw⟩
      subst hw
      rw [HP.out]
      go_wp2_with fail
      go_ret
      have ho := HG6.out.2.1
      exact ⟨rfl, HB2.out.trans ⟨ho.os, ho.tape, ho.output, ho.size, fun j hj => ho.block j (Nat.lt_of_lt_of_le hj HB2.out.size) (fun e => by have := HF.out j e; omega)⟩⟩
    · exact absurd to2_no h0
  · exact absurd to1_no h0
end Go.Proofs.YtjdkagafdnchhaaGreatDoor

/-
  Closed facts on the model's entries for internal/reflectlite at this seat's type numbers, as errors.As comes to them at a target of type *api.Errno; what the cell of errors.errorType holds (ErrT). Conditions stand in each theorem.
-/
namespace Go.Proofs.YtjdkagafdnchhaaGreatDoor
open Go.RowKit Go.Extern.Stop Go.Stop Go.Extern

theorem Tryz.vP (t : Addr) (w : World) : (ReflectliteValue.unpack (.iface 139 (.pointer (some t)))).run Tryz.prog w
    = .ok (.agg #[.pointer (some ⟨1, 139, none⟩), .pointer (some ⟨w.heap.size, 0, none⟩), .int .u64 150]) (w.alloc (.cells #[.pointer (some t)] 139)) := by kernel_rfl
theorem Tryz.tP (a : Addr) (w : World) : (ReflectliteValue.methodAny (ReflectliteValue.valueError "reflectlite.Value.Type" 0) (fun t _ _ _ => ReflectliteType.toType t) #[.agg #[.pointer (some ⟨1, 139, none⟩), .pointer (some a), .int .u64 150]]).run Tryz.prog w
    = .ok (.iface 249 (.agg #[.pointer (some ⟨1, 139, none⟩)])) w := by kernel_rfl
theorem Tryz.mKind (h : Value) (w : World) : (Go.method 422 249 (.agg #[h]) "Kind").run Tryz.prog w = .ok (237, h) w := by kernel_rfl
theorem Tryz.kP (w : World) : ((ReflectliteType.abiMethod fun t => (fun a : Nat => Value.int IntKind.u8 (a : Int)) <$> Rtype.kind t) #[.pointer (some ⟨1, 139, none⟩)]).run Tryz.prog w = .ok (.int .u8 22) w := by kernel_rfl
theorem Tryz.kE (w : World) : ((ReflectliteType.abiMethod fun t => (fun a : Nat => Value.int IntKind.u8 (a : Int)) <$> Rtype.kind t) #[.pointer (some ⟨1, 32, none⟩)]).run Tryz.prog w = .ok (.int .u8 2) w := by kernel_rfl
theorem Tryz.partsP (a : Addr) (w : World) : (ReflectliteValue.parts (.agg #[.pointer (some ⟨1, 139, none⟩), .pointer (some a), .int .u64 150])).run Tryz.prog w = .ok (some (139, a, 150)) w := by kernel_rfl
theorem Tryz.isNilP (a p : Addr) (W : World) (ha : W.cell? a = some (.pointer (some p))) :
    (ReflectliteValue.method (ReflectliteValue.valueError "reflectlite.Value.IsNil" 0) ReflectliteValue.isNil #[.agg #[.pointer (some ⟨1, 139, none⟩), .pointer (some a), .int .u64 150]]).run Tryz.prog W = .ok (.bool false) W := by
  rw [Lib.rl_method]
  simp only [Sem.run_bind, Tryz.partsP, Result.andThen]
  simp [ReflectliteValue.isNil, loadVar, isAgg, underlying, Tryz.underlying139, ha, Result.andThen]
theorem Tryz.mElem (h : Value) (w : World) : (Go.method 422 249 (.agg #[h]) "Elem").run Tryz.prog w = .ok (249, .agg #[h]) w := by kernel_rfl
theorem Tryz.mImplements (h : Value) (w : World) : (Go.method 422 249 (.agg #[h]) "Implements").run Tryz.prog w = .ok (250, .agg #[h]) w := by kernel_rfl
theorem Tryz.mAssignableTo (h : Value) (w : World) : (Go.method 422 249 (.agg #[h]) "AssignableTo").run Tryz.prog w = .ok (247, .agg #[h]) w := by kernel_rfl
theorem Tryz.elemP (w : World) : (ReflectliteType.method ReflectliteType.elem #[.agg #[.pointer (some ⟨1, 139, none⟩)]]).run Tryz.prog w = .ok (.iface 249 (.agg #[.pointer (some ⟨1, 32, none⟩)])) w := by kernel_rfl
theorem Tryz.implementsE (w : World) : (ReflectliteType.relation "Implements" ReflectliteType.implements_ #[.agg #[.pointer (some ⟨1, 32, none⟩)], .iface 249 (.agg #[.pointer (some ⟨1, 28, none⟩)])]).run Tryz.prog w = .ok (.bool true) w := by kernel_rfl
theorem Tryz.typeOfE (v : Value) (w : World) : (ReflectliteType.typeOf #[.iface 32 v]).run Tryz.prog w = .ok (.iface 249 (.agg #[.pointer (some ⟨1, 32, none⟩)])) w := by kernel_rfl
theorem Tryz.assignableE (w : World) : (ReflectliteType.relation "AssignableTo" ReflectliteType.assignableTo #[.agg #[.pointer (some ⟨1, 32, none⟩)], .iface 249 (.agg #[.pointer (some ⟨1, 32, none⟩)])]).run Tryz.prog w = .ok (.bool true) w := by kernel_rfl
theorem Tryz.valueOfE (n : Int) (w : World) : (ReflectliteValue.unpack (.iface 32 (.int .i64 n))).run Tryz.prog w
    = .ok (.agg #[.pointer (some ⟨1, 32, none⟩), .pointer (some ⟨w.heap.size, 0, none⟩), .int .u64 130]) (w.alloc (.cells #[.int .i64 n] 32)) := by kernel_rfl
theorem Tryz.elemOfP (w : World) : (Rtype.elem? 139).run Tryz.prog w = .ok (some 32) w := by kernel_rfl
theorem Tryz.mkE (p : Addr) (w : World) : (ReflectliteValue.mk 32 p ReflectliteValue.flagAddr).run Tryz.prog w = .ok (.agg #[.pointer (some ⟨1, 32, none⟩), .pointer (some p), .int .u64 386]) w := by kernel_rfl
theorem Tryz.elemVP (a p : Addr) (W : World) (ha : W.cell? a = some (.pointer (some p))) :
    (ReflectliteValue.method (ReflectliteValue.valueError "reflectlite.Value.Elem" 0) ReflectliteValue.elem #[.agg #[.pointer (some ⟨1, 139, none⟩), .pointer (some a), .int .u64 150]]).run Tryz.prog W
      = .ok (.agg #[.pointer (some ⟨1, 32, none⟩), .pointer (some p), .int .u64 386]) W := by
  rw [Lib.rl_method]
  simp only [Sem.run_bind, Tryz.partsP, Result.andThen]
  simp [ReflectliteValue.elem, loadVar, isAgg, underlying, Tryz.underlying139, ha, Result.andThen, Tryz.elemOfP, Tryz.mkE]
theorem Tryz.partsEa (a : Addr) (w : World) : (ReflectliteValue.parts (.agg #[.pointer (some ⟨1, 32, none⟩), .pointer (some a), .int .u64 386])).run Tryz.prog w = .ok (some (32, a, 386)) w := by kernel_rfl
theorem Tryz.partsE (a : Addr) (w : World) : (ReflectliteValue.parts (.agg #[.pointer (some ⟨1, 32, none⟩), .pointer (some a), .int .u64 130])).run Tryz.prog w = .ok (some (32, a, 130)) w := by kernel_rfl
theorem Tryz.directE (w : World) : (Rtype.directlyAssignable 32 32).run Tryz.prog w = .ok true w := by kernel_rfl
theorem set_arm {motive : Array Value → Sort _} (v x : Value) (f : (v x : Value) → motive #[v, x]) (g : (a : Array Value) → motive a) :
    ReflectliteValue.set.match_3 motive #[v, x] f g = f v x := rfl
theorem Tryz.setE (ta b : Addr) (n : Int) (old : Value) (W : World) (hb : W.cell? b = some (.int .i64 n)) (ht : W.cell? ta = some old) (hf : W.frozen? ta = false) :
    (ReflectliteValue.set #[.agg #[.pointer (some ⟨1, 32, none⟩), .pointer (some ta), .int .u64 386], .agg #[.pointer (some ⟨1, 32, none⟩), .pointer (some b), .int .u64 130]]).run Tryz.prog W
      = .ok (.tuple #[]) (W.setCell ta (.int .i64 n)) := by
  delta ReflectliteValue.set
  rw [set_arm]
  simp only [Sem.run_bind, Tryz.partsEa, Tryz.partsE, Result.andThen]
  simp [ReflectliteValue.flagAddr, loadVar, isAgg, underlying, Tryz.underlying32, hb, Result.andThen, Tryz.directE, storeVar, Value.cells, storeCells, Addr.add]
  rw [run_store Tryz.prog W ta _ _ (by rfl)]
  simp [ht, hf]

/-- The cell of errors.errorType holds the handle of the type error. -/
def ErrT (w : World) : Prop := w.cell? ⟨0, 0, none⟩ = some (.iface 249 (.agg #[.pointer (some ⟨1, 28, none⟩)]))
theorem ErrT.lt {w : World} (hg : ErrT w) : 0 < w.heap.size := by
  rcases Nat.lt_or_ge 0 w.heap.size with h | h
  · exact h
  · simp [ErrT, World.cell?, Array.getElem?_eq_none h] at hg
theorem ErrT.below {w w' : World} (hg : ErrT w) (hb : Below w.heap.size w w') : ErrT w' := (hb.cell (p := ⟨0, 0, none⟩) hg.lt).trans hg

theorem Tryz.typeOfA (v : Value) (w : World) : (ReflectliteType.typeOf #[.iface 140 v]).run Tryz.prog w = .ok (.iface 249 (.agg #[.pointer (some ⟨1, 140, none⟩)])) w := by kernel_rfl
theorem Tryz.assignableA (w : World) : (ReflectliteType.relation "AssignableTo" ReflectliteType.assignableTo #[.agg #[.pointer (some ⟨1, 140, none⟩)], .iface 249 (.agg #[.pointer (some ⟨1, 32, none⟩)])]).run Tryz.prog w = .ok (.bool false) w := by kernel_rfl
theorem Tryz.noAsA (v : Value) (xT : TypeId) (w : World) : (Instr.typeAssert (.iface 140 v) xT 256 true).run Tryz.prog w = .ok (.tuple #[.nilIface, .bool false]) w := run_typeAssert_lacksB Tryz.underlying256 (by kernel_rfl) (by kernel_rfl) v xT w
theorem Tryz.unwrapA (v : Value) (xT : TypeId) (w : World) : (Instr.typeAssert (.iface 140 v) xT 159 true).run Tryz.prog w = .ok (.tuple #[.iface 140 v, .bool true]) w := run_typeAssert_hasB Tryz.underlying159 (by kernel_rfl) v xT w
theorem Tryz.noUnwrapE (v : Value) (xT : TypeId) (w : World) : (Instr.typeAssert (.iface 32 v) xT 159 true).run Tryz.prog w = .ok (.tuple #[.nilIface, .bool false]) w := run_typeAssert_lacksB Tryz.underlying159 (by kernel_rfl) (by kernel_rfl) v xT w
theorem Tryz.toAtE (v : Value) (w : World) : (Instr.typeAssert (.iface 32 v) 28 140 true).run Tryz.prog w = .ok (.tuple #[.pointer none, .bool false]) w := by kernel_rfl
theorem Tryz.toAtA (v : Value) (w : World) : (Instr.typeAssert (.iface 140 v) 28 140 true).run Tryz.prog w = .ok (.tuple #[v, .bool true]) w := by kernel_rfl

theorem alloc_lt {w : World} (o : Obj) {a : Addr} (h : a.block < w.heap.size) : (w.alloc o).cell? a = w.cell? a := World.cell?_alloc_lt _ _ a h
theorem alloc_fr {w : World} (o : Obj) {a : Addr} (h : a.block < w.heap.size) : (w.alloc o).frozen? a = w.frozen? a := World.frozen?_alloc_old _ _ a (Nat.ne_of_lt h)
theorem lt_of_cell {w : World} {a : Addr} {v : Value} (h : w.cell? a = some v) : a.block < w.heap.size := by
  rcases Nat.lt_or_ge a.block w.heap.size with h' | h'
  · exact h'
  · simp [World.cell?, Array.getElem?_eq_none h'] at h
end Go.Proofs.YtjdkagafdnchhaaGreatDoor

/-
  What errors.As returns, and leaves, at a target of type *api.Errno, over this seat's translation: of an Errno and of an At. Conditions stand in each theorem: the cell of errors.errorType, the target's cell, the cells of the At.
-/
namespace Go.Proofs.YtjdkagafdnchhaaGreatDoor
open Go.RowKit Go.Extern.Stop Go.Stop Go.Extern

set_option maxHeartbeats 4000000 in
theorem as_errno (n : Int) (t a : Addr) (old : Value) (w : World) (ha : w.cell? a = some (.pointer (some t))) (ht0 : w.cell? t = some old) (hf0 : w.frozen? t = false) :
    Calls Tryz.prog 137 #[.iface 32 (.int .i64 n), .iface 139 (.pointer (some t)), .agg #[.pointer (some ⟨1, 139, none⟩), .pointer (some a), .int .u64 150], .iface 249 (.agg #[.pointer (some ⟨1, 32, none⟩)])] w fun ev w' => ev = .returned (.bool true)
      ∧ w' = ((w.alloc (.cells #[.pointer (some ⟨1, 139, none⟩), .pointer (some a), .int .u64 150] 201)).alloc (.cells #[.int .i64 n] 32)).setCell t (.int .i64 n) := by
  have hal := lt_of_cell ha
  have htl := lt_of_cell ht0
  have h6 := @run_callFunc_extern Tryz.prog 129 _ (fun args => ReflectliteValue.unpack (args.getD 0 (.tuple #[]))) Tryz.func129 (by kernel_rfl) (by kernel_rfl) (by kernel_rfl) (by kernel_rfl)
  have h10 := @run_callFunc_extern Tryz.prog 179 _ ReflectliteType.typeOf Tryz.func179 (by kernel_rfl) (by kernel_rfl) (by kernel_rfl) (by kernel_rfl)
  have h35 := @run_callFunc_extern Tryz.prog 247 _ (ReflectliteType.relation "AssignableTo" ReflectliteType.assignableTo) Tryz.func247 (by kernel_rfl) (by kernel_rfl) (by kernel_rfl) (by kernel_rfl)
  have h11 := @run_callFunc_extern Tryz.prog 180 _ (ReflectliteValue.method (ReflectliteValue.valueError "reflectlite.Value.Elem" 0) ReflectliteValue.elem) Tryz.func180 (by kernel_rfl) (by kernel_rfl) (by kernel_rfl) (by kernel_rfl)
  have h12 := @run_callFunc_extern Tryz.prog 181 _ ReflectliteValue.set Tryz.func181 (by kernel_rfl) (by kernel_rfl) (by kernel_rfl) (by kernel_rfl)
  have tO := Tryz.typeOfE
  have mA := Tryz.mAssignableTo
  have aE := Tryz.assignableE
  have vE := Tryz.valueOfE
  have el := Tryz.elemVP a t (w.alloc (.cells #[.pointer (some ⟨1, 139, none⟩), .pointer (some a), .int .u64 150] 201)) (by rw [alloc_lt _ hal]; exact ha)
  have st := Tryz.setE t ⟨w.heap.size + 1, 0, none⟩ n old ((w.alloc (.cells #[.pointer (some ⟨1, 139, none⟩), .pointer (some a), .int .u64 150] 201)).alloc (.cells #[.int .i64 n] 32))
    (by rw [World.cell?_alloc_at _ _ _ _ (by simp)]; rfl)
    (by rw [alloc_lt _ (by simp; omega), alloc_lt _ htl]; exact ht0)
    (by rw [alloc_fr _ (by simp; omega), alloc_fr _ htl]; exact hf0)
  go_enter Tryz.func137, Tryz.ntmps137
  go_wp2
  refine wp_loop_rounds 1 ?_
  rw [rounds_succ]
  go_wp2
  go_ret
  exact ⟨rfl, rfl⟩

set_option maxHeartbeats 4000000 in
theorem as_at (n : Int) (b o : Nat) (t a : Addr) (old : Value) (w : World) (hn : w.cell? ⟨b, o, none⟩ = some (.int .i64 n)) (ha : w.cell? a = some (.pointer (some t))) (ht0 : w.cell? t = some old) (hf0 : w.frozen? t = false) :
    Calls Tryz.prog 137 #[.iface 140 (.pointer (some ⟨b, o, none⟩)), .iface 139 (.pointer (some t)), .agg #[.pointer (some ⟨1, 139, none⟩), .pointer (some a), .int .u64 150], .iface 249 (.agg #[.pointer (some ⟨1, 32, none⟩)])] w fun ev w' => ev = .returned (.bool true)
      ∧ w' = ((w.alloc (.cells #[.pointer (some ⟨1, 139, none⟩), .pointer (some a), .int .u64 150] 201)).alloc (.cells #[.int .i64 n] 32)).setCell t (.int .i64 n) := by
  have hal := lt_of_cell ha
  have htl := lt_of_cell ht0
  have hbl := lt_of_cell hn
  have h6 := @run_callFunc_extern Tryz.prog 129 _ (fun args => ReflectliteValue.unpack (args.getD 0 (.tuple #[]))) Tryz.func129 (by kernel_rfl) (by kernel_rfl) (by kernel_rfl) (by kernel_rfl)
  have h10 := @run_callFunc_extern Tryz.prog 179 _ ReflectliteType.typeOf Tryz.func179 (by kernel_rfl) (by kernel_rfl) (by kernel_rfl) (by kernel_rfl)
  have h35 := @run_callFunc_extern Tryz.prog 247 _ (ReflectliteType.relation "AssignableTo" ReflectliteType.assignableTo) Tryz.func247 (by kernel_rfl) (by kernel_rfl) (by kernel_rfl) (by kernel_rfl)
  have h11 := @run_callFunc_extern Tryz.prog 180 _ (ReflectliteValue.method (ReflectliteValue.valueError "reflectlite.Value.Elem" 0) ReflectliteValue.elem) Tryz.func180 (by kernel_rfl) (by kernel_rfl) (by kernel_rfl) (by kernel_rfl)
  have h12 := @run_callFunc_extern Tryz.prog 181 _ ReflectliteValue.set Tryz.func181 (by kernel_rfl) (by kernel_rfl) (by kernel_rfl) (by kernel_rfl)
  have tO := Tryz.typeOfE
  have tA := Tryz.typeOfA
  have mA := Tryz.mAssignableTo
  have aE := Tryz.assignableE
  have aA := Tryz.assignableA
  have nA := Tryz.noAsA
  have uA := Tryz.unwrapA
  have vE := Tryz.valueOfE
  have hn2 : (w.alloc (.cells #[.pointer (some ⟨1, 139, none⟩), .pointer (some a), .int .u64 150] 201)).cell? ⟨b, o, none⟩ = some (.int .i64 n) := by rw [alloc_lt _ hbl]; exact hn
  have el := Tryz.elemVP a t (w.alloc (.cells #[.pointer (some ⟨1, 139, none⟩), .pointer (some a), .int .u64 150] 201)) (by rw [alloc_lt _ hal]; exact ha)
  have st := Tryz.setE t ⟨w.heap.size + 1, 0, none⟩ n old ((w.alloc (.cells #[.pointer (some ⟨1, 139, none⟩), .pointer (some a), .int .u64 150] 201)).alloc (.cells #[.int .i64 n] 32))
    (by rw [World.cell?_alloc_at _ _ _ _ (by simp)]; rfl)
    (by rw [alloc_lt _ (by simp; omega), alloc_lt _ htl]; exact ht0)
    (by rw [alloc_fr _ (by simp; omega), alloc_fr _ htl]; exact hf0)
  go_enter Tryz.func137, Tryz.ntmps137
  go_wp2
  refine wp_loop_rounds 2 ?_
  rw [rounds_succ]
  go_wp2
  rw [rounds_succ]
  go_wp2
  go_ret
  exact ⟨rfl, rfl⟩

set_option maxHeartbeats 4000000 in
/-- errors.As of an error that is not nil, at a target of type *api.Errno: what errors.as returns behind it. -/
theorem As_of (te : TypeId) (ve : Value) (t : Addr) (w : World) (hg : ErrT w) (Q : Ending → World → Prop)
    (h : ∀ W : World, Below w.heap.size w W → W.cell? ⟨w.heap.size, 0, none⟩ = some (.pointer (some t)) →
      Calls Tryz.prog 137 #[.iface te ve, .iface 139 (.pointer (some t)), .agg #[.pointer (some ⟨1, 139, none⟩), .pointer (some ⟨w.heap.size, 0, none⟩), .int .u64 150], .iface 249 (.agg #[.pointer (some ⟨1, 32, none⟩)])] W
        fun e w' => (∃ r, e = .returned (.bool r)) ∧ Q e w') :
    Calls Tryz.prog 82 #[.iface te ve, .iface 139 (.pointer (some t))] w Q := by
  have hlt := hg.lt
  have h6 := @run_callFunc_extern Tryz.prog 129 _ (fun args => ReflectliteValue.unpack (args.getD 0 (.tuple #[]))) Tryz.func129 (by kernel_rfl) (by kernel_rfl) (by kernel_rfl) (by kernel_rfl)
  have h7 := @run_callFunc_extern Tryz.prog 135 _ (ReflectliteValue.methodAny (ReflectliteValue.valueError "reflectlite.Value.Type" 0) (fun t _ _ _ => ReflectliteType.toType t)) Tryz.func135 (by kernel_rfl) (by kernel_rfl) (by kernel_rfl) (by kernel_rfl)
  have h8 := @run_callFunc_extern Tryz.prog 136 _ (ReflectliteValue.method (ReflectliteValue.valueError "reflectlite.Value.IsNil" 0) ReflectliteValue.isNil) Tryz.func136 (by kernel_rfl) (by kernel_rfl) (by kernel_rfl) (by kernel_rfl)
  have h27 := @run_callFunc_extern Tryz.prog 237 _ (ReflectliteType.abiMethod fun t => do pure (.int .u8 (← Rtype.kind t))) Tryz.func237 (by kernel_rfl) (by kernel_rfl) (by kernel_rfl) (by kernel_rfl)
  have h37 := @run_callFunc_extern Tryz.prog 249 _ (ReflectliteType.method ReflectliteType.elem) Tryz.func249 (by kernel_rfl) (by kernel_rfl) (by kernel_rfl) (by kernel_rfl)
  have h38 := @run_callFunc_extern Tryz.prog 250 _ (ReflectliteType.relation "Implements" ReflectliteType.implements_) Tryz.func250 (by kernel_rfl) (by kernel_rfl) (by kernel_rfl) (by kernel_rfl)
  have f6 := Tryz.vP
  have f7 := Tryz.tP
  have mK := Tryz.mKind
  have mE := Tryz.mElem
  have mI := Tryz.mImplements
  have k27 := Tryz.kP
  have k25 := Tryz.kE
  have e27 := Tryz.elemP
  have i25 := Tryz.implementsE
  have n8 := Tryz.isNilP ⟨w.heap.size, 0, none⟩ t ((w.alloc (.cells #[.pointer (some t)] 139)).alloc (.cells #[.pointer (some ⟨1, 139, none⟩), .pointer (some ⟨w.heap.size, 0, none⟩), .int .u64 150] 201)) (by simp)
  have hg2 : ((w.alloc (.cells #[.pointer (some t)] 139)).alloc (.cells #[.pointer (some ⟨1, 139, none⟩), .pointer (some ⟨w.heap.size, 0, none⟩), .int .u64 150] 201)).cell? ⟨0, 0, none⟩ = some (.iface 249 (.agg #[.pointer (some ⟨1, 28, none⟩)])) := by
    rw [alloc_lt _ (by simp <;> omega), alloc_lt _ hlt]; exact hg
  have H : Hid (∀ W : World, Below w.heap.size w W → W.cell? ⟨w.heap.size, 0, none⟩ = some (.pointer (some t)) →
      Calls Tryz.prog 137 #[.iface te ve, .iface 139 (.pointer (some t)), .agg #[.pointer (some ⟨1, 139, none⟩), .pointer (some ⟨w.heap.size, 0, none⟩), .int .u64 150], .iface 249 (.agg #[.pointer (some ⟨1, 32, none⟩)])] W
        fun e w' => (∃ r, e = .returned (.bool r)) ∧ Q e w') := h
  clear h
  go_enter Tryz.func82, Tryz.ntmps82
  go_wp2_with fail
  refine (H.out _ ?_ ?_).mono ?_
  · exact ((Below.refl _ _).alloc (Nat.le_refl _) _).alloc (by simp) _
  · rw [alloc_lt _ (by simp)]; exact World.cell?_alloc_at _ _ _ _ rfl
  · rintro e w' ⟨⟨r, rfl⟩, hq⟩
    go_wp2_with fail
    exact hq
end Go.Proofs.YtjdkagafdnchhaaGreatDoor

/-
  What api.Tell, plain.Place and the laws' own 'is' and 'bare' return of the errors that the program makes (nil, an Errno, an At), over this seat's translation. Conditions stand in each theorem: the cell of errors.errorType (ErrT), the cells of the At.
-/
namespace Go.Proofs.YtjdkagafdnchhaaGreatDoor
open Go.RowKit Go.Extern.Stop Go.Stop Go.Extern

/-- In the world w the error value 'err' is of number n at place k (-1: none). -/
def ErrIs (w : World) (err : Value) (n k : Int) : Prop :=
  (err = .nilIface ∧ n = 0 ∧ k = -1) ∨ (err = .iface 32 (.int .i64 n) ∧ k = -1)
    ∨ (∃ b o : Nat, err = .iface 140 (.pointer (some ⟨b, o, none⟩)) ∧ w.cell? ⟨b, o, none⟩ = some (.int .i64 n) ∧ w.cell? ⟨b, o + 1, none⟩ = some (.int .i64 k))
theorem ErrIs.below {w w' : World} {err : Value} {n k : Int} (h : ErrIs w err n k) (hb : Below w.heap.size w w') : ErrIs w' err n k := by
  rcases h with h | h | ⟨b, o, h1, h2, h3⟩
  · exact Or.inl h
  · exact Or.inr (Or.inl h)
  · exact Or.inr (Or.inr ⟨b, o, h1, (hb.cell (p := ⟨b, o, none⟩) (lt_of_cell (a := ⟨b, o, none⟩) h2)).trans h2, (hb.cell (p := ⟨b, o + 1, none⟩) (lt_of_cell (a := ⟨b, o, none⟩) h2)).trans h3⟩)

theorem after_as {w W w' : World} {t : Addr} {n : Int} {o1 o2 : Obj} {old : Value} (hb : Below w.heap.size w W) (ht : W.cell? t = some old) (hw : w' = ((W.alloc o1).alloc o2).setCell t (.int .i64 n)) (B : Nat) (hBt : B ≤ t.block) (hBw : B ≤ w.heap.size) :
    w'.cell? t = some (.int .i64 n) ∧ Below B w w' := by
  have htl := lt_of_cell ht
  have hs := hb.size
  subst hw
  refine ⟨World.cell?_setCell_same' _ _ _ ?_, ?_⟩
  · rw [alloc_lt _ (by simp; omega), alloc_lt _ htl, ht]; rfl
  · exact (((hb.mono hBw).alloc (by omega) _).alloc (by simp; omega) _).setCell hBt _

set_option maxHeartbeats 400000 in
theorem tell_nil (w : World) : Calls Tryz.prog 33 #[.nilIface] w fun e w' => e = .returned (.int .i64 0) ∧ w' = w := by
  go_enter Tryz.func33, Tryz.ntmps33
  go_wp2
  go_ret
  exact ⟨rfl, rfl⟩

theorem As_errno (n : Int) (t : Addr) (w : World) (hg : ErrT w) (ht : w.cell? t = some (.int .i64 0)) (hf : w.frozen? t = false) :
    Calls Tryz.prog 82 #[.iface 32 (.int .i64 n), .iface 139 (.pointer (some t))] w fun e w' => e = .returned (.bool true) ∧ w'.cell? t = some (.int .i64 n) ∧ Below t.block w w' :=
  As_of _ _ t w hg _ fun W hb ha => (as_errno n t _ (.int .i64 0) W ha ((hb.cell (lt_of_cell ht)).trans ht) ((hb.frozen (lt_of_cell ht)).trans hf)).mono fun _ _ ⟨he, hw⟩ =>
    have h := after_as hb ((hb.cell (lt_of_cell ht)).trans ht) hw t.block (Nat.le_refl _) (Nat.le_of_lt (lt_of_cell ht))
    ⟨⟨_, he⟩, he, h.1, h.2⟩

theorem As_at (n : Int) (b o : Nat) (t : Addr) (w : World) (hg : ErrT w) (hn : w.cell? ⟨b, o, none⟩ = some (.int .i64 n)) (ht : w.cell? t = some (.int .i64 0)) (hf : w.frozen? t = false) :
    Calls Tryz.prog 82 #[.iface 140 (.pointer (some ⟨b, o, none⟩)), .iface 139 (.pointer (some t))] w fun e w' => e = .returned (.bool true) ∧ w'.cell? t = some (.int .i64 n) ∧ Below t.block w w' :=
  As_of _ _ t w hg _ fun W hb ha => (as_at n b o t _ (.int .i64 0) W ((hb.cell (p := ⟨b, o, none⟩) (lt_of_cell (a := ⟨b, o, none⟩) hn)).trans hn) ha ((hb.cell (lt_of_cell ht)).trans ht) ((hb.frozen (lt_of_cell ht)).trans hf)).mono fun _ _ ⟨he, hw⟩ =>
    have h := after_as hb ((hb.cell (lt_of_cell ht)).trans ht) hw t.block (Nat.le_refl _) (Nat.le_of_lt (lt_of_cell ht))
    ⟨⟨_, he⟩, he, h.1, h.2⟩

set_option maxHeartbeats 400000 in
theorem tell_errno (n : Int) (w : World) (hg : ErrT w) : Calls Tryz.prog 33 #[.iface 32 (.int .i64 n)] w fun e w' => e = .returned (.int .i64 n) ∧ Below w.heap.size w w' := by
  have hg1 : ErrT (w.alloc (.cells #[.int .i64 0] 32)) := hg.below ((Below.refl _ _).alloc (Nat.le_refl _) _)
  go_enter Tryz.func33, Tryz.ntmps33
  go_wp2_with fail
  refine (As_errno n ⟨w.heap.size, 0, none⟩ _ hg1 (by simp) (by simp)).mono ?_
  rintro e w1 ⟨rfl, hc, hb⟩
  go_wp2
  go_ret
  exact ⟨rfl, ((Below.refl _ _).alloc (Nat.le_refl _) _).trans hb⟩

set_option maxHeartbeats 400000 in
theorem tell_at (n : Int) (b o : Nat) (w : World) (hg : ErrT w) (hn : w.cell? ⟨b, o, none⟩ = some (.int .i64 n)) : Calls Tryz.prog 33 #[.iface 140 (.pointer (some ⟨b, o, none⟩))] w fun e w' => e = .returned (.int .i64 n) ∧ Below w.heap.size w w' := by
  have hg1 : ErrT (w.alloc (.cells #[.int .i64 0] 32)) := hg.below ((Below.refl _ _).alloc (Nat.le_refl _) _)
  have hn1 : Hid ((w.alloc (.cells #[.int .i64 0] 32)).cell? ⟨b, o, none⟩ = some (.int .i64 n)) := (alloc_lt (a := ⟨b, o, none⟩) _ (lt_of_cell (a := ⟨b, o, none⟩) hn)).trans hn
  go_enter Tryz.func33, Tryz.ntmps33
  go_wp2_with fail
  refine (As_at n b o ⟨w.heap.size, 0, none⟩ _ hg1 hn1.out (by simp) (by simp)).mono ?_
  rintro e w1 ⟨rfl, hc, hb⟩
  go_wp2
  go_ret
  exact ⟨rfl, ((Below.refl _ _).alloc (Nat.le_refl _) _).trans hb⟩

theorem tell_any (err : Value) (n k : Int) (w : World) (hg : ErrT w) (h : ErrIs w err n k) : Calls Tryz.prog 33 #[err] w fun e w' => e = .returned (.int .i64 n) ∧ Below w.heap.size w w' := by
  rcases h with ⟨rfl, rfl, rfl⟩ | ⟨rfl, rfl⟩ | ⟨b, o, rfl, h1, h2⟩
  · exact (tell_nil w).mono fun _ _ ⟨he, hw⟩ => ⟨he, by subst hw; exact Below.refl _ _⟩
  · exact tell_errno n w hg
  · exact tell_at n b o w hg h1

set_option maxHeartbeats 400000 in
theorem place_nil (w : World) : Calls Tryz.prog 41 #[.nilIface] w fun e w' => e = .returned (.tuple #[.int .i64 0, .int .i64 (-1)]) ∧ w' = w := by
  go_enter Tryz.func41, Tryz.ntmps41
  go_wp2_with fail
  refine (tell_nil _).mono ?_
  rintro e w1 ⟨rfl, rfl⟩
  go_wp2_with fail
  refine wp_loop_rounds 1 ?_
  rw [rounds_succ]
  go_wp2
  go_ret2
  exact ⟨rfl, rfl⟩

set_option maxHeartbeats 400000 in
theorem place_errno (n : Int) (w : World) (hg : ErrT w) : Calls Tryz.prog 41 #[.iface 32 (.int .i64 n)] w fun e w' => e = .returned (.tuple #[.int .i64 n, .int .i64 (-1)]) ∧ Below w.heap.size w w' := by
  have nU := Tryz.noUnwrapE
  have tA := Tryz.toAtE
  go_enter Tryz.func41, Tryz.ntmps41
  go_wp2_with fail
  refine (tell_errno n _ hg).mono ?_
  rintro e w1 ⟨rfl, hb⟩
  go_wp2_with fail
  refine wp_loop_rounds 1 ?_
  rw [rounds_succ]
  go_wp2
  go_ret2
  exact ⟨rfl, hb⟩

set_option maxHeartbeats 400000 in
theorem place_at (n k : Int) (b o : Nat) (w : World) (hg : ErrT w) (hn : w.cell? ⟨b, o, none⟩ = some (.int .i64 n)) (hk : w.cell? ⟨b, o + 1, none⟩ = some (.int .i64 k)) : Calls Tryz.prog 41 #[.iface 140 (.pointer (some ⟨b, o, none⟩))] w fun e w' => e = .returned (.tuple #[.int .i64 n, .int .i64 k]) ∧ Below w.heap.size w w' := by
  go_enter Tryz.func41, Tryz.ntmps41
  go_wp2_with fail
  refine (tell_at n b o _ hg hn).mono ?_
  have tA := Tryz.toAtA
  rintro e w1 ⟨rfl, hb⟩
  have hk1 : w1.cell? ⟨b, o + 1, none⟩ = some (.int .i64 k) := (hb.cell (p := ⟨b, o + 1, none⟩) (lt_of_cell (a := ⟨b, o, none⟩) hn)).trans hk
  go_wp2_with fail
  refine wp_loop_rounds 1 ?_
  rw [rounds_succ]
  go_wp2
  go_quiet (fail)
  go_wp2
  go_ret2
  exact ⟨rfl, below_drewN hb _⟩

theorem place_any (err : Value) (n k : Int) (w : World) (hg : ErrT w) (h : ErrIs w err n k) : Calls Tryz.prog 41 #[err] w fun e w' => e = .returned (.tuple #[.int .i64 n, .int .i64 k]) ∧ Below w.heap.size w w' := by
  rcases h with ⟨rfl, rfl, rfl⟩ | ⟨rfl, rfl⟩ | ⟨b, o, rfl, h1, h2⟩
  · exact (place_nil w).mono fun _ _ ⟨he, hw⟩ => ⟨he, by subst hw; exact Below.refl _ _⟩
  · exact place_errno n w hg
  · exact place_at n k b o w hg h1 h2

set_option maxHeartbeats 400000 in
theorem is_yes (err : Value) (n k : Int) (w : World) (hg : ErrT w) (h : ErrIs w err n k) :
    Calls Tryz.prog 8 #[err, .agg #[.int .i64 n, .int .i64 k]] w fun e w' => e = .returned (.bool true) ∧ Below w.heap.size w w' := by
  have hb0 : Below w.heap.size w (w.alloc (.cells #[.int .i64 n, .int .i64 k] 34)) := (Below.refl _ _).alloc (Nat.le_refl _) _
  have HG : Hid (ErrT (w.alloc (.cells #[.int .i64 n, .int .i64 k] 34))) := hg.below hb0
  have HE : Hid (ErrIs (w.alloc (.cells #[.int .i64 n, .int .i64 k] 34)) err n k) := h.below hb0
  clear hb0
  go_enter Tryz.func8, Tryz.ntmps8
  go_wp2_with fail
  refine (place_any err n k _ HG.out HE.out).mono ?_
  rintro e w1 ⟨rfl, hb⟩
  have hc0 : w1.cell? ⟨w.heap.size, 0, none⟩ = some (.int .i64 n) := (hb.cell (p := ⟨w.heap.size, 0, none⟩) (by simp)).trans (World.cell?_alloc_at _ _ _ _ rfl)
  have hc1 : w1.cell? ⟨w.heap.size, 1, none⟩ = some (.int .i64 k) := (hb.cell (p := ⟨w.heap.size, 1, none⟩) (by simp)).trans (World.cell?_alloc_at _ _ _ _ rfl)
  go_wp2
  go_ret
  exact ⟨rfl, ((Below.refl _ _).alloc (Nat.le_refl _) _).trans (hb.mono (by simp))⟩

set_option maxHeartbeats 400000 in
theorem Bare_any (n : Int) (w : World) :
    Calls Tryz.prog 40 #[.int .i64 n] w fun e w' => e = .returned (.agg #[.int .i64 n, .int .i64 (-1)]) ∧ Below w.heap.size w w' := by
  go_enter Tryz.func40, Tryz.ntmps40
  go_wp2
  go_returns
  exact ⟨rfl, by go_grown⟩

set_option maxHeartbeats 400000 in
theorem bare_yes (err : Value) (n : Int) (w : World) (hg : ErrT w) (h : ErrIs w err n (-1)) :
    Calls Tryz.prog 11 #[err, .int .i64 n] w fun e w' => e = .returned (.bool true) ∧ Below w.heap.size w w' := by
  have HE : Hid (ErrIs w err n (-1)) := h
  clear h
  go_enter Tryz.func11, Tryz.ntmps11
  go_wp2_with fail
  refine (Bare_any n _).mono ?_
  rintro e w1 ⟨rfl, hb⟩
  go_wp2_with fail
  refine (is_yes err n (-1) _ (hg.below hb) (HE.out.below hb)).mono ?_
  rintro e w2 ⟨rfl, hb2⟩
  go_wp2
  go_ret
  exact ⟨rfl, hb.trans (hb2.mono hb.size)⟩
end Go.Proofs.YtjdkagafdnchhaaGreatDoor
