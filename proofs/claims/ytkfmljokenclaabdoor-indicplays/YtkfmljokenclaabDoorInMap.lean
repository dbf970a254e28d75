/-
  The law's own map of the lots of each place (side, kind, price): what it holds, and what its look-ups and stores do, over this seat's translation. Conditions stand in each theorem.
-/
import Derived.Test.YtkfmljokenclaabDoorBlk
import Derived.Maps.OwnSet
import Derived.Maps.RangeWalk
import Derived.WideKeyEntry
import Derived.DeepKeys4
import Derived.MapViews
namespace Go.Proofs.YtkfmljokenclaabDoor
open Go.RowKit

def Wf3 (s k p : Int) : Prop := (Lit.int .i64 s).wf = true ∧ (Lit.int .i64 k).wf = true ∧ (Lit.int .i64 p).wf = true
def plV (s k p : Int) : Value := .agg #[.int .i64 s, .int .i64 k, .int .i64 p]
def KL (s k p : Int) : Lit := .string (keyBytes [.int .i64 s, .int .i64 k, .int .i64 p])
/-- a struct of three ints, as a map's key -/
structure Key3 (P : Program) (k e : TypeId) (f0 f1 f2 : Field) : Prop where
  hu : P.underlying k = some (.struct #[f0, f1, f2])
  he : P.underlying e = some (.int .i64)
  hc : P.cellsOf k = 3
  h1 : P.cellsOf e = 1
  t0 : f0.type = e ∧ f0.offset = 0 ∧ (f0.name != "_") = true
  t1 : f1.type = e ∧ f1.offset = 1 ∧ (f1.name != "_") = true
  t2 : f2.type = e ∧ f2.offset = 2 ∧ (f2.name != "_") = true
  hk : P.keyType k = true
  hsz : ∃ m, P.types.size = m + 1
theorem Key3.all {P : Program} {k e : TypeId} {f0 f1 f2 : Field} (K : Key3 P k e f0 f1 f2) : (#[f0, f1, f2].all (·.name != "_")) = true := by simp [K.t0.2.2, K.t1.2.2, K.t2.2.2]
theorem Key3.one {P : Program} {k e : TypeId} {f0 f1 f2 : Field} (K : Key3 P k e f0 f1 f2) (m : Nat) (v : Value) : P.keyLits (m + 1) e [v] = match v with | .int .i64 n => if (Lit.int .i64 n).wf = true then some [.int .i64 n] else none | _ => none := by
  unfold Program.keyLits
  simp only [K.he]
  cases v <;> simp
  rename_i q n
  cases q <;> simp
theorem Key3.lits {P : Program} {k e : TypeId} {f0 f1 f2 : Field} (K : Key3 P k e f0 f1 f2) (m : Nat) (a b c : Value) : P.keyLits (m + 1 + 1) k [a, b, c] = ([P.keyLits (m + 1) e [a], P.keyLits (m + 1) e [b], P.keyLits (m + 1) e [c]].mapM id).map List.flatten := by
  conv => lhs; unfold Program.keyLits
  simp only [K.hu]
  rw [if_pos ⟨by rw [K.hc]; rfl, K.all⟩]
  simp [K.t0.1, K.t0.2.1, K.t1.1, K.t1.2.1, K.t2.1, K.t2.2.1, K.h1]
theorem Key3.of {P : Program} {k e : TypeId} {f0 f1 f2 : Field} (K : Key3 P k e f0 f1 f2) {s kd p : Int} (h : Wf3 s kd p) : keyOf P k (plV s kd p) = some (KL s kd p) := by
  obtain ⟨m, hm⟩ := K.hsz
  unfold keyOf plV
  simp only [K.hu]
  rw [if_pos (by simp [K.hk, Value.formed, K.hu, K.hc]), hm]
  show (P.keyLits (m + 1 + 1) k [.int .i64 s, .int .i64 kd, .int .i64 p]).map _ = _
  rw [K.lits, K.one, K.one, K.one]
  simp [h.1, h.2.1, h.2.2, KL]
theorem Key3.inv {P : Program} {k e : TypeId} {f0 f1 f2 : Field} (K : Key3 P k e f0 f1 f2) {v : Value} {l : Lit} (h : keyOf P k v = some l) : ∃ s kd p, v = plV s kd p ∧ Wf3 s kd p ∧ l = KL s kd p := by
  have h0 := h
  obtain ⟨m, hm⟩ := K.hsz
  unfold keyOf at h
  simp only [K.hu] at h
  split at h
  · rename_i hc
    rw [Bool.and_eq_true] at hc
    have hf := hc.2
    cases v with
    | agg cs =>
      have hs : cs.size = 3 := by simpa [Value.formed, K.hu, K.hc] using hf
      obtain ⟨a, b, c, rfl⟩ : ∃ a b c, cs = #[a, b, c] := by
        obtain ⟨xs⟩ := cs
        match xs, hs with
        | [a, b, c], _ => exact ⟨a, b, c, rfl⟩
      rw [hm] at h
      replace h : (P.keyLits (m + 1 + 1) k [a, b, c]).map (fun ls => Lit.string (keyBytes ls)) = some l := h
      rw [K.lits, K.one, K.one, K.one] at h
      have inv : ∀ {v : Value}, (match v with | .int .i64 n => if (Lit.int .i64 n).wf = true then some [Lit.int .i64 n] else none | _ => none) ≠ none → ∃ n, v = .int .i64 n ∧ (Lit.int .i64 n).wf = true := fun {v} hv => by
        split at hv
        · rename_i n
          split at hv
          · exact ⟨n, rfl, by assumption⟩
          · exact absurd rfl hv
        · exact absurd rfl hv
      by_cases ha : (match a with | .int .i64 n => if (Lit.int .i64 n).wf = true then some [Lit.int .i64 n] else none | _ => none) = none
      · rw [ha] at h; simp at h
      by_cases hb : (match b with | .int .i64 n => if (Lit.int .i64 n).wf = true then some [Lit.int .i64 n] else none | _ => none) = none
      · rw [hb] at h; simp at h
      by_cases hc' : (match c with | .int .i64 n => if (Lit.int .i64 n).wf = true then some [Lit.int .i64 n] else none | _ => none) = none
      · rw [hc'] at h; simp at h
      obtain ⟨s, rfl, w1⟩ := inv ha
      obtain ⟨kd, rfl, w2⟩ := inv hb
      obtain ⟨p, rfl, w3⟩ := inv hc'
      have := K.of (s := s) (kd := kd) (p := p) ⟨w1, w2, w3⟩
      unfold plV at this
      rw [h0] at this
      injection this with this
      exact ⟨s, kd, p, rfl, ⟨w1, w2, w3⟩, this⟩
    | _ => simp [Value.formed, K.hu] at hf
  · cases h

set_option maxRecDepth 100000 in
theorem Tryd.laidOut : laidOutB Tryd.prog = true := by kernel_rfl
theorem Tryd.rowPl : (34 : TypeId) < Tryd.prog.types.size := of_decide_eq_true (by kernel_rfl)
theorem Tryd.widePl : (match Tryd.prog.underlying 34 with | some (.array _ _) | some (.struct _) => true | _ => false) = true := by rw [Tryd.underlying34]
theorem Tryd.atPl : Tryd.prog.keyTypeAt 2 34 = true := by kernel_rfl
theorem two_le : 2 + 1 ≤ 10000 := by omega
set_option maxRecDepth 100000 in
theorem Tryd.lawPl : WideMaps.KeyLaw Tryd.prog 34 := deep_law_laid Tryd.laidOut (m := 2) two_le Tryd.rowPl Tryd.atPl Tryd.widePl
theorem Tryd.keyPl : Maps.Keyed Tryd.prog 34 := Maps.Keyed.of_law Tryd.lawPl
theorem Tryd.keyTPl : Tryd.prog.keyType 34 = true := by kernel_rfl
theorem Tryd.cellsPl : Tryd.prog.cellsOf 34 = 3 := by kernel_rfl
theorem Tryd.cellsI : Tryd.prog.cellsOf 3 = 1 := by kernel_rfl
theorem Tryd.zeroI (w : World) : (zeroValue 3).run Tryd.prog w = .ok (.int .i64 0) w := by kernel_rfl
theorem Tryd.key3 : ∃ f0 f1 f2, Key3 Tryd.prog 34 3 f0 f1 f2 :=
  ⟨_, _, _, Tryd.underlying34, Tryd.underlying3, Tryd.cellsPl, Tryd.cellsI, ⟨rfl, rfl, by decide⟩, ⟨rfl, rfl, by decide⟩, ⟨rfl, rfl, by decide⟩, Tryd.keyTPl, Nat.exists_eq_succ_of_ne_zero (Nat.ne_of_gt (Nat.lt_of_le_of_lt (Nat.zero_le _) Tryd.rowPl))⟩
theorem keyOf_pl {s k p : Int} (h : Wf3 s k p) : keyOf Tryd.prog 34 (plV s k p) = some (KL s k p) := by
  obtain ⟨_, _, _, K⟩ := Tryd.key3; exact K.of h
theorem pl_inv {v : Value} {l : Lit} (h : keyOf Tryd.prog 34 v = some l) : ∃ s k p, v = plV s k p ∧ Wf3 s k p ∧ l = KL s k p := by
  obtain ⟨_, _, _, K⟩ := Tryd.key3; exact K.inv h
theorem KL_inj {s k p s' k' p' : Int} (h : Wf3 s k p) (h' : Wf3 s' k' p') (e : KL s k p = KL s' k' p') : s = s' ∧ k = k' ∧ p = p' := by
  have h1 := keyOf_pl h
  rw [e] at h1
  have := Tryd.keyPl.inj h1 (keyOf_pl h')
  unfold plV at this
  simpa using this
theorem KL_ne {s k p s' k' p' : Int} (h : Wf3 s k p) (h' : Wf3 s' k' p') (e : ¬ (s = s' ∧ k = k' ∧ p = p')) : KL s k p ≠ KL s' k' p' := fun e' => e (KL_inj h h' e')
theorem KL_key (s k p : Int) : WideAt.IsKeyLit (KL s k p) := trivial

abbrev litI (x : Int) : DataW Unit := .lit (.int .i64 x)
def up3 (n : Int → Int → Int → Int) (s k p x : Int) : Int → Int → Int → Int := fun s' k' p' => if s' = s ∧ k' = k ∧ p' = p then x else n s' k' p'
theorem up3_same (n : Int → Int → Int → Int) (s k p x : Int) : up3 n s k p x s k p = x := if_pos ⟨rfl, rfl, rfl⟩
theorem up3_other {n : Int → Int → Int → Int} {s k p s' k' p' : Int} (x : Int) (h : ¬ (s' = s ∧ k' = k ∧ p' = p)) : up3 n s k p x s' k' p' = n s' k' p' := if_neg h
/-- just the lots n, each where it is -/
def LtV (D : DataW Unit) (n : Int → Int → Int → Int) : Prop := ∀ s k p, Wf3 s k p → D.atKey (KL s k p) (litI 0) = litI (n s k p)
def LtD (D : DataW Unit) (n : Int → Int → Int → Int) : Prop := LtV D n ∧ ∀ s k p, Wf3 s k p → Maps.has D (KL s k p) = true → n s k p ≠ 0
theorem LtV.put {D : DataW Unit} {n : Int → Int → Int → Int} (h : LtV D n) (hD : Maps.IsMap D) {s k p : Int} (hw : Wf3 s k p) (x : Int) : LtV (D.put (KL s k p) (litI x)) (up3 n s k p x) := fun s' k' p' hw' => by
  by_cases e : s' = s ∧ k' = k ∧ p' = p
  · obtain ⟨rfl, rfl, rfl⟩ := e
    rw [up3_same]; exact Maps.atKey_put_same hD (KL_key ..) _ _
  · rw [Maps.atKey_put_other (KL_ne hw' hw e), up3_other x e]; exact h s' k' p' hw'
theorem LtD.put {D : DataW Unit} {n : Int → Int → Int → Int} (h : LtD D n) (hD : Maps.IsMap D) {s k p : Int} (hw : Wf3 s k p) {x : Int} (hx : x ≠ 0) : LtD (D.put (KL s k p) (litI x)) (up3 n s k p x) := by
  refine ⟨h.1.put hD hw x, fun s' k' p' hw' hh => ?_⟩
  by_cases e : s' = s ∧ k' = k ∧ p' = p
  · obtain ⟨rfl, rfl, rfl⟩ := e
    rw [up3_same]; exact hx
  · rw [Maps.has_put_other (KL_ne hw' hw e)] at hh
    rw [up3_other x e]; exact h.2 s' k' p' hw' hh
/-- put to nothing, then struck -/
theorem LtD.gone {D : DataW Unit} {n : Int → Int → Int → Int} (h : LtD D n) {s k p : Int} (hw : Wf3 s k p) (x : Int) : LtD ((D.put (KL s k p) (litI x)).del (KL s k p)) (up3 n s k p 0) := by
  refine ⟨fun s' k' p' hw' => ?_, fun s' k' p' hw' hh => ?_⟩
  · by_cases e : s' = s ∧ k' = k ∧ p' = p
    · obtain ⟨rfl, rfl, rfl⟩ := e
      rw [up3_same]; exact Maps.atKey_del_same _
    · rw [Maps.atKey_del_other (KL_ne hw' hw e), Maps.atKey_put_other (KL_ne hw' hw e), up3_other 0 e]; exact h.1 s' k' p' hw'
  · by_cases e : s' = s ∧ k' = k ∧ p' = p
    · obtain ⟨rfl, rfl, rfl⟩ := e
      rw [Maps.has_del_same] at hh; cases hh
    · rw [Maps.has_del_other (KL_ne hw' hw e), Maps.has_put_other (KL_ne hw' hw e)] at hh
      rw [up3_other 0 e]; exact h.2 s' k' p' hw' hh
abbrev mapIs (w : World) (B i : Nat) (D : DataW Unit) : Prop := w.ownsMap Tryd.prog 34 (plainElem Tryd.prog 3) B i D
/-- the map in memory; at most i places -/
def LtAt (w : World) (B : Nat) (n : Int → Int → Int → Int) (i : Nat) : Prop := ∃ D, mapIs w B i D ∧ LtD D n
theorem mapIs.blk {w w' : World} {B i : Nat} {D : DataW Unit} (h : mapIs w B i D) (hb : w'.heap[B]? = w.heap[B]?) : mapIs w' B i D := by
  obtain ⟨es, clock, e1, e2, e3, e4⟩ := h
  exact ⟨es, clock, hb.trans e1, e2, e3, e4⟩
theorem LtAt.blk {w w' : World} {B i : Nat} {n : Int → Int → Int → Int} (h : LtAt w B n i) (hb : w'.heap[B]? = w.heap[B]?) : LtAt w' B n i := by
  obtain ⟨D, h1, h2⟩ := h; exact ⟨D, mapIs.blk h1 hb, h2⟩
theorem LtAt.lt {w : World} {B i : Nat} {n : Int → Int → Int → Int} (h : LtAt w B n i) : B < w.heap.size := by obtain ⟨D, h1, _⟩ := h; exact h1.lt
theorem LtAt.below {w w' : World} {B i : Nat} {n : Int → Int → Int → Int} (h : LtAt w B n i) (hb : Below w.heap.size w w') : LtAt w' B n i := h.blk (hb.block B h.lt)
/-- a map's block is no row's -/
theorem LtAt.ne {w : World} {B i b : Nat} {n : Int → Int → Int → Int} {vs : Array Value} {t : TypeId} {f : Nat × Nat} (h : LtAt w B n i) (hb : w.heap[b]? = some (.cells vs t f)) : B ≠ b := fun e => by
  obtain ⟨D, ⟨es, clock, e1, _⟩, _⟩ := h
  rw [e, hb] at e1; cases e1
theorem mapIs.look {w : World} {B i : Nat} {D : DataW Unit} {n : Int → Int → Int → Int} (h : mapIs w B i D) (hV : LtV D n) {s k p : Int} (hw : Wf3 s k p) :
    (Instr.lookup 28 (.map (some B)) (plV s k p) false).run Tryd.prog w = .ok (.int .i64 (n s k p)) w := by
  obtain ⟨c, hr, hc, _⟩ := World.ownsMap.lookup_int h Tryd.keyPl Tryd.underlying28 Tryd.underlying3 (Tryd.zeroI w) (keyOf_pl hw)
  rw [hV s k p hw] at hc
  have : n s k p = c := by simpa [litI] using hc
  rw [hr, this]
theorem LtAt.look {w : World} {B i : Nat} {n : Int → Int → Int → Int} (h : LtAt w B n i) {s k p : Int} (hw : Wf3 s k p) :
    (Instr.lookup 28 (.map (some B)) (plV s k p) false).run Tryd.prog w = .ok (.int .i64 (n s k p)) w := by
  obtain ⟨D, h1, h2⟩ := h; exact h1.look h2.1 hw
/-- 'm[k] op= x': the entry is found or laid, then written -/
theorem mapIs.entry {w : World} {B i : Nat} {D : DataW Unit} (h : mapIs w B i D) (hi : i ≤ 1000) {s k p : Int} (hw : Wf3 s k p) :
    ∃ (v0 : Value) (st : Nat) (w1 : World), (Instr.mapEntry 28 (.map (some B)) (plV s k p)).run Tryd.prog w = .ok (.tuple #[v0, .int .i64 st]) w1 ∧ Out (fun j => j = B) w w1 ∧
      ∀ (w2 : World) (x : Int), (Lit.int .i64 x).wf = true → w2.heap[B]? = w1.heap[B]? → ∃ w3, (Instr.entryStore 28 (.map (some B)) (.int .i64 st) (.int .i64 x)).run Tryd.prog w2 = .ok () w3 ∧ Out (fun j => j = B) w2 w3 ∧ mapIs w3 B (i + 1) (D.put (KL s k p) (litI x)) := by
  have h0 := h
  obtain ⟨es, clock, hb, F, hs, rfl⟩ := h
  obtain ⟨v0, st, es1, clock1, hr, _, hst⟩ := WideElems.entry_then_store Tryd.lawPl Tryd.underlying28 Tryd.zeroI hb F (keyOf_pl hw)
  have out : ∀ {W : World} {e : Array MapEntry} {c : Nat} (o' : Obj), W.heap[B]? = some (.map e c) → Out (fun j => j = B) W (ChangeMaps.setBlock W B o') := fun {W e c} o' hW => ⟨rfl, rfl, rfl, by simp [ChangeMaps.setBlock], fun j _ hj => ChangeMaps.heap_setBlock_other hW _ (fun e => hj e)⟩
  refine ⟨v0, st, _, hr, out _ hb, fun w2 x hx hw2 => ?_⟩
  have hw2' : w2.heap[B]? = some (.map es1 clock1) := hw2.trans (ChangeMaps.heap_setBlock_same hb _)
  obtain ⟨es', clock', h1, h2⟩ := hst w2 (.int .i64 x) hw2'
  obtain ⟨w', hu, ho, _⟩ := World.ownsMap.update h0 Tryd.keyPl Tryd.underlying28 (by unfold maxLen; omega) (keyOf_pl hw) (plainElem_int (H := Unit) Tryd.underlying3 hx)
  rw [h2] at hu
  injection hu with _ hu
  refine ⟨_, h1, out _ hw2', mapIs.blk ho ?_⟩
  rw [ChangeMaps.heap_setBlock_same hw2' _, ← hu, ChangeMaps.heap_setBlock_same hb _]
/-- behind the entry's laying the map reads as it did -/
theorem entry_world {w : World} {B : Nat} {es : Array MapEntry} {clock : Nat} (hb : w.heap[B]? = some (.map es clock)) (F : WideElems.Fit (H := Unit) Tryd.prog 34 (plainElem Tryd.prog 3) es clock) {s k p : Int} (hw : Wf3 s k p) {r : Value} {w1 : World}
    (hr : (Instr.mapEntry 28 (.map (some B)) (plV s k p)).run Tryd.prog w = .ok r w1) : w1.heap[B]? = w.heap[B]? ∨ ((∀ x ∈ es.toList, x.key ≠ plV s k p) ∧ (Instr.mapUpdate 28 (.map (some B)) (plV s k p) (.int .i64 0)).run Tryd.prog w = .ok () w1) := by
  have ht := run_underlying (P := Tryd.prog) Tryd.underlying28 (w := w)
  have hg := MapKept.run_getObj_map (P := Tryd.prog) hb
  have hc := Tryd.lawPl.check w false (keyOf_pl hw)
  have hz := Tryd.zeroI w
  rcases Tryd.lawPl.find w (keyOf_pl hw) es.toList F.keys with ⟨h1, h2⟩ | ⟨j, e0, h1, h2, h3⟩
  · refine Or.inr ⟨h2, ?_⟩
    have hs := MapKept.run_setObj_map (P := Tryd.prog) (.map (es.push ⟨plV s k p, .int .i64 0, clock⟩) (clock + 1)) hb
    simp [Instr.mapEntry, ht, hg, hc, h1, hz, hs, Result.andThen] at hr
    simp [Instr.mapUpdate, ht, hg, hc, h1, hs, Result.andThen, hr.2]
  · left
    have hj : es[j]? = some e0 := by simpa using h2
    have hk := Tryd.lawPl.stays w (keyOf_pl hw)
    have hsame : es.modify j (fun e => { e with key := plV s k p }) = es := by
      apply Array.ext'
      rw [Array.toList_modify, ChangeMaps.modify_eq_set _ _ _ _ h2]
      have : ({ e0 with key := plV s k p } : MapEntry) = e0 := by rw [← h3]
      rw [this]
      exact WideElems.set_self _ _ _ h2
    have hs := MapKept.run_setObj_map (P := Tryd.prog) (.map es clock) hb
    simp [Instr.mapEntry, ht, hg, hc, h1, hj, h3, hk, hsame, hs, Result.andThen] at hr
    rw [← hr.2, hb]
    have := (Array.getElem?_eq_some_iff.1 hb).1
    simp [this]
theorem mapIs.entryLook {w : World} {B i : Nat} {D : DataW Unit} {n : Int → Int → Int → Int} (h : mapIs w B i D) (hV : LtV D n) (hi : i ≤ 1000) {s k p : Int} (hw : Wf3 s k p) {r : Value} {w1 : World}
    (hr : (Instr.mapEntry 28 (.map (some B)) (plV s k p)).run Tryd.prog w = .ok r w1) : (Instr.lookup 28 (.map (some B)) (plV s k p) false).run Tryd.prog w1 = .ok (.int .i64 (n s k p)) w1 := by
  have h0 := h
  obtain ⟨es, clock, hb, F, hs, rfl⟩ := h
  rcases entry_world hb F hw hr with h1 | ⟨h1, h2⟩
  · exact mapIs.look (mapIs.blk h0 h1) hV hw
  · obtain ⟨w', hu, ho, _⟩ := World.ownsMap.update h0 Tryd.keyPl Tryd.underlying28 (by unfold maxLen; omega) (keyOf_pl hw) (plainElem_int (H := Unit) Tryd.underlying3 (show (Lit.int .i64 0).wf = true by decide))
    have hu := (Result.ok.inj (h2.symm.trans hu)).2
    have ho1 : mapIs w1 B (i + 1) _ := mapIs.blk ho (by rw [hu])
    have e0 : n s k p = 0 := by
      have a1 := hV s k p hw
      rw [WideElems.atKey_none Tryd.lawPl F (keyOf_pl hw) h1] at a1
      have : (0 : Int) = n s k p := by simpa [litI] using a1
      exact this.symm
    have hP := LtV.put hV (World.ownsMap.isMap h0) hw 0
    have := mapIs.look ho1 hP hw
    rw [up3_same] at this
    rw [this, e0]
end Go.Proofs.YtkfmljokenclaabDoor
