/- A part of the proof of EnginePlays. -/
import Derived.Test.YtjdkagafdnchhaaGreatDoorPD
import Derived.Test.YtjdkagafdnchhaaGreatDoorPA
import Derived.Deep.RegionWith
namespace Go.Proofs.YtjdkagafdnchhaaGreatDoor
open Go.RowKit
attribute [local go_sem ↓] Go.wp_at_zero Go.wp_at_succ
def five (w:World) (b:Nat) (o:Ord):World:=((((w.setCell ⟨b,0,none⟩ (.int .i64 o.id)).setCell ⟨b,1,none⟩ (.int .i64 o.side)).setCell ⟨b,2,none⟩ (.int .i64 o.kind)).setCell ⟨b,3,none⟩ (.int .i64 o.price)).setCell ⟨b,4,none⟩ (.int .i64 o.qty)
def rR0 (w:World) (b:Nat) (k a s:Int):World:=((w.setCell ⟨b,0,none⟩ (.int .i64 k)).setCell ⟨b,1,none⟩ (.int .i64 a)).setCell ⟨b,2,none⟩ (.int .i64 s)
theorem rS0 (w:World) (b:Nat) (o:Ord):Out (fun j=>j=b) w (five w b o):=yQ0 w b _ _ _ _ _
theorem tP0 (w:World) (b:Nat) (k a s:Int):Out (fun j=>j=b) w (rR0 w b k a s):=
 ((aQ0 w ⟨b,0,none⟩ _).trans (aQ0 _ ⟨b,1,none⟩ _) (Went.refl _ _)).trans (aQ0 _ ⟨b,2,none⟩ _) (Went.refl _ _)
theorem oD1 {w:World} {b:Nat} {u0 u1 u2 u3 u4:Value} {t:TypeId} (o:Ord) (h:w.heap[b]? = some (.cells #[u0,u1,u2,u3,u4] t (0,0))):(five w b o).heap[b]? = some (.cells #[.int .i64 o.id,.int .i64 o.side,.int .i64 o.kind,.int .i64 o.price,.int .i64 o.qty] t (0,0)):=
 aK0 (j:=4) _ (aK0 (j:=3) _ (aK0 (j:=2) _ (aK0 (j:=1) _ (aK0 (j:=0) _ h))))
theorem iW1 {w:World} {b:Nat} {u0 u1 u2:Value} {t:TypeId} (k a s:Int) (h:w.heap[b]? = some (.cells #[u0,u1,u2] t (0,0))):(rR0 w b k a s).heap[b]? = some (.cells #[.int .i64 k,.int .i64 a,.int .i64 s] t (0,0)):=
 aK0 (j:=2) _ (aK0 (j:=1) _ (aK0 (j:=0) _ h))
def plV (x:Ly) (s:Nat):Value:=.agg #[.int .i64 x.slot,.int .i64 x.age,.int .i64 s]
set_option maxRecDepth 100000 in
set_option maxHeartbeats 2000000 in
theorem dO1 (bb m:Nat) (b:BkS) (id:Int) (w:World) (h:Bk w bb m b) (hw:(Lit.int .i64 id).wf=true) (hno:∀s,s<2→∀x∈b.S s,x.o.id≠id):
  Calls Tryz.prog 99 #[.pointer (some ⟨bb,0,none⟩),.int .i64 id] w fun e W'=>e=.returned (.tuple #[Ord.none_.agg,.agg #[.int .i64 0,.int .i64 0,.int .i64 0],.iface 32 (.int .i64 7)])∧Below w.heap.size w W':=by
 have HB2:=bel2 w (.cells #[.int .i64 0,.int .i64 0,.int .i64 0,.int .i64 0,.int .i64 0] 41) (.cells #[.int .i64 0,.int .i64 0,.int .i64 0] 171);have hbk:=h.below HB2 lR7;have m1:w.cell? ⟨bb,1,none⟩=some (.map (some b.mb)):=aA0 (j:=1) h.at_.box rfl;have hrun:=hbk.at_.map.no hno hw;have lb:bb<w.heap.size:=h.lt (Or.inl rfl);clear h hbk hno hw HB2;go_enter Tryz.func99,Tryz.ntmps99;go_wp2;refine bodyPost_ret (by simp [results,Tryz.results99,go_sem];try rfl) rfl ?_;refine ⟨rfl,?_⟩
 (repeat' first | assumption | exact Below.refl _ _ | exact lR7 | refine Below.drew ?_ | refine Below.alloc ?_ ?_ _ | (simp;done) | (simp;omega))
set_option maxRecDepth 100000 in
set_option maxHeartbeats 4000000 in
theorem nE0 (bb m s:Nat) (b:BkS) (x:Ly) (w:World) (h:Bk w bb m b) (hs:s<2) (hx:x∈b.S s):
  Calls Tryz.prog 99 #[.pointer (some ⟨bb,0,none⟩),.int .i64 x.o.id] w fun e W'=>e=.returned (.tuple #[x.o.agg,plV x s,.nilIface])∧Below w.heap.size w W':=by
 have HB2:=bel2 w (.cells #[.int .i64 0,.int .i64 0,.int .i64 0,.int .i64 0,.int .i64 0] 41) (.cells #[.int .i64 0,.int .i64 0,.int .i64 0] 171);have hbk:=h.below HB2 lR7;have m1:w.cell? ⟨bb,1,none⟩=some (.map (some b.mb)):=aA0 (j:=1) h.at_.box rfl;have hrun:=hbk.at_.map.yes hs hx (h.ok.ok s hs x hx).2.1;have lb:bb<w.heap.size:=h.lt (Or.inl rfl);have HO:Hid (soAt b.rs x.slot=(some x.o,x.age)):=h.ok.there s hs x hx;have H:Hid (Bk w bb m b):=h;clear h hbk HB2;unfold Ord.agg plV;go_enter Tryz.func99,Tryz.ntmps99;go_upto_region 4 with fail;have hb2:=bel2 w (.cells #[.int .i64 0,.int .i64 0,.int .i64 0,.int .i64 0,.int .i64 0] 41) (.cells #[.int .i64 0,.int .i64 0,.int .i64 0] 171);have hr1:=eV0 w (.cells #[.int .i64 0,.int .i64 0,.int .i64 0,.int .i64 0,.int .i64 0] 41) (.cells #[.int .i64 0,.int .i64 0,.int .i64 0] 171);have hr2:=dX0 w (.cells #[.int .i64 0,.int .i64 0,.int .i64 0,.int .i64 0,.int .i64 0] 41) (.cells #[.int .i64 0,.int .i64 0,.int .i64 0] 171);have hsz:((w.alloc (.cells #[.int .i64 0,.int .i64 0,.int .i64 0,.int .i64 0,.int .i64 0] 41)).alloc (.cells #[.int .i64 0,.int .i64 0,.int .i64 0] 171)).heap.size=w.heap.size+1+1:=by simp
 generalize (w.alloc (.cells #[.int .i64 0,.int .i64 0,.int .i64 0,.int .i64 0,.int .i64 0] 41)).alloc (.cells #[.int .i64 0,.int .i64 0,.int .i64 0] 171)=wq at hb2 hr1 hr2 hsz ⊢;have hb3:=bel1 wq (.cells #[.int .i64 x.slot,.int .i64 x.age,.int .i64 s] 171);have hr3:=heap_alloc_new wq (.cells #[.int .i64 x.slot,.int .i64 x.age,.int .i64 s] 171);rw [hsz] at hr3;have hr1:=aC0 hr1 hb3 lR7;have hr2:=aC0 hr2 hb3 lR7;have hbp:=aD0 hb2 hb3;generalize wq.alloc (.cells #[.int .i64 x.slot,.int .i64 x.age,.int .i64 s] 171)=wp at hb3 hr1 hr2 hr3 hbp ⊢;have HB:Hid (Below w.heap.size w wp):=hbp;have HR1:Hid (wp.heap[w.heap.size]? = some (.cells #[.int .i64 0,.int .i64 0,.int .i64 0,.int .i64 0,.int .i64 0] 41 (0,0))):=hr1;have HR2:Hid (wp.heap[w.heap.size+1]? = some (.cells #[.int .i64 0,.int .i64 0,.int .i64 0] 171 (0,0))):=hr2;have HR3:Hid (wp.heap[w.heap.size+1+1]? = some (.cells #[.int .i64 x.slot,.int .i64 x.age,.int .i64 s] 171 (0,0))):=hr3;have HBK:Hid (Bk wp bb m b):=H.out.below hbp lR7;clear hb2 hb3 hr1 hr2 hr3 hbp hsz m1 hrun
 have HS:Hid (∀w',Below wp.heap.size wp w'→(w'.cell? ⟨bb,0,none⟩=some (.pointer (some ⟨b.ab,0,none⟩))∧w'.cell? ⟨w.heap.size+1+1,0,none⟩=some (.int .i64 x.slot)∧w'.cell? ⟨w.heap.size+1+1,1,none⟩=some (.int .i64 x.age)∧Below wp.heap.size wp w')):=fun w' hb=>
  ⟨aA0 (j:=0) (aC0 HBK.out.at_.box hb lR7) rfl,aA0 (j:=0) (aC0 HR3.out hb lR7) rfl,aA0 (j:=1) (aC0 HR3.out hb lR7) rfl,hb⟩
 have hs0:=HS.out wp (Below.refl _ _);go_cut [9,10] from 25 to 34 (fun p9 p10 wd=>p10=.nilIface∧∃xb,p9=.pointer (some ⟨xb,0,none⟩)∧wp.heap.size≤xb∧dD0 wd xb x.o∧Below wp.heap.size wp wd)
 case first=>
  go_region_held3 (fun w'=>w'.cell? ⟨bb,0,none⟩=some (.pointer (some ⟨b.ab,0,none⟩))∧w'.cell? ⟨w.heap.size+1+1,0,none⟩=some (.int .i64 x.slot)∧w'.cell? ⟨w.heap.size+1+1,1,none⟩=some (.int .i64 x.age)∧Below wp.heap.size wp w')
   ((refine HS.out _ ?_;(repeat' first | assumption | exact Below.refl _ _ | exact lR7 | refine Below.drew ?_ | refine Below.alloc ?_ ?_ _ | refine aD0 ?_ hb1 | refine Below.setCell ?_ ?_ _ | (simp;done) | (simp;omega) | (have h9:=hb1.size;simp at h9 ⊢;omega))))
   (first | (go_at_call 152;refine (nT1 b.ab 100 b.vs b.vf b.rs b.fr x.slot x.o x.age _ (HBK.out.at_.ar.below (B:=wp.heap.size) ?_ lR7) HO.out).mono ?_;(repeat' first | assumption | exact Below.refl _ _ | exact lR7 | refine Below.drew ?_ | refine Below.alloc ?_ ?_ _ | (simp;done) | (simp;omega));rintro e w1 ⟨hb1,rfl⟩;unfold Ord.agg;try (have hxb:=(hb1.block wp.heap.size (by simp)).trans (heap_alloc_new wp _);have y0:=aA0 (j:=0) hxb rfl;have y1:=aA0 (j:=1) hxb rfl;have y2:=aA0 (j:=2) hxb rfl;have y3:=aA0 (j:=3) hxb rfl;have y4:=aA0 (j:=4) hxb rfl;have z0:=aB0 (j:=0) hxb;have z1:=aB0 (j:=1) hxb;have z2:=aB0 (j:=2) hxb;have z3:=aB0 (j:=3) hxb;have z4:=aB0 (j:=4) hxb)))
  ·go_wp2_with fail;go_meet;exact ⟨rfl,w1.heap.size,rfl,hb1.size,heap_alloc_new w1 _,aD0 (w1:=w1) (aD0 (w:=wp) (w1:=wp.drew) (Below.refl _ _).drew hb1) (bel1 _ _)⟩
  ·go_wp2_with fail;go_meet;refine ⟨rfl,wp.heap.size,rfl,lR7,aK0 (j:=4) (.int .i64 x.o.qty) (aK0 (j:=3) (.int .i64 x.o.price) (aK0 (j:=2) (.int .i64 x.o.kind) (aK0 (j:=1) (.int .i64 x.o.side) (aK0 (j:=0) (.int .i64 x.o.id) hxb)))),?_⟩;have h8:Below wp.heap.size wp w1:=aD0 (bel1 wp _).drew hb1;exact ((((h8.setCell (p:=⟨wp.heap.size,0,none⟩) lR7 _).setCell (p:=⟨wp.heap.size,1,none⟩) lR7 _).setCell (p:=⟨wp.heap.size,2,none⟩) lR7 _).setCell (p:=⟨wp.heap.size,3,none⟩) lR7 _).setCell (p:=⟨wp.heap.size,4,none⟩) lR7 _
 case rest=>
  obtain ⟨rfl,xb,rfl,hxl,hxo,hbd⟩:=hcut;have g1:=aC0 HR1.out hbd lR7;have g2:=aC0 HR2.out hbd lR7;have g3:=aC0 HR3.out hbd lR7;have lp:w.heap.size+1+1<wp.heap.size:=lt_of_block HR3.out;have HBD:Hid (Below w.heap.size w wc):=aD0 HB.out hbd;have x0:=aA0 (j:=0) hxo rfl;have x1:=aA0 (j:=1) hxo rfl;have x2:=aA0 (j:=2) hxo rfl;have x3:=aA0 (j:=3) hxo rfl;have x4:=aA0 (j:=4) hxo rfl;have p0:=aA0 (j:=0) g3 rfl;have p1:=aA0 (j:=1) g3 rfl;have p2:=aA0 (j:=2) g3 rfl;have n1:xb≠w.heap.size:=by omega
  have n2:xb≠w.heap.size+1:=by omega
  have HXO:Hid (dD0 wc xb x.o):=hxo;have HG3:Hid (wc.heap[w.heap.size+1+1]? = some (.cells #[.int .i64 x.slot,.int .i64 x.age,.int .i64 s] 171 (0,0))):=g3;have HG1:Hid _:=g1;have HG2:Hid _:=g2;have a0:=aA0 (j:=0) g1 rfl;have a1:=aA0 (j:=1) g1 rfl;have a2:=aA0 (j:=2) g1 rfl;have a3:=aA0 (j:=3) g1 rfl;have a4:=aA0 (j:=4) g1 rfl;have b0:=aA0 (j:=0) g2 rfl;have b1:=aA0 (j:=1) g2 rfl;have b2:=aA0 (j:=2) g2 rfl;have f0:=aB0 (j:=0) g1;have f1:=aB0 (j:=1) g1;have f2:=aB0 (j:=2) g1;have f3:=aB0 (j:=3) g1;have f4:=aB0 (j:=4) g1;have f5:=aB0 (j:=0) g2;have f6:=aB0 (j:=1) g2;have f7:=aB0 (j:=2) g2;clear hs0 HS hbd hxo g1 g2 g3 hxl lp;go_wp2_with fail
  have HS5:Hid (∀w',Out (fun j=>j=w.heap.size∨j=w.heap.size+1) wc w'→(w'.cell? ⟨xb,0,none⟩=some (.int .i64 x.o.id)∧w'.cell? ⟨xb,1,none⟩=some (.int .i64 x.o.side)∧w'.cell? ⟨xb,2,none⟩=some (.int .i64 x.o.kind)∧w'.cell? ⟨xb,3,none⟩=some (.int .i64 x.o.price)∧w'.cell? ⟨xb,4,none⟩=some (.int .i64 x.o.qty)∧w'.cell? ⟨w.heap.size+1+1,0,none⟩=some (.int .i64 x.slot)∧w'.cell? ⟨w.heap.size+1+1,1,none⟩=some (.int .i64 x.age)∧w'.cell? ⟨w.heap.size+1+1,2,none⟩=some (.int .i64 s)∧Out (fun j=>j=w.heap.size∨j=w.heap.size+1) wc w')):=fun w' ho=>by
   have k1:=aE0 HXO.out ho (fun e=>by rcases e with e | e <;> omega);have k2:=aE0 HG3.out ho (fun e=>by rcases e with e | e <;> omega);exact ⟨aA0 (j:=0) k1 rfl,aA0 (j:=1) k1 rfl,aA0 (j:=2) k1 rfl,aA0 (j:=3) k1 rfl,aA0 (j:=4) k1 rfl,aA0 (j:=0) k2 rfl,aA0 (j:=1) k2 rfl,aA0 (j:=2) k2 rfl,ho⟩
  have hs1:=HS5.out wc (Out.refl _ _);have hOF:Out (fun j=>j=w.heap.size∨j=w.heap.size+1) wc (five wc w.heap.size x.o).drew:=aU0 ((rS0 wc _ _).mono (fun j hj=>Or.inl hj));have hOZ:Out (fun j=>j=w.heap.size∨j=w.heap.size+1) wc (rR0 (five wc w.heap.size x.o) (w.heap.size+1) x.slot x.age s).drew:=aU0 (((rS0 wc _ _).mono (fun j hj=>Or.inl hj)).trans ((tP0 _ _ _ _ _).mono (fun j hj=>Or.inr hj)) (Went.refl _ _));have j1:(rR0 (five wc w.heap.size x.o) (w.heap.size+1) x.slot x.age s).heap[w.heap.size]? = some (.cells #[.int .i64 x.o.id,.int .i64 x.o.side,.int .i64 x.o.kind,.int .i64 x.o.price,.int .i64 x.o.qty] 41 (0,0)):=aE0 (oD1 (w:=wc) x.o HG1.out) (tP0 _ _ _ _ _) (fun e=>Nat.ne_of_lt (Nat.lt_succ_self _) e);have j2:(rR0 (five wc w.heap.size x.o) (w.heap.size+1) x.slot x.age s).heap[w.heap.size+1]? = some (.cells #[.int .i64 x.slot,.int .i64 x.age,.int .i64 s] 171 (0,0)):=iW1 (w:=five wc w.heap.size x.o) _ _ _ (aE0 (w:=wc) HG2.out (rS0 _ _ _) (fun e=>Nat.ne_of_gt (Nat.lt_succ_self _) e));have k1:(rR0 (five wc w.heap.size x.o) (w.heap.size+1) x.slot x.age s).drew.heap[w.heap.size]? = some (.cells #[.int .i64 x.o.id,.int .i64 x.o.side,.int .i64 x.o.kind,.int .i64 x.o.price,.int .i64 x.o.qty] 41 (0,0)):=by rw [iR0];exact j1
  have k2:(rR0 (five wc w.heap.size x.o) (w.heap.size+1) x.slot x.age s).drew.heap[w.heap.size+1]? = some (.cells #[.int .i64 x.slot,.int .i64 x.age,.int .i64 s] 171 (0,0)):=by rw [iR0];exact j2
  clear j1 j2;have k3:Below w.heap.size w (rR0 (five wc w.heap.size x.o) (w.heap.size+1) x.slot x.age s).drew:=HBD.out.trans (hOZ.below (fun j hj=>by rcases hj with hj | hj <;> omega) HBD.out.size);unfold rR0 five at hOZ k1 k2 k3;unfold five at hOF;have HOF:Hid _:=hOF;have HOZ:Hid _:=hOZ;have HK1:Hid _:=k1;have HK2:Hid _:=k2;have HK3:Hid _:=k3;clear hOF hOZ k1 k2 k3;clear x0 x1 x2 x3 x4 p0 p1 p2;refine eC0 (fun w'=>w'.cell? ⟨xb,0,none⟩=some (.int .i64 x.o.id)∧w'.cell? ⟨xb,1,none⟩=some (.int .i64 x.o.side)∧w'.cell? ⟨xb,2,none⟩=some (.int .i64 x.o.kind)∧w'.cell? ⟨xb,3,none⟩=some (.int .i64 x.o.price)∧w'.cell? ⟨xb,4,none⟩=some (.int .i64 x.o.qty)∧w'.cell? ⟨w.heap.size+1+1,0,none⟩=some (.int .i64 x.slot)∧w'.cell? ⟨w.heap.size+1+1,1,none⟩=some (.int .i64 x.age)∧w'.cell? ⟨w.heap.size+1+1,2,none⟩=some (.int .i64 s)∧Out (fun j=>j=w.heap.size∨j=w.heap.size+1) wc w') (fun _=>false) (by kernel_rfl) (HS5.out _ (aU0 (Out.refl _ _))) (fun hHeld=>?_);refine tkL7 (i:=0) (v:=?_) rfl (by kernel_rfl) (fun _ _ _ h=>h) (by rfl) ?_ (by assumption) ?_;rotate_left
  ·intro w hSw;try dsimp only at hSw
   go_simp;try rfl
  refine tkL7 (i:=1) (v:=?_) rfl (by kernel_rfl) (fun _ _ _ h=>h) (by rfl) ?_ (by assumption) ?_;rotate_left
  ·intro w hSw;try dsimp only at hSw
   go_simp;try rfl
  refine tkL7 (i:=2) (v:=?_) rfl (by kernel_rfl) (fun _ _ _ h=>h) (by rfl) ?_ (by assumption) ?_;rotate_left
  ·intro w hSw;try dsimp only at hSw
   go_simp;try rfl
  refine aL0 (rs:=[3]) (by kernel_rfl) (by simp) ?_;refine aF0.cons rfl (fun K hK=>?_) aF0.nil;go_simp;refine hK.out _ _ (fun _=>HS5.out _ HOF.out) (fun hHeld=>?_);replace hHeld:=hHeld rfl;clear hK K;refine aL0 (rs:=[4]) (by kernel_rfl) (by simp) ?_;refine aF0.cons rfl (fun K hK=>?_) aF0.nil;go_simp;have hO5:=HOZ.out;have k1:=HK1.out;have k2:=HK2.out;have k3:=HK3.out;clear HOZ HK1 HK2 HK3;generalize ((((((((wc.setCell ⟨w.heap.size,0,none⟩ (.int .i64 x.o.id)).setCell ⟨w.heap.size,1,none⟩ (.int .i64 x.o.side)).setCell ⟨w.heap.size,2,none⟩ (.int .i64 x.o.kind)).setCell ⟨w.heap.size,3,none⟩ (.int .i64 x.o.price)).setCell ⟨w.heap.size,4,none⟩ (.int .i64 x.o.qty)).setCell ⟨w.heap.size+1,0,none⟩ (.int .i64 x.slot)).setCell ⟨w.heap.size+1,1,none⟩ (.int .i64 x.age)).setCell ⟨w.heap.size+1,2,none⟩ (.int .i64 s)).drew=wz at hO5 k1 k2 k3 ⊢;refine hK.out _ _ (fun _=>HS5.out _ hO5) (fun hHeld=>?_);replace hHeld:=hHeld rfl;have e0:=aA0 (j:=0) k1 rfl;have e1:=aA0 (j:=1) k1 rfl;have e2:=aA0 (j:=2) k1 rfl;have e3:=aA0 (j:=3) k1 rfl;have e4:=aA0 (j:=4) k1 rfl;have e5:=aA0 (j:=0) k2 rfl;have e6:=aA0 (j:=1) k2 rfl;have e7:=aA0 (j:=2) k2 rfl;clear hK K a0 a1 a2 a3 a4 b0 b1 b2 f0 f1 f2 f3 f4 f5 f6 f7 hs1 hO5 k1 k2;refine aL0 (rs:=[5]) (by kernel_rfl) (by simp) ?_;refine aF0.cons rfl (fun K hK=>?_) aF0.nil;go_simp;refine hK.out _ _ (fun _=>hHeld) (fun _=>?_);refine fF0 (by kernel_rfl) ?_ _;go_wp2_with fail;refine bodyPost_ret (by simp [results,Tryz.results99,go_sem,e0,e1,e2,e3,e4,e5,e6,e7];try rfl) rfl ?_;exact ⟨rfl,k3⟩
end Go.Proofs.YtjdkagafdnchhaaGreatDoor
namespace Go.Proofs.YtjdkagafdnchhaaGreatDoor
open Go.RowKit
attribute [local go_sem ↓] Go.wp_at_zero Go.wp_at_succ
set_option maxRecDepth 100000 in
set_option maxHeartbeats 2000000 in
theorem tQ0 (bb m:Nat) (b:BkS) (id:Int) (w:World) (h:Bk w bb m b) (hw:(Lit.int .i64 id).wf=true) (hno:∀s,s<2→∀x∈b.S s,x.o.id≠id):
  Calls Tryz.prog 54 #[.pointer (some ⟨bb,0,none⟩),.int .i64 id] w fun e W'=>e=.returned (.tuple #[Ord.none_.agg,.iface 32 (.int .i64 7)])∧Below w.heap.size w W':=by
 have H:Hid (Bk w bb m b):=h;have HN:Hid (∀s,s<2→∀x∈b.S s,x.o.id≠id):=hno;clear h hno;go_enter Tryz.func54,Tryz.ntmps54;go_wp2_with fail;refine (dO1 bb m b id _ (H.out.below (bel1 _ _) lR7) hw HN.out).mono ?_;rintro e w1 ⟨rfl,hb1⟩;unfold Ord.agg Ord.none_;have hr:=aC0 (heap_alloc_new w _) hb1 lR7;have HB1:Hid (Below w.heap.size w w1):=aD0 (bel1 _ _) hb1;clear hb1;go_upto_region 3 with fail;have hb2:=bel2 w1 (.cells #[.int .i64 0,.int .i64 0,.int .i64 0,.int .i64 0,.int .i64 0] 41) (.cells #[.int .i64 0,.int .i64 0,.int .i64 0] 171);have hr:=aC0 hr hb2 lR7;generalize (w1.alloc (.cells #[.int .i64 0,.int .i64 0,.int .i64 0,.int .i64 0,.int .i64 0] 41)).alloc (.cells #[.int .i64 0,.int .i64 0,.int .i64 0] 171)=w2 at hb2 hr ⊢;have HB2:Hid (Below w.heap.size w w2):=aD0 HB1.out hb2;have a0:=aA0 (j:=0) hr rfl;have a1:=aA0 (j:=1) hr rfl;have a2:=aA0 (j:=2) hr rfl;have a3:=aA0 (j:=3) hr rfl;have a4:=aA0 (j:=4) hr rfl;have f0:=aB0 (j:=0) hr;have f1:=aB0 (j:=1) hr;have f2:=aB0 (j:=2) hr;have f3:=aB0 (j:=3) hr;have f4:=aB0 (j:=4) hr;clear hb2 hr;go_wp2;refine bodyPost_ret (by simp [results,Tryz.results54,go_sem,a0,a1,a2,a3,a4];try rfl) rfl ?_;refine ⟨rfl,?_⟩;have s0:Below w.heap.size w2 w2:=Below.refl _ _;exact HB2.out.trans (((((s0.setCell (p:=⟨w.heap.size,0,none⟩) (by simp) _).setCell (p:=⟨w.heap.size,1,none⟩) (by simp) _).setCell (p:=⟨w.heap.size,2,none⟩) (by simp) _).setCell (p:=⟨w.heap.size,3,none⟩) (by simp) _).setCell (p:=⟨w.heap.size,4,none⟩) (by simp) _)
theorem iX1 {w:World} {v:Value} {n:Nat} {l:List Value} (h:w.ownsRow 0 169 2 v n l) (hn:0<n):∃g cap,v=.slice (some ⟨g,0,none⟩) n cap:=by
 rcases h.2 with ⟨rfl,rfl⟩ | ⟨g,cap,cur,rfl,_⟩
 ·exact absurd hn (Nat.lt_irrefl 0)
 ·exact ⟨g,cap,rfl⟩
theorem iY1 {m s i:Nat} {rs:List Sot} {fr:List Nat} {S:Nat→List Ly} {x:Ly} (h:Pb m rs fr S) (hs:s<2) (hi:i<(S s).length) (hx:lyAt (S s) i=x):isH (lyAt (S s) i) x.slot x.age=true∧∀j,j<(S s).length→j≠i→isH (lyAt (S s) j) x.slot x.age=false:=by
 have hn:((S s).map Ly.slot).Nodup:=by
  have:=h.nd;rw [List.map_append] at this
  match s,hs with
  | 0,_=>exact (List.nodup_append.1 this).1
  | 1,_=>exact (List.nodup_append.1 this).2.1
 refine ⟨by rw [hx];simp [isH],fun j hj hji=>?_⟩
 have hne:(lyAt (S s) j).slot≠x.slot:=fun e=>hji (by
  rw [←hx,iQ0 hi,iQ0 hj] at e;have h1:j<((S s).map Ly.slot).length:=by simpa using hj
  have h2:i<((S s).map Ly.slot).length:=by simpa using hi
  exact (List.getElem_inj (h₀:=h1) (h₁:=h2) hn).1 (by simpa using e))
 simp [isH,hne]
theorem wL0 {x:Ly} {l:List Ly} (h:x∈l):∃i,i<l.length∧lyAt l i=x:=by
 obtain ⟨i,hi,e⟩:=List.mem_iff_getElem.1 h;exact ⟨i,hi,by rw [iQ0 hi];exact e⟩
theorem iZ1 {m s i:Nat} {rs:List Sot} {fr:List Nat} {S:Nat→List Ly} {x:Ly} (h:Pb m rs fr S) (hs:s<2) (hi:i<(S s).length) (hx:lyAt (S s) i=x):∀t,t<2→∀y,y∈upS S s (dH0 i (S s)) t↔(y∈S t∧y.o.id≠x.o.id):=by
 have hp:=qL0 hi;rw [hx] at hp;have hall:(S 0++S 1).Perm (x::(upS S s (dH0 i (S s)) 0++upS S s (dH0 i (S s)) 1)):=(nS0 S hs).trans ((hp.append_right _).trans ((cX1 S _ hs).symm.cons _));have hid:=(hall.map fun x=>x.o.id).nodup_iff.1 h.ids;simp only [List.map_cons,List.nodup_cons,List.mem_map,not_exists,not_and] at hid;intro t ht y
 have hin:y∈upS S s (dH0 i (S s)) t→y.o.id≠x.o.id:=fun hy e=>hid.1 y (by
  match t,ht with
  | 0,_=>exact List.mem_append_left _ hy
  | 1,_=>exact List.mem_append_right _ hy) e
 by_cases e:t=s
 ·subst e;rw [gW0] at hin ⊢;refine ⟨fun hy=>⟨hp.mem_iff.2 (List.mem_cons_of_mem _ hy),hin hy⟩,fun ⟨hy,hne⟩=>?_⟩;rcases List.mem_cons.1 (hp.mem_iff.1 hy) with e | e
  ·exact absurd (by rw [e]) hne
  ·exact e
 ·rw [fT0 _ e] at hin ⊢;exact ⟨fun hy=>⟨hy,hin hy⟩,fun hy=>hy.1⟩
def mO1 (b:BkS) (s i:Nat) (x:Ly) (vf' v':Value):BkS:=
 ⟨b.ab,b.mb,b.n,b.vs,vf',rowV b.v0 v' s 0,rowV b.v1 v' s 1,b.rs.set x.slot (none,x.age+1),b.fr++[x.slot],upS b.S s (dH0 i (b.S s))⟩
theorem oE1 {w w3 w7 w8 w9:World} {bb m s i g cap:Nat} {b:BkS} {x:Ly} {vf':Value} (h:Bk w bb m b) (hm:m+1≤900000) (hs:s<2) (hx:x∈b.S s) (hi:i<(b.S s).length) (hix:lyAt (b.S s) i=x)
  (hO:Out (b.foot bb) w w3) (hz:w.heap.size<w3.heap.size) (hvo:(vAt b.v0 b.v1 s).ownBlock=some g) (hT:Out (fun j=>j=bb∨(vAt b.v0 b.v1 s).ownBlock=some j) w3 w7)
  (hG:BookG w7 bb b.ab b.mb b.n b.vs b.vf (rowV b.v0 (.slice (some ⟨g,0,none⟩) (dH0 i (b.S s)).length cap) s 0) (rowV b.v1 (.slice (some ⟨g,0,none⟩) (dH0 i (b.S s)).length cap) s 1) b.rs b.fr (upS b.S s (dH0 i (b.S s))) (upS b.S s (dH0 i (b.S s))))
  (ha:ArOr w8 b.ab 100 b.vs vf' (b.rs.set x.slot (none,x.age+1)) (b.fr++[x.slot])) (ho8:Out (aoB b.ab b.vs b.vf) w7 w8) (hw8:Went w7 (aoB b.ab b.vs b.vf) (aoB b.ab b.vs vf')) (h9:Out (fun j=>j=w.heap.size) w8 w9):
  Goes w w9 bb (m+1) b (mO1 b s i x vf' (.slice (some ⟨g,0,none⟩) (dH0 i (b.S s)).length cap)):=by
 have hp:=qL0 hi;rw [hix] at hp;have hz7:w.heap.size<w7.heap.size:=Nat.lt_of_lt_of_le hz hT.size
 have hw:=tJ0 (w:=w) (v0:=b.v0) (v1:=b.v1) (v':=.slice (some ⟨g,0,none⟩) (dH0 i (b.S s)).length cap) hs (fun j hj=>by
   have e:g=j:=by simpa [Value.ownBlock] using hj
   subst e;exact Or.inl hvo)
 have hold:∀j,(rowV b.v0 (.slice (some ⟨g,0,none⟩) (dH0 i (b.S s)).length cap) s 0).ownBlock=some j∨(rowV b.v1 (.slice (some ⟨g,0,none⟩) (dH0 i (b.S s)).length cap) s 1).ownBlock=some j→j<w3.heap.size∧(b.v0.ownBlock=some j∨b.v1.ownBlock=some j):=fun j hj=>by
  have h0:b.v0.ownBlock=some j∨b.v1.ownBlock=some j:=by
   match s,hs with
   | 0,_=>
    rcases hj with hj | hj
    ·have e:g=j:=by simpa [rowV,Value.ownBlock] using hj
     exact Or.inl (e ▸ hvo)
    ·exact Or.inr hj
   | 1,_=>
    rcases hj with hj | hj
    ·exact Or.inl hj
    ·have e:g=j:=by simpa [rowV,Value.ownBlock] using hj
     exact Or.inr (e ▸ hvo)
  exact ⟨Nat.lt_trans (h.lt (Or.inr (Or.inr (Or.inr h0)))) hz,h0⟩
 have hW:Went w (b.foot bb) ((mO1 b s i x vf' (.slice (some ⟨g,0,none⟩) (dH0 i (b.S s)).length cap)).foot bb):=by
  rintro j (hj | hj | hj | hj)
  ·exact Or.inl (Or.inl hj)
  ·exact (hw8 j hj).imp (fun h=>Or.inr (Or.inl h)) (fun h=>Nat.le_of_lt (Nat.lt_of_lt_of_le hz7 h))
  ·exact Or.inl (Or.inr (Or.inr (Or.inl hj)))
  ·exact Or.inl (Or.inr (Or.inr (Or.inr (hold j hj).2)))
 refine ⟨⟨((hG.newAr ho8 ha).out h9 (fun k hk e=>?_)).done,h.ok.gone hs hx hp,Nat.le_succ_of_le h.small,hm⟩,?_,hW⟩
 ·have e':k=w.heap.size:=e;have nl:∀j,b.foot bb j→j≠w.heap.size:=fun j hj e=>by have:=h.lt hj;omega
  rcases hk with hk | hk | hk | hk
  ·exact nl k (Or.inl hk) e'
  ·rcases hw8 k hk with h1 | h1
   ·exact nl k (Or.inr (Or.inl h1)) e'
   ·omega
  ·exact nl k (Or.inr (Or.inr (Or.inl hk))) e'
  ·exact nl k (Or.inr (Or.inr (Or.inr (hold k hk).2))) e'
 ·have o1:=hO.trans (hT.mono (S':=b.foot bb) (fun j hj=>by
   rcases hj with hj | hj
   ·exact Or.inl hj
   ·exact Or.inr (Or.inr (Or.inr (wH0 hs hj))))) (Went.refl _ _)
  have o2:=o1.trans (ho8.mono (S':=b.foot bb) (fun j hj=>Or.inr (Or.inl hj))) (Went.refl _ _);exact o2.trans h9 (fun j hj=>Or.inr (by rw [show j=w.heap.size from hj];exact lR7))
set_option maxRecDepth 100000 in
set_option maxHeartbeats 4000000 in
theorem lT0 (bb m s:Nat) (b:BkS) (x:Ly) (w:World) (h:Bk w bb m b) (hm:m+1≤900000) (hs:s<2) (hx:x∈b.S s):
  Calls Tryz.prog 54 #[.pointer (some ⟨bb,0,none⟩),.int .i64 x.o.id] w fun e W'=>e=.returned (.tuple #[x.o.agg,.nilIface])∧∃b':BkS,(∃i,i<(b.S s).length∧lyAt (b.S s) i=x∧b'.S=upS b.S s (dH0 i (b.S s)))∧Goes w W' bb (m+1) b b':=by
 have H:Hid (Bk w bb m b):=h;clear h;unfold Ord.agg;go_enter Tryz.func54,Tryz.ntmps54;go_wp2_with fail;refine (nE0 bb m s b x _ (H.out.below (bel1 _ _) lR7) hs hx).mono ?_;rintro e w1 ⟨rfl,hb1⟩;unfold Ord.agg plV;have hr:=aC0 (heap_alloc_new w _) hb1 lR7;have HB1:Hid (Below w.heap.size w w1):=aD0 (bel1 _ _) hb1;clear hb1;go_upto_region 4 with fail;have hb2:=bel2 w1 (.cells #[.int .i64 x.o.id,.int .i64 x.o.side,.int .i64 x.o.kind,.int .i64 x.o.price,.int .i64 x.o.qty] 41) (.cells #[.int .i64 x.slot,.int .i64 x.age,.int .i64 s] 171);have hr:=aC0 hr hb2 lR7;have hp:=dX0 w1 (.cells #[.int .i64 x.o.id,.int .i64 x.o.side,.int .i64 x.o.kind,.int .i64 x.o.price,.int .i64 x.o.qty] 41) (.cells #[.int .i64 x.slot,.int .i64 x.age,.int .i64 s] 171);have hpl:w.heap.size<w1.heap.size+1:=Nat.lt_succ_of_le HB1.out.size;generalize (w1.alloc (.cells #[.int .i64 x.o.id,.int .i64 x.o.side,.int .i64 x.o.kind,.int .i64 x.o.price,.int .i64 x.o.qty] 41)).alloc (.cells #[.int .i64 x.slot,.int .i64 x.age,.int .i64 s] 171)=w2 at hb2 hr hp ⊢;generalize w1.heap.size+1=pb at hp hpl ⊢;have HB2:Hid (Below w.heap.size w w2):=aD0 HB1.out hb2;clear hb2 HB1;have HBK:Hid (Bk w2 bb m b):=H.out.below HB2.out lR7;obtain ⟨i,hil,hix⟩:=wL0 hx;have m1:w2.cell? ⟨bb,1,none⟩=some (.map (some b.mb)):=aA0 (j:=1) HBK.out.at_.box rfl;obtain ⟨w3,hrun,hm3,ho3⟩:=HBK.out.at_.map.del (H.out.ok.ok s hs x hx).2.1 (iZ1 H.out.ok hs hil hix) 0;have hG3:=HBK.out.at_.mid.newMap ho3 hm3;have hr:=aE0 hr ho3 (HBK.out.at_.map.ne hr);have hp:=aE0 hp ho3 (HBK.out.at_.map.ne hp);have HO3:Hid (Out (b.foot bb) w w3):=(Out.of_below HB2.out lR7).trans (ho3.mono (S':=b.foot bb) (fun j hj=>Or.inr (Or.inr (Or.inl hj)))) (Went.refl _ _);go_wp2_with fail;clear hrun m1 hm3 ho3;obtain ⟨hrow,_,_⟩:=hG3.rowIs hs;obtain ⟨g,cap,hv⟩:=iX1 hrow (by omega);have HG3:Hid (BookG w3 bb b.ab b.mb b.n b.vs b.vf b.v0 b.v1 b.rs b.fr (upS b.S s (dH0 i (b.S s))) b.S):=hG3;have HR3:Hid (w3.heap[w.heap.size]? = some (.cells #[.int .i64 0,.int .i64 0,.int .i64 0,.int .i64 0,.int .i64 0] 41 (0,0))):=hr;have HP3:Hid (w3.heap[pb]? = some (.cells #[.int .i64 x.slot,.int .i64 x.age,.int .i64 s] 171 (0,0))):=hp;have HROW:Hid (w3.ownsRow 0 169 2 (.slice (some ⟨g,0,none⟩) (b.S s).length cap) (b.S s).length (hV (b.S s))):=by rw [hv] at hrow;exact hrow
 have HV:Hid (vAt b.v0 b.v1 s=.slice (some ⟨g,0,none⟩) (b.S s).length cap):=hv
 have hgw:g<w.heap.size:=by
  have h1:(vAt b.v0 b.v1 s).ownBlock=some g:=by rw [hv];rfl
  exact ((H.out.at_.mid.rowIs hs).1.lt g h1).2
 have ng:∀{j:Nat} {vs:Array Value} {t:TypeId},w3.heap[j]? = some (.cells vs t (0,0))→t≠169→¬(j=g):=fun {j vs t} hj ht e=>aG0 HROW.out hj ht (by rw [e];rfl)
 have HS5:Hid (∀w',Out (fun j=>j=g) w3 w'→(w'.cell? ⟨pb,1,none⟩=some (.int .i64 x.age)∧w'.cell? ⟨pb,2,none⟩=some (.int .i64 s)∧w'.cell? ⟨bb,2+s,none⟩=some (.slice (some ⟨g,0,none⟩) (b.S s).length cap)∧Out (fun j=>j=g) w3 w')):=fun w' ho=>by
  have g1:=aE0 HP3.out ho (ng HP3.out (by decide));have g2:=aE0 HG3.out.box ho (ng HG3.out.box (by decide));exact ⟨aA0 (j:=1) g1 rfl,aA0 (j:=2) g1 rfl,by rw [←HV.out];exact (kL0 g2 hs).1,ho⟩
 clear hG3 hr hp hrow hv
 have hln:(b.S s).length≤1000:=by
  have h1:=(nT0 b.S [] hs).2;have h2:=H.out.ok.most;omega
 have HON:Hid (isH (lyAt (b.S s) i) x.slot x.age=true∧∀j,j<(b.S s).length→j≠i→isH (lyAt (b.S s) j) x.slot x.age=false):=iY1 H.out.ok hs hil hix;have q1:(0:Int)≤(s:Int):=by omega
 have q2:(s:Int)<2:=by omega
 refine eC0 (fun w'=>w'.cell? ⟨pb,1,none⟩=some (.int .i64 x.age)∧w'.cell? ⟨pb,2,none⟩=some (.int .i64 s)∧w'.cell? ⟨bb,2+s,none⟩=some (.slice (some ⟨g,0,none⟩) (b.S s).length cap)∧Out (fun j=>j=g) w3 w') (fun i=>i == 15) (by kernel_rfl) (HS5.out _ (aU0 (Out.refl _ _))) (fun hHeld=>?_);refine tkL7 (i:=0) (v:=?_) rfl (by kernel_rfl) (fun _ _ _ h=>h) (by rfl) ?_ (by assumption) ?_;rotate_left
 ·intro w hSw;try dsimp only at hSw
  go_simp;try rfl
 refine tkL7 (i:=1) (v:=?_) rfl (by kernel_rfl) (fun _ _ _ h=>h) (by rfl) ?_ (by assumption) ?_;rotate_left
 ·intro w hSw;try dsimp only at hSw
  go_simp;try rfl
 refine tkL7 (i:=2) (v:=?_) rfl (by kernel_rfl) (fun _ _ _ h=>h) (by rfl) ?_ (by assumption) ?_;rotate_left
 ·intro w hSw;try dsimp only at hSw
  go_simp;try rfl
 refine tkL7 (i:=3) (v:=?_) rfl (by kernel_rfl) (fun _ _ _ h=>h) (by rfl) ?_ (by assumption) ?_;rotate_left
 ·intro w hSw;try dsimp only at hSw
  go_simp;try rfl
 refine tkL7 (i:=4) (v:=?_) rfl (by kernel_rfl) (fun _ _ _ h=>h) (by rfl) ?_ (by assumption) ?_;rotate_left
 ·intro w hSw;try dsimp only at hSw
  go_simp;try rfl
 refine tkL7 (i:=5) (v:=?_) rfl (by kernel_rfl) (fun _ _ _ h=>h) (by rfl) ?_ (by assumption) ?_;rotate_left
 ·intro w hSw;try dsimp only at hSw
  go_simp;try rfl
 refine tkL7 (i:=6) (v:=?_) rfl (by kernel_rfl) (fun _ _ _ h=>h) (by rfl) ?_ (by assumption) ?_;rotate_left
 ·intro w hSw;try dsimp only at hSw
  go_simp;try rfl
 refine tkL7 (i:=7) (v:=?_) rfl (by kernel_rfl) (fun _ _ _ h=>h) (by rfl) ?_ (by assumption) ?_;rotate_left
 ·intro w hSw;try dsimp only at hSw
  go_simp;try rfl
 refine tkL7 (i:=8) (v:=?_) rfl (by kernel_rfl) (fun _ _ _ h=>h) (by rfl) ?_ (by assumption) ?_;rotate_left
 ·intro w hSw;try dsimp only at hSw
  go_simp;try rfl
 refine tkL7 (i:=9) (v:=?_) rfl (by kernel_rfl) (fun _ _ _ h=>h) (by rfl) ?_ (by assumption) ?_;rotate_left
 ·intro w hSw;try dsimp only at hSw
  go_simp;try rfl
 refine tkL7 (i:=10) (v:=?_) rfl (by kernel_rfl) (fun _ _ _ h=>h) (by rfl) ?_ (by assumption) ?_;rotate_left
 ·intro w hSw;try dsimp only at hSw
  go_simp;try rfl
 refine tkL7 (i:=12) (v:=?_) rfl (by kernel_rfl) (fun _ _ _ h=>h) (by rfl) ?_ (by assumption) ?_;rotate_left
 ·intro w hSw;try dsimp only at hSw
  go_simp;try rfl
 refine tkL7 (i:=13) (v:=?_) rfl (by kernel_rfl) (fun _ _ _ h=>h) (by rfl) ?_ (by assumption) ?_;rotate_left
 ·intro w hSw;try dsimp only at hSw
  go_simp;try rfl
 refine aL0 (rs:=[11]) (by kernel_rfl) (by simp) ?_;refine aF0.cons rfl (fun K hK=>?_) aF0.nil;go_simp;refine (oC1 pb x.slot i g cap x.age s (b.S s) _ (aO0 HROW.out (Below.refl _ _).drew lR7) hln hil HON.out.1 HON.out.2 HP3.out).mono ?_;rintro e w6 ⟨rfl,hr6,ho6⟩;dsimp only;have ho6:Out (fun j=>j=g) w3 w6:=bE0 (aU0 (Out.refl _ _)) ho6;have b6:=kL0 (aE0 HG3.out.box ho6 (ng HG3.out.box (by decide))) hs;have e6:=b6.1;have f6:=b6.2;refine hK.out _ _ (fun _=>HS5.out _ ho6) (fun hHeld=>?_);replace hHeld:=hHeld rfl;clear hK K b6;refine aL0 (rs:=[14]) (by kernel_rfl) (by simp) ?_;refine aF0.cons rfl (fun K hK=>?_) aF0.nil;go_simp;refine hK.out _ _ (fun _=>HS5.out _ ho6) (fun hHeld=>?_);replace hHeld:=hHeld rfl;clear hK K;refine aL0 (rs:=[15]) (by kernel_rfl) (by simp) ?_;refine aF0.cons rfl (fun K hK=>?_) aF0.nil;go_simp;refine hK.out _ _ (fun h=>by cases h) (fun _=>?_);refine fF0 (by kernel_rfl) ?_ _;go_wp2_with fail;have hvo:(vAt b.v0 b.v1 s).ownBlock=some g:=by rw [HV.out];rfl
 obtain ⟨hG,hT⟩:=HG3.out.newRow hs hr6 (ho6.mono (fun j hj=>by rw [show j=g from hj];exact hvo)) (Or.inl hvo);generalize w6.setCell ⟨bb,2+s,none⟩ (.slice (some ⟨g,0,none⟩) (dH0 i (b.S s)).length cap)=w7 at hG hT ⊢;have hz:w.heap.size<w3.heap.size:=lt_of_block HR3.out
 have n7:∀{j:Nat} {vs:Array Value} {t:TypeId},w3.heap[j]? = some (.cells vs t (0,0))→t≠157→t≠169→¬(j=bb∨(vAt b.v0 b.v1 s).ownBlock=some j):=fun {j vs t} hj ht ht2 e=>by
  rcases e with e | e
  ·exact cV0 hj HG3.out.box ht e
  ·rw [hvo] at e;exact ng hj ht2 (by injection e with e;exact e.symm)
 have hr7:=aE0 HR3.out hT (n7 HR3.out (by decide) (by decide));have hp7:=aE0 HP3.out hT (n7 HP3.out (by decide) (by decide));have HG7:Hid (BookG w7 bb b.ab b.mb b.n b.vs b.vf (rowV b.v0 (.slice (some ⟨g,0,none⟩) (dH0 i (b.S s)).length cap) s 0) (rowV b.v1 (.slice (some ⟨g,0,none⟩) (dH0 i (b.S s)).length cap) s 1) b.rs b.fr (upS b.S s (dH0 i (b.S s))) (upS b.S s (dH0 i (b.S s)))):=hG;have HT:Hid (Out (fun j=>j=bb∨(vAt b.v0 b.v1 s).ownBlock=some j) w3 w7):=hT;have HVO:Hid ((vAt b.v0 b.v1 s).ownBlock=some g):=hvo;have HR7:Hid (w7.heap[w.heap.size]? = some (.cells #[.int .i64 0,.int .i64 0,.int .i64 0,.int .i64 0,.int .i64 0] 41 (0,0))):=hr7;have HP7:Hid (w7.heap[pb]? = some (.cells #[.int .i64 x.slot,.int .i64 x.age,.int .i64 s] 171 (0,0))):=hp7;have na:∀j,aoB b.ab b.vs b.vf j→j<w.heap.size:=fun j hj=>H.out.lt (Or.inr (Or.inl hj))
 have HS6:Hid (∀w',Out (fun j=>aoB b.ab b.vs b.vf j∨j=w.heap.size) w7 w'→(w'.cell? ⟨bb,0,none⟩=some (.pointer (some ⟨b.ab,0,none⟩))∧w'.cell? ⟨pb,0,none⟩=some (.int .i64 x.slot)∧w'.cell? ⟨pb,1,none⟩=some (.int .i64 x.age)∧Out (fun j=>aoB b.ab b.vs b.vf j∨j=w.heap.size) w7 w')):=fun w' ho=>by
  have lb:bb<w.heap.size:=H.out.lt (Or.inl rfl)
  have g1:=aE0 HG7.out.box ho (fun e=>by
   rcases e with e | e
   ·exact H.out.at_.notBox e
   ·omega)
  have g2:=aE0 HP7.out ho (fun e=>by
   rcases e with e | e
   ·have:=na _ e;omega
   ·omega)
  exact ⟨aA0 (j:=0) g1 rfl,aA0 (j:=0) g2 rfl,aA0 (j:=1) g2 rfl,ho⟩
 have HAT:Hid (soAt b.rs x.slot=(some x.o,x.age)):=H.out.ok.there s hs x hx;have hcl:b.rs.length≤1000000:=by have:=H.out.ok.so.small;have:=H.out.steps;omega
 have hfl:b.fr.length≤b.rs.length:=by have:=H.out.ok.so.cnt;omega
 have HAG:Hid (0≤x.age∧x.age≤1000000):=by
  have h1:=H.out.ok.so.ages x.slot;rw [HAT.out] at h1;have h2:=H.out.steps;have h3:0≤x.age∧x.age≤(m:Int):=h1;show _∧_;omega
 have hs0:=HS6.out w7 (Out.refl _ _);clear hr7 hp7 hG hT hvo hr6 ho6 hHeld e6 f6 q1 q2
 go_region_held3 (fun w'=>w'.cell? ⟨bb,0,none⟩=some (.pointer (some ⟨b.ab,0,none⟩))∧w'.cell? ⟨pb,0,none⟩=some (.int .i64 x.slot)∧w'.cell? ⟨pb,1,none⟩=some (.int .i64 x.age)∧Out (fun j=>aoB b.ab b.vs b.vf j∨j=w.heap.size) w7 w')
  ((refine HS6.out _ ?_;(repeat' first | assumption | exact aU0 (Out.refl _ _) | refine cK0 ?_ (Or.inr rfl))))
  (first | (go_at_call 102;refine (qU1 b.ab 100 b.vs b.vf b.rs b.fr x.slot x.o x.age _ (HG7.out.ar.below (Below.refl _ _).drew lR7) HAT.out hcl hfl HAG.out).mono ?_;rintro e w8 ⟨rfl,vf',ha8,ho8,hw8⟩;have ho8:Out (aoB b.ab b.vs b.vf) w7 w8:=bE0 (aU0 (Out.refl _ _)) ho8;have hO8:Out (fun j=>aoB b.ab b.vs b.vf j∨j=w.heap.size) w7 w8:=ho8.mono (fun _ h=>Or.inl h);have hx8:=aE0 HR7.out ho8 (fun e=>Nat.lt_irrefl _ (na _ e));have y0:=aB0 (j:=0) hx8;have y1:=aB0 (j:=1) hx8;have y2:=aB0 (j:=2) hx8;have y3:=aB0 (j:=3) hx8;have y4:=aB0 (j:=4) hx8;have x0:=aA0 (j:=0) hx8 rfl;have x1:=aA0 (j:=1) hx8 rfl;have x2:=aA0 (j:=2) hx8 rfl;have x3:=aA0 (j:=3) hx8 rfl;have x4:=aA0 (j:=4) hx8 rfl;unfold Ord.agg;clear hx8))
 go_wp2;refine bodyPost_ret (by simp [results,Tryz.results54,go_sem,x0,x1,x2,x3,x4];try rfl) rfl ?_;refine ⟨rfl,_,⟨i,hil,hix,rfl⟩,oE1 H.out hm hs hx hil hix HO3.out hz HVO.out HT.out HG7.out ha8 ho8 hw8 ?_⟩;exact cK0 (cK0 (cK0 (cK0 (cK0 (Out.refl _ _) rfl) rfl) rfl) rfl) rfl
end Go.Proofs.YtjdkagafdnchhaaGreatDoor
namespace Go.Proofs.YtjdkagafdnchhaaGreatDoor
open Go.RowKit Go.Shelf
attribute [local go_sem] Oper.semAt_some
def wM0 (l:List Ord):Value:=match l with
 | []=>.tuple #[Ord.none_.agg,.iface 32 (.int .i64 8)]
 | o::_=>.tuple #[o.agg,.nilIface]
theorem bF1 {w:World} {k:Nat} {o:Obj} (h:w.heap[k]? = some o):k<w.heap.size:=(Array.getElem?_eq_some_iff.1 h).1
theorem yW0 {w W:World} {D:Nat} {x:Ord} {e:Value} {tm:Array Value} (h2:dD0 W w.heap.size x) (h3:W.heap[w.heap.size+1]? = some (.cells #[e] 28 (0,0))) (hK:W.heap[D]? = some (.deferred (some []))) (hBW:Below w.heap.size w W) (hD:w.heap.size+2≤D)
  (t4:tm.getD 4 undef=.pointer (some ⟨w.heap.size,0,none⟩):=by rfl) (t5:tm.getD 5 undef=.pointer (some ⟨w.heap.size+1,0,none⟩):=by rfl):
  bodyPostM Fence.wide 4 Tryz.prog Tryz.f195 (fun e' W'=>e'=.returned (.tuple #[x.agg,e])∧Below w.heap.size w W') Exit.ret { tmps:=tm,defers:=[{ target:=Target.collected D,args:=#[] }] } W:=by
 have hb:=belowK_b (n₀:=w.heap.size) (w:=w) lR7 W D _ (.deferred none) (by omega) hK rfl rfl;have hb2:=belowK_b (n₀:=w.heap.size+2) (w:=(w.alloc (.deferred none)).alloc (.deferred none)) (by simp) W D _ (.deferred none) (by simp;omega) hK rfl rfl;have q2:dD0 (W.putObj D (.deferred none)) w.heap.size x:=(hb2.block w.heap.size (by omega)).trans h2;have q3:(W.putObj D (.deferred none)).heap[w.heap.size+1]? = some (.cells #[e] 28 (0,0)):=(hb2.block (w.heap.size+1) (by omega)).trans h3;have t4':tm[4]?.getD undef=.pointer (some ⟨w.heap.size,0,none⟩):=by simpa using t4
 have t5':tm[5]?.getD undef=.pointer (some ⟨w.heap.size+1,0,none⟩):=by simpa using t5
 have a0:=aA0 (j:=0) q2 rfl;have a1:=aA0 (j:=1) q2 rfl;have a2:=aA0 (j:=2) q2 rfl;have a3:=aA0 (j:=3) q2 rfl;have a4:=aA0 (j:=4) q2 rfl;have b0:=aA0 (j:=0) q3 rfl;refine ⟨by simp,.inl ⟨_,_,rfl,run_takeDeferred hK,?_⟩⟩;refine ⟨.tuple #[x.agg,e],?_,rfl,hBW.trans hb⟩;unfold Ord.agg;simp [results,Tryz.results195,go_sem,t4',t5',a0,a1,a2,a3,a4,b0];try rfl
set_option maxRecDepth 100000 in
set_option maxHeartbeats 2000000 in
theorem jA1 (bb ab mb nn s:Nat) (vs vf v0 v1:Value) (rs:List Sot) (fr:List Nat) (S:Nat→List Ly) (hs:s<2) (hlen:(S s).length≤1000)
  (hth:∀x∈S s,soAt rs x.slot=(some x.o,x.age)) (w:World) (hB:BookAt w bb ab mb nn vs vf v0 v1 rs fr S) (side:Int) (hsd:side=(s:Int)+1):
  Calls Tryz.prog 195 #[.pointer (some ⟨bb,0,none⟩),.int .i64 side] w fun e W'=>e=.returned (wM0 ((S s).map Ly.o))∧Below w.heap.size w W':=by
 have hss:(side == 1 || side == 2)=true:=by
  subst hsd
  match s,hs with
  | 0,_=>rfl
  | 1,_=>rfl
 have HS:Hid ((side == 1 || side == 2)=true):=hss;have hsub:IntKind.i64.wrap (side - 1)=(s:Int):=by rw [hsd,show (s:Int)+1 - 1=s by omega];exact IntWalk.i64_in _ (by omega)
 clear hss hsd;refine (callsIn_wide (n:=4)).1 ?_;refine callsIn_of_wp_marks Tryz.func195 rfl trivial ?_ rfl;simp only [Tryz.ntmps195,List.size_toArray,List.length_cons,List.length_nil,Nat.reduceAdd,Nat.reduceSub,Array.replicate_succ,Array.replicate_zero,List.push_toArray,List.append_toArray,List.nil_append,List.cons_append]
 gi_wp2_with fail
 refine ⟨trivial,(callsIn_wide.2 (lQ0 side _)).mono ?_⟩;rintro e w' ⟨rfl,hw⟩;replace hw:=hw.symm;subst hw;rw [HS.out]
 gi_wp2_with fail
 refine ⟨trivial,(callsIn_wide.2 (nX0 bb _ _)).mono ?_⟩;rintro e w' ⟨rfl,rfl⟩
 gi_wp2_with fail
 have hB1:=bel2 w (.cells #[.int .i64 0,.int .i64 0,.int .i64 0,.int .i64 0,.int .i64 0] 41) (.cells #[.nilIface] 28);have bO:=eV0 w (.cells #[.int .i64 0,.int .i64 0,.int .i64 0,.int .i64 0,.int .i64 0] 41) (.cells #[.nilIface] 28);have bN:=dX0 w (.cells #[.int .i64 0,.int .i64 0,.int .i64 0,.int .i64 0,.int .i64 0] 41) (.cells #[.nilIface] 28);obtain ⟨w2,hw2⟩:∃w2,(w.alloc (.cells #[.int .i64 0,.int .i64 0,.int .i64 0,.int .i64 0,.int .i64 0] 41)).alloc (.cells #[.nilIface] 28)=w2:=⟨_,rfl⟩;have hz2:w2.heap.size=w.heap.size+1+1:=by rw [←hw2];simp
 rw [hw2] at hB1 bO bN ⊢;clear hw2;have hB2:=bel2 w2 (.cells #[.pointer (some ⟨bb,0,none⟩)] 94) (.cells #[.int .i64 s] 3);have bB:=eV0 w2 (.cells #[.pointer (some ⟨bb,0,none⟩)] 94) (.cells #[.int .i64 s] 3);have bS:=dX0 w2 (.cells #[.pointer (some ⟨bb,0,none⟩)] 94) (.cells #[.int .i64 s] 3);obtain ⟨W0,hW0⟩:∃W0,(w2.alloc (.cells #[.pointer (some ⟨bb,0,none⟩)] 94)).alloc (.cells #[.int .i64 s] 3)=W0:=⟨_,rfl⟩;have hsz:W0.heap.size=w.heap.size+4:=by rw [←hW0];simp;omega
 rw [hW0] at hB2 bB bS ⊢;clear hW0;have bO:=aC0 bO hB2 lR7;have bN:=aC0 bN hB2 lR7;have hB0:Below w.heap.size w W0:=aD0 hB1 hB2;rw [hz2] at bB bS;have HK:∀k,pbB bb ab mb vs vf v0 v1 k→k<w.heap.size:=fun k hk=>hB.lt hk
 clear hB1 hB2
 refine wpIn_rangeFunc_ownH (F:=Fence.wide) (n:=4) rfl (by decide) (gf:=162) (lb:=#[.pointer (some ⟨w.heap.size+1+1,0,none⟩),.pointer (some ⟨w.heap.size+1+1+1,0,none⟩)]) rfl trivial (enters_of Tryz.func162 (by kernel_rfl) rfl)
  (nY1 3 (by decide) (w.heap.size+1+1) (w.heap.size+1+1+1) w.heap.size bb ab mb nn s vs vf v0 v1 rs fr S hs hlen hth HK W0 (by omega) (hB.below hB0 lR7) bB bS) nW1 (nX1 (by omega)) (Below.refl _ _) (fun _=>rfl)
  (fun pre W=>(pre=[]∧dD0 W w.heap.size Ord.none_∧W.heap[w.heap.size+1]? = some (.cells #[.nilIface] 28 (0,0)))∧Below w.heap.size w W)
  (fun c pre W=>(c=.ret∧∃x,pre=[x]∧dD0 W w.heap.size x∧W.heap[w.heap.size+1]? = some (.cells #[.nilIface] 28 (0,0)))∧Below w.heap.size w W)
  (OwnFrom.and (Own.from (fun s A B row hs hg hr=>⟨hs.1,fO0 hs.2.1 hg hr,fO0 hs.2.2 hg hr⟩) _) (ownFrom_below lR7 (by omega)))
  (fun c=>OwnFrom.and (Own.from (fun s A B row hs hg hr=>by obtain ⟨g0,x,g1,g2,g3⟩:=hs;exact ⟨g0,x,g1,fO0 g2 hg hr,fO0 g3 hg hr⟩) _) (ownFrom_below lR7 (by omega)))
  ⟨⟨rfl,bO,bN⟩,hB0⟩
  (fun x a' W=>∃Bx,dD0 W Bx x∧a'={ tmps:=#[.pointer (some ⟨bb,0,none⟩),.int .i64 side,undef,undef,.pointer (some ⟨w.heap.size,0,none⟩),.pointer (some ⟨w.heap.size+1,0,none⟩),.pointer (some ⟨Bx,0,none⟩),.int .i64 side,.bool true,.bool false,undef,undef,.pointer (some ⟨bb,0,none⟩),.int .i64 side,.int .i64 s,.func (.func 162) #[] #[.pointer (some ⟨w.heap.size+1+1,0,none⟩),.pointer (some ⟨w.heap.size+1+1+1,0,none⟩)],Ord.agg x,undef,undef,undef],defers:=[] })
  (fun x a' _ X Y row hs hg hr=>by obtain ⟨Bx,h2,h3⟩:=hs;exact ⟨Bx,fO0 h2 hg (fun r e=>(hr r e).2),h3⟩)
  ?assign ?body ?done ?stop
 case assign=>
  rintro l pre x W K ⟨⟨h1,h2,h3⟩,hBW⟩ hK;have lS:=hBW.size;unfold Ord.agg at hK ⊢
  gi_wp2
  refine hK _ _ ((KeepsOthers.alloc _ _).from _) (KpL.of_below (bel1 _ _) lS) ⟨⟨h1,aC0 h2 (bel1 _ _) lR7,aC0 h3 (bel1 _ _) lR7⟩,hBW.alloc hBW.size _⟩ ⟨W.heap.size,heap_alloc_new _ _,rfl⟩
 case body=>
  rintro l pre x a' W hl ⟨r,hr⟩ ⟨⟨rfl,h2,h3⟩,hBW⟩ ⟨Bx,bX,rfl⟩ hlt;have c0:=aA0 (j:=0) bX rfl;have c1:=aA0 (j:=1) bX rfl;have c2:=aA0 (j:=2) bX rfl;have c3:=aA0 (j:=3) bX rfl;have c4:=aA0 (j:=4) bX rfl;have d0:=aB0 (j:=0) h2;have d1:=aB0 (j:=1) h2;have d2:=aB0 (j:=2) h2;have d3:=aB0 (j:=3) h2;have d4:=aB0 (j:=4) h2;have e0:=aB0 (j:=0) h3;have E0:=aA0 (j:=0) h3 rfl;have D0:=aA0 (j:=0) h2 rfl;have D1:=aA0 (j:=1) h2 rfl;have D2:=aA0 (j:=2) h2 rfl;have D3:=aA0 (j:=3) h2 rfl;have D4:=aA0 (j:=4) h2 rfl;have H2:Hid _:=h2;have H3:Hid _:=h3;have HBW:Hid (Below w.heap.size w W):=hBW;clear h2 h3 hBW bX hr;unfold Ord.agg
  gi_wp2_with fail
  have o5:Out (fun j=>j=w.heap.size) W _:=cK0 (p:=⟨w.heap.size,4,none⟩) (u:=.int .i64 x.qty) (cK0 (p:=⟨w.heap.size,3,none⟩) (u:=.int .i64 x.price) (cK0 (p:=⟨w.heap.size,2,none⟩) (u:=.int .i64 x.kind) (cK0 (p:=⟨w.heap.size,1,none⟩) (u:=.int .i64 x.side) (cK0 (p:=⟨w.heap.size,0,none⟩) (u:=.int .i64 x.id) (Out.refl _ _) rfl) rfl) rfl) rfl) rfl;have g2:=aK0 (j:=4) (.int .i64 x.qty) (aK0 (j:=3) (.int .i64 x.price) (aK0 (j:=2) (.int .i64 x.kind) (aK0 (j:=1) (.int .i64 x.side) (aK0 (j:=0) (.int .i64 x.id) H2.out))));have g3:=aK0 (j:=0) .nilIface (aE0 H3.out o5 (by simp));refine ⟨((((((KeepsOthers.setCell _ _ _).trans (KeepsOthers.setCell _ _ _)).trans (KeepsOthers.setCell _ _ _)).trans (KeepsOthers.setCell _ _ _)).trans (KeepsOthers.setCell _ _ _)).trans (KeepsOthers.setCell _ _ _)).from _,⟨rfl,x,rfl,aE0 g2 (aQ0 _ ⟨w.heap.size+1,0,none⟩ _) (by simp),g3⟩,?_⟩;exact HBW.out.trans (((((((Below.refl _ W).setCell (p:=⟨w.heap.size,0,none⟩) (by simp) _).setCell (p:=⟨w.heap.size,1,none⟩) (by simp) _).setCell (p:=⟨w.heap.size,2,none⟩) (by simp) _).setCell (p:=⟨w.heap.size,3,none⟩) (by simp) _).setCell (p:=⟨w.heap.size,4,none⟩) (by simp) _).setCell (p:=⟨w.heap.size+1,0,none⟩) (by simp) _)
 case done=>
  rintro D ys W hD rfl ⟨⟨h1,h2,h3⟩,hBW⟩ hK;have d0:=aB0 (j:=0) h2;have d1:=aB0 (j:=1) h2;have d2:=aB0 (j:=2) h2;have d3:=aB0 (j:=3) h2;have d4:=aB0 (j:=4) h2;have e0:=aB0 (j:=0) h3;have E0:=aA0 (j:=0) h3 rfl;have D0:=aA0 (j:=0) h2 rfl;have D1:=aA0 (j:=1) h2 rfl;have D2:=aA0 (j:=2) h2 rfl;have D3:=aA0 (j:=3) h2 rfl;have D4:=aA0 (j:=4) h2 rfl
  gi_wp2
  have o5:Out (fun j=>j=w.heap.size) W _:=cK0 (p:=⟨w.heap.size,4,none⟩) (u:=.int .i64 0) (cK0 (p:=⟨w.heap.size,3,none⟩) (u:=.int .i64 0) (cK0 (p:=⟨w.heap.size,2,none⟩) (u:=.int .i64 0) (cK0 (p:=⟨w.heap.size,1,none⟩) (u:=.int .i64 0) (cK0 (p:=⟨w.heap.size,0,none⟩) (u:=.int .i64 0) (Out.refl _ _) rfl) rfl) rfl) rfl) rfl;have g2:=aK0 (j:=4) (.int .i64 0) (aK0 (j:=3) (.int .i64 0) (aK0 (j:=2) (.int .i64 0) (aK0 (j:=1) (.int .i64 0) (aK0 (j:=0) (.int .i64 0) h2))));have g2:=aE0 g2 (aQ0 _ ⟨w.heap.size+1,0,none⟩ (.iface 32 (.int .i64 8))) (by simp);have g3:=aK0 (j:=0) (.iface 32 (.int .i64 8)) (aE0 h3 o5 (by simp));have hbw:=hBW.trans (((((((Below.refl _ W).setCell (p:=⟨w.heap.size,0,none⟩) (by simp) (.int .i64 0)).setCell (p:=⟨w.heap.size,1,none⟩) (by simp) (.int .i64 0)).setCell (p:=⟨w.heap.size,2,none⟩) (by simp) (.int .i64 0)).setCell (p:=⟨w.heap.size,3,none⟩) (by simp) (.int .i64 0)).setCell (p:=⟨w.heap.size,4,none⟩) (by simp) (.int .i64 0)).setCell (p:=⟨w.heap.size+1,0,none⟩) (by simp) (.iface 32 (.int .i64 8)));have lD:D<W.heap.size:=bF1 hK;have hK6:=((aQ0 _ ⟨w.heap.size+1,0,none⟩ (.iface 32 (.int .i64 8))).block D (Nat.lt_of_lt_of_le lD o5.size) (by show ¬(D=w.heap.size+1);omega)).trans ((o5.block D lD (by show ¬(D=w.heap.size);omega)).trans hK);clear o5;have hbe:wM0 ((S s).map Ly.o)=.tuple #[Ord.none_.agg,.iface 32 (.int .i64 8)]:=by rw [h1];rfl
  rw [hbe];exact yW0 g2 g3 hK6 hbw (by omega)
 case stop=>
  rintro D c pre W hD hpre ⟨⟨rfl,x,rfl,h2,h3⟩,hBW⟩ hK
  have hbe:wM0 ((S s).map Ly.o)=.tuple #[x.agg,.nilIface]:=by
   obtain ⟨r,hr⟩:=hpre;rw [←hr];rfl
  gi_wp2
  rw [hbe];exact yW0 h2 h3 hK hBW (by omega)
theorem mP1 (bb m s:Nat) (b:BkS) (w:World) (h:Bk w bb m b) (hs:s<2) (side:Int) (hsd:side=(s:Int)+1):
  Calls Tryz.prog 195 #[.pointer (some ⟨bb,0,none⟩),.int .i64 side] w fun e W'=>e=.returned (wM0 ((b.S s).map Ly.o))∧Below w.heap.size w W':=
 jA1 bb b.ab b.mb b.n s b.vs b.vf b.v0 b.v1 b.rs b.fr b.S hs (by have h1:=(nT0 b.S [] hs).2;have h2:=h.ok.most;omega) (h.ok.there s hs) w h.at_ side hsd
theorem nF0 (bb m s:Nat) (b:BkS) (w:World) (h:Bk w bb m b) (hs:s<2) (side:Int) (hsd:side=(s:Int)+1):
  Calls Tryz.prog 69 #[.pointer (some ⟨bb,0,none⟩),.int .i64 side] w
   fun e W'=>∃v,e=.returned (.tuple #[v,.nilIface])∧W'.ownsRow w.heap.size 41 5 v (b.S s).length (oV ((b.S s).map Ly.o))∧Below w.heap.size w W':=
 qW1 bb b.ab b.mb b.n s b.vs b.vf b.v0 b.v1 b.rs b.fr b.S hs (by have h1:=(nT0 b.S [] hs).2;have h2:=h.ok.most;omega) (h.ok.there s hs) w h.at_ side hsd
end Go.Proofs.YtjdkagafdnchhaaGreatDoor
namespace Go.Proofs.YtjdkagafdnchhaaGreatDoor
open Go.RowKit
def oC0 (w W:World) (bb:Nat) (b b':BkS):Prop:=Out (b.foot bb) w W∧Went w (b.foot bb) (b'.foot bb)
theorem oC0.refl (w:World) (bb:Nat) (b:BkS):oC0 w w bb b b:=⟨Out.refl _ _,Went.refl _ _⟩
theorem oC0.goes {w W W':World} {bb m:Nat} {b b1 b2:BkS} (h:oC0 w W bb b b1) (hg:Goes W W' bb m b1 b2):oC0 w W' bb b b2:=
 ⟨h.1.trans hg.2.1 h.2,fun k hk=>(hg.2.2 k hk).elim (h.2 k) (fun e=>Or.inr (Nat.le_trans h.1.size e))⟩
theorem oC0.below {w W W':World} {bb:Nat} {b b1:BkS} (h:oC0 w W bb b b1) (hb:Below W.heap.size W W'):oC0 w W' bb b b1:=
 ⟨h.1.trans (Out.of_below (S:=b1.foot bb) hb lR7) h.2,h.2⟩
set_option maxRecDepth 4000 in
set_option maxHeartbeats 1000000 in
theorem tF1 (ab:Nat) (most:Int) (vs vf:Value) (rs:List Sot) (fr:List Nat) (k:Nat) (o x:Ord) (a:Int) (w:World) (h:ArOr w ab most vs vf rs fr) (hk:soAt rs k=(some o,a)):
  Calls Tryz.prog 185 #[.pointer (some ⟨ab,0,none⟩),.agg #[.int .i64 k,.int .i64 a],x.agg] w
   fun e w'=>e=.returned .nilIface∧ArOr w' ab most vs vf (rs.set k (some x,a)) fr∧Out (aoB ab vs vf) w w':=by
 have HA:Hid (ArOr w ab most vs vf rs fr):=h;have HK:Hid (soAt rs k=(some o,a)):=hk;clear h hk;unfold Ord.agg;go_enter Tryz.func185,Tryz.ntmps185;go_wp2_with fail;refine (mM1 ab most vs vf rs fr k o a _ (HA.out.below (bel2 _ _ _) lR7) HK.out).mono ?_;rintro e w1 ⟨hb,g,cap,rfl,rfl⟩;have hx:=(hb.block (w.heap.size+1) (by simp)).trans (dX0 w _ _);have x0:=aA0 (j:=0) hx rfl;have x1:=aA0 (j:=1) hx rfl;have x2:=aA0 (j:=2) hx rfl;have x3:=aA0 (j:=3) hx rfl;have x4:=aA0 (j:=4) hx rfl;have HB:Hid (Below w.heap.size w w1):=aD0 (bel2 w _ _) hb;have HA1:Hid (ArOr w1 ab most (.slice (some ⟨g,0,none⟩) rs.length cap) vf rs fr):=HA.out.below HB.out lR7;obtain ⟨hk1,g',cap',hv,d0,d1,d2,d3,d4,_,_⟩:=HA1.out.has HK.out;simp only [Value.slice.injEq,Option.some.injEq,Addr.mk.injEq,and_true,true_and] at hv;obtain ⟨rfl,rfl⟩:=hv;have f0:=HA1.out.slots.frozenAt (k*7);have f1:=HA1.out.slots.frozenAt (k*7+1);have f2:=HA1.out.slots.frozenAt (k*7+2);have f3:=HA1.out.slots.frozenAt (k*7+3);have f4:=HA1.out.slots.frozenAt (k*7+4);clear hb hx;go_wp2;go_ret;obtain ⟨r1,r2⟩:=HA1.out.setThing (x:=x) hk1 (by rw [HK.out];rfl);rw [HK.out] at r1;exact ⟨rfl,r1,(Out.of_below HB.out lR7).trans (r2.mono (fun j hj=>Or.inr (Or.inl (by rw [hj];rfl)))) (Went.refl _ _)⟩
def BkS.cut (b:BkS) (s:Nat) (x:Ly) (o':Ord):BkS:={ b with rs:=b.rs.set x.slot (some o',x.age),S:=upS b.S s (cutL x o' (b.S s)) }
theorem Goes.cut {w w':World} {bb m s:Nat} {b:BkS} {x:Ly} {o':Ord} (h:Bk w bb m b) (hm:m+1≤900000) (hs:s<2) (hx:x∈b.S s) (h1:o'.id=x.o.id) (h2:o'.side=x.o.side) (h3:1≤o'.price∧o'.price≤1000000∧1≤o'.qty∧o'.qty≤1000000)
  (ha:ArOr w' b.ab 100 b.vs b.vf (b.rs.set x.slot (some o',x.age)) b.fr) (ho:Out (aoB b.ab b.vs b.vf) w w'):Goes w w' bb (m+1) b (b.cut s x o'):=by
 have hat:=BookAt.newAr h.at_ ho ha
 have hmem:∀t,t<2→∀y,y∈upS b.S s (cutL x o' (b.S s)) t→∃z∈b.S t,z.o.id=y.o.id∧z.slot=y.slot∧z.age=y.age:=fun t ht y hy=>by
  rcases qF0 hy with ⟨rfl,h5⟩ | ⟨_,h5⟩
  ·obtain ⟨z,hz,rfl⟩:=List.mem_map.1 h5;refine ⟨z,hz,?_⟩;split
   ·rename_i e;obtain rfl:=h.ok.one_slot ht ht hz hx e;exact ⟨h1.symm,rfl,rfl⟩
   ·exact ⟨rfl,rfl,rfl⟩
  ·exact ⟨y,h5,rfl,rfl,rfl⟩
 have hmem2:∀t,t<2→∀z,z∈b.S t→∃y∈upS b.S s (cutL x o' (b.S s)) t,y.o.id=z.o.id:=fun t ht z hz=>by
  by_cases e:t=s
  ·subst e;rw [gW0];refine ⟨_,List.mem_map.2 ⟨z,hz,rfl⟩,?_⟩;split
   ·rename_i e;obtain rfl:=h.ok.one_slot ht ht hz hx e;exact h1
   ·rfl
  ·exact ⟨z,by rw [fT0 _ e];exact hz,rfl⟩
 have hrow:∀t,hV (upS b.S s (cutL x o' (b.S s)) t)=hV (b.S t)∧(upS b.S s (cutL x o' (b.S s)) t).length=(b.S t).length:=fun t=>by
  by_cases e:t=s
  ·subst e;rw [gW0];exact ⟨nS1 _ _ _,nV0 _ _ _⟩
  ·rw [fT0 _ e];exact ⟨rfl,rfl⟩
 refine ⟨⟨⟨hat.box,hat.ar,hat.map.like (fun t ht y hy=>hmem t ht y hy) (fun t ht z hz=>hmem2 t ht z hz),?_,?_,hat.apart⟩,h.ok.cut hs hx h1 h2 h3,Nat.le_trans h.small (Nat.le_succ _),hm⟩,ho.mono (fun k hk=>Or.inr (Or.inl hk)),Went.refl _ _⟩
 ·show World.ownsRow _ _ _ _ _ (upS b.S s (cutL x o' (b.S s)) 0).length (hV (upS b.S s (cutL x o' (b.S s)) 0));rw [(hrow 0).1,(hrow 0).2];exact hat.row0
 ·show World.ownsRow _ _ _ _ _ (upS b.S s (cutL x o' (b.S s)) 1).length (hV (upS b.S s (cutL x o' (b.S s)) 1));rw [(hrow 1).1,(hrow 1).2];exact hat.row1
set_option maxRecDepth 100000 in
set_option maxHeartbeats 2000000 in
theorem rC1 (bb m:Nat) (b:BkS) (id q:Int) (w:World) (h:Bk w bb m b) (hw:(Lit.int .i64 id).wf=true) (hno:∀s,s<2→∀x∈b.S s,x.o.id≠id):
  Calls Tryz.prog 145 #[.pointer (some ⟨bb,0,none⟩),.int .i64 id,.int .i64 q] w fun e W'=>e=.returned (.iface 32 (.int .i64 7))∧Below w.heap.size w W':=by
 have H:Hid (Bk w bb m b):=h;have HN:Hid (∀s,s<2→∀x∈b.S s,x.o.id≠id):=hno;clear h hno;go_enter Tryz.func145,Tryz.ntmps145;go_wp2_with fail;refine (dO1 bb m b id _ H.out hw HN.out).mono ?_;rintro e w1 ⟨rfl,hb1⟩;unfold Ord.agg Ord.none_;have HB1:Hid (Below w.heap.size w w1):=hb1;clear hb1;go_wp2_with fail;go_ret;exact ⟨rfl,aD0 HB1.out (bel2 _ _ _)⟩
set_option maxRecDepth 100000 in
set_option maxHeartbeats 2000000 in
theorem dP1 (bb m s:Nat) (b:BkS) (x:Ly) (q:Int) (w:World) (h:Bk w bb m b) (hs:s<2) (hx:x∈b.S s) (hq:q<1∨x.o.qty<q):
  Calls Tryz.prog 145 #[.pointer (some ⟨bb,0,none⟩),.int .i64 x.o.id,.int .i64 q] w fun e W'=>e=.returned (.iface 32 (.int .i64 2))∧Below w.heap.size w W':=by
 have H:Hid (Bk w bb m b):=h;have HX:Hid (x∈b.S s):=hx;clear h hx;go_enter Tryz.func145,Tryz.ntmps145;go_wp2_with fail;refine (nE0 bb m s b x _ H.out hs HX.out).mono ?_;rintro e w1 ⟨rfl,hb1⟩;unfold Ord.agg plV;have HB1:Hid (Below w.heap.size w w1):=hb1;clear hb1;have o4:((w1.alloc (.cells #[.int .i64 x.o.id,.int .i64 x.o.side,.int .i64 x.o.kind,.int .i64 x.o.price,.int .i64 x.o.qty] 41)).alloc (.cells #[.int .i64 x.slot,.int .i64 x.age,.int .i64 s] 171)).cell? ⟨w1.heap.size,4,none⟩=some (.int .i64 x.o.qty):=aA0 (j:=4) (eV0 w1 _ _) rfl
 by_cases hq1:q<1
 ·have k1:decide (q<1)=true:=decide_eq_true hq1;go_wp2_with fail;go_ret;exact ⟨rfl,aD0 HB1.out (bel2 _ _ _)⟩
 ·have k1:decide (q<1)=false:=decide_eq_false hq1;have k2:decide (q>x.o.qty)=true:=decide_eq_true (by omega);go_wp2_with fail;go_ret;exact ⟨rfl,aD0 HB1.out (bel2 _ _ _)⟩
set_option maxRecDepth 100000 in
set_option maxHeartbeats 2000000 in
theorem oF1 (bb m s:Nat) (b:BkS) (x:Ly) (w:World) (h:Bk w bb m b) (hm:m+1≤900000) (hs:s<2) (hx:x∈b.S s) (hq:¬x.o.qty<1):
  Calls Tryz.prog 145 #[.pointer (some ⟨bb,0,none⟩),.int .i64 x.o.id,.int .i64 x.o.qty] w fun e W'=>e=.returned .nilIface∧∃b':BkS,(∃i,i<(b.S s).length∧lyAt (b.S s) i=x∧b'.S=upS b.S s (dH0 i (b.S s)))∧Goes w W' bb (m+1) b b':=by
 have H:Hid (Bk w bb m b):=h;have HX:Hid (x∈b.S s):=hx;clear h hx;go_enter Tryz.func145,Tryz.ntmps145;go_wp2_with fail;refine (nE0 bb m s b x _ H.out hs HX.out).mono ?_;rintro e w1 ⟨rfl,hb1⟩;unfold Ord.agg plV;have HB1:Hid (Below w.heap.size w w1):=hb1;clear hb1;have o4:((w1.alloc (.cells #[.int .i64 x.o.id,.int .i64 x.o.side,.int .i64 x.o.kind,.int .i64 x.o.price,.int .i64 x.o.qty] 41)).alloc (.cells #[.int .i64 x.slot,.int .i64 x.age,.int .i64 s] 171)).cell? ⟨w1.heap.size,4,none⟩=some (.int .i64 x.o.qty):=aA0 (j:=4) (eV0 w1 _ _) rfl;have k1:decide (x.o.qty<1)=false:=decide_eq_false (by omega);go_wp2_with fail;have HB2:Hid (Below w.heap.size w _):=aD0 HB1.out (bel2 w1 (.cells #[.int .i64 x.o.id,.int .i64 x.o.side,.int .i64 x.o.kind,.int .i64 x.o.price,.int .i64 x.o.qty] 41) (.cells #[.int .i64 x.slot,.int .i64 x.age,.int .i64 s] 171));clear o4 k1;generalize (w1.alloc (.cells #[.int .i64 x.o.id,.int .i64 x.o.side,.int .i64 x.o.kind,.int .i64 x.o.price,.int .i64 x.o.qty] 41)).alloc (.cells #[.int .i64 x.slot,.int .i64 x.age,.int .i64 s] 171)=w2 at HB2 ⊢;refine (lT0 bb m s b x w2 (H.out.below HB2.out lR7) hm hs HX.out).mono ?_;rintro e w3 ⟨rfl,b',hb',hg⟩;have HG:Hid (Goes w2 w3 bb (m+1) b b'):=hg;have HB':Hid (∃i,i<(b.S s).length∧lyAt (b.S s) i=x∧b'.S=upS b.S s (dH0 i (b.S s))):=hb';clear hg hb';unfold Ord.agg;go_wp2_with fail;go_ret;refine ⟨rfl,b',HB'.out,HG.out.1,(Out.of_below HB2.out lR7).trans HG.out.2.1 (Went.refl _ _),fun k hk=>(HG.out.2.2 k hk).elim Or.inl (fun e=>Or.inr (Nat.le_trans HB2.out.size e))⟩
def bG1 (q:Int) (o:Ord):Ord:=⟨o.id,o.side,o.kind,o.price,o.qty - q⟩
set_option maxRecDepth 100000 in
set_option maxHeartbeats 2000000 in
theorem jB1 (bb m s:Nat) (b:BkS) (x:Ly) (q:Int) (w:World) (h:Bk w bb m b) (hm:m+1≤900000) (hs:s<2) (hx:x∈b.S s) (hq:¬q<1) (hq2:q<x.o.qty):
  Calls Tryz.prog 145 #[.pointer (some ⟨bb,0,none⟩),.int .i64 x.o.id,.int .i64 q] w fun e W'=>e=.returned .nilIface∧Goes w W' bb (m+1) b (b.cut s x (bG1 q x.o)):=by
 have H:Hid (Bk w bb m b):=h;have HX:Hid (x∈b.S s):=hx;have HO:Hid (soAt b.rs x.slot=(some x.o,x.age)):=h.ok.there s hs x hx;have hrg:=h.ok.ok s hs x hx;clear h hx;go_enter Tryz.func145,Tryz.ntmps145;go_wp2_with fail;refine (nE0 bb m s b x _ H.out hs HX.out).mono ?_;rintro e w1 ⟨rfl,hb1⟩;unfold Ord.agg plV;have HB1:Hid (Below w.heap.size w w1):=hb1;clear hb1;go_upto_region 4 with fail;have hb2:=bel2 w1 (.cells #[.int .i64 x.o.id,.int .i64 x.o.side,.int .i64 x.o.kind,.int .i64 x.o.price,.int .i64 x.o.qty] 41) (.cells #[.int .i64 x.slot,.int .i64 x.age,.int .i64 s] 171);have hr1:=eV0 w1 (.cells #[.int .i64 x.o.id,.int .i64 x.o.side,.int .i64 x.o.kind,.int .i64 x.o.price,.int .i64 x.o.qty] 41) (.cells #[.int .i64 x.slot,.int .i64 x.age,.int .i64 s] 171);have hr2:=dX0 w1 (.cells #[.int .i64 x.o.id,.int .i64 x.o.side,.int .i64 x.o.kind,.int .i64 x.o.price,.int .i64 x.o.qty] 41) (.cells #[.int .i64 x.slot,.int .i64 x.age,.int .i64 s] 171);generalize (w1.alloc (.cells #[.int .i64 x.o.id,.int .i64 x.o.side,.int .i64 x.o.kind,.int .i64 x.o.price,.int .i64 x.o.qty] 41)).alloc (.cells #[.int .i64 x.slot,.int .i64 x.age,.int .i64 s] 171)=w2 at hb2 hr1 hr2 ⊢;have HB2:Hid (Below w.heap.size w w2):=aD0 HB1.out hb2;have hz:w.heap.size≤w1.heap.size:=HB1.out.size;have k1:decide (q<1)=false:=decide_eq_false (by omega);have k2:decide (q>x.o.qty)=false:=decide_eq_false (by omega);have k3:(q == x.o.qty)=false:=beq_eq_false_iff_ne.2 (by omega);have c4:=aA0 (j:=4) hr1 rfl;have f4:=aB0 (j:=4) hr1;have HR1:Hid _:=hr1;have HR2:Hid _:=hr2;clear hb2 hr1 hr2;go_wp2_with fail;have hr1:=aK0 (j:=4) (.int .i64 (x.o.qty - q)) HR1.out;have hr2:=aE0 HR2.out (aQ0 w2 ⟨w1.heap.size,4,none⟩ (.int .i64 (x.o.qty - q))) (by simp);have hb3:=HB2.out.setCell (p:=⟨w1.heap.size,4,none⟩) hz (.int .i64 (x.o.qty - q));generalize w2.setCell ⟨w1.heap.size,4,none⟩ (.int .i64 (x.o.qty - q))=w3 at hr1 hr2 hb3 ⊢;have HB3:Hid (Below w.heap.size w w3):=hb3;have HBK:Hid (Bk w3 bb m b):=H.out.below hb3 lR7;have x0:=aA0 (j:=0) hr1 rfl;have x1:=aA0 (j:=1) hr1 rfl;have x2:=aA0 (j:=2) hr1 rfl;have x3:=aA0 (j:=3) hr1 rfl;have x4:=aA0 (j:=4) hr1 rfl;have p0:=aA0 (j:=0) hr2 rfl;have p1:=aA0 (j:=1) hr2 rfl;have b0:=aA0 (j:=0) HBK.out.at_.box rfl;clear hr1 hr2 hb3 HR1 HR2 HB2 c4 f4 k1 k2 k3;go_region_with (go_at_call 185;refine (tF1 b.ab 100 b.vs b.vf b.rs b.fr x.slot x.o (bG1 q x.o) x.age _ (HBK.out.at_.ar.below (B:=w3.heap.size) ?_ lR7) HO.out).mono ?_;(repeat' first | assumption | exact Below.refl _ _ | exact lR7 | refine Below.drew ?_ | refine Below.alloc ?_ ?_ _ | (simp;done) | (simp;omega));rintro e w4 ⟨rfl,ha,ho⟩)
 all_goals go_wp2_with fail
 all_goals go_ret
 all_goals (
  have hG:Goes w3 w4 bb (m+1) b (b.cut s x (bG1 q x.o)):=Goes.cut HBK.out hm hs HX.out rfl rfl (by have:=hrg;simp only [bG1];omega) ha (by first | exact ho | exact (aU0 (Out.refl _ _)).trans ho (Went.refl _ _));exact ⟨rfl,hG.1,(Out.of_below HB3.out lR7).trans hG.2.1 (Went.refl _ _),fun k hk=>(hG.2.2 k hk).elim Or.inl (fun e=>Or.inr (Nat.le_trans HB3.out.size e))⟩)
end Go.Proofs.YtjdkagafdnchhaaGreatDoor
