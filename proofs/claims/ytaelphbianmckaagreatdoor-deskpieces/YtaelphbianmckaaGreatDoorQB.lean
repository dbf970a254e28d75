/- DeskPieces: a part of the proof, packed (the readable form: the templates). -/
import Derived.Test.YtaelphbianmckaaGreatDoorQA
import Derived.Deep.Cut
import Derived.StillTailTactics
import Derived.Deep.RegionLaw
import Derived.BigRegion
import Derived.Maps.OwnSet
namespace Go.Proofs.YtaelphbianmckaaGreatDoor
open Go.RowKit
structure ArOr (w:World) (ab:Nat) (most:Int) (vs vf:Value) (rs:List Sot) (fr:List Nat):Prop where
 box:w.heap[ab]? = some (.cells #[.int .i64 most,vs,vf] 297 (0,0))
 slots:w.ownsRow 0 312 7 vs rs.length (soV rs)
 free:w.ownsRow 0 3 1 vf fr.length (frV fr)
def aoB (ab:Nat) (vs vf:Value) (k:Nat):Prop:=k=ab∨vs.ownBlock=some k∨vf.ownBlock=some k
theorem ArOr.below {w w':World} {ab:Nat} {most:Int} {vs vf:Value} {rs:List Sot} {fr:List Nat} {B:Nat} (h:ArOr w ab most vs vf rs fr) (hb:Below B w w') (hB:w.heap.size≤B):ArOr w' ab most vs vf rs fr:=
 ⟨aD0 h.box hb hB,aS0 h.slots hb hB,aS0 h.free hb hB⟩
theorem ArOr.out {S:Nat→Prop} {w w':World} {ab:Nat} {most:Int} {vs vf:Value} {rs:List Sot} {fr:List Nat} (h:ArOr w ab most vs vf rs fr) (hb:Out S w w') (hS:∀k,aoB ab vs vf k→¬S k):ArOr w' ab most vs vf rs fr:=
 ⟨aE0 h.box hb (hS ab (Or.inl rfl)),aL0 h.slots hb (fun k hk=>hS k (Or.inr (Or.inl hk))),aL0 h.free hb (fun k hk=>hS k (Or.inr (Or.inr hk)))⟩
theorem ArOr.lt {w:World} {ab:Nat} {most:Int} {vs vf:Value} {rs:List Sot} {fr:List Nat} (h:ArOr w ab most vs vf rs fr) {k:Nat} (hk:aoB ab vs vf k):k<w.heap.size:=by
 rcases hk with rfl | hk | hk
 ·exact lt_of_block h.box
 ·exact (h.slots.lt k hk).2
 ·exact (h.free.lt k hk).2
theorem ArOr.slot {w:World} {ab:Nat} {most:Int} {vs vf:Value} {rs:List Sot} {fr:List Nat} (h:ArOr w ab most vs vf rs fr) {k:Nat} {o:Ord} {a:Int} {f:Bool} (hk:k<rs.length) (ho:thO (soAt rs k).1=o) (ha:(soAt rs k).2=a) (hf:(soAt rs k).1.isSome=f):
  ∃g cap,vs=.slice (some ⟨g,0,none⟩) rs.length cap∧w.cell? ⟨g,k*7,none⟩=some (.int .i64 o.id)∧w.cell? ⟨g,k*7+1,none⟩=some (.int .i64 o.side)∧w.cell? ⟨g,k*7+2,none⟩=some (.int .i64 o.kind)∧w.cell? ⟨g,k*7+3,none⟩=some (.int .i64 o.price)∧w.cell? ⟨g,k*7+4,none⟩=some (.int .i64 o.qty)∧w.cell? ⟨g,k*7+5,none⟩=some (.int .i64 a)∧w.cell? ⟨g,k*7+6,none⟩=some (.bool f):=by
 subst ho ha hf;obtain ⟨g,cap,rfl,_,_⟩:=h.slots.form (by omega);obtain ⟨h1,h2,h3,h4,h5,h6,h7⟩:=bU1 hk;exact ⟨g,cap,rfl,(h.slots.cellAt _ (by omega)).trans h1,(h.slots.cellAt _ (by omega)).trans h2,(h.slots.cellAt _ (by omega)).trans h3,(h.slots.cellAt _ (by omega)).trans h4,(h.slots.cellAt _ (by omega)).trans h5,(h.slots.cellAt _ (by omega)).trans h6,(h.slots.cellAt _ (by omega)).trans h7⟩
theorem ArOr.has {w:World} {ab:Nat} {most:Int} {vs vf:Value} {rs:List Sot} {fr:List Nat} (h:ArOr w ab most vs vf rs fr) {k:Nat} {o:Ord} {a:Int} (hk:soAt rs k=(some o,a)):
  k<rs.length∧∃g cap,vs=.slice (some ⟨g,0,none⟩) rs.length cap∧w.cell? ⟨g,k*7,none⟩=some (.int .i64 o.id)∧w.cell? ⟨g,k*7+1,none⟩=some (.int .i64 o.side)∧w.cell? ⟨g,k*7+2,none⟩=some (.int .i64 o.kind)∧w.cell? ⟨g,k*7+3,none⟩=some (.int .i64 o.price)∧w.cell? ⟨g,k*7+4,none⟩=some (.int .i64 o.qty)∧w.cell? ⟨g,k*7+5,none⟩=some (.int .i64 a)∧w.cell? ⟨g,k*7+6,none⟩=some (.bool true):=
 ⟨iC0 hk,h.slot (iC0 hk) (by rw [hk];rfl) (by rw [hk]) (by rw [hk];rfl)⟩
set_option maxHeartbeats 400000 in
theorem sX1 (w:World):Calls Tryz.prog 165 #[.int .i64 100] w
  fun e w'=>e=.returned (.tuple #[.pointer (some ⟨w.heap.size,0,none⟩),.nilIface])∧w'=w.alloc (.cells #[.int .i64 100,.slice none 0 0,.slice none 0 0] 297):=by
 go_enter Tryz.func165,Tryz.ntmps165;go_wp2;go_ret2;exact ⟨rfl,rfl⟩
theorem iF1 (w:World) (most:Int):ArOr (w.alloc (.cells #[.int .i64 most,.slice none 0 0,.slice none 0 0] 297)) w.heap.size most (.slice none 0 0) (.slice none 0 0) [] []:=
 ⟨heap_alloc_new w _,World.ownsRow_nil _ _ _ _,World.ownsRow_nil _ _ _ _⟩
set_option maxHeartbeats 400000 in
theorem bY1 (ab:Nat) (most:Int) (vs vf:Value) (rs:List Sot) (fr:List Nat) (c:Int) (w:World) (h:ArOr w ab most vs vf rs fr) (hl:rs.length≤1000000) (hc:(cntO rs:Int)=c) (hs:cntO rs+fr.length=rs.length):
  Calls Tryz.prog 265 #[.pointer (some ⟨ab,0,none⟩)] w fun e w'=>e=.returned (.int .i64 c)∧∃n,w'=w.drewN n:=by
 have c1:=aA0 (j:=1) h.box rfl;have c2:=aA0 (j:=2) h.box rfl;obtain ⟨ao,cap,rfl,_,_⟩:=aY0 h.slots;obtain ⟨ao',cap',rfl,_,_⟩:=aY0 h.free;have HC:Hid (c=(rs.length:Int) - fr.length):=by show _=_;omega
 have hf:fr.length≤rs.length:=by omega
 clear h hc hs;go_enter Tryz.func265,Tryz.ntmps265;go_wp2_with fail;go_quiet (fail);go_wp2;go_ret;exact ⟨by rw [HC.out];first | rfl | (rw [IntWalk.i64_in _ (by omega)]),⟨_,rfl⟩⟩
set_option maxRecDepth 4000 in
set_option maxHeartbeats 1000000 in
theorem mE1 (ab:Nat) (most:Int) (vs vf:Value) (rs:List Sot) (fr:List Nat) (k:Nat) (o:Ord) (a:Int) (w:World) (h:ArOr w ab most vs vf rs fr) (hk:soAt rs k=(some o,a)):
  Calls Tryz.prog 277 #[.pointer (some ⟨ab,0,none⟩),.agg #[.int .i64 k,.int .i64 a]] w
   fun e w'=>Below w.heap.size w w'∧∃(g cap:Nat),vs=.slice (some ⟨g,0,none⟩) rs.length cap∧e=.returned (.pointer (some ⟨g,k*7,none⟩)):=by
 have c1:=aA0 (j:=1) h.box rfl;have lb:ab<w.heap.size:=lt_of_block h.box;obtain ⟨hk1,g,cap,rfl,_,_,_,_,_,d1,d2⟩:=h.has hk;have lg:g<w.heap.size:=World.block_lt_of_cell? w _ d1;clear h hk;have hd:decide ((k:Int)<0)=false:=decide_eq_false (by omega);have q1:(0:Int)≤(k:Int):=by omega
 have q2:(k:Int)<rs.length:=by omega
 have q3:decide ((rs.length:Int)≤(k:Int))=false:=decide_eq_false (by omega);go_enter Tryz.func277,Tryz.ntmps277;go_wp2_with fail;go_quiet (fail);go_wp2_with fail;go_quiet (fail);go_wp2_with fail;go_quiet (fail);go_wp2;go_ret;exact ⟨below_drewN (below_drewN (below_drewN (bel1 _ _) _) _) _,g,cap,rfl,rfl⟩
set_option maxRecDepth 4000 in
set_option maxHeartbeats 1000000 in
theorem nL1 (ab:Nat) (most:Int) (vs vf:Value) (rs:List Sot) (fr:List Nat) (k:Nat) (o:Ord) (a:Int) (w:World) (h:ArOr w ab most vs vf rs fr) (hk:soAt rs k=(some o,a)):
  Calls Tryz.prog 243 #[.pointer (some ⟨ab,0,none⟩),.agg #[.int .i64 k,.int .i64 a]] w
   fun e w'=>Below w.heap.size w w'∧e=.returned (.tuple #[o.agg,.nilIface]):=by
 have HA:Hid (ArOr w ab most vs vf rs fr):=h;have HK:Hid (soAt rs k=(some o,a)):=hk;clear h hk;go_enter Tryz.func243,Tryz.ntmps243;go_wp2_with fail;refine (mE1 ab most vs vf rs fr k o a _ (HA.out.below (bel2 _ _ _) lR7) HK.out).mono ?_;rintro e w1 ⟨hb,g,cap,rfl,rfl⟩;have hx:=(hb.block (w.heap.size+1) (by simp)).trans (dK0 w _ _);have x0:=aA0 (j:=0) hx rfl;have x1:=aA0 (j:=1) hx rfl;have x2:=aA0 (j:=2) hx rfl;have x3:=aA0 (j:=3) hx rfl;have x4:=aA0 (j:=4) hx rfl;have y0:=aB0 (j:=0) hx;have y1:=aB0 (j:=1) hx;have y2:=aB0 (j:=2) hx;have y3:=aB0 (j:=3) hx;have y4:=aB0 (j:=4) hx;have HB:Hid (Below w.heap.size w w1):=aC0 (bel2 w _ _) hb;obtain ⟨hk1,g',cap',hv,d0,d1,d2,d3,d4,_,_⟩:=(HA.out.below HB.out lR7).has HK.out;simp only [Value.slice.injEq,Option.some.injEq,Addr.mk.injEq,and_true,true_and] at hv;obtain ⟨rfl,rfl⟩:=hv;have hne:g≠w.heap.size+1:=fun e=>aF0 (HA.out.below HB.out lR7).slots hx (by decide) (by rw [e];rfl)
 clear hb hx;go_wp2;refine bodyPost_ret (by simp [results,Tryz.results243,go_sem,x0,x1,x2,x3,x4];try rfl) rfl ?_;refine ⟨?_,rfl⟩;have s:Below w.heap.size w1 w1:=Below.refl _ _;exact HB.out.trans (((((s.setCell (p:=⟨w.heap.size+1,0,none⟩) (by simp) _).setCell (p:=⟨w.heap.size+1,1,none⟩) (by simp) _).setCell (p:=⟨w.heap.size+1,2,none⟩) (by simp) _).setCell (p:=⟨w.heap.size+1,3,none⟩) (by simp) _).setCell (p:=⟨w.heap.size+1,4,none⟩) (by simp) _)
theorem eT0 {w:World} {ab g n cap:Nat} {most:Int} {vf:Value} {xs:List Value} {fr:List Nat} (hb:w.heap[ab]? = some (.cells #[.int .i64 most,.slice (some ⟨g,0,none⟩) n cap,vf] 297 (0,0)))
  (hs:w.ownsRow 0 312 7 (.slice (some ⟨g,0,none⟩) n cap) n xs) (hf:w.ownsRow 0 3 1 vf fr.length (frV fr)) (j:Nat) (u:Value):
  (w.setCell ⟨g,j,none⟩ u).heap[ab]? = some (.cells #[.int .i64 most,.slice (some ⟨g,0,none⟩) n cap,vf] 297 (0,0))
  ∧(w.setCell ⟨g,j,none⟩ u).ownsRow 0 312 7 (.slice (some ⟨g,0,none⟩) n cap) n (xs.set j u)∧(w.setCell ⟨g,j,none⟩ u).ownsRow 0 3 1 vf fr.length (frV fr)∧Out (fun k=>k=g) w (w.setCell ⟨g,j,none⟩ u):=by
 have hne:ab≠g:=fun e=>aF0 hs hb (by decide) (by rw [e];rfl)
 obtain ⟨h1,h2⟩:=hs.stored j u;exact ⟨(Below.heap_setCell _ _ _ _ hne).trans hb,h1,ownsRow_setCell_other (a:=⟨g,j,none⟩) hf (bJ0 hs hf (by decide) rfl) u,Out.of_grown h2 (fun k hk=>by injection hk with hk;exact hk.symm)⟩
theorem ArOr.raw {w:World} {ab g n cap:Nat} {most:Int} {vf:Value} {xs:List Value} {fr:List Nat} (hb:w.heap[ab]? = some (.cells #[.int .i64 most,.slice (some ⟨g,0,none⟩) n cap,vf] 297 (0,0)))
  (hs:w.ownsRow 0 312 7 (.slice (some ⟨g,0,none⟩) n cap) n xs) (hf:w.ownsRow 0 3 1 vf fr.length (frV fr)) (j:Nat) (u0 u1 u2 u3 u4:Value):
  let w5:=((((w.setCell ⟨g,j,none⟩ u0).setCell ⟨g,j+1,none⟩ u1).setCell ⟨g,j+2,none⟩ u2).setCell ⟨g,j+3,none⟩ u3).setCell ⟨g,j+4,none⟩ u4
  w5.heap[ab]? = some (.cells #[.int .i64 most,.slice (some ⟨g,0,none⟩) n cap,vf] 297 (0,0))
  ∧w5.ownsRow 0 312 7 (.slice (some ⟨g,0,none⟩) n cap) n (((((xs.set j u0).set (j+1) u1).set (j+2) u2).set (j+3) u3).set (j+4) u4)∧w5.ownsRow 0 3 1 vf fr.length (frV fr)∧Out (fun k=>k=g) w w5:=by
 obtain ⟨a1,a2,a3,a4⟩:=eT0 hb hs hf j u0;obtain ⟨b1,b2,b3,b4⟩:=eT0 a1 a2 a3 (j+1) u1;obtain ⟨c1,c2,c3,c4⟩:=eT0 b1 b2 b3 (j+2) u2;obtain ⟨d1,d2,d3,d4⟩:=eT0 c1 c2 c3 (j+3) u3;obtain ⟨e1,e2,e3,e4⟩:=eT0 d1 d2 d3 (j+4) u4;exact ⟨e1,e2,e3,(((a4.trans b4 (Went.refl _ _)).trans c4 (Went.refl _ _)).trans d4 (Went.refl _ _)).trans e4 (Went.refl _ _)⟩
theorem bZ1 {l:List Value} {k j:Nat} {v u0 u1 u2 u3 u4:Value} (h:l[j]? = some v) (hj:k+4<j):(((((l.set k u0).set (k+1) u1).set (k+2) u2).set (k+3) u3).set (k+4) u4)[j]? = some v:=by
 rw [List.getElem?_set_ne (by omega),List.getElem?_set_ne (by omega),List.getElem?_set_ne (by omega),List.getElem?_set_ne (by omega),List.getElem?_set_ne (by omega)];exact h
theorem cA1 {rs:List Sot} {k:Nat} {o:Ord} (hk:k<rs.length):
  ((((((soV rs).set (k*7) (.int .i64 o.id)).set (k*7+1) (.int .i64 o.side)).set (k*7+2) (.int .i64 o.kind)).set (k*7+3) (.int .i64 o.price)).set (k*7+4) (.int .i64 o.qty)).set (k*7+6) (.bool true)=soV (rs.set k (some o,(soAt rs k).2)):=by
 have e:((((((((soV rs).set (k*7) (.int .i64 o.id)).set (k*7+1) (.int .i64 o.side)).set (k*7+2) (.int .i64 o.kind)).set (k*7+3) (.int .i64 o.price)).set (k*7+4) (.int .i64 o.qty)).set (k*7+5) (.int .i64 (soAt rs k).2)).set (k*7+6) (.bool true))=soV (rs.set k (some o,(soAt rs k).2)):=bV1 (some o,(soAt rs k).2) hk;obtain ⟨_,_,_,_,_,a5,_⟩:=bU1 hk;rw [xM0 (k:=k*7+5) (bZ1 a5 (by omega))] at e;exact e
theorem iG1 {rs:List Sot} {k:Nat} {o:Ord} (hk:k<rs.length) (hf:(soAt rs k).1.isSome=true):
  (((((soV rs).set (k*7) (.int .i64 o.id)).set (k*7+1) (.int .i64 o.side)).set (k*7+2) (.int .i64 o.kind)).set (k*7+3) (.int .i64 o.price)).set (k*7+4) (.int .i64 o.qty)=soV (rs.set k (some o,(soAt rs k).2)):=by
 have e:=cA1 (o:=o) hk;obtain ⟨_,_,_,_,_,_,a6⟩:=bU1 hk;rw [hf] at a6;rw [xM0 (k:=k*7+6) (bZ1 a6 (by omega))] at e;exact e
theorem ArOr.setThing {w:World} {ab g n cap k:Nat} {most:Int} {x:Ord} {vf:Value} {rs:List Sot} {fr:List Nat} (h:ArOr w ab most (.slice (some ⟨g,0,none⟩) n cap) vf rs fr) (hk:k<rs.length) (hf:(soAt rs k).1.isSome=true):
  ArOr (((((w.setCell ⟨g,k*7,none⟩ (.int .i64 x.id)).setCell ⟨g,k*7+1,none⟩ (.int .i64 x.side)).setCell ⟨g,k*7+2,none⟩ (.int .i64 x.kind)).setCell ⟨g,k*7+3,none⟩ (.int .i64 x.price)).setCell ⟨g,k*7+4,none⟩ (.int .i64 x.qty)) ab most (.slice (some ⟨g,0,none⟩) n cap) vf (rs.set k (some x,(soAt rs k).2)) fr
  ∧Out (fun j=>j=g) w (((((w.setCell ⟨g,k*7,none⟩ (.int .i64 x.id)).setCell ⟨g,k*7+1,none⟩ (.int .i64 x.side)).setCell ⟨g,k*7+2,none⟩ (.int .i64 x.kind)).setCell ⟨g,k*7+3,none⟩ (.int .i64 x.price)).setCell ⟨g,k*7+4,none⟩ (.int .i64 x.qty)):=by
 obtain rfl:=mO0 h.slots;obtain ⟨h1,h2,h3,h4⟩:=ArOr.raw h.box h.slots h.free (k*7) (.int .i64 x.id) (.int .i64 x.side) (.int .i64 x.kind) (.int .i64 x.price) (.int .i64 x.qty);refine ⟨⟨h1,?_,h3⟩,h4⟩;rw [List.length_set,←iG1 hk hf];exact h2
theorem ArOr.pop {w:World} {ab g n cap k:Nat} {most:Int} {vs:Value} {rs:List Sot} {fs:List Nat} (h:ArOr w ab most vs (.slice (some ⟨g,0,none⟩) n cap) rs (fs++[k])):
  ArOr (w.setCell ⟨ab,2,none⟩ (.slice (some ⟨g,0,none⟩) fs.length cap)) ab most vs (.slice (some ⟨g,0,none⟩) fs.length cap) rs fs∧Out (fun j=>j=ab) w (w.setCell ⟨ab,2,none⟩ (.slice (some ⟨g,0,none⟩) fs.length cap)):=by
 have hf:=h.free;obtain rfl:=mO0 h.free;rw [List.length_append,List.length_singleton,xN0] at hf;have h1:=bX1 hf (zO0 fs);refine ⟨⟨by simpa using aH0 (j:=2) (.slice (some ⟨g,0,none⟩) fs.length cap) h.box,ownsRow_setCell_other h.slots (aF0 h.slots h.box (by decide)) _,ownsRow_setCell_other h1 (aF0 h1 h.box (by decide)) _⟩,?_⟩;exact aN0 _ ⟨ab,2,none⟩ _
theorem Tryz.infoSlotO:(Tryz.prog.info? 312).map (fun i=>(i.zero,i.size,i.bytes))=some (some (.agg #[.int .i64 0,.int .i64 0,.int .i64 0,.int .i64 0,.int .i64 0,.int .i64 0,.bool false]),7,56):=by kernel_rfl
theorem Tryz.infoNumO:(Tryz.prog.info? 3).map (fun i=>(i.zero,i.size,i.bytes))=some (some (.int .i64 0),1,8):=by kernel_rfl
set_option maxRecDepth 4000 in
set_option maxHeartbeats 1000000 in
theorem vG0 (ab:Nat) (most:Int) (vs vf:Value) (rs:List Sot) (fs:List Nat) (k:Nat) (w:World) (h:ArOr w ab most vs vf rs (fs++[k])) (hl:fs.length≤1000000):
  Calls Tryz.prog 290 #[.pointer (some ⟨ab,0,none⟩)] w
   fun e w'=>e=.returned (.int .i64 k)∧∃vf',ArOr w' ab most vs vf' rs fs∧Out (aoB ab vs vf) w w'∧vf'.ownBlock=vf.ownBlock:=by
 obtain ⟨g,cap,rfl,_,_⟩:=h.free.form (by simp);have HA:Hid (ArOr w ab most vs (.slice (some ⟨g,0,none⟩) (fs++[k]).length cap) rs (fs++[k])):=h;have c2:=aA0 (j:=2) h.box rfl;have f2:=aB0 (j:=2) h.box;have d0:=(h.free.cellAt fs.length (by simp)).trans (nH1 fs k)
 have hcap:fs.length+1≤cap:=by
  obtain ⟨_,_,e,h1,_⟩:=aY0 h.free;simp at e h1;omega
 clear h;rw [List.length_append,List.length_singleton] at c2;have q1:(0:Int)≤(fs.length:Int):=by omega
 have q2:(fs.length:Int)<(fs.length:Int)+1:=by omega
 go_enter Tryz.func290,Tryz.ntmps290;go_wp2;go_ret;obtain ⟨r1,r2⟩:=HA.out.pop;exact ⟨rfl,_,r1,r2.mono (fun j hj=>Or.inl hj),rfl⟩
theorem ArOr.push {w w1:World} {ab g cap H:Nat} {most:Int} {vs vf:Value} {rs:List Sot} {fr:List Nat} {o:Obj} {p:Sot} (h:ArOr w ab most vs vf rs fr)
  (hown:w1.ownsRow 0 312 7 (.slice (some ⟨g,0,none⟩) (rs.length+1) cap) (rs.length+1) (soV (rs++[p]))) (hg:(w.alloc o).grownBy w1 vs.ownBlock) (hat:vs.ownBlock=some g∨g=H) (hH:w.heap.size≤H):
  ArOr (w1.setCell ⟨ab,1,none⟩ (.slice (some ⟨g,0,none⟩) (rs.length+1) cap)) ab most (.slice (some ⟨g,0,none⟩) (rs.length+1) cap) vf (rs++[p]) fr
  ∧Out (aoB ab vs vf) w (w1.setCell ⟨ab,1,none⟩ (.slice (some ⟨g,0,none⟩) (rs.length+1) cap))∧Went w (aoB ab vs vf) (aoB ab (.slice (some ⟨g,0,none⟩) (rs.length+1) cap) vf):=by
 have o1:Out (fun k=>vs.ownBlock=some k) w w1:=(Out.of_below (bel1 w o) lR7).trans (Out.of_grown hg (fun k hk=>hk)) (Went.refl _ _);have b1:w1.heap[ab]? = some (.cells #[.int .i64 most,vs,vf] 297 (0,0)):=aE0 h.box o1 (aF0 h.slots h.box (by decide));have f1:w1.ownsRow 0 3 1 vf fr.length (frV fr):=aL0 h.free o1 (fun k hk=>bJ0 h.free h.slots (by decide) hk);have o2:=aN0 w1 ⟨ab,1,none⟩ (.slice (some ⟨g,0,none⟩) (rs.length+1) cap);refine ⟨⟨by simpa using aH0 (j:=1) (.slice (some ⟨g,0,none⟩) (rs.length+1) cap) b1,?_,ownsRow_setCell_other f1 (aF0 f1 b1 (by decide)) _⟩,?_,?_⟩
 ·rw [List.length_append,List.length_singleton];exact ownsRow_setCell_other hown (aF0 hown b1 (by decide)) _
 ·exact (o1.mono (S':=aoB ab vs vf) (fun k hk=>Or.inr (Or.inl hk))).trans (o2.mono (S':=aoB ab vs vf) (fun k hk=>Or.inl hk)) (Went.refl _ _)
 ·rintro k (rfl | hk | hk)
  ·exact Or.inl (Or.inl rfl)
  ·injection hk with hk
   change g=k at hk
   subst hk;rcases hat with hat | hat
   ·exact Or.inl (Or.inr (Or.inl hat))
   ·exact Or.inr (by omega)
  ·exact Or.inl (Or.inr (Or.inr hk))
set_option maxRecDepth 4000 in
set_option maxHeartbeats 1000000 in
theorem zT0 (ab:Nat) (most:Int) (vs vf:Value) (rs:List Sot) (w:World) (h:ArOr w ab most vs vf rs []) (hl:rs.length≤1000000):
  Calls Tryz.prog 290 #[.pointer (some ⟨ab,0,none⟩)] w
   fun e w'=>e=.returned (.int .i64 rs.length)∧∃vs',ArOr w' ab most vs' vf (rs++[(none,0)]) []∧Out (aoB ab vs vf) w w'∧Went w (aoB ab vs vf) (aoB ab vs' vf):=by
 obtain ⟨i0,hi,hz0,hz1,hz2⟩:=info_parts Tryz.infoSlotO;have HA:Hid (ArOr w ab most vs vf rs []):=h;have c1:=aA0 (j:=1) h.box rfl;have c2:=aA0 (j:=2) h.box rfl;have lb:ab<w.heap.size:=lt_of_block h.box;have HO:Hid (vs.ownBlock≠some ab):=aF0 h.slots h.box (by decide);obtain ⟨ao,cap,rfl,_,_⟩:=aY0 h.free;simp only [List.length_nil] at c2 HA;obtain ⟨ao',cap',rfl,_,_⟩:=aY0 h.slots;clear h;go_enter Tryz.func290,Tryz.ntmps290;go_wp2_with (at_builtin;go_loud (refine wpList_append_lies _ rfl _ _ 295 rfl 0 312 i0 (.agg #[.int .i64 0,.int .i64 0,.int .i64 0,.int .i64 0,.int .i64 0,.int .i64 0,.bool false]) 7 56 Tryz.underlying295 hi hz0 hz1 hz2 rfl (by decide) (.slice ao' rs.length cap') rs.length (soV rs) rfl (HA.out.slots.alloc _) ⟨w.heap.size,0,none⟩ 1 1 [.int .i64 0,.int .i64 0,.int .i64 0,.int .i64 0,.int .i64 0,.int .i64 0,.bool false] rfl rfl (World.news_of_block (cs:=#[.int .i64 0,.int .i64 0,.int .i64 0,.int .i64 0,.int .i64 0,.int .i64 0,.bool false]) (t:=312) (fr:=(0,0)) (heap_alloc_new w _)) (by simp [Value.oneCell']) (by decide) (by unfold maxLen;omega) (by omega) (Nat.zero_le _) (w.heap.size+1) (by simp) ?_);intro g cg w1 hown hgrow hat hlt;have hbx:=(hgrow.block ab (by simp;omega) (Ne.symm HO.out)).trans ((Below.heap_alloc _ _ _ lb).trans HA.out.box);have x1:=aA0 (j:=1) hbx rfl;have x2:=aB0 (j:=1) hbx);go_ret;obtain ⟨r1,r2,r3⟩:=HA.out.push (p:=(none,0)) (by rw [zP0];exact hown) hgrow hat (by omega);exact ⟨by first | rfl | (apply congrArg;go_num),_,r1,r2,r3⟩
theorem qL1 (ab:Nat) (most:Int) (vs vf:Value) (rs:List Sot) (fr:List Nat) (k:Nat) (rs1:List Sot) (fr1:List Nat) (w:World) (h:ArOr w ab most vs vf rs fr) (hR:qX0 rs fr k rs1 fr1) (hl:rs.length≤1000000) (hf:fr.length≤1000000):
  Calls Tryz.prog 290 #[.pointer (some ⟨ab,0,none⟩)] w
   fun e w'=>e=.returned (.int .i64 k)∧∃vs' vf',ArOr w' ab most vs' vf' rs1 fr1∧Out (aoB ab vs vf) w w'∧Went w (aoB ab vs vf) (aoB ab vs' vf'):=by
 rcases hR with ⟨rfl,rfl⟩ | ⟨rfl,rfl,rfl,rfl⟩
 ·refine (vG0 ab most vs vf _ fr1 k w h (by simp at hf;omega)).mono ?_;rintro e w1 ⟨rfl,vf',h1,h2,h3⟩;refine ⟨rfl,vs,vf',h1,h2,?_⟩;rintro j (hj | hj | hj)
  ·exact Or.inl (Or.inl hj)
  ·exact Or.inl (Or.inr (Or.inl hj))
  ·exact Or.inl (Or.inr (Or.inr (h3 ▸ hj)))
 ·refine (zT0 ab most vs vf _ w h hl).mono ?_;rintro e w1 ⟨rfl,vs',h1,h2,h3⟩;exact ⟨rfl,vs',vf,h1,h2,h3⟩
set_option maxRecDepth 4000 in
set_option maxHeartbeats 1000000 in
theorem zU0 (ab:Nat) (most:Int) (vs vf:Value) (rs:List Sot) (fr:List Nat) (x:Ord) (w:World) (h:ArOr w ab most vs vf rs fr) (hl:rs.length≤1000000) (hs:cntO rs+fr.length=rs.length) (hm:(cntO rs:Int)=most):
  Calls Tryz.prog 274 #[.pointer (some ⟨ab,0,none⟩),x.agg] w
   fun e w'=>e=.returned (.tuple #[.agg #[.int .i64 0,.int .i64 0],.iface 26 (.int .i64 12)])∧Below w.heap.size w w':=by
 have HA:Hid (ArOr w ab most vs vf rs fr):=h;have c0:=aA0 (j:=0) h.box rfl;have lb:ab<w.heap.size:=lt_of_block h.box;have HM:Hid ((cntO rs:Int)=most):=hm;clear h hm;unfold Ord.agg;go_enter Tryz.func274,Tryz.ntmps274;go_wp2_with fail;go_quiet (first | (go_at_call 265;refine Calls.quiet_of (bY1 ab most vs vf rs fr most _ (HA.out.below (below_drewN (bel2 _ _ _) _) lR7) hl HM.out hs)));go_wp2;refine bodyPost_ret (by simp [results,Tryz.results274,go_sem];try rfl) rfl ?_;exact ⟨rfl,((below_drewN (bel2 _ _ _) _).setCell (by simp) _).setCell (by simp) _⟩
theorem ArOr.putThing {w:World} {ab g n cap k:Nat} {most:Int} {x:Ord} {vf:Value} {rs:List Sot} {fr:List Nat} (h:ArOr w ab most (.slice (some ⟨g,0,none⟩) n cap) vf rs fr) (hk:k<rs.length):
  ArOr ((((((w.setCell ⟨g,k*7,none⟩ (.int .i64 x.id)).setCell ⟨g,k*7+1,none⟩ (.int .i64 x.side)).setCell ⟨g,k*7+2,none⟩ (.int .i64 x.kind)).setCell ⟨g,k*7+3,none⟩ (.int .i64 x.price)).setCell ⟨g,k*7+4,none⟩ (.int .i64 x.qty)).setCell ⟨g,k*7+6,none⟩ (.bool true)) ab most (.slice (some ⟨g,0,none⟩) n cap) vf (rs.set k (some x,(soAt rs k).2)) fr
  ∧Out (fun j=>j=g) w ((((((w.setCell ⟨g,k*7,none⟩ (.int .i64 x.id)).setCell ⟨g,k*7+1,none⟩ (.int .i64 x.side)).setCell ⟨g,k*7+2,none⟩ (.int .i64 x.kind)).setCell ⟨g,k*7+3,none⟩ (.int .i64 x.price)).setCell ⟨g,k*7+4,none⟩ (.int .i64 x.qty)).setCell ⟨g,k*7+6,none⟩ (.bool true)):=by
 obtain rfl:=mO0 h.slots;obtain ⟨h1,h2,h3,h4⟩:=ArOr.raw h.box h.slots h.free (k*7) (.int .i64 x.id) (.int .i64 x.side) (.int .i64 x.kind) (.int .i64 x.price) (.int .i64 x.qty);obtain ⟨g1,g2,g3,g4⟩:=eT0 h1 h2 h3 (k*7+6) (.bool true);refine ⟨⟨g1,?_,g3⟩,h4.trans g4 (Went.refl _ _)⟩;rw [List.length_set,←cA1 hk];exact g2
set_option maxRecDepth 4000 in
set_option maxHeartbeats 2000000 in
theorem sY1 (ab:Nat) (most:Int) (vs vf:Value) (rs:List Sot) (fr:List Nat) (x:Ord) (k:Nat) (rs1:List Sot) (fr1:List Nat) (w:World) (h:ArOr w ab most vs vf rs fr) (hl:rs.length≤1000000) (hs:cntO rs+fr.length=rs.length) (hm:¬(cntO rs:Int)=most)
  (hR:qX0 rs fr k rs1 fr1) (hk:k<rs1.length):
  Calls Tryz.prog 274 #[.pointer (some ⟨ab,0,none⟩),x.agg] w
   fun e w'=>e=.returned (.tuple #[.agg #[.int .i64 k,.int .i64 (soAt rs1 k).2],.nilIface])∧∃vs' vf',ArOr w' ab most vs' vf' (rs1.set k (some x,(soAt rs1 k).2)) fr1∧Out (aoB ab vs vf) w w'∧Went w (aoB ab vs vf) (aoB ab vs' vf'):=by
 have HA:Hid (ArOr w ab most vs vf rs fr):=h;have HR:Hid (qX0 rs fr k rs1 fr1):=hR;have c0:=aA0 (j:=0) h.box rfl;have lb:ab<w.heap.size:=lt_of_block h.box;have hmb:((cntO rs:Int) == most)=false:=beq_eq_false_iff_ne.2 hm;clear h hm hR;unfold Ord.agg;go_enter Tryz.func274,Tryz.ntmps274;go_wp2_with fail;go_quiet (first | (go_at_call 265;refine Calls.quiet_of (bY1 ab most vs vf rs fr (cntO rs) _ (HA.out.below (below_drewN (bel2 _ _ _) _) lR7) hl rfl hs)));go_wp2_with fail;have hbq:=below_drewN (bel2 w (.cells #[.int .i64 x.id,.int .i64 x.side,.int .i64 x.kind,.int .i64 x.price,.int .i64 x.qty] 92) (.cells #[.int .i64 0,.int .i64 0] 240)) nq;have hxq:=sO0 nq (eG0 w (.cells #[.int .i64 x.id,.int .i64 x.side,.int .i64 x.kind,.int .i64 x.price,.int .i64 x.qty] 92) (.cells #[.int .i64 0,.int .i64 0] 240));have hwq:=sO0 nq (dK0 w (.cells #[.int .i64 x.id,.int .i64 x.side,.int .i64 x.kind,.int .i64 x.price,.int .i64 x.qty] 92) (.cells #[.int .i64 0,.int .i64 0] 240));generalize ((w.alloc (.cells #[.int .i64 x.id,.int .i64 x.side,.int .i64 x.kind,.int .i64 x.price,.int .i64 x.qty] 92)).alloc (.cells #[.int .i64 0,.int .i64 0] 240)).drewN nq=wq at hbq hxq hwq ⊢;have HBQ:Hid (Below w.heap.size w wq):=hbq;have HXQ:Hid (wq.heap[w.heap.size]? = some (.cells #[.int .i64 x.id,.int .i64 x.side,.int .i64 x.kind,.int .i64 x.price,.int .i64 x.qty] 92 (0,0))):=hxq;have HWQ:Hid (wq.heap[w.heap.size+1]? = some (.cells #[.int .i64 0,.int .i64 0] 240 (0,0))):=hwq;clear hbq hxq hwq hmb c0;refine (qL1 ab most vs vf rs fr k rs1 fr1 wq (HA.out.below HBQ.out lR7) HR.out hl (by omega)).mono ?_;rintro e w1 ⟨rfl,vs',vf',h1,h2,h3⟩;obtain ⟨g,cap,rfl,d0,d1,d2,d3,d4,d5,d6⟩:=h1.slot hk rfl rfl rfl;have f0:=h1.slots.frozenAt (k*7);have f1:=h1.slots.frozenAt (k*7+1);have f2:=h1.slots.frozenAt (k*7+2);have f3:=h1.slots.frozenAt (k*7+3);have f4:=h1.slots.frozenAt (k*7+4);have f6:=h1.slots.frozenAt (k*7+6);have hxx:=aE0 HXQ.out h2 (fun e=>by have:=HA.out.lt e;omega);have hbx:=aE0 HWQ.out h2 (fun e=>by have:=HA.out.lt e;omega);have hne:w.heap.size+1≠g:=fun e=>aF0 h1.slots hbx (by decide) (by rw [e];rfl)
 have hne2:w.heap.size≠g:=fun e=>aF0 h1.slots hxx (by decide) (by rw [e];rfl)
 have z0:=aA0 (j:=0) hxx rfl;have z1:=aA0 (j:=1) hxx rfl;have z2:=aA0 (j:=2) hxx rfl;have z3:=aA0 (j:=3) hxx rfl;have z4:=aA0 (j:=4) hxx rfl;have c1:=aA0 (j:=1) h1.box rfl;have HBX:Hid (w1.heap[w.heap.size+1]? = some (.cells #[.int .i64 0,.int .i64 0] 240 (0,0))):=hbx;have H1:Hid (ArOr w1 ab most (.slice (some ⟨g,0,none⟩) rs1.length cap) vf' rs1 fr1):=h1;have H2:Hid (Out (aoB ab vs vf) wq w1):=h2;have H3:Hid (Went wq (aoB ab vs vf) (aoB ab (.slice (some ⟨g,0,none⟩) rs1.length cap) vf')):=h3;clear h1 h2 h3 hbx hxx;have q1:(0:Int)≤(k:Int):=by omega
 have q2:(k:Int)<rs1.length:=by omega
 go_upto_region 6 with fail;obtain ⟨r1,r2⟩:=H1.out.putThing (x:=x) hk;have lq:w.heap.size+1<wq.heap.size:=lt_of_block HWQ.out;have hbz:=aE0 HBX.out r2 (fun e=>hne e);generalize ((((((w1.setCell ⟨g,k*7,none⟩ (.int .i64 x.id)).setCell ⟨g,k*7+1,none⟩ (.int .i64 x.side)).setCell ⟨g,k*7+2,none⟩ (.int .i64 x.kind)).setCell ⟨g,k*7+3,none⟩ (.int .i64 x.price)).setCell ⟨g,k*7+4,none⟩ (.int .i64 x.qty)).setCell ⟨g,k*7+6,none⟩ (.bool true))=wz at r1 r2 hbz ⊢;obtain ⟨_,g',cap',hv,_,_,_,_,_,e5,_⟩:=r1.has (cO0 _ hk);simp only [Value.slice.injEq,Option.some.injEq,Addr.mk.injEq,and_true] at hv;obtain ⟨rfl,_,rfl⟩:=hv;have R1:Hid _:=r1;have R2:Hid _:=r2;have x0:=aA0 (j:=0) hbz rfl;have x1:=aA0 (j:=1) hbz rfl;have y0:=aB0 (j:=0) hbz;have y1:=aB0 (j:=1) hbz;clear d0 d1 d2 d3 d4 d5 d6 f0 f1 f2 f3 f4 f6 z0 z1 z2 z3 z4 c1 r1 r2 hbz q1 q2;go_wp2;refine bodyPost_ret (by simp [results,Tryz.results274,go_sem,x0,x1];try rfl) rfl ?_
 have sep:∀j,aoB ab (.slice (some ⟨g,0,none⟩) rs1.length cap) vf' j→¬j=w.heap.size+1:=fun j hj e=>by
  rcases H3.out j hj with h4 | h4
  ·have:=HA.out.lt h4;omega
  ·omega
 have s1:=aN0 wz ⟨w.heap.size+1,0,none⟩ (.int .i64 k);have s2:=aN0 (wz.setCell ⟨w.heap.size+1,0,none⟩ (.int .i64 k)) ⟨w.heap.size+1,1,none⟩ (.int .i64 (soAt rs1 k).2);have s3:=s1.trans s2 (Went.refl _ _);refine ⟨rfl,_,vf',R1.out.out s3 sep,?_,fun j hj=>(H3.out j hj).imp id (fun h4=>by omega)⟩;refine ((((Out.of_below HBQ.out lR7).trans H2.out (Went.refl _ _)).trans R2.out ?_).trans s3 ?_)
 ·rintro j rfl;exact (H3.out j (Or.inr (Or.inl rfl))).imp id (fun h4=>by omega)
 ·rintro j rfl;exact Or.inr (by simp)
theorem nM1 {P:Program} {id:Nat} {Q:Exit→Act→World→Prop} {a:Act} {w:World} {l:List Oper} (n:Nat) (hm:P.follows .mixedOrders=true) (hB:Region.lexTailB .any l.toArray n=true)
  (h:wpStill P l.toArray w.drew (fun a'=>wpList P l.toArray Q (l.drop n) a' w.drew) (l.take n) a):(Code.region id l.toArray true).wp P Q a w:=wp_region_still_tail n hm hB h
def cB1 (w:World) (g k:Nat) (a:Int):World:=((((((w.setCell ⟨g,k*7,none⟩ (.int .i64 0)).setCell ⟨g,k*7+1,none⟩ (.int .i64 0)).setCell ⟨g,k*7+2,none⟩ (.int .i64 0)).setCell ⟨g,k*7+3,none⟩ (.int .i64 0)).setCell ⟨g,k*7+4,none⟩ (.int .i64 0)).setCell ⟨g,k*7+5,none⟩ (.int .i64 a)).setCell ⟨g,k*7+6,none⟩ (.bool false)
theorem ArOr.clear {w:World} {ab g n cap k:Nat} {most a:Int} {vf:Value} {rs:List Sot} {fr:List Nat} (h:ArOr w ab most (.slice (some ⟨g,0,none⟩) n cap) vf rs fr) (hk:k<rs.length):
  ArOr (cB1 w g k a) ab most (.slice (some ⟨g,0,none⟩) n cap) vf (rs.set k (none,a)) fr∧Out (fun j=>j=g) w (cB1 w g k a):=by
 obtain rfl:=mO0 h.slots;obtain ⟨h1,h2,h3,h4⟩:=ArOr.raw h.box h.slots h.free (k*7) (.int .i64 0) (.int .i64 0) (.int .i64 0) (.int .i64 0) (.int .i64 0);obtain ⟨g1,g2,g3,g4⟩:=eT0 h1 h2 h3 (k*7+5) (.int .i64 a);obtain ⟨i1,i2,i3,i4⟩:=eT0 g1 g2 g3 (k*7+6) (.bool false);refine ⟨⟨i1,?_,i3⟩,(h4.trans g4 (Went.refl _ _)).trans i4 (Went.refl _ _)⟩;have e:=bV1 (none,a) hk;rw [List.length_set,←e];exact i2
theorem xP0 (w:World) (b:Nat) (u0 u1 u2 u3 u4:Value):Out (fun j=>j=b) w (((((w.setCell ⟨b,0,none⟩ u0).setCell ⟨b,1,none⟩ u1).setCell ⟨b,2,none⟩ u2).setCell ⟨b,3,none⟩ u3).setCell ⟨b,4,none⟩ u4):=
 ((((aN0 w ⟨b,0,none⟩ u0).trans (aN0 _ ⟨b,1,none⟩ u1) (Went.refl _ _)).trans (aN0 _ ⟨b,2,none⟩ u2) (Went.refl _ _)).trans (aN0 _ ⟨b,3,none⟩ u3) (Went.refl _ _)).trans (aN0 _ ⟨b,4,none⟩ u4) (Went.refl _ _)
theorem ArOr.freed {w w1:World} {ab g cap k H:Nat} {most:Int} {vs vf:Value} {rs:List Sot} {fr:List Nat} {o:Obj} (h:ArOr w ab most vs vf rs fr)
  (hown:w1.ownsRow 0 3 1 (.slice (some ⟨g,0,none⟩) (fr.length+1) cap) (fr.length+1) (frV (fr++[k]))) (hg:(w.alloc o).grownBy w1 vf.ownBlock) (hat:vf.ownBlock=some g∨g=H) (hH:w.heap.size≤H):
  ArOr (w1.setCell ⟨ab,2,none⟩ (.slice (some ⟨g,0,none⟩) (fr.length+1) cap)) ab most vs (.slice (some ⟨g,0,none⟩) (fr.length+1) cap) rs (fr++[k])
  ∧Out (aoB ab vs vf) w (w1.setCell ⟨ab,2,none⟩ (.slice (some ⟨g,0,none⟩) (fr.length+1) cap))∧Went w (aoB ab vs vf) (aoB ab vs (.slice (some ⟨g,0,none⟩) (fr.length+1) cap)):=by
 have o1:Out (fun k=>vf.ownBlock=some k) w w1:=(Out.of_below (bel1 w o) lR7).trans (Out.of_grown hg (fun k hk=>hk)) (Went.refl _ _);have b1:w1.heap[ab]? = some (.cells #[.int .i64 most,vs,vf] 297 (0,0)):=aE0 h.box o1 (aF0 h.free h.box (by decide));have f1:w1.ownsRow 0 312 7 vs rs.length (soV rs):=aL0 h.slots o1 (fun k hk=>bJ0 h.slots h.free (by decide) hk);have o2:=aN0 w1 ⟨ab,2,none⟩ (.slice (some ⟨g,0,none⟩) (fr.length+1) cap);refine ⟨⟨by simpa using aH0 (j:=2) (.slice (some ⟨g,0,none⟩) (fr.length+1) cap) b1,ownsRow_setCell_other f1 (aF0 f1 b1 (by decide)) _,?_⟩,?_,?_⟩
 ·rw [List.length_append,List.length_singleton];exact ownsRow_setCell_other hown (aF0 hown b1 (by decide)) _
 ·exact (o1.mono (S':=aoB ab vs vf) (fun k hk=>Or.inr (Or.inr hk))).trans (o2.mono (S':=aoB ab vs vf) (fun k hk=>Or.inl hk)) (Went.refl _ _)
 ·rintro k (rfl | hk | hk)
  ·exact Or.inl (Or.inl rfl)
  ·exact Or.inl (Or.inr (Or.inl hk))
  ·injection hk with hk
   change g=k at hk
   subst hk;rcases hat with hat | hat
   ·exact Or.inl (Or.inr (Or.inr hat))
   ·exact Or.inr (by omega)
set_option maxRecDepth 100000 in
set_option maxHeartbeats 2000000 in
theorem qM1 (ab:Nat) (most:Int) (vs vf:Value) (rs:List Sot) (fr:List Nat) (k:Nat) (o:Ord) (a:Int) (w:World) (h:ArOr w ab most vs vf rs fr) (hk:soAt rs k=(some o,a)) (hl:rs.length≤1000000) (hfl:fr.length≤rs.length) (hag:0≤a∧a≤1000000):
  Calls Tryz.prog 173 #[.pointer (some ⟨ab,0,none⟩),.agg #[.int .i64 k,.int .i64 a]] w
   fun e w'=>e=.returned (.tuple #[o.agg,.nilIface])∧∃vf',ArOr w' ab most vs vf' (rs.set k (none,a+1)) (fr++[k])∧Out (aoB ab vs vf) w w'∧Went w (aoB ab vs vf) (aoB ab vs vf'):=by
 obtain ⟨i0,hi,hz0,hz1,hz2⟩:=info_parts Tryz.infoNumO;have HA:Hid (ArOr w ab most vs vf rs fr):=h;have HK:Hid (soAt rs k=(some o,a)):=hk;have HG:Hid (0≤a∧a≤1000000):=hag;clear h hag hk;go_enter Tryz.func173,Tryz.ntmps173;go_wp2_with fail;refine (nL1 ab most vs vf rs fr k o a _ (HA.out.below (bel2 _ _ _) lR7) HK.out).mono ?_;rintro e w1 ⟨hb,rfl⟩;have hh:=(hb.block (w.heap.size) (by simp;omega)).trans (eG0 w _ _);have hr:=(hb.block (w.heap.size+1) (by simp)).trans (dK0 w _ _);have HR0:Hid _:=hr;have HB:Hid (Below w.heap.size w w1):=aC0 (bel2 w _ _) hb;unfold Ord.agg;go_upto_region 4 with fail;have hh:=aD0 hh (bel1 w1 (.cells #[.int .i64 o.id,.int .i64 o.side,.int .i64 o.kind,.int .i64 o.price,.int .i64 o.qty] 92)) lR7;have hr:=aD0 hr (bel1 w1 (.cells #[.int .i64 o.id,.int .i64 o.side,.int .i64 o.kind,.int .i64 o.price,.int .i64 o.qty] 92)) lR7;have hx:=heap_alloc_new w1 (.cells #[.int .i64 o.id,.int .i64 o.side,.int .i64 o.kind,.int .i64 o.price,.int .i64 o.qty] 92);have HB1:Hid (Below w.heap.size w (w1.alloc (.cells #[.int .i64 o.id,.int .i64 o.side,.int .i64 o.kind,.int .i64 o.price,.int .i64 o.qty] 92))):=aC0 HB.out (bel1 _ _);generalize w1.alloc (.cells #[.int .i64 o.id,.int .i64 o.side,.int .i64 o.kind,.int .i64 o.price,.int .i64 o.qty] 92)=wa at hh hr hx HB1 ⊢;have hxb1:w.heap.size≤w1.heap.size:=HB.out.size;have hxb2:w1.heap.size≠w.heap.size+1:=fun e=>by have:=lt_of_block HR0.out;omega
 generalize w1.heap.size=xb at hx hxb1 hxb2 ⊢;have HXB:Hid (w.heap.size≤xb):=hxb1;have HXN:Hid (xb≠w.heap.size+1):=hxb2;clear hb HB hxb1 hxb2;have HH:Hid (wa.heap[w.heap.size]? = some (.cells #[.int .i64 k,.int .i64 a] 240 (0,0))):=hh;have HR:Hid (wa.heap[w.heap.size+1]? = some (.cells #[.int .i64 0,.int .i64 0,.int .i64 0,.int .i64 0,.int .i64 0] 92 (0,0))):=hr;have HX:Hid (wa.heap[xb]? = some (.cells #[.int .i64 o.id,.int .i64 o.side,.int .i64 o.kind,.int .i64 o.price,.int .i64 o.qty] 92 (0,0))):=hx;have H1:Hid (ArOr wa ab most vs vf rs fr):=HA.out.below HB1.out lR7;obtain ⟨hk1,g,cap,rfl,d0,d1,d2,d3,d4,d5,d6⟩:=H1.out.has HK.out;have x0:=aA0 (j:=0) hh rfl;have x1:=aA0 (j:=1) hh rfl;have c1:=aA0 (j:=1) H1.out.box rfl;have f0:=H1.out.slots.frozenAt (k*7);have f1:=H1.out.slots.frozenAt (k*7+1);have f2:=H1.out.slots.frozenAt (k*7+2);have f3:=H1.out.slots.frozenAt (k*7+3);have f4:=H1.out.slots.frozenAt (k*7+4);have f5:=H1.out.slots.frozenAt (k*7+5);have f6:=H1.out.slots.frozenAt (k*7+6);have q0:IntKind.i64.wrap (a+1)=a+1:=IntWalk.i64_in _ (by have:=HG.out;omega);have q1:(0:Int)≤(k:Int):=by omega
 have q2:(k:Int)<rs.length:=by omega
 clear hh hr hx;refine nM1 11 (by kernel_rfl) (by kernel_rfl) ?_;simp only [List.take_succ_cons,List.take_zero,List.drop_succ_cons,List.drop_zero]
 repeat still_step
 try refine wpStill_nil ?_
 go_upto_region 5 with fail;obtain ⟨r1,r2⟩:=H1.out.clear (a:=a+1) hk1;unfold cB1 at r1 r2;generalize hw2:((((((wa.setCell ⟨g,k*7,none⟩ (.int .i64 0)).setCell ⟨g,k*7+1,none⟩ (.int .i64 0)).setCell ⟨g,k*7+2,none⟩ (.int .i64 0)).setCell ⟨g,k*7+3,none⟩ (.int .i64 0)).setCell ⟨g,k*7+4,none⟩ (.int .i64 0)).setCell ⟨g,k*7+5,none⟩ (.int .i64 (a+1))).setCell ⟨g,k*7+6,none⟩ (.bool false)=w2 at r1 r2 ⊢;clear hw2;have hh2:=aE0 HH.out r2 (fun e=>aF0 H1.out.slots HH.out (by decide) (by rw [e];rfl));have hr2:=aE0 HR.out r2 (fun e=>aF0 H1.out.slots HR.out (by decide) (by rw [e];rfl));have hx2:=aE0 HX.out r2 (fun e=>aF0 H1.out.slots HX.out (by decide) (by rw [e];rfl));have H2:Hid (ArOr w2.drew ab most (.slice (some ⟨g,0,none⟩) rs.length cap) vf (rs.set k (none,a+1)) fr):=r1.below (Below.refl w2.heap.size w2).drew lR7;have HO2:Hid (Out (aoB ab (.slice (some ⟨g,0,none⟩) rs.length cap) vf) wa w2.drew):=(r2.mono (S':=aoB ab (.slice (some ⟨g,0,none⟩) rs.length cap) vf) (fun j hj=>Or.inr (Or.inl (by rw [hj];rfl)))).trans (Out.of_below (Below.refl w2.heap.size w2).drew lR7) (Went.refl _ _);have HH2:Hid (w2.drew.heap[w.heap.size]? = some (.cells #[.int .i64 k,.int .i64 a] 240 (0,0))):=hh2;have HR2:Hid (w2.drew.heap[w.heap.size+1]? = some (.cells #[.int .i64 0,.int .i64 0,.int .i64 0,.int .i64 0,.int .i64 0] 92 (0,0))):=hr2;have HX2:Hid (w2.drew.heap[xb]? = some (.cells #[.int .i64 o.id,.int .i64 o.side,.int .i64 o.kind,.int .i64 o.price,.int .i64 o.qty] 92 (0,0))):=hx2;clear r1 r2 hh2 hr2 hx2 d0 d1 d2 d3 d4 d5 d6 x0 x1 c1 f0 f1 f2 f3 f4 f5 f6 q0 q1 q2;generalize w2.drew=w3 at H2 HO2 HH2 HR2 HX2 ⊢;have y0:w3.cell? ⟨w.heap.size,0,none⟩=some (.int .i64 k):=aA0 (j:=0) HH2.out rfl;have ly:w.heap.size<w3.heap.size:=lt_of_block HH2.out;have z2:w3.cell? ⟨ab,2,none⟩=some vf:=aA0 (j:=2) H2.out.box rfl;have lz:ab<w3.heap.size:=lt_of_block H2.out.box;have A1:vf.ownBlock≠some ab:=aF0 H2.out.free H2.out.box (by decide);have A2:vf.ownBlock≠some w.heap.size:=aF0 H2.out.free HH2.out (by decide);have A3:vf.ownBlock≠some (w.heap.size+1):=aF0 H2.out.free HR2.out (by decide);have A4:vf.ownBlock≠some xb:=aF0 H2.out.free HX2.out (by decide);have lr:w.heap.size+1<w3.heap.size:=lt_of_block HR2.out;have lx:xb<w3.heap.size:=lt_of_block HX2.out;obtain ⟨fo,fc,rfl,_,_⟩:=aY0 H2.out.free;have fz:w3.frozen? ⟨ab,2,none⟩=false:=aB0 H2.out.box;have fy:(w3.alloc (.cells #[.int .i64 k] 3)).drew.frozen? ⟨ab,2,none⟩=false:=((((Below.refl w3.heap.size w3).alloc lR7 _).drew).frozen (p:=⟨ab,2,none⟩) lz).trans fz;go_region_law ((refine step_append_lies _ (by rfl) _ _ _ (by rfl) 0 3 i0 (.int .i64 0) 1 8 Tryz.underlying59 hi hz0 hz1 hz2 rfl (by omega) (.slice fo fr.length fc) fr.length (frV fr) (by rfl) ((H2.out.free.alloc _).drew) ⟨w3.heap.size,0,none⟩ 1 1 [.int .i64 k] (by rfl) (by rfl) (World.news_of_block (cs:=#[.int .i64 k]) (t:=3) (fr:=(0,0)) (heap_alloc_new w3 _)) (by simp [Value.oneCell']) (by omega) (by unfold maxLen;omega) (by omega) (Nat.zero_le _) (w3.heap.size+1) (by simp) ?_;intro g2 cap2 w4 hown hgrow hat hlt;have hb4:=(hgrow.block ab (by simp;omega) (Ne.symm A1)).trans ((((Below.refl w3.heap.size w3).alloc lR7 _).drew.block ab lz).trans H2.out.box);have z4:=aA0 (j:=2) hb4 rfl;have z5:=aB0 (j:=2) hb4))
 all_goals go_upto_region 6 with fail
 all_goals obtain ⟨r1,r2,r3⟩:=H2.out.freed (k:=k) (by rw [xN0];exact hown) ⟨hgrow.os,hgrow.tape,hgrow.output,hgrow.size,hgrow.block⟩ hat (by omega)
 all_goals have hne:∀j,(w.heap.size≤j)→¬aoB ab (.slice (some ⟨g,0,none⟩) rs.length cap) (.slice fo fr.length fc) j:=fun j hj e=>by have:=HA.out.lt e;omega
 all_goals have hr5:=aE0 HR2.out r2 (hne _ (by omega))
 all_goals have hx5:=aE0 HX2.out r2 (hne _ (HXB.out))
 all_goals generalize w4.setCell ⟨ab,2,none⟩ (.slice (some ⟨g2,0,none⟩) (fr.length+1) cap2)=w5 at r1 r2 r3 hr5 hx5 ⊢
 all_goals have R1:Hid _:=r1
 all_goals have R2:Hid _:=r2
 all_goals have R3:Hid _:=r3
 all_goals have hnx:xb≠w.heap.size+1:=HXN.out
 all_goals have e0:=aA0 (j:=0) hx5 rfl
 all_goals have e1:=aA0 (j:=1) hx5 rfl
 all_goals have e2:=aA0 (j:=2) hx5 rfl
 all_goals have e3:=aA0 (j:=3) hx5 rfl
 all_goals have e4:=aA0 (j:=4) hx5 rfl
 all_goals have u0:=aA0 (j:=0) hr5 rfl
 all_goals have u1:=aA0 (j:=1) hr5 rfl
 all_goals have u2:=aA0 (j:=2) hr5 rfl
 all_goals have u3:=aA0 (j:=3) hr5 rfl
 all_goals have u4:=aA0 (j:=4) hr5 rfl
 all_goals have v0:=aB0 (j:=0) hr5
 all_goals have v1:=aB0 (j:=1) hr5
 all_goals have v2:=aB0 (j:=2) hr5
 all_goals have v3:=aB0 (j:=3) hr5
 all_goals have v4:=aB0 (j:=4) hr5
 all_goals clear r1 r2 r3 hr5 hx5 hown hgrow hat hlt hb4 z4 z5 fy fz z2 y0
 all_goals go_wp2
 all_goals refine bodyPost_ret (by simp [results,Tryz.results173,go_sem,u0,u1,u2,u3,u4];try rfl) rfl ?_
 all_goals have s3:=xP0 w5 (w.heap.size+1) (.int .i64 o.id) (.int .i64 o.side) (.int .i64 o.kind) (.int .i64 o.price) (.int .i64 o.qty)
 all_goals have b0a:=Out.of_below (S:=aoB ab (.slice (some ⟨g,0,none⟩) rs.length cap) (.slice fo fr.length fc)) HB1.out lR7
 all_goals have b03:=b0a.trans HO2.out (Went.refl _ _)
 all_goals have b05:=b03.trans R2.out (Went.refl _ _)
 all_goals have w05:Went w (aoB ab (.slice (some ⟨g,0,none⟩) rs.length cap) (.slice fo fr.length fc)) _:=fun j hj=>(R3.out j hj).imp id (fun h4=>Nat.le_trans b03.size h4)
 all_goals refine ⟨rfl,_,R1.out.out s3 (fun j hj e=>?_),b05.trans s3 (fun j hj=>Or.inr (by omega)),w05⟩
 all_goals rcases R3.out j hj with h4 | h4
 all_goals first | (have:=HA.out.lt h4;omega) | omega
end Go.Proofs.YtaelphbianmckaaGreatDoor
namespace Go.Proofs.YtaelphbianmckaaGreatDoor
open Go.RowKit Go.Maps
def plE (k a s:Int):DataW Unit:=.agg [.lit (.int .i64 k),.lit (.int .i64 a),.lit (.int .i64 s)]
def plR (v:Value):Option (DataW Unit×List MemPlace):=
 match v with
 | .agg ⟨[.int .i64 k,.int .i64 a,.int .i64 s]⟩=>some (plE k a s,[])
 | _=>none
theorem qN1 (k a s:Int):plR (.agg #[.int .i64 k,.int .i64 a,.int .i64 s])=some (plE k a s,[]):=rfl
theorem cC1 {v:Value} {k a s:Int} {ps:List MemPlace} (h:plR v=some (plE k a s,ps)):v=.agg #[.int .i64 k,.int .i64 a,.int .i64 s]:=by
 unfold plR at h;split at h
 ·simp only [plE,Option.some.injEq,Prod.mk.injEq,DataW.agg.injEq,List.cons.injEq,DataW.lit.injEq,Lit.int.injEq,true_and,and_true] at h;obtain ⟨⟨rfl,rfl,rfl⟩,_⟩:=h;rfl
 ·cases h
theorem Tryz.keyI:Maps.Keyed Tryz.prog 3:=Maps.int_keyed Tryz.underlying3
theorem Tryz.keyAt {a:Int} (h:(Lit.int .i64 a).wf=true):keyOf Tryz.prog 3 (.int .i64 a)=some (.int .i64 a):=Maps.keyOf_int_mk Tryz.underlying3 h
theorem Tryz.zeroPl (w:World):(zeroValue 242).run Tryz.prog w=.ok (.agg #[.int .i64 0,.int .i64 0,.int .i64 0]) w:=by kernel_rfl
theorem nJ0 {a b:Int} (h:Lit.int .i64 a=Lit.int .i64 b):a=b:=by injection h
theorem nN1 (a:Int):WideAt.IsKeyLit (.int .i64 a):=trivial
def eB0 (w:World) (mb n:Nat) (S:Nat→List Ly):Prop:=
 ∃D:DataW Unit,w.ownsMap Tryz.prog 3 plR mb n D∧(∀s,s<2→∀x∈S s,Maps.has D (.int .i64 x.o.id)=true∧∀z,D.atKey (.int .i64 x.o.id) z=plE x.slot x.age s)
  ∧∀id:Int,(∀s,s<2→∀x∈S s,x.o.id≠id)→Maps.has D (.int .i64 id)=false
theorem qZ0 {w w':World} {P:Program} {k:TypeId} {R:Value→Option (DataW Unit×List MemPlace)} {b n:Nat} {D:DataW Unit} (h:w.ownsMap P k R b n D) (hb:w'.heap[b]? = w.heap[b]?):w'.ownsMap P k R b n D:=by
 obtain ⟨es,clock,h1,r⟩:=h;exact ⟨es,clock,hb.trans h1,r⟩
theorem eB0.same {w w':World} {mb n:Nat} {S:Nat→List Ly} (h:eB0 w mb n S) (hb:w'.heap[mb]? = w.heap[mb]?):eB0 w' mb n S:=by
 obtain ⟨D,h1,r⟩:=h;exact ⟨D,qZ0 h1 hb,r⟩
theorem eB0.lt {w:World} {mb n:Nat} {S:Nat→List Ly} (h:eB0 w mb n S):mb<w.heap.size:=by
 obtain ⟨D,h1,r⟩:=h;exact h1.lt
theorem eB0.isMap {w:World} {mb n:Nat} {S:Nat→List Ly} (h:eB0 w mb n S):∃es clock,w.heap[mb]? = some (.map es clock):=by
 obtain ⟨D,⟨es,clock,h1,_⟩,_⟩:=h;exact ⟨es,clock,h1⟩
theorem eB0.ne {w:World} {mb n b:Nat} {S:Nat→List Ly} {vs:Array Value} {t:TypeId} {f:Nat×Nat} (h:eB0 w mb n S) (hb:w.heap[b]? = some (.cells vs t f)):b≠mb:=fun e=>by
 obtain ⟨es,clock,h1⟩:=h.isMap;rw [e,h1] at hb;cases hb
theorem eB0.yes {w:World} {mb n s:Nat} {S:Nat→List Ly} {x:Ly} (h:eB0 w mb n S) (hs:s<2) (hx:x∈S s) (hw:(Lit.int .i64 x.o.id).wf=true):
  (Instr.lookup 229 (.map (some mb)) (.int .i64 x.o.id) true).run Tryz.prog w=.ok (.tuple #[.agg #[.int .i64 x.slot,.int .i64 x.age,.int .i64 s],.bool true]) w:=by
 obtain ⟨D,h1,h2,_⟩:=h;obtain ⟨v,ps,hr,hv⟩:=h1.look_ok Tryz.keyI Tryz.underlying229 (Tryz.zeroPl w) (zd:=plE 0 0 0) (zp:=[]) rfl (Tryz.keyAt hw);obtain ⟨h3,h4⟩:=h2 s hs x hx;rw [h3] at hr;rw [h4] at hv;rw [hr,cC1 hv]
theorem eB0.no {w:World} {mb n:Nat} {S:Nat→List Ly} {id:Int} (h:eB0 w mb n S) (hx:∀s,s<2→∀x∈S s,x.o.id≠id) (hw:(Lit.int .i64 id).wf=true):
  (Instr.lookup 229 (.map (some mb)) (.int .i64 id) true).run Tryz.prog w=.ok (.tuple #[.agg #[.int .i64 0,.int .i64 0,.int .i64 0],.bool false]) w:=by
 obtain ⟨D,h1,_,h2⟩:=h;obtain ⟨v,ps,hr,hv⟩:=h1.look_ok Tryz.keyI Tryz.underlying229 (Tryz.zeroPl w) (zd:=plE 0 0 0) (zp:=[]) rfl (Tryz.keyAt hw);have h3:=h2 id hx;rw [h3] at hr;rw [Maps.atKey_of_not_has h3] at hv;rw [hr,cC1 hv]
theorem lB0 {w w':World} {mb:Nat} (h:w.mapTurned w' mb):Out (fun j=>j=mb) w w':=Out.of_grown h.grown (fun k hk=>by injection hk with hk;exact hk.symm)
theorem eB0.put {w:World} {mb n s:Nat} {S S':Nat→List Ly} {x:Ly} (h:eB0 w mb n S) (hs:s<2) (hw:(Lit.int .i64 x.o.id).wf=true) (hn:n<1000000) (hno:∀t,t<2→∀y∈S t,y.o.id≠x.o.id)
  (hS:∀t,t<2→∀y,y∈S' t↔((t=s∧y=x)∨y∈S t)):
  ∃w',(Instr.mapUpdate 229 (.map (some mb)) (.int .i64 x.o.id) (.agg #[.int .i64 x.slot,.int .i64 x.age,.int .i64 s])).run Tryz.prog w=.ok () w'∧eB0 w' mb (n+1) S'∧Out (fun j=>j=mb) w w':=by
 obtain ⟨D,h1,h2,h3⟩:=h;obtain ⟨w',hr,h4,h5⟩:=h1.store Tryz.keyI Tryz.underlying229 (by unfold maxLen;omega) (Tryz.keyAt hw) (qN1 x.slot x.age s);refine ⟨w',hr,⟨_,h4,fun t ht y hy=>?_,fun id hid=>?_⟩,lB0 h5⟩
 ·rcases (hS t ht y).1 hy with ⟨rfl,rfl⟩ | hy
  ·exact ⟨Maps.has_put_same h1.isMap (nN1 _) _,fun z=>Maps.atKey_put_same h1.isMap (nN1 _) _ _⟩
  ·have hne:Lit.int .i64 y.o.id≠Lit.int .i64 x.o.id:=fun e=>hno t ht y hy (nJ0 e)
   rw [Maps.has_put_other hne];exact ⟨(h2 t ht y hy).1,fun z=>by rw [Maps.atKey_put_other hne];exact (h2 t ht y hy).2 z⟩
 ·have hne:Lit.int .i64 id≠Lit.int .i64 x.o.id:=fun e=>hid s hs x ((hS s hs x).2 (Or.inl ⟨rfl,rfl⟩)) (nJ0 e).symm
  rw [Maps.has_put_other hne];exact h3 id (fun t ht y hy=>hid t ht y ((hS t ht y).2 (Or.inr hy)))
theorem eB0.del {w:World} {mb n:Nat} {S S':Nat→List Ly} {x:Ly} (h:eB0 w mb n S) (hw:(Lit.int .i64 x.o.id).wf=true)
  (hS:∀t,t<2→∀y,y∈S' t↔(y∈S t∧y.o.id≠x.o.id)) (ty:TypeId):
  ∃w',(Builtin.delete_ #[229,3] ty #[.map (some mb),.int .i64 x.o.id]).run Tryz.prog w=.ok (.tuple #[]) w'∧eB0 w' mb n S'∧Out (fun j=>j=mb) w w':=by
 obtain ⟨D,h1,h2,h3⟩:=h;obtain ⟨w',hr,h4,h5⟩:=h1.drop Tryz.keyI Tryz.underlying229 (Tryz.keyAt hw) ty;refine ⟨w',hr,⟨_,h4,fun t ht y hy=>?_,fun id hid=>?_⟩,lB0 h5⟩
 ·obtain ⟨hy,hne'⟩:=(hS t ht y).1 hy;have hne:Lit.int .i64 y.o.id≠Lit.int .i64 x.o.id:=fun e=>hne' (nJ0 e)
  rw [Maps.has_del_other hne];exact ⟨(h2 t ht y hy).1,fun z=>by rw [Maps.atKey_del_other hne];exact (h2 t ht y hy).2 z⟩
 ·by_cases e:id=x.o.id
  ·subst e;exact Maps.has_del_same
  ·have hne:Lit.int .i64 id≠Lit.int .i64 x.o.id:=fun e'=>e (nJ0 e')
   rw [Maps.has_del_other hne];exact h3 id (fun t ht y hy e'=>hid t ht y ((hS t ht y).2 ⟨hy,fun e''=>e (e'.symm.trans e'')⟩) e')
theorem eB0.like {w:World} {mb n:Nat} {S S':Nat→List Ly} (h:eB0 w mb n S) (h1:∀t,t<2→∀y∈S' t,∃z∈S t,z.o.id=y.o.id∧z.slot=y.slot∧z.age=y.age) (h2:∀t,t<2→∀z∈S t,∃y∈S' t,y.o.id=z.o.id):eB0 w mb n S':=by
 obtain ⟨D,a,b,c⟩:=h;refine ⟨D,a,fun t ht y hy=>?_,fun id hid=>c id (fun t ht z hz=>?_)⟩
 ·obtain ⟨z,hz,e1,e2,e3⟩:=h1 t ht y hy;rw [←e1,←e2,←e3];exact b t ht z hz
 ·obtain ⟨y,hy,e⟩:=h2 t ht z hz;rw [←e];exact hid t ht y hy
structure BookAt (w:World) (bb ab mb n:Nat) (vs vf v0 v1:Value) (rs:List Sot) (fr:List Nat) (S:Nat→List Ly):Prop where
 box:w.heap[bb]? = some (.cells #[.pointer (some ⟨ab,0,none⟩),.map (some mb),v0,v1] 233 (0,0))
 ar:ArOr w ab 100 vs vf rs fr
 map:eB0 w mb n S
 row0:w.ownsRow 0 240 2 v0 (S 0).length (hV (S 0))
 row1:w.ownsRow 0 240 2 v1 (S 1).length (hV (S 1))
 apart:∀k,v0.ownBlock=some k→v1.ownBlock≠some k
def pbB (bb ab mb:Nat) (vs vf v0 v1:Value) (k:Nat):Prop:=k=bb∨aoB ab vs vf k∨k=mb∨v0.ownBlock=some k∨v1.ownBlock=some k
section
variable {w w':World} {bb ab mb n:Nat} {vs vf v0 v1:Value} {rs:List Sot} {fr:List Nat} {S:Nat→List Ly}
theorem BookAt.lt (h:BookAt w bb ab mb n vs vf v0 v1 rs fr S) {k:Nat} (hk:pbB bb ab mb vs vf v0 v1 k):k<w.heap.size:=by
 rcases hk with rfl | hk | rfl | hk | hk
 ·exact lt_of_block h.box
 ·exact h.ar.lt hk
 ·exact h.map.lt
 ·exact (h.row0.lt k hk).2
 ·exact (h.row1.lt k hk).2
theorem BookAt.out {T:Nat→Prop} (h:BookAt w bb ab mb n vs vf v0 v1 rs fr S) (ho:Out T w w') (hT:∀k,pbB bb ab mb vs vf v0 v1 k→¬T k):BookAt w' bb ab mb n vs vf v0 v1 rs fr S:=
 ⟨aE0 h.box ho (hT bb (Or.inl rfl)),h.ar.out ho (fun k hk=>hT k (Or.inr (Or.inl hk))),h.map.same (ho.block mb h.map.lt (hT mb (Or.inr (Or.inr (Or.inl rfl))))),
  aL0 h.row0 ho (fun k hk=>hT k (Or.inr (Or.inr (Or.inr (Or.inl hk))))),aL0 h.row1 ho (fun k hk=>hT k (Or.inr (Or.inr (Or.inr (Or.inr hk))))),h.apart⟩
theorem BookAt.below {B:Nat} (h:BookAt w bb ab mb n vs vf v0 v1 rs fr S) (hb:Below B w w') (hB:w.heap.size≤B):BookAt w' bb ab mb n vs vf v0 v1 rs fr S:=
 h.out (T:=fun _=>False) (Out.of_below hb hB) (fun _ _ e=>e)
theorem BookAt.above {B:Nat} (h:BookAt w bb ab mb n vs vf v0 v1 rs fr S) (hb:Below B w w') (hB:∀k,pbB bb ab mb vs vf v0 v1 k→k<B):BookAt w' bb ab mb n vs vf v0 v1 rs fr S:=
 h.out (T:=fun k=>B≤k) ⟨hb.os,hb.tape,hb.output,hb.size,fun k hk hT=>hb.block k (by omega)⟩ (fun k hk e=>by have:=hB k hk;omega)
theorem BookAt.notBox (h:BookAt w bb ab mb n vs vf v0 v1 rs fr S):¬aoB ab vs vf bb:=fun e=>by
 rcases e with e | e | e
 ·exact dV0 h.box h.ar.box (by decide) e
 ·exact aF0 h.ar.slots h.box (by decide) e
 ·exact aF0 h.ar.free h.box (by decide) e
theorem BookAt.notRow0 (h:BookAt w bb ab mb n vs vf v0 v1 rs fr S) {k:Nat} (hk:v0.ownBlock=some k):¬aoB ab vs vf k:=fun e=>by
 rcases e with e | e | e
 ·exact aF0 h.row0 (e ▸ h.ar.box) (by decide) hk
 ·exact bJ0 h.row0 h.ar.slots (by decide) hk e
 ·exact bJ0 h.row0 h.ar.free (by decide) hk e
theorem BookAt.notRow1 (h:BookAt w bb ab mb n vs vf v0 v1 rs fr S) {k:Nat} (hk:v1.ownBlock=some k):¬aoB ab vs vf k:=fun e=>by
 rcases e with e | e | e
 ·exact aF0 h.row1 (e ▸ h.ar.box) (by decide) hk
 ·exact bJ0 h.row1 h.ar.slots (by decide) hk e
 ·exact bJ0 h.row1 h.ar.free (by decide) hk e
theorem cD0 {base:Nat} {e:TypeId} {size:Nat} {v:Value} {k:Nat} {xs:List Value} (h:w.ownsRow base e size v k xs) (hm:eB0 w mb n S):v.ownBlock≠some mb:=fun hv=>by
 rcases h.2 with ⟨rfl,_⟩ | ⟨g,cap,cur,rfl,_,hh,_⟩
 ·cases hv
 ·simp [Value.ownBlock] at hv;subst hv;exact hm.ne hh rfl
theorem BookAt.notMap (h:BookAt w bb ab mb n vs vf v0 v1 rs fr S):¬aoB ab vs vf mb:=fun e=>by
 rcases e with e | e | e
 ·exact h.map.ne h.ar.box e.symm
 ·exact cD0 h.ar.slots h.map e
 ·exact cD0 h.ar.free h.map e
theorem BookAt.newAr {vs' vf':Value} {rs':List Sot} {fr':List Nat} (h:BookAt w bb ab mb n vs vf v0 v1 rs fr S) (ho:Out (aoB ab vs vf) w w') (ha:ArOr w' ab 100 vs' vf' rs' fr'):BookAt w' bb ab mb n vs' vf' v0 v1 rs' fr' S:=
 ⟨aE0 h.box ho h.notBox,ha,h.map.same (ho.block mb h.map.lt h.notMap),aL0 h.row0 ho (fun _ hk=>h.notRow0 hk),aL0 h.row1 ho (fun _ hk=>h.notRow1 hk),h.apart⟩
def vAt (v0 v1:Value) (s:Nat):Value:=if s=0 then v0 else v1
theorem BookAt.row (h:BookAt w bb ab mb n vs vf v0 v1 rs fr S) {s:Nat} (hs:s<2):w.ownsRow 0 240 2 (vAt v0 v1 s) (S s).length (hV (S s))∧w.cell? ⟨bb,2+s,none⟩=some (vAt v0 v1 s)∧w.frozen? ⟨bb,2+s,none⟩=false:=by
 match s,hs with
 | 0,_=>exact ⟨h.row0,aA0 (j:=2) h.box rfl,aB0 h.box⟩
 | 1,_=>exact ⟨h.row1,aA0 (j:=3) h.box rfl,aB0 h.box⟩
end
end Go.Proofs.YtaelphbianmckaaGreatDoor
