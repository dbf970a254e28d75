/- DeskPieces: a part of the proof, packed (the readable form: the templates). -/
import Derived.Test.YtaelphbianmckaaGreatDoorQB
import Derived.Test.YtaelphbianmckaaGreatDoorQE
import Derived.Deep.RegionWith
import Derived.Test.YtaelphbianmckaaGreatDoorQA
import Derived.Test.YtaelphbianmckaaGreatDoorRows
import Derived.WalkKit
import Derived.WalkSpells
import Derived.WalkLawsBesides
import Derived.Handy
import Derived.Test.YtaelphbianmckaaGreatDoorQC
namespace Go.Proofs.YtaelphbianmckaaGreatDoor
open Go.RowKit
set_option maxRecDepth 4000 in
set_option maxHeartbeats 1000000 in
theorem tA1 (ab:Nat) (most:Int) (vs vf:Value) (rs:List Sot) (fr:List Nat) (k:Nat) (o x:Ord) (a:Int) (w:World) (h:ArOr w ab most vs vf rs fr) (hk:soAt rs k=(some o,a)):
  Calls Tryz.prog 288 #[.pointer (some ⟨ab,0,none⟩),.agg #[.int .i64 k,.int .i64 a],x.agg] w
   fun e w'=>e=.returned .nilIface∧ArOr w' ab most vs vf (rs.set k (some x,a)) fr∧Out (aoB ab vs vf) w w':=by
 have HA:Hid (ArOr w ab most vs vf rs fr):=h;have HK:Hid (soAt rs k=(some o,a)):=hk;clear h hk;unfold Ord.agg;go_enter Tryz.func288,Tryz.ntmps288;go_wp2_with fail;refine (mE1 ab most vs vf rs fr k o a _ (HA.out.below (bel2 _ _ _) lR7) HK.out).mono ?_;rintro e w1 ⟨hb,g,cap,rfl,rfl⟩;have hx:=(hb.block (w.heap.size+1) (by simp)).trans (dK0 w _ _);have x0:=aA0 (j:=0) hx rfl;have x1:=aA0 (j:=1) hx rfl;have x2:=aA0 (j:=2) hx rfl;have x3:=aA0 (j:=3) hx rfl;have x4:=aA0 (j:=4) hx rfl;have HB:Hid (Below w.heap.size w w1):=aC0 (bel2 w _ _) hb;have HA1:Hid (ArOr w1 ab most (.slice (some ⟨g,0,none⟩) rs.length cap) vf rs fr):=HA.out.below HB.out lR7;obtain ⟨hk1,g',cap',hv,d0,d1,d2,d3,d4,_,_⟩:=HA1.out.has HK.out;simp only [Value.slice.injEq,Option.some.injEq,Addr.mk.injEq,and_true,true_and] at hv;obtain ⟨rfl,rfl⟩:=hv;have f0:=HA1.out.slots.frozenAt (k*7);have f1:=HA1.out.slots.frozenAt (k*7+1);have f2:=HA1.out.slots.frozenAt (k*7+2);have f3:=HA1.out.slots.frozenAt (k*7+3);have f4:=HA1.out.slots.frozenAt (k*7+4);clear hb hx;go_wp2;go_ret;obtain ⟨r1,r2⟩:=HA1.out.setThing (x:=x) hk1 (by rw [HK.out];rfl);rw [HK.out] at r1;exact ⟨rfl,r1,(Out.of_below HB.out lR7).trans (r2.mono (fun j hj=>Or.inr (Or.inl (by rw [hj];rfl)))) (Went.refl _ _)⟩
def BkS.cut (b:BkS) (s:Nat) (x:Ly) (o':Ord):BkS:={ b with rs:=b.rs.set x.slot (some o',x.age),S:=upS b.S s (cutL x o' (b.S s)) }
theorem Goes.cut {w w':World} {bb m s:Nat} {b:BkS} {x:Ly} {o':Ord} (h:Bk w bb m b) (hm:m+1≤900000) (hs:s<2) (hx:x∈b.S s) (h1:o'.id=x.o.id) (h2:o'.side=x.o.side) (h3:1≤o'.price∧o'.price≤1000000∧1≤o'.qty∧o'.qty≤1000000)
  (ha:ArOr w' b.ab 100 b.vs b.vf (b.rs.set x.slot (some o',x.age)) b.fr) (ho:Out (aoB b.ab b.vs b.vf) w w'):Goes w w' bb (m+1) b (b.cut s x o'):=by
 have hat:=BookAt.newAr h.at_ ho ha
 have hmem:∀t,t<2→∀y,y∈upS b.S s (cutL x o' (b.S s)) t→∃z∈b.S t,z.o.id=y.o.id∧z.slot=y.slot∧z.age=y.age:=fun t ht y hy=>by
  rcases pN0 hy with ⟨rfl,h5⟩ | ⟨_,h5⟩
  ·obtain ⟨z,hz,rfl⟩:=List.mem_map.1 h5;refine ⟨z,hz,?_⟩;split
   ·rename_i e;obtain rfl:=h.ok.one_slot ht ht hz hx e;exact ⟨h1.symm,rfl,rfl⟩
   ·exact ⟨rfl,rfl,rfl⟩
  ·exact ⟨y,h5,rfl,rfl,rfl⟩
 have hmem2:∀t,t<2→∀z,z∈b.S t→∃y∈upS b.S s (cutL x o' (b.S s)) t,y.o.id=z.o.id:=fun t ht z hz=>by
  by_cases e:t=s
  ·subst e;rw [gE0];refine ⟨_,List.mem_map.2 ⟨z,hz,rfl⟩,?_⟩;split
   ·rename_i e;obtain rfl:=h.ok.one_slot ht ht hz hx e;exact h1
   ·rfl
  ·exact ⟨z,by rw [eS0 _ e];exact hz,rfl⟩
 have hrow:∀t,hV (upS b.S s (cutL x o' (b.S s)) t)=hV (b.S t)∧(upS b.S s (cutL x o' (b.S s)) t).length=(b.S t).length:=fun t=>by
  by_cases e:t=s
  ·subst e;rw [gE0];exact ⟨nK1 _ _ _,nI0 _ _ _⟩
  ·rw [eS0 _ e];exact ⟨rfl,rfl⟩
 refine ⟨⟨⟨hat.box,hat.ar,hat.map.like (fun t ht y hy=>hmem t ht y hy) (fun t ht z hz=>hmem2 t ht z hz),?_,?_,hat.apart⟩,h.ok.cut hs hx h1 h2 h3,Nat.le_trans h.small (Nat.le_succ _),hm⟩,ho.mono (fun k hk=>Or.inr (Or.inl hk)),Went.refl _ _⟩
 ·show World.ownsRow _ _ _ _ _ (upS b.S s (cutL x o' (b.S s)) 0).length (hV (upS b.S s (cutL x o' (b.S s)) 0));rw [(hrow 0).1,(hrow 0).2];exact hat.row0
 ·show World.ownsRow _ _ _ _ _ (upS b.S s (cutL x o' (b.S s)) 1).length (hV (upS b.S s (cutL x o' (b.S s)) 1));rw [(hrow 1).1,(hrow 1).2];exact hat.row1
set_option maxRecDepth 100000 in
set_option maxHeartbeats 2000000 in
theorem qU1 (bb m:Nat) (b:BkS) (id q:Int) (w:World) (h:Bk w bb m b) (hw:(Lit.int .i64 id).wf=true) (hno:∀s,s<2→∀x∈b.S s,x.o.id≠id):
  Calls Tryz.prog 271 #[.pointer (some ⟨bb,0,none⟩),.int .i64 id,.int .i64 q] w fun e W'=>e=.returned (.iface 26 (.int .i64 7))∧Below w.heap.size w W':=by
 have H:Hid (Bk w bb m b):=h;have HN:Hid (∀s,s<2→∀x∈b.S s,x.o.id≠id):=hno;clear h hno;go_enter Tryz.func271,Tryz.ntmps271;go_wp2_with fail;refine (cN1 bb m b id _ H.out hw HN.out).mono ?_;rintro e w1 ⟨rfl,hb1⟩;unfold Ord.agg Ord.none_;have HB1:Hid (Below w.heap.size w w1):=hb1;clear hb1;go_wp2_with fail;go_ret;exact ⟨rfl,aC0 HB1.out (bel2 _ _ _)⟩
set_option maxRecDepth 100000 in
set_option maxHeartbeats 2000000 in
theorem cO1 (bb m s:Nat) (b:BkS) (x:Ly) (q:Int) (w:World) (h:Bk w bb m b) (hs:s<2) (hx:x∈b.S s) (hq:q<1∨x.o.qty<q):
  Calls Tryz.prog 271 #[.pointer (some ⟨bb,0,none⟩),.int .i64 x.o.id,.int .i64 q] w fun e W'=>e=.returned (.iface 26 (.int .i64 2))∧Below w.heap.size w W':=by
 have H:Hid (Bk w bb m b):=h;have HX:Hid (x∈b.S s):=hx;clear h hx;go_enter Tryz.func271,Tryz.ntmps271;go_wp2_with fail;refine (mR0 bb m s b x _ H.out hs HX.out).mono ?_;rintro e w1 ⟨rfl,hb1⟩;unfold Ord.agg plV;have HB1:Hid (Below w.heap.size w w1):=hb1;clear hb1;have o4:((w1.alloc (.cells #[.int .i64 x.o.id,.int .i64 x.o.side,.int .i64 x.o.kind,.int .i64 x.o.price,.int .i64 x.o.qty] 92)).alloc (.cells #[.int .i64 x.slot,.int .i64 x.age,.int .i64 s] 242)).cell? ⟨w1.heap.size,4,none⟩=some (.int .i64 x.o.qty):=aA0 (j:=4) (eG0 w1 _ _) rfl
 by_cases hq1:q<1
 ·have k1:decide (q<1)=true:=decide_eq_true hq1;go_wp2_with fail;go_ret;exact ⟨rfl,aC0 HB1.out (bel2 _ _ _)⟩
 ·have k1:decide (q<1)=false:=decide_eq_false hq1;have k2:decide (q>x.o.qty)=true:=decide_eq_true (by omega);go_wp2_with fail;go_ret;exact ⟨rfl,aC0 HB1.out (bel2 _ _ _)⟩
set_option maxRecDepth 100000 in
set_option maxHeartbeats 2000000 in
theorem nX1 (bb m s:Nat) (b:BkS) (x:Ly) (w:World) (h:Bk w bb m b) (hm:m+1≤900000) (hs:s<2) (hx:x∈b.S s) (hq:¬x.o.qty<1):
  Calls Tryz.prog 271 #[.pointer (some ⟨bb,0,none⟩),.int .i64 x.o.id,.int .i64 x.o.qty] w fun e W'=>e=.returned .nilIface∧∃b':BkS,(∃i,i<(b.S s).length∧lyAt (b.S s) i=x∧b'.S=upS b.S s (cT0 i (b.S s)))∧Goes w W' bb (m+1) b b':=by
 have H:Hid (Bk w bb m b):=h;have HX:Hid (x∈b.S s):=hx;clear h hx;go_enter Tryz.func271,Tryz.ntmps271;go_wp2_with fail;refine (mR0 bb m s b x _ H.out hs HX.out).mono ?_;rintro e w1 ⟨rfl,hb1⟩;unfold Ord.agg plV;have HB1:Hid (Below w.heap.size w w1):=hb1;clear hb1;have o4:((w1.alloc (.cells #[.int .i64 x.o.id,.int .i64 x.o.side,.int .i64 x.o.kind,.int .i64 x.o.price,.int .i64 x.o.qty] 92)).alloc (.cells #[.int .i64 x.slot,.int .i64 x.age,.int .i64 s] 242)).cell? ⟨w1.heap.size,4,none⟩=some (.int .i64 x.o.qty):=aA0 (j:=4) (eG0 w1 _ _) rfl;have k1:decide (x.o.qty<1)=false:=decide_eq_false (by omega);go_wp2_with fail;have HB2:Hid (Below w.heap.size w _):=aC0 HB1.out (bel2 w1 (.cells #[.int .i64 x.o.id,.int .i64 x.o.side,.int .i64 x.o.kind,.int .i64 x.o.price,.int .i64 x.o.qty] 92) (.cells #[.int .i64 x.slot,.int .i64 x.age,.int .i64 s] 242));clear o4 k1;generalize (w1.alloc (.cells #[.int .i64 x.o.id,.int .i64 x.o.side,.int .i64 x.o.kind,.int .i64 x.o.price,.int .i64 x.o.qty] 92)).alloc (.cells #[.int .i64 x.slot,.int .i64 x.age,.int .i64 s] 242)=w2 at HB2 ⊢;refine (lE0 bb m s b x w2 (H.out.below HB2.out lR7) hm hs HX.out).mono ?_;rintro e w3 ⟨rfl,b',hb',hg⟩;have HG:Hid (Goes w2 w3 bb (m+1) b b'):=hg;have HB':Hid (∃i,i<(b.S s).length∧lyAt (b.S s) i=x∧b'.S=upS b.S s (cT0 i (b.S s))):=hb';clear hg hb';unfold Ord.agg;go_wp2_with fail;go_ret;refine ⟨rfl,b',HB'.out,HG.out.1,(Out.of_below HB2.out lR7).trans HG.out.2.1 (Went.refl _ _),fun k hk=>(HG.out.2.2 k hk).elim Or.inl (fun e=>Or.inr (Nat.le_trans HB2.out.size e))⟩
def aE1 (q:Int) (o:Ord):Ord:=⟨o.id,o.side,o.kind,o.price,o.qty - q⟩
set_option maxRecDepth 100000 in
set_option maxHeartbeats 2000000 in
theorem iQ1 (bb m s:Nat) (b:BkS) (x:Ly) (q:Int) (w:World) (h:Bk w bb m b) (hm:m+1≤900000) (hs:s<2) (hx:x∈b.S s) (hq:¬q<1) (hq2:q<x.o.qty):
  Calls Tryz.prog 271 #[.pointer (some ⟨bb,0,none⟩),.int .i64 x.o.id,.int .i64 q] w fun e W'=>e=.returned .nilIface∧Goes w W' bb (m+1) b (b.cut s x (aE1 q x.o)):=by
 have H:Hid (Bk w bb m b):=h;have HX:Hid (x∈b.S s):=hx;have HO:Hid (soAt b.rs x.slot=(some x.o,x.age)):=h.ok.there s hs x hx;have hrg:=h.ok.ok s hs x hx;clear h hx;go_enter Tryz.func271,Tryz.ntmps271;go_wp2_with fail;refine (mR0 bb m s b x _ H.out hs HX.out).mono ?_;rintro e w1 ⟨rfl,hb1⟩;unfold Ord.agg plV;have HB1:Hid (Below w.heap.size w w1):=hb1;clear hb1;go_upto_region 4 with fail;have hb2:=bel2 w1 (.cells #[.int .i64 x.o.id,.int .i64 x.o.side,.int .i64 x.o.kind,.int .i64 x.o.price,.int .i64 x.o.qty] 92) (.cells #[.int .i64 x.slot,.int .i64 x.age,.int .i64 s] 242);have hr1:=eG0 w1 (.cells #[.int .i64 x.o.id,.int .i64 x.o.side,.int .i64 x.o.kind,.int .i64 x.o.price,.int .i64 x.o.qty] 92) (.cells #[.int .i64 x.slot,.int .i64 x.age,.int .i64 s] 242);have hr2:=dK0 w1 (.cells #[.int .i64 x.o.id,.int .i64 x.o.side,.int .i64 x.o.kind,.int .i64 x.o.price,.int .i64 x.o.qty] 92) (.cells #[.int .i64 x.slot,.int .i64 x.age,.int .i64 s] 242);generalize (w1.alloc (.cells #[.int .i64 x.o.id,.int .i64 x.o.side,.int .i64 x.o.kind,.int .i64 x.o.price,.int .i64 x.o.qty] 92)).alloc (.cells #[.int .i64 x.slot,.int .i64 x.age,.int .i64 s] 242)=w2 at hb2 hr1 hr2 ⊢;have HB2:Hid (Below w.heap.size w w2):=aC0 HB1.out hb2;have hz:w.heap.size≤w1.heap.size:=HB1.out.size;have k1:decide (q<1)=false:=decide_eq_false (by omega);have k2:decide (q>x.o.qty)=false:=decide_eq_false (by omega);have k3:(q == x.o.qty)=false:=beq_eq_false_iff_ne.2 (by omega);have c4:=aA0 (j:=4) hr1 rfl;have f4:=aB0 (j:=4) hr1;have HR1:Hid _:=hr1;have HR2:Hid _:=hr2;clear hb2 hr1 hr2;go_wp2_with fail;have hr1:=aH0 (j:=4) (.int .i64 (x.o.qty - q)) HR1.out;have hr2:=aE0 HR2.out (aN0 w2 ⟨w1.heap.size,4,none⟩ (.int .i64 (x.o.qty - q))) (by simp);have hb3:=HB2.out.setCell (p:=⟨w1.heap.size,4,none⟩) hz (.int .i64 (x.o.qty - q));generalize w2.setCell ⟨w1.heap.size,4,none⟩ (.int .i64 (x.o.qty - q))=w3 at hr1 hr2 hb3 ⊢;have HB3:Hid (Below w.heap.size w w3):=hb3;have HBK:Hid (Bk w3 bb m b):=H.out.below hb3 lR7;have x0:=aA0 (j:=0) hr1 rfl;have x1:=aA0 (j:=1) hr1 rfl;have x2:=aA0 (j:=2) hr1 rfl;have x3:=aA0 (j:=3) hr1 rfl;have x4:=aA0 (j:=4) hr1 rfl;have p0:=aA0 (j:=0) hr2 rfl;have p1:=aA0 (j:=1) hr2 rfl;have b0:=aA0 (j:=0) HBK.out.at_.box rfl;clear hr1 hr2 hb3 HR1 HR2 HB2 c4 f4 k1 k2 k3;go_region_with (go_at_call 288;refine (tA1 b.ab 100 b.vs b.vf b.rs b.fr x.slot x.o (aE1 q x.o) x.age _ (HBK.out.at_.ar.below (B:=w3.heap.size) ?_ lR7) HO.out).mono ?_;(repeat' first | assumption | exact Below.refl _ _ | exact lR7 | refine Below.drew ?_ | refine Below.alloc ?_ ?_ _ | (simp;done) | (simp;omega));rintro e w4 ⟨rfl,ha,ho⟩)
 all_goals go_wp2_with fail
 all_goals go_ret
 all_goals (
  have hG:Goes w3 w4 bb (m+1) b (b.cut s x (aE1 q x.o)):=Goes.cut HBK.out hm hs HX.out rfl rfl (by have:=hrg;simp only [aE1];omega) ha (by first | exact ho | exact (aT0 (Out.refl _ _)).trans ho (Went.refl _ _));exact ⟨rfl,hG.1,(Out.of_below HB3.out lR7).trans hG.2.1 (Went.refl _ _),fun k hk=>(hG.2.2 k hk).elim Or.inl (fun e=>Or.inr (Nat.le_trans HB3.out.size e))⟩)
def insL {α:Type} (rank:α→Int) (o:α):List α→List α
 | []=>[o]
 | x::xs=>if rank x≤rank o then x::insL rank o xs else o::x::xs
def lF0 {α:Type} (rank:α→Int) (l:List α):List α:=l.foldl (fun acc o=>insL rank o acc) []
theorem fR0 {α:Type} (rank:α→Int) (l:List α) (o:α):lF0 rank (l++[o])=insL rank o (lF0 rank l):=by simp [lF0]
def cP1 (side kind price:Int):Int:=if kind=2 then -2000000 else if side=1 then -price else price
def cR0 (side:Int) (l:List Ord):List Ord:=l.filter fun o=>o.side == side
def eI0 (side:Int) (o:Ord):Int:=cP1 side o.kind o.price
def aK0 (side:Int) (l:List Ord):List Ord:=lF0 (eI0 side) (cR0 side l)
def sY0 (p q:Int):Bool:=(decide (1≤p)&& decide (p≤1000000))&& (decide (1≤q)&& decide (q≤1000000))
def lieO (o:Ord):Ord:=if o.kind=2 then { o with price:=1 } else o
def addN (o:Ord) (l:List Ord):Int:=
 if (decide (1≤o.side)&& decide (o.side≤2))=false∨o.id<1 then 1 else if sY0 (lieO o).price (lieO o).qty=false then 2 else if 0≤idxO o.id l then 9 else if 100≤l.length then 12 else 0
theorem hI0 (o:Ord):(lieO o).id=o.id:=by unfold lieO;split <;> rfl
theorem nQ0 (o:Ord):(lieO o).side=o.side:=by unfold lieO;split <;> rfl
theorem iR1 {o:Ord} {l:List Ord} (h:(decide (1≤o.side)&& decide (o.side≤2))=false∨o.id<1):addN o l=1:=by unfold addN;rw [if_pos h]
theorem aF1 {o:Ord} {l:List Ord} (h:(decide (1≤o.side)&& decide (o.side≤2))=true) (h1:¬o.id<1) (h2:sY0 (lieO o).price (lieO o).qty=false):addN o l=2:=by
 unfold addN;rw [if_neg (by rw [h];simp;omega),if_pos h2]
theorem nR0 {o:Ord} {l:List Ord} (h:(decide (1≤o.side)&& decide (o.side≤2))=true) (h1:¬o.id<1) (h2:sY0 (lieO o).price (lieO o).qty=true):addN o l=if 0≤idxO o.id l then 9 else if 100≤l.length then 12 else 0:=by
 unfold addN;rw [if_neg (by rw [h];simp;omega),if_neg (by rw [h2];simp)]
def addL (o:Ord) (l:List Ord):List Ord:=if addN o l=0 then l++[lieO o] else l
def jN0 (k:Nat) (l:List Ord):List Ord:=l.take k++l.drop (k+1)
def cutO (q:Int) (o:Ord):Ord:={ o with qty:=o.qty - q }
theorem nS0 {α:Type} (rank:α→Int) (o:α):∀l:List α,(insL rank o l).Perm (o::l)
 | []=>List.Perm.refl _
 | x::xs=>by
  unfold insL;split
  ·exact ((nS0 rank o xs).cons x).trans (List.Perm.swap o x xs)
  ·exact List.Perm.refl _
theorem pU0 {α:Type} (rank:α→Int):∀(l acc:List α),(l.foldl (fun acc o=>insL rank o acc) acc).Perm (acc++l)
 | [],acc=>by simp
 | o::l,acc=>by
  rw [List.foldl_cons];exact (pU0 rank l _).trans (((nS0 rank o acc).append_right l).trans List.perm_middle.symm)
theorem dO0 {α:Type} (rank:α→Int) (l:List α):(lF0 rank l).Perm l:=by have h:=pU0 rank l [];rw [List.nil_append] at h;exact h
theorem aP0 {side:Int} {l:List Ord} {o:Ord}:o∈aK0 side l↔(o∈l∧o.side=side):=by
 unfold aK0 cR0;rw [(dO0 _ _).mem_iff,List.mem_filter];simp
theorem iE0 (side:Int) (l:List Ord):(aK0 side l).length≤l.length:=by
 unfold aK0 cR0;rw [(dO0 _ _).length_eq];exact List.length_filter_le _ _
theorem rF0 {α:Type} {P:List α→Prop} (h0:P []) (h1:∀l a,P l→P (l++[a])) (l:List α):P l:=by
 rw [←List.reverse_reverse l];generalize l.reverse=r
 induction r with
 | nil=>exact h0
 | cons a r ih=>rw [List.reverse_cons];exact h1 _ _ ih
section
variable {α:Type} {rank:α→Int}
theorem iS1 {o y:α} {l:List α}:y∈insL rank o l↔y=o∨y∈l:=by rw [(nS0 rank o l).mem_iff];simp
theorem xV0 {o:α}:∀{l:List α},l.Pairwise (fun a b=>rank a≤rank b)→(insL rank o l).Pairwise (fun a b=>rank a≤rank b)
 | [],_=>by simp [insL]
 | x::xs,hp=>by
  obtain ⟨h1,h2⟩:=List.pairwise_cons.1 hp;unfold insL;split
  ·rename_i hk;refine List.pairwise_cons.2 ⟨fun y hy=>?_,xV0 h2⟩;rcases iS1.1 hy with rfl | hy
   ·exact hk
   ·exact h1 y hy
  ·rename_i hk;refine List.pairwise_cons.2 ⟨fun y hy=>?_,hp⟩;rcases List.mem_cons.1 hy with rfl | hy
   ·omega
   ·have:=h1 y hy;omega
theorem gP0 (l:List α):(lF0 rank l).Pairwise (fun a b=>rank a≤rank b):=by
 induction l using rF0 with
 | h0=>exact List.Pairwise.nil
 | h1 l a ih=>rw [fR0];exact xV0 ih
theorem vR0 {o:α}:∀{l:List α},l.Pairwise (fun a b=>rank a≤rank b)→insL rank o l=l.filter (fun y=>decide (rank y≤rank o))++o::l.filter (fun y=>!decide (rank y≤rank o))
 | [],_=>rfl
 | x::xs,hp=>by
  obtain ⟨h1,h2⟩:=List.pairwise_cons.1 hp;unfold insL;split
  ·rename_i hk;rw [List.filter_cons_of_pos (by simpa using hk),List.filter_cons_of_neg (by simpa using hk),vR0 h2];rfl
  ·rename_i hk
   have e1:(x::xs).filter (fun y=>decide (rank y≤rank o))=[]:=by
    rw [List.filter_eq_nil_iff];intro y hy;rcases List.mem_cons.1 hy with rfl | hy
    ·simpa using hk
    ·have:=h1 y hy;simp;omega
   have e2:(x::xs).filter (fun y=>!decide (rank y≤rank o))=x::xs:=by
    rw [List.filter_eq_self];intro y hy;rcases List.mem_cons.1 hy with rfl | hy
    ·simpa using hk
    ·have:=h1 y hy;simp;omega
   rw [e1,e2];rfl
theorem sZ0 (p:α→Bool) (l:List α):lF0 rank (l.filter p)=(lF0 rank l).filter p:=by
 induction l using rF0 with
 | h0=>rfl
 | h1 l a ih=>
  rw [List.filter_append,fR0,vR0 (gP0 l),List.filter_append]
  by_cases hp:p a=true
  ·have e0:[a].filter p=[a]:=by rw [List.filter_cons_of_pos hp,List.filter_nil]
   rw [e0,List.filter_cons_of_pos hp,fR0,ih,vR0 ((gP0 l).sublist List.filter_sublist),List.filter_filter,List.filter_filter,List.filter_filter,List.filter_filter]
   congr 1
   ·congr 1;funext y;exact Bool.and_comm _ _
   ·congr 2;funext y;exact Bool.and_comm _ _
  ·have e0:[a].filter p=[]:=by rw [List.filter_cons_of_neg hp,List.filter_nil]
   rw [e0,List.filter_cons_of_neg hp,List.append_nil,ih,List.filter_filter,List.filter_filter];have hs:=gP0 (rank:=rank) l;clear ih;generalize lF0 rank l=r at hs
   induction r with
   | nil=>rfl
   | cons x xs ih2=>
    obtain ⟨h1,h2⟩:=List.pairwise_cons.1 hs;have ih3:=ih2 h2
    by_cases hx:rank x≤rank a
    ·by_cases hpx:p x=true
     ·rw [List.filter_cons_of_pos hpx,List.filter_cons_of_pos (by simp [hx,hpx]),List.filter_cons_of_neg (by simp [hx]),ih3];rfl
     ·rw [List.filter_cons_of_neg hpx,List.filter_cons_of_neg (by simp [hpx]),List.filter_cons_of_neg (by simp [hx]),ih3]
    ·have e1:(x::xs).filter (fun y=>p y&& decide (rank y≤rank a))=[]:=by
      rw [List.filter_eq_nil_iff];intro y hy;rcases List.mem_cons.1 hy with rfl | hy
      ·simp [hx]
      ·have:=h1 y hy;have hn:¬rank y≤rank a:=by omega
       simp [hn]
     have e2:(x::xs).filter (fun y=>p y&& !decide (rank y≤rank a))=(x::xs).filter p:=by
      apply List.filter_congr;intro y hy
      have hn:¬rank y≤rank a:=by
       rcases List.mem_cons.1 hy with rfl | hy
       ·exact hx
       ·have:=h1 y hy;omega
      simp [hn]
     rw [e1,e2];rfl
theorem tA0 {f:α→α} (hf:∀a,rank (f a)=rank a) (o:α):∀l:List α,insL rank (f o) (l.map f)=(insL rank o l).map f
 | []=>rfl
 | x::xs=>by
  simp only [List.map_cons,insL];rw [hf,hf];split
  ·rw [List.map_cons,tA0 hf o xs]
  ·rfl
theorem cQ1 {f:α→α} (hf:∀a,rank (f a)=rank a) (l:List α):lF0 rank (l.map f)=(lF0 rank l).map f:=by
 induction l using rF0 with
 | h0=>rfl
 | h1 l a ih=>rw [List.map_append,List.map_singleton,fR0,fR0,ih,tA0 hf]
theorem tB0 {o:α}:∀l:List α,insL rank o l=l.take (l.takeWhile fun y=>decide (rank y≤rank o)).length++o::l.drop (l.takeWhile fun y=>decide (rank y≤rank o)).length
 | []=>rfl
 | x::xs=>by
  unfold insL;split
  ·rename_i hk;rw [List.takeWhile_cons,if_pos (by simpa using hk),List.length_cons,List.take_succ_cons,List.drop_succ_cons,tB0 xs];rfl
  ·rename_i hk;rw [List.takeWhile_cons,if_neg (by simpa using hk)];rfl
end
theorem mB0 (side:Int) (p:Ord→Bool) (l:List Ord):aK0 side (l.filter p)=(aK0 side l).filter p:=by
 unfold aK0 cR0;rw [←sZ0,List.filter_filter,List.filter_filter]
 congr 2
 funext y
 exact Bool.and_comm _ _
theorem tC0 (side:Int) {f:Ord→Ord} (h1:∀o,(f o).side=o.side) (h2:∀o,(f o).kind=o.kind) (h3:∀o,(f o).price=o.price) (l:List Ord):aK0 side (l.map f)=(aK0 side l).map f:=by
 unfold aK0;rw [←cQ1 (fun a=>by unfold eI0;rw [h2,h3])]
 congr 1
 unfold cR0;rw [List.filter_map]
 congr 1
 apply List.filter_congr;intro o _;simp [h1]
theorem nT0 {side:Int} {l:List Ord} {p:Ord} (h:p.side=side):aK0 side (l++[p])=insL (eI0 side) p (aK0 side l):=by
 unfold aK0;rw [←fR0]
 congr 1
 unfold cR0;rw [List.filter_append,List.filter_cons_of_pos (by simpa using h)];rfl
theorem mK0 {side:Int} {l:List Ord} {p:Ord} (h:p.side≠side):aK0 side (l++[p])=aK0 side l:=by
 unfold aK0
 congr 1
 unfold cR0;rw [List.filter_append,List.filter_cons_of_neg (by simpa using h)];simp
theorem vS0 {side:Int} {p y:Ord} (hs:side=1∨side=2) (hp:p.side=side) (h1:1≤p.price∧p.price≤1000000) (h2:1≤y.price∧y.price≤1000000):(!cQ0 p y)=decide (eI0 side y≤eI0 side p):=by
 unfold cQ0 eI0 cP1
 by_cases k1:y.kind=2
 ·rw [if_pos k1,if_pos k1]
  by_cases k2:p.kind=2
  ·rw [if_pos k2];rfl
  ·rw [if_neg k2];rcases hs with rfl | rfl
   ·rw [if_pos rfl];simp;omega
   ·rw [if_neg (by decide)];simp;omega
 ·rw [if_neg k1,if_neg k1]
  by_cases k2:p.kind=2
  ·rw [if_pos k2,if_pos k2];rcases hs with rfl | rfl
   ·rw [if_pos rfl];simp;omega
   ·rw [if_neg (by decide)];simp;omega
  ·rw [if_neg k2,if_neg k2,hp];rcases hs with rfl | rfl
   ·rw [if_pos rfl,if_pos rfl,if_pos rfl];by_cases hlt:y.price<p.price <;> simp [hlt] <;> omega
   ·rw [if_neg (by decide),if_neg (by decide),if_neg (by decide)];by_cases hlt:p.price<y.price <;> simp [hlt] <;> omega
theorem iT1 {side:Int} {p:Ord} {l:List Ord} (hs:side=1∨side=2) (hp:p.side=side) (h1:1≤p.price∧p.price≤1000000) (h2:∀y∈l,1≤y.price∧y.price≤1000000):eU0 p l=(l.takeWhile fun y=>decide (eI0 side y≤eI0 side p)).length:=by
 unfold eU0
 congr 1
 induction l with
 | nil=>rfl
 | cons y l ih=>rw [List.takeWhile_cons,List.takeWhile_cons,vS0 hs hp h1 (h2 y (by simp)),ih (fun z hz=>h2 z (by simp [hz]))]
theorem mC0:∀{l:List Ord},(l.map Ord.id).Nodup→∀{a b:Ord},a∈l→b∈l→a.id=b.id→a=b
 | [],_,_,_,h,_,_=>by cases h
 | x::l,hn,a,b,ha,hb,e=>by
  rw [List.map_cons,List.nodup_cons] at hn;rcases List.mem_cons.1 ha with e1 | h1
  ·rcases List.mem_cons.1 hb with e2 | h2
   ·rw [e1,e2]
   ·exact (hn.1 (List.mem_map.2 ⟨b,h2,by rw [←e,e1]⟩)).elim
  ·rcases List.mem_cons.1 hb with e2 | h2
   ·exact (hn.1 (List.mem_map.2 ⟨a,h1,by rw [e,e2]⟩)).elim
   ·exact mC0 hn.2 h1 h2 e
theorem tD0 {l:List Ord} {k:Nat} (h:k<l.length):oAt l k∈l:=by rw [fS0 h];exact List.getElem_mem h
theorem tE0 (id:Int):∀(l:List Ord) (i:Nat),(∀o∈l,o.id≠id)→idxF id i l=-1
 | [],_,_=>rfl
 | o::l,i,h=>by
  show (if o.id=id then (i:Int) else idxF id (i+1) l)=-1;rw [if_neg (h o (by simp)),tE0 id l (i+1) (fun y hy=>h y (by simp [hy]))]
theorem kC0 (id:Int):∀(l:List Ord) (i:Nat),(∃o∈l,o.id=id)→0≤idxF id i l
 | [],_,h=>by obtain ⟨_,h,_⟩:=h;cases h
 | o::l,i,h=>by
  show 0≤(if o.id=id then (i:Int) else idxF id (i+1) l);split
  ·omega
  ·rename_i hne;obtain ⟨y,hy,e⟩:=h;rcases List.mem_cons.1 hy with rfl | hy
   ·exact absurd e hne
   ·exact kC0 id l (i+1) ⟨y,hy,e⟩
theorem rG0 {l:List Ord} {k:Nat} (h:k<l.length):l=l.take k++oAt l k::l.drop (k+1):=by rw [fS0 h,←List.drop_eq_getElem_cons h,List.take_append_drop]
theorem others {l:List Ord} {k:Nat} (hn:(l.map Ord.id).Nodup) (hk:k<l.length):(∀o∈l.take k,o.id≠(oAt l k).id)∧(∀o∈l.drop (k+1),o.id≠(oAt l k).id):=by
 rw [rG0 hk,List.map_append,List.map_cons,List.nodup_append] at hn;obtain ⟨_,h2,h3⟩:=hn;rw [List.nodup_cons] at h2;refine ⟨fun o ho e=>?_,fun o ho e=>?_⟩
 ·exact h3 o.id (List.mem_map.2 ⟨o,ho,rfl⟩) (oAt l k).id (by simp) e
 ·exact h2.1 (List.mem_map.2 ⟨o,ho,e⟩)
theorem gG0 {l:List Ord} {k:Nat} (hn:(l.map Ord.id).Nodup) (hk:k<l.length):jN0 k l=l.filter (fun o=>decide (o.id≠(oAt l k).id)):=by
 obtain ⟨h1,h2⟩:=others hn hk;have hsp:=rG0 hk;generalize oAt l k=x at h1 h2 hsp ⊢
 conv=>rhs;rw [hsp]
 rw [List.filter_append,List.filter_cons_of_neg (by simp),List.filter_eq_self.2 (fun o ho=>by simpa using h1 o ho),List.filter_eq_self.2 (fun o ho=>by simpa using h2 o ho)];rfl
def cutF (id q:Int) (o:Ord):Ord:=if o.id=id then cutO q o else o
theorem nU0 (id q:Int) (o:Ord):(cutF id q o).id=o.id:=by unfold cutF;split <;> rfl
theorem fU0 (id q:Int) (o:Ord):(cutF id q o).side=o.side:=by unfold cutF;split <;> rfl
theorem nV0 (id q:Int) (o:Ord):(cutF id q o).kind=o.kind:=by unfold cutF;split <;> rfl
theorem iV0 (id q:Int) (o:Ord):(cutF id q o).price=o.price:=by unfold cutF;split <;> rfl
theorem cR1 {l:List Ord} {k:Nat} (q:Int) (hn:(l.map Ord.id).Nodup) (hk:k<l.length):l.set k (cutO q (oAt l k))=l.map (cutF (oAt l k).id q):=by
 obtain ⟨h1,h2⟩:=others hn hk;have hsp:=rG0 hk;rw [List.set_eq_take_append_cons_drop,if_pos hk];generalize oAt l k=x at h1 h2 hsp ⊢
 have e1:(l.take k).map (cutF x.id q)=l.take k:=by
  conv=>rhs;rw [←List.map_id (l.take k)]
  apply List.map_congr_left;intro o ho;unfold cutF;rw [if_neg (h1 o ho)];rfl
 have e2:(l.drop (k+1)).map (cutF x.id q)=l.drop (k+1):=by
  conv=>rhs;rw [←List.map_id (l.drop (k+1))]
  apply List.map_congr_left;intro o ho;unfold cutF;rw [if_neg (h2 o ho)];rfl
 have e3:cutF x.id q x=cutO q x:=if_pos rfl
 conv=>rhs;rw [hsp]
 rw [List.map_append,List.map_cons,e1,e2,e3]
structure Lnk (S:Nat→List Ly) (L:List Ord):Prop where
 side:∀s,s<2→(S s).map Ly.o=aK0 ((s:Int)+1) L
 all:∀o∈L,o.side=1∨o.side=2
 ids:(L.map Ord.id).Nodup
theorem Lnk.start:Lnk (fun _=>[]) []:=⟨fun _ _=>rfl,fun _ h=>(by cases h),List.nodup_nil⟩
section
variable {S:Nat→List Ly} {L:List Ord} {m:Nat} {rs:List Sot} {fr:List Nat}
theorem Lnk.mem (h:Lnk S L) {o:Ord}:o∈L↔∃s,s<2∧∃x∈S s,x.o=o:=by
 constructor
 ·intro ho
  have key:∀s:Nat,s<2→o.side=(s:Int)+1→∃s,s<2∧∃x∈S s,x.o=o:=fun s hs e=>by
   have h1:o∈aK0 ((s:Int)+1) L:=aP0.2 ⟨ho,e⟩;rw [←h.side s hs] at h1;obtain ⟨x,hx,rfl⟩:=List.mem_map.1 h1;exact ⟨s,hs,x,hx,rfl⟩
  rcases h.all o ho with e | e
  ·exact key 0 (by decide) (by rw [e];rfl)
  ·exact key 1 (by decide) (by rw [e];rfl)
 ·rintro ⟨s,hs,x,hx,rfl⟩;have h1:x.o∈(S s).map Ly.o:=List.mem_map.2 ⟨x,hx,rfl⟩;rw [h.side s hs] at h1;exact (aP0.1 h1).1
theorem Lnk.none (h:Lnk S L) {id:Int} (hn:∀s,s<2→∀x∈S s,x.o.id≠id):∀o∈L,o.id≠id:=fun o ho=>by
 obtain ⟨s,hs,x,hx,rfl⟩:=h.mem.1 ho;exact hn s hs x hx
theorem Lnk.idx_no (h:Lnk S L) {id:Int} (hn:∀s,s<2→∀x∈S s,x.o.id≠id):idxO id L=-1:=tE0 id L 0 (h.none hn)
theorem Lnk.idx_yes (h:Lnk S L) {s:Nat} (hs:s<2) {x:Ly} (hx:x∈S s):0≤idxO x.o.id L:=kC0 _ L 0 ⟨x.o,h.mem.2 ⟨s,hs,x,hx,rfl⟩,rfl⟩
theorem Lnk.at (h:Lnk S L) {s k:Nat} (hs:s<2) {x:Ly} (hx:x∈S s) (hk:k<L.length) (e:(oAt L k).id=x.o.id):oAt L k=x.o:=mC0 h.ids (tD0 hk) (h.mem.2 ⟨s,hs,x,hx,rfl⟩) e
theorem Lnk.len (h:Lnk S L):L.length=(S 0).length+(S 1).length:=by
 have hl:∀s,s<2→(S s).length=(cR0 ((s:Int)+1) L).length:=fun s hs=>by
  have:=congrArg List.length (h.side s hs);rw [List.length_map] at this;rw [this];exact (dO0 _ _).length_eq
 have both:∀l:List Ord,(∀o∈l,o.side=1∨o.side=2)→l.length=(cR0 1 l).length+(cR0 2 l).length:=fun l=>by
  induction l with
  | nil=>intro _;rfl
  | cons o l ih=>
   intro ha;have:=ih (fun y hy=>ha y (by simp [hy]));unfold cR0 at *;rcases ha o (by simp) with e | e
   ·rw [List.filter_cons_of_pos (by simp [e]),List.filter_cons_of_neg (by simp [e])];simp;omega
   ·rw [List.filter_cons_of_neg (by simp [e]),List.filter_cons_of_pos (by simp [e])];simp;omega
 rw [hl 0 (by decide),hl 1 (by decide)];exact both L h.all
theorem Lnk.ok (h:Lnk S L) (hp:Pb m rs fr S):∀o∈L,1≤o.price∧o.price≤1000000∧1≤o.qty∧o.qty≤1000000:=fun o ho=>by
 obtain ⟨s,hs,x,hx,rfl⟩:=h.mem.1 ho;have:=hp.ok s hs x hx;omega
theorem Lnk.add (h:Lnk S L) {s k:Nat} {a:Int} {p:Ord} (hs:s<2) (hp:p.side=(s:Int)+1) (h1:1≤p.price∧p.price≤1000000) (hok:∀o∈L,1≤o.price∧o.price≤1000000) (hno:∀o∈L,o.id≠p.id):
  Lnk (upS S s (cZ0 (eU0 p ((S s).map Ly.o)) ⟨k,a,p⟩ (S s))) (L++[p]):=by
 have hsd:(s:Int)+1=1∨(s:Int)+1=2:=by omega
 refine ⟨fun t ht=>?_,fun o ho=>?_,?_⟩
 ·by_cases e:t=s
  ·subst e;rw [gE0,nT0 hp,tB0];unfold cZ0;rw [List.map_append,List.map_cons,List.map_take,List.map_drop,h.side t ht,iT1 hsd hp h1 (fun y hy=>hok y (aP0.1 hy).1)]
  ·rw [eS0 _ e,mK0 (by rw [hp];omega)];exact h.side t ht
 ·rcases List.mem_append.1 ho with ho | ho
  ·exact h.all o ho
  ·simp at ho;subst ho;rw [hp];exact hsd
 ·rw [List.map_append,List.nodup_append];refine ⟨h.ids,by simp,fun i hi j hj=>?_⟩;obtain ⟨o,ho,rfl⟩:=List.mem_map.1 hi;simp at hj;subst hj;exact hno o ho
theorem Lnk.gone (h:Lnk S L) (hp:Pb m rs fr S) {s i k:Nat} {x:Ly} (hs:s<2) (hi:i<(S s).length) (hx:lyAt (S s) i=x) (hk:k<L.length) (hid:(oAt L k).id=x.o.id):Lnk (upS S s (cT0 i (S s))) (jN0 k L):=by
 have hxm:x∈S s:=by rw [←hx];exact xO0 hi
 rw [gG0 h.ids hk,hid];refine ⟨fun t ht=>?_,fun o ho=>h.all o (List.mem_filter.1 ho).1,?_⟩
 ·rw [mB0,←h.side t ht]
  by_cases e:t=s
  ·subst e
   have hn:(((S t).map Ly.o).map Ord.id).Nodup:=by
    rw [List.map_map];have h5:=(nF0 S ht).map (fun x=>x.o.id);have h6:=h5.nodup_iff.1 hp.ids;rw [List.map_append] at h6;exact (List.nodup_append.1 h6).1
   have hi':i<((S t).map Ly.o).length:=by rw [List.length_map];exact hi
   have hat:oAt ((S t).map Ly.o) i=x.o:=by rw [←hx,iD0 hi,fS0 hi',List.getElem_map]
   have h7:=gG0 hn hi';rw [hat] at h7;rw [gE0,←h7];unfold cT0 jN0;rw [List.map_append,List.map_take,List.map_drop]
  ·rw [eS0 _ e]
   symm
   rw [List.filter_eq_self];intro o ho;obtain ⟨y,hy,rfl⟩:=List.mem_map.1 ho;simp only [decide_eq_true_eq];intro e2;have e3:=hp.one_id ht hs hy hxm e2;subst e3;exact e (hp.one_side ht hs hy hxm)
 ·exact h.ids.sublist (List.filter_sublist.map _)
theorem Lnk.cut (h:Lnk S L) (hp:Pb m rs fr S) {s k:Nat} {q:Int} {x:Ly} (hs:s<2) (hx:x∈S s) (hk:k<L.length) (hid:(oAt L k).id=x.o.id):Lnk (upS S s (cutL x (aE1 q x.o) (S s))) (L.set k (cutO q (oAt L k))):=by
 rw [cR1 q h.ids hk,hid]
 have hrow:∀t,t<2→(upS S s (cutL x (aE1 q x.o) (S s)) t).map Ly.o=((S t).map Ly.o).map (cutF x.o.id q):=fun t ht=>by
  by_cases e:t=s
  ·subst e;rw [gE0];unfold cutL;rw [List.map_map,List.map_map];apply List.map_congr_left;intro y hy;simp only [Function.comp];split
   ·rename_i e1;obtain rfl:=hp.one_slot ht ht hy hx e1;unfold cutF;rw [if_pos rfl];rfl
   ·rename_i e1;unfold cutF;rw [if_neg (fun e2=>e1 (by rw [hp.one_id ht ht hy hx e2]))]
  ·rw [eS0 _ e,List.map_map];apply List.map_congr_left;intro y hy;simp only [Function.comp];unfold cutF
   rw [if_neg (fun e2=>by
    have e3:=hp.one_id ht hs hy hx e2;subst e3;exact e (hp.one_side ht hs hy hx))]
 refine ⟨fun t ht=>?_,fun o ho=>?_,?_⟩
 ·rw [hrow t ht,tC0 _ (fU0 _ _) (nV0 _ _) (iV0 _ _),h.side t ht]
 ·obtain ⟨y,hy,rfl⟩:=List.mem_map.1 ho;rw [fU0];exact h.all y hy
 ·rw [List.map_map];have:(Ord.id∘ cutF x.o.id q)=Ord.id:=by funext o;exact nU0 _ _ _
  rw [this];exact h.ids
end
theorem iU1 (o:Ord):lieP o=lieO o:=rfl
theorem kD0 (s:Int):kA0 s=(decide (1≤s)&& decide (s≤2)):=by
 unfold kA0
 by_cases h:s=1
 ·subst h;rfl
 by_cases h':s=2
 ·subst h';rfl
 have h1:(s == 1)=false:=beq_eq_false_iff_ne.2 h;have h2:(s == 2)=false:=beq_eq_false_iff_ne.2 h';rw [h1,h2]
 by_cases h3:1≤s
 ·have:¬s≤2:=by omega
  simp [this]
 ·simp [h3]
def canO (id:Int) (L:List Ord):Ord:=if idxO id L=-1 then Ord.none_ else oAt L (idxO id L).toNat
def canN (id:Int) (L:List Ord):Int:=if idxO id L=-1 then 7 else 0
def canL (id:Int) (L:List Ord):List Ord:=if idxO id L=-1 then L else jN0 (idxO id L).toNat L
def cutN (id q:Int) (L:List Ord):Int:=if idxO id L=-1 then 7 else if (decide (1≤q)&& decide (q≤(oAt L (idxO id L).toNat).qty))=false then 2 else 0
def cutM (id q:Int) (L:List Ord):List Ord:=if idxO id L=-1 then L else if (decide (1≤q)&& decide (q≤(oAt L (idxO id L).toNat).qty))=false then L else if (oAt L (idxO id L).toNat).qty=q then jN0 (idxO id L).toNat L else L.set (idxO id L).toNat (cutO q (oAt L (idxO id L).toNat))
structure Fil where
 buyer:Int
 seller:Int
 price:Int
 qty:Int
def fV:List Fil→List Value
 | []=>[]
 | x::l=>.int .i64 x.buyer::.int .i64 x.seller::.int .i64 x.price::.int .i64 x.qty::fV l
def Fil.none_:Fil:=⟨0,0,0,0⟩
def fAt (l:List Fil) (k:Nat):Fil:=l.getD k Fil.none_
theorem cS1 (a b:List Fil):fV (a++b)=fV a++fV b:=by
 induction a with
 | nil=>rfl
 | cons o a ih=>simp [fV,ih]
theorem cT1 (a:List Fil) (x:Fil):fV (a++[x])=fV a++[.int .i64 x.buyer,.int .i64 x.seller,.int .i64 x.price,.int .i64 x.qty]:=by rw [cS1];rfl
theorem tB1 {l:List Fil} {k:Nat} (h:k<l.length):(fV l)[k*4]? = some (.int .i64 (fAt l k).buyer)∧(fV l)[k*4+1]? = some (.int .i64 (fAt l k).seller)∧(fV l)[k*4+2]? = some (.int .i64 (fAt l k).price)∧(fV l)[k*4+3]? = some (.int .i64 (fAt l k).qty):=by
 induction l generalizing k with
 | nil=>simp at h
 | cons o l ih=>
  cases k with
  | zero=>exact ⟨rfl,rfl,rfl,rfl⟩
  | succ k=>
   have:=ih (k:=k) (by simpa using h);rw [show (k+1)*4=k*4+1+1+1+1 by omega];have e:fAt (o::l) (k+1)=fAt l k:=by simp [fAt]
   rw [e]
   simpa [fV] using this
structure LOk (L:List Ord):Prop where
 side:∀o∈L,o.side=1∨o.side=2
 ids:(L.map Ord.id).Nodup
 ok:∀o∈L,1≤o.price∧o.price≤1000000∧1≤o.qty∧o.qty≤1000000
def bE0 (id n:Int) (L:List Ord):List Ord:=(L.map (cutF id n)).filter fun o=>decide (0<o.qty)
theorem hJ0 {id n:Int} {o:Ord} (h:o.id≠id):cutF id n o=o:=if_neg h
theorem rH0 (n:Int) (o:Ord):cutF o.id n o=cutO n o:=if_pos rfl
theorem tF0 (id n:Int):∀L:List Ord,(∀o∈L,o.id=id→o.qty=n)→(∀o∈L,1≤o.qty)→bE0 id n L=L.filter (fun o=>decide (o.id≠id))
 | [],_,_=>rfl
 | o::L,h1,h2=>by
  have ih:=tF0 id n L (fun x hx=>h1 x (List.mem_cons_of_mem _ hx)) (fun x hx=>h2 x (List.mem_cons_of_mem _ hx));unfold bE0 at ih ⊢;have hq:=h2 o (List.mem_cons_self ..)
  by_cases e:o.id=id
  ·have hn:=h1 o (List.mem_cons_self ..) e;have hc:(cutF id n o).qty=0:=by unfold cutF;rw [if_pos e];show o.qty - n=0;omega
   rw [List.map_cons,List.filter_cons_of_neg (by rw [hc];decide),ih,List.filter_cons_of_neg (by simp [e])]
  ·rw [List.map_cons,hJ0 e,List.filter_cons_of_pos (by simpa using (show 0<o.qty by omega)),ih,List.filter_cons_of_pos (by simpa using e)]
theorem pV0 (id n:Int):∀L:List Ord,(∀o∈L,o.id=id→n<o.qty)→(∀o∈L,1≤o.qty)→bE0 id n L=L.map (cutF id n)
 | [],_,_=>rfl
 | o::L,h1,h2=>by
  have ih:=pV0 id n L (fun x hx=>h1 x (List.mem_cons_of_mem _ hx)) (fun x hx=>h2 x (List.mem_cons_of_mem _ hx));unfold bE0 at ih ⊢;have hq:=h2 o (List.mem_cons_self ..)
  have hp:0<(cutF id n o).qty:=by
   by_cases e:o.id=id
   ·have hn:=h1 o (List.mem_cons_self ..) e;unfold cutF;rw [if_pos e];show 0<o.qty - n;omega
   ·rw [hJ0 e];omega
  rw [List.map_cons,List.filter_cons_of_pos (by simpa using hp),ih]
theorem qV1 {L:List Ord} (h:LOk L) {o:Ord} (ho:o∈L):∃k:Nat,k<L.length∧idxO o.id L=k∧oAt L k=o:=by
 rcases nC0 o.id L 0 with h1 | ⟨k,hk,h1,h2⟩
 ·have:=kC0 o.id L 0 ⟨o,ho,rfl⟩;omega
 ·exact ⟨k,hk,by show idxF o.id 0 L=k;rw [h1];congr 1;omega,mC0 h.ids (tD0 hk) ho h2⟩
theorem cU1 {L:List Ord} (h:LOk L) {o:Ord} (ho:o∈L) {n:Int} (hn:1≤n∧n≤o.qty):cutM o.id n L=bE0 o.id n L∧cutN o.id n L=0:=by
 obtain ⟨k,hk,h1,h2⟩:=qV1 h ho;have hne:¬idxO o.id L=-1:=by omega
 have hkk:(idxO o.id L).toNat=k:=by omega
 have hd:¬(decide (1≤n)&& decide (n≤o.qty))=false:=by simp [hn.1,hn.2]
 have hone:∀x∈L,x.id=o.id→x=o:=fun x hx e=>mC0 h.ids hx ho e
 unfold cutM cutN;rw [if_neg hne,if_neg hne,hkk,h2,if_neg hd,if_neg hd];refine ⟨?_,rfl⟩
 by_cases e:o.qty=n
 ·rw [if_pos e,gG0 h.ids hk,h2,tF0 o.id n L (fun x hx e'=>by rw [hone x hx e'];exact e) (fun x hx=>(h.ok x hx).2.2.1)]
 ·rw [if_neg e];have:=cR1 n h.ids hk;rw [h2] at this;rw [this,pV0 o.id n L (fun x hx e'=>by rw [hone x hx e'];omega) (fun x hx=>(h.ok x hx).2.2.1)]
theorem kE0 {id n:Int} {L:List Ord} {x:Ord} (h:x∈bE0 id n L):∃y∈L,x=cutF id n y∧0<x.qty:=by
 unfold bE0 at h;rw [List.mem_filter,List.mem_map] at h;obtain ⟨⟨y,hy,rfl⟩,h2⟩:=h;exact ⟨y,hy,rfl,by simpa using h2⟩
theorem nY1 {id n:Int} {o:Ord} (hn:0≤n):(cutF id n o).qty≤o.qty:=by
 unfold cutF;split
 ·show o.qty - n≤o.qty;omega
 ·exact Int.le_refl _
theorem LOk.less {L:List Ord} (h:LOk L) (id:Int) {n:Int} (hn:0≤n):LOk (bE0 id n L):=by
 refine ⟨fun x hx=>?_,?_,fun x hx=>?_⟩
 ·obtain ⟨y,hy,rfl,_⟩:=kE0 hx;rw [fU0];exact h.side y hy
 ·unfold bE0;refine (List.Nodup.sublist ?_ h.ids)
  have e:(L.map (cutF id n)).map Ord.id=L.map Ord.id:=by
   rw [List.map_map];exact List.map_congr_left (fun o _=>nU0 id n o)
  rw [←e];exact (List.filter_sublist).map _
 ·obtain ⟨y,hy,rfl,h2⟩:=kE0 hx;have h3:=h.ok y hy;have h4:=nY1 (id:=id) (o:=y) hn;rw [iV0];omega
theorem tG0 (s id n:Int) (L:List Ord):aK0 s (bE0 id n L)=((aK0 s L).map (cutF id n)).filter fun o=>decide (0<o.qty):=by
 unfold bE0;rw [mB0,tC0 s (fU0 id n) (nV0 id n) (iV0 id n)]
theorem kF0 {id n:Int}:∀{l:List Ord},(∀o∈l,o.id≠id)→(∀o∈l,1≤o.qty)→(l.map (cutF id n)).filter (fun o=>decide (0<o.qty))=l
 | [],_,_=>rfl
 | o::l,h1,h2=>by
  have hq:=h2 o (List.mem_cons_self ..);rw [List.map_cons,hJ0 (h1 o (List.mem_cons_self ..)),List.filter_cons_of_pos (by simpa using (show 0<o.qty by omega)),kF0 (fun x hx=>h1 x (List.mem_cons_of_mem _ hx)) (fun x hx=>h2 x (List.mem_cons_of_mem _ hx))]
theorem xW0 {L:List Ord} (h:LOk L) (s:Int):((aK0 s L).map Ord.id).Nodup:=by
 have h1:(cR0 s L).Sublist L:=List.filter_sublist;have h2:=(h1.map Ord.id).nodup h.ids;exact ((dO0 (eI0 s) (cR0 s L)).map Ord.id).nodup_iff.2 h2
theorem tH0 {L:List Ord} (h:LOk L) {s n:Int} {x:Ord} {T:List Ord} (hs:aK0 s L=x::T) (hq:n≤x.qty):aK0 s (bE0 x.id n L)=if x.qty=n then T else cutO n x::T:=by
 have hnd:=xW0 h s;rw [hs,List.map_cons,List.nodup_cons] at hnd;have hT:∀o∈T,o.id≠x.id:=fun o ho e=>hnd.1 (List.mem_map.2 ⟨o,ho,e⟩)
 have hTq:∀o∈T,1≤o.qty:=fun o ho=>(h.ok o (aP0.1 (show o∈aK0 s L by rw [hs];exact List.mem_cons_of_mem _ ho)).1).2.2.1
 rw [tG0,hs,List.map_cons,rH0]
 by_cases e:x.qty=n
 ·rw [if_pos e,List.filter_cons_of_neg (by show ¬decide (0<x.qty - n)=true;simp;omega),kF0 hT hTq]
 ·rw [if_neg e,List.filter_cons_of_pos (by show decide (0<x.qty - n)=true;simp;omega),kF0 hT hTq]
theorem lG0 {L:List Ord} (h:LOk L) {s t n:Int} {x:Ord} (hx:x∈aK0 s L) (hne:t≠s):aK0 t (bE0 x.id n L)=aK0 t L:=by
 obtain ⟨hxL,hxs⟩:=aP0.1 hx;rw [tG0];refine kF0 (fun o ho e=>?_) (fun o ho=>(h.ok o (aP0.1 ho).1).2.2.1);obtain ⟨hoL,hos⟩:=aP0.1 ho;have:=mC0 h.ids hoL hxL e;rw [this,hxs] at hos;exact hne hos.symm
def wilB (s p:Int) (o:Ord):Bool:=(o.kind == 2) || (((s == 1)&& decide (p≤o.price)) || ((s == 2)&& decide (o.price≤p)))
def wilL (s p:Int) (L:List Ord):Int:=(L.map fun o=>if (o.side == s&& wilB s p o)=true then o.qty else 0).sum
theorem bD0 (s p:Int) (o:Ord) (L:List Ord):wilL s p (o::L)=(if (o.side == s&& wilB s p o)=true then o.qty else 0)+wilL s p L:=by simp [wilL]
theorem cV1 (s p:Int):∀{L:List Ord},LOk L→0≤wilL s p L∧wilL s p L≤1000000*(L.length:Int)
 | [],_=>by simp [wilL]
 | o::L,h=>by
  have h':LOk L:=⟨fun x hx=>h.side x (List.mem_cons_of_mem _ hx),(List.nodup_cons.1 h.ids).2,fun x hx=>h.ok x (List.mem_cons_of_mem _ hx)⟩;have ih:=cV1 s p h';have ho:=h.ok o (List.mem_cons_self ..);rw [bD0,List.length_cons];split <;> omega
theorem xX0 {s p:Int}:∀{L:List Ord},(∀o∈L,1≤o.qty)→0<wilL s p L→∃o∈L,o.side=s∧wilB s p o=true
 | [],_,h=>by simp [wilL] at h
 | o::L,hq,h=>by
  rw [bD0] at h
  by_cases e:(o.side == s&& wilB s p o)=true
  ·rw [Bool.and_eq_true,beq_iff_eq] at e;exact ⟨o,List.mem_cons_self ..,e.1,e.2⟩
  ·rw [if_neg e] at h;obtain ⟨x,hx,h1⟩:=xX0 (fun y hy=>hq y (List.mem_cons_of_mem _ hy)) (show 0<wilL s p L by omega);exact ⟨x,List.mem_cons_of_mem _ hx,h1⟩
theorem xY0 {s p id n:Int}:∀{L:List Ord},(L.map Ord.id).Nodup→(∀o∈L,1≤o.qty)→(∀o∈L,o.id=id→n≤o.qty)→wilL s p (bE0 id n L)=wilL s p L - (if ∃o∈L,o.id=id∧(o.side == s&& wilB s p o)=true then n else 0)
 | [],_,_,_=>by simp [wilL,bE0]
 | o::L,hd,hq,hn=>by
  rw [List.map_cons,List.nodup_cons] at hd;have ih:=xY0 (s:=s) (p:=p) (id:=id) (n:=n) hd.2 (fun x hx=>hq x (List.mem_cons_of_mem _ hx)) (fun x hx=>hn x (List.mem_cons_of_mem _ hx));have hqo:=hq o (List.mem_cons_self ..);have hw:∀(q:Int),(({ o with qty:=q }:Ord).side == s&& wilB s p { o with qty:=q })=(o.side == s&& wilB s p o):=fun q=>rfl
  by_cases e:o.id=id
  ·have hno:¬∃x∈L,x.id=id∧(x.side == s&& wilB s p x)=true:=fun ⟨x,hx,h1,_⟩=>hd.1 (List.mem_map.2 ⟨x,hx,by rw [h1,e]⟩)
   rw [if_neg hno] at ih;have hqn:=hn o (List.mem_cons_self ..) e;have hc:cutF id n o={ o with qty:=o.qty - n }:=by unfold cutF;rw [if_pos e];rfl
   have hL:bE0 id n (o::L)=if 0<o.qty - n then { o with qty:=o.qty - n }::bE0 id n L else bE0 id n L:=by
    unfold bE0;rw [List.map_cons,hc,List.filter_cons];simp
   by_cases hwo:(o.side == s&& wilB s p o)=true
   ·have hex:∃x∈o::L,x.id=id∧(x.side == s&& wilB s p x)=true:=⟨o,List.mem_cons_self ..,e,hwo⟩;have e1:wilL s p (o::L)=o.qty+wilL s p L:=by rw [bD0,if_pos hwo]
    rw [hL,e1,if_pos hex]
    by_cases hp:0<o.qty - n
    ·have e2:wilL s p ({ o with qty:=o.qty - n }::bE0 id n L)=(o.qty - n)+wilL s p (bE0 id n L):=by rw [bD0,hw,if_pos hwo]
     rw [if_pos hp,e2,ih];omega
    ·rw [if_neg hp,ih];omega
   ·have hno2:¬∃x∈o::L,x.id=id∧(x.side == s&& wilB s p x)=true:=fun ⟨x,hx,h1,h2⟩=>by
     rw [List.mem_cons] at hx;rcases hx with rfl | hx
     ·exact hwo h2
     ·exact hno ⟨x,hx,h1,h2⟩
    have e1:wilL s p (o::L)=0+wilL s p L:=by rw [bD0,if_neg hwo]
    rw [hL,e1,if_neg hno2]
    by_cases hp:0<o.qty - n
    ·have e2:wilL s p ({ o with qty:=o.qty - n }::bE0 id n L)=0+wilL s p (bE0 id n L):=by rw [bD0,hw,if_neg hwo]
     rw [if_pos hp,e2,ih];omega
    ·rw [if_neg hp,ih];omega
  ·have hL:bE0 id n (o::L)=o::bE0 id n L:=by
    unfold bE0;rw [List.map_cons,hJ0 e,List.filter_cons_of_pos (by simpa using (show 0<o.qty by omega))]
   have hiff:(∃x∈o::L,x.id=id∧(x.side == s&& wilB s p x)=true)↔∃x∈L,x.id=id∧(x.side == s&& wilB s p x)=true:=by
    constructor
    ·rintro ⟨x,hx,h1,h2⟩;rw [List.mem_cons] at hx;rcases hx with rfl | hx
     ·exact absurd h1 e
     ·exact ⟨x,hx,h1,h2⟩
    ·rintro ⟨x,hx,h1,h2⟩;exact ⟨x,List.mem_cons_of_mem _ hx,h1,h2⟩
   rw [hL,bD0,bD0,ih];simp only [hiff];omega
theorem xZ0 {L:List Ord} (h:LOk L) {s p:Int} (hs:s=1∨s=2) (hw:0<wilL s p L):∃x T,aK0 s L=x::T∧x∈L∧x.side=s∧wilB s p x=true:=by
 obtain ⟨o,ho,h1,h2⟩:=xX0 (fun y hy=>(h.ok y hy).2.2.1) hw;have hm:o∈aK0 s L:=aP0.2 ⟨ho,h1⟩
 match hS:aK0 s L with
 | []=>rw [hS] at hm;cases hm
 | x::T=>
  have hx:x∈aK0 s L:=by rw [hS];exact List.mem_cons_self ..
  obtain ⟨hxL,hxs⟩:=aP0.1 hx;refine ⟨x,T,rfl,hxL,hxs,?_⟩
  have hr:eI0 s x≤eI0 s o:=by
   have hsrt:=gP0 (rank:=eI0 s) (cR0 s L);rw [show lF0 (eI0 s) (cR0 s L)=x::T from hS,List.pairwise_cons] at hsrt;rw [hS,List.mem_cons] at hm;rcases hm with rfl | hm
   ·exact Int.le_refl _
   ·exact hsrt.1 o hm
  have px:=h.ok x hxL;have po:=h.ok o ho;unfold eI0 cP1 at hr;unfold wilB at h2 ⊢
  by_cases kx:x.kind=2
  ·rw [kx];rfl
  ·rw [if_neg kx] at hr
   by_cases ko:o.kind=2
   ·rw [if_pos ko] at hr;split at hr <;> omega
   ·rw [if_neg ko] at hr;have kob:(o.kind == 2)=false:=beq_eq_false_iff_ne.2 ko;have kxb:(x.kind == 2)=false:=beq_eq_false_iff_ne.2 kx;rw [kob,Bool.false_or] at h2;rw [kxb,Bool.false_or];rcases hs with rfl | rfl
    ·rw [if_pos rfl,if_pos rfl] at hr;simp at h2 ⊢;omega
    ·rw [if_neg (by decide),if_neg (by decide)] at hr;simp at h2 ⊢;omega
structure FS where
 fs:List Fil
 L:List Ord
 q:Int
def jD0 (s:Int) (L:List Ord):Ord:=oAt (aK0 s L) 0
def lotN (s:FS):Int:=min s.q (min (jD0 1 s.L).qty (jD0 2 s.L).qty)
def eC0 (p:Int) (s:FS):FS:=⟨s.fs++[⟨(jD0 1 s.L).id,(jD0 2 s.L).id,p,lotN s⟩],cutM (jD0 2 s.L).id (lotN s) (cutM (jD0 1 s.L).id (lotN s) s.L),s.q - lotN s⟩
def aQ0 (p:Int) (s:FS):Nat→FS
 | 0=>s
 | k+1=>eC0 p (aQ0 p s k)
structure FOk (p:Int) (s:FS):Prop where
 ok:LOk s.L
 nn:0≤s.q
 buy:s.q≤wilL 1 p s.L
 sell:s.q≤wilL 2 p s.L
theorem hK0 {p:Int} {s:FS} (h:FOk p s) (hq:0<s.q):
  (∃x T y U,aK0 1 s.L=x::T∧aK0 2 s.L=y::U∧jD0 1 s.L=x∧jD0 2 s.L=y∧x∈s.L∧y∈s.L∧y∈bE0 x.id (lotN s) s.L∧1≤lotN s∧lotN s≤s.q∧lotN s≤x.qty∧lotN s≤y.qty∧cutM x.id (lotN s) s.L=bE0 x.id (lotN s) s.L∧(eC0 p s).L=bE0 y.id (lotN s) (bE0 x.id (lotN s) s.L)
   ∧cutN x.id (lotN s) s.L=0∧cutN y.id (lotN s) (bE0 x.id (lotN s) s.L)=0∧LOk (bE0 x.id (lotN s) s.L))∧FOk p (eC0 p s):=by
 obtain ⟨hok,_,hb,hs⟩:=h;obtain ⟨x,T,hS1,hxL,hxs,hxw⟩:=xZ0 hok (s:=1) (p:=p) (Or.inl rfl) (by omega);obtain ⟨y,U,hS2,hyL,hys,hyw⟩:=xZ0 hok (s:=2) (p:=p) (Or.inr rfl) (by omega);have hbx:jD0 1 s.L=x:=by unfold jD0;rw [hS1];rfl
 have hby:jD0 2 s.L=y:=by unfold jD0;rw [hS2];rfl
 have px:=hok.ok x hxL;have py:=hok.ok y hyL;have hn:lotN s=min s.q (min x.qty y.qty):=by unfold lotN;rw [hbx,hby]
 obtain ⟨n,hnn⟩:∃n,lotN s=n:=⟨_,rfl⟩;have n1:1≤n∧n≤s.q∧n≤x.qty∧n≤y.qty:=by omega
 obtain ⟨c1,c2⟩:=cU1 hok hxL (n:=n) (by omega);have ok1:=hok.less x.id (n:=n) (by omega)
 have hy1:y∈bE0 x.id n s.L:=by
  have:y∈aK0 2 (bE0 x.id n s.L):=by
   rw [lG0 hok (s:=1) (t:=2) (x:=x) (by rw [hS1];exact List.mem_cons_self ..) (by decide),hS2];exact List.mem_cons_self ..
  exact (aP0.1 this).1
 obtain ⟨c3,c4⟩:=cU1 ok1 hy1 (n:=n) (by omega);have ok2:=ok1.less y.id (n:=n) (by omega)
 have hL:(eC0 p s).L=bE0 y.id n (bE0 x.id n s.L):=by
  show cutM (jD0 2 s.L).id (lotN s) (cutM (jD0 1 s.L).id (lotN s) s.L)=_;rw [hbx,hby,hnn,c1,c3]
 have hq':(eC0 p s).q=s.q - n:=by show s.q - lotN s=_;rw [hnn]
 have one:∀{L:List Ord},LOk L→∀{z:Ord},z∈L→n≤z.qty→∀t,wilL t p (bE0 z.id n L)=wilL t p L - (if (z.side == t&& wilB t p z)=true then n else 0):=fun {L} hL {z} hz hzq t=>by
  rw [xY0 hL.ids (fun o ho=>(hL.ok o ho).2.2.1) (fun o ho e=>by rw [mC0 hL.ids ho hz e];exact hzq)]
  congr 1
  by_cases hw:(z.side == t&& wilB t p z)=true
  ·rw [if_pos hw,if_pos ⟨z,hz,rfl,hw⟩]
  ·rw [if_neg hw,if_neg];rintro ⟨o,ho,e,h2⟩;rw [mC0 hL.ids ho hz e] at h2;exact hw h2
 have w1:=one hok hxL n1.2.2.1 1;have w2:=one hok hxL n1.2.2.1 2;have w3:=one ok1 hy1 n1.2.2.2 1;have w4:=one ok1 hy1 n1.2.2.2 2;rw [if_pos (by rw [hxs,hxw];rfl)] at w1;rw [if_neg (by rw [hxs];simp)] at w2;rw [if_neg (by rw [hys];simp)] at w3;rw [if_pos (by rw [hys,hyw];rfl)] at w4;rw [hnn];refine ⟨⟨x,T,y,U,hS1,hS2,hbx,hby,hxL,hyL,hy1,n1.1,n1.2.1,n1.2.2.1,n1.2.2.2,c1,hL,c2,c4,ok1⟩,?_⟩;refine ⟨by rw [hL];exact ok2,by rw [hq'];omega,?_,?_⟩
 ·rw [hL,hq',w3,w1];omega
 ·rw [hL,hq',w4,w2];omega
theorem gH0 {p:Int} {s:FS} (h:FOk p s):∀k,(∀j,j<k→0<(aQ0 p s j).q)→FOk p (aQ0 p s k)
 | 0,_=>h
 | k+1,hq=>(hK0 (gH0 h k (fun j hj=>hq j (by omega))) (hq k (by omega))).2
structure MS where
 fs:List Fil
 L:List Ord
 q:Int
 ts:List Int
def kG0 (o x:Ord) (n:Int):Fil:=if o.side=1 then ⟨o.id,x.id,x.price,n⟩ else ⟨x.id,o.id,x.price,n⟩
def hZ0 (o x:Ord) (s:MS):MS:=⟨s.fs++[kG0 o x (min s.q x.qty)],bE0 x.id (min s.q x.qty) s.L,s.q - min s.q x.qty,s.ts++[x.price]⟩
def farB (o x:Ord):Bool:=!decide (o.kind=2)&& (decide (o.side=1)&& decide (o.price<x.price) || decide (o.side=2)&& decide (x.price<o.price))
variable {al:Int→Bool} {o x:Ord} {T X:List Ord} {s:MS}
structure MOk (X:List Ord) (s:MS):Prop where
 ok:LOk s.L
 here:∀x∈X,x∈s.L
 ids:(X.map Ord.id).Nodup
 one:s.ts.length=s.fs.length
theorem MOk.pass (h:MOk (x::T) s):MOk T s:=⟨h.ok,fun y hy=>h.here y (List.mem_cons_of_mem _ hy),(List.nodup_cons.1 h.ids).2,h.one⟩
theorem MOk.lots (h:MOk (x::T) s) (hq:0<s.q):1≤min s.q x.qty∧min s.q x.qty≤x.qty∧min s.q x.qty≤s.q:=by
 have:=h.ok.ok x (h.here x (List.mem_cons_self ..));omega
theorem MOk.step (o:Ord) (h:MOk (x::T) s) (hq:0<s.q):MOk T (hZ0 o x s):=by
 have h1:=(List.nodup_cons.1 h.ids);have hn:=h.lots hq;refine ⟨h.ok.less _ (by omega),fun y hy=>?_,h1.2,?_⟩
 ·have hne:y.id≠x.id:=fun e=>h1.1 (by rw [←e];exact List.mem_map_of_mem hy)
  have hL:=h.here y (List.mem_cons_of_mem _ hy);show y∈bE0 _ _ _;unfold bE0;rw [List.mem_filter,List.mem_map];exact ⟨⟨y,hL,hJ0 hne⟩,by have:=h.ok.ok y hL;simpa using (show 0<y.qty by omega)⟩
 ·show (s.ts++[_]).length=(s.fs++[_]).length;rw [List.length_append,List.length_append,h.one];rfl
theorem MOk.start {l:List Ord} (h:LOk l) (t q:Int):MOk (aK0 t l) ⟨[],l,q,[]⟩:=⟨h,fun _ hx=>(aP0.1 hx).1,xW0 h t,rfl⟩
end Go.Proofs.YtaelphbianmckaaGreatDoor
namespace Go.Proofs.YtaelphbianmckaaGreatDoor
open Go.RowKit
def cH0 (al:List Int→Int→Bool) (o:Ord):List Ord→MS→MS×Bool
 | [],s=>(s,false)
 | x::T,s=>if s.q≤0 then (s,false) else if x.kind=2 then cH0 al o T s else if farB o x=true then (s,false) else if al s.ts x.price=true then cH0 al o T (hZ0 o x s) else (s,true)
section
variable {al:List Int→Int→Bool} {o x:Ord} {T X:List Ord} {s:MS}
theorem eJ0 (h:s.q≤0):∀X,cH0 al o X s=(s,false)
 | []=>rfl
 | _::_=>by unfold cH0;rw [if_pos h]
theorem aG1 (h:0<s.q) (hk:x.kind=2):cH0 al o (x::T) s=cH0 al o T s:=by
 rw [cH0,if_neg (by omega),if_pos hk]
theorem lH0 (hk:x.kind=2):cH0 al o (x::T) s=cH0 al o T s:=by
 by_cases h:s.q≤0
 ·rw [eJ0 h,eJ0 h]
 ·exact aG1 (by omega) hk
theorem kH0 (h:0<s.q) (hk:x.kind≠2) (hf:farB o x=true):cH0 al o (x::T) s=(s,false):=by
 rw [cH0,if_neg (by omega),if_neg hk,if_pos hf]
theorem iW0 (h:0<s.q) (hk:x.kind≠2) (hf:farB o x=false) (ha:al s.ts x.price=false):cH0 al o (x::T) s=(s,true):=by
 rw [cH0,if_neg (by omega),if_neg hk,if_neg (by rw [hf];decide),if_neg (by rw [ha];decide)]
theorem hL0 (h:0<s.q) (hk:x.kind≠2) (hf:farB o x=false) (ha:al s.ts x.price=true):cH0 al o (x::T) s=cH0 al o T (hZ0 o x s):=by
 rw [cH0,if_neg (by omega),if_neg hk,if_neg (by rw [hf];decide),if_pos ha]
end
theorem nW0 (al:List Int→Int→Bool) (o:Ord):∀(X:List Ord) (s:MS),(cH0 al o X s).1.fs.length≤s.fs.length+X.length∧(cH0 al o X s).1.ts.length≤s.ts.length+X.length
 | [],s=>⟨lR7,lR7⟩
 | x::T,s=>by
  have stay:s.fs.length≤s.fs.length+(x::T).length∧s.ts.length≤s.ts.length+(x::T).length:=⟨Nat.le_add_right _ _,Nat.le_add_right _ _⟩;unfold cH0;split
  ·exact stay
  ·split
   ·have:=nW0 al o T s;rw [List.length_cons];omega
   ·split
    ·exact stay
    ·split
     ·have h:=nW0 al o T (hZ0 o x s);have e1:(hZ0 o x s).fs.length=s.fs.length+1:=by show (s.fs++[_]).length=_;rw [List.length_append];rfl
      have e2:(hZ0 o x s).ts.length=s.ts.length+1:=by show (s.ts++[_]).length=_;rw [List.length_append];rfl
      rw [List.length_cons];omega
     ·exact stay
def DBox (w:World) (b:Nat) (o:Ord):Prop:=w.heap[b]? = some (.cells #[.int .i64 o.id,.int .i64 o.side,.int .i64 o.kind,.int .i64 o.price,.int .i64 o.qty] 92 (0,0))
def ZBox (w:World) (b:Nat):Prop:=w.heap[b]? = some (.cells #[.int .i64 0,.int .i64 0,.int .i64 0,.int .i64 0,.int .i64 0] 92 (0,0))
def boxed (w:World) (b:Nat) (o:Ord):World:=((((w.setCell ⟨b,0,none⟩ (.int .i64 o.id)).setCell ⟨b,1,none⟩ (.int .i64 o.side)).setCell ⟨b,2,none⟩ (.int .i64 o.kind)).setCell ⟨b,3,none⟩ (.int .i64 o.price)).setCell ⟨b,4,none⟩ (.int .i64 o.qty)
theorem kI0 (w:World) (b:Nat) (o:Ord):Out (fun j=>j=b) w (boxed w b o):=
 ((((aN0 w ⟨b,0,none⟩ _).trans (aN0 _ ⟨b,1,none⟩ _) (Went.refl _ _)).trans (aN0 _ ⟨b,2,none⟩ _) (Went.refl _ _)).trans (aN0 _ ⟨b,3,none⟩ _) (Went.refl _ _)).trans (aN0 _ ⟨b,4,none⟩ _) (Went.refl _ _)
theorem yA0 {w:World} {b:Nat} (o:Ord) (h:ZBox w b):DBox (boxed w b o) b o:=
 aH0 (j:=4) _ (aH0 (j:=3) _ (aH0 (j:=2) _ (aH0 (j:=1) _ (aH0 (j:=0) _ h))))
def cE0 (o:Ord) (q:Int):Ord:=⟨o.id,o.side,o.kind,o.price,q⟩
theorem cW1 (id n:Int) (L:List Ord):(bE0 id n L).length≤L.length:=by
 unfold bE0;exact Nat.le_trans (List.length_filter_le _ _) (by rw [List.length_map];exact lR7)
theorem cX1 {L:List Ord} {x:Ord} (hx:x∈L):(bE0 x.id x.qty L).length<L.length:=by
 have h:((L.map (cutF x.id x.qty)).filter fun o=>decide (0<o.qty)).length<(L.map (cutF x.id x.qty)).length:=by
  refine List.length_filter_lt_length_iff_exists.2 ⟨cutF x.id x.qty x,List.mem_map_of_mem hx,?_⟩;rw [rH0];show ¬decide (0<x.qty - x.qty)=true;simp
 rw [List.length_map] at h;exact h
theorem cY1 {p:Int} {s:FS} (h:FOk p s) (hq:0<s.q) (hq2:0<(eC0 p s).q):(eC0 p s).L.length<s.L.length:=by
 obtain ⟨⟨x,T,y,U,_,_,hbx,hby,hxL,_,hy1,_,_,n3,n4,_,hL2,_,_,_⟩,_⟩:=hK0 h hq;have e1:lotN s=min s.q (min x.qty y.qty):=by unfold lotN;rw [hbx,hby]
 have e2:(eC0 p s).q=s.q - lotN s:=rfl;rw [hL2];have hc:lotN s=x.qty∨lotN s=y.qty:=by omega
 rcases hc with hc | hc
 ·rw [hc];exact Nat.lt_of_le_of_lt (cW1 _ _ _) (cX1 hxL)
 ·rw [hc] at hy1 ⊢;exact Nat.lt_of_lt_of_le (cX1 hy1) (cW1 _ _ _)
theorem gQ0 {p:Int} {s:FS} (h:FOk p s):∀k,(∀j,j<k+1→0<(aQ0 p s j).q)→k+(aQ0 p s k).L.length≤s.L.length
 | 0,_=>by show 0+s.L.length≤s.L.length;omega
 | k+1,hq=>by
  have ih:=gQ0 h k (fun j hj=>hq j (by omega));have h1:=cY1 (gH0 h k (fun j hj=>hq j (by omega))) (hq k (by omega)) (hq (k+1) (by omega));have e:aQ0 p s (k+1)=eC0 p (aQ0 p s k):=rfl;rw [e];omega
set_option linter.unusedSimpArgs false
def hM0 (p:Int):Bool:=p == 2 || p == 4 || p == 5
def eD0 (p:Int):Bool:=p == 1 || p == 2 || p == 4 || p == 5
def gR0 (p k:Int):Bool:=(k == 1&& (eD0 p || p == 3)) || (k == 4&& (eD0 p || p == 3)) || (k == 2&& (p == 3 || hM0 p)) || (k == 3&& eD0 p)
theorem yB0 {a b:Bool} (h:a=b):Ending.returned (.bool a)=.returned (.bool b):=by rw [h]
theorem qW1 (p:Int) (w:World):Calls Tryz.prog 178 #[.int .i64 p] w fun e w'=>e=.returned (.bool (hM0 p))∧w'=w:=by
 go_enter Tryz.func178,Tryz.ntmps178;go_wp2
 all_goals (go_ret;refine ⟨yB0 ?_,rfl⟩;(first | rfl | (rw [Bool.eq_iff_iff];simp only [gR0,eD0,hM0,Bool.or_eq_true,Bool.and_eq_true,beq_iff_eq,beq_eq_false_iff_ne,ne_eq,decide_eq_true_eq,true_iff,Bool.false_eq_true,false_iff] at *;omega)))
theorem cZ1 (p:Int) (w:World):Calls Tryz.prog 127 #[.int .i64 p] w fun e w'=>e=.returned (.bool (eD0 p))∧w'=w:=by
 go_enter Tryz.func127,Tryz.ntmps127;go_wp2
 all_goals (go_ret;refine ⟨yB0 ?_,rfl⟩;(first | rfl | (rw [Bool.eq_iff_iff];simp only [gR0,eD0,hM0,Bool.or_eq_true,Bool.and_eq_true,beq_iff_eq,beq_eq_false_iff_ne,ne_eq,decide_eq_true_eq,true_iff,Bool.false_eq_true,false_iff] at *;omega)))
theorem nZ1 (p k:Int) (w:World):Calls Tryz.prog 236 #[.int .i64 p,.int .i64 k] w fun e w'=>e=.returned (.bool (gR0 p k))∧w'=w:=by
 go_enter Tryz.func236,Tryz.ntmps236;go_wp2_with (first | (go_at_call 127;refine (cZ1 _ _).mono ?_;rintro e w1 ⟨rfl,rfl⟩) | (go_at_call 178;refine (qW1 _ _).mono ?_;rintro e w1 ⟨rfl,rfl⟩))
 all_goals (go_ret;refine ⟨yB0 ?_,rfl⟩;(first | rfl | (rw [Bool.eq_iff_iff];simp only [gR0,eD0,hM0,Bool.or_eq_true,Bool.and_eq_true,beq_iff_eq,beq_eq_false_iff_ne,ne_eq,decide_eq_true_eq,true_iff,Bool.false_eq_true,false_iff] at *;omega)))
def bW0 (p s:Int):Bool:=inB 1 1000000 p&& inB 0 10000 s
def bandL (p s:Int):Int:=if bW0 p s=true then max 1 (p - p*s / 10000) else 0
def bandH (p s:Int):Int:=if bW0 p s=true then min 1000000 (p+p*s / 10000) else 0
def aH1 (p s:Int):Int:=if bW0 p s=true then 0 else 2
theorem dA1 {p s:Int} (hp:1≤p∧p≤1000000) (hs:0≤s∧s≤10000):0≤p*s∧p*s≤10000000000:=by
 have h1:0≤p*s:=Int.mul_nonneg (by omega) hs.1;have h2:p*s≤1000000*10000:=Int.mul_le_mul hp.2 hs.2 hs.1 (by omega);exact ⟨h1,by omega⟩
theorem iV1 {a b c d:Int} {v:Value} (h1:a=c) (h2:b=d):Ending.returned (.tuple #[.int .i64 a,.int .i64 b,v])=.returned (.tuple #[.int .i64 c,.int .i64 d,v]):=by rw [h1,h2]
theorem iW1 {p s:Int} (h:bW0 p s=true):bandL p s=max 1 (p - p*s / 10000):=if_pos h
theorem iX1 {p s:Int} (h:bW0 p s=true):bandH p s=min 1000000 (p+p*s / 10000):=if_pos h
theorem iY1 {p s:Int} (h:bW0 p s=false):bandL p s=0:=if_neg (by rw [h];decide)
theorem iZ1 {p s:Int} (h:bW0 p s=false):bandH p s=0:=if_neg (by rw [h];decide)
set_option maxHeartbeats 400000 in
theorem oA1 (p s:Int) (w:World) (hp:1≤p∧p≤1000000) (hs:0≤s∧s≤10000):
  Calls Tryz.prog 81 #[.int .i64 p,.int .i64 s] w fun e w'=>e=.returned (.tuple #[.int .i64 (max 1 (p - p*s / 10000)),.int .i64 (min 1000000 (p+p*s / 10000)),.nilIface])∧Below w.heap.size w w':=by
 have hm:=dA1 hp hs;go_enter Tryz.func81,Tryz.ntmps81;go_wp2_with fail;refine (gN0 p _ _ (by simp [go_sem])).mono ?_;rintro e w' ⟨rfl,rfl⟩;rw [nN0 hp];go_wp2_with fail;refine (lD0 0 10000 s _ _ (by simp [go_sem])).mono ?_;rintro e w' ⟨rfl,rfl⟩;rw [nN0 hs];go_wp2_with fail
 all_goals
  go_ret3;exact ⟨iV1 (by omega) (by omega),by go_grown⟩
set_option maxHeartbeats 400000 in
theorem oB1 (p s:Int) (w:World) (h:bW0 p s=false):
  Calls Tryz.prog 81 #[.int .i64 p,.int .i64 s] w fun e w'=>e=.returned (.tuple #[.int .i64 0,.int .i64 0,.iface 26 (.int .i64 2)])∧Below w.heap.size w w':=by
 cases hp:inB 1 1000000 p with
 | false=>
  have HP:Hid (inB 1 1000000 p=false):=hp;clear hp h;go_enter Tryz.func81,Tryz.ntmps81;go_wp2_with fail;refine (gN0 p _ _ (by simp [go_sem])).mono ?_;rintro e w' ⟨rfl,rfl⟩;rw [HP.out];go_wp2_with fail;go_ret3;exact ⟨rfl,by go_grown⟩
 | true=>
  have hs:inB 0 10000 s=false:=by unfold bW0 at h;rw [hp] at h;simpa using h
  have HP:Hid (inB 1 1000000 p=true):=hp;have HS:Hid (inB 0 10000 s=false):=hs;clear hp hs h;go_enter Tryz.func81,Tryz.ntmps81;go_wp2_with fail;refine (gN0 p _ _ (by simp [go_sem])).mono ?_;rintro e w' ⟨rfl,rfl⟩;rw [HP.out];go_wp2_with fail;refine (lD0 0 10000 s _ _ (by simp [go_sem])).mono ?_;rintro e w' ⟨rfl,rfl⟩;rw [HS.out];go_wp2_with fail;go_ret3;exact ⟨rfl,by go_grown⟩
theorem vT0 {p s:Int} (h:bW0 p s=true):(1≤p∧p≤1000000)∧(0≤s∧s≤10000):=by
 unfold bW0 at h;rw [Bool.and_eq_true] at h;exact ⟨dW0 h.1,dW0 h.2⟩
theorem pW0 (p:Int):cG0 p 1=inB 1 1000000 p:=by
 unfold cG0;rw [nN0 (show (1:Int)≤1∧(1:Int)≤1000000 by omega),Bool.and_true]
end Go.Proofs.YtaelphbianmckaaGreatDoor
