/- A part of the proof of EnginePlays. -/
import Derived.Test.YtjdkagafdnchhaaGreatDoorPA
import Derived.Test.YtjdkagafdnchhaaGreatDoorPF
import Derived.Test.YtjdkagafdnchhaaGreatDoorPK
import Derived.Deep.CutBlock
import Derived.Deep.CutRange
import Derived.Test.YtjdkagafdnchhaaGreatDoorPC
import Derived.Deep.RegionWith
import Derived.Maps.AppendAt
import Derived.Lib.MinMax
namespace Go.Proofs.YtjdkagafdnchhaaGreatDoor
open Go.RowKit
theorem LOk.take {L:List Ord} (h:LOk L) (k:Nat):LOk (L.take k):=⟨fun o ho=>h.side o (List.mem_of_mem_take ho),((List.take_sublist k L).map Ord.id).nodup h.ids,fun o ho=>h.ok o (List.mem_of_mem_take ho)⟩
theorem uW0 {L:List Ord} {k:Nat} (s p:Int) (h:k<L.length):wilL s p (L.take (k+1))=wilL s p (L.take k)+(if ((oAt L k).side == s&& wilB s p (oAt L k))=true then (oAt L k).qty else 0):=by
 unfold wilL;rw [List.take_succ_eq_append_getElem h,List.map_append,List.map_singleton,List.sum_append,dL0 h];simp
set_option maxRecDepth 4000 in
set_option maxHeartbeats 4000000 in
theorem mY1 (base:Nat) (sp:Spot) (v:Value) (l:List Ord) (p:Int) (w:World) (h:BookIs w base sp v l) (hl:l.length≤100) (hok:LOk l):
  Calls Tryz.prog 154 #[.pointer (some ⟨sp.bb,sp.off,none⟩),.int .i64 1,.int .i64 p] w fun e w'=>e=.returned (.int .i64 (wilL 1 p l))∧Below w.heap.size w w':=by
 have c0:w.cell? ⟨sp.bb,sp.off,none⟩=some v:=h.cell;have HA:Hid (BookIs w base sp v l):=h;have HK:Hid (LOk l):=hok;obtain ⟨ao,cap,rfl,_,_⟩:=aW0 h.all;clear h hok;go_enter Tryz.func154,Tryz.ntmps154;go_wp2_with fail;go_loopw [7,9,15] (fun u _ i wr=>∃k:Nat,k≤l.length∧i=.int .i64 k∧u=.int .i64 (wilL 1 p (l.take k))∧Below w.heap.size w wr) (fun _ _ i _=>l.length - (intOf i).toNat)
 case atStart=>exact ⟨0,Nat.zero_le _,rfl,rfl,Below.refl _ _⟩
 case round=>
  obtain ⟨k,hk,rfl,rfl,hb⟩:=hrel;have HB:Hid (Below w.heap.size w wr):=hb
  by_cases hk1:k<l.length
  ·have hlt:(k:Int)<(l.length:Int):=by omega
   obtain ⟨g,cap',hv,d0,d1,d2,d3,d4⟩:=cD0 (HA.out.below hb lR7).all hk1;simp only [Value.slice.injEq,true_and] at hv;obtain ⟨rfl,rfl⟩:=hv;have hin:=oJ0 1 p (HK.out.take k);have hq:=HK.out.ok _ (oG0 hk1);have htl:(l.take k).length≤100:=by rw [List.length_take];omega
   have HW:Hid (wilL 1 p (l.take (k+1))=wilL 1 p (l.take k)+(if ((oAt l k).side == 1&& wilB 1 p (oAt l k))=true then (oAt l k).qty else 0)):=uW0 1 p hk1;clear hb;generalize oAt l k=o at d0 d1 d2 d3 d4 hq HW;generalize wilL 1 p (l.take k)=nn at hin HW ⊢;go_upto_region 5 with fail;obtain ⟨cc,hcc⟩:∃cc:Bool,cc=(o.side == 1&& wilB 1 p o):=⟨_,rfl⟩;have HCC:Hid (cc=(o.side == 1&& wilB 1 p o)):=hcc;rw [←hcc] at HW;clear hcc;go_cut [47] from 16 to 52 (fun u wc=>u=.bool cc∧wc=wr.alloc (.cells #[.int .i64 o.id,.int .i64 o.side,.int .i64 o.kind,.int .i64 o.price,.int .i64 o.qty] 41))
   case first=>
    by_cases h1:o.side=1
    ·have b1:(o.side == 1)=true:=beq_iff_eq.2 h1
     by_cases h2:o.kind=2
     ·have b2:(o.kind == 2)=true:=beq_iff_eq.2 h2;have HC:Hid (cc=true):=by show cc=true;rw [HCC.out];unfold wilB;rw [b1,b2];rfl
      clear h1 h2;go_wp2_with fail;go_meet;exact ⟨by rw [HC.out],rfl⟩
     ·have b2:(o.kind == 2)=false:=beq_eq_false_iff_ne.2 h2
      by_cases h3:p≤o.price
      ·have HC:Hid (cc=true):=by show cc=true;rw [HCC.out];unfold wilB;rw [b1,b2];simp [h3]
       clear h1 h2;go_wp2_with fail;go_meet;exact ⟨by rw [HC.out],rfl⟩
      ·have HC:Hid (cc=false):=by show cc=false;rw [HCC.out];unfold wilB;rw [b1,b2];simp [h3]
       clear h1 h2;go_wp2_with fail;go_meet;exact ⟨by rw [HC.out],rfl⟩
    ·have b1:(o.side == 1)=false:=beq_eq_false_iff_ne.2 h1;have HC:Hid (cc=false):=by show cc=false;rw [HCC.out,b1];rfl
     clear h1;go_wp2_with fail;go_meet;exact ⟨by rw [HC.out],rfl⟩
   case rest=>
    obtain ⟨rfl,rfl⟩:=hcut;cases hc:cc with
    | true=>
     have HW2:Hid (wilL 1 p (l.take (k+1))=nn+o.qty):=by rw [HW.out,if_pos hc];rfl
     clear hc HW;go_wp2_with fail;go_roundw
     case rel=>exact ⟨k+1,hk1,by go_num,by rw [HW2.out],HB.out.alloc HB.out.size _⟩
     case measure=>simp [intOf];omega
    | false=>
     have HW2:Hid (wilL 1 p (l.take (k+1))=nn):=by show _=_;rw [HW.out,if_neg (by rw [hc];decide)];omega
     clear hc HW;go_wp2_with fail;go_roundw
     case rel=>exact ⟨k+1,hk1,by go_num,by rw [HW2.out],HB.out.alloc HB.out.size _⟩
     case measure=>simp [intOf];omega
  ·obtain rfl:k=l.length:=by omega
   rw [List.take_length];clear hb;go_wp2_with fail;go_ret;exact ⟨rfl,HB.out⟩
set_option maxRecDepth 4000 in
set_option maxHeartbeats 4000000 in
theorem mZ1 (base:Nat) (sp:Spot) (v:Value) (l:List Ord) (p:Int) (w:World) (h:BookIs w base sp v l) (hl:l.length≤100) (hok:LOk l):
  Calls Tryz.prog 154 #[.pointer (some ⟨sp.bb,sp.off,none⟩),.int .i64 2,.int .i64 p] w fun e w'=>e=.returned (.int .i64 (wilL 2 p l))∧Below w.heap.size w w':=by
 have c0:w.cell? ⟨sp.bb,sp.off,none⟩=some v:=h.cell;have HA:Hid (BookIs w base sp v l):=h;have HK:Hid (LOk l):=hok;obtain ⟨ao,cap,rfl,_,_⟩:=aW0 h.all;clear h hok;go_enter Tryz.func154,Tryz.ntmps154;go_wp2_with fail;go_loopw [7,9,15] (fun u _ i wr=>∃k:Nat,k≤l.length∧i=.int .i64 k∧u=.int .i64 (wilL 2 p (l.take k))∧Below w.heap.size w wr) (fun _ _ i _=>l.length - (intOf i).toNat)
 case atStart=>exact ⟨0,Nat.zero_le _,rfl,rfl,Below.refl _ _⟩
 case round=>
  obtain ⟨k,hk,rfl,rfl,hb⟩:=hrel;have HB:Hid (Below w.heap.size w wr):=hb
  by_cases hk1:k<l.length
  ·have hlt:(k:Int)<(l.length:Int):=by omega
   obtain ⟨g,cap',hv,d0,d1,d2,d3,d4⟩:=cD0 (HA.out.below hb lR7).all hk1;simp only [Value.slice.injEq,true_and] at hv;obtain ⟨rfl,rfl⟩:=hv;have hin:=oJ0 2 p (HK.out.take k);have hq:=HK.out.ok _ (oG0 hk1);have htl:(l.take k).length≤100:=by rw [List.length_take];omega
   have HW:Hid (wilL 2 p (l.take (k+1))=wilL 2 p (l.take k)+(if ((oAt l k).side == 2&& wilB 2 p (oAt l k))=true then (oAt l k).qty else 0)):=uW0 2 p hk1;clear hb;generalize oAt l k=o at d0 d1 d2 d3 d4 hq HW;generalize wilL 2 p (l.take k)=nn at hin HW ⊢;go_upto_region 5 with fail;obtain ⟨cc,hcc⟩:∃cc:Bool,cc=(o.side == 2&& wilB 2 p o):=⟨_,rfl⟩;have HCC:Hid (cc=(o.side == 2&& wilB 2 p o)):=hcc;rw [←hcc] at HW;clear hcc;go_cut [47] from 16 to 52 (fun u wc=>u=.bool cc∧wc=wr.alloc (.cells #[.int .i64 o.id,.int .i64 o.side,.int .i64 o.kind,.int .i64 o.price,.int .i64 o.qty] 41))
   case first=>
    by_cases h1:o.side=2
    ·have b1:(o.side == 2)=true:=beq_iff_eq.2 h1
     by_cases h2:o.kind=2
     ·have b2:(o.kind == 2)=true:=beq_iff_eq.2 h2;have HC:Hid (cc=true):=by show cc=true;rw [HCC.out];unfold wilB;rw [b1,b2];rfl
      clear h1 h2;go_wp2_with fail;go_meet;exact ⟨by rw [HC.out],rfl⟩
     ·have b2:(o.kind == 2)=false:=beq_eq_false_iff_ne.2 h2
      by_cases h3:o.price≤p
      ·have HC:Hid (cc=true):=by show cc=true;rw [HCC.out];unfold wilB;rw [b1,b2];simp [h3]
       clear h1 h2;go_wp2_with fail;go_meet;exact ⟨by rw [HC.out],rfl⟩
      ·have HC:Hid (cc=false):=by show cc=false;rw [HCC.out];unfold wilB;rw [b1,b2];simp [h3]
       clear h1 h2;go_wp2_with fail;go_meet;exact ⟨by rw [HC.out],rfl⟩
    ·have b1:(o.side == 2)=false:=beq_eq_false_iff_ne.2 h1;have HC:Hid (cc=false):=by show cc=false;rw [HCC.out,b1];rfl
     clear h1;go_wp2_with fail;go_meet;exact ⟨by rw [HC.out],rfl⟩
   case rest=>
    obtain ⟨rfl,rfl⟩:=hcut;cases hc:cc with
    | true=>
     have HW2:Hid (wilL 2 p (l.take (k+1))=nn+o.qty):=by rw [HW.out,if_pos hc];rfl
     clear hc HW;go_wp2_with fail;go_roundw
     case rel=>exact ⟨k+1,hk1,by go_num,by rw [HW2.out],HB.out.alloc HB.out.size _⟩
     case measure=>simp [intOf];omega
    | false=>
     have HW2:Hid (wilL 2 p (l.take (k+1))=nn):=by show _=_;rw [HW.out,if_neg (by rw [hc];decide)];omega
     clear hc HW;go_wp2_with fail;go_roundw
     case rel=>exact ⟨k+1,hk1,by go_num,by rw [HW2.out],HB.out.alloc HB.out.size _⟩
     case measure=>simp [intOf];omega
  ·obtain rfl:k=l.length:=by omega
   rw [List.take_length];clear hb;go_wp2_with fail;go_ret;exact ⟨rfl,HB.out⟩
section
variable {P:Program} {ops:Array Oper} {Q:Exit→Act→World→Prop} {md:Region.Mode} {S S':World→Prop} {L:Nat→Bool}
theorem bL0 (hS:∀w,S' w→S w):∀(fuel:Nat) (listed:Array Bool) (a:Act) (w:World),gL0 P md ops Q S' L fuel listed a w→gL0 P md ops Q S L fuel listed a w
 | 0,_,_,_,h=>h
 | fuel+1,_,_,_,h=>⟨h.1,fun i hi=>wpOp_mono (fun a' w' h'=>⟨fun hl=>hS w' (h'.1 hl),bL0 hS fuel _ a' w' h'.2⟩) (h.2 i hi)⟩
end
def Head (w:World) (g:Nat) (x:Ord):Prop:=w.cell? ⟨g,0,none⟩=some (.int .i64 x.id)∧w.cell? ⟨g,1,none⟩=some (.int .i64 x.side)∧w.cell? ⟨g,2,none⟩=some (.int .i64 x.kind)∧w.cell? ⟨g,3,none⟩=some (.int .i64 x.price)∧w.cell? ⟨g,4,none⟩=some (.int .i64 x.qty)
theorem pE0 {w w':World} {p:Addr} {v:Value} (hb:Below w.heap.size w w') (h:w.cell? p=some v):w'.cell? p=some v:=(hb.cell (World.block_lt_of_cell? w _ h)).trans h
theorem Head.lt {w:World} {g:Nat} {x:Ord} (h:Head w g x):g<w.heap.size:=World.block_lt_of_cell? w _ h.1
theorem Head.below {w w':World} {g:Nat} {x:Ord} (h:Head w g x) (hb:Below w.heap.size w w'):Head w' g x:=⟨pE0 hb h.1,pE0 hb h.2.1,pE0 hb h.2.2.1,pE0 hb h.2.2.2.1,pE0 hb h.2.2.2.2⟩
theorem ZBox.lt {w:World} {b:Nat} (h:ZBox w b):b<w.heap.size:=lt_of_block h
theorem bZ0 {w:World} {base:Nat} {v:Value} {l:List Ord} {x:Ord} {T:List Ord} (h:w.ownsRow base 41 5 v l.length (oV l)) (hl:l=x::T):∃g cap,v=.slice (some ⟨g,0,none⟩) (T.length+1) cap∧base≤g∧Head w g x:=by
 obtain ⟨g,cap,e,d0,d1,d2,d3,d4⟩:=cD0 h (k:=0) (by rw [hl];simp);have ex:oAt l 0=x:=by rw [hl];rfl
 rw [ex] at d0 d1 d2 d3 d4
 have hg:base≤g:=by
  rcases h.2 with ⟨h',_⟩ | ⟨g',cap',cur,h',hb,_⟩
  ·rw [e] at h';cases h'
  ·rw [e] at h';injection h' with h1;injection h1 with h1;injection h1 with h1;omega
 exact ⟨g,cap,e.trans (by rw [hl];rfl),hg,by simpa using d0,by simpa using d1,by simpa using d2,by simpa using d3,by simpa using d4⟩
structure Two (wr w:World) (x y:Ord) (A B X Y:Option Nat):Prop where
 bel:Below wr.heap.size wr w
 a:∀g,A=some g→X≠some g∧Y≠some g∧Head w g x
 b:∀g,B=some g→X≠some g∧Y≠some g∧Head w g y
 x:∀j,X=some j→wr.heap.size≤j∧Y≠some j∧ZBox w j
 y:∀j,Y=some j→wr.heap.size≤j∧ZBox w j
variable {wr w w':World} {x y:Ord} {A B X Y:Option Nat}
theorem Two.start (wr:World) (x y:Ord):Two wr wr.drew x y none none none none:=⟨(Below.refl _ _).drew,fun _ h=>by (cases h),fun _ h=>by (cases h),fun _ h=>by (cases h),fun _ h=>by (cases h)⟩
theorem Two.keep (h:Two wr w x y A B X Y) (hb:Below w.heap.size w w'):Two wr w' x y A B X Y:=
 ⟨aD0 h.bel hb,fun g e=>⟨(h.a g e).1,(h.a g e).2.1,(h.a g e).2.2.below hb⟩,fun g e=>⟨(h.b g e).1,(h.b g e).2.1,(h.b g e).2.2.below hb⟩,fun j e=>⟨(h.x j e).1,(h.x j e).2.1,aC0 (h.x j e).2.2 hb lR7⟩,fun j e=>⟨(h.y j e).1,aC0 (h.y j e).2 hb lR7⟩⟩
theorem Two.noX (h:Two wr w x y A B X Y) {g:Nat} (hg:w.heap.size≤g):X≠some g:=fun e=>by have:=(h.x g e).2.2.lt;omega
theorem Two.noY (h:Two wr w x y A B X Y) {g:Nat} (hg:w.heap.size≤g):Y≠some g:=fun e=>by have:=(h.y g e).2.lt;omega
theorem Two.callA (h:Two wr w x y none B X Y) (hb:Below w.heap.size w w') {g:Nat} (hg:w.heap.size≤g) (hh:Head w' g x):Two wr w' x y (some g) B X Y:=
 ⟨(h.keep hb).bel,fun g' e=>by injection e with e;subst e;exact ⟨h.noX hg,h.noY hg,hh⟩,(h.keep hb).b,(h.keep hb).x,(h.keep hb).y⟩
theorem Two.callB (h:Two wr w x y A none X Y) (hb:Below w.heap.size w w') {g:Nat} (hg:w.heap.size≤g) (hh:Head w' g y):Two wr w' x y A (some g) X Y:=
 ⟨(h.keep hb).bel,(h.keep hb).a,fun g' e=>by injection e with e;subst e;exact ⟨h.noX hg,h.noY hg,hh⟩,(h.keep hb).x,(h.keep hb).y⟩
theorem Two.boxX (h:Two wr w x y A B none Y):Two wr (w.alloc (.cells #[.int .i64 0,.int .i64 0,.int .i64 0,.int .i64 0,.int .i64 0] 41)) x y A B (some w.heap.size) Y:=by
 have k:=h.keep (bel1 w (.cells #[.int .i64 0,.int .i64 0,.int .i64 0,.int .i64 0,.int .i64 0] 41));refine ⟨k.bel,fun g e=>⟨fun e'=>?_,(k.a g e).2.1,(k.a g e).2.2⟩,fun g e=>⟨fun e'=>?_,(k.b g e).2.1,(k.b g e).2.2⟩,fun j e=>?_,k.y⟩
 ·injection e' with e';have:=(h.a g e).2.2.lt;omega
 ·injection e' with e';have:=(h.b g e).2.2.lt;omega
 ·injection e with e;subst e;exact ⟨h.bel.size,h.noY lR7,heap_alloc_new w _⟩
theorem Two.boxY (h:Two wr w x y A B X none):Two wr (w.alloc (.cells #[.int .i64 0,.int .i64 0,.int .i64 0,.int .i64 0,.int .i64 0] 41)) x y A B X (some w.heap.size):=by
 have k:=h.keep (bel1 w (.cells #[.int .i64 0,.int .i64 0,.int .i64 0,.int .i64 0,.int .i64 0] 41));refine ⟨k.bel,fun g e=>⟨(k.a g e).1,fun e'=>?_,(k.a g e).2.2⟩,fun g e=>⟨(k.b g e).1,fun e'=>?_,(k.b g e).2.2⟩,fun j e=>⟨(k.x j e).1,fun e'=>?_,(k.x j e).2.2⟩,fun j e=>?_⟩
 ·injection e' with e';have:=(h.a g e).2.2.lt;omega
 ·injection e' with e';have:=(h.b g e).2.2.lt;omega
 ·injection e' with e';have:=(h.x j e).2.2.lt;omega
 ·injection e with e;subst e;exact ⟨h.bel.size,heap_alloc_new w _⟩
theorem zT0 {w w':World} {b g:Nat} {x:Ord} (h:Head w g x) (ho:Out (fun j=>j=b) w w') (hn:b≠g):Head w' g x:=by
 have hk:=ho.block g h.lt (fun e=>hn e.symm);have hc:∀i,w'.cell? ⟨g,i,none⟩=w.cell? ⟨g,i,none⟩:=fun i=>by unfold World.cell?;simp only [hk]
 exact ⟨(hc 0).trans h.1,(hc 1).trans h.2.1,(hc 2).trans h.2.2.1,(hc 3).trans h.2.2.2.1,(hc 4).trans h.2.2.2.2⟩
theorem Two.first {a b xb yb:Nat} (h:Two wr w x y (some a) (some b) (some xb) (some yb)):Head (boxed w xb x) a x∧Head (boxed w xb x) b y∧DBox (boxed w xb x) xb x∧ZBox (boxed w xb x) yb∧Below wr.heap.size wr (boxed w xb x):=by
 obtain ⟨a1,a2,a3⟩:=h.a a rfl;obtain ⟨b1,b2,b3⟩:=h.b b rfl;obtain ⟨x1,x2,x3⟩:=h.x xb rfl;obtain ⟨y1,y2⟩:=h.y yb rfl;have ho:=fW0 w xb x;exact ⟨zT0 a3 ho (fun e=>a1 (congrArg some e)),zT0 b3 ho (fun e=>b1 (congrArg some e)),jJ0 x x3,aE0 y2 ho (fun e=>x2 (congrArg some e)),h.bel.trans (ho.below (fun j hj=>by rw [show j=xb from hj];exact x1) h.bel.size)⟩
theorem Two.both {xb yb:Nat} (h:Two wr w x y A B (some xb) (some yb)) {wm:World} (d:DBox wm xb x) (z:ZBox wm yb) (hb:Below wr.heap.size wr wm):DBox (boxed wm yb y) xb x∧DBox (boxed wm yb y) yb y∧Below wr.heap.size wr (boxed wm yb y):=by
 obtain ⟨x1,x2,x3⟩:=h.x xb rfl;obtain ⟨y1,y2⟩:=h.y yb rfl;have ho:=fW0 wm yb y;exact ⟨aE0 d ho (fun e=>x2 (congrArg some (Eq.symm e))),jJ0 y z,hb.trans (ho.below (fun j hj=>by rw [show j=yb from hj];exact y1) hb.size)⟩
end Go.Proofs.YtjdkagafdnchhaaGreatDoor
namespace Go.Proofs.YtjdkagafdnchhaaGreatDoor
open Go.RowKit
theorem Tryz.infoFi:(Tryz.prog.info? 115).map (fun i=>(i.zero,i.size,i.bytes))=some (some (.agg #[.int .i64 0,.int .i64 0,.int .i64 0,.int .i64 0]),4,32):=by kernel_rfl
theorem LOk.prices {L:List Ord} (h:LOk L):∀o∈L,-1000000000≤o.price∧o.price≤1000000000:=fun o ho=>by have:=h.ok o ho;omega
theorem LOk.qtys {L:List Ord} (h:LOk L):∀k,(oAt L k).qty≤1000000:=fun k=>by
 by_cases hk:k<L.length
 ·exact (h.ok _ (oG0 hk)).2.2.2
 ·have:oAt L k=Ord.none_:=by simp [oAt,hk]
  rw [this];decide
theorem uX0 (base:Nat) (sp:Spot) (v:Value) (l:List Ord) (o:Ord) (n:Int) (w:World) (h:BookIs w base sp v l) (hl:l.length≤100) (hbs:base≤w.heap.size) (hok:LOk l) (ho:o∈l) (hn:1≤n∧n≤o.qty):
  Calls Tryz.prog 88 #[.pointer (some ⟨sp.bb,sp.off,none⟩),.int .i64 o.id,.int .i64 n] w fun e w'=>e=.returned (.int .i64 0)∧Out (fun j=>j=sp.bb) w w'∧∃v',BookIs w' base sp v' (bH0 o.id n l):=by
 refine (tL1 base sp v l o.id n w h hl hbs hok.qtys).mono ?_;obtain ⟨k0,hk0,h01,h02⟩:=dT1 hok ho;obtain ⟨c1,c2⟩:=tY0 hok ho hn;rintro e w' ⟨hO,v',⟨h1,_,_⟩ | ⟨k,hk,h1,h2,⟨h3,_,_⟩ | ⟨h3,he,hB⟩⟩⟩
 ·omega
 ·obtain rfl:k=k0:=by omega
  rw [h02] at h3;simp [hn.1,hn.2] at h3
 ·obtain rfl:k=k0:=by omega
  refine ⟨he,hO,v',?_⟩;have hne:¬idxO o.id l=-1:=by omega
  have hkk:(idxO o.id l).toNat=k:=by omega
  unfold cutM at c1;rw [if_neg hne,hkk,if_neg (by rw [h3];decide)] at c1;rw [←c1];exact hB
theorem eX1 {w wc w6:World} {base xb yb n:Nat} {sp:Spot} {vb u:Value} {xs:List Value} {L:List Ord} {x y:Ord} {obj:Obj} (hr:wc.ownsRow w.heap.size 115 4 u n xs) (hb:BookIs wc base sp vb L) (hx:DBox wc xb x) (hy:DBox wc yb y) (ho:Out (fun j=>j=sp.bb) w wc) (hg:(wc.alloc obj).grownBy w6 u.ownBlock):BookIs w6 base sp vb L∧DBox w6 xb x∧DBox w6 yb y∧Out (fun j=>j=sp.bb) w w6:=by
 have h6:Out (fun j=>u.ownBlock=some j) wc w6:=bE0 (cP0 (Out.refl _ _) _) (Out.of_grown hg (fun k hk=>hk));exact ⟨sI0 hb h6 (aG0 hr hb.box hb.ty.2) (fun k hk=>bG0 hb.all hr (by decide) hk),aE0 hx h6 (aG0 hr hx (by decide)),aE0 hy h6 (aG0 hr hy (by decide)),ho.trans h6 (fun k hk=>Or.inr (hr.lt k hk).1)⟩
set_option maxRecDepth 4000 in
set_option maxHeartbeats 4000000 in
theorem bkFills_no (base:Nat) (sp:Spot) (v:Value) (l:List Ord) (p q:Int) (w:World) (h:BookIs w base sp v l) (hl:l.length≤100) (hok:LOk l) (hno:¬(1≤q∧q≤min (wilL 1 p l) (wilL 2 p l))):
  Calls Tryz.prog 103 #[.pointer (some ⟨sp.bb,sp.off,none⟩),.int .i64 p,.int .i64 q] w fun e w'=>e=.returned (.tuple #[.slice none 0 0,.int .i64 2])∧Below w.heap.size w w':=by
 have HA:Hid (BookIs w base sp v l):=h;have HK:Hid (LOk l):=hok
 have HN:Hid ((decide (1≤q)&& decide (q≤min (wilL 1 p l) (wilL 2 p l)))=false):=by
  show _=false;rw [Bool.and_eq_false_iff,decide_eq_false_iff_not,decide_eq_false_iff_not];omega
 clear h hok hno;go_enter Tryz.func103,Tryz.ntmps103;go_wp2_with fail;refine (mY1 base sp v l p w HA.out hl HK.out).mono ?_;rintro e w1 ⟨rfl,hb1⟩;have HB1:Hid (Below w.heap.size w w1):=hb1;clear hb1;go_wp2_with fail;refine (mZ1 base sp v l p w1 (HA.out.below HB1.out lR7) hl HK.out).mono ?_;rintro e w2 ⟨rfl,hb2⟩;have HB2:Hid (Below w.heap.size w w2):=aD0 HB1.out hb2;clear hb2;go_wp2_with fail;refine (bkIn q 1 (min (wilL 1 p l) (wilL 2 p l)) w2).mono ?_;rintro e w3 ⟨rfl,hw⟩;subst hw;rw [HN.out];go_wp2_with fail;go_ret2;exact ⟨rfl,HB2.out⟩
set_option maxRecDepth 4000 in
set_option maxHeartbeats 8000000 in
theorem oU1 (base:Nat) (sp:Spot) (v:Value) (l:List Ord) (p q:Int) (w:World) (h:BookIs w base sp v l) (hbs:base≤w.heap.size) (hl:l.length≤100) (hok:LOk l) (hq:1≤q∧q≤min (wilL 1 p l) (wilL 2 p l)):
  Calls Tryz.prog 103 #[.pointer (some ⟨sp.bb,sp.off,none⟩),.int .i64 p,.int .i64 q] w fun e w'=>∃(K:Nat) (vf v':Value),e=.returned (.tuple #[vf,.int .i64 0])∧(aT0 p ⟨[],l,q⟩ K).q=0∧(∀j,j<K→0<(aT0 p ⟨[],l,q⟩ j).q)∧w'.ownsRow w.heap.size 115 4 vf (aT0 p ⟨[],l,q⟩ K).fs.length (fV (aT0 p ⟨[],l,q⟩ K).fs)∧BookIs w' base sp v' (aT0 p ⟨[],l,q⟩ K).L∧Out (fun j=>j=sp.bb) w w':=by
 obtain ⟨iF,hiF,hF0,hF1,hF2⟩:=info_parts Tryz.infoFi;have HA:Hid (BookIs w base sp v l):=h;have HK:Hid (LOk l):=hok
 have HY:Hid ((decide (1≤q)&& decide (q≤min (wilL 1 p l) (wilL 2 p l)))=true):=by
  show _=true;rw [Bool.and_eq_true,decide_eq_true_iff,decide_eq_true_iff];exact hq
 have HF0:Hid (FOk p ⟨[],l,q⟩):=⟨hok,by show 0≤q;omega,by show q≤wilL 1 p l;omega,by show q≤wilL 2 p l;omega⟩;have hqs:q≤100000000:=by have:=oJ0 1 p hok;omega
 have hlb:sp.bb<w.heap.size:=lt_of_block h.box;clear h hok;go_enter Tryz.func103,Tryz.ntmps103;go_wp2_with fail;refine (mY1 base sp v l p w HA.out hl HK.out).mono ?_;rintro e w1 ⟨rfl,hb1⟩;have HB1:Hid (Below w.heap.size w w1):=hb1;clear hb1;go_wp2_with fail;refine (mZ1 base sp v l p w1 (HA.out.below HB1.out lR7) hl HK.out).mono ?_;rintro e w2 ⟨rfl,hb2⟩;have HB2:Hid (Below w.heap.size w w2):=aD0 HB1.out hb2;clear hb2;go_wp2_with fail;refine (bkIn q 1 (min (wilL 1 p l) (wilL 2 p l)) w2).mono ?_;rintro e w3 ⟨rfl,hw⟩;subst hw;rw [HY.out];go_wp2_with fail;go_loopw [2,8,9,10,11] (fun u2 u8 _ _ _ wr=>∃(k:Nat) (v':Value),u2=.int .i64 (aT0 p ⟨[],l,q⟩ k).q∧(∀j,j<k→0<(aT0 p ⟨[],l,q⟩ j).q)∧(aT0 p ⟨[],l,q⟩ k).fs.length=k∧(k:Int)+(aT0 p ⟨[],l,q⟩ k).q≤q∧(aT0 p ⟨[],l,q⟩ k).L.length≤l.length∧wr.ownsRow w.heap.size 115 4 u8 (aT0 p ⟨[],l,q⟩ k).fs.length (fV (aT0 p ⟨[],l,q⟩ k).fs)∧BookIs wr base sp v' (aT0 p ⟨[],l,q⟩ k).L∧Out (fun j=>j=sp.bb) w wr) (fun u2 _ _ _ _ _=>(intOf u2).toNat)
 case atStart=>exact ⟨0,v,rfl,fun j hj=>absurd hj (by omega),rfl,by show (0:Int)+q≤q;omega,lR7,World.ownsRow_nil _ _ _ _,HA.out.below HB2.out lR7,Out.of_below HB2.out lR7⟩
 case round=>
  obtain ⟨k,vb,rfl,hj,hfl,hkq,hLl,hrow,hbk,hout⟩:=hrel;have HJ:Hid (∀j,j<k→0<(aT0 p ⟨[],l,q⟩ j).q):=hj;have HFO:Hid (FOk p (aT0 p ⟨[],l,q⟩ k)):=gG0 HF0.out k hj;have hq0:=HFO.out.nn;have HRO:Hid (wr.ownsRow w.heap.size 115 4 u8 (aT0 p ⟨[],l,q⟩ k).fs.length (fV (aT0 p ⟨[],l,q⟩ k).fs)):=hrow;obtain ⟨fa,fc,rfl,_,_⟩:=bB0 hrow;have HBK:Hid (BookIs wr base sp vb (aT0 p ⟨[],l,q⟩ k).L):=hbk;have HOU:Hid (Out (fun j=>j=sp.bb) w wr):=hout;have HFL:Hid ((aT0 p ⟨[],l,q⟩ k).fs.length=k):=hfl;clear hj hrow hbk hout hfl
  by_cases hq1:0<(aT0 p ⟨[],l,q⟩ k).q
  ·have HST:Hid (aT0 p ⟨[],l,q⟩ (k+1)=eD0 p (aT0 p ⟨[],l,q⟩ k)):=rfl;obtain ⟨⟨x,T,y,U,hS1,hS2,hbx,hby,hxL,hyL,hy1,n1,n2,n3,n4,c1,hL2,c2,c4,ok1⟩,hFO2⟩:=gZ0 HFO.out hq1
   have HJ2:Hid (∀j,j<k+1→0<(aT0 p ⟨[],l,q⟩ j).q):=fun j hj=>by
    by_cases e:j=k
    ·subst e;exact hq1
    ·exact HJ.out j (by omega)
   generalize aT0 p ⟨[],l,q⟩ k=s at *;have HLN:Hid (lotN s=min s.q (min x.qty y.qty)):=by show lotN s=_;unfold lotN;rw [hbx,hby]
   have HFS:Hid ((eD0 p s).fs=s.fs++[⟨x.id,y.id,p,lotN s⟩]∧(eD0 p s).q=s.q - lotN s):=⟨by show s.fs++[_]=_;rw [hbx,hby],rfl⟩;have HX:Hid (aJ0 1 s.L=x::T∧aJ0 2 s.L=y::U):=⟨hS1,hS2⟩;have HM:Hid (x∈s.L∧y∈bH0 x.id (lotN s) s.L∧LOk (bH0 x.id (lotN s) s.L)∧(eD0 p s).L=bH0 y.id (lotN s) (bH0 x.id (lotN s) s.L)∧lotN s≤x.qty∧lotN s≤y.qty):=⟨hxL,hy1,ok1,hL2,n3,n4⟩;have px:=HFO.out.ok.ok x hxL;have py:=HFO.out.ok.ok y hyL;have HBd:Hid (BookIs wr.drew base sp vb s.L):=HBK.out.below (B:=wr.heap.size) (Below.refl _ _).drew lR7;have HPR:Hid (∀o∈s.L,-1000000000≤o.price∧o.price≤1000000000):=HFO.out.ok.prices;have hl1:(0:Int)<((aJ0 1 s.L).length:Int):=by rw [hS1];simp
   have hl2:(0:Int)<((aJ0 2 s.L).length:Int):=by rw [hS2];simp
   clear hS1 hS2 hbx hby hxL hyL hy1 c1 hL2 c2 c4 ok1 n3 n4 HJ;go_upto_region 5 with fail;go_cut [9,10] from 22 to 61 (fun p9 p10 wc=>∃xb yb:Nat,p9=.pointer (some ⟨xb,0,none⟩)∧p10=.pointer (some ⟨yb,0,none⟩)∧DBox wc xb x∧DBox wc yb y∧Below wr.heap.size wr wc)
   case first=>
    refine eC0 (fun _=>True) (fun i=>i == 11) (by kernel_rfl) trivial (fun hHeld=>?_);have HT:Hid (Two wr wr.drew x y none none none none):=Two.start wr x y;generalize wr.drew=wz at HT hHeld ⊢;refine tkL7 (i:=0) (v:=?_) rfl (by kernel_rfl) (fun _ _ _ h=>h) (by rfl) ?_ (by assumption) ?_;rotate_left
    ·intro w hSw;go_simp;try rfl
    refine tkL7 (i:=4) (v:=?_) rfl (by kernel_rfl) (fun _ _ _ h=>h) (by rfl) ?_ (by assumption) ?_;rotate_left
    ·intro w hSw;go_simp;try rfl
    refine aL0 (rs:=[1,8,9]) (by kernel_rfl) (by simp) ?_;refine aF0.cons rfl (fun K hK=>?_) ?_
    case' _=>
     go_simp;refine (eY0 base sp vb s.L 1 _ (HBK.out.below HT.out.bel lR7) (by omega) HPR.out).mono ?_;rintro e wn ⟨vA,rfl,hrA,hbA⟩;obtain ⟨gA,cA,rfl,hgA,hhA⟩:=bZ0 hrA HX.out.1;dsimp only;replace HT:Hid (Two wr wn x y _ _ _ _):=HT.out.callA hbA hgA hhA;clear hrA hbA hgA hhA;refine hK.out _ _ (fun _=>trivial) (fun hHeld=>?_);replace hHeld:=hHeld rfl;clear hK K;generalize wn=wz at HT hHeld ⊢;refine bL0 (S':=fun w=>Head w gA x) (fun _ _=>trivial) _ _ _ _ ?_;replace hHeld:=(HT.out.a _ rfl).2.2;refine tkL7 (i:=2) (v:=?_) rfl (by kernel_rfl) (fun _ _ _ h=>h) (by rfl) ?_ (by assumption) ?_;rotate_left
     ·intro w hSw;go_simp;try rfl
     refine tkL7 (i:=3) (v:=?_) rfl (by kernel_rfl) (fun _ _ _ h=>h) (by rfl) ?_ (by assumption) ?_;rotate_left
     ·intro w hSw;obtain ⟨t0,t1,t2,t3,t4⟩:=hSw;go_simp;try rfl
     refine aL0 (rs:=[5,8,9]) (by kernel_rfl) (by simp) ?_;refine aF0.cons rfl (fun K hK=>?_) ?_
     case' _=>
      go_simp;refine (eY0 base sp vb s.L 2 _ (HBK.out.below HT.out.bel lR7) (by omega) HPR.out).mono ?_;rintro e wn ⟨vB,rfl,hrB,hbB⟩;obtain ⟨gB,cB,rfl,hgB,hhB⟩:=bZ0 hrB HX.out.2;dsimp only;replace HT:Hid (Two wr wn x y _ _ _ _):=HT.out.callB hbB hgB hhB;clear hrB hbB hgB hhB;refine hK.out _ _ (fun _=>(HT.out.a _ rfl).2.2) (fun hHeld=>?_);replace hHeld:=hHeld rfl;clear hK K;generalize wn=wz at HT hHeld ⊢;refine bL0 (S':=fun w=>Head w gA x∧Head w gB y) (fun _ h=>h.1) _ _ _ _ ?_;replace hHeld:Head _ gA x∧Head _ gB y:=⟨(HT.out.a _ rfl).2.2,(HT.out.b _ rfl).2.2⟩;refine tkL7 (i:=6) (v:=?_) rfl (by kernel_rfl) (fun _ _ _ h=>h) (by rfl) ?_ (by assumption) ?_;rotate_left
      ·intro w hSw;go_simp;try rfl
      refine tkL7 (i:=7) (v:=?_) rfl (by kernel_rfl) (fun _ _ _ h=>h) (by rfl) ?_ (by assumption) ?_;rotate_left
      ·intro w hSw;obtain ⟨t0,t1,t2,t3,t4⟩:=hSw.2;go_simp;try rfl
      refine aL0 (rs:=[8,9]) (by kernel_rfl) (by simp) ?_;refine aF0.cons rfl (fun K hK=>?_) ?_
      case' _=>
       go_simp;have HT2:=HT.out.boxX;replace HT:Hid _:=HT2;clear HT2;refine hK.out _ _ (fun _=>⟨(HT.out.a _ rfl).2.2,(HT.out.b _ rfl).2.2⟩) (fun hHeld=>?_);replace hHeld:=hHeld rfl;clear hK K;generalize wz.alloc (.cells #[.int .i64 0,.int .i64 0,.int .i64 0,.int .i64 0,.int .i64 0] 41)=wn at HT hHeld ⊢;generalize wz.heap.size=xb at HT ⊢;generalize wn=wz at HT hHeld ⊢;refine aL0 (rs:=[9]) (by kernel_rfl) (by simp) ?_;refine aF0.cons rfl (fun K hK=>?_) aF0.nil
       case' _=>
        go_simp;have HT2:=HT.out.boxY;replace HT:Hid _:=HT2;clear HT2;refine hK.out _ _ (fun _=>⟨(HT.out.a _ rfl).2.2,(HT.out.b _ rfl).2.2⟩) (fun hHeld=>?_);replace hHeld:=hHeld rfl;clear hK K;generalize wz.alloc (.cells #[.int .i64 0,.int .i64 0,.int .i64 0,.int .i64 0,.int .i64 0] 41)=wn at HT hHeld ⊢;generalize wz.heap.size=yb at HT ⊢;generalize wn=wz at HT hHeld ⊢
      rotate_left;refine aF0.cons rfl (fun K hK=>?_) aF0.nil
      case' _=>
       go_simp;have HT2:=HT.out.boxY;replace HT:Hid _:=HT2;clear HT2;refine hK.out _ _ (fun _=>⟨(HT.out.a _ rfl).2.2,(HT.out.b _ rfl).2.2⟩) (fun hHeld=>?_);replace hHeld:=hHeld rfl;clear hK K;generalize wz.alloc (.cells #[.int .i64 0,.int .i64 0,.int .i64 0,.int .i64 0,.int .i64 0] 41)=wn at HT hHeld ⊢;generalize wz.heap.size=yb at HT ⊢;generalize wn=wz at HT hHeld ⊢;refine aL0 (rs:=[8]) (by kernel_rfl) (by simp) ?_;refine aF0.cons rfl (fun K hK=>?_) aF0.nil
       case' _=>
        go_simp;have HT2:=HT.out.boxX;replace HT:Hid _:=HT2;clear HT2;refine hK.out _ _ (fun _=>⟨(HT.out.a _ rfl).2.2,(HT.out.b _ rfl).2.2⟩) (fun hHeld=>?_);replace hHeld:=hHeld rfl;clear hK K;generalize wz.alloc (.cells #[.int .i64 0,.int .i64 0,.int .i64 0,.int .i64 0,.int .i64 0] 41)=wn at HT hHeld ⊢;generalize wz.heap.size=xb at HT ⊢;generalize wn=wz at HT hHeld ⊢
     rotate_left 2;refine aF0.cons rfl (fun K hK=>?_) ?_
     case' _=>
      go_simp;have HT2:=HT.out.boxX;replace HT:Hid _:=HT2;clear HT2;refine hK.out _ _ (fun _=>(HT.out.a _ rfl).2.2) (fun hHeld=>?_);replace hHeld:=hHeld rfl;clear hK K;generalize wz.alloc (.cells #[.int .i64 0,.int .i64 0,.int .i64 0,.int .i64 0,.int .i64 0] 41)=wn at HT hHeld ⊢;generalize wz.heap.size=xb at HT ⊢;generalize wn=wz at HT hHeld ⊢;refine aL0 (rs:=[5,9]) (by kernel_rfl) (by simp) ?_;refine aF0.cons rfl (fun K hK=>?_) ?_
      case' _=>
       go_simp;refine (eY0 base sp vb s.L 2 _ (HBK.out.below HT.out.bel lR7) (by omega) HPR.out).mono ?_;rintro e wn ⟨vB,rfl,hrB,hbB⟩;obtain ⟨gB,cB,rfl,hgB,hhB⟩:=bZ0 hrB HX.out.2;dsimp only;replace HT:Hid (Two wr wn x y _ _ _ _):=HT.out.callB hbB hgB hhB;clear hrB hbB hgB hhB;refine hK.out _ _ (fun _=>(HT.out.a _ rfl).2.2) (fun hHeld=>?_);replace hHeld:=hHeld rfl;clear hK K;generalize wn=wz at HT hHeld ⊢;refine bL0 (S':=fun w=>Head w gA x∧Head w gB y) (fun _ h=>h.1) _ _ _ _ ?_;replace hHeld:Head _ gA x∧Head _ gB y:=⟨(HT.out.a _ rfl).2.2,(HT.out.b _ rfl).2.2⟩;refine tkL7 (i:=6) (v:=?_) rfl (by kernel_rfl) (fun _ _ _ h=>h) (by rfl) ?_ (by assumption) ?_;rotate_left
       ·intro w hSw;go_simp;try rfl
       refine tkL7 (i:=7) (v:=?_) rfl (by kernel_rfl) (fun _ _ _ h=>h) (by rfl) ?_ (by assumption) ?_;rotate_left
       ·intro w hSw;obtain ⟨t0,t1,t2,t3,t4⟩:=hSw.2;go_simp;try rfl
       refine aL0 (rs:=[9]) (by kernel_rfl) (by simp) ?_;refine aF0.cons rfl (fun K hK=>?_) aF0.nil
       case' _=>
        go_simp;have HT2:=HT.out.boxY;replace HT:Hid _:=HT2;clear HT2;refine hK.out _ _ (fun _=>⟨(HT.out.a _ rfl).2.2,(HT.out.b _ rfl).2.2⟩) (fun hHeld=>?_);replace hHeld:=hHeld rfl;clear hK K;generalize wz.alloc (.cells #[.int .i64 0,.int .i64 0,.int .i64 0,.int .i64 0,.int .i64 0] 41)=wn at HT hHeld ⊢;generalize wz.heap.size=yb at HT ⊢;generalize wn=wz at HT hHeld ⊢
      rotate_left;refine aF0.cons rfl (fun K hK=>?_) aF0.nil
      case' _=>
       go_simp;have HT2:=HT.out.boxY;replace HT:Hid _:=HT2;clear HT2;refine hK.out _ _ (fun _=>(HT.out.a _ rfl).2.2) (fun hHeld=>?_);replace hHeld:=hHeld rfl;clear hK K;generalize wz.alloc (.cells #[.int .i64 0,.int .i64 0,.int .i64 0,.int .i64 0,.int .i64 0] 41)=wn at HT hHeld ⊢;generalize wz.heap.size=yb at HT ⊢;generalize wn=wz at HT hHeld ⊢;refine aL0 (rs:=[5]) (by kernel_rfl) (by simp) ?_;refine aF0.cons rfl (fun K hK=>?_) aF0.nil
       case' _=>
        go_simp;refine (eY0 base sp vb s.L 2 _ (HBK.out.below HT.out.bel lR7) (by omega) HPR.out).mono ?_;rintro e wn ⟨vB,rfl,hrB,hbB⟩;obtain ⟨gB,cB,rfl,hgB,hhB⟩:=bZ0 hrB HX.out.2;dsimp only;replace HT:Hid (Two wr wn x y _ _ _ _):=HT.out.callB hbB hgB hhB;clear hrB hbB hgB hhB;refine hK.out _ _ (fun _=>(HT.out.a _ rfl).2.2) (fun hHeld=>?_);replace hHeld:=hHeld rfl;clear hK K;generalize wn=wz at HT hHeld ⊢;refine bL0 (S':=fun w=>Head w gA x∧Head w gB y) (fun _ h=>h.1) _ _ _ _ ?_;replace hHeld:Head _ gA x∧Head _ gB y:=⟨(HT.out.a _ rfl).2.2,(HT.out.b _ rfl).2.2⟩;refine tkL7 (i:=6) (v:=?_) rfl (by kernel_rfl) (fun _ _ _ h=>h) (by rfl) ?_ (by assumption) ?_;rotate_left
        ·intro w hSw;go_simp;try rfl
        refine tkL7 (i:=7) (v:=?_) rfl (by kernel_rfl) (fun _ _ _ h=>h) (by rfl) ?_ (by assumption) ?_;rotate_left
        ·intro w hSw;obtain ⟨t0,t1,t2,t3,t4⟩:=hSw.2;go_simp;try rfl
     rotate_left 2;refine aF0.cons rfl (fun K hK=>?_) aF0.nil
     case' _=>
      go_simp;have HT2:=HT.out.boxY;replace HT:Hid _:=HT2;clear HT2;refine hK.out _ _ (fun _=>(HT.out.a _ rfl).2.2) (fun hHeld=>?_);replace hHeld:=hHeld rfl;clear hK K;generalize wz.alloc (.cells #[.int .i64 0,.int .i64 0,.int .i64 0,.int .i64 0,.int .i64 0] 41)=wn at HT hHeld ⊢;generalize wz.heap.size=yb at HT ⊢;generalize wn=wz at HT hHeld ⊢;refine aL0 (rs:=[5,8]) (by kernel_rfl) (by simp) ?_;refine aF0.cons rfl (fun K hK=>?_) ?_
      case' _=>
       go_simp;refine (eY0 base sp vb s.L 2 _ (HBK.out.below HT.out.bel lR7) (by omega) HPR.out).mono ?_;rintro e wn ⟨vB,rfl,hrB,hbB⟩;obtain ⟨gB,cB,rfl,hgB,hhB⟩:=bZ0 hrB HX.out.2;dsimp only;replace HT:Hid (Two wr wn x y _ _ _ _):=HT.out.callB hbB hgB hhB;clear hrB hbB hgB hhB;refine hK.out _ _ (fun _=>(HT.out.a _ rfl).2.2) (fun hHeld=>?_);replace hHeld:=hHeld rfl;clear hK K;generalize wn=wz at HT hHeld ⊢;refine bL0 (S':=fun w=>Head w gA x∧Head w gB y) (fun _ h=>h.1) _ _ _ _ ?_;replace hHeld:Head _ gA x∧Head _ gB y:=⟨(HT.out.a _ rfl).2.2,(HT.out.b _ rfl).2.2⟩;refine tkL7 (i:=6) (v:=?_) rfl (by kernel_rfl) (fun _ _ _ h=>h) (by rfl) ?_ (by assumption) ?_;rotate_left
       ·intro w hSw;go_simp;try rfl
       refine tkL7 (i:=7) (v:=?_) rfl (by kernel_rfl) (fun _ _ _ h=>h) (by rfl) ?_ (by assumption) ?_;rotate_left
       ·intro w hSw;obtain ⟨t0,t1,t2,t3,t4⟩:=hSw.2;go_simp;try rfl
       refine aL0 (rs:=[8]) (by kernel_rfl) (by simp) ?_;refine aF0.cons rfl (fun K hK=>?_) aF0.nil
       case' _=>
        go_simp;have HT2:=HT.out.boxX;replace HT:Hid _:=HT2;clear HT2;refine hK.out _ _ (fun _=>⟨(HT.out.a _ rfl).2.2,(HT.out.b _ rfl).2.2⟩) (fun hHeld=>?_);replace hHeld:=hHeld rfl;clear hK K;generalize wz.alloc (.cells #[.int .i64 0,.int .i64 0,.int .i64 0,.int .i64 0,.int .i64 0] 41)=wn at HT hHeld ⊢;generalize wz.heap.size=xb at HT ⊢;generalize wn=wz at HT hHeld ⊢
      rotate_left;refine aF0.cons rfl (fun K hK=>?_) aF0.nil
      case' _=>
       go_simp;have HT2:=HT.out.boxX;replace HT:Hid _:=HT2;clear HT2;refine hK.out _ _ (fun _=>(HT.out.a _ rfl).2.2) (fun hHeld=>?_);replace hHeld:=hHeld rfl;clear hK K;generalize wz.alloc (.cells #[.int .i64 0,.int .i64 0,.int .i64 0,.int .i64 0,.int .i64 0] 41)=wn at HT hHeld ⊢;generalize wz.heap.size=xb at HT ⊢;generalize wn=wz at HT hHeld ⊢;refine aL0 (rs:=[5]) (by kernel_rfl) (by simp) ?_;refine aF0.cons rfl (fun K hK=>?_) aF0.nil
       case' _=>
        go_simp;refine (eY0 base sp vb s.L 2 _ (HBK.out.below HT.out.bel lR7) (by omega) HPR.out).mono ?_;rintro e wn ⟨vB,rfl,hrB,hbB⟩;obtain ⟨gB,cB,rfl,hgB,hhB⟩:=bZ0 hrB HX.out.2;dsimp only;replace HT:Hid (Two wr wn x y _ _ _ _):=HT.out.callB hbB hgB hhB;clear hrB hbB hgB hhB;refine hK.out _ _ (fun _=>(HT.out.a _ rfl).2.2) (fun hHeld=>?_);replace hHeld:=hHeld rfl;clear hK K;generalize wn=wz at HT hHeld ⊢;refine bL0 (S':=fun w=>Head w gA x∧Head w gB y) (fun _ h=>h.1) _ _ _ _ ?_;replace hHeld:Head _ gA x∧Head _ gB y:=⟨(HT.out.a _ rfl).2.2,(HT.out.b _ rfl).2.2⟩;refine tkL7 (i:=6) (v:=?_) rfl (by kernel_rfl) (fun _ _ _ h=>h) (by rfl) ?_ (by assumption) ?_;rotate_left
        ·intro w hSw;go_simp;try rfl
        refine tkL7 (i:=7) (v:=?_) rfl (by kernel_rfl) (fun _ _ _ h=>h) (by rfl) ?_ (by assumption) ?_;rotate_left
        ·intro w hSw;obtain ⟨t0,t1,t2,t3,t4⟩:=hSw.2;go_simp;try rfl
    rotate_left 6;refine aF0.cons rfl (fun K hK=>?_) ?_
    case' _=>
     go_simp;have HT2:=HT.out.boxX;replace HT:Hid _:=HT2;clear HT2;refine hK.out _ _ (fun _=>trivial) (fun hHeld=>?_);replace hHeld:=hHeld rfl;clear hK K;generalize wz.alloc (.cells #[.int .i64 0,.int .i64 0,.int .i64 0,.int .i64 0,.int .i64 0] 41)=wn at HT hHeld ⊢;generalize wz.heap.size=xb at HT ⊢;generalize wn=wz at HT hHeld ⊢;refine aL0 (rs:=[1,9]) (by kernel_rfl) (by simp) ?_;refine aF0.cons rfl (fun K hK=>?_) ?_
     case' _=>
      go_simp;refine (eY0 base sp vb s.L 1 _ (HBK.out.below HT.out.bel lR7) (by omega) HPR.out).mono ?_;rintro e wn ⟨vA,rfl,hrA,hbA⟩;obtain ⟨gA,cA,rfl,hgA,hhA⟩:=bZ0 hrA HX.out.1;dsimp only;replace HT:Hid (Two wr wn x y _ _ _ _):=HT.out.callA hbA hgA hhA;clear hrA hbA hgA hhA;refine hK.out _ _ (fun _=>trivial) (fun hHeld=>?_);replace hHeld:=hHeld rfl;clear hK K;generalize wn=wz at HT hHeld ⊢;refine bL0 (S':=fun w=>Head w gA x) (fun _ _=>trivial) _ _ _ _ ?_;replace hHeld:=(HT.out.a _ rfl).2.2;refine tkL7 (i:=2) (v:=?_) rfl (by kernel_rfl) (fun _ _ _ h=>h) (by rfl) ?_ (by assumption) ?_;rotate_left
      ·intro w hSw;go_simp;try rfl
      refine tkL7 (i:=3) (v:=?_) rfl (by kernel_rfl) (fun _ _ _ h=>h) (by rfl) ?_ (by assumption) ?_;rotate_left
      ·intro w hSw;obtain ⟨t0,t1,t2,t3,t4⟩:=hSw;go_simp;try rfl
      refine aL0 (rs:=[5,9]) (by kernel_rfl) (by simp) ?_;refine aF0.cons rfl (fun K hK=>?_) ?_
      case' _=>
       go_simp;refine (eY0 base sp vb s.L 2 _ (HBK.out.below HT.out.bel lR7) (by omega) HPR.out).mono ?_;rintro e wn ⟨vB,rfl,hrB,hbB⟩;obtain ⟨gB,cB,rfl,hgB,hhB⟩:=bZ0 hrB HX.out.2;dsimp only;replace HT:Hid (Two wr wn x y _ _ _ _):=HT.out.callB hbB hgB hhB;clear hrB hbB hgB hhB;refine hK.out _ _ (fun _=>(HT.out.a _ rfl).2.2) (fun hHeld=>?_);replace hHeld:=hHeld rfl;clear hK K;generalize wn=wz at HT hHeld ⊢;refine bL0 (S':=fun w=>Head w gA x∧Head w gB y) (fun _ h=>h.1) _ _ _ _ ?_;replace hHeld:Head _ gA x∧Head _ gB y:=⟨(HT.out.a _ rfl).2.2,(HT.out.b _ rfl).2.2⟩;refine tkL7 (i:=6) (v:=?_) rfl (by kernel_rfl) (fun _ _ _ h=>h) (by rfl) ?_ (by assumption) ?_;rotate_left
       ·intro w hSw;go_simp;try rfl
       refine tkL7 (i:=7) (v:=?_) rfl (by kernel_rfl) (fun _ _ _ h=>h) (by rfl) ?_ (by assumption) ?_;rotate_left
       ·intro w hSw;obtain ⟨t0,t1,t2,t3,t4⟩:=hSw.2;go_simp;try rfl
       refine aL0 (rs:=[9]) (by kernel_rfl) (by simp) ?_;refine aF0.cons rfl (fun K hK=>?_) aF0.nil
       case' _=>
        go_simp;have HT2:=HT.out.boxY;replace HT:Hid _:=HT2;clear HT2;refine hK.out _ _ (fun _=>⟨(HT.out.a _ rfl).2.2,(HT.out.b _ rfl).2.2⟩) (fun hHeld=>?_);replace hHeld:=hHeld rfl;clear hK K;generalize wz.alloc (.cells #[.int .i64 0,.int .i64 0,.int .i64 0,.int .i64 0,.int .i64 0] 41)=wn at HT hHeld ⊢;generalize wz.heap.size=yb at HT ⊢;generalize wn=wz at HT hHeld ⊢
      rotate_left;refine aF0.cons rfl (fun K hK=>?_) aF0.nil
      case' _=>
       go_simp;have HT2:=HT.out.boxY;replace HT:Hid _:=HT2;clear HT2;refine hK.out _ _ (fun _=>(HT.out.a _ rfl).2.2) (fun hHeld=>?_);replace hHeld:=hHeld rfl;clear hK K;generalize wz.alloc (.cells #[.int .i64 0,.int .i64 0,.int .i64 0,.int .i64 0,.int .i64 0] 41)=wn at HT hHeld ⊢;generalize wz.heap.size=yb at HT ⊢;generalize wn=wz at HT hHeld ⊢;refine aL0 (rs:=[5]) (by kernel_rfl) (by simp) ?_;refine aF0.cons rfl (fun K hK=>?_) aF0.nil
       case' _=>
        go_simp;refine (eY0 base sp vb s.L 2 _ (HBK.out.below HT.out.bel lR7) (by omega) HPR.out).mono ?_;rintro e wn ⟨vB,rfl,hrB,hbB⟩;obtain ⟨gB,cB,rfl,hgB,hhB⟩:=bZ0 hrB HX.out.2;dsimp only;replace HT:Hid (Two wr wn x y _ _ _ _):=HT.out.callB hbB hgB hhB;clear hrB hbB hgB hhB;refine hK.out _ _ (fun _=>(HT.out.a _ rfl).2.2) (fun hHeld=>?_);replace hHeld:=hHeld rfl;clear hK K;generalize wn=wz at HT hHeld ⊢;refine bL0 (S':=fun w=>Head w gA x∧Head w gB y) (fun _ h=>h.1) _ _ _ _ ?_;replace hHeld:Head _ gA x∧Head _ gB y:=⟨(HT.out.a _ rfl).2.2,(HT.out.b _ rfl).2.2⟩;refine tkL7 (i:=6) (v:=?_) rfl (by kernel_rfl) (fun _ _ _ h=>h) (by rfl) ?_ (by assumption) ?_;rotate_left
        ·intro w hSw;go_simp;try rfl
        refine tkL7 (i:=7) (v:=?_) rfl (by kernel_rfl) (fun _ _ _ h=>h) (by rfl) ?_ (by assumption) ?_;rotate_left
        ·intro w hSw;obtain ⟨t0,t1,t2,t3,t4⟩:=hSw.2;go_simp;try rfl
     rotate_left 2;refine aF0.cons rfl (fun K hK=>?_) aF0.nil
     case' _=>
      go_simp;have HT2:=HT.out.boxY;replace HT:Hid _:=HT2;clear HT2;refine hK.out _ _ (fun _=>trivial) (fun hHeld=>?_);replace hHeld:=hHeld rfl;clear hK K;generalize wz.alloc (.cells #[.int .i64 0,.int .i64 0,.int .i64 0,.int .i64 0,.int .i64 0] 41)=wn at HT hHeld ⊢;generalize wz.heap.size=yb at HT ⊢;generalize wn=wz at HT hHeld ⊢;refine aL0 (rs:=[1]) (by kernel_rfl) (by simp) ?_;refine aF0.cons rfl (fun K hK=>?_) aF0.nil
      case' _=>
       go_simp;refine (eY0 base sp vb s.L 1 _ (HBK.out.below HT.out.bel lR7) (by omega) HPR.out).mono ?_;rintro e wn ⟨vA,rfl,hrA,hbA⟩;obtain ⟨gA,cA,rfl,hgA,hhA⟩:=bZ0 hrA HX.out.1;dsimp only;replace HT:Hid (Two wr wn x y _ _ _ _):=HT.out.callA hbA hgA hhA;clear hrA hbA hgA hhA;refine hK.out _ _ (fun _=>trivial) (fun hHeld=>?_);replace hHeld:=hHeld rfl;clear hK K;generalize wn=wz at HT hHeld ⊢;refine bL0 (S':=fun w=>Head w gA x) (fun _ _=>trivial) _ _ _ _ ?_;replace hHeld:=(HT.out.a _ rfl).2.2;refine tkL7 (i:=2) (v:=?_) rfl (by kernel_rfl) (fun _ _ _ h=>h) (by rfl) ?_ (by assumption) ?_;rotate_left
       ·intro w hSw;go_simp;try rfl
       refine tkL7 (i:=3) (v:=?_) rfl (by kernel_rfl) (fun _ _ _ h=>h) (by rfl) ?_ (by assumption) ?_;rotate_left
       ·intro w hSw;obtain ⟨t0,t1,t2,t3,t4⟩:=hSw;go_simp;try rfl
       refine aL0 (rs:=[5]) (by kernel_rfl) (by simp) ?_;refine aF0.cons rfl (fun K hK=>?_) aF0.nil
       case' _=>
        go_simp;refine (eY0 base sp vb s.L 2 _ (HBK.out.below HT.out.bel lR7) (by omega) HPR.out).mono ?_;rintro e wn ⟨vB,rfl,hrB,hbB⟩;obtain ⟨gB,cB,rfl,hgB,hhB⟩:=bZ0 hrB HX.out.2;dsimp only;replace HT:Hid (Two wr wn x y _ _ _ _):=HT.out.callB hbB hgB hhB;clear hrB hbB hgB hhB;refine hK.out _ _ (fun _=>(HT.out.a _ rfl).2.2) (fun hHeld=>?_);replace hHeld:=hHeld rfl;clear hK K;generalize wn=wz at HT hHeld ⊢;refine bL0 (S':=fun w=>Head w gA x∧Head w gB y) (fun _ h=>h.1) _ _ _ _ ?_;replace hHeld:Head _ gA x∧Head _ gB y:=⟨(HT.out.a _ rfl).2.2,(HT.out.b _ rfl).2.2⟩;refine tkL7 (i:=6) (v:=?_) rfl (by kernel_rfl) (fun _ _ _ h=>h) (by rfl) ?_ (by assumption) ?_;rotate_left
        ·intro w hSw;go_simp;try rfl
        refine tkL7 (i:=7) (v:=?_) rfl (by kernel_rfl) (fun _ _ _ h=>h) (by rfl) ?_ (by assumption) ?_;rotate_left
        ·intro w hSw;obtain ⟨t0,t1,t2,t3,t4⟩:=hSw.2;go_simp;try rfl
    rotate_left 3;refine aF0.cons rfl (fun K hK=>?_) aF0.nil
    case' _=>
     go_simp;have HT2:=HT.out.boxY;replace HT:Hid _:=HT2;clear HT2;refine hK.out _ _ (fun _=>trivial) (fun hHeld=>?_);replace hHeld:=hHeld rfl;clear hK K;generalize wz.alloc (.cells #[.int .i64 0,.int .i64 0,.int .i64 0,.int .i64 0,.int .i64 0] 41)=wn at HT hHeld ⊢;generalize wz.heap.size=yb at HT ⊢;generalize wn=wz at HT hHeld ⊢;refine aL0 (rs:=[1,8]) (by kernel_rfl) (by simp) ?_;refine aF0.cons rfl (fun K hK=>?_) ?_
     case' _=>
      go_simp;refine (eY0 base sp vb s.L 1 _ (HBK.out.below HT.out.bel lR7) (by omega) HPR.out).mono ?_;rintro e wn ⟨vA,rfl,hrA,hbA⟩;obtain ⟨gA,cA,rfl,hgA,hhA⟩:=bZ0 hrA HX.out.1;dsimp only;replace HT:Hid (Two wr wn x y _ _ _ _):=HT.out.callA hbA hgA hhA;clear hrA hbA hgA hhA;refine hK.out _ _ (fun _=>trivial) (fun hHeld=>?_);replace hHeld:=hHeld rfl;clear hK K;generalize wn=wz at HT hHeld ⊢;refine bL0 (S':=fun w=>Head w gA x) (fun _ _=>trivial) _ _ _ _ ?_;replace hHeld:=(HT.out.a _ rfl).2.2;refine tkL7 (i:=2) (v:=?_) rfl (by kernel_rfl) (fun _ _ _ h=>h) (by rfl) ?_ (by assumption) ?_;rotate_left
      ·intro w hSw;go_simp;try rfl
      refine tkL7 (i:=3) (v:=?_) rfl (by kernel_rfl) (fun _ _ _ h=>h) (by rfl) ?_ (by assumption) ?_;rotate_left
      ·intro w hSw;obtain ⟨t0,t1,t2,t3,t4⟩:=hSw;go_simp;try rfl
      refine aL0 (rs:=[5,8]) (by kernel_rfl) (by simp) ?_;refine aF0.cons rfl (fun K hK=>?_) ?_
      case' _=>
       go_simp;refine (eY0 base sp vb s.L 2 _ (HBK.out.below HT.out.bel lR7) (by omega) HPR.out).mono ?_;rintro e wn ⟨vB,rfl,hrB,hbB⟩;obtain ⟨gB,cB,rfl,hgB,hhB⟩:=bZ0 hrB HX.out.2;dsimp only;replace HT:Hid (Two wr wn x y _ _ _ _):=HT.out.callB hbB hgB hhB;clear hrB hbB hgB hhB;refine hK.out _ _ (fun _=>(HT.out.a _ rfl).2.2) (fun hHeld=>?_);replace hHeld:=hHeld rfl;clear hK K;generalize wn=wz at HT hHeld ⊢;refine bL0 (S':=fun w=>Head w gA x∧Head w gB y) (fun _ h=>h.1) _ _ _ _ ?_;replace hHeld:Head _ gA x∧Head _ gB y:=⟨(HT.out.a _ rfl).2.2,(HT.out.b _ rfl).2.2⟩;refine tkL7 (i:=6) (v:=?_) rfl (by kernel_rfl) (fun _ _ _ h=>h) (by rfl) ?_ (by assumption) ?_;rotate_left
       ·intro w hSw;go_simp;try rfl
       refine tkL7 (i:=7) (v:=?_) rfl (by kernel_rfl) (fun _ _ _ h=>h) (by rfl) ?_ (by assumption) ?_;rotate_left
       ·intro w hSw;obtain ⟨t0,t1,t2,t3,t4⟩:=hSw.2;go_simp;try rfl
       refine aL0 (rs:=[8]) (by kernel_rfl) (by simp) ?_;refine aF0.cons rfl (fun K hK=>?_) aF0.nil
       case' _=>
        go_simp;have HT2:=HT.out.boxX;replace HT:Hid _:=HT2;clear HT2;refine hK.out _ _ (fun _=>⟨(HT.out.a _ rfl).2.2,(HT.out.b _ rfl).2.2⟩) (fun hHeld=>?_);replace hHeld:=hHeld rfl;clear hK K;generalize wz.alloc (.cells #[.int .i64 0,.int .i64 0,.int .i64 0,.int .i64 0,.int .i64 0] 41)=wn at HT hHeld ⊢;generalize wz.heap.size=xb at HT ⊢;generalize wn=wz at HT hHeld ⊢
      rotate_left;refine aF0.cons rfl (fun K hK=>?_) aF0.nil
      case' _=>
       go_simp;have HT2:=HT.out.boxX;replace HT:Hid _:=HT2;clear HT2;refine hK.out _ _ (fun _=>(HT.out.a _ rfl).2.2) (fun hHeld=>?_);replace hHeld:=hHeld rfl;clear hK K;generalize wz.alloc (.cells #[.int .i64 0,.int .i64 0,.int .i64 0,.int .i64 0,.int .i64 0] 41)=wn at HT hHeld ⊢;generalize wz.heap.size=xb at HT ⊢;generalize wn=wz at HT hHeld ⊢;refine aL0 (rs:=[5]) (by kernel_rfl) (by simp) ?_;refine aF0.cons rfl (fun K hK=>?_) aF0.nil
       case' _=>
        go_simp;refine (eY0 base sp vb s.L 2 _ (HBK.out.below HT.out.bel lR7) (by omega) HPR.out).mono ?_;rintro e wn ⟨vB,rfl,hrB,hbB⟩;obtain ⟨gB,cB,rfl,hgB,hhB⟩:=bZ0 hrB HX.out.2;dsimp only;replace HT:Hid (Two wr wn x y _ _ _ _):=HT.out.callB hbB hgB hhB;clear hrB hbB hgB hhB;refine hK.out _ _ (fun _=>(HT.out.a _ rfl).2.2) (fun hHeld=>?_);replace hHeld:=hHeld rfl;clear hK K;generalize wn=wz at HT hHeld ⊢;refine bL0 (S':=fun w=>Head w gA x∧Head w gB y) (fun _ h=>h.1) _ _ _ _ ?_;replace hHeld:Head _ gA x∧Head _ gB y:=⟨(HT.out.a _ rfl).2.2,(HT.out.b _ rfl).2.2⟩;refine tkL7 (i:=6) (v:=?_) rfl (by kernel_rfl) (fun _ _ _ h=>h) (by rfl) ?_ (by assumption) ?_;rotate_left
        ·intro w hSw;go_simp;try rfl
        refine tkL7 (i:=7) (v:=?_) rfl (by kernel_rfl) (fun _ _ _ h=>h) (by rfl) ?_ (by assumption) ?_;rotate_left
        ·intro w hSw;obtain ⟨t0,t1,t2,t3,t4⟩:=hSw.2;go_simp;try rfl
     rotate_left 2;refine aF0.cons rfl (fun K hK=>?_) aF0.nil
     case' _=>
      go_simp;have HT2:=HT.out.boxX;replace HT:Hid _:=HT2;clear HT2;refine hK.out _ _ (fun _=>trivial) (fun hHeld=>?_);replace hHeld:=hHeld rfl;clear hK K;generalize wz.alloc (.cells #[.int .i64 0,.int .i64 0,.int .i64 0,.int .i64 0,.int .i64 0] 41)=wn at HT hHeld ⊢;generalize wz.heap.size=xb at HT ⊢;generalize wn=wz at HT hHeld ⊢;refine aL0 (rs:=[1]) (by kernel_rfl) (by simp) ?_;refine aF0.cons rfl (fun K hK=>?_) aF0.nil
      case' _=>
       go_simp;refine (eY0 base sp vb s.L 1 _ (HBK.out.below HT.out.bel lR7) (by omega) HPR.out).mono ?_;rintro e wn ⟨vA,rfl,hrA,hbA⟩;obtain ⟨gA,cA,rfl,hgA,hhA⟩:=bZ0 hrA HX.out.1;dsimp only;replace HT:Hid (Two wr wn x y _ _ _ _):=HT.out.callA hbA hgA hhA;clear hrA hbA hgA hhA;refine hK.out _ _ (fun _=>trivial) (fun hHeld=>?_);replace hHeld:=hHeld rfl;clear hK K;generalize wn=wz at HT hHeld ⊢;refine bL0 (S':=fun w=>Head w gA x) (fun _ _=>trivial) _ _ _ _ ?_;replace hHeld:=(HT.out.a _ rfl).2.2;refine tkL7 (i:=2) (v:=?_) rfl (by kernel_rfl) (fun _ _ _ h=>h) (by rfl) ?_ (by assumption) ?_;rotate_left
       ·intro w hSw;go_simp;try rfl
       refine tkL7 (i:=3) (v:=?_) rfl (by kernel_rfl) (fun _ _ _ h=>h) (by rfl) ?_ (by assumption) ?_;rotate_left
       ·intro w hSw;obtain ⟨t0,t1,t2,t3,t4⟩:=hSw;go_simp;try rfl
       refine aL0 (rs:=[5]) (by kernel_rfl) (by simp) ?_;refine aF0.cons rfl (fun K hK=>?_) aF0.nil
       case' _=>
        go_simp;refine (eY0 base sp vb s.L 2 _ (HBK.out.below HT.out.bel lR7) (by omega) HPR.out).mono ?_;rintro e wn ⟨vB,rfl,hrB,hbB⟩;obtain ⟨gB,cB,rfl,hgB,hhB⟩:=bZ0 hrB HX.out.2;dsimp only;replace HT:Hid (Two wr wn x y _ _ _ _):=HT.out.callB hbB hgB hhB;clear hrB hbB hgB hhB;refine hK.out _ _ (fun _=>(HT.out.a _ rfl).2.2) (fun hHeld=>?_);replace hHeld:=hHeld rfl;clear hK K;generalize wn=wz at HT hHeld ⊢;refine bL0 (S':=fun w=>Head w gA x∧Head w gB y) (fun _ h=>h.1) _ _ _ _ ?_;replace hHeld:Head _ gA x∧Head _ gB y:=⟨(HT.out.a _ rfl).2.2,(HT.out.b _ rfl).2.2⟩;refine tkL7 (i:=6) (v:=?_) rfl (by kernel_rfl) (fun _ _ _ h=>h) (by rfl) ?_ (by assumption) ?_;rotate_left
        ·intro w hSw;go_simp;try rfl
        refine tkL7 (i:=7) (v:=?_) rfl (by kernel_rfl) (fun _ _ _ h=>h) (by rfl) ?_ (by assumption) ?_;rotate_left
        ·intro w hSw;obtain ⟨t0,t1,t2,t3,t4⟩:=hSw.2;go_simp;try rfl
    all_goals
     obtain ⟨fA,fB,fx,fy,fb⟩:=HT.out.first;obtain ⟨_,_,zb⟩:=HT.out.x _ rfl;have z0:=aA0 (j:=0) zb rfl;have z1:=aA0 (j:=1) zb rfl;have z2:=aA0 (j:=2) zb rfl;have z3:=aA0 (j:=3) zb rfl;have z4:=aA0 (j:=4) zb rfl;have q0:=aB0 (j:=0) zb;have q1:=aB0 (j:=1) zb;have q2:=aB0 (j:=2) zb;have q3:=aB0 (j:=3) zb;have q4:=aB0 (j:=4) zb;unfold boxed at fA fB fx fy fb;have HF:Hid _:=And.intro fA (And.intro fB (And.intro fx (And.intro fy fb)));clear fA fB fx fy fb zb hHeld;refine aL0 (rs:=[10]) (by kernel_rfl) (by simp) ?_;refine aF0.cons rfl (fun K hK=>?_) aF0.nil;go_simp;generalize ((((wz.setCell ⟨xb,0,none⟩ (.int .i64 x.id)).setCell ⟨xb,1,none⟩ (.int .i64 x.side)).setCell ⟨xb,2,none⟩ (.int .i64 x.kind)).setCell ⟨xb,3,none⟩ (.int .i64 x.price)).setCell ⟨xb,4,none⟩ (.int .i64 x.qty)=wm at HF ⊢;refine hK.out _ _ (fun _=>⟨HF.out.1,HF.out.2.1⟩) (fun _=>?_);clear hK K z0 z1 z2 z3 z4 q0 q1 q2 q3 q4;obtain ⟨d1,d2,d3⟩:=HT.out.both HF.out.2.2.1 HF.out.2.2.2.1 HF.out.2.2.2.2;have zb:=HF.out.2.2.2.1;have z0:=aA0 (j:=0) zb rfl;have z1:=aA0 (j:=1) zb rfl;have z2:=aA0 (j:=2) zb rfl;have z3:=aA0 (j:=3) zb rfl;have z4:=aA0 (j:=4) zb rfl;have q0:=aB0 (j:=0) zb;have q1:=aB0 (j:=1) zb;have q2:=aB0 (j:=2) zb;have q3:=aB0 (j:=3) zb;have q4:=aB0 (j:=4) zb;unfold boxed at d1 d2 d3;have HD:Hid _:=And.intro d1 (And.intro d2 d3);clear d1 d2 d3 zb HF;refine aL0 (rs:=[11]) (by kernel_rfl) (by simp) ?_;refine aF0.cons rfl (fun K hK=>?_) aF0.nil;go_simp;generalize ((((wm.setCell ⟨yb,0,none⟩ (.int .i64 y.id)).setCell ⟨yb,1,none⟩ (.int .i64 y.side)).setCell ⟨yb,2,none⟩ (.int .i64 y.kind)).setCell ⟨yb,3,none⟩ (.int .i64 y.price)).setCell ⟨yb,4,none⟩ (.int .i64 y.qty)=we at HD ⊢;refine hK.out _ _ (fun h=>by cases h) (fun _=>?_);clear hK K z0 z1 z2 z3 z4 q0 q1 q2 q3 q4;refine fF0 (by kernel_rfl) ?_ _;go_wp2_with fail;go_meet;exact ⟨xb,yb,rfl,rfl,HD.out⟩
   case rest=>
    obtain ⟨xb,yb,rfl,rfl,hdx,hdy,hbc⟩:=hcut;have HDX:Hid (DBox wc xb x):=hdx;have HDY:Hid (DBox wc yb y):=hdy;have HRc:Hid (wc.ownsRow w.heap.size 115 4 (.slice fa s.fs.length fc) s.fs.length (fV s.fs)):=aO0 HRO.out hbc lR7;have HBc:Hid (BookIs wc base sp vb s.L):=HBK.out.below hbc lR7;have HOc:Hid (Out (fun j=>j=sp.bb) w wc):=bE0 HOU.out (Out.of_below hbc lR7);have hwc:w.heap.size≤wc.heap.size:=HOc.out.size;have hln:s.fs.length≤100000000:=by have:=HFL.out;omega
    have x0:=aA0 (j:=0) hdx rfl;have x4:=aA0 (j:=4) hdx rfl;have y0:=aA0 (j:=0) hdy rfl;have y4:=aA0 (j:=4) hdy rfl;rw [HLN.out] at HFS HM n1 n2;clear hbc hdx hdy HRO HBK HOU HBd;go_wp2_with (at_builtin;refine wpList_append_own_at _ rfl _ _ 44 rfl w.heap.size 115 iF (.agg #[.int .i64 0,.int .i64 0,.int .i64 0,.int .i64 0]) 4 32 Tryz.underlying44 hiF hF0 hF1 hF2 rfl (by decide) _ s.fs.length (fV s.fs) rfl (HRc.out.alloc _) ⟨wc.heap.size,0,none⟩ 1 1 [.int .i64 x.id,.int .i64 y.id,.int .i64 p,.int .i64 (min s.q (min x.qty y.qty))] rfl rfl (World.news_of_block (cs:=#[.int .i64 x.id,.int .i64 y.id,.int .i64 p,.int .i64 (min s.q (min x.qty y.qty))]) (t:=115) (fr:=(0,0)) (heap_alloc_new wc _)) (by simp [Value.oneCell']) (by unfold maxLen;omega) (by omega) (by simp;omega) ?_;intro v6 w6 hown6 hgrow6 _ _;obtain ⟨b6,dx6,dy6,o6⟩:=eX1 HRc.out HBc.out HDX.out HDY.out HOc.out hgrow6;have x6:=aA0 (j:=0) dx6 rfl;have HB6:Hid _:=b6;have HY6:Hid _:=dy6;have HO6:Hid _:=o6;have HW6:Hid _:=hown6;clear b6 dx6 dy6 o6 hown6 hgrow6);have hk0:s.fs.length=k:=HFL.out;have hz6:w.heap.size≤w6.heap.size:=HO6.out.size;refine (uX0 base sp vb s.L x (min s.q (min x.qty y.qty)) w6 HB6.out (by omega) (by omega) HFO.out.ok HM.out.1 ⟨n1,HM.out.2.2.2.2.1⟩).mono ?_;rintro e w7 ⟨rfl,ho7,v7,hb7⟩;have dy7:DBox w7 yb y:=aE0 HY6.out ho7 (cV0 HY6.out HB6.out.box (fun e=>HB6.out.ty.1 e.symm));have y7:=aA0 (j:=0) dy7 rfl;have HW7:Hid (w7.ownsRow w.heap.size 115 4 v6 (s.fs.length+1) (fV s.fs++[.int .i64 x.id,.int .i64 y.id,.int .i64 p,.int .i64 (min s.q (min x.qty y.qty))])):=aI0 HW6.out ho7 (fun j hj e=>aG0 HW6.out HB6.out.box HB6.out.ty.2 (hj.trans (congrArg some e)));have HB7:Hid (BookIs w7 base sp v7 (bH0 x.id (min s.q (min x.qty y.qty)) s.L)):=hb7;have HO7:Hid (Out (fun j=>j=sp.bb) w w7):=bE0 HO6.out ho7;clear ho7 hb7 dy7 x6 hk0;go_wp2_with fail;have hz7:w.heap.size≤w7.heap.size:=HO7.out.size;have hl7:(bH0 x.id (min s.q (min x.qty y.qty)) s.L).length≤s.L.length:=lX0 _ _ _;refine (uX0 base sp v7 (bH0 x.id (min s.q (min x.qty y.qty)) s.L) y (min s.q (min x.qty y.qty)) w7 HB7.out (by omega) (by omega) HM.out.2.2.1 HM.out.2.1 ⟨n1,HM.out.2.2.2.2.2⟩).mono ?_;rintro e w8 ⟨rfl,ho8,v8,hb8⟩;have HW8:Hid (w8.ownsRow w.heap.size 115 4 v6 (s.fs.length+1) (fV s.fs++[.int .i64 x.id,.int .i64 y.id,.int .i64 p,.int .i64 (min s.q (min x.qty y.qty))])):=aI0 HW7.out ho8 (fun j hj e=>aG0 HW7.out HB7.out.box HB7.out.ty.2 (hj.trans (congrArg some e)));have HB8:Hid (BookIs w8 base sp v8 (bH0 y.id (min s.q (min x.qty y.qty)) (bH0 x.id (min s.q (min x.qty y.qty)) s.L))):=hb8;have HO8:Hid (Out (fun j=>j=sp.bb) w w8):=bE0 HO7.out ho8;have HL8:Hid ((bH0 y.id (min s.q (min x.qty y.qty)) (bH0 x.id (min s.q (min x.qty y.qty)) s.L)).length≤s.L.length):=Nat.le_trans (lX0 _ _ _) hl7;clear ho8 hb8 y7 hl7;go_wp2_with fail;go_roundw
    case rel=>
     have hk0:s.fs.length=k:=HFL.out;have h8:=HL8.out;refine ⟨k+1,v8,?_,HJ2.out,?_,?_,?_,?_,?_,HO8.out⟩
     ·rw [HST.out,HFS.out.2];try go_num
     ·rw [HST.out,HFS.out.1,List.length_append,List.length_singleton,hk0]
     ·rw [HST.out,HFS.out.2];omega
     ·rw [HST.out,HM.out.2.2.2.1];omega
     ·rw [HST.out,HFS.out.1,rW0,List.length_append,List.length_singleton];exact HW8.out
     ·rw [HST.out,HM.out.2.2.2.1];exact HB8.out
    case measure=>simp [RowKit.intOf];omega
  ·go_wp2_with fail;go_ret2;exact ⟨k,_,rfl,by omega,HJ.out,HRO.out,⟨_,HBK.out⟩,HOU.out⟩
end Go.Proofs.YtjdkagafdnchhaaGreatDoor
