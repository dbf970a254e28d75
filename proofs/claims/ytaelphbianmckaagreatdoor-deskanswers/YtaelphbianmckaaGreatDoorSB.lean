/- DeskAnswers -/
import Derived.Test.YtaelphbianmckaaGreatDoorSA
import Derived.Deep.DrawnRows
import Derived.StillTailTactics
import Derived.RangeFuncNested
import Derived.RangeFuncBound
import Derived.Shelf.RegionOpen
import Derived.OwnWalkIn
import Derived.LoopNIn
import Derived.LoopIn
open Go.Value renaming int->U, pointer->E, slice->J
open Go.IntKind renaming i64->G
open Go.Obj renaming cells->R
open Go.Ending renaming returned->Y
open Go.Proofs.Tryz
open Go.RowKit.Below renaming heap_setCell->cK, refl->aF, heap_alloc->dD, drew->aV, alloc->aS, setCell->eO
open List renaming set_cons_succ->fZ, nodup_nil->eS, nodup_append->dO, length_append->aN, length_singleton->bD, mem_append->bQ, mem_cons->aR, map_cons->bW, nodup_cons->cP, mem_map->bH, length_cons->aZ, map_map->dS, map_congr_left->cJ, map_append->bK, length_set->fP, length_nil->cU, size_toArray->dW, push_toArray->eI, append_toArray->dZ, nil_append->bX, cons_append->dL, takeWhile_cons->eJ
open Nat renaming le_trans->aI, zero_le->aO, le_succ_of_le->eY, add_comm->fX, lt_of_lt_of_le->aT, reduceAdd->eL, reduceSub->eW
open Or renaming inl->aH, inr->aG
open Go.Value.slice renaming injEq->aY
open Go.World renaming ownsRow_nil->aU, news_of_block->bJ
set_option maxHeartbeats 4000000
set_option maxRecDepth 100000
namespace Go.Proofs.YtaelphbianmckaaGreatDoor
section
open Go.RowKit
def frV (fr:List Nat):List Value:=fr.map fun k:Nat=>U G (k:Int)
theorem fR1 {l:List Value} {k:Nat} {v:Value} (h:l[k]? = some v):l.set k v=l:=by
 obtain ⟨a,rfl⟩:=List.getElem?_eq_some_iff.1 h;exact List.set_getElem_self a
theorem iZ1 (fr:List Nat):(frV fr).length=fr.length:=by simp [frV]
theorem fS1 (fr:List Nat) (k:Nat):frV (fr++[k])=frV fr++[U G (k:Int)]:=by simp [frV]
theorem zF1 (fs:List Nat) (k:Nat):(frV (fs++[k]))[fs.length]? = some (U G (k:Int)):=by simp [frV]
structure Out (S:Nat->Prop) (w w':World):Prop where
 os:w'.os=w.os
 tape:w'.tape=w.tape
 output:w'.output=w.output
 size:w.heap.size<=w'.heap.size
 block:∀k,k<w.heap.size->¬S k->w'.heap[k]? = w.heap[k]?
theorem Out.refl (S:Nat->Prop) (w:World):Out S w w:=⟨rfl,rfl,rfl,lR7,fun _ _ _=>rfl⟩
def Went (w:World) (S S':Nat->Prop):Prop:=∀k,S' k->S k\/w.heap.size<=k
theorem Went.refl (w:World) (S:Nat->Prop):Went w S S:=fun _ h=>aH h
theorem Went.trans {w w1:World} {S a S2:Nat->Prop} (h:Went w S a) (c:Went w1 a S2) (d:w.heap.size<=w1.heap.size):Went w S S2:=fun k hk=>by
 rcases c k hk with b | b
 ·exact h k b
 ·exact aG o7
theorem Out.trans {S c:Nat->Prop} {w w1 w2:World} (h:Out S w w1) (a:Out c w1 w2) (f:Went w S c):Out S w w2:=
 ⟨a.os.trans h.os,a.tape.trans h.tape,a.output.trans h.output,aI h.size a.size,fun k hk e=>(a.block k (by have:=h.size;omega) (fun b=>by
  rcases f k b with d | d
  ·exact e d
  ·omega)).trans (h.block k hk e)⟩
theorem Out.of_below {S:Nat->Prop} {w w':World} {B:Nat} (h:Below B w w') (a:w.heap.size<=B):Out S w w':=⟨h.os,h.tape,h.output,h.size,fun k hk _=>h.block k o7⟩
theorem Out.of_grown {S:Nat->Prop} {w w':World} {a:Option Nat} (h:w.grownBy w' a) (c:∀k,a=some k->S k):Out S w w':=⟨h.os,h.tape,h.output,h.size,fun k hk b=>h.block k hk (fun e=>b (c k e.symm))⟩
theorem Out.below {S:Nat->Prop} {w w':World} {B:Nat} (h:Out S w w') (b:∀k,S k->B<=k) (c:B<=w.heap.size):Below B w w':=⟨h.os,h.tape,h.output,h.size,fun k hk=>h.block k o7 (fun a=>by have:=b k a;omega)⟩
theorem Out.mono {S S':Nat->Prop} {w w':World} (h:Out S w w') (b:∀k,S k->S' k):Out S' w w':=⟨h.os,h.tape,h.output,h.size,fun k hk a=>h.block k hk (fun e=>a (b k e))⟩
abbrev Sot:=Option Ord×Int
def soAt (rs:List Sot) (k:Nat):Sot:=rs.getD k (none,0)
def cntO:List Sot->Nat
 | []=>0
 | r::rs=>(if r.1.isSome then 1 else 0)+cntO rs
def thO (t:Option Ord):Ord:=t.getD Ord.none_
theorem dY0 {rs:List Sot} {k:Nat} (p:Sot) (h:k<rs.length):soAt (rs.set k p) k=p:=by simp [soAt,h]
theorem cG0 {rs:List Sot} {k j:Nat} (p:Sot) (h:k≠j):soAt (rs.set k p) j=soAt rs j:=by simp [soAt,h]
theorem zJ0 {rs:List Sot} {k:Nat} (p:Sot) (h:k<rs.length):soAt (rs++[p]) k=soAt rs k:=by simp [soAt,List.getElem?_append,h]
theorem mX0 (rs:List Sot) (p:Sot):soAt (rs++[p]) rs.length=p:=by simp [soAt]
theorem mY0 {rs:List Sot} {k:Nat} (h:rs.length<=k):soAt rs k=(none,0):=by simp [soAt,h]
theorem kZ0 {rs:List Sot} {k:Nat} {o:Ord} {a:Int} (h:soAt rs k=(some o,a)):k<rs.length:=by
 rcases Nat.lt_or_ge k rs.length with b | b
 ·exact b
 ·rw [mY0 b] at h;cases h
theorem sF0 (a b:List Sot):cntO (a++b)=cntO a+cntO b:=by
 induction a with
 | nil=>simp [cntO]
 | cons r a ih=>simp [cntO,ih];omega
theorem lV0 {rs:List Sot} {k:Nat} (p:Sot) (h:k<rs.length):cntO (rs.set k p)+(if (soAt rs k).1.isSome then 1 else 0)=cntO rs+(if p.1.isSome then 1 else 0):=by
 induction rs generalizing k with
 | nil=>simp at h
 | cons r rs ih=>
  cases k with
  | zero=>simp [cntO,soAt];omega
  | succ k=>
   have:=ih (k:=k) (by simpa using h);simp only [fZ,cntO];have e:soAt (r::rs) (k+1)=soAt rs k:=by simp [soAt]
   rw [e];omega
structure So (m:Nat) (rs:List Sot) (fr:List Nat):Prop where
 nd:fr.Nodup
 free:∀k∈fr,k<rs.length/\(soAt rs k).1=none
 cnt:cntO rs+fr.length=rs.length
 small:rs.length<=m
 ages:∀k,0<=(soAt rs k).2/\(soAt rs k).2<=m
theorem So.start (m:Nat):So m [] []:=⟨eS,fun _ h=>(by cases h),rfl,aO _,fun k=>by simp [soAt]⟩
theorem So.more {m m':Nat} {rs:List Sot} {fr:List Nat} (h:So m rs fr) (a:m<=m'):So m' rs fr:=⟨h.nd,h.free,h.cnt,by have:=h.small;omega,fun k=>by have:=h.ages k;omega⟩
theorem So.putFree {m k:Nat} {rs:List Sot} {fs:List Nat} {x:Ord} (h:So m rs (fs++[k])):So (m+1) (rs.set k (some x,(soAt rs k).2)) fs:=by
 have hk:=h.free k s7;have a:=dO.1 h.nd;refine ⟨a.1,fun j d=>?_,?_,by simpa using eY h.small,fun j=>?_⟩
 ·have b:k≠j:=fun e=>a.2.2 j d k s7 e.symm
  rw [cG0 _ b]
  simpa using h.free j (by simp [d])
 ·have c:=lV0 (some x,(soAt rs k).2) hk.1;have f:=h.cnt;rw [hk.2] at c;simp only [aN,bD] at f;simp at c;simp;omega
 ·by_cases e:k=j
  ·subst e;rw [dY0 _ hk.1];have:=h.ages k;simp;omega
  ·rw [cG0 _ e];have:=h.ages j;omega
theorem So.putNew {m:Nat} {rs:List Sot} {x:Ord} (h:So m rs []):So (m+1) (rs++[(some x,0)]) []:=by
 have a:∀k,soAt (rs++[(some x,0)]) k=soAt rs k\/soAt (rs++[(some x,0)]) k=(some x,0):=fun k=>by
  rcases Nat.lt_trichotomy k rs.length with b | b | b
  ·exact aH (zJ0 _ b)
  ·subst b;exact aG (mX0 _ _)
  ·left;rw [mY0 (by simp;omega),mY0 o7]
 refine ⟨eS,fun _ h=>(by cases h),?_,by have:=h.small;simp;omega,fun k=>?_⟩
 ·have:=h.cnt;simp [sF0,cntO] at this ⊢;omega
 ·rcases a k with e | e
  ·rw [e];have:=h.ages k;omega
  ·rw [e];simp;omega
theorem So.set {m k:Nat} {rs:List Sot} {fr:List Nat} {x:Ord} (h:So m rs fr) (hk:k<rs.length) (b:(soAt rs k).1.isSome=true):So (m+1) (rs.set k (some x,(soAt rs k).2)) fr:=by
 refine ⟨h.nd,fun j f=>?_,?_,by simpa using eY h.small,fun j=>?_⟩
 ·have a:=h.free j f;have c:k≠j:=fun e=>by subst e;rw [a.2] at b;cases b
  rw [cG0 _ c]
  simpa using a
 ·have d:=lV0 (some x,(soAt rs k).2) hk;have g:=h.cnt;rw [b] at d;simp at d;simp;omega
 ·by_cases e:k=j
  ·subst e;rw [dY0 _ hk];have:=h.ages k;simp;omega
  ·rw [cG0 _ e];have:=h.ages j;omega
theorem So.take {m k:Nat} {rs:List Sot} {fr:List Nat} (h:So m rs fr) (hk:k<rs.length) (d:(soAt rs k).1.isSome=true):So (m+1) (rs.set k (none,(soAt rs k).2+1)) (fr++[k]):=by
 have n:k ∉ fr:=fun l=>by have:=h.free k l;rw [this.2] at d;cases d
 refine ⟨?_,fun j i=>?_,?_,by simpa using eY h.small,fun j=>?_⟩
 ·rw [dO];exact ⟨h.nd,by simp,fun a g b f e=>by simp at f;subst e;subst f;exact n g⟩
 ·by_cases e:k=j
  ·subst e;rw [dY0 _ hk];exact ⟨by simpa using hk,rfl⟩
  ·rw [cG0 _ e];rcases bQ.1 i with c | c
   ·simpa using h.free j c
   ·simp at c;omega
 ·have c:=lV0 (none,(soAt rs k).2+1) hk;have o:=h.cnt;rw [d] at c;simp at c;simp;omega
 ·by_cases e:k=j
  ·subst e;rw [dY0 _ hk];have:=h.ages k;simp;omega
  ·rw [cG0 _ e];have:=h.ages j;omega
def soV:List Sot->List Value
 | []=>[]
 | r::rs=>U G (thO r.1).id::U G (thO r.1).side::U G (thO r.1).kind::U G (thO r.1).price::U G (thO r.1).qty::U G r.2::.bool r.1.isSome::soV rs
theorem jA1 (a b:List Sot):soV (a++b)=soV a++soV b:=by
 induction a with
 | nil=>rfl
 | cons r a ih=>simp [soV,ih]
theorem mD1 {rs:List Sot} {k:Nat} (h:k<rs.length):(soV rs)[k*7]? = some (U G (thO (soAt rs k).1).id)/\(soV rs)[k*7+1]? = some (U G (thO (soAt rs k).1).side)/\(soV rs)[k*7+2]? = some (U G (thO (soAt rs k).1).kind)/\(soV rs)[k*7+3]? = some (U G (thO (soAt rs k).1).price)/\(soV rs)[k*7+4]? = some (U G (thO (soAt rs k).1).qty)/\(soV rs)[k*7+5]? = some (U G (soAt rs k).2)/\(soV rs)[k*7+6]? = some (.bool (soAt rs k).1.isSome):=by
 induction rs generalizing k with
 | nil=>simp at h
 | cons r rs ih=>
  cases k with
  | zero=>exact ⟨rfl,rfl,rfl,rfl,rfl,rfl,rfl⟩
  | succ k=>
   have:=ih (k:=k) (by simpa using h);rw [show (k+1)*7=k*7+1+1+1+1+1+1+1 by omega];have e:soAt (r::rs) (k+1)=soAt rs k:=by simp [soAt]
   rw [e]
   simpa [soV] using this
theorem mE1 {rs:List Sot} {k:Nat} (p:Sot) (h:k<rs.length):(((((((soV rs).set (k*7) (U G (thO p.1).id)).set (k*7+1) (U G (thO p.1).side)).set (k*7+2) (U G (thO p.1).kind)).set (k*7+3) (U G (thO p.1).price)).set (k*7+4) (U G (thO p.1).qty)).set (k*7+5) (U G p.2)).set (k*7+6) (.bool p.1.isSome)=soV (rs.set k p):=by
 induction rs generalizing k with
 | nil=>simp at h
 | cons r rs ih=>
  cases k with
  | zero=>rfl
  | succ k=>
   have:=ih (k:=k) (by simpa using h);rw [show (k+1)*7=k*7+1+1+1+1+1+1+1 by omega];simp only [soV,fZ];rw [<-this]
def dK1 (rs:List Sot) (fr:List Nat) (k:Nat) (rs1:List Sot) (fr1:List Nat):Prop:=(fr=fr1++[k]/\rs1=rs)\/(fr=[]/\fr1=[]/\k=rs.length/\rs1=rs++[(none,0)])
structure Ly where
 slot:Nat
 age:Int
 o:Ord
def hV:List Ly->List Value
 | []=>[]
 | x::l=>U G (x.slot:Int)::U G x.age::hV l
def dX2:Ly:=⟨0,0,Ord.none_⟩
def lyAt (l:List Ly) (k:Nat):Ly:=l.getD k dX2
theorem lA0 {l:List Ly} {k:Nat} (h:k<l.length):lyAt l k=l[k]:=by simp [lyAt,h]
theorem fT1 {l:List Ly} {k:Nat} (h:k<l.length):lyAt l k∈l:=by rw [lA0 h];exact List.getElem_mem h
theorem fZ0 (l:List Ly):(hV l).length=l.length*2:=by
 induction l with
 | nil=>rfl
 | cons r rs ih=>simp [hV,ih];omega
theorem sG0 (a b:List Ly):hV (a++b)=hV a++hV b:=by
 induction a with
 | nil=>rfl
 | cons r a ih=>simp [hV,ih]
theorem jB1 {l:List Ly} {k:Nat} (h:k<l.length):(hV l)[k*2]? = some (U G ((lyAt l k).slot:Int))/\(hV l)[k*2+1]? = some (U G (lyAt l k).age):=by
 induction l generalizing k with
 | nil=>simp at h
 | cons r rs ih=>
  cases k with
  | zero=>exact ⟨rfl,rfl⟩
  | succ k=>
   have:=ih (k:=k) (by simpa using h);rw [show (k+1)*2=k*2+1+1 by omega];have e:lyAt (r::rs) (k+1)=lyAt rs k:=by simp [lyAt]
   rw [e]
   simpa [hV] using this
theorem xX1 (l:List Ly):∀u∈hV l,u.oneCell'=true:=by
 induction l with
 | nil=>simp [hV]
 | cons o l ih=>
  intro u a;simp only [hV,aR] at a;rcases a with rfl | rfl | a
  ·rfl
  ·rfl
  ·exact ih u a
structure Pb (m:Nat) (rs:List Sot) (fr:List Nat) (S:Nat->List Ly):Prop where
 so:So m rs fr
 there:∀s,s<2->∀x∈S s,soAt rs x.slot=(some x.o,x.age)
 nd:((S 0++S 1).map Ly.slot).Nodup
 ids:((S 0++S 1).map fun x=>x.o.id).Nodup
 cnt:cntO rs=(S 0).length+(S 1).length
 side:∀s,s<2->∀x∈S s,x.o.side=(s:Int)+1
 ok:∀s,s<2->∀x∈S s,1<=x.o.id/\(Lit.int .i64 x.o.id).wf=true/\1<=x.o.price/\x.o.price<=1000000/\1<=x.o.qty/\x.o.qty<=1000000
 most:(S 0).length+(S 1).length<=100
def upS (S:Nat->List Ly) (s:Nat) (l:List Ly):Nat->List Ly:=fun k=>if k=s then l else S k
theorem jI0 (S:Nat->List Ly) (s:Nat) (l:List Ly):upS S s l s=l:=aB rfl
theorem hQ0 {S:Nat->List Ly} {s k:Nat} (l:List Ly) (h:k≠s):upS S s l k=S k:=aA h
theorem sH0 (S:Nat->List Ly) {s:Nat} (a:s<2):(S 0++S 1).Perm (S s++S (1 - s)):=by
 match s,a with
 | 0,_=>exact List.Perm.refl _
 | 1,_=>exact List.perm_append_comm
theorem mF1 (S:Nat->List Ly) (l:List Ly) {s:Nat} (a:s<2):(upS S s l 0++upS S s l 1).Perm (l++S (1 - s)):=by
 match s,a with
 | 0,_=>exact List.Perm.refl _
 | 1,_=>exact List.perm_append_comm
theorem sI0 (S:Nat->List Ly) (l:List Ly) {s:Nat} (a:s<2):(upS S s l 0).length+(upS S s l 1).length=l.length+(S (1 - s)).length/\(S 0).length+(S 1).length=(S s).length+(S (1 - s)).length:=by
 match s,a with
 | 0,_=>exact ⟨rfl,rfl⟩
 | 1,_=>exact ⟨fX _ _,fX _ _⟩
theorem vB0 {S:Nat->List Ly} {l:List Ly} {s t:Nat} {y:Ly} (h:y∈upS S s l t):(t=s/\y∈l)\/(t≠s/\y∈S t):=by
 by_cases e:t=s
 ·subst e;rw [jI0] at h;exact aH ⟨rfl,h⟩
 ·rw [hQ0 _ e] at h;exact aG ⟨e,h⟩
theorem Pb.one_slot {m:Nat} {rs:List Sot} {fr:List Nat} {S:Nat->List Ly} (h:Pb m rs fr S) {s t:Nat} (i:s<2) (j:t<2) {x y:Ly} (k:x∈S s) (l:y∈S t) (e:x.slot=y.slot):x=y:=by
 have d:=h.there s i x k;have g:=h.there t j y l;rw [e,g] at d;injection d with d f;injection d with d;obtain ⟨a,b,c⟩:=x;obtain ⟨n,b',o⟩:=y;simp only at e d f;rw [e,d,f]
theorem wW0 {α:Type} {f:Ly->α} {l:List Ly} (h:(l.map f).Nodup) {x y:Ly} (d:x∈l) (g:y∈l) (e:f x=f y):x=y:=by
 induction l with
 | nil=>cases d
 | cons a l ih=>
  simp only [bW,cP] at h;rcases aR.1 d with rfl | b <;> rcases aR.1 g with rfl | c
  ·rfl
  ·exact absurd (bH.2 ⟨y,c,e.symm⟩) h.1
  ·exact absurd (bH.2 ⟨x,b,e⟩) h.1
  ·exact ih h.2 b c
theorem Pb.mem {S:Nat->List Ly} {s:Nat} (a:s<2) {x:Ly} (b:x∈S s):x∈S 0++S 1:=(sH0 S a).mem_iff.2 (bQ.2 (aH b))
theorem Pb.one_id {m:Nat} {rs:List Sot} {fr:List Nat} {S:Nat->List Ly} (h:Pb m rs fr S) {s t:Nat} (a:s<2) (b:t<2) {x y:Ly} (c:x∈S s) (d:y∈S t) (e:x.o.id=y.o.id):x=y:=
 wW0 h.ids (Pb.mem a c) (Pb.mem b d) e
theorem Pb.one_side {m:Nat} {rs:List Sot} {fr:List Nat} {S:Nat->List Ly} (h:Pb m rs fr S) {s t:Nat} (a:s<2) (b:t<2) {x:Ly} (c:x∈S s) (d:x∈S t):s=t:=by
 have e:=h.side s a x c;have f:=h.side t b x d;omega
theorem Pb.more {m m':Nat} {rs:List Sot} {fr:List Nat} {S:Nat->List Ly} (h:Pb m rs fr S) (a:m<=m'):Pb m' rs fr S:=⟨h.so.more a,h.there,h.nd,h.ids,h.cnt,h.side,h.ok,h.most⟩
theorem Pb.start (m:Nat):Pb m [] [] (fun _=>[]):=⟨So.start m,fun _ _ x a=>(by cases a),eS,eS,rfl,fun _ _ x a=>(by cases a),fun _ _ x a=>(by cases a),by simp⟩
theorem sJ0 {m k:Nat} {rs b:List Sot} {fr d:List Nat} (h:So m rs fr) (g:dK1 rs fr k b d):k<b.length/\(soAt b k).1=none/\(∀j o a,soAt rs j=(some o,a)->j≠k/\soAt b j=(some o,a))/\cntO b=cntO rs/\b.length<=rs.length+1:=by
 rcases g with ⟨rfl,rfl⟩ | ⟨rfl,rfl,rfl,rfl⟩
 ·have hk:=h.free k s7;refine ⟨hk.1,hk.2,fun j o a c=>⟨fun e=>?_,c⟩,rfl,o7⟩;subst e;rw [c] at hk;cases hk.2
 ·refine ⟨by simp,by rw [mX0],fun j o a c=>?_,by simp [sF0,cntO],by simp⟩;have f:=kZ0 c;exact ⟨o7,by rw [zJ0 _ f];exact c⟩
theorem sW1 (rs:List Sot) (p q:Sot):(rs++[p]).set rs.length q=rs++[q]:=by simp
theorem zG1 {m k:Nat} {rs a:List Sot} {fr fr1:List Nat} {o:Ord} (h:So m rs fr) (b:dK1 rs fr k a fr1):So (m+1) (a.set k (some o,(soAt a k).2)) fr1:=by
 rcases b with ⟨rfl,rfl⟩ | ⟨rfl,rfl,rfl,rfl⟩
 ·exact h.putFree
 ·rw [mX0,sW1];exact h.putNew
theorem zH1 {m:Nat} {rs:List Sot} {fr:List Nat} (a:So m rs fr):∃k rs1 fr1,dK1 rs fr k rs1 fr1:=by
 rcases List.eq_nil_or_concat fr with rfl | ⟨fs,k,rfl⟩
 ·exact ⟨rs.length,_,[],aG ⟨rfl,rfl,rfl,rfl⟩⟩
 ·rw [List.concat_eq_append];exact ⟨k,rs,fs,aH ⟨rfl,rfl⟩⟩
theorem Pb.put {m k s:Nat} {rs b:List Sot} {fr j:List Nat} {S:Nat->List Ly} {o:Ord} {l':List Ly} (h:Pb m rs fr S) (D:dK1 rs fr k b j) (A:s<2) (p:l'.Perm (⟨k,(soAt b k).2,o⟩::S s)) (i:o.side=(s:Int)+1)
  (w:1<=o.id/\(Lit.int .i64 o.id).wf=true/\1<=o.price/\o.price<=1000000/\1<=o.qty/\o.qty<=1000000) (n:∀t,t<2->∀x∈S t,x.o.id≠o.id) (I:(S 0).length+(S 1).length<100):
  Pb (m+1) (b.set k (some o,(soAt b k).2)) j (upS S s l'):=by
 obtain ⟨hk,E,v,G,_⟩:=sJ0 h.so D;have f:=(mF1 S l' A).trans ((p.append_right _).trans ((sH0 S A).symm.cons _));have H:=sI0 S l' A;have z:=p.length_eq;simp only [aZ] at z;refine ⟨zG1 h.so D,fun t g y a=>?_,?_,?_,?_,fun t g y a=>?_,fun t g y a=>?_,o7⟩
 ·have q:∀u,u<2->y∈S u->soAt (b.set k (some o,(soAt b k).2)) y.slot=(some y.o,y.age):=fun u F B=>by
   obtain ⟨r,C⟩:=v _ _ _ (h.there u F y B);rw [cG0 _ (Ne.symm r)];exact C
  rcases vB0 a with ⟨rfl,c⟩ | ⟨_,c⟩
  ·rcases aR.1 (p.mem_iff.1 c) with rfl | l
   ·exact dY0 _ hk
   ·exact q _ g l
  ·exact q _ g c
 ·rw [(f.map _).nodup_iff];simp only [bW,cP];refine ⟨fun d=>?_,h.nd⟩;obtain ⟨y,a,e⟩:=bH.1 d;rcases bQ.1 a with a | a
  ·exact (v _ _ _ (h.there 0 d7 y a)).1 e
  ·exact (v _ _ _ (h.there 1 d7 y a)).1 e
 ·rw [(f.map _).nodup_iff];simp only [bW,cP];refine ⟨fun d=>?_,h.ids⟩;obtain ⟨y,a,e⟩:=bH.1 d;rcases bQ.1 a with a | a
  ·exact n 0 d7 y a e
  ·exact n 1 d7 y a e
 ·have r:=lV0 (some o,(soAt b k).2) hk;rw [E] at r;have C:=h.cnt;simp at r;omega
 ·rcases vB0 a with ⟨rfl,c⟩ | ⟨_,c⟩
  ·rcases aR.1 (p.mem_iff.1 c) with rfl | l
   ·exact i
   ·exact h.side _ g _ l
  ·exact h.side _ g _ c
 ·rcases vB0 a with ⟨rfl,c⟩ | ⟨_,c⟩
  ·rcases aR.1 (p.mem_iff.1 c) with rfl | l
   ·exact w
   ·exact h.ok _ g _ l
  ·exact h.ok _ g _ c
theorem Pb.gone {m s:Nat} {rs:List Sot} {fr:List Nat} {S:Nat->List Ly} {x:Ly} {l':List Ly} (h:Pb m rs fr S) (j:s<2) (u:x∈S s) (n:(S s).Perm (x::l')):
  Pb (m+1) (rs.set x.slot (none,x.age+1)) (fr++[x.slot]) (upS S s l'):=by
 have b:=h.there s j x u;have hk:=kZ0 b;have r:(soAt rs x.slot).1.isSome=true:=by rw [b];rfl
 have c:(S 0++S 1).Perm (x::(upS S s l' 0++upS S s l' 1)):=(sH0 S j).trans ((n.append_right _).trans ((mF1 S l' j).symm.cons _));have f:=(c.map Ly.slot).nodup_iff.1 h.nd;have i:=(c.map fun x=>x.o.id).nodup_iff.1 h.ids;simp only [bW,cP] at f i;have w:=sI0 S l' j;have p:=n.length_eq;simp only [aZ] at p
 have g:∀t,t<2->∀y∈upS S s l' t,y∈S t:=fun t a y d=>by
  rcases vB0 d with ⟨rfl,k⟩ | ⟨_,k⟩
  ·exact n.mem_iff.2 (List.mem_cons_of_mem _ k)
  ·exact k
 refine ⟨?_,fun t a y d=>?_,f.2,i.2,?_,fun t a y d=>h.side t a y (g t a y d),fun t a y d=>h.ok t a y (g t a y d),by have:=h.most;omega⟩
 ·have:=h.so.take hk r;rw [b] at this;exact this
 ·have l:x.slot≠y.slot:=fun e=>f.1 (bH.2 ⟨y,Pb.mem a d,e.symm⟩)
  rw [cG0 _ l];exact h.there t a y (g t a y d)
 ·have q:=lV0 (none,x.age+1) hk;rw [b] at q;have v:=h.cnt;simp at q;omega
def cutL (x:Ly) (o':Ord) (l:List Ly):List Ly:=l.map fun y=>if y.slot=x.slot then { y with o:=o' } else y
theorem jC1 (x:Ly) (a:Ord) (l:List Ly):(cutL x a l).map Ly.slot=l.map Ly.slot:=by
 unfold cutL;rw [dS];apply cJ;intro y _;simp only [Function.comp];split <;> rfl
theorem sK0 (x:Ly) (a:Ord) (l:List Ly):(cutL x a l).length=l.length:=by simp [cutL]
theorem zI1 (x:Ly) (a:Ord) (l:List Ly):hV (cutL x a l)=hV l:=by
 induction l with
 | nil=>rfl
 | cons y l ih=>
  have:cutL x a (y::l)=(if y.slot=x.slot then { y with o:=a } else y)::cutL x a l:=rfl;rw [this];unfold hV;rw [ih];split <;> rfl
theorem Pb.cut {m s:Nat} {rs:List Sot} {fr:List Nat} {S:Nat->List Ly} {x:Ly} {a:Ord} (h:Pb m rs fr S) (c:s<2) (j:x∈S s) (n:a.id=x.o.id) (u:a.side=x.o.side) (v:1<=a.price/\a.price<=1000000/\1<=a.qty/\a.qty<=1000000):
  Pb (m+1) (rs.set x.slot (some a,x.age)) fr (upS S s (cutL x a (S s))):=by
 have g:=h.there s c x j;have hk:=kZ0 g;have A:(soAt rs x.slot).1.isSome=true:=by rw [g];rfl
 have B:=sI0 S (cutL x a (S s)) c
 have f:∀t,t<2->∀y∈upS S s (cutL x a (S s)) t,(y∈S t/\y.slot≠x.slot)\/(t=s/\y={ x with o:=a }):=fun t d y b=>by
  rcases vB0 b with ⟨rfl,k⟩ | ⟨i,k⟩
  ·obtain ⟨z,q,rfl⟩:=bH.1 k
   by_cases e:z.slot=x.slot
   ·obtain rfl:=h.one_slot d c q j e;right;rw [aB rfl];exact ⟨rfl,rfl⟩
   ·left;rw [aA e];exact ⟨q,e⟩
  ·left;refine ⟨k,fun e=>?_⟩;have r:=h.one_slot d c k j e;exact i (h.one_side d c k (r ▸ j))
 have w:=sK0 x a (S s);have C:=h.most
 have l:((cutL x a (S s)).map fun y=>y.o.id)=(S s).map fun y=>y.o.id:=by
  unfold cutL;rw [dS];apply cJ;intro y b;simp only [Function.comp];split
  ·rename_i e;obtain rfl:=h.one_slot c c b j e;exact n
  ·rfl
 refine ⟨?_,fun t d y b=>?_,?_,?_,?_,fun t d y b=>?_,fun t d y b=>?_,o7⟩
 ·have:=h.so.set (x:=a) hk A;rw [g] at this;exact this
 ·rcases f t d y b with ⟨b,i⟩ | ⟨_,rfl⟩
  ·rw [cG0 _ (Ne.symm i)];exact h.there t d y b
  ·exact dY0 _ hk
 ·rw [((mF1 S _ c).map _).nodup_iff,bK,jC1,<-bK,<-((sH0 S c).map _).nodup_iff];exact h.nd
 ·rw [((mF1 S _ c).map _).nodup_iff,bK,l,<-bK,<-((sH0 S c).map _).nodup_iff];exact h.ids
 ·have p:=lV0 (some a,x.age) hk;rw [g] at p;have k:=h.cnt;simp at p;omega
 ·rcases f t d y b with ⟨b,_⟩ | ⟨rfl,rfl⟩
  ·exact h.side t d y b
  ·show a.side=_;rw [u];exact h.side _ c x j
 ·rcases f t d y b with ⟨b,_⟩ | ⟨rfl,rfl⟩
  ·exact h.ok t d y b
  ·have:=h.ok _ c x j;show 1<=a.id/\(Lit.int .i64 a.id).wf=true/\_;rw [n];exact ⟨this.1,this.2.1,v⟩
theorem aA0 {w:World} {b j:Nat} {vs:Array Value} {t:TypeId} {v:Value} (h:w.heap[b]? = some (R vs t (0,0))) (a:vs[j]? = some v):w.cell? ⟨b,j,none⟩=some v:=(cell_of_row w b j vs t (0,0) h).trans a
theorem aB0 {w:World} {b j:Nat} {vs:Array Value} {t:TypeId} (h:w.heap[b]? = some (R vs t (0,0))):w.frozen? ⟨b,j,none⟩=false:=frozen_of_row w b j vs t h
theorem aJ0 {w:World} {b j:Nat} {vs:Array Value} {t:TypeId} (u:Value) (h:w.heap[b]? = some (R vs t (0,0))):(w.setCell ⟨b,j,none⟩ u).heap[b]? = some (R (vs.setIfInBounds j u) t (0,0)):=heap_setCell_same w b j vs t u h
theorem dQ0 {w:World} {b g:Nat} {vs i:Array Value} {t s:TypeId} {f c:Nat×Nat} (h:w.heap[b]? = some (R vs t f)) (a:w.heap[g]? = some (R i s c)) (d:t≠s):b≠g:=fun e=>by
 subst e;rw [h] at a;injection a with a;injection a with _ a _;exact d a
theorem bC0 {w:World} {base:Nat} {e:TypeId} {b:Nat} {v:Value} {n:Nat} {xs:List Value} (h:w.ownsRow base e b v n xs):∃(c:Option Addr) (a:Nat),v=J c n a/\n<=a/\a<=maxLen:=by
 rcases h.2 with ⟨rfl,rfl⟩ | ⟨g,a,d,rfl,_,_,f,i,_⟩
 ·exact ⟨none,0,rfl,lR7,aO _⟩
 ·exact ⟨some ⟨g,0,none⟩,a,rfl,f,i⟩
theorem aU0 {w w':World} {base:Nat} {e:TypeId} {a:Nat} {v:Value} {n B:Nat} {xs:List Value} (h:w.ownsRow base e a v n xs) (i:Below B w w') (f:w.heap.size<=B):w'.ownsRow base e a v n xs:=by
 refine ⟨h.1,?_⟩;rcases h.2 with k | ⟨g,b,c,rfl,j,d,r⟩
 ·exact .inl k
 ·exact .inr ⟨g,b,c,rfl,j,(i.block g (aT (lt_of_block d) f)).trans d,r⟩
theorem aK0 {S:Nat->Prop} {w w':World} {base:Nat} {e:TypeId} {a:Nat} {v:Value} {n:Nat} {xs:List Value} (h:w.ownsRow base e a v n xs) (i:Out S w w') (f:∀k,v.ownBlock=some k->¬S k):w'.ownsRow base e a v n xs:=by
 refine ⟨h.1,?_⟩;rcases h.2 with l | ⟨g,b,c,rfl,j,d,r⟩
 ·exact .inl l
 ·exact .inr ⟨g,b,c,rfl,j,(i.block g (lt_of_block d) (f g rfl)).trans d,r⟩
theorem aH0 {w:World} {base b:Nat} {e t:TypeId} {a:Nat} {v:Value} {n:Nat} {xs:List Value} {vs:Array Value} {f:Nat×Nat} (h:w.ownsRow base e a v n xs) (j:w.heap[b]? = some (R vs t f)) (l:t≠e):v.ownBlock≠some b:=fun c=>by
 rcases h.2 with ⟨rfl,_⟩ | ⟨g,d,i,rfl,_,k,_⟩
 ·cases c
 ·simp [Value.ownBlock] at c;subst c;exact dQ0 j k l rfl
theorem bP0 {w:World} {base a:Nat} {e j:TypeId} {c b:Nat} {v v':Value} {n r:Nat} {xs i:List Value} (h:w.ownsRow base e c v n xs) (o:w.ownsRow a j b v' r i) (q:e≠j) {k:Nat} (d:v.ownBlock=some k):v'.ownBlock≠some k:=fun f=>by
 rcases h.2 with ⟨rfl,_⟩ | ⟨g,l,m,rfl,_,p,_⟩
 ·cases d
 ·simp [Value.ownBlock] at d;subst d;exact aH0 o p q f
theorem qR0 {w:World} {base:Nat} {e:TypeId} {b:Nat} {a:Option Addr} {i c n:Nat} {xs:List Value} (h:w.ownsRow base e b (J a i c) n xs):i=n:=by
 rcases h.2 with ⟨d,l⟩ | ⟨g,f,j,d,_⟩
 ·injection d with _ k _;omega
 ·injection d with _ k _
theorem mG1 {w:World} {base:Nat} {e:TypeId} {g n a:Nat} {xs:List Value} {x:Value} (h:w.ownsRow base e 1 (J (some ⟨g,0,none⟩) (n+1) a) (n+1) (xs++[x])) (j:xs.length=n):w.ownsRow base e 1 (J (some ⟨g,0,none⟩) n a) n xs:=by
 rcases h.2 with ⟨b,_⟩ | ⟨p,i,c,b,k,l,m,d,f,o⟩
 ·simp at b
 ·simp only [aY,Option.some.injEq,Addr.mk.injEq,and_true,true_and] at b;obtain ⟨rfl,rfl⟩:=b;refine ⟨o7,.inr ⟨g,a,c,rfl,k,l,o7,d,f,?_⟩⟩;have:=congrArg (List.take n) o;rw [List.take_take,<-j,List.take_left] at this;rw [<-j]
  simpa using this
theorem aM0 (w:World) (a:Addr) (u:Value):Out (fun j=>j=a.block) w (w.setCell a u):=⟨rfl,rfl,rfl,by simp,fun j _ b=>cK _ _ _ _ (fun e=>b e)⟩
theorem jD1 (w:World):∀n,(w.drewN n).heap=w.heap:=fun n=>by
 have:∀n (w':World),(w'.drewN n).heap=w'.heap:=fun n=>by
  induction n with
  | zero=>intro w';rfl
  | succ n ih=>intro w';exact ih _
 exact this n w
theorem zK0 {w:World} {b:Nat} {o:Obj} (n:Nat) (h:w.heap[b]? = some o):(w.drewN n).heap[b]? = some o:=by rw [jD1];exact h
theorem aE0 {w w':World} {b B:Nat} {o:Obj} (h:w.heap[b]? = some o) (c:Below B w w') (a:w.heap.size<=B):w'.heap[b]? = some o:=(c.block b (aT (lt_of_block h) a)).trans h
theorem aF0 {S:Nat->Prop} {w w':World} {b:Nat} {o:Obj} (h:w.heap[b]? = some o) (c:Out S w w') (a:¬S b):w'.heap[b]? = some o:=(c.block b (lt_of_block h) a).trans h
theorem bel1 (w:World) (o:Obj):Below w.heap.size w (w.alloc o):=(aF _ _).alloc lR7 o
theorem bel2 (w:World) (o a:Obj):Below w.heap.size w ((w.alloc o).alloc a):=((aF _ _).alloc lR7 o).alloc s7 a
theorem aD0 {w w1 w2:World} (h:Below w.heap.size w w1) (a:Below w1.heap.size w1 w2):Below w.heap.size w w2:=h.trans (a.mono h.size)
theorem gA0 (w:World) (o a:Obj):((w.alloc o).alloc a).heap[w.heap.size]? = some o:=(dD (w.alloc o) a w.heap.size s7).trans (heap_alloc_new w o)
theorem eY0 (w:World) (o o':Obj):((w.alloc o).alloc o').heap[w.heap.size+1]? = some o':=by
 have:=heap_alloc_new (w.alloc o) o'
 rwa [show (w.alloc o).heap.size=w.heap.size+1 by simp] at this
theorem lB0 (w:World):w.drew.heap=w.heap:=rfl
theorem aW0 {S:Nat->Prop} {w w':World} (h:Out S w w'):Out S w w'.drew:=⟨h.os,h.tape,h.output,h.size,h.block⟩
theorem dD0 {S:Nat->Prop} {w w':World} (h:Out S w w') (o:Obj):Out S w (w'.alloc o):=h.trans (Out.of_below (bel1 w' o) lR7) (Went.refl _ _)
theorem aX0 {S:Nat->Prop} {w w1 w2:World} (h:Out S w w1) (a:Out S w1 w2):Out S w w2:=h.trans a (Went.refl _ _)
theorem gP0 {S:Nat->Prop} {w w':World} {p:Addr} {u:Value} (h:Out S w w') (a:w.heap.size<=p.block):Out S w (w'.setCell p u):=h.trans (aM0 w' p u) (fun k hk=>aG (by rw [show k=p.block from hk];exact a))
theorem cU0 {S:Nat->Prop} {w w':World} {p:Addr} {u:Value} (h:Out S w w') (a:S p.block):Out S w (w'.setCell p u):=h.trans (aM0 w' p u) (fun k hk=>aH (by rw [show k=p.block from hk];exact a))
end
end Go.Proofs.YtaelphbianmckaaGreatDoor
namespace Go.Proofs.YtaelphbianmckaaGreatDoor
section
open Go.RowKit
structure ArOr (w:World) (ab:Nat) (most:Int) (vs vf:Value) (rs:List Sot) (fr:List Nat):Prop where
 box:w.heap[ab]? = some (R #[U G most,vs,vf] 297 (0,0))
 slots:w.ownsRow 0 312 7 vs rs.length (soV rs)
 free:w.ownsRow 0 3 1 vf fr.length (frV fr)
def aoB (ab:Nat) (vs vf:Value) (k:Nat):Prop:=k=ab\/vs.ownBlock=some k\/vf.ownBlock=some k
theorem ArOr.below {w w':World} {d:Nat} {a:Int} {vs e:Value} {rs:List Sot} {fr:List Nat} {B:Nat} (h:ArOr w d a vs e rs fr) (c:Below B w w') (b:w.heap.size<=B):ArOr w' d a vs e rs fr:=
 ⟨aE0 h.box c b,aU0 h.slots c b,aU0 h.free c b⟩
theorem ArOr.out {S:Nat->Prop} {w w':World} {b:Nat} {a:Int} {vs e:Value} {rs:List Sot} {fr:List Nat} (h:ArOr w b a vs e rs fr) (d:Out S w w') (c:∀k,aoB b vs e k->¬S k):ArOr w' b a vs e rs fr:=
 ⟨aF0 h.box d (c b (aH rfl)),aK0 h.slots d (fun k hk=>c k (aG (aH hk))),aK0 h.free d (fun k hk=>c k (aG (aG hk)))⟩
theorem ArOr.lt {w:World} {b:Nat} {a:Int} {vs c:Value} {rs:List Sot} {fr:List Nat} (h:ArOr w b a vs c rs fr) {k:Nat} (hk:aoB b vs c k):k<w.heap.size:=by
 rcases hk with rfl | hk | hk
 ·exact lt_of_block h.box
 ·exact (h.slots.lt k hk).2
 ·exact (h.free.lt k hk).2
theorem ArOr.slot {w:World} {d:Nat} {c:Int} {vs t:Value} {rs:List Sot} {fr:List Nat} (h:ArOr w d c vs t rs fr) {k:Nat} {o:Ord} {a:Int} {f:Bool} (hk:k<rs.length) (s:thO (soAt rs k).1=o) (q:(soAt rs k).2=a) (r:(soAt rs k).1.isSome=f):
  ∃g b,vs=J (some ⟨g,0,none⟩) rs.length b/\w.cell? ⟨g,k*7,none⟩=some (U G o.id)/\w.cell? ⟨g,k*7+1,none⟩=some (U G o.side)/\w.cell? ⟨g,k*7+2,none⟩=some (U G o.kind)/\w.cell? ⟨g,k*7+3,none⟩=some (U G o.price)/\w.cell? ⟨g,k*7+4,none⟩=some (U G o.qty)/\w.cell? ⟨g,k*7+5,none⟩=some (U G a)/\w.cell? ⟨g,k*7+6,none⟩=some (.bool f):=by
 subst s q r;obtain ⟨g,b,rfl,_,_⟩:=h.slots.form o7;obtain ⟨e,i,j,l,m,n,p⟩:=mD1 hk;exact ⟨g,b,rfl,(h.slots.cellAt _ o7).trans e,(h.slots.cellAt _ o7).trans i,(h.slots.cellAt _ o7).trans j,(h.slots.cellAt _ o7).trans l,(h.slots.cellAt _ o7).trans m,(h.slots.cellAt _ o7).trans n,(h.slots.cellAt _ o7).trans p⟩
theorem ArOr.has {w:World} {c:Nat} {b:Int} {vs d:Value} {rs:List Sot} {fr:List Nat} (h:ArOr w c b vs d rs fr) {k:Nat} {o:Ord} {a:Int} (hk:soAt rs k=(some o,a)):
  k<rs.length/\∃g cap,vs=J (some ⟨g,0,none⟩) rs.length cap/\w.cell? ⟨g,k*7,none⟩=some (U G o.id)/\w.cell? ⟨g,k*7+1,none⟩=some (U G o.side)/\w.cell? ⟨g,k*7+2,none⟩=some (U G o.kind)/\w.cell? ⟨g,k*7+3,none⟩=some (U G o.price)/\w.cell? ⟨g,k*7+4,none⟩=some (U G o.qty)/\w.cell? ⟨g,k*7+5,none⟩=some (U G a)/\w.cell? ⟨g,k*7+6,none⟩=some (.bool true):=
 ⟨kZ0 hk,h.slot (kZ0 hk) (by rw [hk];rfl) (by rw [hk]) (by rw [hk];rfl)⟩
theorem hC2 (w:World):Calls prog 165 #[U G 100] w
  fun e w'=>e=Y (.tuple #[E (some ⟨w.heap.size,0,none⟩),.nilIface])/\w'=w.alloc (R #[U G 100,J none 0 0,J none 0 0] 297):=by
 go_enter func165,ntmps165;go_wp2;go_ret2;exact ⟨rfl,rfl⟩
theorem sX1 (w:World) (a:Int):ArOr (w.alloc (R #[U G a,J none 0 0,J none 0 0] 297)) w.heap.size a (J none 0 0) (J none 0 0) [] []:=
 ⟨heap_alloc_new w _,aU _ _ _ _,aU _ _ _ _⟩
theorem mH1 (b:Nat) (a:Int) (vs m:Value) (rs:List Sot) (fr:List Nat) (c:Int) (w:World) (h:ArOr w b a vs m rs fr) (s:rs.length<=1000000) (k:(cntO rs:Int)=c) (l:cntO rs+fr.length=rs.length):
  Calls prog 265 #[E (some ⟨b,0,none⟩)] w fun e w'=>e=Y (U G c)/\∃n,w'=w.drewN n:=by
 have p:=aA0 (j:=1) h.box rfl;have q:=aA0 (j:=2) h.box rfl;obtain ⟨o,i,rfl,_,_⟩:=bC0 h.slots;obtain ⟨g,d,rfl,_,_⟩:=bC0 h.free;have f:Hid (c=(rs.length:Int) - fr.length):=by show _=_;omega
 have r:fr.length<=rs.length:=o7;clear h k l;go_enter func265,ntmps265;go_wp2_with fail;go_quiet (fail);go_wp2;go_ret;exact ⟨by rw [f.out];first | rfl | (rw [IntWalk.i64_in _ o7]),⟨_,rfl⟩⟩
theorem xY1 (d:Nat) (c:Int) (vs l:Value) (rs:List Sot) (fr:List Nat) (k:Nat) (o:Ord) (a:Int) (w:World) (h:ArOr w d c vs l rs fr) (hk:soAt rs k=(some o,a)):
  Calls prog 277 #[E (some ⟨d,0,none⟩),.agg #[U G k,U G a]] w
   fun e w'=>Below w.heap.size w w'/\∃(g b:Nat),vs=J (some ⟨g,0,none⟩) rs.length b/\e=Y (E (some ⟨g,k*7,none⟩)):=by
 have m:=aA0 (j:=1) h.box rfl;have lb:=lt_of_block h.box;obtain ⟨i,g,b,rfl,_,_,_,_,_,f,n⟩:=h.has hk;have q:g<w.heap.size:=World.block_lt_of_cell? w _ f;clear h hk;have p:decide ((k:Int)<0)=false:=aD o7;have r:(0:Int)<=(k:Int):=o7;have s:(k:Int)<rs.length:=o7;have t:decide ((rs.length:Int)<=(k:Int))=false:=aD o7;go_enter func277,ntmps277;go_wp2_with fail;go_quiet (fail);go_wp2_with fail;go_quiet (fail);go_wp2_with fail;go_quiet (fail);go_wp2;go_ret;exact ⟨below_drewN (below_drewN (below_drewN (bel1 _ _) _) _) _,g,b,rfl,rfl⟩
theorem zJ1 (i:Nat) (c:Int) (vs r:Value) (rs:List Sot) (fr:List Nat) (k:Nat) (o:Ord) (a:Int) (w:World) (h:ArOr w i c vs r rs fr) (hk:soAt rs k=(some o,a)):
  Calls prog 243 #[E (some ⟨i,0,none⟩),.agg #[U G k,U G a]] w
   fun e w'=>Below w.heap.size w w'/\e=Y (.tuple #[o.agg,.nilIface]):=by
 have d:=hid7 h;have m:=hid7 hk;clear h hk;go_enter func243,ntmps243;go_wp2_with fail;refine (xY1 i c vs r rs fr k o a _ (d.out.below (bel2 _ _ _) lR7) m.out).mono ?_;rintro e w1 ⟨l,g,t,rfl,rfl⟩;have b:=(l.block (w.heap.size+1) s7).trans (eY0 w _ _);have x:=aA0 (j:=0) b rfl;have y:=aA0 (j:=1) b rfl;have z:=aA0 (j:=2) b rfl;have A:=aA0 (j:=3) b rfl;have B:=aA0 (j:=4) b rfl;have K:=aB0 (j:=0) b;have L:=aB0 (j:=1) b;have M:=aB0 (j:=2) b;have N:=aB0 (j:=3) b;have O:=aB0 (j:=4) b;have f:Hid (Below w.heap.size w w1):=aD0 (bel2 w _ _) l;obtain ⟨u,J,n,q,C,D,F,H,I,_,_⟩:=(d.out.below f.out lR7).has m.out;simp only [aY,Option.some.injEq,Addr.mk.injEq,and_true,true_and] at q;obtain ⟨rfl,rfl⟩:=q;have v:g≠w.heap.size+1:=fun e=>aH0 (d.out.below f.out lR7).slots b d7 (by rw [e];rfl)
 clear l b;go_wp2;refine bodyPost_ret (by simp [results,results243,go_sem,x,y,z,A,B];try rfl) rfl ?_;refine ⟨?_,rfl⟩;have s:Below w.heap.size w1 w1:=aF _ _;exact f.out.trans (((((s.setCell (p:=⟨w.heap.size+1,0,none⟩) s7 _).setCell (p:=⟨w.heap.size+1,1,none⟩) s7 _).setCell (p:=⟨w.heap.size+1,2,none⟩) s7 _).setCell (p:=⟨w.heap.size+1,3,none⟩) s7 _).setCell (p:=⟨w.heap.size+1,4,none⟩) s7 _)
theorem hT0 {w:World} {f g n b:Nat} {c:Int} {d:Value} {xs:List Value} {fr:List Nat} (m:w.heap[f]? = some (R #[U G c,J (some ⟨g,0,none⟩) n b,d] 297 (0,0)))
  (l:w.ownsRow 0 312 7 (J (some ⟨g,0,none⟩) n b) n xs) (o:w.ownsRow 0 3 1 d fr.length (frV fr)) (j:Nat) (u:Value):
  (w.setCell ⟨g,j,none⟩ u).heap[f]? = some (R #[U G c,J (some ⟨g,0,none⟩) n b,d] 297 (0,0))
  /\(w.setCell ⟨g,j,none⟩ u).ownsRow 0 312 7 (J (some ⟨g,0,none⟩) n b) n (xs.set j u)/\(w.setCell ⟨g,j,none⟩ u).ownsRow 0 3 1 d fr.length (frV fr)/\Out (fun k=>k=g) w (w.setCell ⟨g,j,none⟩ u):=by
 have i:f≠g:=fun e=>aH0 l m d7 (by rw [e];rfl)
 obtain ⟨p,q⟩:=l.stored j u;exact ⟨(cK _ _ _ _ i).trans m,p,ownsRow_setCell_other (a:=⟨g,j,none⟩) o (bP0 l o d7 rfl) u,Out.of_grown q (fun k hk=>by injection hk with hk;exact hk.symm)⟩
theorem ArOr.raw {w:World} {d g n a:Nat} {b:Int} {c:Value} {xs:List Value} {fr:List Nat} (E:w.heap[d]? = some (R #[U G b,J (some ⟨g,0,none⟩) n a,c] 297 (0,0)))
  (H:w.ownsRow 0 312 7 (J (some ⟨g,0,none⟩) n a) n xs) (F:w.ownsRow 0 3 1 c fr.length (frV fr)) (j:Nat) (u0 u1 u2 u3 u4:Value):
  let w5:=((((w.setCell ⟨g,j,none⟩ u0).setCell ⟨g,j+1,none⟩ u1).setCell ⟨g,j+2,none⟩ u2).setCell ⟨g,j+3,none⟩ u3).setCell ⟨g,j+4,none⟩ u4
  w5.heap[d]? = some (R #[U G b,J (some ⟨g,0,none⟩) n a,c] 297 (0,0))
  /\w5.ownsRow 0 312 7 (J (some ⟨g,0,none⟩) n a) n (((((xs.set j u0).set (j+1) u1).set (j+2) u2).set (j+3) u3).set (j+4) u4)/\w5.ownsRow 0 3 1 c fr.length (frV fr)/\Out (fun k=>k=g) w w5:=by
 obtain ⟨e,f,i,l⟩:=hT0 E H F j u0;obtain ⟨m,o,p,q⟩:=hT0 e f i (j+1) u1;obtain ⟨r,s,t,u⟩:=hT0 m o p (j+2) u2;obtain ⟨v,x,y,z⟩:=hT0 r s t (j+3) u3;obtain ⟨A,B,C,D⟩:=hT0 v x y (j+4) u4;exact ⟨A,B,C,(((l.trans q (Went.refl _ _)).trans u (Went.refl _ _)).trans z (Went.refl _ _)).trans D (Went.refl _ _)⟩
theorem mI1 {l:List Value} {k j:Nat} {v u0 u1 u2 u3 u4:Value} (h:l[j]? = some v) (a:k+4<j):(((((l.set k u0).set (k+1) u1).set (k+2) u2).set (k+3) u3).set (k+4) u4)[j]? = some v:=by
 rw [List.getElem?_set_ne o7,List.getElem?_set_ne o7,List.getElem?_set_ne o7,List.getElem?_set_ne o7,List.getElem?_set_ne o7];exact h
theorem mJ1 {rs:List Sot} {k:Nat} {o:Ord} (hk:k<rs.length):
  ((((((soV rs).set (k*7) (U G o.id)).set (k*7+1) (U G o.side)).set (k*7+2) (U G o.kind)).set (k*7+3) (U G o.price)).set (k*7+4) (U G o.qty)).set (k*7+6) (.bool true)=soV (rs.set k (some o,(soAt rs k).2)):=by
 have e:=mE1 (some o,(soAt rs k).2) hk;obtain ⟨_,_,_,_,_,a,_⟩:=mD1 hk;rw [fR1 (k:=k*7+5) (mI1 a o7)] at e;exact e
theorem sY1 {rs:List Sot} {k:Nat} {o:Ord} (hk:k<rs.length) (b:(soAt rs k).1.isSome=true):
  (((((soV rs).set (k*7) (U G o.id)).set (k*7+1) (U G o.side)).set (k*7+2) (U G o.kind)).set (k*7+3) (U G o.price)).set (k*7+4) (U G o.qty)=soV (rs.set k (some o,(soAt rs k).2)):=by
 have e:=mJ1 (o:=o) hk;obtain ⟨_,_,_,_,_,_,a⟩:=mD1 hk;rw [b] at a;rw [fR1 (k:=k*7+6) (mI1 a o7)] at e;exact e
theorem ArOr.setThing {w:World} {c g n b k:Nat} {a:Int} {x:Ord} {d:Value} {rs:List Sot} {fr:List Nat} (h:ArOr w c a (J (some ⟨g,0,none⟩) n b) d rs fr) (hk:k<rs.length) (m:(soAt rs k).1.isSome=true):
  ArOr (((((w.setCell ⟨g,k*7,none⟩ (U G x.id)).setCell ⟨g,k*7+1,none⟩ (U G x.side)).setCell ⟨g,k*7+2,none⟩ (U G x.kind)).setCell ⟨g,k*7+3,none⟩ (U G x.price)).setCell ⟨g,k*7+4,none⟩ (U G x.qty)) c a (J (some ⟨g,0,none⟩) n b) d (rs.set k (some x,(soAt rs k).2)) fr
  /\Out (fun j=>j=g) w (((((w.setCell ⟨g,k*7,none⟩ (U G x.id)).setCell ⟨g,k*7+1,none⟩ (U G x.side)).setCell ⟨g,k*7+2,none⟩ (U G x.kind)).setCell ⟨g,k*7+3,none⟩ (U G x.price)).setCell ⟨g,k*7+4,none⟩ (U G x.qty)):=by
 obtain rfl:=qR0 h.slots;obtain ⟨e,f,i,l⟩:=ArOr.raw h.box h.slots h.free (k*7) (U G x.id) (U G x.side) (U G x.kind) (U G x.price) (U G x.qty);refine ⟨⟨e,?_,i⟩,l⟩;rw [fP,<-sY1 hk m];exact f
theorem ArOr.pop {w:World} {c g n a k:Nat} {b:Int} {vs:Value} {rs:List Sot} {fs:List Nat} (h:ArOr w c b vs (J (some ⟨g,0,none⟩) n a) rs (fs++[k])):
  ArOr (w.setCell ⟨c,2,none⟩ (J (some ⟨g,0,none⟩) fs.length a)) c b vs (J (some ⟨g,0,none⟩) fs.length a) rs fs/\Out (fun j=>j=c) w (w.setCell ⟨c,2,none⟩ (J (some ⟨g,0,none⟩) fs.length a)):=by
 have e:=h.free;obtain rfl:=qR0 h.free;rw [aN,bD,fS1] at e;have d:=mG1 e (iZ1 fs);refine ⟨⟨by simpa using aJ0 (j:=2) (J (some ⟨g,0,none⟩) fs.length a) h.box,ownsRow_setCell_other h.slots (aH0 h.slots h.box d7) _,ownsRow_setCell_other d (aH0 d h.box d7) _⟩,?_⟩;exact aM0 _ ⟨c,2,none⟩ _
theorem infoSlotO:(prog.info? 312).map (fun i=>(i.zero,i.size,i.bytes))=some (some (.agg #[U G 0,U G 0,U G 0,U G 0,U G 0,U G 0,.bool false]),7,56):=k7
theorem infoNumO:(prog.info? 3).map (fun i=>(i.zero,i.size,i.bytes))=some (some (U G 0),1,8):=k7
theorem dL1 (b:Nat) (a:Int) (vs c:Value) (rs:List Sot) (fs:List Nat) (k:Nat) (w:World) (h:ArOr w b a vs c rs (fs++[k])) (r:fs.length<=1000000):
  Calls prog 290 #[E (some ⟨b,0,none⟩)] w
   fun e w'=>e=Y (U G k)/\∃vf',ArOr w' b a vs vf' rs fs/\Out (aoB b vs c) w w'/\vf'.ownBlock=c.ownBlock:=by
 obtain ⟨g,cap,rfl,_,_⟩:=h.free.form s7;have f:=hid7 h;have i:=aA0 (j:=2) h.box rfl;have q:=aB0 (j:=2) h.box;have p:=(h.free.cellAt fs.length s7).trans (zF1 fs k)
 have d:fs.length+1<=cap:=by
  obtain ⟨_,_,e,l,_⟩:=bC0 h.free;simp at e l;omega
 clear h;rw [aN,bD] at i;have s:(0:Int)<=(fs.length:Int):=o7;have t:(fs.length:Int)<(fs.length:Int)+1:=o7;go_enter func290,ntmps290;go_wp2;go_ret;obtain ⟨n,o⟩:=f.out.pop;exact ⟨rfl,_,n,o.mono (fun j m=>aH m),rfl⟩
theorem ArOr.push {w w1:World} {b g a H:Nat} {c:Int} {vs e:Value} {rs:List Sot} {fr:List Nat} {o:Obj} {p:Sot} (h:ArOr w b c vs e rs fr)
  (f:w1.ownsRow 0 312 7 (J (some ⟨g,0,none⟩) (rs.length+1) a) (rs.length+1) (soV (rs++[p]))) (n:(w.alloc o).grownBy w1 vs.ownBlock) (d:vs.ownBlock=some g\/g=H) (r:w.heap.size<=H):
  ArOr (w1.setCell ⟨b,1,none⟩ (J (some ⟨g,0,none⟩) (rs.length+1) a)) b c (J (some ⟨g,0,none⟩) (rs.length+1) a) e (rs++[p]) fr
  /\Out (aoB b vs e) w (w1.setCell ⟨b,1,none⟩ (J (some ⟨g,0,none⟩) (rs.length+1) a))/\Went w (aoB b vs e) (aoB b (J (some ⟨g,0,none⟩) (rs.length+1) a) e):=by
 have l:Out (fun k=>vs.ownBlock=some k) w w1:=(Out.of_below (bel1 w o) lR7).trans (Out.of_grown n (fun k hk=>hk)) (Went.refl _ _);have i:w1.heap[b]? = some (R #[U G c,vs,e] 297 (0,0)):=aF0 h.box l (aH0 h.slots h.box d7);have m:w1.ownsRow 0 3 1 e fr.length (frV fr):=aK0 h.free l (fun k hk=>bP0 h.free h.slots d7 hk);have q:=aM0 w1 ⟨b,1,none⟩ (J (some ⟨g,0,none⟩) (rs.length+1) a);refine ⟨⟨by simpa using aJ0 (j:=1) (J (some ⟨g,0,none⟩) (rs.length+1) a) i,?_,ownsRow_setCell_other m (aH0 m i d7) _⟩,?_,?_⟩
 ·rw [aN,bD];exact ownsRow_setCell_other f (aH0 f i d7) _
 ·exact (l.mono (S':=aoB b vs e) (fun k hk=>aG (aH hk))).trans (q.mono (S':=aoB b vs e) (fun k hk=>aH hk)) (Went.refl _ _)
 ·rintro k (rfl | hk | hk)
  ·exact aH (aH rfl)
  ·injection hk with hk
   change g=k at hk
   subst hk;rcases d with d | d
   ·exact aH (aG (aH d))
   ·exact aG o7
  ·exact aH (aG (aG hk))
theorem jE1 (b:Nat) (c:Int) (vs k:Value) (rs:List Sot) (w:World) (h:ArOr w b c vs k rs []) (H:rs.length<=1000000):
  Calls prog 290 #[E (some ⟨b,0,none⟩)] w
   fun e w'=>e=Y (U G rs.length)/\∃vs',ArOr w' b c vs' k (rs++[(none,0)]) []/\Out (aoB b vs k) w w'/\Went w (aoB b vs k) (aoB b vs' k):=by
 obtain ⟨y,hi,o,q,r⟩:=info_parts infoSlotO;have l:=hid7 h;have D:=aA0 (j:=1) h.box rfl;have u:=aA0 (j:=2) h.box rfl;have lb:=lt_of_block h.box;have s:Hid (vs.ownBlock≠some b):=aH0 h.slots h.box d7;obtain ⟨C,v,rfl,_,_⟩:=bC0 h.free;simp only [cU] at u l;obtain ⟨m,d,rfl,_,_⟩:=bC0 h.slots;clear h;go_enter func290,ntmps290;go_wp2_with (at_builtin;go_loud (refine wpList_append_lies _ rfl _ _ 295 rfl 0 312 y (.agg #[U G 0,U G 0,U G 0,U G 0,U G 0,U G 0,.bool false]) 7 56 underlying295 hi o q r rfl d7 (J m rs.length d) rs.length (soV rs) rfl (l.out.slots.alloc _) ⟨w.heap.size,0,none⟩ 1 1 [U G 0,U G 0,U G 0,U G 0,U G 0,U G 0,.bool false] rfl rfl (bJ (cs:=#[U G 0,U G 0,U G 0,U G 0,U G 0,U G 0,.bool false]) (t:=312) (fr:=(0,0)) (heap_alloc_new w _)) (by simp [Value.oneCell']) d7 (by unfold maxLen;omega) o7 (aO _) (w.heap.size+1) s7 ?_);intro g F w1 i a n x;have f:=(a.block b (by simp;omega) (Ne.symm s.out)).trans ((dD _ _ _ lb).trans l.out.box);have I:=aA0 (j:=1) f rfl;have K:=aB0 (j:=1) f);go_ret;obtain ⟨z,A,B⟩:=l.out.push (p:=(none,0)) (by rw [jA1];exact i) a n o7;exact ⟨by first | rfl | (apply congrArg;go_num),_,z,A,B⟩
theorem dY2 (d:Nat) (a:Int) (vs g:Value) (rs:List Sot) (fr:List Nat) (k:Nat) (l:List Sot) (f:List Nat) (w:World) (h:ArOr w d a vs g rs fr) (p:dK1 rs fr k l f) (r:rs.length<=1000000) (q:fr.length<=1000000):
  Calls prog 290 #[E (some ⟨d,0,none⟩)] w
   fun e w'=>e=Y (U G k)/\∃c b,ArOr w' d a c b l f/\Out (aoB d vs g) w w'/\Went w (aoB d vs g) (aoB d c b):=by
 rcases p with ⟨rfl,rfl⟩ | ⟨rfl,rfl,rfl,rfl⟩
 ·refine (dL1 d a vs g _ f k w h (by simp at q;omega)).mono ?_;rintro e w1 ⟨rfl,b,m,n,o⟩;refine ⟨rfl,vs,b,m,n,?_⟩;rintro j (i | i | i)
  ·exact aH (aH i)
  ·exact aH (aG (aH i))
  ·exact aH (aG (aG (o ▸ i)))
 ·refine (jE1 d a vs g _ w h r).mono ?_;rintro e w1 ⟨rfl,c,m,n,o⟩;exact ⟨rfl,c,g,m,n,o⟩
theorem jF1 (b:Nat) (a:Int) (vs d:Value) (rs:List Sot) (fr:List Nat) (x:Ord) (w:World) (h:ArOr w b a vs d rs fr) (i:rs.length<=1000000) (k:cntO rs+fr.length=rs.length) (c:(cntO rs:Int)=a):
  Calls prog 274 #[E (some ⟨b,0,none⟩),x.agg] w
   fun e w'=>e=Y (.tuple #[.agg #[U G 0,U G 0],.iface 26 (U G 12)])/\Below w.heap.size w w':=by
 have f:=hid7 h;have l:=aA0 (j:=0) h.box rfl;have lb:=lt_of_block h.box;have g:=hid7 c;clear h c;unfold Ord.agg;go_enter func274,ntmps274;go_wp2_with fail;go_quiet (first | (go_at_call 265;refine Calls.quiet_of (mH1 b a vs d rs fr a _ (f.out.below (below_drewN (bel2 _ _ _) _) lR7) i g.out k)));go_wp2;refine bodyPost_ret (by simp [results,results274,go_sem];try rfl) rfl ?_;exact ⟨rfl,((below_drewN (bel2 _ _ _) _).setCell s7 _).setCell s7 _⟩
theorem ArOr.putThing {w:World} {c g n b k:Nat} {a:Int} {x:Ord} {d:Value} {rs:List Sot} {fr:List Nat} (h:ArOr w c a (J (some ⟨g,0,none⟩) n b) d rs fr) (hk:k<rs.length):
  ArOr ((((((w.setCell ⟨g,k*7,none⟩ (U G x.id)).setCell ⟨g,k*7+1,none⟩ (U G x.side)).setCell ⟨g,k*7+2,none⟩ (U G x.kind)).setCell ⟨g,k*7+3,none⟩ (U G x.price)).setCell ⟨g,k*7+4,none⟩ (U G x.qty)).setCell ⟨g,k*7+6,none⟩ (.bool true)) c a (J (some ⟨g,0,none⟩) n b) d (rs.set k (some x,(soAt rs k).2)) fr
  /\Out (fun j=>j=g) w ((((((w.setCell ⟨g,k*7,none⟩ (U G x.id)).setCell ⟨g,k*7+1,none⟩ (U G x.side)).setCell ⟨g,k*7+2,none⟩ (U G x.kind)).setCell ⟨g,k*7+3,none⟩ (U G x.price)).setCell ⟨g,k*7+4,none⟩ (U G x.qty)).setCell ⟨g,k*7+6,none⟩ (.bool true)):=by
 obtain rfl:=qR0 h.slots;obtain ⟨m,o,p,q⟩:=ArOr.raw h.box h.slots h.free (k*7) (U G x.id) (U G x.side) (U G x.kind) (U G x.price) (U G x.qty);obtain ⟨e,f,i,l⟩:=hT0 m o p (k*7+6) (.bool true);refine ⟨⟨e,?_,i⟩,q.trans l (Went.refl _ _)⟩;rw [fP,<-mJ1 hk];exact f
theorem hD2 (l:Nat) (b:Int) (vs v:Value) (rs:List Sot) (fr:List Nat) (x:Ord) (k:Nat) (a:List Sot) (m:List Nat) (w:World) (h:ArOr w l b vs v rs fr) (Q:rs.length<=1000000) (hs:cntO rs+fr.length=rs.length) (S:¬(cntO rs:Int)=b)
  (P:dK1 rs fr k a m) (hk:k<a.length):
  Calls prog 274 #[E (some ⟨l,0,none⟩),x.agg] w
   fun e w'=>e=Y (.tuple #[.agg #[U G k,U G (soAt a k).2],.nilIface])/\∃r i,ArOr w' l b r i (a.set k (some x,(soAt a k).2)) m/\Out (aoB l vs v) w w'/\Went w (aoB l vs v) (aoB l r i):=by
 have s:=hid7 h;have HR:=hid7 P;have c0:=aA0 (j:=0) h.box rfl;have lb:=lt_of_block h.box;have K:=aC.2 S;clear h S P;unfold Ord.agg;go_enter func274,ntmps274;go_wp2_with fail;go_quiet (first | (go_at_call 265;refine Calls.quiet_of (mH1 l b vs v rs fr (cntO rs) _ (s.out.below (below_drewN (bel2 _ _ _) _) lR7) Q rfl hs)));go_wp2_with fail;have n:=below_drewN (bel2 w (R #[U G x.id,U G x.side,U G x.kind,U G x.price,U G x.qty] 92) (R #[U G 0,U G 0] 240)) nq;have q:=zK0 nq (gA0 w (R #[U G x.id,U G x.side,U G x.kind,U G x.price,U G x.qty] 92) (R #[U G 0,U G 0] 240));have p:=zK0 nq (eY0 w (R #[U G x.id,U G x.side,U G x.kind,U G x.price,U G x.qty] 92) (R #[U G 0,U G 0] 240));generalize ((w.alloc (R #[U G x.id,U G x.side,U G x.kind,U G x.price,U G x.qty] 92)).alloc (R #[U G 0,U G 0] 240)).drewN nq=wq at n q p ⊢;have t:=hid7 n;have F:=hid7 q;have u:=hid7 p;clear n q p K c0;refine (dY2 l b vs v rs fr k a m wq (s.out.below t.out lR7) HR.out Q o7).mono ?_;rintro e w1 ⟨rfl,r,i,f,y,O⟩;obtain ⟨g,H,rfl,d0,d1,d2,d3,d4,d5,d6⟩:=f.slot hk rfl rfl rfl;have f0:=f.slots.frozenAt (k*7);have f1:=f.slots.frozenAt (k*7+1);have f2:=f.slots.frozenAt (k*7+2);have f3:=f.slots.frozenAt (k*7+3);have f4:=f.slots.frozenAt (k*7+4);have f6:=f.slots.frozenAt (k*7+6);have c:=aF0 F.out y (fun e=>by have:=s.out.lt e;omega);have o:=aF0 u.out y (fun e=>by have:=s.out.lt e;omega);have L:w.heap.size+1≠g:=fun e=>aH0 f.slots o d7 (by rw [e];rfl)
 have T:w.heap.size≠g:=fun e=>aH0 f.slots c d7 (by rw [e];rfl)
 have z0:=aA0 (j:=0) c rfl;have z1:=aA0 (j:=1) c rfl;have z2:=aA0 (j:=2) c rfl;have z3:=aA0 (j:=3) c rfl;have z4:=aA0 (j:=4) c rfl;have c1:=aA0 (j:=1) f.box rfl;have D:=hid7 o;have X:=hid7 f;have Z:=hid7 y;have C:=hid7 O;clear f y O o c;have q1:(0:Int)<=(k:Int):=o7;have q2:(k:Int)<a.length:=o7;go_upto_region 6 with fail;obtain ⟨A,B⟩:=X.out.putThing (x:=x) hk;have lq:=lt_of_block u.out;have d:=aF0 D.out B (fun e=>L e);generalize ((((((w1.setCell ⟨g,k*7,none⟩ (U G x.id)).setCell ⟨g,k*7+1,none⟩ (U G x.side)).setCell ⟨g,k*7+2,none⟩ (U G x.kind)).setCell ⟨g,k*7+3,none⟩ (U G x.price)).setCell ⟨g,k*7+4,none⟩ (U G x.qty)).setCell ⟨g,k*7+6,none⟩ (.bool true))=wz at A B d ⊢;obtain ⟨_,g',N,V,_,_,_,_,_,e5,_⟩:=A.has (dY0 _ hk);simp only [aY,Option.some.injEq,Addr.mk.injEq,and_true] at V;obtain ⟨rfl,_,rfl⟩:=V;have R1:Hid _:=A;have R2:Hid _:=B;have x0:=aA0 (j:=0) d rfl;have x1:=aA0 (j:=1) d rfl;have y0:=aB0 (j:=0) d;have y1:=aB0 (j:=1) d;clear d0 d1 d2 d3 d4 d5 d6 f0 f1 f2 f3 f4 f6 z0 z1 z2 z3 z4 c1 A B d q1 q2;go_wp2;refine bodyPost_ret (by simp [results,results274,go_sem,x0,x1];try rfl) rfl ?_
 have M:∀j,aoB l (J (some ⟨g,0,none⟩) a.length H) i j->¬j=w.heap.size+1:=fun j I e=>by
  rcases C.out j I with z | z
  ·have:=s.out.lt z;omega
  ·omega
 have s1:=aM0 wz ⟨w.heap.size+1,0,none⟩ (U G k);have s2:=aM0 (wz.setCell ⟨w.heap.size+1,0,none⟩ (U G k)) ⟨w.heap.size+1,1,none⟩ (U G (soAt a k).2);have W:=s1.trans s2 (Went.refl _ _);refine ⟨rfl,_,i,R1.out.out W M,?_,fun j I=>(C.out j I).imp id (fun z=>by omega)⟩;refine ((((Out.of_below t.out lR7).trans Z.out (Went.refl _ _)).trans R2.out ?_).trans W ?_)
 ·rintro j rfl;exact (C.out j (aG (aH rfl))).imp id (fun z=>by omega)
 ·rintro j rfl;exact aG s7
theorem zK1 {P:Program} {id:Nat} {Q:Exit->Act->World->Prop} {a:Act} {w:World} {l:List Oper} (n:Nat) (d:P.follows .mixedOrders=true) (c:Region.lexTailB .any l.toArray n=true)
  (h:wpStill P l.toArray w.drew (fun b=>wpList P l.toArray Q (l.drop n) b w.drew) (l.take n) a):(Code.region id l.toArray true).wp P Q a w:=wp_region_still_tail n d c h
def mK1 (w:World) (g k:Nat) (a:Int):World:=((((((w.setCell ⟨g,k*7,none⟩ (U G 0)).setCell ⟨g,k*7+1,none⟩ (U G 0)).setCell ⟨g,k*7+2,none⟩ (U G 0)).setCell ⟨g,k*7+3,none⟩ (U G 0)).setCell ⟨g,k*7+4,none⟩ (U G 0)).setCell ⟨g,k*7+5,none⟩ (U G a)).setCell ⟨g,k*7+6,none⟩ (.bool false)
theorem ArOr.clear {w:World} {d g n c k:Nat} {b a:Int} {f:Value} {rs:List Sot} {fr:List Nat} (h:ArOr w d b (J (some ⟨g,0,none⟩) n c) f rs fr) (hk:k<rs.length):
  ArOr (mK1 w g k a) d b (J (some ⟨g,0,none⟩) n c) f (rs.set k (none,a)) fr/\Out (fun j=>j=g) w (mK1 w g k a):=by
 obtain rfl:=qR0 h.slots;obtain ⟨p,q,r,s⟩:=ArOr.raw h.box h.slots h.free (k*7) (U G 0) (U G 0) (U G 0) (U G 0) (U G 0);obtain ⟨i,l,m,o⟩:=hT0 p q r (k*7+5) (U G a);obtain ⟨t,u,v,x⟩:=hT0 i l m (k*7+6) (.bool false);refine ⟨⟨t,?_,v⟩,(s.trans o (Went.refl _ _)).trans x (Went.refl _ _)⟩;have e:=mE1 (none,a) hk;rw [fP,<-e];exact u
theorem fU1 (w:World) (b:Nat) (u0 u1 u2 u3 u4:Value):Out (fun j=>j=b) w (((((w.setCell ⟨b,0,none⟩ u0).setCell ⟨b,1,none⟩ u1).setCell ⟨b,2,none⟩ u2).setCell ⟨b,3,none⟩ u3).setCell ⟨b,4,none⟩ u4):=
 ((((aM0 w ⟨b,0,none⟩ u0).trans (aM0 _ ⟨b,1,none⟩ u1) (Went.refl _ _)).trans (aM0 _ ⟨b,2,none⟩ u2) (Went.refl _ _)).trans (aM0 _ ⟨b,3,none⟩ u3) (Went.refl _ _)).trans (aM0 _ ⟨b,4,none⟩ u4) (Went.refl _ _)
theorem ArOr.freed {w w1:World} {b g a k H:Nat} {c:Int} {vs e:Value} {rs:List Sot} {fr:List Nat} {o:Obj} (h:ArOr w b c vs e rs fr)
  (f:w1.ownsRow 0 3 1 (J (some ⟨g,0,none⟩) (fr.length+1) a) (fr.length+1) (frV (fr++[k]))) (n:(w.alloc o).grownBy w1 e.ownBlock) (d:e.ownBlock=some g\/g=H) (q:w.heap.size<=H):
  ArOr (w1.setCell ⟨b,2,none⟩ (J (some ⟨g,0,none⟩) (fr.length+1) a)) b c vs (J (some ⟨g,0,none⟩) (fr.length+1) a) rs (fr++[k])
  /\Out (aoB b vs e) w (w1.setCell ⟨b,2,none⟩ (J (some ⟨g,0,none⟩) (fr.length+1) a))/\Went w (aoB b vs e) (aoB b vs (J (some ⟨g,0,none⟩) (fr.length+1) a)):=by
 have l:Out (fun k=>e.ownBlock=some k) w w1:=(Out.of_below (bel1 w o) lR7).trans (Out.of_grown n (fun k hk=>hk)) (Went.refl _ _);have i:w1.heap[b]? = some (R #[U G c,vs,e] 297 (0,0)):=aF0 h.box l (aH0 h.free h.box d7);have m:w1.ownsRow 0 312 7 vs rs.length (soV rs):=aK0 h.slots l (fun k hk=>bP0 h.slots h.free d7 hk);have p:=aM0 w1 ⟨b,2,none⟩ (J (some ⟨g,0,none⟩) (fr.length+1) a);refine ⟨⟨by simpa using aJ0 (j:=2) (J (some ⟨g,0,none⟩) (fr.length+1) a) i,ownsRow_setCell_other m (aH0 m i d7) _,?_⟩,?_,?_⟩
 ·rw [aN,bD];exact ownsRow_setCell_other f (aH0 f i d7) _
 ·exact (l.mono (S':=aoB b vs e) (fun k hk=>aG (aG hk))).trans (p.mono (S':=aoB b vs e) (fun k hk=>aH hk)) (Went.refl _ _)
 ·rintro k (rfl | hk | hk)
  ·exact aH (aH rfl)
  ·exact aH (aG (aH hk))
  ·injection hk with hk
   change g=k at hk
   subst hk;rcases d with d | d
   ·exact aH (aG (aG d))
   ·exact aG o7
theorem dZ2 (ab:Nat) (d:Int) (vs vf:Value) (rs:List Sot) (fr:List Nat) (k:Nat) (o:Ord) (a:Int) (w:World) (h:ArOr w ab d vs vf rs fr) (hk:soAt rs k=(some o,a)) (hl:rs.length<=1000000) (b2:fr.length<=rs.length) (K:0<=a/\a<=1000000):
  Calls prog 173 #[E (some ⟨ab,0,none⟩),.agg #[U G k,U G a]] w
   fun e w'=>e=Y (.tuple #[o.agg,.nilIface])/\∃vf',ArOr w' ab d vs vf' (rs.set k (none,a+1)) (fr++[k])/\Out (aoB ab vs vf) w w'/\Went w (aoB ab vs vf) (aoB ab vs vf'):=by
 obtain ⟨i0,hi,a8,a9,b0⟩:=info_parts infoNumO;have Q:=hid7 h;have HK:=hid7 hk;have HG:=hid7 K;clear h K hk;go_enter func173,ntmps173;go_wp2_with fail;refine (zJ1 ab d vs vf rs fr k o a _ (Q.out.below (bel2 _ _ _) lR7) HK.out).mono ?_;rintro e w1 ⟨X,rfl⟩;have B:=(X.block (w.heap.size) (by simp;omega)).trans (gA0 w _ _);have D:=(X.block (w.heap.size+1) s7).trans (eY0 w _ _);have a0:Hid _:=D;have HB:Hid (Below w.heap.size w w1):=aD0 (bel2 w _ _) X;unfold Ord.agg;go_upto_region 4 with fail;have B:=aE0 B (bel1 w1 (R #[U G o.id,U G o.side,U G o.kind,U G o.price,U G o.qty] 92)) lR7;have D:=aE0 D (bel1 w1 (R #[U G o.id,U G o.side,U G o.kind,U G o.price,U G o.qty] 92)) lR7;have Z:=heap_alloc_new w1 (R #[U G o.id,U G o.side,U G o.kind,U G o.price,U G o.qty] 92);have z:Hid (Below w.heap.size w (w1.alloc (R #[U G o.id,U G o.side,U G o.kind,U G o.price,U G o.qty] 92))):=aD0 HB.out (bel1 _ _);generalize w1.alloc (R #[U G o.id,U G o.side,U G o.kind,U G o.price,U G o.qty] 92)=wa at B D Z z ⊢;have q:w.heap.size<=w1.heap.size:=HB.out.size;have r:w1.heap.size≠w.heap.size+1:=fun e=>by have:=lt_of_block a0.out;omega
 generalize w1.heap.size=xb at Z q r ⊢;have a1:=hid7 q;have a2:=hid7 r;clear X HB q r;have HH:=hid7 B;have HR:=hid7 D;have HX:=hid7 Z;have i:Hid (ArOr wa ab d vs vf rs fr):=Q.out.below z.out lR7;obtain ⟨a5,g,m,rfl,d0,d1,d2,d3,d4,d5,d6⟩:=i.out.has HK.out;have x0:=aA0 (j:=0) B rfl;have x1:=aA0 (j:=1) B rfl;have c1:=aA0 (j:=1) i.out.box rfl;have f0:=i.out.slots.frozenAt (k*7);have f1:=i.out.slots.frozenAt (k*7+1);have f2:=i.out.slots.frozenAt (k*7+2);have f3:=i.out.slots.frozenAt (k*7+3);have f4:=i.out.slots.frozenAt (k*7+4);have f5:=i.out.slots.frozenAt (k*7+5);have f6:=i.out.slots.frozenAt (k*7+6);have q0:IntKind.i64.wrap (a+1)=a+1:=IntWalk.i64_in _ (by have:=HG.out;omega);have q1:(0:Int)<=(k:Int):=o7;have q2:(k:Int)<rs.length:=o7;clear B D Z;refine zK1 11 k7 k7 ?_;simp only [List.take_succ_cons,List.take_zero,List.drop_succ_cons,List.drop_zero]
 repeat still_step
 try refine wpStill_nil ?_
 go_upto_region 5 with fail;obtain ⟨y,n⟩:=i.out.clear (a:=a+1) a5;unfold mK1 at y n;generalize a7:((((((wa.setCell ⟨g,k*7,none⟩ (U G 0)).setCell ⟨g,k*7+1,none⟩ (U G 0)).setCell ⟨g,k*7+2,none⟩ (U G 0)).setCell ⟨g,k*7+3,none⟩ (U G 0)).setCell ⟨g,k*7+4,none⟩ (U G 0)).setCell ⟨g,k*7+5,none⟩ (U G (a+1))).setCell ⟨g,k*7+6,none⟩ (.bool false)=w2 at y n ⊢;clear a7;have M:=aF0 HH.out n (fun e=>aH0 i.out.slots HH.out d7 (by rw [e];rfl));have O:=aF0 HR.out n (fun e=>aH0 i.out.slots HR.out d7 (by rw [e];rfl));have P:=aF0 HX.out n (fun e=>aH0 i.out.slots HX.out d7 (by rw [e];rfl));have l:Hid (ArOr w2.drew ab d (J (some ⟨g,0,none⟩) rs.length m) vf (rs.set k (none,a+1)) fr):=y.below (aF w2.heap.size w2).drew lR7;have F:Hid (Out (aoB ab (J (some ⟨g,0,none⟩) rs.length m) vf) wa w2.drew):=(n.mono (S':=aoB ab (J (some ⟨g,0,none⟩) rs.length m) vf) (fun j C=>aG (aH (by rw [C];rfl)))).trans (Out.of_below (aF w2.heap.size w2).drew lR7) (Went.refl _ _);have s:Hid (w2.drew.heap[w.heap.size]? = some (R #[U G k,U G a] 240 (0,0))):=M;have u:Hid (w2.drew.heap[w.heap.size+1]? = some (R #[U G 0,U G 0,U G 0,U G 0,U G 0] 92 (0,0))):=O;have v:Hid (w2.drew.heap[xb]? = some (R #[U G o.id,U G o.side,U G o.kind,U G o.price,U G o.qty] 92 (0,0))):=P;clear y n M O P d0 d1 d2 d3 d4 d5 d6 x0 x1 c1 f0 f1 f2 f3 f4 f5 f6 q0 q1 q2;generalize w2.drew=w3 at l F s u v ⊢;have y0:w3.cell? ⟨w.heap.size,0,none⟩=some (.int .i64 k):=aA0 (j:=0) s.out rfl;have ly:=lt_of_block s.out;have z2:w3.cell? ⟨ab,2,none⟩=some vf:=aA0 (j:=2) l.out.box rfl;have lz:=lt_of_block l.out.box;have A1:vf.ownBlock≠some ab:=aH0 l.out.free l.out.box d7;have A2:vf.ownBlock≠some w.heap.size:=aH0 l.out.free s.out d7;have A3:vf.ownBlock≠some (w.heap.size+1):=aH0 l.out.free u.out d7;have A4:vf.ownBlock≠some xb:=aH0 l.out.free v.out d7;have lr:=lt_of_block u.out;have lx:=lt_of_block v.out;obtain ⟨V,T,rfl,_,_⟩:=bC0 l.out.free;have fz:w3.frozen? ⟨ab,2,none⟩=false:=aB0 l.out.box;have fy:(w3.alloc (R #[U G k] 3)).drew.frozen? ⟨ab,2,none⟩=false:=((((aF w3.heap.size w3).alloc lR7 _).drew).frozen (p:=⟨ab,2,none⟩) lz).trans fz;go_region_law ((refine step_append_lies _ r7 _ _ _ r7 0 3 i0 (U G 0) 1 8 underlying59 hi a8 a9 b0 rfl o7 (J V fr.length T) fr.length (frV fr) r7 ((l.out.free.alloc _).drew) ⟨w3.heap.size,0,none⟩ 1 1 [U G k] r7 r7 (bJ (cs:=#[U G k]) (t:=3) (fr:=(0,0)) (heap_alloc_new w3 _)) (by simp [Value.oneCell']) o7 (by unfold maxLen;omega) o7 (aO _) (w3.heap.size+1) s7 ?_;intro g2 I w4 x b L a6;have A:=(b.block ab (by simp;omega) (Ne.symm A1)).trans ((((aF w3.heap.size w3).alloc lR7 _).drew.block ab lz).trans l.out.box);have z4:=aA0 (j:=2) A rfl;have z5:=aB0 (j:=2) A))
 all_goals go_upto_region 6 with fail
 all_goals obtain ⟨y,n,r3⟩:=l.out.freed (k:=k) (by rw [fS1];exact x) ⟨b.os,b.tape,b.output,b.size,b.block⟩ L o7
 all_goals have N:∀j,(w.heap.size<=j)->¬aoB ab (J (some ⟨g,0,none⟩) rs.length m) (J V fr.length T) j:=fun j C e=>by have:=Q.out.lt e;omega
 all_goals have c:=aF0 u.out n (N _ o7)
 all_goals have f:=aF0 v.out n (N _ (a1.out))
 all_goals generalize w4.setCell ⟨ab,2,none⟩ (J (some ⟨g2,0,none⟩) (fr.length+1) I)=w5 at y n r3 c f ⊢
 all_goals have R1:Hid _:=y
 all_goals have R2:Hid _:=n
 all_goals have R3:Hid _:=r3
 all_goals have b3:xb≠w.heap.size+1:=a2.out
 all_goals have e0:=aA0 (j:=0) f rfl
 all_goals have e1:=aA0 (j:=1) f rfl
 all_goals have e2:=aA0 (j:=2) f rfl
 all_goals have e3:=aA0 (j:=3) f rfl
 all_goals have e4:=aA0 (j:=4) f rfl
 all_goals have u0:=aA0 (j:=0) c rfl
 all_goals have u1:=aA0 (j:=1) c rfl
 all_goals have u2:=aA0 (j:=2) c rfl
 all_goals have u3:=aA0 (j:=3) c rfl
 all_goals have u4:=aA0 (j:=4) c rfl
 all_goals have v0:=aB0 (j:=0) c
 all_goals have v1:=aB0 (j:=1) c
 all_goals have v2:=aB0 (j:=2) c
 all_goals have v3:=aB0 (j:=3) c
 all_goals have v4:=aB0 (j:=4) c
 all_goals clear y n r3 c f x b L a6 A z4 z5 fy fz z2 y0
 all_goals go_wp2
 all_goals refine bodyPost_ret (by simp [results,results173,go_sem,u0,u1,u2,u3,u4];try rfl) rfl ?_
 all_goals have s3:=fU1 w5 (w.heap.size+1) (U G o.id) (U G o.side) (U G o.kind) (U G o.price) (U G o.qty)
 all_goals have a4:=Out.of_below (S:=aoB ab (J (some ⟨g,0,none⟩) rs.length m) (J V fr.length T)) z.out lR7
 all_goals have H:=a4.trans F.out (Went.refl _ _)
 all_goals have a3:=H.trans R2.out (Went.refl _ _)
 all_goals have b1:Went w (aoB ab (J (some ⟨g,0,none⟩) rs.length m) (J V fr.length T)) _:=fun j C=>(R3.out j C).imp id (fun W=>aI H.size W)
 all_goals refine ⟨rfl,_,R1.out.out s3 (fun j C e=>?_),a3.trans s3 (fun j C=>aG o7),b1⟩
 all_goals rcases R3.out j C with W | W
 all_goals first | (have:=Q.out.lt W;omega) | omega
end
section
open Go.RowKit Go.Maps
def plE (k a s:Int):DataW Unit:=.agg [.lit (.int .i64 k),.lit (.int .i64 a),.lit (.int .i64 s)]
def plR (v:Value):Option (DataW Unit×List MemPlace):=
 match v with
 | .agg ⟨[U G k,U G a,U G s]⟩=>some (plE k a s,[])
 | _=>none
theorem eA2 (k a s:Int):plR (.agg #[U G k,U G a,U G s])=some (plE k a s,[]):=rfl
theorem mL1 {v:Value} {k a s:Int} {b:List MemPlace} (h:plR v=some (plE k a s,b)):v=.agg #[.int .i64 k,.int .i64 a,.int .i64 s]:=by
 unfold plR at h;split at h
 ·simp only [plE,Option.some.injEq,Prod.mk.injEq,DataW.agg.injEq,List.cons.injEq,DataW.lit.injEq,Lit.int.injEq,true_and,and_true] at h;obtain ⟨⟨rfl,rfl,rfl⟩,_⟩:=h;rfl
 ·cases h
theorem keyI:Maps.Keyed prog 3:=Maps.int_keyed underlying3
theorem keyAt {a:Int} (h:(Lit.int .i64 a).wf=true):keyOf prog 3 (.int .i64 a)=some (.int .i64 a):=Maps.keyOf_int_mk underlying3 h
theorem zeroPl (w:World):(zeroValue 242).run prog w=.ok (.agg #[U G 0,U G 0,U G 0]) w:=k7
theorem sL0 {a b:Int} (h:Lit.int .i64 a=Lit.int .i64 b):a=b:=by injection h
theorem zL1 (a:Int):WideAt.IsKeyLit (.int .i64 a):=trivial
def gH0 (w:World) (mb n:Nat) (S:Nat->List Ly):Prop:=
 ∃D:DataW Unit,w.ownsMap prog 3 plR mb n D/\(∀s,s<2->∀x∈S s,Maps.has D (.int .i64 x.o.id)=true/\∀z,D.atKey (.int .i64 x.o.id) z=plE x.slot x.age s)
  /\∀id:Int,(∀s,s<2->∀x∈S s,x.o.id≠id)->Maps.has D (.int .i64 id)=false
theorem qS0 {w w':World} {P:Program} {k:TypeId} {R:Value->Option (DataW Unit×List MemPlace)} {b n:Nat} {D:DataW Unit} (h:w.ownsMap P k R b n D) (e:w'.heap[b]? = w.heap[b]?):w'.ownsMap P k R b n D:=by
 obtain ⟨c,a,d,r⟩:=h;exact ⟨c,a,e.trans d,r⟩
theorem gH0.same {w w':World} {mb n:Nat} {S:Nat->List Ly} (h:gH0 w mb n S) (b:w'.heap[mb]? = w.heap[mb]?):gH0 w' mb n S:=by
 obtain ⟨D,a,r⟩:=h;exact ⟨D,qS0 a b,r⟩
theorem gH0.lt {w:World} {mb n:Nat} {S:Nat->List Ly} (h:gH0 w mb n S):mb<w.heap.size:=by
 obtain ⟨D,a,r⟩:=h;exact a.lt
theorem gH0.isMap {w:World} {mb n:Nat} {S:Nat->List Ly} (h:gH0 w mb n S):∃b a,w.heap[mb]? = some (.map b a):=by
 obtain ⟨D,⟨b,a,c,_⟩,_⟩:=h;exact ⟨b,a,c⟩
theorem gH0.ne {w:World} {mb n b:Nat} {S:Nat->List Ly} {vs:Array Value} {t:TypeId} {f:Nat×Nat} (h:gH0 w mb n S) (c:w.heap[b]? = some (R vs t f)):b≠mb:=fun e=>by
 obtain ⟨g,a,d⟩:=h.isMap;rw [e,d] at c;cases c
theorem gH0.yes {w:World} {mb n s:Nat} {S:Nat->List Ly} {x:Ly} (h:gH0 w mb n S) (g:s<2) (j:x∈S s) (i:(Lit.int .i64 x.o.id).wf=true):
  (Instr.lookup 229 (.map (some mb)) (U G x.o.id) true).run prog w=.ok (.tuple #[.agg #[U G x.slot,U G x.age,U G s],.bool true]) w:=by
 obtain ⟨D,c,d,_⟩:=h;obtain ⟨v,k,a,b⟩:=c.look_ok keyI underlying229 (zeroPl w) (zd:=plE 0 0 0) (zp:=[]) rfl (keyAt i);obtain ⟨e,f⟩:=d s g x j;rw [e] at a;rw [f] at b;rw [a,mL1 b]
theorem gH0.no {w:World} {mb n:Nat} {S:Nat->List Ly} {id:Int} (h:gH0 w mb n S) (g:∀s,s<2->∀x∈S s,x.o.id≠id) (f:(Lit.int .i64 id).wf=true):
  (Instr.lookup 229 (.map (some mb)) (.int .i64 id) true).run prog w=.ok (.tuple #[.agg #[.int .i64 0,.int .i64 0,.int .i64 0],.bool false]) w:=by
 obtain ⟨D,d,_,e⟩:=h;obtain ⟨v,i,b,c⟩:=d.look_ok keyI underlying229 (zeroPl w) (zd:=plE 0 0 0) (zp:=[]) rfl (keyAt f);have a:=e id g;rw [a] at b;rw [Maps.atKey_of_not_has a] at c;rw [b,mL1 c]
theorem oZ0 {w w':World} {mb:Nat} (h:w.mapTurned w' mb):Out (fun j=>j=mb) w w':=Out.of_grown h.grown (fun k hk=>by injection hk with hk;exact hk.symm)
theorem gH0.put {w:World} {mb n s:Nat} {S S':Nat->List Ly} {x:Ly} (h:gH0 w mb n S) (l:s<2) (u:(Lit.int .i64 x.o.id).wf=true) (v:n<1000000) (i:∀t,t<2->∀y∈S t,y.o.id≠x.o.id)
  (g:∀t,t<2->∀y,y∈S' t↔((t=s/\y=x)\/y∈S t)):
  ∃w',(Instr.mapUpdate 229 (.map (some mb)) (U G x.o.id) (.agg #[U G x.slot,U G x.age,U G s])).run prog w=.ok () w'/\gH0 w' mb (n+1) S'/\Out (fun j=>j=mb) w w':=by
 obtain ⟨D,f,k,m⟩:=h;obtain ⟨w',r,p,q⟩:=f.store keyI underlying229 (by unfold maxLen;omega) (keyAt u) (eA2 x.slot x.age s);refine ⟨w',r,⟨_,p,fun t b y c=>?_,fun id d=>?_⟩,oZ0 q⟩
 ·rcases (g t b y).1 c with ⟨rfl,rfl⟩ | c
  ·exact ⟨Maps.has_put_same f.isMap (zL1 _) _,fun z=>Maps.atKey_put_same f.isMap (zL1 _) _ _⟩
  ·have a:Lit.int .i64 y.o.id≠Lit.int .i64 x.o.id:=fun e=>i t b y c (sL0 e)
   rw [Maps.has_put_other a];exact ⟨(k t b y c).1,fun z=>by rw [Maps.atKey_put_other a];exact (k t b y c).2 z⟩
 ·have a:Lit.int .i64 id≠Lit.int .i64 x.o.id:=fun e=>d s l x ((g s l x).2 (aH ⟨rfl,rfl⟩)) (sL0 e).symm
  rw [Maps.has_put_other a];exact m id (fun t b y c=>d t b y ((g t b y).2 (aG c)))
theorem gH0.del {w:World} {mb n:Nat} {S S':Nat->List Ly} {x:Ly} (h:gH0 w mb n S) (v:(Lit.int .i64 x.o.id).wf=true)
  (l:∀t,t<2->∀y,y∈S' t↔(y∈S t/\y.o.id≠x.o.id)) (m:TypeId):
  ∃w',(Builtin.delete_ #[229,3] m #[.map (some mb),U G x.o.id]).run prog w=.ok (.tuple #[]) w'/\gH0 w' mb n S'/\Out (fun j=>j=mb) w w':=by
 obtain ⟨D,p,k,q⟩:=h;obtain ⟨w',u,r,s⟩:=p.drop keyI underlying229 (keyAt v) m;refine ⟨w',u,⟨_,r,fun t b y c=>?_,fun id i=>?_⟩,oZ0 s⟩
 ·obtain ⟨c,d⟩:=(l t b y).1 c;have a:Lit.int .i64 y.o.id≠Lit.int .i64 x.o.id:=fun e=>d (sL0 e)
  rw [Maps.has_del_other a];exact ⟨(k t b y c).1,fun z=>by rw [Maps.atKey_del_other a];exact (k t b y c).2 z⟩
 ·by_cases e:id=x.o.id
  ·subst e;exact Maps.has_del_same
  ·have a:Lit.int .i64 id≠Lit.int .i64 x.o.id:=fun f=>e (sL0 f)
   rw [Maps.has_del_other a];exact q id (fun t b y c f=>i t b y ((l t b y).2 ⟨c,fun g=>e (f.symm.trans g)⟩) f)
theorem gH0.like {w:World} {mb n:Nat} {S S':Nat->List Ly} (h:gH0 w mb n S) (m:∀t,t<2->∀y∈S' t,∃z∈S t,z.o.id=y.o.id/\z.slot=y.slot/\z.age=y.age) (p:∀t,t<2->∀z∈S t,∃y∈S' t,y.o.id=z.o.id):gH0 w mb n S':=by
 obtain ⟨D,a,b,c⟩:=h;refine ⟨D,a,fun t d y g=>?_,fun id f=>c id (fun t d z i=>?_)⟩
 ·obtain ⟨z,i,j,k,l⟩:=m t d y g;rw [<-j,<-k,<-l];exact b t d z i
 ·obtain ⟨y,g,e⟩:=p t d z i;rw [<-e];exact f t d y g
structure BookAt (w:World) (bb ab mb n:Nat) (vs vf v0 v1:Value) (rs:List Sot) (fr:List Nat) (S:Nat->List Ly):Prop where
 box:w.heap[bb]? = some (R #[E (some ⟨ab,0,none⟩),.map (some mb),v0,v1] 233 (0,0))
 ar:ArOr w ab 100 vs vf rs fr
 map:gH0 w mb n S
 row0:w.ownsRow 0 240 2 v0 (S 0).length (hV (S 0))
 row1:w.ownsRow 0 240 2 v1 (S 1).length (hV (S 1))
 apart:∀k,v0.ownBlock=some k->v1.ownBlock≠some k
def pbB (bb ab mb:Nat) (vs vf v0 v1:Value) (k:Nat):Prop:=k=bb\/aoB ab vs vf k\/k=mb\/v0.ownBlock=some k\/v1.ownBlock=some k
section
variable {w w':World} {bb ab mb n:Nat} {vs vf v0 v1:Value} {rs:List Sot} {fr:List Nat} {S:Nat->List Ly}
theorem BookAt.lt (h:BookAt w bb ab mb n vs vf v0 v1 rs fr S) {k:Nat} (hk:pbB bb ab mb vs vf v0 v1 k):k<w.heap.size:=by
 rcases hk with rfl | hk | rfl | hk | hk
 ·exact lt_of_block h.box
 ·exact h.ar.lt hk
 ·exact h.map.lt
 ·exact (h.row0.lt k hk).2
 ·exact (h.row1.lt k hk).2
theorem BookAt.out {T:Nat->Prop} (h:BookAt w bb ab mb n vs vf v0 v1 rs fr S) (b:Out T w w') (a:∀k,pbB bb ab mb vs vf v0 v1 k->¬T k):BookAt w' bb ab mb n vs vf v0 v1 rs fr S:=
 ⟨aF0 h.box b (a bb (aH rfl)),h.ar.out b (fun k hk=>a k (aG (aH hk))),h.map.same (b.block mb h.map.lt (a mb (aG (aG (aH rfl))))),
  aK0 h.row0 b (fun k hk=>a k (aG (aG (aG (aH hk))))),aK0 h.row1 b (fun k hk=>a k (aG (aG (aG (aG hk))))),h.apart⟩
theorem BookAt.below {B:Nat} (h:BookAt w bb ab mb n vs vf v0 v1 rs fr S) (b:Below B w w') (a:w.heap.size<=B):BookAt w' bb ab mb n vs vf v0 v1 rs fr S:=
 h.out (T:=fun _=>False) (Out.of_below b a) (fun _ _ e=>e)
theorem BookAt.above {B:Nat} (h:BookAt w bb ab mb n vs vf v0 v1 rs fr S) (a:Below B w w') (b:∀k,pbB bb ab mb vs vf v0 v1 k->k<B):BookAt w' bb ab mb n vs vf v0 v1 rs fr S:=
 h.out (T:=fun k=>B<=k) ⟨a.os,a.tape,a.output,a.size,fun k hk c=>a.block k o7⟩ (fun k hk e=>by have:=b k hk;omega)
theorem BookAt.notBox (h:BookAt w bb ab mb n vs vf v0 v1 rs fr S):¬aoB ab vs vf bb:=fun e=>by
 rcases e with e | e | e
 ·exact dQ0 h.box h.ar.box d7 e
 ·exact aH0 h.ar.slots h.box d7 e
 ·exact aH0 h.ar.free h.box d7 e
theorem BookAt.notRow0 (h:BookAt w bb ab mb n vs vf v0 v1 rs fr S) {k:Nat} (hk:v0.ownBlock=some k):¬aoB ab vs vf k:=fun e=>by
 rcases e with e | e | e
 ·exact aH0 h.row0 (e ▸ h.ar.box) d7 hk
 ·exact bP0 h.row0 h.ar.slots d7 hk e
 ·exact bP0 h.row0 h.ar.free d7 hk e
theorem BookAt.notRow1 (h:BookAt w bb ab mb n vs vf v0 v1 rs fr S) {k:Nat} (hk:v1.ownBlock=some k):¬aoB ab vs vf k:=fun e=>by
 rcases e with e | e | e
 ·exact aH0 h.row1 (e ▸ h.ar.box) d7 hk
 ·exact bP0 h.row1 h.ar.slots d7 hk e
 ·exact bP0 h.row1 h.ar.free d7 hk e
theorem dN0 {base:Nat} {e:TypeId} {a:Nat} {v:Value} {k:Nat} {xs:List Value} (h:w.ownsRow base e a v k xs) (i:gH0 w mb n S):v.ownBlock≠some mb:=fun b=>by
 rcases h.2 with ⟨rfl,_⟩ | ⟨g,c,d,rfl,_,f,_⟩
 ·cases b
 ·simp [Value.ownBlock] at b;subst b;exact i.ne f rfl
theorem BookAt.notMap (h:BookAt w bb ab mb n vs vf v0 v1 rs fr S):¬aoB ab vs vf mb:=fun e=>by
 rcases e with e | e | e
 ·exact h.map.ne h.ar.box e.symm
 ·exact dN0 h.ar.slots h.map e
 ·exact dN0 h.ar.free h.map e
theorem BookAt.newAr {d c:Value} {b:List Sot} {a:List Nat} (h:BookAt w bb ab mb n vs vf v0 v1 rs fr S) (e:Out (aoB ab vs vf) w w') (f:ArOr w' ab 100 d c b a):BookAt w' bb ab mb n d c v0 v1 b a S:=
 ⟨aF0 h.box e h.notBox,f,h.map.same (e.block mb h.map.lt h.notMap),aK0 h.row0 e (fun _ hk=>h.notRow0 hk),aK0 h.row1 e (fun _ hk=>h.notRow1 hk),h.apart⟩
def vAt (v0 v1:Value) (s:Nat):Value:=if s=0 then v0 else v1
theorem BookAt.row (h:BookAt w bb ab mb n vs vf v0 v1 rs fr S) {s:Nat} (a:s<2):w.ownsRow 0 240 2 (vAt v0 v1 s) (S s).length (hV (S s))/\w.cell? ⟨bb,2+s,none⟩=some (vAt v0 v1 s)/\w.frozen? ⟨bb,2+s,none⟩=false:=by
 match s,a with
 | 0,_=>exact ⟨h.row0,aA0 (j:=2) h.box rfl,aB0 h.box⟩
 | 1,_=>exact ⟨h.row1,aA0 (j:=3) h.box rfl,aB0 h.box⟩
end
end
section
open Go.RowKit Go.Shelf
attribute [local go_sem] Oper.semAt_some
attribute [local go_sem ↓] Go.wp_at_zero Go.wp_at_succ
structure KpL (m Bb:Nat) (W W':World):Prop where
 below:Below m W W'
 box:∀vs t,W.heap[Bb]? = some (R vs t (0,0))->W'.heap[Bb]? = some (R vs t (0,0))
theorem KpL.trans {m a:Nat} {A B C:World} (h:KpL m a A B) (k:KpL m a B C):KpL m a A C:=⟨h.below.trans k.below,fun vs t e=>k.box vs t (h.box vs t e)⟩
theorem zM1 {m a:Nat} {A B C:World} (h:KpL m a A B) (k:KpL m a B C):KpL m a A C:=h.trans k
theorem zN1 {m Bb:Nat} {w:World} (g:m<=w.heap.size) (W:World) (l:Nat) (o c:Obj) (f:w.heap.size<=l) (h:W.heap[l]? = some o) (b:o.isCells=false) (i:o.isWalk=false):KpL m Bb W (W.putObj l c):=
 ⟨belowK_b g W l o c f h b i,fun vs t e=>by
  have a:l≠Bb:=fun d=>by subst d;rw [e] at h;injection h with h;subst h;cases b
  exact (World.putObj_heap_other (Ne.symm a)).trans e⟩
theorem KpL.of_below {m a:Nat} {W W':World} (h:Below W.heap.size W W') (b:m<=W.heap.size):KpL m a W W':=⟨h.mono b,fun _ _ e=>aE0 e h lR7⟩
theorem gX0 {W a:World} (h:Below W.heap.size W a):W.grownBy a none:=⟨h.os,h.tape,h.output,h.size,fun k hk _=>h.block k hk⟩
theorem nM0 {l:List Ly} {k:Nat} (h:k<l.length):(l.take (k+1)).map Ly.o=(l.take k).map Ly.o++[(lyAt l k).o]:=by
 rw [List.take_succ_eq_append_getElem h,bK,lA0 h];rfl
theorem lyIt (n:Nat) (hn:1<=n) (l I Bs m F N mb nn s:Nat) (vs vf v0 v1:Value) (rs:List Sot) (fr:List Nat) (S:Nat->List Ly) (J Jx:List Ord->World->Prop) (hs:s<2) (b4:(S s).length<=1000)
  (u:∀x∈S s,soAt rs x.slot=(some x.o,x.age)) (hm:∀k,pbB F N mb vs vf v0 v1 k->k<m)
  (W:World) (a4:m<=W.heap.size) (hB:BookAt W F N mb nn vs vf v0 v1 rs fr S) (P:W.heap[I]? = some (.cells #[.pointer (some ⟨F,0,none⟩)] 161 (0,0))) (b2:W.cell? ⟨Bs,0,none⟩=some (.int .i64 s))
  (hJ:AbidesFrom W.heap.size J)
  (hY:∀pre x W,J pre W->pre.length<(S s).length->YieldAt Fence.wide (n - 1) prog l #[Ord.agg x] W fun e T=>
   (e=.returned (.bool true)/\J (pre++[x]) T/\KpL m I W T)\/(e=.returned (.bool false)/\Jx (pre++[x]) T))
  (h0:J [] W):
  CallsIn Fence.wide n prog 254 #[.func (.yield l) #[] #[],.pointer (some ⟨I,0,none⟩),.pointer (some ⟨Bs,0,none⟩)] W fun e T=>(∃v,e=.returned v)/\
   ((∃ys,ys=(S s).map Ly.o/\J ys T)\/(∃pre,pre <+:(S s).map Ly.o/\Jx pre T)):=by
 obtain ⟨D,hc,_⟩:=hB.row hs;have b0:=hid7 hB;have HM:=hid7 hm;have b1:=hid7 u;have HJ:=hid7 hJ;have HY:Hid _:=hY;have a9:=hid7 P;have cb:=aA0 (j:=0) P rfl;have a0:Hid _:=D;obtain ⟨ao,b5,hv,_,_⟩:=bC0 D;rw [hv] at hc a0;have q1:(0:Int)<=(s:Int):=o7;have q2:(s:Int)<2:=o7;clear hB hm u hJ hY P D;refine callsIn_of_wp func254 rfl trivial ?_ rfl;simp only [ntmps254,dW,aZ,cU,eL,eW,Array.replicate_succ,Array.replicate_zero,eI,dZ,bX,dL]
 gi_wp2_with fail
 refine wpIn_wide.2 ?_;go_quiet (fail);have Y:Hid (J ((([]:List Ly)).map Ly.o) (W.drewN nq)):=HJ.out [] W _ none h0 (gX0 (below_drewN (aF _ _) nq)) (fun r e=>by cases e);have Z:Hid (KpL m I W (W.drewN nq)):=KpL.of_below (below_drewN (aF _ _) nq) a4;generalize W.drewN nq=Wd at Y Z ⊢;clear h0 b2 hc cb
 gi_wp2_with fail
 gi_loopw [15] (fun i wr=>∃k:Nat,k<=(S s).length/\i=.int .i64 k/\J (((S s).take k).map Ly.o) wr/\KpL m I W wr)
  (fun i _=>(S s).length - (intOf i).toNat)
 case atStart=>exact ⟨0,aO _,rfl,Y.out,Z.out⟩
 case round=>
  obtain ⟨k,hk,rfl,a3,Q⟩:=hrel;have L:=hid7 a3;have G:=hid7 Q;have a5:m<=wr.heap.size:=aI a4 Q.below.size;clear a3 Q
  by_cases t:k<(S s).length
  ·have V:=hid7 (b0.out.above G.out.below HM.out);have E:=(V.out.row hs).1;rw [hv] at E;obtain ⟨g,b3,a7,_,_⟩:=E.form o7;simp only [aY,true_and] at a7;obtain ⟨rfl,rfl⟩:=a7;have c0:=(E.cellAt (k*2) o7).trans (jB1 t).1;have c1:=(E.cellAt (k*2+1) o7).trans (jB1 t).2;have u:=b1.out _ (fT1 t);have HO:Hid _:=u;generalize hx:lyAt (S s) k=x at c0 c1 u HO;have HX:=hid7 hx;clear E hx u
   gi_wp2_with fail
   refine wpIn_wide.2 ?_;have z:=bel1 wr (.cells #[.int .i64 x.slot,.int .i64 x.age] 240);have A:=heap_alloc_new wr (.cells #[.int .i64 x.slot,.int .i64 x.age] 240);generalize wr.alloc (.cells #[.int .i64 x.slot,.int .i64 x.age] 240)=wh at z A ⊢;generalize wr.heap.size=hb0 at A ⊢;have U:=hid7 z;have X:Hid (BookAt wh F N mb nn vs vf v0 v1 rs fr S):=V.out.below z lR7;have a2:=aE0 (G.out.box _ _ a9.out) z lR7;have e0:wh.cell? ⟨I,0,none⟩=some (.pointer (some ⟨F,0,none⟩)):=aA0 (j:=0) a2 rfl;have e1:wh.cell? ⟨F,0,none⟩=some (.pointer (some ⟨N,0,none⟩)):=aA0 (j:=0) X.out.box rfl;have e2:wh.cell? ⟨hb0,0,none⟩=some (.int .i64 x.slot):=aA0 (j:=0) A rfl;have e3:wh.cell? ⟨hb0,1,none⟩=some (.int .i64 x.age):=aA0 (j:=1) A rfl
   have HS:Hid (∀w',Below wh.heap.size wh w'->(w'.cell? ⟨I,0,none⟩=some (.pointer (some ⟨F,0,none⟩))/\w'.cell? ⟨F,0,none⟩=some (.pointer (some ⟨N,0,none⟩))/\w'.cell? ⟨hb0,0,none⟩=some (.int .i64 x.slot)/\w'.cell? ⟨hb0,1,none⟩=some (.int .i64 x.age)/\Below wh.heap.size wh w')):=
    fun w' h=>⟨cell_later h e0,cell_later h e1,cell_later h e2,cell_later h e3,h⟩
   clear z A a2 e0 e1 e2 e3 c0 c1;have a6:=HS.out wh (aF _ _)
   go_region_held3 (fun w'=>w'.cell? ⟨I,0,none⟩=some (.pointer (some ⟨F,0,none⟩))/\w'.cell? ⟨F,0,none⟩=some (.pointer (some ⟨N,0,none⟩))/\w'.cell? ⟨hb0,0,none⟩=some (.int .i64 x.slot)/\w'.cell? ⟨hb0,1,none⟩=some (.int .i64 x.age)/\Below wh.heap.size wh w')
    ((refine HS.out _ ?_;(repeat' first | assumption | exact aF _ _ | exact lR7 | refine aV ?_ | refine aS ?_ ?_ _ | refine aD0 ?_ f | refine eO ?_ ?_ _ | (simp;done) | (simp;omega) | (have h9:=f.size;simp at h9 ⊢;omega))))
    (first | (go_at_call 243;refine (zJ1 N 100 vs vf rs fr x.slot x.o x.age _ (X.out.ar.below (B:=wh.heap.size) ?_ lR7) HO.out).mono ?_;(repeat' first | assumption | exact aF _ _ | exact lR7 | refine aV ?_ | refine aS ?_ ?_ _ | refine aD0 ?_ f | refine eO ?_ ?_ _ | (simp;done) | (simp;omega) | (have h9:=f.size;simp at h9 ⊢;omega));rintro e w1 ⟨f,rfl⟩;unfold Ord.agg;try (have a:=(f.block wh.heap.size s7).trans (heap_alloc_new wh _);have y0:=aA0 (j:=0) a rfl;have y1:=aA0 (j:=1) a rfl;have y2:=aA0 (j:=2) a rfl;have y3:=aA0 (j:=3) a rfl;have y4:=aA0 (j:=4) a rfl;have z0:=aB0 (j:=0) a;have z1:=aB0 (j:=1) a;have z2:=aB0 (j:=2) a;have z3:=aB0 (j:=3) a;have z4:=aB0 (j:=4) a)))
   rotate_right
   ·have c:=aJ0 (j:=4) (.int .i64 x.o.qty) (aJ0 (j:=3) (.int .i64 x.o.price) (aJ0 (j:=2) (.int .i64 x.o.kind) (aJ0 (j:=1) (.int .i64 x.o.side) (aJ0 (j:=0) (.int .i64 x.o.id) a))));replace c:(((((w1.setCell ⟨wh.heap.size,0,none⟩ (.int .i64 x.o.id)).setCell ⟨wh.heap.size,1,none⟩ (.int .i64 x.o.side)).setCell ⟨wh.heap.size,2,none⟩ (.int .i64 x.o.kind)).setCell ⟨wh.heap.size,3,none⟩ (.int .i64 x.o.price)).setCell ⟨wh.heap.size,4,none⟩ (.int .i64 x.o.qty)).heap[wh.heap.size]? = some (.cells #[.int .i64 x.o.id,.int .i64 x.o.side,.int .i64 x.o.kind,.int .i64 x.o.price,.int .i64 x.o.qty] 92 (0,0)):=c
    have b:Below wr.heap.size wr (((((w1.setCell ⟨wh.heap.size,0,none⟩ (.int .i64 x.o.id)).setCell ⟨wh.heap.size,1,none⟩ (.int .i64 x.o.side)).setCell ⟨wh.heap.size,2,none⟩ (.int .i64 x.o.kind)).setCell ⟨wh.heap.size,3,none⟩ (.int .i64 x.o.price)).setCell ⟨wh.heap.size,4,none⟩ (.int .i64 x.o.qty)):=by
     refine aD0 U.out ?_;have h9:=f.size;have h8:Below wh.heap.size wh w1:=aD0 (bel1 wh _).drew f;exact ((((h8.setCell (p:=⟨wh.heap.size,0,none⟩) lR7 _).setCell (p:=⟨wh.heap.size,1,none⟩) lR7 _).setCell (p:=⟨wh.heap.size,2,none⟩) lR7 _).setCell (p:=⟨wh.heap.size,3,none⟩) lR7 _).setCell (p:=⟨wh.heap.size,4,none⟩) lR7 _
    generalize ((((w1.setCell ⟨wh.heap.size,0,none⟩ (.int .i64 x.o.id)).setCell ⟨wh.heap.size,1,none⟩ (.int .i64 x.o.side)).setCell ⟨wh.heap.size,2,none⟩ (.int .i64 x.o.kind)).setCell ⟨wh.heap.size,3,none⟩ (.int .i64 x.o.price)).setCell ⟨wh.heap.size,4,none⟩ (.int .i64 x.o.qty)=wz at c b ⊢;generalize wh.heap.size=xb at c ⊢;have x0:=aA0 (j:=0) c rfl;have x1:=aA0 (j:=1) c rfl;have x2:=aA0 (j:=2) c rfl;have x3:=aA0 (j:=3) c rfl;have x4:=aA0 (j:=4) c rfl;obtain ⟨fn,a8,H,a1,R,O⟩:=HY.out _ x.o wz (HJ.out _ wr wz none L.out (gX0 b) (fun r e=>by cases e)) (by simp;omega);unfold Ord.agg at R;have K:=hid7 b;clear b c a6
    gi_wp2
    refine O.mono ?_;rintro e W3 (⟨rfl,y,C⟩ | ⟨rfl,d⟩)
    ·have q:Hid _:=y;have M:Hid _:=C;clear y C R O x0 x1 x2 x3 x4
     gi_wp2
     go_roundw
     case rel=>exact ⟨k+1,o7,by simp,by rw [nM0 t,HX.out];exact q.out,(G.out.trans (KpL.of_below K.out a5)).trans M.out⟩
     case measure=>simp [intOf];omega
    ·have q:Hid _:=d;clear d R O x0 x1 x2 x3 x4
     gi_wp2
     refine bodyPost_ret (results_none rfl _ _ _) rfl ?_;refine ⟨⟨_,rfl⟩,.inr ⟨_,?_,q.out⟩⟩;rw [<-HX.out,<-nM0 t];exact (List.take_prefix _ _).map _
   ·have c:=heap_alloc_new w1 (.cells #[.int .i64 x.o.id,.int .i64 x.o.side,.int .i64 x.o.kind,.int .i64 x.o.price,.int .i64 x.o.qty] 92);have b:Below wr.heap.size wr (w1.alloc (.cells #[.int .i64 x.o.id,.int .i64 x.o.side,.int .i64 x.o.kind,.int .i64 x.o.price,.int .i64 x.o.qty] 92)):=aD0 U.out (aD0 (w1:=w1) (aD0 (w:=wh) (w1:=wh.drew) (aF _ _).drew f) (bel1 _ _));generalize w1.alloc (.cells #[.int .i64 x.o.id,.int .i64 x.o.side,.int .i64 x.o.kind,.int .i64 x.o.price,.int .i64 x.o.qty] 92)=wz at c b ⊢;generalize w1.heap.size=xb at c ⊢;have x0:=aA0 (j:=0) c rfl;have x1:=aA0 (j:=1) c rfl;have x2:=aA0 (j:=2) c rfl;have x3:=aA0 (j:=3) c rfl;have x4:=aA0 (j:=4) c rfl;obtain ⟨fn,a8,H,a1,R,O⟩:=HY.out _ x.o wz (HJ.out _ wr wz none L.out (gX0 b) (fun r e=>by cases e)) (by simp;omega);unfold Ord.agg at R;have K:=hid7 b;clear b c a6
    gi_wp2
    refine O.mono ?_;rintro e W3 (⟨rfl,y,C⟩ | ⟨rfl,d⟩)
    ·have q:Hid _:=y;have M:Hid _:=C;clear y C R O x0 x1 x2 x3 x4
     gi_wp2
     go_roundw
     case rel=>exact ⟨k+1,o7,by simp,by rw [nM0 t,HX.out];exact q.out,(G.out.trans (KpL.of_below K.out a5)).trans M.out⟩
     case measure=>simp [intOf];omega
    ·have q:Hid _:=d;clear d R O x0 x1 x2 x3 x4
     gi_wp2
     refine bodyPost_ret (results_none rfl _ _ _) rfl ?_;refine ⟨⟨_,rfl⟩,.inr ⟨_,?_,q.out⟩⟩;rw [<-HX.out,<-nM0 t];exact (List.take_prefix _ _).map _
  ·obtain rfl:k=(S s).length:=o7
   gi_wp2_with fail
   go_end0;refine ⟨⟨_,rfl⟩,.inl ⟨_,rfl,?_⟩⟩;have:=L.out
   rwa [List.take_length] at this
theorem zO1 (n:Nat) (D:1<=n) (b e m c f mb u s:Nat) (vs t v0 v1:Value) (rs:List Sot) (fr:List Nat) (S:Nat->List Ly) (E:s<2) (a:(S s).length<=1000)
  (q:∀x∈S s,soAt rs x.slot=(some x.o,x.age)) (C:∀k,pbB c f mb vs t v0 v1 k->k<m)
  (w:World) (p:m<=w.heap.size) (z:BookAt w c f mb u vs t v0 v1 rs fr S) (g:w.heap[b]? = some (.cells #[.pointer (some ⟨c,0,none⟩)] 161 (0,0))) (i:w.heap[e]? = some (.cells #[.int .i64 s] 3 (0,0))):
  SeqStopsK Fence.wide n prog 254 #[.pointer (some ⟨b,0,none⟩),.pointer (some ⟨e,0,none⟩)] (fun x:Ord=>#[Ord.agg x]) (KpL m b) (fun F=>F=(S s).map Ly.o) (fun r=>r <+:(S s).map Ly.o) (S s).length w:=
 fun l J v W d A _ B y=>lyIt n D l b e m c f mb u s vs t v0 v1 rs fr S J v E a q C W (aI p d.size) (z.below d lR7) (aE0 g d lR7) (aA0 (j:=0) (aE0 i d lR7) rfl) A B y
theorem sM0 (a:Nat) (s:Int) (w:World):Calls prog 196 #[E (some ⟨a,0,none⟩),U G s] w fun e w'=>e=Y (.func (.func 254) #[] #[E (some ⟨w.heap.size,0,none⟩),E (some ⟨w.heap.size+1,0,none⟩)])
  /\w'=(w.alloc (R #[E (some ⟨a,0,none⟩)] 161)).alloc (R #[U G s] 3):=by
 go_enter func196,ntmps196;go_wp2;go_ret;exact ⟨rfl,rfl⟩
theorem lW0 (s:Int) (w:World):Calls prog 194 #[U G s] w fun e w'=>e=Y (.bool (s == 1 || s == 2))/\w'=w:=by
 cases h1:(s == 1) with
 | true=>
  go_enter func194,ntmps194;go_wp2;go_ret;exact ⟨rfl,rfl⟩
 | false=>
  cases h2:(s == 2) with
  | true=>
   go_enter func194,ntmps194;go_wp2;go_ret;exact ⟨rfl,rfl⟩
  | false=>
   go_enter func194,ntmps194;go_wp2;go_ret;exact ⟨rfl,rfl⟩
end
section
open Go.RowKit Go.Shelf
attribute [local go_sem] Oper.semAt_some
theorem gY0 {W d:World} {a:Option Nat} {b:Nat} {vs:Array Value} {t:TypeId} {f:Nat×Nat} (h:W.heap[b]? = some (R vs t f)) (i:W.grownBy d a) (j:∀r,a=some r->∃o:Obj,W.heap[r]? = some o/\o.isCells=false):d.heap[b]? = some (R vs t f):=
 (i.block b (lt_of_block h) (fun e=>by
  obtain ⟨o,c,g⟩:=j b e.symm;rw [h] at c;injection c with c;subst c;cases g)).trans h
def hU0 (W:World) (b:Nat) (x:Ord):Prop:=W.heap[b]? = some (R #[U G x.id,U G x.side,U G x.kind,U G x.price,U G x.qty] 92 (0,0))
theorem infoO:(prog.info? 92).map (fun i=>(i.zero,i.size,i.bytes))=some (some (.agg #[U G 0,U G 0,U G 0,U G 0,U G 0]),5,40):=k7
theorem zP1 (l:List Ord) (x:Ord):oV (l++[x])=oV l++[U G x.id,U G x.side,U G x.kind,U G x.price,U G x.qty]:=by rw [cL0];rfl
theorem wX0 (i y I L mb nn s:Nat) (vs Z v0 v1:Value) (rs:List Sot) (fr:List Nat) (S:Nat->List Ly) (G:s<2) (E:(S s).length<=1000)
  (P:∀x∈S s,soAt rs x.slot=(some x.o,x.age)) (w:World) (hB:BookAt w I L mb nn vs Z v0 v1 rs fr S) (C:w.heap[i]? = some (.cells #[.pointer (some ⟨I,0,none⟩)] 161 (0,0))) (M:w.heap[y]? = some (.cells #[.int .i64 s] 3 (0,0))):
  Calls prog 253 #[.slice none 0 0,.func (.func 254) #[] #[.pointer (some ⟨i,0,none⟩),.pointer (some ⟨y,0,none⟩)]] w
   fun e W'=>∃v,e=.returned v/\W'.ownsRow w.heap.size 92 5 v (S s).length (oV ((S s).map Ly.o))/\Below w.heap.size w W':=by
 obtain ⟨i0,hi,R,T,U⟩:=info_parts infoO;refine (callsIn_wide (n:=4)).1 ?_;refine callsIn_of_wp_marks func253 rfl trivial ?_ rfl;simp only [ntmps253,dW,aZ,cU,eL,eW,Array.replicate_succ,Array.replicate_zero,eI,dZ,bX,dL]
 gi_wp2_with fail
 have bO:=Boxed.new w 99 (.slice none 0 0);have f:=bel1 w (.cells #[.slice none 0 0] 99);have HK:∀k,pbB I L mb vs Z v0 v1 k->k<w.heap.size:=fun k hk=>hB.lt hk
 have V:=lt_of_block C;obtain ⟨W0,m⟩:∃W0,w.alloc (.cells #[.slice none 0 0] 99)=W0:=⟨_,rfl⟩;have a6:W0.heap.size=w.heap.size+1:=by rw [<-m];simp
 rw [m] at bO f ⊢;clear m
 refine wpIn_rangeFunc_ownH (F:=Fence.wide) (n:=4) rfl d7 (gf:=254) (lb:=#[.pointer (some ⟨i,0,none⟩),.pointer (some ⟨y,0,none⟩)]) rfl trivial (enters_of func254 k7 rfl)
  (zO1 3 d7 i y w.heap.size I L mb nn s vs Z v0 v1 rs fr S G E P HK W0 o7 (hB.below f lR7) (aE0 C f lR7) (aE0 M f lR7)) zM1 (zN1 o7) (aF _ _) (fun _=>rfl)
  (fun d W=>(∃v,Boxed W w.heap.size 99 v/\W.ownsRow w.heap.size 92 5 v d.length (oV d)/\True)/\Below w.heap.size w W)
  (fun _ _ _=>False)
  (OwnFrom.and (Own.from (holdsRow_own w.heap.size w.heap.size 99 92 5 (fun d=>d.length) (fun d=>oV d) (fun _ _=>True)) _) (ownFrom_below lR7 o7))
  (fun _ _ _ _ _ G _ _=>G)
  ⟨⟨_,bO,aU _ _ _ _,trivial⟩,f⟩
  (fun x J W=>∃z,w.heap.size<z/\hU0 W z x/\J={ tmps:=#[.slice none 0 0,.func (.func 254) #[] #[.pointer (some ⟨i,0,none⟩),.pointer (some ⟨y,0,none⟩)],.pointer (some ⟨w.heap.size,0,none⟩),undef,.slice none 0 0,.pointer (some ⟨z,0,none⟩),.func (.func 254) #[] #[.pointer (some ⟨i,0,none⟩),.pointer (some ⟨y,0,none⟩)],Ord.agg x,undef,undef,undef,undef,undef],defers:=[] })
  (fun x J _ X Y a7 G hg hr=>by obtain ⟨z,h1,h2,h3⟩:=G;exact ⟨z,h1,gY0 h2 hg (fun r e=>(hr r e).2),h3⟩)
  ?assign ?body ?done ?stop
 case assign=>
  rintro l d x W K ⟨⟨v,u,a,_⟩,b⟩ A;unfold Ord.agg at A ⊢
  gi_wp2
  refine A _ _ ((KeepsOthers.alloc _ _).from _) (KpL.of_below (bel1 _ _) b.size) ⟨⟨v,u.alloc _,a.alloc _,trivial⟩,b.alloc b.size _⟩ ⟨W.heap.size,u.lt,heap_alloc_new _ _,rfl⟩
 case body=>
  rintro l d x J W hl ⟨r,hr⟩ ⟨⟨v,u,a,_⟩,b⟩ ⟨z,a2,B,rfl⟩ a5;have hc:=u.cell;have c0:=aA0 (j:=0) B rfl;have c1:=aA0 (j:=1) B rfl;have c2:=aA0 (j:=2) B rfl;have c3:=aA0 (j:=3) B rfl;have c4:=aA0 (j:=4) B rfl;have a1:=b.size;unfold Ord.agg
  gi_wp2_with (gi_at_builtin;refine wpListIn_append_own _ rfl _ _ 99 rfl w.heap.size 92 i0 (.agg #[.int .i64 0,.int .i64 0,.int .i64 0,.int .i64 0,.int .i64 0]) 5 40 underlying99 hi R T U rfl d7 _ _ _ rfl (a.alloc _) ⟨W.heap.size,0,none⟩ 1 1 [.int .i64 x.id,.int .i64 x.side,.int .i64 x.kind,.int .i64 x.price,.int .i64 x.qty] rfl rfl (bJ (cs:=#[.int .i64 x.id,.int .i64 x.side,.int .i64 x.kind,.int .i64 x.price,.int .i64 x.qty]) (t:=92) (fr:=(0,0)) (heap_alloc_new W _)) (by simp [Value.oneCell']) (by unfold maxLen;omega) o7 (by simp;omega) ?_;intro v' w1 g q _;obtain ⟨g',a0,rfl⟩:=ownsRow_succ g;obtain ⟨H,Q,O,N,p⟩:=u.appended d7 a b.size lR7 g q;have a3:=H.cell;have a4:=H.frozen)
  exact ⟨N.from _,⟨p,fun _ _ e=>(p.block i V).trans e⟩,⟨_,Q,by rw [zP1,aN];exact O,trivial⟩,b.trans p⟩
 case done=>
  rintro D ys W hD rfl ⟨⟨v,u,a,_⟩,b⟩ A;have hc:=u.cell
  gi_wp2
  refine ⟨by simp,.inl ⟨_,_,rfl,run_takeDeferred A,?_⟩⟩;exact ⟨_,results_tmp rfl _ _ _,v,rfl,by simpa using ownsRow_putObj a _ A rfl,b.trans (belowK_b (w:=w) lR7 W D _ _ o7 A rfl rfl)⟩
 case stop=>
  rintro D c d W _ _ h _;exact h.elim
theorem dM1 (f g i j mb n s:Nat) (vs p v0 v1:Value) (rs:List Sot) (fr:List Nat) (S:Nat->List Ly) (z:s<2) (c:(S s).length<=1000)
  (d:∀x∈S s,soAt rs x.slot=(some x.o,x.age)) (w:World) (m:BookAt w i j mb n vs p v0 v1 rs fr S) (a:w.heap[f]? = some (R #[E (some ⟨i,0,none⟩)] 161 (0,0))) (b:w.heap[g]? = some (R #[U G s] 3 (0,0))):
  Calls prog 195 #[.func (.func 254) #[] #[E (some ⟨f,0,none⟩),E (some ⟨g,0,none⟩)]] w
   fun e W'=>∃v,e=Y v/\W'.ownsRow w.heap.size 92 5 v (S s).length (oV ((S s).map Ly.o))/\Below w.heap.size w W':=by
 have H:=hid7 m;have y:=hid7 d;have t:Hid _:=a;have u:Hid _:=b;clear m a b d;go_enter func195,ntmps195;go_wp2_with fail;refine (wX0 f g i j mb n s vs p v0 v1 rs fr S z c y.out w H.out t.out u.out).mono ?_;rintro e w1 ⟨v,rfl,k,l⟩;have q:Hid _:=k;have r:Hid _:=l;clear k l;go_wp2;go_ret;exact ⟨v,rfl,q.out,r.out⟩
theorem eB2 (f n mb z s:Nat) (vs A v0 v1:Value) (rs:List Sot) (fr:List Nat) (S:Nat->List Ly) (u:s<2) (i:(S s).length<=1000)
  (k:∀x∈S s,soAt rs x.slot=(some x.o,x.age)) (w:World) (r:BookAt w f n mb z vs A v0 v1 rs fr S) (side:Int) (d:side=(s:Int)+1):
  Calls prog 133 #[E (some ⟨f,0,none⟩),U G side] w
   fun e W'=>∃v,e=Y (.tuple #[v,.nilIface])/\W'.ownsRow w.heap.size 92 5 v (S s).length (oV ((S s).map Ly.o))/\Below w.heap.size w W':=by
 have j:(side == 1 || side == 2)=true:=by
  subst d
  match s,u with
  | 0,_=>rfl
  | 1,_=>rfl
 have C:=hid7 j;have y:IntKind.i64.wrap (side - 1)=(s:Int):=by rw [d,show (s:Int)+1 - 1=s by omega];exact IntWalk.i64_in _ o7
 have H:=hid7 r;have F:=hid7 k;have D:=hid7 d;clear r j k d;go_enter func133,ntmps133;go_wp2_with fail;refine (lW0 side _).mono ?_;rintro e w1 ⟨rfl,l⟩;replace l:=l.symm;subst l;rw [C.out];go_wp2_with fail;refine (sM0 f _ _).mono ?_;rintro e w1 ⟨rfl,rfl⟩;go_wp2_with fail;have t:=bel2 w (R #[E (some ⟨f,0,none⟩)] 161) (R #[U G s] 3);refine (dM1 w.heap.size (w.heap.size+1) f n mb z s vs A v0 v1 rs fr S u i F.out _ (H.out.below t lR7) (gA0 w _ _) (eY0 w _ _)).mono ?_;rintro e I ⟨v,rfl,p,q⟩;have m:Hid _:=p;have B:Hid _:=q;clear p q;go_wp2;go_ret2;exact ⟨v,rfl,⟨m.out.1,m.out.2.imp id (fun ⟨g,cap,cur,a,b,c⟩=>⟨g,cap,cur,a,by simp at b;omega,c⟩)⟩,aD0 t B.out⟩
end
section
open Go.RowKit Go.Shelf
attribute [local go_sem] Oper.semAt_some
def eD0 (o x:Ord):Bool:=if x.kind=2 then false else if o.kind=2 then true else if o.side=1 then decide (x.price<o.price) else decide (o.price<x.price)
def hV0 (o:Ord) (l:List Ord):Nat:=(l.takeWhile fun y=>!eD0 o y).length
theorem sZ1 (o:Ord) (l:List Ord):hV0 o l<=l.length:=(List.takeWhile_prefix _).length_le
theorem mM1 {o:Ord} {l:List Ord} (h:∀y∈l,eD0 o y=false):hV0 o l=l.length:=by
 unfold hV0
 congr 1
 induction l with
 | nil=>rfl
 | cons a l ih=>rw [eJ,h a s7];simp [ih (fun y b=>h y (by simp [b]))]
theorem jG1 {o x:Ord} {p l:List Ord} (b:p++[x] <+:l) (h:∀y∈p,eD0 o y=false) (c:eD0 o x=true):hV0 o l=p.length:=by
 obtain ⟨r,rfl⟩:=b;unfold hV0;rw [List.append_assoc]
 induction p with
 | nil=>simp [c]
 | cons a p ih=>rw [dL,eJ,h a s7];simp;simpa using ih (fun y d=>h y (by simp [d]))
theorem sN0 {W W':World} (h:Below W.heap.size W W'):KeepsOthers W W':=KeepsOthers.of_grownBy (gX0 h) (fun j o e=>by cases e)
theorem jH1 (o x:Ord) (w:World):Calls prog 293 #[o.agg,x.agg] w fun e w'=>e=Y (.bool (eD0 o x))/\Below w.heap.size w w':=by
 unfold Ord.agg
 by_cases a:x.kind=2
 ·have b:Hid (eD0 o x=false):=aB a;go_enter func293,ntmps293;go_wp2;go_ret;exact ⟨by rw [b.out];rfl,bel2 _ _ _⟩
 have f:=aC.2 a
 by_cases c:o.kind=2
 ·have b:Hid (eD0 o x=true):=by show _=_;unfold eD0;rw [aA a,aB c]
  clear a;go_enter func293,ntmps293;go_wp2;go_ret;exact ⟨by rw [b.out];rfl,bel2 _ _ _⟩
 have g:=aC.2 c
 by_cases d:o.side=1
 ·have b:Hid (eD0 o x=decide (x.price<o.price)):=by show _=_;unfold eD0;rw [aA a,aA c,aB d]
  clear a c;go_enter func293,ntmps293;go_wp2;go_ret;exact ⟨by rw [b.out];rfl,bel2 _ _ _⟩
 have i:=aC.2 d;have b:Hid (eD0 o x=decide (o.price<x.price)):=by show _=_;unfold eD0;rw [aA a,aA c,aA d]
 clear a c d;go_enter func293,ntmps293;go_wp2;go_ret;exact ⟨by rw [b.out];rfl,bel2 _ _ _⟩
theorem tA1 (i Z mb nn s:Nat) (vs vf v0 v1:Value) (rs:List Sot) (fr:List Nat) (S:Nat->List Ly) (o:Ord) (z:s<2) (P:(S s).length<=1000)
  (a1:∀x∈S s,soAt rs x.slot=(some x.o,x.age)) (w:World) (hB:BookAt w i Z mb nn vs vf v0 v1 rs fr S):
  Calls prog 276 #[.pointer (some ⟨i,0,none⟩),.int .i64 s,o.agg] w fun e W'=>e=.returned (.int .i64 (hV0 o ((S s).map Ly.o)))/\Below w.heap.size w W':=by
 refine (callsIn_wide (n:=4)).1 ?_;unfold Ord.agg;refine callsIn_of_wp_marks func276 rfl trivial ?_ rfl;simp only [ntmps276,dW,aZ,cU,eL,eW,Array.replicate_succ,Array.replicate_zero,eI,dZ,bX,dL]
 gi_wp2_with fail
 refine ⟨trivial,(callsIn_wide.2 (sM0 i _ _)).mono ?_⟩;rintro e w' ⟨rfl,rfl⟩
 gi_wp2_with fail
 have H:=bel2 w (.cells #[.int .i64 o.id,.int .i64 o.side,.int .i64 o.kind,.int .i64 o.price,.int .i64 o.qty] 92) (.cells #[.int .i64 0] 3);have U:=gA0 w (.cells #[.int .i64 o.id,.int .i64 o.side,.int .i64 o.kind,.int .i64 o.price,.int .i64 o.qty] 92) (.cells #[.int .i64 0] 3);have T:=eY0 w (.cells #[.int .i64 o.id,.int .i64 o.side,.int .i64 o.kind,.int .i64 o.price,.int .i64 o.qty] 92) (.cells #[.int .i64 0] 3);obtain ⟨w2,J⟩:∃w2,(w.alloc (.cells #[.int .i64 o.id,.int .i64 o.side,.int .i64 o.kind,.int .i64 o.price,.int .i64 o.qty] 92)).alloc (.cells #[.int .i64 0] 3)=w2:=⟨_,rfl⟩;have a2:w2.heap.size=w.heap.size+2:=by rw [<-J];simp
 rw [J] at H U T ⊢;clear J;have m:=bel2 w2 (.cells #[.pointer (some ⟨i,0,none⟩)] 161) (.cells #[.int .i64 s] 3);have bB:=gA0 w2 (.cells #[.pointer (some ⟨i,0,none⟩)] 161) (.cells #[.int .i64 s] 3);have bS:=eY0 w2 (.cells #[.pointer (some ⟨i,0,none⟩)] 161) (.cells #[.int .i64 s] 3);obtain ⟨W0,I⟩:∃W0,(w2.alloc (.cells #[.pointer (some ⟨i,0,none⟩)] 161)).alloc (.cells #[.int .i64 s] 3)=W0:=⟨_,rfl⟩;have a4:W0.heap.size=w.heap.size+4:=by rw [<-I];simp;omega
 rw [I] at m bB bS ⊢;clear I;have U:=aE0 U m lR7;have T:=aE0 T m lR7;have O:=aD0 H m;rw [a2] at bB bS;have HK:∀k,pbB i Z mb vs vf v0 v1 k->k<w.heap.size:=fun k hk=>hB.lt hk
 clear H m
 refine wpIn_rangeFunc_ownH (F:=Fence.wide) (n:=4) rfl d7 (gf:=254) (lb:=#[.pointer (some ⟨w.heap.size+2,0,none⟩),.pointer (some ⟨w.heap.size+2+1,0,none⟩)]) rfl trivial (enters_of func254 k7 rfl)
  (zO1 3 d7 (w.heap.size+2) (w.heap.size+2+1) w.heap.size i Z mb nn s vs vf v0 v1 rs fr S z P a1 HK W0 o7 (hB.below O lR7) bB bS) zM1 (zN1 o7) (aF _ _) (fun _=>rfl)
  (fun d W=>(hU0 W w.heap.size o/\W.heap[w.heap.size+1]? = some (.cells #[.int .i64 d.length] 3 (0,0))/\(∀y∈d,eD0 o y=false))/\Below w.heap.size w W)
  (fun c d W=>(c=.exit 0/\∃p x,d=p++[x]/\(∀y∈p,eD0 o y=false)/\eD0 o x=true/\W.heap[w.heap.size+1]? = some (.cells #[.int .i64 p.length] 3 (0,0)))/\Below w.heap.size w W)
  (OwnFrom.and (Own.from (fun s A B R z M E=>⟨gY0 z.1 M E,gY0 z.2.1 M E,z.2.2⟩) _) (ownFrom_below lR7 o7))
  (fun c=>OwnFrom.and (Own.from (fun s A B R z M E=>by obtain ⟨g0,p,x,g1,g2,g3,g4⟩:=z;exact ⟨g0,p,x,g1,g2,g3,gY0 g4 M E⟩) _) (ownFrom_below lR7 o7))
  ⟨⟨U,T,fun y G=>by cases G⟩,O⟩
  (fun x V W=>∃N,hU0 W N x/\V={ tmps:=#[.pointer (some ⟨i,0,none⟩),.int .i64 s,Ord.agg o,undef,undef,.pointer (some ⟨w.heap.size,0,none⟩),.int .i64 0,.pointer (some ⟨w.heap.size+1,0,none⟩),.pointer (some ⟨N,0,none⟩),.pointer (some ⟨i,0,none⟩),.int .i64 s,.func (.func 254) #[] #[.pointer (some ⟨w.heap.size+2,0,none⟩),.pointer (some ⟨w.heap.size+2+1,0,none⟩)],Ord.agg x,undef,undef,undef,undef,undef,undef],defers:=[] })
  (fun x V _ X Y R z M E=>by obtain ⟨N,q,u⟩:=z;exact ⟨N,gY0 q M (fun r e=>(E r e).2),u⟩)
  ?assign ?body ?done ?stop
 case assign=>
  rintro l d x W K ⟨⟨f,q,u⟩,a⟩ C;have lS:=a.size;unfold Ord.agg at C ⊢
  gi_wp2
  refine C _ _ ((KeepsOthers.alloc _ _).from _) (KpL.of_below (bel1 _ _) lS) ⟨⟨aE0 f (bel1 _ _) lR7,aE0 q (bel1 _ _) lR7,u⟩,a.alloc a.size _⟩ ⟨W.heap.size,heap_alloc_new _ _,rfl⟩
 case body=>
  rintro l d x V W hl ⟨r,E⟩ ⟨⟨f,q,u⟩,a⟩ ⟨N,L,rfl⟩ a3;have c0:=aA0 (j:=0) L rfl;have c1:=aA0 (j:=1) L rfl;have c2:=aA0 (j:=2) L rfl;have c3:=aA0 (j:=3) L rfl;have c4:=aA0 (j:=4) L rfl;have d0:=aA0 (j:=0) f rfl;have d1:=aA0 (j:=1) f rfl;have d2:=aA0 (j:=2) f rfl;have d3:=aA0 (j:=3) f rfl;have d4:=aA0 (j:=4) f rfl;have H1:Hid _:=f;have H2:Hid _:=q;have g:=hid7 a;clear f q a L E;unfold Ord.agg
  gi_wp2_with fail
  refine ⟨trivial,(CallsIn.inRound l (callsIn_wide.2 (jH1 o x _))).mono ?_⟩;rintro e W1 ⟨rfl,b⟩;have v:=aE0 H2.out b lR7;have e0:=aA0 (j:=0) v rfl;have e1:=aB0 (j:=0) v;cases hbt:eD0 o x with
  | true=>
   gi_wp2_with fail
   exact ⟨(sN0 b).from _,⟨rfl,d,x,rfl,u,hbt,v⟩,g.out.trans (b.mono g.out.size)⟩
  | false=>
   gi_wp2_with fail
   have a0:=aE0 H1.out b lR7;refine ⟨((sN0 b).trans (KeepsOthers.setCell _ _ _)).from _,⟨(b.mono g.out.size).setCell (p:=⟨w.heap.size+1,0,none⟩) s7 _,fun vs t e=>?_⟩,⟨aF0 a0 (aM0 _ ⟨w.heap.size+1,0,none⟩ _) s7,?_,fun y G=>?_⟩,(g.out.trans (b.mono g.out.size)).setCell (p:=⟨w.heap.size+1,0,none⟩) s7 _⟩
   ·exact aF0 (aE0 e b lR7) (aM0 _ ⟨w.heap.size+1,0,none⟩ _) s7
   ·rw [aN];exact aJ0 (j:=0) _ v
   ·rcases bQ.1 G with G | G
    ·exact u y G
    ·simp at G;subst G;exact hbt
 case done=>
  rintro D ys W hD rfl ⟨⟨f,q,u⟩,a⟩ C;have hc:=aA0 (j:=0) q rfl
  gi_wp2
  refine ⟨by simp,.inl ⟨_,_,rfl,run_takeDeferred C,?_⟩⟩;exact ⟨_,results_tmp rfl _ _ _,by rw [mM1 u,List.length_map];rfl,a.trans (belowK_b (w:=w) lR7 W D _ _ o7 C rfl rfl)⟩
 case stop=>
  rintro D c d W hD Q ⟨⟨rfl,p,x,rfl,f,q,u⟩,a⟩ C;have hc:=aA0 (j:=0) u rfl
  gi_wp2
  refine ⟨by simp,.inl ⟨_,_,rfl,run_takeDeferred C,?_⟩⟩;exact ⟨_,results_tmp rfl _ _ _,by rw [jG1 Q f q];rfl,a.trans (belowK_b (w:=w) lR7 W D _ _ o7 C rfl rfl)⟩
end
section
open Go.RowKit
theorem hE2 (d:Nat) (c:Int) (vs i:Value) (rs:List Sot) (fr:List Nat) (k:Nat) (o x:Ord) (a:Int) (w:World) (h:ArOr w d c vs i rs fr) (hk:soAt rs k=(some o,a)):
  Calls prog 288 #[E (some ⟨d,0,none⟩),.agg #[U G k,U G a],x.agg] w
   fun e w'=>e=Y .nilIface/\ArOr w' d c vs i (rs.set k (some x,a)) fr/\Out (aoB d vs i) w w':=by
 have q:=hid7 h;have l:=hid7 hk;clear h hk;unfold Ord.agg;go_enter func288,ntmps288;go_wp2_with fail;refine (xY1 d c vs i rs fr k o a _ (q.out.below (bel2 _ _ _) lR7) l.out).mono ?_;rintro e w1 ⟨n,g,m,rfl,rfl⟩;have f:=(n.block (w.heap.size+1) s7).trans (eY0 w _ _);have N:=aA0 (j:=0) f rfl;have O:=aA0 (j:=1) f rfl;have P:=aA0 (j:=2) f rfl;have Q:=aA0 (j:=3) f rfl;have R:=aA0 (j:=4) f rfl;have r:Hid (Below w.heap.size w w1):=aD0 (bel2 w _ _) n;have b:Hid (ArOr w1 d c (J (some ⟨g,0,none⟩) rs.length m) i rs fr):=q.out.below r.out lR7;obtain ⟨p,M,s,t,z,A,B,C,D,_,_⟩:=b.out.has l.out;simp only [aY,Option.some.injEq,Addr.mk.injEq,and_true,true_and] at t;obtain ⟨rfl,rfl⟩:=t;have F:=b.out.slots.frozenAt (k*7);have H:=b.out.slots.frozenAt (k*7+1);have I:=b.out.slots.frozenAt (k*7+2);have K:=b.out.slots.frozenAt (k*7+3);have L:=b.out.slots.frozenAt (k*7+4);clear n f;go_wp2;go_ret;obtain ⟨u,y⟩:=b.out.setThing (x:=x) p (by rw [l.out];rfl);rw [l.out] at u;exact ⟨rfl,u,(Out.of_below r.out lR7).trans (y.mono (fun j v=>aG (aH (by rw [v];rfl)))) (Went.refl _ _)⟩
def DBox (w:World) (b:Nat) (o:Ord):Prop:=w.heap[b]? = some (R #[U G o.id,U G o.side,U G o.kind,U G o.price,U G o.qty] 92 (0,0))
def ZBox (w:World) (b:Nat):Prop:=w.heap[b]? = some (R #[U G 0,U G 0,U G 0,U G 0,U G 0] 92 (0,0))
def boxed (w:World) (b:Nat) (o:Ord):World:=((((w.setCell ⟨b,0,none⟩ (U G o.id)).setCell ⟨b,1,none⟩ (U G o.side)).setCell ⟨b,2,none⟩ (U G o.kind)).setCell ⟨b,3,none⟩ (U G o.price)).setCell ⟨b,4,none⟩ (U G o.qty)
theorem hY0 (w:World) (b:Nat) (o:Ord):Out (fun j=>j=b) w (boxed w b o):=
 ((((aM0 w ⟨b,0,none⟩ _).trans (aM0 _ ⟨b,1,none⟩ _) (Went.refl _ _)).trans (aM0 _ ⟨b,2,none⟩ _) (Went.refl _ _)).trans (aM0 _ ⟨b,3,none⟩ _) (Went.refl _ _)).trans (aM0 _ ⟨b,4,none⟩ _) (Went.refl _ _)
theorem lX0 {w:World} {b:Nat} (o:Ord) (h:ZBox w b):DBox (boxed w b o) b o:=
 aJ0 (j:=4) _ (aJ0 (j:=3) _ (aJ0 (j:=2) _ (aJ0 (j:=1) _ (aJ0 (j:=0) _ h))))
def bX0 (o:Ord) (q:Int):Ord:=⟨o.id,o.side,o.kind,o.price,q⟩
structure Spot where
 bb:Nat
 off:Nat
 ty:TypeId
 vs:Array Value
 F:Nat->Prop
structure BookIs (w:World) (base:Nat) (sp:Spot) (v:Value) (l:List Ord):Prop where
 lt:sp.off<sp.vs.size
 ty:sp.ty≠92/\sp.ty≠146
 box:w.heap[sp.bb]? = some (R (sp.vs.setIfInBounds sp.off v) sp.ty (0,0))
 all:w.ownsRow base 92 5 v l.length (oV l)
 lim:∀j,sp.F j->j<w.heap.size
 far:∀j,v.ownBlock=some j->¬sp.F j
section
variable {w w':World} {base B:Nat} {sp:Spot} {v v' u:Value} {l l':List Ord} {S:Nat->Prop}
theorem BookIs.cell (h:BookIs w base sp v l):w.cell? ⟨sp.bb,sp.off,none⟩=some v:=aA0 (j:=sp.off) h.box (by simp [h.lt])
theorem BookIs.free (h:BookIs w base sp v l):w.frozen? ⟨sp.bb,sp.off,none⟩=false:=aB0 (j:=sp.off) h.box
theorem BookIs.below (h:BookIs w base sp v l) (a:Below B w w') (b:w.heap.size<=B):BookIs w' base sp v l:=
 ⟨h.lt,h.ty,(a.block sp.bb (aT (lt_of_block h.box) b)).trans h.box,cR0 h.all a b,fun j c=>aT (h.lim j c) a.size,h.far⟩
theorem BookIs.put (h:BookIs w base sp v l) (b:w.ownsRow base 92 5 v' l'.length (oV l')) (c:∀j,v'.ownBlock=some j->¬sp.F j):BookIs (w.setCell ⟨sp.bb,sp.off,none⟩ v') base sp v' l':=by
 refine ⟨h.lt,h.ty,?_,ownsRow_setCell_other b (fun e=>aH0 b h.box h.ty.1 e) _,fun j d=>aT (h.lim j d) s7,c⟩;have a:=aJ0 (j:=sp.off) v' h.box;rw [Array.setIfInBounds_setIfInBounds] at a;exact a
theorem wY0 (h:BookIs w base sp v l) (a:Out S w w') (b:¬S sp.bb) (c:∀k,v.ownBlock=some k->¬S k):BookIs w' base sp v l:=⟨h.lt,h.ty,aF0 h.box a b,aK0 h.all a c,fun j d=>aT (h.lim j d) a.size,h.far⟩
end
theorem dN1 (base:Nat) (i:Spot) (v:Value) (l:List Ord) (id:Int) (w:World) (h:BookIs w base i v l) (B:l.length<=1000):
  Calls prog 151 #[E (some ⟨i.bb,i.off,none⟩),U G id] w fun e w'=>e=Y (U G (idxO id l))/\Below w.heap.size w w':=by
 have u:=h.cell;have p:=hid7 h;obtain ⟨t,q,rfl,_,_⟩:=bO0 h.all;clear h;go_enter func151,ntmps151;go_wp2_with fail;go_loopw [12] (fun v wr=>∃k:Nat,k<=l.length/\v=U G k/\Below w.heap.size w wr/\idxF id k (l.drop k)=idxO id l) (fun v _=>l.length - (intOf v).toNat)
 case atStart=>exact ⟨0,aO _,rfl,aF _ _,rfl⟩
 case round=>
  obtain ⟨k,hk,rfl,m,n⟩:=hrel;have b:=hid7 m;have d:=hid7 n;clear m n
  by_cases a:k<l.length
  ·obtain ⟨g,j,o,r,x,y,z,A⟩:=cT0 (p.out.below b.out lR7).all a;simp only [aY,true_and] at o;obtain ⟨rfl,rfl⟩:=o
   by_cases c:(oAt l k).id=id
   ·have f:=hid7 c;rw [c] at r;clear c;go_wp2_with fail;go_ret;exact ⟨by rw [<-d.out,wI0 a f.out];rfl,b.out.alloc b.out.size _⟩
   ·have s:=aC.2 c;have f:=hid7 c;clear c;go_wp2_with fail;go_roundw
    case rel=>exact ⟨k+1,a,by go_num,b.out.alloc b.out.size _,(rM0 a f.out).trans d.out⟩
    case measure=>simp [intOf];omega
  ·go_wp2_with fail;go_ret;exact ⟨by rw [<-d.out,wJ0 o7];rfl,b.out⟩
theorem mN1 {w w1:World} {B:Nat} (b:Below B (w.alloc (R #[U G 0,U G 0,U G 0,U G 0,U G 0] 92)) w1) (a:w.heap.size<B):
  w1.heap[w.heap.size]? = some (R #[U G 0,U G 0,U G 0,U G 0,U G 0] 92 (0,0)):=(b.block _ a).trans (heap_alloc_new w _)
theorem bG0 {w:World} {b j:Nat} {vs:Array Value} {t:TypeId} {v:Value} (h:w.heap[b]? = some (R vs t (0,0))) (a:vs[j]? = some v):w.cell? ⟨b,j,none⟩=some v:=(cell_of_row w b j vs t (0,0) h).trans a
theorem gZ0 {w:World} {b j:Nat} {vs:Array Value} {t:TypeId} (h:w.heap[b]? = some (R vs t (0,0))):w.frozen? ⟨b,j,none⟩=false:=frozen_of_row w b j vs t h
end
end Go.Proofs.YtaelphbianmckaaGreatDoor
