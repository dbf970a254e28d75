/- DeskAnswers -/
import Derived.Test.YtaelphbianmckaaGreatDoorSI
import Derived.Test.YtaelphbianmckaaGreatDoorSJ
open Go.Value renaming int->U, pointer->E, slice->J
open Go.IntKind renaming i64->G
open Go.Obj renaming cells->R
open Go.Ending renaming returned->Y
open Go.Proofs.Tryz
open Go.RowKit.Below renaming refl->aF
open Bool renaming false_or->eD, and_eq_true->bE
open Int renaming le_refl->bP
open List renaming mem_cons_of_mem->aQ, mem_cons_self->aK, nil_append->bX, mem_append_left->bY, mem_cons->aR, map_congr_left->cJ, length_filter_le->cE, length_map->bU, mem_append->bQ, mem_singleton->bC, mem_filter->bM, map_append->bK, pairwise_cons->cV, length_append->aN, take_succ_eq_append_getElem->aM, filter_eq_self->eK, filter_congr->eG, length_cons->aZ, length_take->bF, take_append_of_le_length->dP, take_take->gC, take_of_length_le->cO
open Nat renaming le_trans->aI, zero_le->aO, le_add_right->bV, lt_of_lt_of_le->aT, zero_add->bT
open Or renaming inl->aH, inr->aG
open Go.Proofs.YtaelphbianmckaaGreatDoor.Out renaming of_below->aL, refl->bL
open Go.Proofs.YtaelphbianmckaaGreatDoor.Went renaming refl->aJ
open Go.World renaming ownsRow_nil->aU
set_option maxHeartbeats 8000000
set_option maxRecDepth 100000
namespace Go.Proofs.YtaelphbianmckaaGreatDoor
variable {k k1:EgK} {p q s:Int} {side:Int->Int} {L l:List Ord} {M:Mkt} {o x y:Ord} {w wc:World}
section
open Go.RowKit
theorem vL1 (h:LOk L) (i:s=1\/s=2) (j:x∈L) (g:o∈L) (a:fV0 s x<=fV0 s o) (b:wilB s p o=true):wilB s p x=true:=by
 have l:=h.ok x j;have k:=h.ok o g;unfold fV0 oU0 at a;unfold wilB at b ⊢
 by_cases e:x.kind=2
 ·rw [e];rfl
 ·rw [aA e] at a
  by_cases c:o.kind=2
  ·rw [aB c] at a;split at a <;> omega
  ·rw [aA c] at a;have d:=aC.2 c;have f:=aC.2 e;rw [d,eD] at b;rw [f,eD];rcases i with rfl | rfl
   ·rw [aB rfl,aB rfl] at a;simp at b ⊢;omega
   ·rw [aA d7,aA d7] at a;simp at b ⊢;omega
theorem pK1 {l':List Ord} (h:l.Perm l'):wilL s p l=wilL s p l':=by
 induction h with
 | nil=>rfl
 | cons x _ ih=>rw [bY0,bY0,ih]
 | swap x y l=>rw [bY0,bY0,bY0,bY0];omega
 | trans _ _ i1 i2=>exact i1.trans i2
theorem tU0 {s p:Int}:∀l:List Ord,wilL s p (bE0 s l)=wilL s p l
 | []=>rfl
 | o::T=>by
  have b:=tU0 (s:=s) (p:=p) T;unfold bE0 at b ⊢
  by_cases a:(o.side == s)=true
  ·rw [List.filter_cons_of_pos (p:=fun x:Ord=>x.side == s) a,bY0,bY0,b]
  ·rw [List.filter_cons_of_neg (p:=fun x:Ord=>x.side == s) a,bY0,b,aA (by simp only [bE];exact fun e=>a e.1),Int.zero_add]
theorem pL1 (s p:Int) (l:List Ord):wilL s p (aR0 s l)=wilL s p l:=
 (pK1 (fP0 (fV0 s) (bE0 s l))).trans (tU0 l)
theorem pM1 {s p:Int}:∀{l:List Ord},(∀o∈l,1<=o.qty)->0<=wilL s p l
 | [],_=>by simp [wilL]
 | o::T,h=>by
  have:=pM1 (s:=s) (p:=p) (l:=T) (fun x a=>h x (aQ _ a));have:=h o (aK ..);rw [bY0];split <;> omega
theorem vS0 {s p:Int}:∀{A T:List Ord} {o:Ord},(∀x∈A++o::T,1<=x.qty)->(∀x∈A,(x.side == s&& wilB s p x)=true)->(o.side == s&& wilB s p o)=true->sumO A+o.qty<=wilL s p (A++o::T)
 | [],T,o,hq,_,ho=>by
  have:=pM1 (s:=s) (p:=p) (l:=T) (fun x b=>hq x (by rw [bX];exact aQ _ b));rw [bX,bY0,aB ho,sumO];omega
 | a::A,T,o,hq,hA,ho=>by
  have c:=vS0 (A:=A) (T:=T) (fun x b=>hq x (aQ _ b)) (fun x b=>hA x (aQ _ b)) ho;rw [List.cons_append,bY0,aB (hA a (aK ..)),sumO];omega
theorem oI0 (h:LOk L) (D:s=1\/s=2) (h0:0<=q) (b:y∈eatL q (aR0 s L)):∃o∈L,o.side=s/\o.kind=y.kind/\o.price=y.price/\(wilB s p o=true->q<wilL s p L):=by
 have key:∀{Z:List Ord} {n:Int},(∀x∈Z,1<=x.qty)->0<=n->y∈eatL n Z->∃A o T,Z=A++o::T/\o.kind=y.kind/\o.price=y.price/\n<sumO A+o.qty:=by
  intro Z
  induction Z with
  | nil=>intro n _ _ b;cases b
  | cons z Z ih=>
   intro n w H b;have F:=w z (aK ..);have f:∀x∈Z,1<=x.qty:=fun x c=>w x (aQ _ c)
   have g:y∈Z->n<z.qty->∃A o T,z::Z=A++o::T/\o.kind=y.kind/\o.price=y.price/\n<sumO A+o.qty:=fun a C=>by
    obtain ⟨A,T,e⟩:=List.append_of_mem a;subst e;have G:0<=sumO A:=pD1 (fun x c=>f x (bY _ c));have E:=f y a;exact ⟨z::A,y,T,rfl,rfl,rfl,by rw [sumO];omega⟩
   rw [eatL] at b
   by_cases h1:n<z.qty
   ·rw [aB h1] at b
    by_cases u:n<=0
    ·rw [aB u] at b;rcases aR.1 b with e | a
     ·subst e;exact ⟨[],y,Z,rfl,rfl,rfl,by rw [sumO];omega⟩
     ·exact g a h1
    ·rw [aA u] at b;rcases aR.1 b with e | a
     ·subst e;exact ⟨[],z,Z,rfl,rfl,rfl,by rw [sumO];omega⟩
     ·exact g a h1
   ·rw [aA h1] at b;obtain ⟨A,o,T,e,k1,k2,k3⟩:=ih f o7 b;exact ⟨z::A,o,T,by rw [e];rfl,k1,k2,by rw [sumO];omega⟩
 have k:∀x∈aR0 s L,1<=x.qty:=fun x c=>(h.ok x (bD0.1 c).1).2.2.1
 obtain ⟨A,o,T,e,k1,k2,k3⟩:=key k h0 b;have l:o∈aR0 s L:=by rw [e];exact List.mem_append_right _ (aK ..)
 obtain ⟨i,j⟩:=bD0.1 l;refine ⟨o,i,j,k1,k2,fun v=>?_⟩;have d:=jX0 (rank:=fV0 s) (bE0 s L);rw [show kV0 (fV0 s) (bE0 s L)=A++o::T from e,List.pairwise_append] at d
 have B:sumO A+o.qty<=wilL s p (A++o::T):=vS0 (fun x c=>k x (by rw [e];exact c)) (fun x c=>by
  have r:x∈aR0 s L:=by rw [e];exact bY _ c
  obtain ⟨m,t⟩:=bD0.1 r;rw [bE];exact ⟨beq_iff_eq.2 t,vL1 h D m i (d.2.2 x c o (aK ..)) v⟩) (by rw [bE];exact ⟨beq_iff_eq.2 j,v⟩)
 rw [<-e,pL1] at B;omega
theorem bI1 (h:LOk L) (h0:0<=q) (k:∀p,1<=p->p<=1000000->min (wilL 1 p L) (wilL 2 p L)<=q) (e:x∈eatL q (aR0 1 L)) (f:y∈eatL q (aR0 2 L)):¬(x.kind=2\/y.kind=2\/y.price<=x.price):=fun l=>by
 have a:∀p,1<=p->p<=1000000->(x.kind=2\/p<=x.price)->(y.kind=2\/y.price<=p)->False:=fun p r s i j=>by
  obtain ⟨o,_,_,k1,k2,k3⟩:=oI0 (p:=p) h (aH rfl) h0 e;obtain ⟨z,_,_,m,g,n⟩:=oI0 (p:=p) h (aG rfl) h0 f;have t:=k3 (by unfold wilB;rw [k1,k2];rcases i with c | c <;> simp [c]);have u:=n (by unfold wilB;rw [m,g];rcases j with c | c <;> simp [c]);have:=k p r s;omega
 obtain ⟨o,b,_,_,k2,_⟩:=oI0 (p:=1) h (aH rfl) h0 e;obtain ⟨z,d,_,_,g,_⟩:=oI0 (p:=1) h (aG rfl) h0 f;have v:=h.ok o b;have w:=h.ok z d;rcases l with c | c | c
 ·exact a y.price o7 o7 (aH c) (aG (bP _))
 ·exact a x.price o7 o7 (aG (bP _)) (aH c)
 ·exact a y.price o7 o7 (aG c) (aG (bP _))
theorem pN1 (h:LOk l) (a:o∈l):okO o=true:=by
 have h1:=h.side o a;have b:=h.ok o a;unfold okO inC;simp only [bE,decide_eq_true_iff];omega
theorem eN1 (h:LOk l):demO p l=wilL 1 p l:=by
 unfold demO wilL
 congr 1
 refine cJ (fun o a=>?_)
 have e:fB0 p o=(o.side == 1&& wilB 1 p o):=by
  unfold fB0 wilB;rw [pN1 h a];rcases h.side o a with e | e <;> simp [e]
 rw [e]
theorem eO1 (h:LOk l):supO p l=wilL 2 p l:=by
 unfold supO wilL
 congr 1
 refine cJ (fun o a=>?_)
 have e:cY0 p o=(o.side == 2&& wilB 2 p o):=by
  unfold cY0 wilB;rw [pN1 h a];rcases h.side o a with e | e <;> simp [e]
 rw [e]
theorem fS0 {more:Int} (around:Int) (h:LOk l) (a:0<(aO0 (aS0 l more) around).qty):FOk (aO0 (aS0 l more) around).price ⟨[],l,(aO0 (aS0 l more) around).qty⟩:=by
 obtain ⟨e,_⟩:=vA0 around a;rw [eN1 h,eO1 h] at e;exact ⟨h,by show 0<=(aO0 (aS0 l more) around).qty;omega,by show (aO0 (aS0 l more) around).qty<=wilL 1 _ l;omega,by show (aO0 (aS0 l more) around).qty<=wilL 2 _ l;omega⟩
theorem bJ1 {more:Int} (around:Int) (h:LOk l) (a:bL0 l more≠[]) {k:Nat} (n:0<(aO0 (aS0 l more) around).qty) (hk:∀j,j<k->0<(aY0 (aO0 (aS0 l more) around).price ⟨[],l,(aO0 (aS0 l more) around).qty⟩ j).q) (o:(aY0 (aO0 (aS0 l more) around).price ⟨[],l,(aO0 (aS0 l more) around).qty⟩ k).q=0)
  (b:x∈aR0 1 (aY0 (aO0 (aS0 l more) around).price ⟨[],l,(aO0 (aS0 l more) around).qty⟩ k).L) (d:y∈aR0 2 (aY0 (aO0 (aS0 l more) around).price ⟨[],l,(aO0 (aS0 l more) around).qty⟩ k).L):¬(x.kind=2\/y.kind=2\/y.price<=x.price):=by
 have m:∀p,min (demO p l) (supO p l)<=(aO0 (aS0 l more) around).qty:=fun p=>uZ0 around p a
 have i:=fS0 around h n;generalize aO0 (aS0 l more) around=c at *;obtain ⟨e,f⟩:=aW1 i k hk;rw [o] at e f;rw [e] at b;rw [f] at d;have g:(⟨[],l,c.qty⟩:FS).q - 0=c.qty:=Int.sub_zero _;rw [g] at b d;exact bI1 h o7 (fun p _ _=>by rw [<-eN1 h,<-eO1 h];exact m p) b d
def uncA (m:Mkt):List Fil×Mkt:=
 if 0<(aI0 m).qty then ((kA0 (aI0 m).price (aI0 m).qty m.L).fs,{ m with L:=(kA0 (aI0 m).price (aI0 m).qty m.L).L,an:=(aI0 m).price,la:=(aI0 m).price }) else ([],m)
theorem xT0 (m:Mkt):uncM m=((uncA m).1,{ (uncA m).2 with L:=limL (uncA m).2.L }):=by
 unfold uncM uncA;split <;> rfl
theorem bK1 {p:Int}:∀(n:Nat) {s:FS},FOk p s->FOk p (jN0 p n s)/\(jN0 p n s).L.length<=s.L.length
 | 0,_,h=>⟨h,lR7⟩
 | n+1,s,h=>by
  unfold jN0
  by_cases d:s.q<=0
  ·rw [aB d];exact ⟨h,lR7⟩
  ·rw [aA d];obtain ⟨⟨x,T,y,U,_,_,_,_,_,_,_,_,_,_,_,_,e,_,_,_⟩,h1⟩:=jM0 h o7;have c:=bK1 n h1;refine ⟨c.1,aI c.2 ?_⟩;rw [e];have a:=cE (fun o:Ord=>decide (0<o.qty)) ((bR0 x.id (lotN s) s.L).map (cutF y.id (lotN s)));have b:=cE (fun o:Ord=>decide (0<o.qty)) (s.L.map (cutF x.id (lotN s)));rw [bU] at a b;exact aI a b
theorem eP1 {m:Mkt} (h:LOk m.L):LOk (uncA m).2.L/\(uncA m).2.L.length<=m.L.length:=by
 unfold uncA;split
 ·rename_i hq;have h1:=bK1 (m.L.length+1) (fS0 (more:=m.la) m.la h hq);exact ⟨h1.1.ok,h1.2⟩
 ·exact ⟨h,lR7⟩
theorem vM1 {m:Mkt} (h:LOk m.L) (a:m.L.length<=100):(uncA m).2.L.length<=100:=aI (eP1 h).2 a
def upF (f:Int->Int) (k v:Int):Int->Int:=fun x=>if x=k then v else f x
theorem eU0 (f:Int->Int) (k v:Int):upF f k v k=v:=aB rfl
theorem dJ0 {f:Int->Int} {k v x:Int} (h:x≠k):upF f k v x=f x:=aA h
def eN0 (lots side:Int->Int) (L:List Ord):Prop:=∀x∈L,lots x.id=x.qty/\side x.id=x.side
theorem eN0.sub {lots side:Int->Int} {L L':List Ord} (h:eN0 lots side L) (a:∀x∈L',x∈L):eN0 lots side L':=fun x b=>h x (a x b)
theorem eN0.up {lots side:Int->Int} {L:List Ord} (h:eN0 lots side L) {k v:Int} (hk:∀x∈L,x.id≠k):eN0 (upF lots k v) side L:=fun x a=>⟨(dJ0 (hk x a)).trans (h x a).1,(h x a).2⟩
theorem eN0.upS {lots side:Int->Int} {L:List Ord} (h:eN0 lots side L) {k v:Int} (hk:∀x∈L,x.id≠k):eN0 lots (upF side k v) L:=fun x a=>⟨(h x a).1,(dJ0 (hk x a)).trans (h x a).2⟩
theorem tV0 {id n:Int} (h:x∈bR0 id n L):∃y∈L,y.id=x.id/\y.side=x.side/\y.kind=x.kind/\y.price=x.price:=by
 obtain ⟨y,a,e,_⟩:=nZ0 h;exact ⟨y,a,by rw [e,tD0],by rw [e,jA0],by rw [e,tE0],by rw [e,mB0]⟩
theorem eN0.less {lots side:Int->Int} {L:List Ord} (h:eN0 lots side L) (id n:Int):eN0 (upF lots id (lots id - n)) side (bR0 id n L):=fun x c=>by
 obtain ⟨y,d,e,_⟩:=nZ0 c;have hk:=h y d
 by_cases hi:y.id=id
 ·have a:x=cutO n y:=by rw [e];unfold cutF;rw [aB hi]
  have b:x.id=id:=by rw [e,tD0];exact hi
  refine ⟨?_,by rw [e,tD0,jA0];exact hk.2⟩;rw [b,eU0,<-hi,hk.1,a];rfl
 ·have a:x=y:=by rw [e];exact kO0 hi
  subst a;exact ⟨(dJ0 hi).trans hk.1,hk.2⟩
def pO1 (lots side:Int->Int) (f:Fil):Prop:=1<=f.qty/\side f.buyer=1/\side f.seller=2/\f.qty<=lots f.buyer/\f.qty<=lots f.seller
def oJ0 (lots:Int->Int) (f:Fil):Int->Int:=upF (upF lots f.buyer (lots f.buyer - f.qty)) f.seller (upF lots f.buyer (lots f.buyer - f.qty) f.seller - f.qty)
def fM0 (side:Int->Int):(Int->Int)->List Fil->Prop
 | _,[]=>True
 | lots,f::fs=>pO1 lots side f/\fM0 side (oJ0 lots f) fs
def cA0:(Int->Int)->List Fil->Int->Int
 | lots,[]=>lots
 | lots,f::fs=>cA0 (oJ0 lots f) fs
theorem fT0:∀(fs:List Fil) (lots:Int->Int) (f:Fil),cA0 lots (fs++[f])=oJ0 (cA0 lots fs) f
 | [],_,_=>rfl
 | _::fs,_,f=>fT0 fs _ f
theorem fM0.snoc {side:Int->Int}:∀{fs:List Fil} {lots:Int->Int} {f:Fil},fM0 side lots fs->pO1 (cA0 lots fs) side f->fM0 side lots (fs++[f])
 | [],_,_,_,h=>⟨h,trivial⟩
 | _::_,_,_,⟨h1,h2⟩,h=>⟨h1,h2.snoc h⟩
theorem eQ1 {s:FS} {lots:Int->Int} (h:FOk p s) (A:0<s.q) (hk:eN0 lots side s.L):∃f,(fF0 p s).fs=s.fs++[f]/\pO1 lots side f/\eN0 (oJ0 lots f) side (fF0 p s).L/\(∃x∈s.L,x.id=f.buyer)/\(∃y∈s.L,y.id=f.seller)/\∀z∈(fF0 p s).L,∃u∈s.L,u.id=z.id:=by
 obtain ⟨⟨x,T,y,U,c,d,g,i,a,b,D,h1,E,t,w,_,e,_,_,_⟩,_⟩:=jM0 h A;have j:x.side=1:=(bD0.1 (show x∈aR0 1 s.L by rw [c];exact aK ..)).2;have k:y.side=2:=(bD0.1 (show y∈aR0 2 s.L by rw [d];exact aK ..)).2;have m:=hk x a;have n:=hk y b;refine ⟨⟨x.id,y.id,p,lotN s⟩,?_,⟨h1,m.2.trans j,n.2.trans k,by show lotN s<=lots x.id;rw [m.1];exact t,by show lotN s<=lots y.id;rw [n.1];exact w⟩,?_,⟨x,a,rfl⟩,⟨y,b,rfl⟩,fun z l=>?_⟩
 ·show s.fs++[⟨(mI0 1 s.L).id,(mI0 2 s.L).id,p,lotN s⟩]=_;rw [g,i]
 ·rw [e];exact (hk.less x.id (lotN s)).less y.id (lotN s)
 ·rw [e] at l;obtain ⟨u,B,o,_⟩:=tV0 l;obtain ⟨v,C,r,_⟩:=tV0 B;exact ⟨v,C,by rw [r,o]⟩
def pP1 (L:List Ord) (fs:List Fil):Prop:=∀f∈fs,(∃x∈L,x.id=f.buyer)/\∃y∈L,y.id=f.seller
theorem tW0 {p:Int} {s:FS} {lots side:Int->Int} (h:FOk p s) (n:s.fs=[]) (hk:eN0 lots side s.L):∀k,(∀j,j<k->0<(aY0 p s j).q)->fM0 side lots (aY0 p s k).fs/\eN0 (cA0 lots (aY0 p s k).fs) side (aY0 p s k).L/\pP1 s.L (aY0 p s k).fs/\∀z∈(aY0 p s k).L,∃u∈s.L,u.id=z.id
 | 0,_=>by
  show fM0 side lots s.fs/\eN0 (cA0 lots s.fs) side s.L/\pP1 s.L s.fs/\∀z∈s.L,∃u∈s.L,u.id=z.id;rw [n];exact ⟨trivial,hk,(fun f D=>by cases D),fun z m=>⟨z,m,rfl⟩⟩
 | k+1,hq=>by
  obtain ⟨h1,t,B,d⟩:=tW0 h n hk k (fun j E=>hq j o7);obtain ⟨f,e,w,A,⟨x,F,o⟩,⟨y,G,r⟩,C⟩:=eQ1 (iM0 h k (fun j E=>hq j o7)) (hq k o7) t;show fM0 side lots (fF0 p (aY0 p s k)).fs/\eN0 (cA0 lots (fF0 p (aY0 p s k)).fs) side (fF0 p (aY0 p s k)).L/\pP1 s.L (fF0 p (aY0 p s k)).fs/\∀z∈(fF0 p (aY0 p s k)).L,∃u∈s.L,u.id=z.id;rw [e,fT0];refine ⟨h1.snoc w,A,fun g a=>?_,fun z m=>?_⟩
  ·rcases bQ.1 a with a | a
   ·exact B g a
   ·rw [bC.1 a];obtain ⟨u,i,b⟩:=d x F;obtain ⟨v,l,c⟩:=d y G;exact ⟨⟨u,i,b.trans o⟩,⟨v,l,c.trans r⟩⟩
  ·obtain ⟨u,i,b⟩:=C z m;obtain ⟨v,l,c⟩:=d u i;exact ⟨v,l,c.trans b⟩
theorem vT0 {p:Int}:∀(n:Nat) (s:FS),∃K,K<=n/\jN0 p n s=aY0 p s K/\(∀j,j<K->0<(aY0 p s j).q)/\((aY0 p s K).q<=0\/K=n)
 | 0,s=>⟨0,lR7,rfl,fun j a=>absurd a o7,aG rfl⟩
 | n+1,s=>by
  by_cases b:s.q<=0
  ·refine ⟨0,aO _,?_,fun j a=>absurd a o7,aH b⟩;unfold jN0;rw [aB b];rfl
  ·obtain ⟨K,f,e,a,d⟩:=vT0 n (fF0 p s);refine ⟨K+1,o7,?_,fun j c=>?_,?_⟩
   ·unfold jN0;rw [aA b,e,fL0]
   ·cases j with
    | zero=>show 0<s.q;omega
    | succ j=>rw [<-fL0];exact a j o7
   ·rw [<-fL0];exact d.imp id (fun e=>by omega)
theorem vU0 (h:FOk p ⟨[],L,q⟩):∃K,kA0 p q L=aY0 p ⟨[],L,q⟩ K/\(aY0 p ⟨[],L,q⟩ K).q=0/\∀j,j<K->0<(aY0 p ⟨[],L,q⟩ j).q:=by
 obtain ⟨K,i,e,a,b⟩:=vT0 (p:=p) (L.length+1) ⟨[],L,q⟩;have f:=(iM0 h K a).nn;refine ⟨K,e,?_,a⟩;rcases b with b | b
 ·omega
 ·by_cases h0:(aY0 p ⟨[],L,q⟩ K).q=0
  ·exact h0
  ·have:=jY0 h K (fun j d=>by
    by_cases c:j=K
    ·subst c;omega
    ·exact a j o7)
   have g:(⟨[],L,q⟩:FS).L.length=L.length:=rfl;omega
def bE2 (L:List Ord):Prop:=∀x∈L,∀y∈L,x.side=1->y.side=2->x.price<y.price
theorem bL1 {lots:Int->Int} (h:LOk M.L) (B:1<=M.la/\M.la<=1000000) (hk:eN0 lots side M.L):
  fM0 side lots (uncM M).1/\eN0 (cA0 lots (uncM M).1) side (uncM M).2.L/\bE2 (uncM M).2.L/\(∀x∈(uncM M).2.L,x.kind=1/\∃y∈M.L,y.id=x.id)/\pP1 M.L (uncM M).1:=by
 have b:bL0 M.L M.la≠[]:=by
  unfold bL0;rw [aB (show 0<M.la by omega)];simp
 unfold uncM
 by_cases g:0<(aI0 M).qty
 ·rw [aB g];have o:FOk (aI0 M).price ⟨[],M.L,(aI0 M).qty⟩:=fS0 M.la h g;obtain ⟨K,e,d,q⟩:=vU0 o;obtain ⟨h1,t,i,c⟩:=tW0 o rfl hk K q;show fM0 side lots (kA0 (aI0 M).price (aI0 M).qty M.L).fs/\eN0 (cA0 lots (kA0 (aI0 M).price (aI0 M).qty M.L).fs) side (limL (kA0 (aI0 M).price (aI0 M).qty M.L).L)/\bE2 (limL (kA0 (aI0 M).price (aI0 M).qty M.L).L)/\(∀x∈limL (kA0 (aI0 M).price (aI0 M).qty M.L).L,x.kind=1/\∃y∈M.L,y.id=x.id)/\pP1 M.L (kA0 (aI0 M).price (aI0 M).qty M.L).fs;rw [e];refine ⟨h1,t.sub (fun x a=>(bM.1 a).1),fun x a y j k m=>?_,fun x a=>⟨by simpa using (bM.1 a).2,c x (bM.1 a).1⟩,i⟩;have:=bJ1 M.la h b g q d (x:=x) (y:=y) (bD0.2 ⟨(bM.1 a).1,k⟩) (bD0.2 ⟨(bM.1 j).1,m⟩);have u:¬y.price<=x.price:=fun e=>this (aG (aG e))
  omega
 ·rw [aA g];refine ⟨trivial,hk.sub (fun x a=>(bM.1 a).1),fun x a y j k m=>?_,fun x a=>⟨by simpa using (bM.1 a).2,x,(bM.1 a).1,rfl⟩,(fun f A=>by cases A)⟩
  have w:∀p,1<=p->p<=1000000->min (wilL 1 p M.L) (wilL 2 p M.L)<=0:=fun p _ _=>by
   have:=uZ0 (l:=M.L) (more:=M.la) M.la p b;rw [eN1 h,eO1 h] at this;have e:(aO0 (aS0 M.L M.la) M.la).qty=(aI0 M).qty:=rfl;omega
  have n:∀Z:List Ord,(∀z∈Z,1<=z.qty)->∀z∈Z,z∈eatL 0 Z:=fun Z v z d=>by rw [oB0 v];exact d
  have r:∀s,∀z∈aR0 s M.L,1<=z.qty:=fun s z d=>(h.ok z (bD0.1 d).1).2.2.1
  have:=bI1 h (bP 0) w (n _ (r 1) x (bD0.2 ⟨(bM.1 a).1,k⟩)) (n _ (r 2) y (bD0.2 ⟨(bM.1 j).1,m⟩));have u:¬y.price<=x.price:=fun e=>this (aG (aG e))
  omega
def nD0 (st dy an:Int):Int->List Fil->Prop
 | _,[]=>True
 | la,f::fs=>dZ0 st dy an la f.price=true/\nD0 st dy an f.price fs
theorem nD0.snoc {st dy a:Int}:∀{fs:List Fil} {la:Int} {f:Fil},nD0 st dy a la fs->dZ0 st dy a (dE0 la (fs.map Fil.price)) f.price=true->nD0 st dy a la (fs++[f])
 | [],_,_,_,h=>⟨h,trivial⟩
 | _::_,_,_,⟨h1,h2⟩,h=>⟨h1,h2.snoc h⟩
theorem hD1 {P:Int->Prop}:∀{ts:List Int} {la:Int},P la->(∀t∈ts,P t)->P (dE0 la ts)
 | [],_,h,_=>h
 | t::ts,_,_,h=>hD1 (ts:=ts) (la:=t) (h t (aK ..)) (fun u a=>h u (aQ _ a))
structure MF (M:Mkt) (o:Ord) (lots side:Int->Int) (s:MS):Prop where
 fok:fM0 side lots s.fs
 kp:eN0 (cA0 lots s.fs) side s.L
 me:cA0 lots s.fs o.id=s.q/\side o.id=o.side
 new:∀x∈s.L,x.id≠o.id
 ts:s.ts=s.fs.map Fil.price
 bands:nD0 M.st M.dy M.an M.la s.fs
 nn:0<=s.q
 sub:∀x∈s.L,∃y∈M.L,y.id=x.id/\y.side=x.side/\y.kind=x.kind/\y.price=x.price
 len:s.L.length<=M.L.length
 tsr:∀t∈s.ts,1<=t/\t<=1000000
 who:∀f∈s.fs,(f.buyer=o.id\/∃x∈M.L,x.id=f.buyer)/\(f.seller=o.id\/∃x∈M.L,x.id=f.seller)
theorem vN1 (id n:Int) (L:List Ord):(bR0 id n L).length<=L.length:=by
 unfold bR0;have:=cE (fun o:Ord=>decide (0<o.qty)) (L.map (cutF id n));rw [bU] at this;exact this
theorem kF1 {T:List Ord} {s:MS} {lots:Int->Int} (h:MF M o lots side s) (p:MOk (x::T) s) (N:0<s.q) (O:o.side=1\/o.side=2) (Q:x.side=3 - o.side) (K:alM M s.ts x.price=true):MF M o lots side (iN0 o x s):=by
 have b:=p.here x (aK ..);have j:=p.lots N;have n:=h.kp x b;have l:=h.new x b;have A:dZ0 M.st M.dy M.an (dE0 M.la (s.fs.map Fil.price)) x.price=true:=by rw [<-h.ts];exact K
 have a:∀y∈bR0 x.id (min s.q x.qty) s.L,y.id≠o.id:=fun y v=>by
  obtain ⟨z,w,e,_⟩:=tV0 v;rw [<-e];exact h.new z w
 have d:∀y∈bR0 x.id (min s.q x.qty) s.L,∃z∈M.L,z.id=y.id/\z.side=y.side/\z.kind=y.kind/\z.price=y.price:=fun y v=>by
  obtain ⟨z,w,C,D,E,F⟩:=tV0 v;obtain ⟨u,P,G,H,I,J⟩:=h.sub z w;exact ⟨u,P,by rw [G,C],by rw [H,D],by rw [I,E],by rw [J,F]⟩
 obtain ⟨B,m,k,_⟩:=h.sub x b;have f:∀t∈s.ts++[x.price],1<=t/\t<=1000000:=fun t r=>(bQ.1 r).elim (h.tsr t) (fun r=>by rw [bC.1 r];have:=p.ok.ok x b;omega)
 have c:=aI (vN1 x.id (min s.q x.qty) s.L) h.len;rcases O with h1 | h1
 ·have e:mK0 o x (min s.q x.qty)=⟨o.id,x.id,x.price,min s.q x.qty⟩:=aB h1;unfold iN0;rw [e];refine ⟨h.fok.snoc ⟨j.1,h.me.2.trans h1,n.2.trans o7,by show min s.q x.qty<=cA0 lots s.fs o.id;rw [h.me.1];exact j.2.2,by show min s.q x.qty<=cA0 lots s.fs x.id;rw [n.1];exact j.2.1⟩,?_,⟨?_,h.me.2⟩,a,by show s.ts++[x.price]=_;rw [h.ts,bK];rfl,h.bands.snoc A,by show 0<=s.q - min s.q x.qty;omega,d,c,f,fun g i=>(bQ.1 i).elim (h.who g) (fun i=>by rw [bC.1 i];exact ⟨aH rfl,aG ⟨B,m,k⟩⟩)⟩
  ·rw [fT0];exact (h.kp.up h.new).less x.id (min s.q x.qty)
  ·rw [fT0];show upF (upF (cA0 lots s.fs) o.id (cA0 lots s.fs o.id - min s.q x.qty)) x.id _ o.id=s.q - min s.q x.qty;rw [dJ0 (fun e=>l e.symm),eU0,h.me.1]
 ·have e:mK0 o x (min s.q x.qty)=⟨x.id,o.id,x.price,min s.q x.qty⟩:=aA o7;unfold iN0;rw [e];refine ⟨h.fok.snoc ⟨j.1,n.2.trans o7,h.me.2.trans h1,by show min s.q x.qty<=cA0 lots s.fs x.id;rw [n.1];exact j.2.1,by show min s.q x.qty<=cA0 lots s.fs o.id;rw [h.me.1];exact j.2.2⟩,?_,⟨?_,h.me.2⟩,a,by show s.ts++[x.price]=_;rw [h.ts,bK];rfl,h.bands.snoc A,by show 0<=s.q - min s.q x.qty;omega,d,c,f,fun g i=>(bQ.1 i).elim (h.who g) (fun i=>by rw [bC.1 i];exact ⟨aG ⟨B,m,k⟩,aH rfl⟩)⟩
  ·rw [fT0];exact (h.kp.less x.id (min s.q x.qty)).up a
  ·rw [fT0];show upF (upF (cA0 lots s.fs) x.id (cA0 lots s.fs x.id - min s.q x.qty)) o.id (upF (cA0 lots s.fs) x.id (cA0 lots s.fs x.id - min s.q x.qty) o.id - min s.q x.qty) o.id=s.q - min s.q x.qty;rw [eU0,dJ0 (fun e=>l e.symm),h.me.1]
theorem pQ0 {M:Mkt} {o:Ord} {lots side:Int->Int} (d:o.side=1\/o.side=2):∀(X:List Ord) (s:MS),MF M o lots side s->MOk X s->(∀x∈X,x.side=3 - o.side)->MF M o lots side (cC0 (alM M) o X s).1
 | [],s,h,_,_=>h
 | x::T,s,h,hM,hX=>by
  by_cases b:0<s.q
  ·by_cases hk:x.kind=2
   ·rw [jZ0 hk];exact pQ0 d T s h hM.pass (fun y e=>hX y (aQ _ e))
   ·by_cases f:farB o x=true
    ·rw [jB0 b hk f];exact h
    ·have a:farB o x=false:=by simpa using f
     by_cases c:alM M s.ts x.price=true
     ·rw [fK0 b hk a c];exact pQ0 d T _ (kF1 h hM b d (hX x (aK ..)) c) (hM.step o b) (fun y e=>hX y (aQ _ e))
     ·rw [gT0 b hk a (by simpa using c)];exact h
  ·rw [eC0 o7];exact h
theorem vO1 (c:o.side=1\/o.side=2) (d:x.kind≠2) (e:y.kind≠2) (b:fV0 (3 - o.side) x<=fV0 (3 - o.side) y) (a:farB o x=true):farB o y=true:=by
 unfold fV0 oU0 at b;rw [aA d,aA e] at b;unfold farB at a ⊢;rcases c with h | h
 ·rw [h] at b a ⊢;simp at b a ⊢;exact ⟨a.1,o7⟩
 ·rw [h] at b a ⊢;simp at b a ⊢;exact ⟨a.1,o7⟩
theorem vV0 {M:Mkt} {o:Ord} (C:o.side=1\/o.side=2):∀(X:List Ord) (s s':MS),MOk X s->X.Pairwise (fun a b=>fV0 (3 - o.side) a<=fV0 (3 - o.side) b)->(∀x∈X,x.kind≠2)->(∀y∈s.L,y.side=3 - o.side->y∈X)->cC0 (alM M) o X s=(s',false)->0<s'.q->∀y∈s'.L,y.side=3 - o.side->farB o y=true
 | [],s,s',_,_,_,hall,e,_=>fun y n c=>by
  have p:(s,false)=(s',false):=e;injection p with p _;subst p;exact absurd (hall y n c) s7
 | x::T,s,s',hM,hP,hK,hall,e,hq'=>fun y n c=>by
  by_cases m:0<s.q
  ·have hk:=hK x (aK ..)
   by_cases l:farB o x=true
   ·rw [jB0 m hk l] at e;injection e with e _;subst e;rcases aR.1 (hall y n c) with rfl | i
    ·exact l
    ·exact vO1 C hk (hK y (aQ _ i)) ((cV.1 hP).1 y i) l
   ·have d:farB o x=false:=by simpa using l
    by_cases B:alM M s.ts x.price=true
    ·rw [fK0 m hk d B] at e;refine vV0 C T _ s' (hM.step o m) (cV.1 hP).2 (fun z A=>hK z (aQ _ A)) (fun z A k=>?_) e hq' y n c
     have f:0<(iN0 o x s).q:=by
      by_cases h0:(iN0 o x s).q<=0
      ·rw [eC0 h0] at e;injection e with e _;subst e;exact hq'
      ·omega
     have F:min s.q x.qty=x.qty:=by
      have:0<s.q - min s.q x.qty:=f;omega
     obtain ⟨u,E,r,j⟩:=nZ0 (show z∈bR0 x.id (min s.q x.qty) s.L from A);have v:u.side=3 - o.side:=by rw [r,jA0] at k;exact k
     rcases aR.1 (hall u E v) with w | g
     ·exfalso;subst w;rw [r,xM0] at j;have:0<u.qty - min s.q u.qty:=j;omega
     ·have t:u.id≠x.id:=fun D=>(List.nodup_cons.1 hM.ids).1 (by rw [<-D];exact List.mem_map_of_mem g)
      rw [r,kO0 t];exact g
    ·rw [gT0 m hk d (by simpa using B)] at e;injection e with _ e;cases e
  ·rw [eC0 o7] at e;injection e with e _;subst e;omega
theorem yQ1 (d s:Nat) (k:EgK) (M:Mkt) (w:World) (h:Eg w d k M) (i:s<2) (side:Int) (a:side=(s:Int)+1):
  Calls prog 78 #[E (some ⟨d,0,none⟩),U G side] w fun e w'=>∃v,e=Y (.tuple #[v,.nilIface])/\w'.ownsRow w.heap.size 92 5 v (aR0 side M.L).length (oV (aR0 side M.L))/\Below w.heap.size w w':=by
 have q:w.cell? ⟨d,2,none⟩=some (E (some ⟨k.bb,0,none⟩)):=aA0 (j:=2) h.box rfl;have f:Hid ((k.b.S s).map Ly.o=aR0 side M.L):=by show _=_;rw [a];exact h.lnk.side s i
 have c:=hid7 a;have p:Hid _:=h.bk;clear h a;go_enter func78,ntmps78;go_wp2_with fail;refine (qY0 k.bb k.m s k.b w p.out i side c.out).mono ?_;rintro e w1 ⟨v,rfl,h1,g⟩;rw [f.out,show (k.b.S s).length=(aR0 side M.L).length by rw [<-f.out,bU]] at h1;have l:Hid _:=h1;have n:Hid _:=g;clear h1 g;go_wp2_with fail;go_ret2;exact ⟨v,rfl,l.out,n.out⟩
def mN0 (L:List Ord):List Ord:=aR0 1 L++aR0 2 L
theorem tX0 (h:LOk L):(mN0 L).length=L.length:=(kG0 h).length_eq
theorem infoOrdE:(prog.info? 92).map (fun i=>(i.zero,i.size,i.bytes))=some (some (.agg #[U G 0,U G 0,U G 0,U G 0,U G 0]),5,40):=k7
theorem pQ1 (s:Nat) (k:EgK) (M:Mkt) (w:World) (h:Eg w s k M):
  Calls prog 131 #[E (some ⟨s,0,none⟩)] w fun e w'=>∃v,e=Y v/\w'.ownsRow w.heap.size 92 5 v (mN0 M.L).length (oV (mN0 M.L))/\Below w.heap.size w w':=by
 obtain ⟨R,A,F,G,I⟩:=info_parts infoOrdE
 have W:(aR0 1 M.L).length+(aR0 2 M.L).length<=100:=by
  have h1:=tX0 h.lok;have n:=h.few100;unfold mN0 at h1;rw [aN] at h1;omega
 have Q:w.cell? ⟨s,2,none⟩=some (E (some ⟨k.bb,0,none⟩)):=aA0 (j:=2) h.box rfl;have g:Hid ((k.b.S 0).map Ly.o=aR0 1 M.L):=h.lnk.side 0 d7;have i:Hid ((k.b.S 1).map Ly.o=aR0 2 M.L):=h.lnk.side 1 d7;have H:=hid7 h;clear h;go_enter func131,ntmps131;go_wp2_with fail;refine (qY0 k.bb k.m 0 k.b w H.out.bk d7 1 rfl).mono ?_;rintro e w1 ⟨v1,rfl,h1,a⟩;rw [g.out,show (k.b.S 0).length=(aR0 1 M.L).length by rw [<-g.out,bU]] at h1;have y:w1.cell? ⟨s,2,none⟩=some (E (some ⟨k.bb,0,none⟩)):=aA0 (j:=2) (H.out.below a).box rfl;have O:Hid _:=h1;have d:=hid7 a;clear h1 a Q;go_wp2_with fail;refine (qY0 k.bb k.m 1 k.b w1 (H.out.below d.out).bk d7 2 rfl).mono ?_;rintro e t ⟨X,rfl,n,c⟩;rw [i.out,show (k.b.S 1).length=(aR0 2 M.L).length by rw [<-i.out,bU]] at n;have r:t.ownsRow w.heap.size 92 5 v1 (aR0 1 M.L).length (oV (aR0 1 M.L)):=aU0 O.out c lR7;obtain ⟨K,T,rfl,_,_⟩:=bC0 n;have u:Hid (eK1 t K (aR0 2 M.L).length (oV (aR0 2 M.L))):=eK1.of_row n (aF _ _);have l:=hid7 r;have f:=hid7 (aD0 d.out c);have D:w.heap.size<=t.heap.size:=f.out.size;have J:(aR0 1 M.L).length+(aR0 2 M.L).length<=maxLen:=by unfold maxLen;omega
 clear n c r y;go_wp2_with (at_builtin;refine pO0 _ rfl _ _ 99 rfl w.heap.size 92 R _ 5 40 underlying99 A F G I r7 o7 v1 (aR0 1 M.L).length (oV (aR0 1 M.L)) r7 l.out K (aR0 2 M.L).length T (oV (aR0 2 M.L)) r7 (cB0 _) u.out (jH0 _) J o7 D ?_;intro U w3 N p B;have P:Hid _:=N;have x:Hid (Out (fun j=>v1.ownBlock=some j) t w3):=Out.of_grown p (fun _ e=>e);clear N p B);go_ret
 have z:Below w.heap.size w w3:=by
  have q:Out (fun j=>v1.ownBlock=some j) w w3:=(aL f.out lR7).trans x.out (aJ _ _)
  exact ⟨q.os,q.tape,q.output,q.size,fun j V=>by
   by_cases C:j<w.heap.size
   ·exact q.block j C (fun e=>by have:=(l.out.lt j e).1;omega)
   ·omega⟩
 refine ⟨U,rfl,?_,z⟩;have:=P.out;unfold mN0;rw [aN,cL0];exact this
def vP1 (q:Quo):Value:=.agg #[U G q.price,U G q.qty,U G q.sur]
theorem eR1 (y:Nat) (k:EgK) (M:Mkt) (w:World) (h:Eg w y k M) (a1:1<=M.la/\M.la<=1000000):
  Calls prog 76 #[E (some ⟨y,0,none⟩)] w fun e w'=>e=Y (vP1 (cW0 M))/\Below w.heap.size w w':=by
 have d:=h.lok;have hL:=h.few100;have a0:(mN0 M.L).length<=100:=by rw [tX0 d];exact hL
 have HP:Hid (aS0 (mN0 M.L) M.la=aS0 M.L M.la):=kE1 (kG0 d) M.la;have W:Hid (∀o∈mN0 M.L,wf64 o.price):=fun o ho=>by have:=d.ok o ((kG0 d).mem_iff.1 ho);exact WalkArith.wf_i64 o7
 have A:∀x∈aS0 M.L M.la,x.Small:=sE0 o7 (fun o ho=>by have:=d.ok o ho;omega) o7;have V:=hid7 A;have Z:(aS0 M.L M.la).length<=1000:=by have:=zI0 M.L M.la;omega
 have H:=hid7 h;have b:=bel1 w (R #[U G 0,U G 0,U G 0] 107);have a:=heap_alloc_new w (R #[U G 0,U G 0,U G 0] 107);clear h d A;cases ha:iA0 M.ph with
 | false=>
  have O:Hid (cW0 M=⟨0,0,0⟩):=by show _=_;unfold cW0;rw [ha];rfl
  have C:=hid7 ha;clear ha;go_enter func76,ntmps76;go_upto_region 1 with fail;generalize w.alloc (R #[U G 0,U G 0,U G 0] 107)=w1 at b a ⊢;have X:w1.cell? ⟨y,5,none⟩=some (U G M.ph):=aA0 (j:=5) (H.out.below b).box rfl;have z0:=aA0 (j:=0) a rfl;have z1:=aA0 (j:=1) a rfl;have z2:=aA0 (j:=2) a rfl;have y0:=aB0 (j:=0) a;have y1:=aB0 (j:=1) a;have y2:=aB0 (j:=2) a;have q:=hid7 b;have r:Hid _:=a;clear b a;go_wp2_with fail;refine (nD1 M.ph w1).mono ?_;rintro e l ⟨rfl,hw⟩;subst hw;rw [C.out];go_wp2_with fail;have B:=aJ0 (j:=2) (U G 0) (aJ0 (j:=1) (U G 0) (aJ0 (j:=0) (U G 0) r.out));have f:Hid (Below w.heap.size w (((l.setCell ⟨w.heap.size,0,none⟩ (U G 0)).setCell ⟨w.heap.size,1,none⟩ (U G 0)).setCell ⟨w.heap.size,2,none⟩ (U G 0))):=((q.out.setCell (p:=⟨w.heap.size,0,none⟩) lR7 _).setCell (p:=⟨w.heap.size,1,none⟩) lR7 _).setCell (p:=⟨w.heap.size,2,none⟩) lR7 _;clear z0 z1 z2 y0 y1 y2 X;generalize ((l.setCell ⟨w.heap.size,0,none⟩ (U G 0)).setCell ⟨w.heap.size,1,none⟩ (U G 0)).setCell ⟨w.heap.size,2,none⟩ (U G 0)=w7 at B f ⊢;have q0:w7.cell? ⟨w.heap.size,0,none⟩=some (U G 0):=aA0 (j:=0) B rfl;have q1:w7.cell? ⟨w.heap.size,1,none⟩=some (U G 0):=aA0 (j:=1) B rfl;have q2:w7.cell? ⟨w.heap.size,2,none⟩=some (U G 0):=aA0 (j:=2) B rfl;refine bodyPost_ret (by simp [results,results76,go_sem,q0,q1,q2];try rfl) rfl ?_;exact ⟨by rw [O.out];rfl,f.out⟩
 | true=>
  have O:Hid (cW0 M=aO0 (aS0 M.L M.la) M.la):=by show _=_;unfold cW0;rw [ha];rfl
  have C:=hid7 ha;clear ha;go_enter func76,ntmps76;go_upto_region 1 with fail;generalize w.alloc (R #[U G 0,U G 0,U G 0] 107)=w1 at b a ⊢;have h1:=H.out.below b;have X:w1.cell? ⟨y,5,none⟩=some (U G M.ph):=aA0 (j:=5) h1.box rfl;have c1:w1.cell? ⟨y,1,none⟩=some (E (some ⟨k.nb,0,none⟩)):=aA0 (j:=1) h1.box rfl;have H1:=hid7 h1;have q:=hid7 b;have r:Hid _:=a;clear b a h1;go_wp2_with fail;refine (nD1 M.ph w1).mono ?_;rintro e l ⟨rfl,hw⟩;subst hw;rw [C.out];go_wp2_with fail;refine (yF1 k.nb M.st M.dy M.an M.la l H1.out.bn).mono ?_;rintro e w2 ⟨rfl,i⟩;have H2:=hid7 (H1.out.below i);have P:Hid _:=aE0 r.out i lR7;have D:=hid7 (aD0 q.out i);clear i X c1;go_wp2_with fail;refine (pQ1 y k M w2 H2.out).mono ?_;rintro e w3 ⟨v3,rfl,z,s⟩;obtain ⟨a3,n3,rfl,m⟩:=dS0.of_row z;have K:Hid _:=m;have Q:Hid _:=aE0 P.out s lR7;have F:=hid7 (aD0 D.out s);clear s z m;go_wp2_with fail;refine (hM2 a3 n3 (mN0 M.L) M.la w3 K.out o7 W.out (WalkArith.wf_i64 o7)).mono ?_;rintro e w4 ⟨v4,rfl,v,t⟩;rw [HP.out] at v;obtain ⟨a4,n4,rfl,n⟩:=kL0.of_row v;have N:Hid _:=n;have S:Hid _:=aE0 Q.out t lR7;have I:=hid7 (aD0 F.out t);clear t v n;go_wp2_with fail;refine (uD1 a4 n4 (aS0 M.L M.la) M.la w4 N.out Z V.out o7).mono ?_;rintro e w6 ⟨rfl,u⟩;have c:=aE0 S.out u lR7;have J:=hid7 (aD0 I.out u);have z0:=aA0 (j:=0) c rfl;have z1:=aA0 (j:=1) c rfl;have z2:=aA0 (j:=2) c rfl;have y0:=aB0 (j:=0) c;have y1:=aB0 (j:=1) c;have y2:=aB0 (j:=2) c;have T:Hid _:=c;clear c u;go_wp2_with fail;have g:=aJ0 (j:=2) (U G (aO0 (aS0 M.L M.la) M.la).sur) (aJ0 (j:=1) (U G (aO0 (aS0 M.L M.la) M.la).qty) (aJ0 (j:=0) (U G (aO0 (aS0 M.L M.la) M.la).price) T.out));have f:Hid (Below w.heap.size w (((w6.setCell ⟨w.heap.size,0,none⟩ (U G (aO0 (aS0 M.L M.la) M.la).price)).setCell ⟨w.heap.size,1,none⟩ (U G (aO0 (aS0 M.L M.la) M.la).qty)).setCell ⟨w.heap.size,2,none⟩ (U G (aO0 (aS0 M.L M.la) M.la).sur))):=((J.out.setCell (p:=⟨w.heap.size,0,none⟩) lR7 _).setCell (p:=⟨w.heap.size,1,none⟩) lR7 _).setCell (p:=⟨w.heap.size,2,none⟩) lR7 _;clear z0 z1 z2 y0 y1 y2;generalize (((w6.setCell ⟨w.heap.size,0,none⟩ (U G (aO0 (aS0 M.L M.la) M.la).price)).setCell ⟨w.heap.size,1,none⟩ (U G (aO0 (aS0 M.L M.la) M.la).qty)).setCell ⟨w.heap.size,2,none⟩ (U G (aO0 (aS0 M.L M.la) M.la).sur))=w7 at g f ⊢;have q0:w7.cell? ⟨w.heap.size,0,none⟩=some (U G (aO0 (aS0 M.L M.la) M.la).price):=aA0 (j:=0) g rfl;have q1:w7.cell? ⟨w.heap.size,1,none⟩=some (U G (aO0 (aS0 M.L M.la) M.la).qty):=aA0 (j:=1) g rfl;have q2:w7.cell? ⟨w.heap.size,2,none⟩=some (U G (aO0 (aS0 M.L M.la) M.la).sur):=aA0 (j:=2) g rfl;go_wp2_with fail;refine bodyPost_ret (by simp [results,results76,go_sem,q0,q1,q2];try rfl) rfl ?_;exact ⟨by rw [O.out];rfl,f.out⟩
def goL (X:List Ord) (L:List Ord):List Ord:=X.foldl (fun L o=>if o.kind=1 then L else canL o.id L) L
theorem vQ1 {i:Nat} (L:List Ord) (h:i<l.length):goL (l.take (i+1)) L=if (oAt l i).kind=1 then goL (l.take i) L else canL (oAt l i).id (goL (l.take i) L):=by
 unfold goL;rw [aM h,List.foldl_append,<-eJ0 h];rfl
theorem eS1 (d:(L.map Ord.id).Nodup) (id:Int):canL id L=L.filter fun o=>decide (o.id≠id):=by
 unfold canL;rcases mW0 id L 0 with h | ⟨j,c,h1,b⟩
 ·have a:idxO id L=-1:=h;rw [aB a];refine (eK.2 (fun o f=>?_)).symm;rw [decide_eq_true_eq];intro e;have:=lD0 id L 0 ⟨o,f,e⟩;have g:=h;omega
 ·have a:idxO id L=(j:Int):=by
   have:idxO id L=((0+j:Nat):Int):=h1;rw [this];congr 1;omega
  rw [aA o7,show (idxO id L).toNat=j by omega,<-b];exact jL0 d c
theorem pR0:∀(X:List Ord) {L:List Ord},(L.map Ord.id).Nodup->goL X L=L.filter fun o=>!(X.any fun x=>decide (x.kind≠1)&& decide (x.id=o.id))
 | [],L,_=>by
  show L=_;exact (eK.2 (fun o _=>rfl)).symm
 | x::X,L,hn=>by
  show goL X (if x.kind=1 then L else canL x.id L)=_
  by_cases hk:x.kind=1
  ·rw [aB hk,pR0 X hn];refine eG (fun o _=>?_);rw [List.any_cons,aD (p:=x.kind≠1) (fun e=>e hk)];rfl
  ·have a:((L.filter fun o=>decide (o.id≠x.id)).map Ord.id).Nodup:=hn.sublist (List.filter_sublist.map _);rw [aA hk,eS1 hn,pR0 X a,List.filter_filter];refine eG (fun o _=>?_);rw [List.any_cons,aE (p:=x.kind≠1) hk]
   by_cases e:o.id=x.id
   ·simp [e]
   ·have b:¬x.id=o.id:=fun h=>e h.symm
    simp [e,b]
theorem bF2 (h:LOk L):goL (mN0 L) L=limL L:=by
 rw [pR0 _ h.ids];unfold limL;refine eG (fun o c=>?_);have a:∀x,x∈mN0 L↔x∈L:=fun x=>(kG0 h).mem_iff
 by_cases hk:o.kind=1
 ·rw [show (o.kind == 1)=true by simpa using hk]
  have:((mN0 L).any fun x=>decide (x.kind≠1)&& decide (x.id=o.id))=false:=by
   rw [List.any_eq_false];intro x f;have b:x.id=o.id->x=o:=fun e=>qG0 h.ids ((a x).1 f) c e
   simp only [bE,decide_eq_true_eq,not_and];intro h1 d;exact h1 (by rw [b d];exact hk)
  rw [this];rfl
 ·rw [show (o.kind == 1)=false by simpa using hk]
  have:((mN0 L).any fun x=>decide (x.kind≠1)&& decide (x.id=o.id))=true:=by
   rw [List.any_eq_true];exact ⟨o,(a o).2 c,by simp [hk]⟩
  rw [this];rfl
theorem iC0 {la:Int} (b:LOk L) (a:1<=la/\la<=1000000) (c:0<(aO0 (aS0 L la) la).qty):1<=(aO0 (aS0 L la) la).price/\(aO0 (aS0 L la) la).price<=1000000:=by
 unfold aO0 at c ⊢
 by_cases d:cP0 (aS0 L la)<1
 ·rw [aB d] at c;exact absurd c d7
 ·rw [aA d];obtain ⟨h1,_⟩:=oX0 la (by omega:1<=cP0 (aS0 L la));show 1<=(jP0 (aS0 L la) la).price/\(jP0 (aS0 L la) la).price<=1000000;obtain ⟨p,f,e⟩:=List.mem_map.1 h1;rw [<-e];show 1<=p/\p<=1000000;rw [kX0 (dU0 _),iV0,dL0] at f;rcases f with ⟨_,rfl⟩ | ⟨o,g,_,rfl⟩
  ·exact a
  ·have:=b.ok o g;omega
theorem kG1 {W:World} {a m:Nat} {b b':BkS} (d:Bk W a m b') (c:tB0 w W a b b'):Goes w W a m b b':=⟨d,c.1,c.2⟩
theorem Eg.farFills {w:World} {f base n c:Nat} {k:EgK} {M:Mkt} {v:Value} {xs:List Value} (h:Eg w f k M) (b:w.ownsRow base 146 c v n xs):∀j,v.ownBlock=some j->¬k.foot f j:=fun j a e=>by
 rcases e with e | e | e | e | e
 ·exact aH0 b h.box d7 (by rw [a,e])
 ·exact aH0 b h.bn d7 (by rw [a,e])
 ·exact h.bk.farAny b d7 d7 d7 d7 d7 j a e
 ·exact bP0 b h.pk d7 a e
 ·rcases b.2 with ⟨d,_⟩ | ⟨g,i,l,d,_,o,_⟩
  ·rw [d] at a;cases a
  ·rw [d] at a;have m:g=j:=by simpa [Value.ownBlock] using a
   exact h.tkn.ne o (m.trans e)
theorem bG2 (o:Nat) (k:EgK) (M:Mkt) (W:World) (h:Eg W o k M) (r:k.m<=700000) (j:0<(aI0 M).qty):
  Calls prog 245 #[E (some ⟨k.bb,0,none⟩),U G (aI0 M).price,U G (aI0 M).qty] W
   fun e g=>∃(f:Value) (b':BkS),e=Y (.tuple #[f,.nilIface])/\g.ownsRow W.heap.size 146 4 f (uncA M).1.length (fV (uncA M).1)/\Goes W g k.bb (k.m+202) k.b b'/\Lnk b'.S (uncA M).2.L:=by
 have a:=h.lok;have c:FOk (aI0 M).price ⟨[],M.L,(aI0 M).qty⟩:=fS0 M.la a j;have h1:(aI0 M).qty<=wilL 1 (aI0 M).price M.L:=c.buy;have p:(aI0 M).qty<=wilL 2 (aI0 M).price M.L:=c.sell;refine (aR2 k.bb k.m k.b M.L (aI0 M).price (aI0 M).qty W h.bk (by omega) h.lnk a ⟨by omega,by omega⟩).mono ?_;rintro e g ⟨K,f,rfl,h0,i,b',d⟩;have l:=aV1 c h0 i
 have n:uncA M=((aY0 (aI0 M).price ⟨[],M.L,(aI0 M).qty⟩ K).fs,{ M with L:=(aY0 (aI0 M).price ⟨[],M.L,(aI0 M).qty⟩ K).L,an:=(aI0 M).price,la:=(aI0 M).price }):=by
  unfold uncA;rw [aB j,l]
 have q:K<=101:=by
  cases K with
  | zero=>omega
  | succ K=>
   have:=jY0 c K i;have e:(⟨[],M.L,(aI0 M).qty⟩:FS).L.length=M.L.length:=rfl;have:=h.few100;omega
 rw [n];refine ⟨f,b',rfl,d.fils,kG1 (d.bk.more o7 o7) d.since,d.lnk⟩
def fC2 (w:World) (eb:Nat) (k:EgK) (M:Mkt) (u3:Value) (wc:World):Prop:=
 ∃k1:EgK,wc.ownsRow w.heap.size 146 4 u3 (uncA M).1.length (fV (uncA M).1)/\EgGo w wc eb k k1 (uncA M).2/\k1.m<=k.m+202
theorem yR1 {a:Nat} {u3:Value} (h1:wc.ownsRow w.heap.size 146 4 u3 (uncA M).1.length (fV (uncA M).1)) (b:EgGo w wc a k k1 (uncA M).2) (c:k1.m<=k.m+202):fC2 w a k M u3 wc:=⟨k1,h1,b,c⟩
theorem bM1 (a:Nat) (k:EgK) (M:Mkt) (w:World) (h:Eg w a k M) (ha:iA0 M.ph=true) (b7:1<=M.la/\M.la<=1000000) (hm:k.m<=700000):
  Calls prog 175 #[E (some ⟨a,0,none⟩)] w fun e w'=>∃vf k',e=Y vf/\w'.ownsRow w.heap.size 146 4 vf (uncM M).1.length (fV (uncM M).1)/\EgGo w w' a k k' (uncM M).2/\k'.m<=k.m+302:=by
 have H:=hid7 h;have HK:=hid7 h.lok;have c8:Hid (cW0 M=aI0 M):=by show _=_;unfold cW0;rw [aB ha]
 clear h ha;go_enter func175,ntmps175;go_wp2_with fail;refine (eR1 a k M w H b7).mono ?_;rintro e w1 ⟨rfl,a0⟩;rw [c8.out];unfold vP1;have H1:=hid7 (H.below a0);have a2:=hid7 a0;clear a0;go_upto_if 11 with fail;have x:=heap_alloc_new w1 (R #[U G (aI0 M).price,U G (aI0 M).qty,U G (aI0 M).sur] 107);have K:=bel1 w1 (R #[U G (aI0 M).price,U G (aI0 M).qty,U G (aI0 M).sur] 107);generalize w1.alloc (R #[U G (aI0 M).price,U G (aI0 M).qty,U G (aI0 M).sur] 107)=w2 at x K ⊢;have y:=hid7 (H1.below K);have z:=hid7 (aD0 a2 K);have HX:Hid _:=x;have p:¬k.b.foot k.bb w1.heap.size:=y.bk.farBox x d7 d7 d7 d7 d7;have a6:=hid7 p
 have d:Hid (∀w',Out (k.b.foot k.bb) w2 w'->aC0 w' a 2 (E (some ⟨k.bb,0,none⟩))/\aC0 w' w1.heap.size 0 (U G (aI0 M).price)/\aC0 w' w1.heap.size 1 (U G (aI0 M).qty)/\Out (k.b.foot k.bb) w2 w'):=fun w' t=>by
  have c1:=aF0 x t p;exact ⟨aA0 (j:=2) (aF0 y.box t y.ebbk) rfl,aA0 (j:=0) c1 rfl,aA0 (j:=1) c1 rfl,t⟩
 clear x K H1 a2 p;go_cut [3] (fun u3 wc=>fC2 w a k M u3 wc)
 case first=>
  by_cases hq:0<(aI0 M).qty
  ·have HQ:=hid7 hq;have a7:Hid (1<=(aI0 M).price/\(aI0 M).price<=1000000):=iC0 HK b7 hq;have A:Hid ((uncA M).2={ M with L:=(uncA M).2.L,an:=(aI0 M).price,la:=(aI0 M).price }):=by show _=_;unfold uncA;rw [aB hq]
   have gq:=aE hq;generalize d8:(aI0 M).price=pp at A d HX a7;generalize d9:(aI0 M).qty=qq at hq gq d HX;go_wp2_with fail;rw [gq];go_cut [3] from 12 to 23 (fun u3 wc=>∃b',wc.ownsRow w.heap.size 146 4 u3 (uncA M).1.length (fV (uncA M).1)/\Goes w2 wc k.bb (k.m+202) k.b b'/\Lnk b'.S (uncA M).2.L)
   case first=>
    go_region_held3 (fun w'=>aC0 w' a 2 (E (some ⟨k.bb,0,none⟩))/\aC0 w' w1.heap.size 0 (U G pp)/\aC0 w' w1.heap.size 1 (U G qq)/\Out (k.b.foot k.bb) w2 w')
     ((refine d _ ?_;(first | exact C.out.2.1 | exact bL _ _ | exact aW0 (bL _ _))))
     ((go_at_call 245;subst d8 d9;refine (bG2 a k M w2.drew y.drew hm HQ).mono ?_;rintro e w3 ⟨vf,b3,rfl,v,l,n⟩;have I:Hid _:=v;have c7:Hid _:=n;have C:Hid (Goes w2 w3 k.bb (k.m+202) k.b b3):=oE0 y.bk (aF _ _).drew l;clear v l n))
    all_goals go_wp2_with fail
    all_goals go_meet
    all_goals exact ⟨b3,bW0 I z.size,C,c7⟩
   case rest=>
    obtain ⟨b3,v,l,n⟩:=hcut;have I:=hid7 v;have Z:=y.ofBook l n (bV _ _);have B:Hid (EgGo w2 wc a k { k with m:=k.m+202,b:=b3 } { M with L:=(uncA M).2.L }):=Z;have c2:=aF0 HX l.2.1 a6;have b8:w1.heap.size≠k.nb:=dQ0 HX y.bn d7;have c9:Hid (∀w',Out (fun j=>j=k.nb) wc w'->aC0 w' a 1 (E (some ⟨k.nb,0,none⟩))/\aC0 w' w1.heap.size 0 (U G pp)/\Out (fun j=>j=k.nb) wc w'):=fun w' t=>⟨aA0 (j:=1) (aF0 Z.1.box t y.ebnb) rfl,aA0 (j:=0) (aF0 c2 t b8) rfl,t⟩
    clear v l n Z c2 b8;go_upto_region 5 with fail
    go_region_held3 (fun w'=>aC0 w' a 1 (E (some ⟨k.nb,0,none⟩))/\aC0 w' w1.heap.size 0 (U G pp)/\Out (fun j=>j=k.nb) wc w')
     ((refine c9 _ ?_;(first | exact V | exact bL _ _ | exact aW0 (bL _ _))))
     ((go_at_call 246;refine (hJ2 k.nb M.st M.dy M.an M.la pp wc.drew B.out.1.drew.bn (sP0 a7)).mono ?_;rintro e w4 ⟨rfl,b9,b4⟩;have c3:Hid _:=b4;have V:Hid (Out (fun j=>j=k.nb) wc w4):=(aW0 (bL _ _)).trans b9 (aJ _ _);clear b9 b4))
    all_goals go_wp2_with fail
    all_goals go_meet
    all_goals refine yR1 (k1:={ k with m:=k.m+202,b:=b3 }) (aK0 I V (fun j hj e=>?_)) ?_ lR7
    all_goals first | exact aH0 I B.out.1.bn d7 (hj.trans (congrArg some e)) | (rw [A.out];exact ((EgGo.stay H z).trans B).trans (B.out.1.ofBands c3 V))
  ·have A:Hid (uncA M=([],M)):=by show _=_;unfold uncA;rw [aA hq]
   have gq:=aD hq;go_wp2_with fail;go_meet;exact yR1 (k1:=k) (by rw [A.out];exact aU _ _ _ _) (by rw [A.out];exact EgGo.stay H z) (bV _ _)
 case rest=>
  obtain ⟨k1,hr,f,e4⟩:=hcut;have HU:=hid7 (xT0 M);clear HX d y z a6;generalize uncA M=um at hr f HU;obtain ⟨fs,q⟩:=um;dsimp only at hr f HU;have HR:=hid7 hr;have T:=hid7 f;have C:=hid7 (bF2 f.1.lok);have n:(mN0 q.L).length<=100:=by rw [tX0 f.1.lok];exact f.1.few100
  clear hr f;go_wp2_with fail;refine (pQ1 a k1 q wc T.out.1).mono ?_;rintro e w5 ⟨v5,rfl,a1,N⟩;obtain ⟨a5,n5,rfl,_,_⟩:=bC0 a1;generalize hX:mN0 q.L=X at *;have a8:=hid7 a1
  have d5:Hid (∀i,i<X.length->(Lit.int .i64 (oAt X i).id).wf=true):=fun i hi=>by
   have h1:oAt X i∈mN0 q.L:=by rw [hX,eJ0 hi];exact List.getElem_mem hi
   exact yK1 T.out.1.bk T.out.1.lnk ((kG0 T.out.1.lok).mem_iff.1 h1)
  have c:=hid7 (T.out.1.below N);have c4:=hid7 (T.bel N);have a9:Hid (w5.ownsRow w.heap.size 146 4 u3 fs.length (fV fs)):=aU0 HR N lR7;clear hX a1 N HR T;go_wp2_with fail;go_loopw [34] (fun u wr=>∃(i:Nat) (r:BkS),u=U G i/\i<=X.length/\Lnk r.S (goL (X.take i) q.L)/\Goes w5 wr k1.bb (k1.m+i) k1.b r) (fun u _=>X.length - (intOf u).toNat)
  case atStart=>exact ⟨0,k1.b,rfl,aO _,c.lnk,c.bk,bL _ _,aJ _ _⟩
  case round=>
   obtain ⟨i,r,rfl,hi,P,f⟩:=hrel;have F:=hid7 P;have D:=hid7 f
   by_cases s:i<X.length
   ·have e5:(i:Int)<(X.length:Int):=o7;have c0:wr.ownsRow wc.heap.size 92 5 (J a5 X.length n5) X.length (oV X):=aK0 a8 f.2.1 (c.bk.farAny a8 d7 d7 d7 d7 d7);obtain ⟨g,e0,e1,d0,d1,d2,d3,d4⟩:=cT0 c0 s;injection e1 with e1 _ e2;subst e1 e2;have b0:=hid7 (d5 i s);have HS:Hid _:=vQ1 q.L s;have A:Hid (Eg wr a { k1 with m:=k1.m+i,b:=r } { q with L:=goL (X.take i) q.L }):=(c.ofBook f P (bV _ _)).1;generalize oAt X i=o at d0 d1 d2 d3 d4 b0 HS;clear f P c0
    by_cases hk:o.kind=1
    ·have W:Hid (goL (X.take (i+1)) q.L=goL (X.take i) q.L):=by show _=_;rw [HS.out,aB hk]
     have kb:(o.kind != 1)=false:=by simp [hk]
     clear hk HS;go_wp2_with fail;go_roundw
     case rel=>exact ⟨i+1,r,by go_num,s,by rw [W.out];exact F,lF0 (xR0 D (bel1 _ _)) ⟨(A.below (bel1 _ _)).bk.more (Nat.le_succ _) o7,bL _ _,aJ _ _⟩⟩
     case measure=>first | (simp [intOf];omega) | (show X.length - (i+1)<X.length - i;omega) | omega
    ·have W:Hid (goL (X.take (i+1)) q.L=canL o.id (goL (X.take i) q.L)):=by show _=_;rw [HS.out,aA hk]
     have kb:(o.kind != 1)=true:=by simpa using hk
     clear hk HS;go_upto_region 10 with fail;have x:=heap_alloc_new wr (R #[U G o.id,U G o.side,U G o.kind,U G o.price,U G o.qty] 92);have O:=bel1 wr (R #[U G o.id,U G o.side,U G o.kind,U G o.price,U G o.qty] 92);generalize wr.alloc (R #[U G o.id,U G o.side,U G o.kind,U G o.price,U G o.qty] 92)=w6 at x O ⊢;have h6:=A.below O;have c5:=hid7 (xR0 D O);have p:¬r.foot k1.bb wr.heap.size:=h6.bk.farBox x d7 d7 d7 d7 d7;have d:Hid (∀w',Out (r.foot k1.bb) w6 w'->aC0 w' a 2 (E (some ⟨k1.bb,0,none⟩))/\aC0 w' wr.heap.size 0 (U G o.id)/\Out (r.foot k1.bb) w6 w'):=fun w' t=>⟨aA0 (j:=2) (aF0 h6.box t h6.ebbk) rfl,aA0 (j:=0) (aF0 x t p) rfl,t⟩
     have a3:=hid7 h6.bk;clear x O d0 d1 d2 d3 d4 p h6 A D;have d6:k1.m+i+1<=900000:=o7
     go_region_held3 (fun w'=>aC0 w' a 2 (E (some ⟨k1.bb,0,none⟩))/\aC0 w' wr.heap.size 0 (U G o.id)/\Out (r.foot k1.bb) w6 w')
      ((refine d _ ?_;(first | exact a4.out.2.1 | exact bL _ _ | exact aW0 (bL _ _))))
      ((go_at_call 120;refine (eH1 (a3.below (aF _ _).drew lR7) d6 F o.id b0).mono ?_;rintro e w7 ⟨e3,rfl,_,b2,b6,b5⟩;have c6:Hid _:=b6;have a4:Hid (Goes w6 w7 k1.bb (k1.m+i+1) r b2):=oE0 a3 (aF _ _).drew b5;clear b6 b5))
     go_wp2_with fail;go_roundw
     case rel=>exact ⟨i+1,b2,by go_num,s,by rw [W.out];exact c6,lF0 c5 a4⟩
     case measure=>first | (simp [intOf];omega) | (show X.length - (i+1)<X.length - i;omega) | omega
   ·obtain rfl:i=X.length:=o7;rw [List.take_length,C.out] at F;clear f P;go_wp2_with fail;go_ret;have Q:=c.ofBook D F (bV _ _);refine ⟨u3,{ k1 with m:=k1.m+X.length,b:=r },rfl,?_,?_,?_⟩
    ·rw [HU.out];exact aK0 a9 Q.2.1 (c.farFills a9)
    ·rw [HU.out];exact c4.trans Q
    ·show k1.m+X.length<=k.m+302;omega
section
variable {w w1 w':World} {eb:Nat} {k:EgK} {M:Mkt}
theorem Eg.ofParked (h:Eg w eb k M) {v':Value} {P':List Ord} (c:Out (fun j=>k.vp.ownBlock=some j) w w1) (n:w1.ownsRow 0 92 5 v' P'.length (oV P')) (g:∀j,v'.ownBlock=some j->k.vp.ownBlock=some j\/w.heap.size<=j):
  EgGo w (w1.setCell ⟨eb,3,none⟩ v') eb k { k with vp:=v' } { M with P:=P' }:=by
 have f:=aF0 h.box c h.ebpk;have a:=aM0 w1 ⟨eb,3,none⟩ v';have l:=aJ0 (j:=3) v' f;have d:∀j,j=k.tb\/j=k.cb->k.vp.ownBlock≠some j/\j≠eb:=fun j b=>⟨fun e=>h.far j b (aG (aG (aG (aH e)))),fun e=>h.far j b (aH e)⟩
 have m:=c.size;refine ⟨⟨l,⟨cH0 (cH0 h.tab.1 c (d _ (aH rfl)).1) a (d _ (aH rfl)).2,cX0 (cX0 h.tab.2 c (d _ (aG rfl)).1) a (d _ (aG rfl)).2⟩,aT h.tlt (aI m a.size),aF0 (aF0 h.bn c h.nbpk) a (fun e=>h.ebnb e.symm),(h.bk.out c (fun j b e=>h.pkbk e b)).out a (fun j b e=>h.ebbk (by rw [<-show j=eb from e];exact b)),h.lnk,aK0 n a (fun j b e=>aH0 n f d7 (b.trans (congrArg some e))),(h.tkn.same (c.block _ h.tkn.lt h.pktk)).same (a.block _ (aT h.tkn.lt m) (fun e=>h.ebtk e.symm)),h.tkf,h.few,fun j b e=>?_⟩,?_,?_,rfl,rfl⟩
 ·have p:j<w.heap.size:=by
   rcases b with rfl | rfl
   ·exact h.tlt'
   ·exact h.tlt
  rcases e with e | e | e | e | e
  ·exact h.far j b (aH e)
  ·exact h.far j b (aG (aH e))
  ·exact h.far j b (aG (aG (aH e)))
  ·rcases g j e with e | e
   ·exact h.far j b (aG (aG (aG (aH e))))
   ·omega
  ·exact h.far j b (aG (aG (aG (aG e))))
 ·have h1:Out (k.foot eb) w w1:=⟨c.os,c.tape,c.output,c.size,fun i hi g=>c.block i hi (fun e=>g (aG (aG (aG (aH e)))))⟩;have o:Out (k.foot eb) w1 (w1.setCell ⟨eb,3,none⟩ v'):=⟨a.os,a.tape,a.output,a.size,fun i hi g=>a.block i hi (fun e=>g (aH e))⟩;exact aX0 h1 o
 ·intro j b;rcases b with e | e | e | e | e
  ·exact aH (aH e)
  ·exact aH (aG (aH e))
  ·exact aH (aG (aG (aH e)))
  ·exact (g j e).imp (fun e=>aG (aG (aG (aH e)))) id
  ·exact aH (aG (aG (aG (aG e))))
theorem Eg.noParked (h:Eg w eb k M):EgGo w (w.setCell ⟨eb,3,none⟩ (J none 0 0)) eb k { k with vp:=J none 0 0 } { M with P:=[] }:=
 h.ofParked (P':=[]) (bL _ _) (aU _ _ _ _) (fun j a=>by cases a)
theorem Eg.ofNew (h:Eg w eb k M) {c:Nat} {b':BkS} (n:Below w.heap.size w w1) (l:Bk w1 c 0 b') (q:Lnk b'.S []) (f:∀j,b'.foot c j->w.heap.size<=j):
  EgGo w (w1.setCell ⟨eb,2,none⟩ (E (some ⟨c,0,none⟩))) eb k { k with bb:=c,b:=b' } { M with L:=[] }:=by
 have h1:=h.below n;have a:=aM0 w1 ⟨eb,2,none⟩ (E (some ⟨c,0,none⟩));have g:=aJ0 (j:=2) (E (some ⟨c,0,none⟩)) h1.box;have o:=lt_of_block h.box;refine ⟨⟨g,⟨cH0 h1.tab.1 a (fun e=>h.far _ (aH rfl) (aH e)),cX0 h1.tab.2 a (fun e=>h.far _ (aG rfl) (aH e))⟩,aT h1.tlt a.size,aF0 h1.bn a (fun e=>h.ebnb e.symm),(l.out a (fun j d e=>by have:=f j d;have p:j=eb:=e;omega)).more (aO _) h.bk.steps,q,aK0 h1.pk a (fun j d e=>h.ebpk (by rw [<-show j=eb from e];exact d)),h1.tkn.same (a.block _ h1.tkn.lt (fun e=>h.ebtk e.symm)),fun e=>?_,h.few,fun j d e=>?_⟩,?_,?_,rfl,rfl⟩
 ·have:=f _ e;have m:=h.tkn.lt;have p:w.heap.size<=k.tk:=this;omega
 ·have r:j<w.heap.size:=by
   rcases d with rfl | rfl
   ·exact h.tlt'
   ·exact h.tlt
  rcases e with e | e | e | e | e
  ·exact h.far j d (aH e)
  ·exact h.far j d (aG (aH e))
  ·have:=f j e;omega
  ·exact h.far j d (aG (aG (aG (aH e))))
  ·exact h.far j d (aG (aG (aG (aG e))))
 ·have m:Out (k.foot eb) w1 (w1.setCell ⟨eb,2,none⟩ (E (some ⟨c,0,none⟩))):=⟨a.os,a.tape,a.output,a.size,fun i hi s=>a.block i hi (fun e=>s (aH e))⟩;exact aX0 (aL n lR7) m
 ·intro j d;rcases d with e | e | e | e | e
  ·exact aH (aH e)
  ·exact aH (aG (aH e))
  ·exact aG (f j e)
  ·exact aH (aG (aG (aG (aH e))))
  ·exact aH (aG (aG (aG (aG e))))
end
theorem pR1 (eb:Nat) (k:EgK) (M:Mkt) (w:World) (h:Eg w eb k M) (R:M.P.length<=100) (y:∀o∈M.P,(Lit.int .i64 o.id).wf=true) (S:k.m<=700000):
  Calls prog 126 #[E (some ⟨eb,0,none⟩)] w fun e w'=>∃k',e=Y (.tuple #[])/\EgGo w w' eb k k' (kC0 M)/\k'.m<=k.m+100:=by
 have D:w.cell? ⟨eb,5,none⟩=some (U G M.ph):=aA0 (j:=5) h.box rfl;have I:=aB0 (j:=5) h.box;have h1:=h.write (j:=5) (u:=U G 5) (M':={ M with ph:=5 }) rfl rfl rfl rfl rfl ⟨rfl,rfl,rfl,rfl⟩;have B:=hid7 y;clear h y;go_enter func126,ntmps126;go_upto_region 1 with fail;generalize w.setCell ⟨eb,5,none⟩ (U G 5)=w1 at h1 ⊢;obtain ⟨t,z,c,i⟩:=dS0.of_row h1.1.pk;have C:w1.cell? ⟨eb,3,none⟩=some (J t M.P.length z):=(aA0 (j:=3) (v:=k.vp) h1.1.box rfl).trans (by rw [c])
 have d:∀b n,t=some ⟨b,n,none⟩->¬k.b.foot k.bb b:=fun b n e=>by
  rcases h1.1.pk.2 with ⟨a,_⟩ | ⟨g,F,H,a,_,K,_⟩
  ·rw [c,e] at a;cases a
  ·rw [c,e] at a;injection a with a _ _;injection a with a;injection a with a _ _;subst a;exact h1.1.bk.farBox K d7 d7 d7 d7 d7
 have q:=hid7 h1;have r:=hid7 i;have A:=hid7 d;have s:k.m+M.P.length<=900000:=o7;clear h1 D I c i d;go_wp2_with fail;refine (uX1 eb k { M with ph:=5 } t z M.P w1 q.out.1 r.out B.out A.out s).mono ?_;rintro e L ⟨rfl,N,l,f⟩;have p:=q.out.1.ofBook f l (bV _ _);have O:L.cell? ⟨eb,3,none⟩=some k.vp:=aA0 (j:=3) p.1.box rfl;have Q:=aB0 (j:=3) p.1.box;have x:=hid7 (q.out.trans p);clear p l f C;go_wp2_with fail;refine bodyPost_end (results_none rfl _ _ _) rfl ?_;refine ⟨_,rfl,x.out.trans x.out.1.noParked,?_⟩;show k.m+M.P.length<=k.m+100;omega
def finM (M:Mkt):List Fil×Mkt:=((if M.ph=5 then (uncM M).1 else []),{ (if M.ph=5 then (uncM M).2 else M) with L:=[],P:=[],ph:=7 })
def fD2 (w:World) (eb:Nat) (k:EgK) (M:Mkt) (u3:Value) (wc:World):Prop:=
 ∃k1:EgK,wc.ownsRow w.heap.size 146 4 u3 (finM M).1.length (fV (finM M).1)/\EgGo w wc eb k k1 (if M.ph=5 then (uncM M).2 else M)/\k1.m<=k.m+302
theorem yS1 {eb:Nat} {u3:Value} (h1:wc.ownsRow w.heap.size 146 4 u3 (finM M).1.length (fV (finM M).1)) (a:EgGo w wc eb k k1 (if M.ph=5 then (uncM M).2 else M)) (b:k1.m<=k.m+302):fD2 w eb k M u3 wc:=⟨k1,h1,a,b⟩
theorem vR1 (eb:Nat) (k:EgK) (M:Mkt) (w:World) (h:Eg w eb k M) (x:1<=M.la/\M.la<=1000000) (Q:k.m<=700000):
  Calls prog 122 #[E (some ⟨eb,0,none⟩)] w fun e w'=>∃y k',e=Y y/\w'.ownsRow w.heap.size 146 4 y (finM M).1.length (fV (finM M).1)/\EgGo w w' eb k k' (finM M).2/\k'.m<=k.m+302:=by
 have A:w.cell? ⟨eb,5,none⟩=some (U G M.ph):=aA0 (j:=5) h.box rfl;have H:=hid7 h;clear h;go_enter func122,ntmps122;go_upto_if 8 with fail;go_cut [3] (fun u3 wc=>fD2 w eb k M u3 wc)
 case first=>
  by_cases a:M.ph=5
  ·have D:Hid (iA0 M.ph=true):=by show _=_;rw [a];rfl
   have o:Hid ((finM M).1=(uncM M).1/\(if M.ph=5 then (uncM M).2 else M)=(uncM M).2):=⟨by unfold finM;rw [aB a],aB a⟩;have B:=beq_iff_eq.2 a;clear a;go_wp2_with fail;rw [B];go_wp2_with fail;refine (bM1 eb k M w H.out D.out x Q).mono ?_;rintro e w1 ⟨y,k1,rfl,n,l,hk⟩;have r:Hid _:=n;have d:Hid _:=l;clear n l;go_wp2_with fail;go_meet;exact yS1 (k1:=k1) (by rw [o.out.1];exact r.out) (by rw [o.out.2];exact d.out) hk
  ·have o:Hid ((finM M).1=[]/\(if M.ph=5 then (uncM M).2 else M)=M):=⟨by unfold finM;rw [aA a],aA a⟩;have B:=aC.2 a;clear a;go_wp2_with fail;go_meet;exact yS1 (k1:=k) (by rw [o.out.1];exact aU _ _ _ _) (by rw [o.out.2];exact EgGo.refl H.out) (bV _ _)
 case rest=>
  obtain ⟨k1,n,l,hk⟩:=hcut;have c:Hid (finM M=((finM M).1,{ (if M.ph=5 then (uncM M).2 else M) with L:=[],P:=[],ph:=7 })):=rfl;generalize (if M.ph=5 then (uncM M).2 else M)=M1 at l c;generalize (finM M).1=fs at n c;have r:=hid7 n;have d:=hid7 l;clear n l A;go_wp2_with fail;refine (eI2 wc).mono ?_;rintro e z ⟨rfl,q,b⟩;have i:=d.out.1.ofNew b q Lnk.start (fun j O=>dT1 wc O);have F:z.cell? ⟨eb,2,none⟩=some (E (some ⟨k1.bb,0,none⟩)):=aA0 (j:=2) (d.out.1.below b).box rfl;have K:=aB0 (j:=2) (d.out.1.below b).box;have g:=i.1.noParked;have I:(z.setCell ⟨eb,2,none⟩ (E (some ⟨wc.heap.size+2,0,none⟩))).cell? ⟨eb,3,none⟩=some k1.vp:=aA0 (j:=3) i.1.box rfl;have N:=aB0 (j:=3) i.1.box;have p:=i.trans g;have s:=hid7 p;clear p;have f:Hid _:=aK0 r.out (i.trans g).2.1 (d.out.1.farFills r.out);clear q b i;go_upto_region 5 with fail;generalize (z.setCell ⟨eb,2,none⟩ (E (some ⟨wc.heap.size+2,0,none⟩))).setCell ⟨eb,3,none⟩ (J none 0 0)=w3 at g s f ⊢;have A:w3.cell? ⟨eb,5,none⟩=some (U G M1.ph):=aA0 (j:=5) g.1.box rfl;have R:=aB0 (j:=5) g.1.box;have v:=g.1.write (j:=5) (u:=U G 7) (M':={ M1 with L:=[],P:=[],ph:=7 }) rfl rfl rfl rfl rfl ⟨rfl,rfl,rfl,rfl⟩;have C:=hid7 ((d.out.trans s.out).trans v);have t:Hid _:=aK0 f.out v.2.1 (s.out.1.farFills f.out);clear g v F K I N;go_wp2_with fail;go_ret;rw [c.out];exact ⟨u3,_,rfl,t.out,C.out,hk⟩
def bV0 (w w':World) (eb:Nat) (k:EgK) (r:List Fil×Mkt) (vf:Value):Prop:=∃k',w'.ownsRow w.heap.size 146 4 vf r.1.length (fV r.1)/\EgGo w w' eb k k' r.2/\k'.m<=k.m+302
theorem bV0.mk' {w w':World} {b:Nat} {k a:EgK} {r:List Fil×Mkt} {fs:List Fil} {M':Mkt} {vf:Value} (e:r=(fs,M')) (h1:w'.ownsRow w.heap.size 146 4 vf fs.length (fV fs)) (c:EgGo w w' b k a M') (d:a.m<=k.m+302):bV0 w w' b k r vf:=by
 subst e;exact ⟨a,h1,c,d⟩
theorem bV0.none_ {w w':World} {a:Nat} {k b:EgK} {r:List Fil×Mkt} {M':Mkt} (e:r=([],M')) (c:EgGo w w' a k b M') (d:b.m<=k.m+302):bV0 w w' a k r (J none 0 0):=bV0.mk' e (aU _ _ _ _) c d
theorem bV0.from_ {w w1 e:World} {d:Nat} {k:EgK} {f:Mkt} {r:List Fil×Mkt} {vf:Value} (h:EgGo w w1 d k k f) (h1:bV0 w1 e d k r vf):bV0 w e d k r vf:=by
 obtain ⟨g,a,b,c⟩:=h1;exact ⟨g,bW0 a h.2.1.size,h.trans b,c⟩
def resM (M:Mkt):List Fil×Mkt:=((uncM M).1,{ (uncM M).2 with ph:=3 })
theorem xU0 (c:Nat) (k:EgK) (M:Mkt) (w:World) (h:Eg w c k M) (n:iA0 M.ph=true) (l:1<=M.la/\M.la<=1000000) (p:k.m<=700000):
  Calls prog 176 #[E (some ⟨c,0,none⟩)] w fun e w'=>∃vf,e=Y vf/\bV0 w w' c k (resM M) vf:=by
 have H:=hid7 h;have o:=hid7 n;have a:Hid (resM M=((uncM M).1,{ (uncM M).2 with ph:=3 })):=rfl;clear h n;go_enter func176,ntmps176;go_wp2_with fail;refine (bM1 c k M w H.out o.out l p).mono ?_;rintro e w1 ⟨vf,k1,rfl,d,b,hk⟩;generalize (uncM M).1=fs at d a;generalize (uncM M).2=M1 at b a;have q:w1.cell? ⟨c,5,none⟩=some (U G M1.ph):=aA0 (j:=5) b.1.box rfl;have r:=aB0 (j:=5) b.1.box;have i:=b.1.write (j:=5) (u:=U G 3) (M':={ M1 with ph:=3 }) rfl rfl rfl rfl rfl ⟨rfl,rfl,rfl,rfl⟩;have g:Hid _:=aK0 d i.2.1 (b.1.farFills d);have f:=hid7 (b.trans i);clear d b i;go_wp2_with fail;go_ret;exact ⟨vf,rfl,bV0.mk' a.out g.out f.out hk⟩
def qO0 (p:Int) (M:Mkt):List Fil×Mkt:=if p=3 then resM M else if p=5 then ([],kC0 M) else ([],{ M with ph:=p })
theorem fE2 (b:Nat) (k:EgK) (M:Mkt) (p:Int) (w:World) (h:Eg w b k M) (l:p=3->iA0 M.ph=true) (i:1<=M.la/\M.la<=1000000) (A:M.P.length<=100) (s:∀o∈M.P,(Lit.int .i64 o.id).wf=true) (q:k.m<=700000):
  Calls prog 123 #[E (some ⟨b,0,none⟩),U G p] w fun e w'=>∃vf,e=Y vf/\bV0 w w' b k (qO0 p M) vf:=by
 have H:=hid7 h;have t:=hid7 l;have x:=hid7 s;have B:w.cell? ⟨b,5,none⟩=some (U G M.ph):=aA0 (j:=5) h.box rfl;have C:=aB0 (j:=5) h.box;clear h l s
 by_cases a:p=3
 ·have d:Hid (qO0 p M=resM M):=by show _=_;unfold qO0;rw [aB a]
  have f:=hid7 (t.out a);have y:=beq_iff_eq.2 a;clear a;go_enter func123,ntmps123;go_wp2_with fail;refine (xU0 b k M w H.out f.out i q).mono ?_;rintro e w1 ⟨vf,rfl,r⟩;have g:Hid _:=r;clear r;go_wp2_with fail;go_ret;exact ⟨vf,rfl,by rw [d.out];exact g.out⟩
 ·have y:=aC.2 a
  by_cases c:p=5
  ·have d:Hid (qO0 p M=([],kC0 M)):=by show _=_;unfold qO0;rw [aA a,aB c]
   have z:=beq_iff_eq.2 c;clear a c;go_enter func123,ntmps123;go_wp2_with fail;refine (pR1 b k M w H.out A x.out q).mono ?_;rintro e w1 ⟨k1,rfl,n,hk⟩;have v:Hid _:=n;clear n;go_wp2_with fail;go_ret;exact ⟨_,rfl,bV0.none_ d.out v.out (aI hk o7)⟩
  ·have d:Hid (qO0 p M=([],{ M with ph:=p })):=by show _=_;unfold qO0;rw [aA a,aA c]
   have z:=aC.2 c;clear a c;go_enter func123,ntmps123;go_wp2_with fail;go_ret;exact ⟨_,rfl,bV0.none_ d.out (H.out.write (j:=5) (u:=U G p) (M':={ M with ph:=p }) rfl rfl rfl rfl rfl ⟨rfl,rfl,rfl,rfl⟩) (bV _ _)⟩
def setM (M:Mkt):List Fil×Mkt:=if (aI0 M).qty=0\/gI0 M.st M.an (aI0 M).price=true then resM M else if M.lo<M.mo then ([],{ M with lo:=M.lo+1,en:=M.now+M.ti }) else ([],{ M with ph:=6 })
theorem vS1 (i:Nat) (k:EgK) (M:Mkt) (w:World) (h:Eg w i k M) (T:iA0 M.ph=true) (B:1<=M.la/\M.la<=1000000) (hn:0<=M.now/\M.now<=1000000000000) (F:0<=M.ti/\M.ti<=1000000000000) (a0:0<=M.lo/\M.lo<=1000000) (hm:k.m<=700000):
  Calls prog 124 #[E (some ⟨i,0,none⟩)] w fun e w'=>∃vf,e=Y vf/\bV0 w w' i k (setM M) vf:=by
 have H:=hid7 h;have HA:=hid7 T;have O:Hid (cW0 M=aI0 M):=by show _=_;unfold cW0;rw [aB T]
 have a1:IntKind.i64.wrap (M.now+M.ti)=M.now+M.ti:=IntWalk.i64_in _ o7;clear h T;go_enter func124,ntmps124;go_wp2_with fail;refine (eR1 i k M w H.out B).mono ?_;rintro e w1 ⟨rfl,A⟩;rw [O.out];unfold vP1;have H1:=hid7 (H.out.below A);have J:=hid7 A;clear A;go_upto_region 3 with fail;have N:=heap_alloc_new w1 (R #[U G (aI0 M).price,U G (aI0 M).qty,U G (aI0 M).sur] 107);have q:=bel1 w1 (R #[U G (aI0 M).price,U G (aI0 M).qty,U G (aI0 M).sur] 107);generalize w1.alloc (R #[U G (aI0 M).price,U G (aI0 M).qty,U G (aI0 M).sur] 107)=w2 at N q ⊢;have I:=hid7 (H1.out.below q);have t:=hid7 (aD0 J.out q);have X:=cell_regrown (aA0 (j:=0) (v:=U G (aI0 M).price) N rfl);have Z:=cell_regrown (aA0 (j:=1) (v:=U G (aI0 M).qty) N rfl);have k1:=cell_regrown (aA0 (j:=1) (v:=E (some ⟨k.nb,0,none⟩)) I.out.box rfl);have D:∀l V,Calls prog 177 #[E (some ⟨k.nb,0,none⟩),U G (aI0 M).price] (Go.Sort.grow (redrawn w2 l) V) fun e W=>e=Y (.bool (gI0 M.st M.an (aI0 M).price))/\∃p:Regrown,W=Go.Sort.grow (redrawn w2 p.d) p.os:=fun l V=>Calls.regrown_of (eM2 k.nb M.st M.dy M.an M.la (aI0 M).price _ (I.out.bn.below (below_regrown w2 l V)))
 clear N q H1 J;have a:Hid (setM M=if (aI0 M).qty=0\/gI0 M.st M.an (aI0 M).price=true then resM M else if M.lo<M.mo then ([],{ M with lo:=M.lo+1,en:=M.now+M.ti }) else ([],{ M with ph:=6 })):=rfl;generalize gI0 M.st M.an (aI0 M).price=cb at D a;generalize (aI0 M).price=pp at X D;generalize (aI0 M).qty=qq at Z a
 by_cases C:qq=0
 ·have eq:=beq_iff_eq.2 C;have g:Hid (setM M=resM M):=by show _=_;rw [a.out,aB (aH C)]
  clear C a;refine wp_region_quiet_below k7 k7 ?_
  repeat (go_big_quiet_step (exact D _ _))
  refine wpQuiet_nil ?_;intro _ n;obtain ⟨⟨l,f⟩,b⟩:=n;subst b;have r:=hid7 (I.out.below (below_regrown w2 l f));have c:=hid7 (aD0 t.out (below_regrown w2 l f));generalize Go.Sort.grow (redrawn w2 l) f=w3 at r c ⊢;clear X Z k1 D;go_wp2_with fail;refine (xU0 i k M w3 r.out HA.out B hm).mono ?_;rintro e L ⟨vf,rfl,F⟩;have y:Hid _:=F;clear F;go_wp2_with fail;go_ret;exact ⟨vf,rfl,by rw [g.out];exact bV0.from_ (EgGo.stay H.out c.out) y.out⟩
 ·have eq:=aC.2 C;refine wp_region_quiet_below k7 k7 ?_
  repeat (go_big_quiet_step (exact D _ _))
  refine wpQuiet_nil ?_;intro _ n;obtain ⟨⟨l,f⟩,b⟩:=n;subst b;have r:=hid7 (I.out.below (below_regrown w2 l f));have c:=hid7 (aD0 t.out (below_regrown w2 l f));generalize Go.Sort.grow (redrawn w2 l) f=w3 at r c ⊢;clear X Z k1 D I t;cases cb with
  | true=>
   have g:Hid (setM M=resM M):=by show _=_;rw [a.out,aB (aG rfl)]
   clear a C;go_wp2_with fail;refine (xU0 i k M w3 r.out HA.out B hm).mono ?_;rintro e L ⟨vf,rfl,F⟩;have y:Hid _:=F;clear F;go_wp2_with fail;go_ret;exact ⟨vf,rfl,by rw [g.out];exact bV0.from_ (EgGo.stay H.out c.out) y.out⟩
  | false=>
   have g:Hid (setM M=if M.lo<M.mo then ([],{ M with lo:=M.lo+1,en:=M.now+M.ti }) else ([],{ M with ph:=6 })):=by show _=_;rw [a.out,aA (by rintro (e | e);exact C e;cases e)]
   clear a C;go_upto_region 5 with fail;have P:=cell_regrown (aA0 (j:=10) (v:=U G M.lo) r.out.box rfl);have c8:=cell_regrown (aA0 (j:=8) (v:=U G M.mo) r.out.box rfl);refine wp_region_quiet_below k7 k7 ?_
   repeat (go_big_quiet_step (fail))
   refine wpQuiet_nil ?_;intro _ n;obtain ⟨⟨K,s⟩,b⟩:=n;subst b;have o:=hid7 ((EgGo.stay H.out c.out).bel (below_regrown w3 K s));generalize Go.Sort.grow (redrawn w3 K) s=L at o ⊢;clear P c8 r c;have Q:L.cell? ⟨i,10,none⟩=some (U G M.lo):=aA0 (j:=10) o.out.1.box rfl;have S:=aB0 (j:=10) o.out.1.box;have d5:L.cell? ⟨i,5,none⟩=some (U G M.ph):=aA0 (j:=5) o.out.1.box rfl;have f5:=aB0 (j:=5) o.out.1.box
   by_cases hl:M.lo<M.mo
   ·have x:Hid (setM M=([],{ M with lo:=M.lo+1,en:=M.now+M.ti })):=by show _=_;rw [g.out,aB hl]
    go_upto_region 7 with fail;have z:=o.out.1.write (j:=10) (u:=U G (M.lo+1)) (M':={ M with lo:=M.lo+1 }) rfl rfl rfl rfl rfl ⟨rfl,rfl,rfl,rfl⟩;generalize L.setCell ⟨i,10,none⟩ (U G (M.lo+1))=w5 at z ⊢;have e6:w5.cell? ⟨i,6,none⟩=some (U G M.now):=aA0 (j:=6) z.1.box rfl;have e7:w5.cell? ⟨i,7,none⟩=some (U G M.ti):=aA0 (j:=7) z.1.box rfl;have e9:w5.cell? ⟨i,9,none⟩=some (U G M.en):=aA0 (j:=9) z.1.box rfl;have g9:=aB0 (j:=9) z.1.box;have H5:=hid7 (o.out.trans z);clear z Q S d5 f5;go_region
    all_goals go_wp2_with fail
    all_goals go_ret
    all_goals exact ⟨_,rfl,bV0.none_ x.out ((H5.out.bel (aF _ _).drew).trans (H5.out.1.drew.write (j:=9) (u:=U G (M.now+M.ti)) (M':={ M with lo:=M.lo+1,en:=M.now+M.ti }) rfl rfl rfl rfl rfl ⟨rfl,rfl,rfl,rfl⟩)) (bV _ _)⟩
   ·have x:Hid (setM M=([],{ M with ph:=6 })):=by show _=_;rw [g.out,aA hl]
    go_wp2_with fail;go_ret;exact ⟨_,rfl,bV0.none_ x.out (o.out.trans (o.out.1.write (j:=5) (u:=U G 6) (M':={ M with ph:=6 }) rfl rfl rfl rfl rfl ⟨rfl,rfl,rfl,rfl⟩)) (bV _ _)⟩
theorem xV0 (a is:Int) (m:Mkt):kP0 a is m=if is=7 then finM m else if m.ph=6 then ([],m) else if is≠a then qO0 is m else if m.ph=4/\m.en<=m.now then setM m else ([],m):=by
 unfold kP0
 by_cases i:is=7
 ·rw [aB i,aB i];rfl
 ·rw [aA i,aA i]
  by_cases g:m.ph=6
  ·rw [aB g,aB g]
  ·rw [aA g,aA g]
   by_cases c:is=a
   ·have j:¬(a≠is/\is=3):=fun e=>e.1 c.symm
    have k:¬(a≠is/\is=5):=fun e=>e.1 c.symm
    have l:¬(a≠is):=fun e=>e c.symm
    have n:¬(is≠a):=fun e=>e c
    rw [aA j,aA k,aA l,aA n];rfl
   ·have b:a≠is:=fun e=>c e.symm
    rw [aB (show is≠a from c)];unfold qO0
    by_cases d:is=3
    ·rw [aB ⟨b,d⟩,aB d,d];rfl
    ·rw [aA (fun e=>d e.2),aA d]
     by_cases f:is=5
     ·rw [aB ⟨b,f⟩,aB f]
     ·rw [aA (fun e=>f e.2),aA f,aB b]
structure MNum (M:Mkt):Prop where
 la:1<=M.la/\M.la<=1000000
 pk:M.P.length<=100
 wf:∀o∈M.P,(Lit.int .i64 o.id).wf=true
 now:0<=M.now/\M.now<=1000000000
 ti:0<=M.ti/\M.ti<=1000000000
 lo:0<=M.lo/\M.lo<=1000000
 rs:0<M.rs.length/\M.rs.length<=60
theorem fF2 (g:Nat) (k:EgK) (M:Mkt) (w:World) (h:Eg w g k M) (N:MNum M) (Q:(phaseV M.rs (M.now+1)).1=3->(phaseV M.rs M.now).1≠3->M.ph≠6->iA0 M.ph=true) (O:k.m<=700000):
  Calls prog 69 #[E (some ⟨g,0,none⟩)] w fun e w'=>∃vf err,e=Y (.tuple #[vf,err])/\ErrE err (pK0 M)/\bV0 w w' g k (bT0 M) vf:=by
 have J:w.cell? ⟨g,5,none⟩=some (U G M.ph):=aA0 (j:=5) h.box rfl;have H:=hid7 h;have p:=hid7 N;have x:=hid7 Q;have a0:=N.now;clear h N Q
 by_cases s:M.ph=7
 ·have d:Hid (pK0 M=6/\bT0 M=([],M)):=⟨by unfold pK0;rw [aB s],by unfold bT0;rw [aB s]⟩;have e7:=beq_iff_eq.2 s;clear s;go_enter func69,ntmps69;go_wp2_with fail;go_ret2;exact ⟨_,_,rfl,ErrE.no 6 d.out.1 d7,bV0.none_ d.out.2 (EgGo.refl H.out) (bV _ _)⟩
 ·have d:Hid (pK0 M=0/\bT0 M=kP0 (phaseV M.rs M.now).1 (phaseV M.rs (M.now+1)).1 { M with now:=M.now+1 }):=⟨by unfold pK0;rw [aA s],by unfold bT0;rw [aA s]⟩;have e7:=aC.2 s;clear s;go_enter func69,ntmps69;go_wp2_with fail;refine (tL0 g k M w H.out p.out.rs).mono ?_;rintro e w1 ⟨rfl,y⟩;have h1:=H.out.below y;have c6:w1.cell? ⟨g,6,none⟩=some (U G M.now):=aA0 (j:=6) h1.box rfl;have f6:=aB0 (j:=6) h1.box;have P:=h1.write (j:=6) (u:=U G (M.now+1)) (M':={ M with now:=M.now+1 }) rfl rfl rfl rfl rfl ⟨rfl,rfl,rfl,rfl⟩;have I:=hid7 ((EgGo.stay H.out y).trans P);clear y h1 P J;go_wp2_with fail;generalize w1.setCell ⟨g,6,none⟩ (U G (M.now+1))=w2 at I ⊢;clear c6 f6;refine (tL0 g k { M with now:=M.now+1 } w2 I.out.1 p.out.rs).mono ?_;rintro e t ⟨rfl,C⟩;have a:=hid7 (I.out.bel C);have J:t.cell? ⟨g,5,none⟩=some (U G M.ph):=aA0 (j:=5) a.out.1.box rfl;clear C I;rw [show (phaseV ({ M with now:=M.now+1 }:Mkt).rs ({ M with now:=M.now+1 }:Mkt).now).1=(phaseV M.rs (M.now+1)).1 from rfl];generalize (phaseV M.rs (M.now+1)).1=is at d x;generalize (phaseV M.rs M.now).1=was at d x;rw [xV0] at d
  by_cases c:is=7
  ·have b:Hid (bT0 M=finM { M with now:=M.now+1 }):=by show _=_;rw [d.out.2,aB c]
   have b7:=beq_iff_eq.2 c;clear c x;go_wp2_with fail;refine (vR1 g k { M with now:=M.now+1 } t a.out.1 p.out.la O).mono ?_;rintro e F ⟨vf,k4,rfl,T,S,hk⟩;have l:Hid (bV0 t F g k (finM { M with now:=M.now+1 }) vf):=⟨k4,T,S,hk⟩;clear T S hk;go_wp2_with fail;go_ret2;exact ⟨_,_,rfl,ErrE.yes d.out.1,by rw [b.out];exact bV0.from_ a.out l.out⟩
  ·have b7:=aC.2 c
   by_cases q:M.ph=6
   ·have b:Hid (bT0 M=([],{ M with now:=M.now+1 })):=by show _=_;rw [d.out.2,aA c,aB q]
    have b6:=beq_iff_eq.2 q;clear c q x;go_wp2_with fail;go_ret2;exact ⟨_,_,rfl,ErrE.yes d.out.1,bV0.none_ b.out a.out (bV _ _)⟩
   ·have b6:=aC.2 q
    by_cases z:is=was
    ·have b:Hid (bT0 M=if M.ph=4/\M.en<=M.now+1 then setM { M with now:=M.now+1 } else ([],{ M with now:=M.now+1 })):=by show _=_;rw [d.out.2,aA c,aA q,aA (fun e=>e z)]
     have bw:(is != was)=false:=by simp [z]
     clear c q z x;go_upto_region 12 with fail;have V:=cell_regrown (aA0 (j:=5) (v:=U G M.ph) a.out.1.box rfl);have W:=cell_regrown (aA0 (j:=6) (v:=U G (M.now+1)) a.out.1.box rfl);have X:=cell_regrown (aA0 (j:=9) (v:=U G M.en) a.out.1.box rfl)
     by_cases r:M.ph=4
     ·have Z:=beq_iff_eq.2 r;have L:Hid (iA0 M.ph=true):=by show _=_;rw [r];rfl
      refine wp_region_quiet_below k7 k7 ?_
      repeat (go_big_quiet_step (fail))
      refine wpQuiet_nil ?_;intro _ A;obtain ⟨⟨B,o⟩,n⟩:=A;subst n;have f:=hid7 (a.out.bel (below_regrown t B o));generalize Go.Sort.grow (redrawn t B) o=F at f ⊢;clear V W X J a
      by_cases R:M.en<=M.now+1
      ·have i:Hid (bT0 M=setM { M with now:=M.now+1 }):=by show _=_;rw [b.out,aB ⟨r,R⟩]
       clear r b;go_wp2_with fail;refine (vS1 g k { M with now:=M.now+1 } F f.out.1 L.out p.out.la (by show 0<=M.now+1/\M.now+1<=1000000000000;omega) (by show 0<=M.ti/\M.ti<=1000000000000;have:=p.out.ti;omega) p.out.lo O).mono ?_;rintro e w5 ⟨vf,rfl,D⟩;have l:Hid _:=D;clear D;go_wp2_with fail;go_ret2;exact ⟨_,_,rfl,ErrE.yes d.out.1,by rw [i.out];exact bV0.from_ f.out l.out⟩
      ·have i:Hid (bT0 M=([],{ M with now:=M.now+1 })):=by show _=_;rw [b.out,aA (fun e=>R e.2)]
       clear r b;go_wp2_with fail;go_ret2;exact ⟨_,_,rfl,ErrE.yes d.out.1,bV0.none_ i.out f.out (bV _ _)⟩
     ·have Z:=aC.2 r;have i:Hid (bT0 M=([],{ M with now:=M.now+1 })):=by show _=_;rw [b.out,aA (fun e=>r e.1)]
      clear r b;refine wp_region_quiet_below k7 k7 ?_
      repeat (go_big_quiet_step (fail))
      refine wpQuiet_nil ?_;intro _ A;obtain ⟨⟨B,o⟩,n⟩:=A;subst n;have f:=hid7 (a.out.bel (below_regrown t B o));generalize Go.Sort.grow (redrawn t B) o=F at f ⊢;clear V W X J a;go_wp2_with fail;go_ret2;exact ⟨_,_,rfl,ErrE.yes d.out.1,bV0.none_ i.out f.out (bV _ _)⟩
    ·have b:Hid (bT0 M=qO0 is { M with now:=M.now+1 }):=by show _=_;rw [d.out.2,aA c,aA q,aB z]
     have K:Hid (is=3->iA0 M.ph=true):=fun e=>x.out e (fun e2=>z (e.trans e2.symm)) q
     have bw:(is != was)=true:=by simpa using z
     clear c q z x;go_wp2_with fail;refine (fE2 g k { M with now:=M.now+1 } is t a.out.1 K.out p.out.la p.out.pk p.out.wf O).mono ?_;rintro e F ⟨vf,rfl,D⟩;have l:Hid _:=D;clear D;go_wp2_with fail;go_ret2;exact ⟨_,_,rfl,ErrE.yes d.out.1,by rw [b.out];exact bV0.from_ a.out l.out⟩
theorem fG2 (c:Nat) (k:EgK) (M:Mkt) (w:World) (h:Eg w c k M) (r:MNum M) (x:k.m<=700000):
  Calls prog 74 #[E (some ⟨c,0,none⟩)] w fun e w'=>∃err k',e=Y err/\ErrE err (kD0 M)/\EgGo w w' c k k' (eA0 M)/\k'.m<=k.m+302:=by
 have v:w.cell? ⟨c,5,none⟩=some (U G M.ph):=aA0 (j:=5) h.box rfl;have H:=hid7 h;have l:=hid7 r;clear h r
 by_cases g:M.ph=6
 ·have y:(M.ph != 6)=false:=by simp [g]
  have b:Hid (kD0 M=0/\eA0 M=if (phaseV M.rs M.now).1=3 then volM M else if (phaseV M.rs M.now).1=5 then kC0 M else { M with ph:=(phaseV M.rs M.now).1 }):=⟨by unfold kD0;rw [aB g],by unfold eA0;rw [aB g]⟩;clear g;go_enter func74,ntmps74;go_wp2_with fail;refine (tL0 c k M w H.out l.out.rs).mono ?_;rintro e w1 ⟨rfl,o⟩;have d:Hid (EgGo w w1 c k k M):=EgGo.stay H.out o;clear o v;generalize (phaseV M.rs M.now).1=p at b
  by_cases f:p=3
  ·have a:Hid (eA0 M=volM M):=by show _=_;rw [b.out.2,aB f]
   have s:=beq_iff_eq.2 f;clear f;go_wp2_with fail;refine (rC0 c k M w1 d.out.1 (by have:=l.out.now;omega) (by have:=l.out.ti;omega)).mono ?_;rintro e z ⟨rfl,n⟩;have q:=hid7 (d.out.trans n);clear n;go_wp2_with fail;go_ret;exact ⟨_,k,rfl,ErrE.yes b.out.1,by rw [a.out];exact q.out,bV _ _⟩
  ·have s:=aC.2 f
   by_cases i:p=5
   ·have a:Hid (eA0 M=kC0 M):=by show _=_;rw [b.out.2,aA f,aB i]
    have t:=beq_iff_eq.2 i;clear f i;go_wp2_with fail;refine (pR1 c k M w1 d.out.1 l.out.pk l.out.wf x).mono ?_;rintro e z ⟨k2,rfl,n,hk⟩;have q:=hid7 (d.out.trans n);clear n;go_wp2_with fail;go_ret;exact ⟨_,k2,rfl,ErrE.yes b.out.1,by rw [a.out];exact q.out,aI hk o7⟩
   ·have a:Hid (eA0 M={ M with ph:=p }):=by show _=_;rw [b.out.2,aA f,aA i]
    have t:=aC.2 i;have A:w1.cell? ⟨c,5,none⟩=some (U G M.ph):=aA0 (j:=5) d.out.1.box rfl;have B:=aB0 (j:=5) d.out.1.box;clear f i;go_wp2_with fail;go_ret;exact ⟨_,k,rfl,ErrE.yes b.out.1,by rw [a.out];exact d.out.trans (d.out.1.write (j:=5) (u:=U G p) (M':={ M with ph:=p }) rfl rfl rfl rfl rfl ⟨rfl,rfl,rfl,rfl⟩),bV _ _⟩
 ·have y:(M.ph != 6)=true:=by simpa using g
  have b:Hid (kD0 M=6/\eA0 M=M):=⟨by unfold kD0;rw [aA g],by unfold eA0;rw [aA g]⟩;clear g;go_enter func74,ntmps74;go_wp2_with fail;go_ret;exact ⟨_,k,rfl,ErrE.no 6 b.out.1 d7,by rw [b.out.2];exact EgGo.refl H.out,bV _ _⟩
structure RefOk (M:Mkt) (p:Ord):Prop where
 side:p.side=1\/p.side=2
 kind:1<=p.kind/\p.kind<=4
 id:1<=p.id
 right:1<=p.price/\p.price<=1000000/\1<=p.qty/\p.qty<=1000000
 takes:eV0 M.ph p.kind=true
 new:p.id ∉ M.I
 room:M.L.length+M.P.length<100
theorem tY0 {p:Ord} (h:refN M p=0):RefOk M p:=by
 unfold refN at h
 by_cases h1:oD0 p=false
 ·rw [aB h1] at h;cases h
 rw [aA h1] at h
 by_cases a:cZ0 p.price p.qty=false
 ·rw [aB a] at h;cases h
 rw [aA a] at h
 by_cases b:eV0 M.ph p.kind=false
 ·rw [aB b] at h;cases h
 rw [aA b] at h
 by_cases c:decide (p.id∈M.I)=true
 ·rw [aB c] at h;cases h
 rw [aA c] at h
 by_cases f:100<=M.L.length+M.P.length
 ·rw [aB f] at h;cases h
 have k1:oD0 p=true:=by simpa using h1
 have k2:cZ0 p.price p.qty=true:=by simpa using a
 unfold oD0 at k1;simp only [bE,decide_eq_true_eq] at k1;unfold cZ0 at k2;rw [bE] at k2;have d:=eR0 k2.1;have e:=eR0 k2.2;exact ⟨o7,o7,o7,⟨d.1,d.2,e.1,e.2⟩,by simpa using b,by simpa using c,o7⟩
theorem kH1 {w1 f:World} {e:Nat} {g:Mkt} {r:List Fil×Mkt} {vf:Value} {n:Nat} (h:EgGo w w1 e k k1 g) (h1:∃d,f.ownsRow w1.heap.size 146 4 vf r.1.length (fV r.1)/\EgGo w1 f e k1 d r.2/\d.m<=k1.m+n) (i:k1.m+n<=k.m+302):bV0 w f e k r vf:=by
 obtain ⟨d,a,b,c⟩:=h1;exact ⟨d,bW0 a h.2.1.size,h.trans b,aI c i⟩
theorem pS0 {b:Nat} {p:Ord} (h:hU0 wc b p):aC0 wc b 0 (U G p.id)/\aC0 wc b 1 (U G p.side)/\aC0 wc b 2 (U G p.kind)/\aC0 wc b 3 (U G p.price)/\aC0 wc b 4 (U G p.qty):=⟨aA0 (j:=0) h rfl,aA0 (j:=1) h rfl,aA0 (j:=2) h rfl,aA0 (j:=3) h rfl,aA0 (j:=4) h rfl⟩
theorem bH2 (q:Nat) (k:EgK) (M:Mkt) (o:Ord) (w:World) (h:Eg w q k M) (hN:MNum M) (hw:(Lit.int .i64 o.id).wf=true) (hm:k.m<=600000):
  Calls prog 116 #[E (some ⟨q,0,none⟩),o.agg] w fun e w'=>∃vf err,e=Y (.tuple #[vf,err])/\ErrE err (ordN M o)/\bV0 w w' q k (ordM M o) vf:=by
 have H:=hid7 h;have HN:=hid7 hN;have g:Hid (ordN M o=refN M (lieO o)/\ordM M o=if refN M (lieO o)=0 then eW0 { M with I:=M.I++[(lieO o).id] } (lieO o) else ([],M)):=⟨rD0 M o,by unfold ordM;rw [rD0,iT0]⟩;have B:Hid ((Lit.int .i64 (lieO o).id).wf=true):=by show _=_;rw [iT0];exact hw
 have c7:=hN.pk;clear h hN hw;unfold Ord.agg;go_enter func116,ntmps116;go_upto_region 1 with fail;have z:=heap_alloc_new w (R #[U G o.id,U G o.side,U G o.kind,U G o.price,U G o.qty] 92);have hb:=bel1 w (R #[U G o.id,U G o.side,U G o.kind,U G o.price,U G o.qty] 92);generalize w.alloc (R #[U G o.id,U G o.side,U G o.kind,U G o.price,U G o.qty] 92)=w1 at z hb ⊢;have y2:aC0 w1 w.heap.size 2 (U G o.kind):=aA0 (j:=2) z rfl;have y3:aC0 w1 w.heap.size 3 (U G o.price):=aA0 (j:=3) z rfl;have g3:=aB0 (j:=3) z;have HX:Hid _:=z;have HB:=hid7 hb;clear z hb;go_upto_if 9 with fail;go_cut [9] (fun _ wc=>hU0 wc w.heap.size (lieO o)/\aL0 w wc)
 case first=>
  by_cases hk:o.kind=2
  ·have HE:Hid (lieO o={ o with price:=1 }):=aB hk;have bk:=beq_iff_eq.2 hk;clear hk;go_wp2_with fail;go_meet;exact ⟨by rw [HE.out];exact aJ0 (j:=3) (U G 1) HX,HB.setCell (p:=⟨w.heap.size,3,none⟩) lR7 _⟩
  ·have HE:Hid (lieO o=o):=aA hk;have bk:=aC.2 hk;clear hk;go_wp2_with fail;go_meet;exact ⟨by rw [HE.out];exact HX,HB⟩
 case rest=>
  obtain ⟨z,hb⟩:=hcut;clear HX HB y2 y3 g3;generalize lieO o=p at z g B;obtain ⟨x0,x1,x2,x3,x4⟩:=pS0 z;have HX:=hid7 z;have HB:=hid7 hb;have HC:=hid7 (H.below hb);clear z hb;go_wp2_with fail;refine (oT1 q k M p wc HC B o7).mono ?_;rintro e w2 ⟨rfl,V⟩;have a0:=hid7 (aD0 HB V);have Z:=hid7 (HC.below V);have T:Hid (hU0 w2 w.heap.size p):=aE0 HX V lR7;clear V x0 x1 x2 x3 x4 HB HX HC
  by_cases h0:refN M p=0
  ·have HR:=hid7 (tY0 h0);have d:Hid (ordN M o=0/\ordM M o=eW0 { M with I:=M.I++[p.id] } p):=⟨by rw [g.out.1,h0],by rw [g.out.2,aB h0]⟩;rw [h0];clear h0 g;go_upto_region 6 with fail;obtain ⟨f,b7,b2,a2⟩:=Z.drew.tkn.put B (by have:=Z.few;omega);have C:=Z.drew.ofTaken b2 a2 o7;have W:q≠k.tk:=Z.ebtk;have N:=Z.tkn.ne T;have a3:Hid (∀w',Out (fun j=>j=k.tk) w2 w'->aC0 w' q 4 (.map (some k.tk))/\aC0 w' w.heap.size 0 (U G p.id)/\Out (fun j=>j=k.tk) w2 w'):=fun w' ho=>⟨aA0 (j:=4) (aF0 Z.box ho W) rfl,aA0 (j:=0) (aF0 T ho N) rfl,ho⟩
   have a1:Hid (Out (fun j=>j=k.tk) w2 f):=aX0 (aW0 (bL _ _)) a2;have a4:=hid7 (aF0 T a1 N);have A:Hid (EgGo w f q k { k with m:=k.m+1,n:=k.n+1 } { M with I:=M.I++[p.id] }):=((EgGo.stay H a0).bel (aF _ _).drew).trans C;clear b2 a2 C W N
   go_region_held3 (fun w'=>aC0 w' q 4 (.map (some k.tk))/\aC0 w' w.heap.size 0 (U G p.id)/\Out (fun j=>j=k.tk) w2 w')
    ((refine a3 _ ?_;first | exact a1 | exact aW0 (bL _ _) | exact bL _ _)) (fail)
   obtain ⟨y0,y1,y2,y3,y4⟩:=pS0 a4;have c5:aC0 f q 5 (U G M.ph):=aA0 (j:=5) A.out.1.box rfl;clear b7 a3 a1 Z T a0
   by_cases a:p.kind=4/\M.ph≠5
   ·have HT:Hid (eW0 { M with I:=M.I++[p.id] } p=([],{ M with I:=M.I++[p.id],P:=M.P++[p] })):=by show _=_;unfold eW0;rw [aB a]
    have b4:=beq_iff_eq.2 a.1;have b5:(M.ph != 5)=true:=by simpa using a.2
    clear a;go_upto_region 9 with fail;obtain ⟨i0,c1,c3,c4,c6⟩:=info_parts infoOrdE;have b8:k.vp.ownBlock≠some w.heap.size:=fun e=>by have:=(H.pk.lt _ e).2;omega
    have S:Hid (∀w',Out (fun j=>k.vp.ownBlock=some j) f w'->aC0 w' q 3 k.vp/\aC0 w' w.heap.size 0 (U G p.id)/\aC0 w' w.heap.size 1 (U G p.side)/\aC0 w' w.heap.size 2 (U G p.kind)/\aC0 w' w.heap.size 3 (U G p.price)/\aC0 w' w.heap.size 4 (U G p.qty)/\Out (fun j=>k.vp.ownBlock=some j) f w'):=fun w' ho=>by
     obtain ⟨z0,z1,z2,z3,z4⟩:=pS0 (aF0 a4 ho b8);exact ⟨aA0 (j:=3) (v:=k.vp) (aF0 A.out.1.box ho A.out.1.ebpk) rfl,z0,z1,z2,z3,z4,ho⟩
    have b1:M.P.length+1<=maxLen:=by unfold maxLen;omega
    clear b8 y0 y1 y2 y3 y4 c5;refine fE0 (fun w'=>aC0 w' q 3 k.vp/\aC0 w' w.heap.size 0 (U G p.id)/\aC0 w' w.heap.size 1 (U G p.side)/\aC0 w' w.heap.size 2 (U G p.kind)/\aC0 w' w.heap.size 3 (U G p.price)/\aC0 w' w.heap.size 4 (U G p.qty)/\Out (fun j=>k.vp.ownBlock=some j) f w') (fun i=>i == 10) k7 (S _ (aW0 (bL _ _))) (fun hHeld=>?_);refine tkL9 0 a7 ?_;refine tkL9 1 a7 ?_;refine tkL9 2 a7 ?_;refine tkL9 3 a7 ?_;refine tkL9 4 a7 ?_;refine tkL9 5 a7 ?_;refine aN0 (rs:=[6]) k7 s7 ?_;refine aG0.cons rfl (fun K hK=>?_) aG0.nil;go_simp;refine hK.out _ _ (fun _=>S _ (dD0 (aW0 (bL _ _)) _)) (fun hHeld=>?_);replace hHeld:=hHeld rfl;clear hK K;refine aN0 (rs:=[7]) k7 s7 ?_;refine aG0.cons rfl (fun K hK=>?_) aG0.nil;refine tS0 _ rfl (.tmp 44) (.tmp 46) 99 rfl 0 92 i0 _ 5 40 underlying99 c1 c3 c4 c6 r7 o7 k.vp M.P.length (oV M.P) r7 (aU0 (A.out.1.drew).pk (bel1 _ _) lR7) (some ⟨f.heap.size,0,none⟩) 1 1 [U G p.id,U G p.side,U G p.kind,U G p.price,U G p.qty] r7 r7 (aG ⟨_,rfl,World.news_of_block (cs:=#[U G p.id,U G p.side,U G p.kind,U G p.price,U G p.qty]) (t:=92) (fr:=(0,0)) (heap_alloc_new f.drew _)⟩) (by simp [Value.oneCell']) b1 o7 (aO _) ?_;intro v5 w5 h5 u a9;obtain ⟨a5,n5,c2,_,_⟩:=bC0 h5;subst c2;have Q:Hid (Out (fun j=>k.vp.ownBlock=some j) f w5):=aX0 (dD0 (aW0 (bL _ _)) _) (Out.of_grown u (fun _ e=>e));have X:=A.out.1.ofParked (P':=M.P++[p]) Q (by rw [aN,cL0];exact h5) (fun j hj=>(a9 j hj).imp id (fun e=>aI (Nat.le_succ _) (by simpa using e)));have d3:aC0 w5 q 3 k.vp:=(S _ Q).1;have g3:=aB0 (j:=3) (aF0 A.out.1.box Q A.out.1.ebpk);have H5:=hid7 (A.trans X);clear h5 u a9 X;refine hK.out _ _ (fun _=>S _ Q) (fun hHeld=>?_);replace hHeld:=hHeld rfl;clear hK K;refine tkL9 8 a7 ?_;refine tkL9 9 a7 ?_;refine aN0 (rs:=[10]) k7 s7 ?_;refine aG0.cons rfl (fun K hK=>?_) aG0.nil;go_simp;refine hK.out _ _ (fun h=>by cases h) (fun _=>?_);refine gS0 k7 ?_ _;go_wp2_with fail;go_ret2;exact ⟨_,_,rfl,ErrE.yes d.out.1,bV0.none_ (d.out.2.trans HT) H5 (by show k.m+1<=k.m+302;omega)⟩
   ·by_cases C:M.ph=3
    ·have HT:Hid (eW0 { M with I:=M.I++[p.id] } p=eB0 { M with I:=M.I++[p.id] } p):=by show _=_;unfold eW0;rw [aA a,aA (fun e=>e C)]
     have b4:(p.kind == 4)=false:=aC.2 (fun e=>a ⟨e,by rw [C];decide⟩);have b3:=beq_iff_eq.2 C;clear a C;go_wp2_with fail;refine (bA2 q { k with m:=k.m+1,n:=k.n+1 } { M with I:=M.I++[p.id] } p f A.out.1 (by show k.m+1<=700000;omega) HR.side (by have:=HR.right;omega) B (by have:=HN.now;show 0<=M.now/\M.now<=1000000000000;omega) (by have:=HN.ti;show 0<=M.ti/\M.ti<=1000000000000;omega)).mono ?_;rintro e w4 ⟨vf,k4,rfl,b6,a6,a8⟩;have c0:Hid (bV0 w w4 q k (eB0 { M with I:=M.I++[p.id] } p) vf):=kH1 A ⟨k4,b6,a6,a8⟩ (by show k.m+1+101<=k.m+302;omega);clear b6 a6 a8;go_wp2_with fail;go_ret2;exact ⟨_,_,rfl,ErrE.yes d.out.1,by rw [d.out.2,HT.out];exact c0⟩
    ·have HT:Hid (eW0 { M with I:=M.I++[p.id] } p=([],{ M with I:=M.I++[p.id],L:=addL p M.L })):=by show _=_;unfold eW0;rw [aA a,aB C]
     have b3:=aC.2 C
     by_cases D:p.kind=4
     ·have b4:=beq_iff_eq.2 D
      have b5:(M.ph != 5)=false:=by
       have:M.ph=5:=Classical.byContradiction (fun e=>a ⟨D,e⟩);simp [this]
      clear a C D;have c:=heap_alloc_new f (R #[U G p.id,U G p.side,U G p.kind,U G p.price,U G p.qty] 92);have l:=bel1 f (R #[U G p.id,U G p.side,U G p.kind,U G p.price,U G p.qty] 92);go_wp2_with fail;generalize f.alloc (R #[U G p.id,U G p.side,U G p.kind,U G p.price,U G p.qty] 92)=w4 at c l ⊢;have D:=A.out.1.below l
      have s:∀b O,some (⟨f.heap.size,0,none⟩:Addr)=some ⟨b,O,none⟩->¬k.b.foot k.bb b:=fun b O e=>by
       injection e with e;injection e with e _ _;rw [<-e];exact D.bk.farBox c d7 d7 d7 d7 d7
      have F:dS0 w4 (some ⟨f.heap.size,0,none⟩) [p]:=fun i hi=>by
       have e:i=0:=by simp at hi;omega
       subst e;exact ⟨f.heap.size,0,rfl,aA0 (j:=0) c rfl,aA0 (j:=1) c rfl,aA0 (j:=2) c rfl,aA0 (j:=3) c rfl,aA0 (j:=4) c rfl⟩
      have y:=hid7 (A.bel l);clear c l D;refine (uX1 q { k with m:=k.m+1,n:=k.n+1 } { M with I:=M.I++[p.id] } (some ⟨f.heap.size,0,none⟩) 1 [p] w4 y.out.1 F (fun x z=>by rw [bC.1 z];exact B) s (by show k.m+1+1<=900000;omega)).mono ?_;rintro e w5 ⟨rfl,b5,J,u⟩;have H5:Hid (EgGo w w5 q k { k with m:=k.m+1+1,n:=k.n+1,b:=b5 } { M with I:=M.I++[p.id],L:=addL p M.L }):=y.trans (y.out.1.ofBook u J (bV _ _));clear J u F s;go_wp2_with fail;go_ret2;exact ⟨_,_,rfl,ErrE.yes d.out.1,bV0.none_ (d.out.2.trans HT) H5 (by show k.m+1+1<=k.m+302;omega)⟩
     ·have b4:=aC.2 D;clear a C D;have c:=heap_alloc_new f (R #[U G p.id,U G p.side,U G p.kind,U G p.price,U G p.qty] 92);have l:=bel1 f (R #[U G p.id,U G p.side,U G p.kind,U G p.price,U G p.qty] 92);go_wp2_with fail;generalize f.alloc (R #[U G p.id,U G p.side,U G p.kind,U G p.price,U G p.qty] 92)=w4 at c l ⊢;have D:=A.out.1.below l
      have s:∀b O,some (⟨f.heap.size,0,none⟩:Addr)=some ⟨b,O,none⟩->¬k.b.foot k.bb b:=fun b O e=>by
       injection e with e;injection e with e _ _;rw [<-e];exact D.bk.farBox c d7 d7 d7 d7 d7
      have F:dS0 w4 (some ⟨f.heap.size,0,none⟩) [p]:=fun i hi=>by
       have e:i=0:=by simp at hi;omega
       subst e;exact ⟨f.heap.size,0,rfl,aA0 (j:=0) c rfl,aA0 (j:=1) c rfl,aA0 (j:=2) c rfl,aA0 (j:=3) c rfl,aA0 (j:=4) c rfl⟩
      have y:=hid7 (A.bel l);clear c l D;refine (uX1 q { k with m:=k.m+1,n:=k.n+1 } { M with I:=M.I++[p.id] } (some ⟨f.heap.size,0,none⟩) 1 [p] w4 y.out.1 F (fun x z=>by rw [bC.1 z];exact B) s (by show k.m+1+1<=900000;omega)).mono ?_;rintro e w5 ⟨rfl,b5,J,u⟩;have H5:Hid (EgGo w w5 q k { k with m:=k.m+1+1,n:=k.n+1,b:=b5 } { M with I:=M.I++[p.id],L:=addL p M.L }):=y.trans (y.out.1.ofBook u J (bV _ _));clear J u F s;go_wp2_with fail;go_ret2;exact ⟨_,_,rfl,ErrE.yes d.out.1,bV0.none_ (d.out.2.trans HT) H5 (by show k.m+1+1<=k.m+302;omega)⟩
  ·have d:Hid (ordN M o=refN M p/\ordM M o=([],M)):=⟨g.out.1,by rw [g.out.2,aA h0]⟩;have b0:(refN M p != 0)=true:=by simpa using h0
   generalize refN M p=r at h0 b0 d;have b9:=hid7 h0;clear h0 g;go_wp2_with fail;go_ret2;exact ⟨_,_,rfl,ErrE.no r d.out.1 b9,bV0.none_ d.out.2 (EgGo.stay H a0) (bV _ _)⟩
end
section
open Go.RowKit Go.Shelf
theorem oK0 {g:Nat} {t:TypeId}:∀(vs:List Value) (o:Nat) (w:World) (cur:Array Value),w.heap[g]? = some (R cur t (0,0))->o+vs.length<=cur.size->
  (w.setCells g o vs).heap[g]? = some (R (cur.toList.take o++vs++cur.toList.drop (o+vs.length)).toArray t (0,0))
 | [],o,w,cur,h,_=>by
  show w.heap[g]? = _;rw [h];simp
 | v::vs,o,w,cur,h,hs=>by
  show ((w.setCell ⟨g,o,none⟩ v).setCells g (o+1) vs).heap[g]? = _;rw [aZ] at hs;rw [oK0 vs (o+1) _ _ (aJ0 v h) (by simp;omega)]
  congr 2
  rw [Array.toList_setIfInBounds]
  congr 1
  rw [List.take_set,aM (by simpa using (by omega:o<cur.size)),List.set_append_right _ _ (by rw [bF];omega),List.drop_set_of_lt o7];have a:cur.toList.length=cur.size:=Array.length_toList;have e:o - (cur.toList.take o).length=0:=by rw [bF];omega
  rw [e];simp
  congr 1;omega
theorem oL0 (g:Nat):∀(vs:List Value) (o:Nat) (w:World),Out (fun j=>j=g) w (w.setCells g o vs)
 | [],_,_=>bL _ _
 | v::vs,o,w=>(aM0 w ⟨g,o,none⟩ v).trans (oL0 g vs (o+1) _) (aJ _ _)
theorem zeroOrdE (w:World):(zeroValue 92).run prog w=.ok (.agg #[U G 0,U G 0,U G 0,U G 0,U G 0]) w:=k7
theorem bI2 (W:World) (g o c:Nat) (a:Array Value) (t:TypeId) (e:W.heap[g]? = some (R a t (0,0))) (b:o+5<=a.size):
  ∃W',(∀f,(Builtin.clear_ #[99] f #[J (some ⟨g,o,none⟩) 1 c]).run prog W=.ok (.tuple #[]) W')
   /\W'.heap[g]? = some (R (a.toList.take o++[Value.int .i64 0,Value.int .i64 0,Value.int .i64 0,Value.int .i64 0,Value.int .i64 0]++a.toList.drop (o+5)).toArray t (0,0))/\Out (fun j=>j=g) W W':=by
 refine ⟨W.setRow g (a.toList.take o++[Value.int .i64 0,Value.int .i64 0,Value.int .i64 0,Value.int .i64 0,Value.int .i64 0]++a.toList.drop (o+5)).toArray,fun f=>?_,setRow_heap W g _ _ t _ e,⟨rfl,rfl,rfl,by simp [World.setRow],fun j _ k=>setRow_other W g j _ k⟩⟩;have d:=run_storeCells_at prog g o t [Value.int .i64 0,Value.int .i64 0,Value.int .i64 0,Value.int .i64 0,Value.int .i64 0] 0 a W e (by simpa using b) (by simp [Value.oneCell']);have m:=zeroOrdE W;have l:=run_underlying (P:=prog) underlying99 (w:=W);simp only [Nat.add_zero,aZ,List.length_nil,bT,Nat.reduceAdd] at d;simp [Builtin.clear_,l,m,Builtin.zeroCells,Value.cells];rw [show List.map (fun i=>[Value.int .i64 0,Value.int .i64 0,Value.int .i64 0,Value.int .i64 0,Value.int .i64 0][i % 5]?.getD default) (List.range 5)=[Value.int .i64 0,Value.int .i64 0,Value.int .i64 0,Value.int .i64 0,Value.int .i64 0] from rfl,d];simp
theorem bN1 (i:Nat) (l:List Ord):oV l=oV (l.take i)++oV (l.drop i):=by rw [<-cL0,List.take_append_drop]
theorem pS1 {i:Nat}:oV (l.eraseIdx i)=oV (l.take i)++oV (l.drop (i+1)):=by rw [List.eraseIdx_eq_take_drop_succ,cL0]
theorem iC2 (g cap i:Nat) (l:List Ord) (w:World) (L:w.ownsRow 0 92 5 (J (some ⟨g,0,none⟩) l.length cap) l.length (oV l)) (hl:l.length<=1000) (hi:i<l.length):
  Calls prog 119 #[J (some ⟨g,0,none⟩) l.length cap,U G i,U G ((i:Int)+1)] w fun e w'=>e=Y (J (some ⟨g,0,none⟩) (l.length - 1) cap)
   /\w'.ownsRow 0 92 5 (J (some ⟨g,0,none⟩) (l.length - 1) cap) (l.length - 1) (oV (l.eraseIdx i))/\Out (fun j=>j=g) w w':=by
 obtain ⟨X,D,V,E,W⟩:=info_parts infoOrdE;rcases L.2 with ⟨x,_⟩ | ⟨g',H,a,x,_,K,Q,B,C,M⟩
 ·simp at x
 simp only [Value.slice.injEq,Option.some.injEq,Addr.mk.injEq,and_true,true_and] at x;obtain ⟨rfl,rfl⟩:=x;clear L;unfold maxLen at B;have N:(oV (l.take i)).length=i*5:=by rw [cB0,bF];omega
 have d:(oV (l.drop (i+1))).length=(l.length - (i+1))*5:=by rw [cB0,List.length_drop]
 have hcut:=M;have f:w.drew.heap[g]? = some (R a 92 (0,0)):=K
 obtain ⟨A,O,v⟩:∃A:Addr,(if cap=i+1 then some (⟨g,0,none⟩:Addr) else some ⟨g,(i+1)*5,none⟩)=some A/\Hid (∀t u,(oV (l.drop (i+1)))[t]? = some u->w.drew.cell? (A.add t)=some u):=by
  by_cases h:cap=i+1
  ·refine ⟨⟨g,0,none⟩,by simp [h],fun t u y=>?_⟩;have:=(List.getElem?_eq_some_iff.1 y).1;omega
  ·refine ⟨⟨g,(i+1)*5,none⟩,by simp [h],fun t u y=>?_⟩;have r:=(List.getElem?_eq_some_iff.1 y).1;rw [Addr.add_lit];refine aA0 f ?_
   have I:(a.toList.take (l.length*5))[(i+1)*5+t]? = some u:=by
    rw [hcut,bN1 (i+1) l,List.getElem?_append_right (by rw [cB0,bF];omega),cB0,bF];rw [show (i+1)*5+t - min (i+1) l.length*5=t by omega];exact y
   rw [List.getElem?_take_of_lt o7] at I;rw [<-Array.getElem?_toList];exact I
 have s3:Hid (∀t,t<(oV (l.drop (i+1))).length->(w.drew.cell? ⟨g,0+i*5+t,none⟩).isSome=true/\w.drew.frozen? ⟨g,0+i*5+t,none⟩=false):=fun t T=>by
  refine ⟨?_,aB0 f⟩;have r:0+i*5+t<a.size:=o7;rw [aA0 f (Array.getElem?_eq_getElem r)];rfl
 have s1:=hid7 d;have s2:Hid (∀u∈oV (l.drop (i+1)),u.oneCell'=true):=jH0 _;have k:=oK0 (oV (l.drop (i+1))) (0+i*5) w.drew a f o7;have n:=oL0 g (oV (l.drop (i+1))) (0+i*5) w.drew;obtain ⟨z,m⟩:∃z,z=w.drew.setCells g (0+i*5) (oV (l.drop (i+1))):=⟨_,rfl⟩;rw [<-m] at k n;have P:=hid7 m;obtain ⟨c,b⟩:∃c:Array Value,c=(a.toList.take (0+i*5)++oV (l.drop (i+1))++a.toList.drop (0+i*5+(oV (l.drop (i+1))).length)).toArray:=⟨_,rfl⟩;rw [<-b] at k
 have p:c.size=cap*5:=by
  rw [b];simp [d];omega
 obtain ⟨F,S,q,s⟩:=bI2 z g ((l.length - 1)*5) (cap - (l.length - 1)) c 92 k o7
 have o:Hid (F.ownsRow 0 92 5 (J (some ⟨g,0,none⟩) (l.length - 1) cap) (l.length - 1) (oV (l.eraseIdx i))/\Out (fun j=>j=g) w F):=by
  refine ⟨⟨by rw [cB0,List.length_eraseIdx,aB hi],aG ⟨g,cap,_,rfl,aO _,q,o7,by unfold maxLen;omega,?_,?_⟩⟩,?_⟩
  ·simp [p];omega
  ·rw [List.append_assoc,dP (by rw [bF,Array.length_toList (xs:=c)];omega),gC,Nat.min_self,b,pS1];show (a.toList.take (0+i*5)++oV (l.drop (i+1))++_).take _=_;rw [bT,dP (by rw [aN,bF,Array.length_toList (xs:=a),d];omega),cO (by rw [aN,bF,Array.length_toList (xs:=a),d];omega)]
   congr 1
   have:=congrArg (List.take (i*5)) hcut;rw [gC,Nat.min_eq_left o7] at this;rw [this,bN1 i l,dP o7,cO o7]
  ·exact (aL (aF w.heap.size w).drew lR7).trans (n.trans s (aJ _ _)) (aJ _ _)
 clear k q n s hcut N d b p K f C M m;have q0:IntKind.i64.wrap ((i:Int)+1)=(i:Int)+1:=IntWalk.i64_in _ o7;have q1:(0:Int)<=(i:Int)+1:=o7;have q2:i<=l.length:=o7;have q3:((i:Int)+1).toNat=i+1:=o7;have q5:(i:Int)+1<=(l.length:Int):=o7;have q6:i<=cap:=o7;have a1:((i:Int) == (i:Int)+1)=false:=aC.2 o7;have q8:i+1<=cap:=o7;have q9:i+(l.length - (i+1))=l.length - 1:=o7;have Z:l.length - (l.length - 1)=1:=o7;have a0:¬cap=l.length - 1:=o7;go_enter func119,ntmps119;go_wp2_with fail;go_region_law (refine step_append_room rfl (.tmp 22) (.tmp 25) 99 rfl 92 X 5 underlying99 D E g 0 i cap (by simp [Act.eval,Act.put]) A (l.length - (i+1)) (cap - (i+1)) (oV (l.drop (i+1))) (by simp [Act.eval,Act.put]) s1.out v.out s2.out o7 s3.out ?_;rw [<-P.out,q9]);go_wp2_with fail;go_ret;exact ⟨rfl,o.out⟩
theorem bJ2 (v:Value) (l:List Ord) (w:World) (q:w.ownsRow 0 92 5 v l.length (oV l)) (H:l.length<=1000):
  Calls prog 134 #[v] w fun e w'=>∃v',e=Y v'/\w'.ownsRow w.heap.size 92 5 v' l.length (oV l)/\Below w.heap.size w w':=by
 obtain ⟨F,p,r,t,s⟩:=info_parts infoOrdE;have I:∀(w:World) (a:Option Addr) (n c x i:Nat),(binOp .eql 99 (J a n c) (J none x i)).run prog w=.ok (.bool a.isNone) w:=fun w a n c x i=>Lib.run_eql_slice_nil w _ _ a n c x i underlying99
 rcases q.2 with ⟨rfl,h0⟩ | ⟨g,m,C,rfl,_,y,E,D,o,A⟩
 ·obtain rfl:l=[]:=List.length_eq_zero_iff.1 h0;clear q;go_enter func134,ntmps134;go_wp2;go_ret;exact ⟨_,rfl,aU _ _ _ _,aF _ _⟩
 ·have B:Hid (∀j u,(oV l)[j]? = some u->w.cell? ⟨g,j,none⟩=some u):=fun j u d=>by
   refine aA0 y ?_;rw [<-A,List.getElem?_take] at d;split at d
   ·rw [<-Array.getElem?_toList];exact d
   ·cases d
  clear q y o A;go_enter func134,ntmps134;go_wp2_with (at_builtin;refine wpList_append_own _ rfl _ _ 99 rfl w.heap.size 92 F (.agg #[U G 0,U G 0,U G 0,U G 0,U G 0]) 5 40 underlying99 p r t s rfl d7 _ _ _ rfl (World.ownsRow_made w #[] 0 lR7 (aO _) s7) ⟨g,0,none⟩ l.length m (oV l) rfl (cB0 l) (fun j u d=>by rw [Addr.add_lit];exact Lib.cell?_alloc_some _ (by simpa using B.out j u d)) (jH0 l) (by unfold maxLen;omega) o7 s7 ?_;intro v' w1 f b z);go_ret;refine ⟨v',rfl,by simpa using f,?_⟩;exact ((aF _ w).alloc lR7 _).grown b s7 (fun k hk=>by have e:some w.heap.size=some k:=hk;injection e with e;omega)
theorem fH2 (a:Nat) (id:Int) (x:Ord) (w:World) (b:w.heap[a]? = some (R #[U G id] 3 (0,0))):
  Calls prog 118 #[.agg #[U G x.id,U G x.side,U G x.kind,U G x.price,U G x.qty],E (some ⟨a,0,none⟩)] w fun e w'=>e=Y (.bool (x.id == id))/\Below w.heap.size w w':=by
 have c:(w.alloc (R #[U G x.id,U G x.side,U G x.kind,U G x.price,U G x.qty] 92)).cell? ⟨a,0,none⟩=some (U G id):=aA0 (j:=0) (aE0 b (bel1 _ _) lR7) rfl;clear b;go_enter func118,ntmps118;go_wp2;go_ret;exact ⟨rfl,bel1 _ _⟩
theorem bK2 (q:Nat) (id:Int) (a:Option Addr) (p:Nat) (l:List Ord) (w:World) (K:l.length<=1000) (u:dS0 w a l) (t:w.heap[q]? = some (R #[U G id] 3 (0,0))):
  Calls prog 117 #[J a l.length p,.func (.func 118) #[] #[E (some ⟨q,0,none⟩)]] w fun e w'=>e=Y (U G (idxO id l))/\Below w.heap.size w w':=by
 have y:=hid7 u;have x:=hid7 t;clear u t;go_enter func117,ntmps117;go_wp2_with fail;go_loopw [8] (fun v wr=>∃j:Nat,j<=l.length/\v=U G j/\idxF id j (l.drop j)=idxO id l/\Below w.heap.size w wr) (fun v _=>l.length - (intOf v).toNat)
 case atStart=>exact ⟨0,aO _,rfl,rfl,aF _ _⟩
 case round=>
  obtain ⟨j,I,rfl,m,n⟩:=hrel;have r:=hid7 n;have c:=hid7 m;clear m
  by_cases d:j<l.length
  ·have s:(j:Int)<(l.length:Int):=o7;obtain ⟨g,H,F,z,A,B,C,D⟩:=(y.out.below n) j d;subst F;have o:Hid _:=aE0 x.out n lR7;clear n;go_wp2_with fail;refine (fH2 q id (oAt l j) _ o.out).mono ?_;rintro e w1 ⟨rfl,k⟩;have f:=hid7 (aD0 r.out k);clear k z A B C D
   by_cases b:(oAt l j).id=id
   ·have i:Hid (idxO id l=(j:Int)):=by show _=_;rw [<-c.out];exact wI0 d b
    rw [beq_iff_eq.2 b];clear b;go_wp2_with fail;go_ret;exact ⟨by rw [i.out];rfl,f.out⟩
   ·have i:Hid (idxF id (j+1) (l.drop (j+1))=idxO id l):=by show _=_;rw [<-c.out];exact rM0 d b
    rw [aC.2 b];clear b;go_wp2_with fail;go_roundw
    case rel=>exact ⟨j+1,o7,by go_num,i.out,f.out⟩
    case measure=>first | (simp [intOf];omega) | (show l.length - (j+1)<l.length - j;omega) | omega
  ·have i:Hid (idxO id l=-1):=by show _=_;rw [<-c.out];exact wJ0 o7
   go_wp2_with fail;go_ret;exact ⟨by rw [i.out];rfl,r.out⟩
end
section
open Go.RowKit
structure DayA (M:Mkt) (lots side:Int->Int):Prop where
 tab:tabE M.rs=(0,-1)
 rl:M.rs.length<=60
 an:1<=M.an/\M.an<=1000000
 la:1<=M.la/\M.la<=1000000
 sh:(0<=M.st/\M.st<=10000)/\(0<=M.dy/\M.dy<=10000)
 ti:1<=M.ti/\M.ti<=1000000
 mo:0<=M.mo/\M.mo<=10
 lo:0<=M.lo/\M.lo<=M.mo
 now:0<=M.now
 kp:eN0 lots side (M.L++M.P)
 idI:∀x∈M.L++M.P,x.id∈M.I
 dis:∀x∈M.L,∀y∈M.P,y.id≠x.id
 pP:∀x∈M.P,x.kind=4/\(Lit.int .i64 x.id).wf=true
 few:M.L.length+M.P.length<=100
 lb:∀id,0<=lots id/\lots id<=1000000
structure DayInv (M:Mkt) (lots side:Int->Int) (since:Int) (hands:Bool):Prop extends DayA M lots side where
 ph:M.ph=6\/(M.ph=4/\(phaseV M.rs M.now).1=3)\/M.ph=(phaseV M.rs M.now).1
 fin:(phaseV M.rs M.now).1=7->M.ph=7
 none:M.ph=7->M.L=[]/\M.P=[]
 tr:M.ph=3->(∀x∈M.L,x.kind=1)/\bE2 M.L
 vol:hands=false->M.ph=4->since+(M.en - M.now)=(M.lo+1)*M.ti/\1<=M.en - M.now
 sn:0<=since/\(M.ph≠4->since=0)
def fG0 (M':Mkt) (since:Int):Int:=if M'.ph=4 then since else 0
section
variable {M:Mkt} {lots side:Int->Int} {since:Int} {hands:Bool}
theorem DayInv.num (h:DayInv M lots side since hands) (a:M.now<=1000000000):MNum M:=
 ⟨h.la,by have:=h.few;omega,fun o b=>(h.pP o b).2,⟨h.now,a⟩,by have:=h.ti;omega,by have:=h.lo;have:=h.mo;omega,⟨by
  have:=(aY1 h.tab).1;exact this,h.rl⟩⟩
theorem DayInv.auct (h:DayInv M lots side since hands) (d:(phaseV M.rs (M.now+1)).1=3) (g:(phaseV M.rs M.now).1≠3) (f:M.ph≠6):iA0 M.ph=true:=by
 rcases vP0 h.tab h.now with e | e
 ·exact absurd (e.symm.trans d) g
 ·rw [d] at e;rcases oO1 e with ⟨a,c⟩ | ⟨a,_⟩ | ⟨a,c | c⟩ | ⟨a,c⟩
  ·omega
  ·rcases h.ph with b | ⟨_,b⟩ | b
   ·exact absurd b f
   ·omega
   ·rw [b,a];rfl
  ·omega
  ·omega
  ·omega
theorem rE0 {B:Int} {side:Int->Int}:∀{fs:List Fil} {lots:Int->Int},fM0 side lots fs->(∀id,0<=lots id/\lots id<=B)->∀id,0<=cA0 lots fs id/\cA0 lots fs id<=B
 | [],_,_,h=>h
 | f::fs,lots,⟨hf,hfs⟩,h=>by
  intro b;refine rE0 (fs:=fs) (lots:=oJ0 lots f) hfs (fun id=>?_) b;obtain ⟨h1,i,g,j,k⟩:=hf;have a:f.seller≠f.buyer:=fun e=>by rw [e] at g;omega
  have l:=h f.buyer;have m:=h f.seller;unfold oJ0
  by_cases c:id=f.seller
  ·subst c;rw [eU0,dJ0 a];omega
  ·rw [dJ0 c]
   by_cases d:id=f.buyer
   ·subst d;rw [eU0];omega
   ·rw [dJ0 d];exact h id
theorem nE0 {side:Int->Int} {P:List Ord}:∀{fs:List Fil} {lots:Int->Int},(∀f∈fs,∀x∈P,x.id≠f.buyer/\x.id≠f.seller)->eN0 lots side P->eN0 (cA0 lots fs) side P
 | [],_,_,h=>h
 | f::fs,lots,hn,h=>nE0 (fs:=fs) (lots:=oJ0 lots f) (fun g b=>hn g (aQ _ b)) ((h.up (fun x a=>(hn f (aK ..) x a).1)).up (fun x a=>(hn f (aK ..) x a).2))
theorem oM0 {lots:Int->Int} {A B:List Ord} (h1:eN0 lots side A) (a:eN0 lots side B):eN0 lots side (A++B):=fun x b=>(bQ.1 b).elim (h1 x) (a x)
end
end
end Go.Proofs.YtaelphbianmckaaGreatDoor
