/- DeskAnswers -/
import Derived.Test.YtaelphbianmckaaGreatDoorSG
import Derived.Test.YtaelphbianmckaaGreatDoorSH
open Go.Value renaming int->U, pointer->E, slice->J
open Go.IntKind renaming i64->G
open Go.Obj renaming cells->R
open Go.Ending renaming returned->Y
open Go.Proofs.Tryz
open Go.RowKit.Below renaming refl->aF, drew->aV
open List renaming map_toArray->gR, map_cons->bW, map_nil->fJ, mem_of_mem_take->dT, take_succ_eq_append_getElem->aM, length_take->bF, take_length->bI, length_append->aN, length_singleton->bD, mem_cons_self->aK
open Nat renaming zero_le->aO, le_trans->aI, lt_of_lt_of_le->aT
open Or renaming inl->aH, inr->aG
open Go.Proofs.YtaelphbianmckaaGreatDoor.Out renaming refl->bL, of_grown->dJ, of_below->aL
open Go.Value.slice renaming injEq->aY
open Go.World renaming ownsRow_nil->aU, news_of_block->bJ
set_option maxHeartbeats 8000000
set_option maxRecDepth 4000
namespace Go.Proofs.YtaelphbianmckaaGreatDoor
variable {a:Act} {Q:Exit->Act->World->Prop} {rs:List (Int×Int)} {L l l':List Ord} {base k n:Nat} {o:Oper} {x:Ord} {P:Program} {v:Value} {w w':World}
section
open Go.RowKit
def eK1 (w:World) (ao:Option Addr) (m:Nat) (news:List Value):Prop:=(m=0/\news=[])\/∃ad,ao=some ad/\∀j u,news[j]? = some u->w.cell? (ad.add j)=some u
theorem mR0 (w:World) (t E:TypeId) (base:Nat) (e:TypeId) (i:TypeInfo) (z:Value) (b bytes:Nat) (q:P.underlying t=some (.slice e)) (hi:P.info? e=some i) (Q:i.zero=some z)
  (f:i.size=b) (A:i.bytes=bytes) (D:z.cells.size=b) (C:0<b)
  (v:Value) (n:Nat) (xs:List Value) (d:w.ownsRow base e b v n xs)
  (s:Option Addr) (m c:Nat) (news:List Value) (L:news.length=m*b) (O:eK1 w s m news) (h1:∀u∈news,u.oneCell'=true)
  (y:n+m<=maxLen) (j:(n+m)*bytes<=140737488355328) (o:base<=w.heap.size):
  ∃v' w',(Builtin.append_ #[t,t] E #[v,J s m c]).run P w=.ok v' w'/\
   w'.ownsRow base e b v' (n+m) (xs++news)/\w.grownBy w' v.ownBlock/\∀k,v'.ownBlock=some k->v.ownBlock=some k\/w.heap.size<=k:=by
 by_cases M:0<m
 ·rcases O with ⟨h0,_⟩ | ⟨r,rfl,K⟩
  ·omega
  ·obtain ⟨g,F,w',N,H,I,p,R⟩:=run_append_lies (P:=P) w t E base e i z b bytes q hi Q f A D C v n xs d r m c news L K h1 M y j o _ rfl;refine ⟨_,w',N,H,I,fun k hk=>?_⟩;have G:g=k:=by simpa [Value.ownBlock] using hk
   subst G;rcases p with p | p
   ·exact aH p
   ·exact aG o7
 ·obtain rfl:m=0:=o7;obtain rfl:news=[]:=List.eq_nil_of_length_eq_zero o7;obtain ⟨x,l,rfl,B,_⟩:=bC0 d;refine ⟨J x n l,w,?_,by rw [Nat.add_zero,List.append_nil];exact d,World.grownBy.refl _ _,fun k hk=>aH hk⟩
  exact run_append_nothing w t t E e i q hi _ n l B _ (by
    rw [f];cases s with
    | none=>exact Src.ofNil (w:=w) (hk:=q) (c:=c)
    | some r=>exact Src.ofSlice (w:=w) (hk:=q) (a:=r) (n:=0) (c:=c) (news:=[]) s7 s7 s7)
theorem pO0 (w:World) {p:Array Oper} {f:List Oper} (A:o.guard=none) (s x:Operand) (t:TypeId)
  (I:o.op=.call { callee:=.builtin .append,args:=#[s,x],argTypes:=#[t,t] })
  (base:Nat) (e:TypeId) (i:TypeInfo) (z:Value) (b bytes:Nat) (N:P.underlying t=some (.slice e)) (hi:P.info? e=some i) (S:i.zero=some z)
  (j:i.size=b) (y:i.bytes=bytes) (C:z.cells.size=b) (B:0<b)
  (v:Value) (n:Nat) (xs:List Value) (M:a.eval s=v) (l:w.ownsRow base e b v n xs)
  (q:Option Addr) (m c:Nat) (news:List Value) (O:a.eval x=J q m c) (H:news.length=m*b) (R:eK1 w q m news) (h1:∀u∈news,u.oneCell'=true)
  (r:n+m<=maxLen) (d:(n+m)*bytes<=140737488355328) (g:base<=w.heap.size)
  (h:∀v' w',w'.ownsRow base e b v' (n+m) (xs++news)->w.grownBy w' v.ownBlock->(∀k,v'.ownBlock=some k->v.ownBlock=some k\/w.heap.size<=k)->wpList P p Q f (a.put o.dst v') w'):wpList P p Q (o::f) a w:=by
 refine wpList_plain A fun K G=>?_
 obtain ⟨v',w',L,D,E,F⟩:=mR0 (P:=P) w t o.type base e i z b bytes N hi S j y C B v n xs l q m c news H R h1 r d g;unfold Oper.wp execOp;simp only [I,resolve,invoke,builtin,Sem.run_bind,Sem.run_pure,Result.andThen_ok,gR,bW,fJ,M,O,L];exact G _ _ (h v' w' D E F)
theorem tS0 (w:World) {l:Array Oper} {K:Act->World->Prop} {E:Prop} (y:o.guard=none) (s x:Operand) (t:TypeId)
  (H:o.op=.call { callee:=.builtin .append,args:=#[s,x],argTypes:=#[t,t] })
  (base:Nat) (e:TypeId) (i:TypeInfo) (z:Value) (b bytes:Nat) (L:P.underlying t=some (.slice e)) (hi:P.info? e=some i) (R:i.zero=some z)
  (g:i.size=b) (r:i.bytes=bytes) (B:z.cells.size=b) (A:0<b)
  (v:Value) (n:Nat) (xs:List Value) (J:a.eval s=v) (j:w.ownsRow base e b v n xs)
  (p:Option Addr) (m c:Nat) (news:List Value) (M:a.eval x=.slice p m c) (G:news.length=m*b) (O:eK1 w p m news) (h1:∀u∈news,u.oneCell'=true)
  (q:n+m<=maxLen) (d:(n+m)*bytes<=140737488355328) (f:base<=w.heap.size)
  (h:∀v' w',w'.ownsRow base e b v' (n+m) (xs++news)->w.grownBy w' v.ownBlock->(∀k,v'.ownBlock=some k->v.ownBlock=some k\/w.heap.size<=k)->K (a.put o.dst v') w'):
  if Region.wanted o (yielded l a.tmps)=true then Oper.wp P o a w K Q else E:=by
 have N:Region.wanted o (yielded l a.tmps)=true:=by simp [Region.wanted,y]
 rw [aB N];obtain ⟨v',w',I,C,D,F⟩:=mR0 (P:=P) w t o.type base e i z b bytes L hi R g r B A v n xs j p m c news G O h1 q d f;unfold Oper.wp execOp;simp only [H,resolve,invoke,builtin,Sem.run_bind,Sem.run_pure,Result.andThen_ok,gR,bW,fJ,J,M,I];exact h v' w' C D F
theorem eK1.of_row {w W:World} {base:Nat} {f:Option Addr} {c:Nat} {l:List Ord} (h:w.ownsRow base 92 5 (J f l.length c) l.length (oV l)) (n:Below w.heap.size w W):eK1 W f l.length (oV l):=by
 cases l with
 | nil=>exact aH ⟨rfl,rfl⟩
 | cons o l=>
  have k:=aU0 h n lR7;obtain ⟨g,i,m,_,_⟩:=k.form s7;simp only [aY,true_and] at m;obtain ⟨rfl,rfl⟩:=m;refine aG ⟨_,rfl,fun j u d=>?_⟩
  have b:j<(oV (o::l)).length:=by
   rcases Nat.lt_or_ge j (oV (o::l)).length with a | a
   ·exact a
   ·rw [List.getElem?_eq_none a] at d;cases d
  have a:=(k.cellAt j (by rw [cB0] at b;exact b)).trans d;rw [<-a]
  by_cases e:j=0
  ·subst e;rfl
  ·simp [Addr.add,e]
theorem pP0 {α:Type} (p:α->Bool):∀l:List α,(l.filter p++l.filter fun x=>!p x).Perm l
 | []=>List.Perm.refl _
 | x::l=>by
  cases h:p x with
  | true=>simpa [h] using (pP0 p l).cons x
  | false=>
   have h1:((x::l).filter p)=l.filter p:=by simp [h]
   have a:((x::l).filter fun x=>!p x)=x::l.filter fun x=>!p x:=by simp [h]
   rw [h1,a];exact List.perm_middle.trans ((pP0 p l).cons x)
theorem kG0 (h:LOk L):(aR0 1 L++aR0 2 L).Perm L:=by
 have e:bE0 2 L=L.filter fun o=>!(o.side == 1):=by
  unfold bE0;refine List.filter_congr (fun o b=>?_);rcases h.side o b with e | e <;> rw [e] <;> rfl
 have h1:(aR0 1 L).Perm (L.filter fun o=>o.side == 1):=fP0 _ _
 have a:(aR0 2 L).Perm (L.filter fun o=>!(o.side == 1)):=by
  rw [<-e];exact fP0 _ _
 exact (h1.append a).trans (pP0 _ L)
theorem kH0 (p:Int) (o:Ord) (l:List Ord):demO p (o::l)=(if fB0 p o=true then o.qty else 0)+demO p l:=by simp [demO]
theorem kI0 (p:Int) (o:Ord) (l:List Ord):supO p (o::l)=(if cY0 p o=true then o.qty else 0)+supO p l:=by simp [supO]
theorem pE1 (p:Int) (h:l.Perm l'):demO p l=demO p l':=by
 induction h with
 | nil=>rfl
 | cons x _ ih=>rw [kH0,kH0,ih]
 | swap x y l=>rw [kH0,kH0,kH0,kH0];omega
 | trans _ _ h1 h2=>exact h1.trans h2
theorem pF1 (p:Int) (h:l.Perm l'):supO p l=supO p l':=by
 induction h with
 | nil=>rfl
 | cons x _ ih=>rw [kI0,kI0,ih]
 | swap x y l=>rw [kI0,kI0,kI0,kI0];omega
 | trans _ _ h1 h2=>exact h1.trans h2
theorem kE1 (h:l.Perm l') (more:Int):aS0 l more=aS0 l' more:=by
 have e:wO0 (gM0 (bL0 l more))=wO0 (gM0 (bL0 l' more)):=by
  refine qA0 (rP0 (dU0 _)) (fun p=>?_);rw [kX0 (dU0 _),iV0,dL0,dL0];constructor
  ·rintro (h1 | ⟨o,a,h1⟩)
   ·exact aH h1
   ·exact aG ⟨o,h.mem_iff.2 a,h1⟩
  ·rintro (h1 | ⟨o,a,h1⟩)
   ·exact aH h1
   ·exact aG ⟨o,h.mem_iff.1 a,h1⟩
 unfold aS0;rw [e];refine List.map_congr_left (fun p _=>?_);rw [pE1 p h,pF1 p h]
theorem LOk.take {L:List Ord} (h:LOk L) (k:Nat):LOk (L.take k):=⟨fun o a=>h.side o (dT a),((List.take_sublist k L).map Ord.id).nodup h.ids,fun o a=>h.ok o (dT a)⟩
theorem bE1 (s p:Int) (h:k<L.length):wilL s p (L.take (k+1))=wilL s p (L.take k)+(if ((oAt L k).side == s&& wilB s p (oAt L k))=true then (oAt L k).qty else 0):=by
 unfold wilL;rw [aM h,List.map_append,List.map_singleton,List.sum_append,eJ0 h];simp
theorem yO1 (base:Nat) (z:Spot) (v:Value) (l:List Ord) (p:Int) (w:World) (h:BookIs w base z v l) (T:l.length<=100) (s:LOk l):
  Calls prog 211 #[E (some ⟨z.bb,z.off,none⟩),U G 1,U G p] w fun e w'=>e=Y (U G (wilL 1 p l))/\Below w.heap.size w w':=by
 have S:=h.cell;have F:=hid7 h;have A:=hid7 s;obtain ⟨Q,H,rfl,_,_⟩:=bO0 h.all;clear h s;go_enter func211,ntmps211;go_wp2_with fail;go_loopw [7,9,15] (fun u _ i wr=>∃k:Nat,k<=l.length/\i=U G k/\u=U G (wilL 1 p (l.take k))/\Below w.heap.size w wr) (fun _ _ i _=>l.length - (intOf i).toNat)
 case atStart=>exact ⟨0,aO _,rfl,rfl,aF _ _⟩
 case round=>
  obtain ⟨k,hk,rfl,rfl,x⟩:=hrel;have n:=hid7 x
  by_cases b:k<l.length
  ·have N:(k:Int)<(l.length:Int):=o7;obtain ⟨g,B,D,I,J,K,L,M⟩:=cT0 (F.out.below x lR7).all b;simp only [aY,true_and] at D;obtain ⟨rfl,rfl⟩:=D;have y:=tF0 1 p (A.out.take k);have O:=A.out.ok _ (qH0 b);have P:(l.take k).length<=100:=by rw [bF];omega
   have f:=hid7 (bE1 1 p b);clear x;generalize oAt l k=o at I J K L M O f;generalize wilL 1 p (l.take k)=nn at y f ⊢;go_upto_region 5 with fail;obtain ⟨a,m⟩:∃a:Bool,a=(o.side == 1&& wilB 1 p o):=⟨_,rfl⟩;have c:=hid7 m;rw [<-m] at f;clear m;go_cut [47] from 16 to 52 (fun u wc=>u=.bool a/\wc=wr.alloc (R #[U G o.id,U G o.side,U G o.kind,U G o.price,U G o.qty] 92))
   case first=>
    by_cases h1:o.side=1
    ·have q:=beq_iff_eq.2 h1
     by_cases r:o.kind=2
     ·have t:=beq_iff_eq.2 r;have d:Hid (a=true):=by show a=true;rw [c.out];unfold wilB;rw [q,t];rfl
      clear h1 r;go_wp2_with fail;go_meet;exact ⟨by rw [d.out],rfl⟩
     ·have t:=aC.2 r
      by_cases C:p<=o.price
      ·have d:Hid (a=true):=by show a=true;rw [c.out];unfold wilB;rw [q,t];simp [C]
       clear h1 r;go_wp2_with fail;go_meet;exact ⟨by rw [d.out],rfl⟩
      ·have d:Hid (a=false):=by show a=false;rw [c.out];unfold wilB;rw [q,t];simp [C]
       clear h1 r;go_wp2_with fail;go_meet;exact ⟨by rw [d.out],rfl⟩
    ·have q:=aC.2 h1;have d:Hid (a=false):=by show a=false;rw [c.out,q];rfl
     clear h1;go_wp2_with fail;go_meet;exact ⟨by rw [d.out],rfl⟩
   case rest=>
    obtain ⟨rfl,rfl⟩:=hcut;cases hc:a with
    | true=>
     have j:Hid (wilL 1 p (l.take (k+1))=nn+o.qty):=by rw [f.out,aB hc];rfl
     clear hc f;go_wp2_with fail;go_roundw
     case rel=>exact ⟨k+1,b,by go_num,by rw [j.out],n.out.alloc n.out.size _⟩
     case measure=>simp [intOf];omega
    | false=>
     have j:Hid (wilL 1 p (l.take (k+1))=nn):=by show _=_;rw [f.out,aA (by rw [hc];decide)];omega
     clear hc f;go_wp2_with fail;go_roundw
     case rel=>exact ⟨k+1,b,by go_num,by rw [j.out],n.out.alloc n.out.size _⟩
     case measure=>simp [intOf];omega
  ·obtain rfl:k=l.length:=o7;rw [bI];clear x;go_wp2_with fail;go_ret;exact ⟨rfl,n.out⟩
theorem yP1 (base:Nat) (z:Spot) (v:Value) (l:List Ord) (p:Int) (w:World) (h:BookIs w base z v l) (T:l.length<=100) (s:LOk l):
  Calls prog 211 #[E (some ⟨z.bb,z.off,none⟩),U G 2,U G p] w fun e w'=>e=Y (U G (wilL 2 p l))/\Below w.heap.size w w':=by
 have S:=h.cell;have F:=hid7 h;have A:=hid7 s;obtain ⟨Q,H,rfl,_,_⟩:=bO0 h.all;clear h s;go_enter func211,ntmps211;go_wp2_with fail;go_loopw [7,9,15] (fun u _ i wr=>∃k:Nat,k<=l.length/\i=U G k/\u=U G (wilL 2 p (l.take k))/\Below w.heap.size w wr) (fun _ _ i _=>l.length - (intOf i).toNat)
 case atStart=>exact ⟨0,aO _,rfl,rfl,aF _ _⟩
 case round=>
  obtain ⟨k,hk,rfl,rfl,x⟩:=hrel;have n:=hid7 x
  by_cases b:k<l.length
  ·have N:(k:Int)<(l.length:Int):=o7;obtain ⟨g,B,D,I,J,K,L,M⟩:=cT0 (F.out.below x lR7).all b;simp only [aY,true_and] at D;obtain ⟨rfl,rfl⟩:=D;have y:=tF0 2 p (A.out.take k);have O:=A.out.ok _ (qH0 b);have P:(l.take k).length<=100:=by rw [bF];omega
   have f:=hid7 (bE1 2 p b);clear x;generalize oAt l k=o at I J K L M O f;generalize wilL 2 p (l.take k)=nn at y f ⊢;go_upto_region 5 with fail;obtain ⟨a,m⟩:∃a:Bool,a=(o.side == 2&& wilB 2 p o):=⟨_,rfl⟩;have c:=hid7 m;rw [<-m] at f;clear m;go_cut [47] from 16 to 52 (fun u wc=>u=.bool a/\wc=wr.alloc (R #[U G o.id,U G o.side,U G o.kind,U G o.price,U G o.qty] 92))
   case first=>
    by_cases h1:o.side=2
    ·have q:=beq_iff_eq.2 h1
     by_cases r:o.kind=2
     ·have t:=beq_iff_eq.2 r;have d:Hid (a=true):=by show a=true;rw [c.out];unfold wilB;rw [q,t];rfl
      clear h1 r;go_wp2_with fail;go_meet;exact ⟨by rw [d.out],rfl⟩
     ·have t:=aC.2 r
      by_cases C:o.price<=p
      ·have d:Hid (a=true):=by show a=true;rw [c.out];unfold wilB;rw [q,t];simp [C]
       clear h1 r;go_wp2_with fail;go_meet;exact ⟨by rw [d.out],rfl⟩
      ·have d:Hid (a=false):=by show a=false;rw [c.out];unfold wilB;rw [q,t];simp [C]
       clear h1 r;go_wp2_with fail;go_meet;exact ⟨by rw [d.out],rfl⟩
    ·have q:=aC.2 h1;have d:Hid (a=false):=by show a=false;rw [c.out,q];rfl
     clear h1;go_wp2_with fail;go_meet;exact ⟨by rw [d.out],rfl⟩
   case rest=>
    obtain ⟨rfl,rfl⟩:=hcut;cases hc:a with
    | true=>
     have j:Hid (wilL 2 p (l.take (k+1))=nn+o.qty):=by rw [f.out,aB hc];rfl
     clear hc f;go_wp2_with fail;go_roundw
     case rel=>exact ⟨k+1,b,by go_num,by rw [j.out],n.out.alloc n.out.size _⟩
     case measure=>simp [intOf];omega
    | false=>
     have j:Hid (wilL 2 p (l.take (k+1))=nn):=by show _=_;rw [f.out,aA (by rw [hc];decide)];omega
     clear hc f;go_wp2_with fail;go_roundw
     case rel=>exact ⟨k+1,b,by go_num,by rw [j.out],n.out.alloc n.out.size _⟩
     case measure=>simp [intOf];omega
  ·obtain rfl:k=l.length:=o7;rw [bI];clear x;go_wp2_with fail;go_ret;exact ⟨rfl,n.out⟩
section
variable {P:Program} {ops:Array Oper} {Q:Exit->Act->World->Prop} {md:Region.Mode} {S S':World->Prop} {L:Nat->Bool}
theorem bU0 (d:∀w,S' w->S w):∀(b:Nat) (listed:Array Bool) (a:Act) (w:World),gC0 P md ops Q S' L b listed a w->gC0 P md ops Q S L b listed a w
 | 0,_,_,_,h=>h
 | b+1,_,_,_,h=>⟨h.1,fun i hi=>wpOp_mono (fun e w' c=>⟨fun f=>d w' (c.1 f),bU0 d b _ e w' c.2⟩) (h.2 i hi)⟩
end
def Head (w:World) (g:Nat) (x:Ord):Prop:=w.cell? ⟨g,0,none⟩=some (U G x.id)/\w.cell? ⟨g,1,none⟩=some (U G x.side)/\w.cell? ⟨g,2,none⟩=some (U G x.kind)/\w.cell? ⟨g,3,none⟩=some (U G x.price)/\w.cell? ⟨g,4,none⟩=some (U G x.qty)
theorem tT0 {p:Addr} (a:Below w.heap.size w w') (h:w.cell? p=some v):w'.cell? p=some v:=(a.cell (World.block_lt_of_cell? w _ h)).trans h
theorem Head.lt {w:World} {g:Nat} {x:Ord} (h:Head w g x):g<w.heap.size:=World.block_lt_of_cell? w _ h.1
theorem Head.below {w w':World} {g:Nat} {x:Ord} (h:Head w g x) (a:Below w.heap.size w w'):Head w' g x:=⟨tT0 a h.1,tT0 a h.2.1,tT0 a h.2.2.1,tT0 a h.2.2.2.1,tT0 a h.2.2.2.2⟩
theorem ZBox.lt {w:World} {b:Nat} (h:ZBox w b):b<w.heap.size:=lt_of_block h
theorem cJ0 {T:List Ord} (h:w.ownsRow base 92 5 v l.length (oV l)) (c:l=x::T):∃g a,v=J (some ⟨g,0,none⟩) (T.length+1) a/\base<=g/\Head w g x:=by
 obtain ⟨g,a,e,f,i,j,m,n⟩:=cT0 h (k:=0) (by rw [c];simp);have p:oAt l 0=x:=by rw [c];rfl
 rw [p] at f i j m n
 have q:base<=g:=by
  rcases h.2 with ⟨b,_⟩ | ⟨r,d,o,b,s,_⟩
  ·rw [e] at b;cases b
  ·rw [e] at b;injection b with h1;injection h1 with h1;injection h1 with h1;omega
 exact ⟨g,a,e.trans (by rw [c];rfl),q,by simpa using f,by simpa using i,by simpa using j,by simpa using m,by simpa using n⟩
structure Two (wr w:World) (x y:Ord) (A B X Y:Option Nat):Prop where
 bel:Below wr.heap.size wr w
 a:∀g,A=some g->X≠some g/\Y≠some g/\Head w g x
 b:∀g,B=some g->X≠some g/\Y≠some g/\Head w g y
 x:∀j,X=some j->wr.heap.size<=j/\Y≠some j/\ZBox w j
 y:∀j,Y=some j->wr.heap.size<=j/\ZBox w j
variable {wr w w':World} {x y:Ord} {A B X Y:Option Nat}
theorem Two.start (wr:World) (x y:Ord):Two wr wr.drew x y none none none none:=⟨(aF _ _).drew,fun _ h=>by (cases h),fun _ h=>by (cases h),fun _ h=>by (cases h),fun _ h=>by (cases h)⟩
theorem Two.keep (h:Two wr w x y A B X Y) (c:Below w.heap.size w w'):Two wr w' x y A B X Y:=
 ⟨aD0 h.bel c,fun g e=>⟨(h.a g e).1,(h.a g e).2.1,(h.a g e).2.2.below c⟩,fun g e=>⟨(h.b g e).1,(h.b g e).2.1,(h.b g e).2.2.below c⟩,fun j e=>⟨(h.x j e).1,(h.x j e).2.1,aE0 (h.x j e).2.2 c lR7⟩,fun j e=>⟨(h.y j e).1,aE0 (h.y j e).2 c lR7⟩⟩
theorem Two.noX (h:Two wr w x y A B X Y) {g:Nat} (a:w.heap.size<=g):X≠some g:=fun e=>by have:=(h.x g e).2.2.lt;omega
theorem Two.noY (h:Two wr w x y A B X Y) {g:Nat} (a:w.heap.size<=g):Y≠some g:=fun e=>by have:=(h.y g e).2.lt;omega
theorem Two.callA (h:Two wr w x y none B X Y) (a:Below w.heap.size w w') {g:Nat} (c:w.heap.size<=g) (d:Head w' g x):Two wr w' x y (some g) B X Y:=
 ⟨(h.keep a).bel,fun f e=>by injection e with e;subst e;exact ⟨h.noX c,h.noY c,d⟩,(h.keep a).b,(h.keep a).x,(h.keep a).y⟩
theorem Two.callB (h:Two wr w x y A none X Y) (b:Below w.heap.size w w') {g:Nat} (c:w.heap.size<=g) (d:Head w' g y):Two wr w' x y A (some g) X Y:=
 ⟨(h.keep b).bel,(h.keep b).a,fun f e=>by injection e with e;subst e;exact ⟨h.noX c,h.noY c,d⟩,(h.keep b).x,(h.keep b).y⟩
theorem Two.boxX (h:Two wr w x y A B none Y):Two wr (w.alloc (.cells #[.int .i64 0,.int .i64 0,.int .i64 0,.int .i64 0,.int .i64 0] 92)) x y A B (some w.heap.size) Y:=by
 have k:=h.keep (bel1 w (.cells #[.int .i64 0,.int .i64 0,.int .i64 0,.int .i64 0,.int .i64 0] 92));refine ⟨k.bel,fun g e=>⟨fun c=>?_,(k.a g e).2.1,(k.a g e).2.2⟩,fun g e=>⟨fun c=>?_,(k.b g e).2.1,(k.b g e).2.2⟩,fun j e=>?_,k.y⟩
 ·injection c with c;have:=(h.a g e).2.2.lt;omega
 ·injection c with c;have:=(h.b g e).2.2.lt;omega
 ·injection e with e;subst e;exact ⟨h.bel.size,h.noY lR7,heap_alloc_new w _⟩
theorem Two.boxY (h:Two wr w x y A B X none):Two wr (w.alloc (R #[U G 0,U G 0,U G 0,U G 0,U G 0] 92)) x y A B X (some w.heap.size):=by
 have k:=h.keep (bel1 w (R #[U G 0,U G 0,U G 0,U G 0,U G 0] 92));refine ⟨k.bel,fun g e=>⟨(k.a g e).1,fun c=>?_,(k.a g e).2.2⟩,fun g e=>⟨(k.b g e).1,fun c=>?_,(k.b g e).2.2⟩,fun j e=>⟨(k.x j e).1,fun c=>?_,(k.x j e).2.2⟩,fun j e=>?_⟩
 ·injection c with c;have:=(h.a g e).2.2.lt;omega
 ·injection c with c;have:=(h.b g e).2.2.lt;omega
 ·injection c with c;have:=(h.x j e).2.2.lt;omega
 ·injection e with e;subst e;exact ⟨h.bel.size,heap_alloc_new w _⟩
theorem gZ1 {b g:Nat} (h:Head w g x) (d:Out (fun j=>j=b) w w') (c:b≠g):Head w' g x:=by
 have hk:=d.block g h.lt (fun e=>c e.symm);have a:∀i,w'.cell? ⟨g,i,none⟩=w.cell? ⟨g,i,none⟩:=fun i=>by unfold World.cell?;simp only [hk]
 exact ⟨(a 0).trans h.1,(a 1).trans h.2.1,(a 2).trans h.2.2.1,(a 3).trans h.2.2.2.1,(a 4).trans h.2.2.2.2⟩
theorem Two.first {a b c f:Nat} (h:Two wr w x y (some a) (some b) (some c) (some f)):Head (boxed w c x) a x/\Head (boxed w c x) b y/\DBox (boxed w c x) c x/\ZBox (boxed w c x) f/\Below wr.heap.size wr (boxed w c x):=by
 obtain ⟨g,r,i⟩:=h.a a rfl;obtain ⟨k,s,l⟩:=h.b b rfl;obtain ⟨n,o,p⟩:=h.x c rfl;obtain ⟨t,q⟩:=h.y f rfl;have d:=hY0 w c x;exact ⟨gZ1 i d (fun e=>g (congrArg some e)),gZ1 l d (fun e=>k (congrArg some e)),lX0 x p,aF0 q d (fun e=>o (congrArg some e)),h.bel.trans (d.below (fun j m=>by rw [show j=c from m];exact n) h.bel.size)⟩
theorem Two.both {c a:Nat} (h:Two wr w x y A B (some c) (some a)) {b:World} (d:DBox b c x) (z:ZBox b a) (f:Below wr.heap.size wr b):DBox (boxed b a y) c x/\DBox (boxed b a y) a y/\Below wr.heap.size wr (boxed b a y):=by
 obtain ⟨m,k,n⟩:=h.x c rfl;obtain ⟨l,o⟩:=h.y a rfl;have g:=hY0 b a y;exact ⟨aF0 d g (fun e=>k (congrArg some (Eq.symm e))),lX0 y z,f.trans (g.below (fun j i=>by rw [show j=a from i];exact l) f.size)⟩
end
section
open Go.RowKit
theorem infoFi:(prog.info? 146).map (fun i=>(i.zero,i.size,i.bytes))=some (some (.agg #[U G 0,U G 0,U G 0,U G 0]),4,32):=k7
theorem LOk.prices {L:List Ord} (h:LOk L):∀o∈L,-1000000000<=o.price/\o.price<=1000000000:=fun o a=>by have:=h.ok o a;omega
theorem LOk.qtys {L:List Ord} (h:LOk L):∀k,(oAt L k).qty<=1000000:=fun k=>by
 by_cases hk:k<L.length
 ·exact (h.ok _ (qH0 hk)).2.2.2
 ·have:oAt L k=Ord.none_:=by simp [oAt,hk]
  rw [this];decide
theorem bF1 (base:Nat) (b:Spot) (v:Value) (l:List Ord) (o:Ord) (n:Int) (w:World) (h:BookIs w base b v l) (y:l.length<=100) (g:base<=w.heap.size) (a:LOk l) (q:o∈l) (m:1<=n/\n<=o.qty):
  Calls prog 152 #[E (some ⟨b.bb,b.off,none⟩),U G o.id,U G n] w fun e w'=>e=Y (U G 0)/\Out (fun j=>j=b.bb) w w'/\∃v',BookIs w' base b v' (bR0 o.id n l):=by
 refine (hU2 base b v l o.id n w h y g a.qtys).mono ?_;obtain ⟨k0,x,r,f⟩:=oD1 a q;obtain ⟨d,z⟩:=aR1 a q m;rintro e w' ⟨t,v',⟨h1,_,_⟩ | ⟨k,hk,h1,A,⟨c,_,_⟩ | ⟨c,u,s⟩⟩⟩
 ·omega
 ·obtain rfl:k=k0:=o7;rw [f] at c;simp [m.1,m.2] at c
 ·obtain rfl:k=k0:=o7;refine ⟨u,t,v',?_⟩;have p:¬idxO o.id l=-1:=o7;have i:(idxO o.id l).toNat=k:=o7;unfold cutM at d;rw [aA p,i,aA (by rw [c];decide)] at d;rw [<-d];exact s
theorem pG1 {wc w6:World} {l m:Nat} {d:Spot} {i u:Value} {xs:List Value} {y:Ord} {e:Obj} (a:wc.ownsRow w.heap.size 146 4 u n xs) (c:BookIs wc base d i L) (f:DBox wc l x) (g:DBox wc m y) (p:Out (fun j=>j=d.bb) w wc) (o:(wc.alloc e).grownBy w6 u.ownBlock):BookIs w6 base d i L/\DBox w6 l x/\DBox w6 m y/\Out (fun j=>j=d.bb) w w6:=by
 have b:Out (fun j=>u.ownBlock=some j) wc w6:=aX0 (dD0 (bL _ _) _) (dJ o (fun k hk=>hk));exact ⟨wY0 c b (aH0 a c.box c.ty.2) (fun k hk=>bP0 c.all a d7 hk),aF0 f b (aH0 a f d7),aF0 g b (aH0 a g d7),p.trans b (fun k hk=>aG (a.lt k hk).1)⟩
theorem bkFills_no (base:Nat) (f:Spot) (v:Value) (l:List Ord) (p q:Int) (w:World) (h:BookIs w base f v l) (m:l.length<=100) (d:LOk l) (i:¬(1<=q/\q<=min (wilL 1 p l) (wilL 2 p l))):
  Calls prog 153 #[E (some ⟨f.bb,f.off,none⟩),U G p,U G q] w fun e w'=>e=Y (.tuple #[J none 0 0,U G 2])/\Below w.heap.size w w':=by
 have j:=hid7 h;have k:=hid7 d
 have n:Hid ((decide (1<=q)&& decide (q<=min (wilL 1 p l) (wilL 2 p l)))=false):=by
  show _=false;rw [Bool.and_eq_false_iff,decide_eq_false_iff_not,decide_eq_false_iff_not];omega
 clear h d i;go_enter func153,ntmps153;go_wp2_with fail;refine (yO1 base f v l p w j.out m k.out).mono ?_;rintro e w1 ⟨rfl,b⟩;have a:=hid7 b;clear b;go_wp2_with fail;refine (yP1 base f v l p w1 (j.out.below a.out lR7) m k.out).mono ?_;rintro e r ⟨rfl,c⟩;have g:=hid7 (aD0 a.out c);clear c;go_wp2_with fail;refine (bkIn q 1 (min (wilL 1 p l) (wilL 2 p l)) r).mono ?_;rintro e s ⟨rfl,o⟩;subst o;rw [n.out];go_wp2_with fail;go_ret2;exact ⟨rfl,g.out⟩
theorem bB2 (base:Nat) (E:Spot) (v:Value) (l:List Ord) (p q:Int) (w:World) (h:BookIs w base E v l) (h2:base<=w.heap.size) (hl:l.length<=100) (a9:LOk l) (hq:1<=q/\q<=min (wilL 1 p l) (wilL 2 p l)):
  Calls prog 153 #[.pointer (some ⟨E.bb,E.off,none⟩),.int .i64 p,.int .i64 q] w fun e w'=>∃(K:Nat) (vf v':Value),e=.returned (.tuple #[vf,.int .i64 0])/\(aY0 p ⟨[],l,q⟩ K).q=0/\(∀j,j<K->0<(aY0 p ⟨[],l,q⟩ j).q)/\w'.ownsRow w.heap.size 146 4 vf (aY0 p ⟨[],l,q⟩ K).fs.length (fV (aY0 p ⟨[],l,q⟩ K).fs)/\BookIs w' base E v' (aY0 p ⟨[],l,q⟩ K).L/\Out (fun j=>j=E.bb) w w':=by
 obtain ⟨iF,g8,g5,g6,g7⟩:=info_parts infoFi;have HA:=hid7 h;have HK:=hid7 a9
 have HY:Hid ((decide (1<=q)&& decide (q<=min (wilL 1 p l) (wilL 2 p l)))=true):=by
  show _=true;rw [Bool.and_eq_true,decide_eq_true_iff,decide_eq_true_iff];exact hq
 have f9:Hid (FOk p ⟨[],l,q⟩):=⟨a9,by show 0<=q;omega,by show q<=wilL 1 p l;omega,by show q<=wilL 2 p l;omega⟩;have i0:q<=100000000:=by have:=tF0 1 p a9;omega
 have h6:=lt_of_block h.box;clear h a9;go_enter func153,ntmps153;go_wp2_with fail;refine (yO1 base E v l p w HA.out hl HK.out).mono ?_;rintro e w1 ⟨rfl,e3⟩;have c6:=hid7 e3;clear e3;go_wp2_with fail;refine (yP1 base E v l p w1 (HA.out.below c6.out lR7) hl HK.out).mono ?_;rintro e w2 ⟨rfl,e4⟩;have c7:=hid7 (aD0 c6.out e4);clear e4;go_wp2_with fail;refine (bkIn q 1 (min (wilL 1 p l) (wilL 2 p l)) w2).mono ?_;rintro e w3 ⟨rfl,hw⟩;subst hw;rw [HY.out];go_wp2_with fail;go_loopw [2,8,9,10,11] (fun u2 u8 _ _ _ wr=>∃(k:Nat) (v':Value),u2=.int .i64 (aY0 p ⟨[],l,q⟩ k).q/\(∀j,j<k->0<(aY0 p ⟨[],l,q⟩ j).q)/\(aY0 p ⟨[],l,q⟩ k).fs.length=k/\(k:Int)+(aY0 p ⟨[],l,q⟩ k).q<=q/\(aY0 p ⟨[],l,q⟩ k).L.length<=l.length/\wr.ownsRow w.heap.size 146 4 u8 (aY0 p ⟨[],l,q⟩ k).fs.length (fV (aY0 p ⟨[],l,q⟩ k).fs)/\BookIs wr base E v' (aY0 p ⟨[],l,q⟩ k).L/\Out (fun j=>j=E.bb) w wr) (fun u2 _ _ _ _ _=>(intOf u2).toNat)
 case atStart=>exact ⟨0,v,rfl,fun j hj=>absurd hj o7,rfl,by show (0:Int)+q<=q;omega,lR7,aU _ _ _ _,HA.out.below c7.out lR7,aL c7.out lR7⟩
 case round=>
  obtain ⟨k,M,rfl,hj,e8,h3,h1,a3,e7,b0⟩:=hrel;have HJ:=hid7 hj;have Y:=hid7 (iM0 f9.out k hj);have h9:=Y.out.nn;have b4:=hid7 a3;obtain ⟨fa,fc,rfl,_,_⟩:=bC0 a3;have z:=hid7 e7;have b3:=hid7 b0;have b2:=hid7 e8;clear hj a3 e7 b0 e8
  by_cases f0:0<(aY0 p ⟨[],l,q⟩ k).q
  ·have Z:Hid (aY0 p ⟨[],l,q⟩ (k+1)=fF0 p (aY0 p ⟨[],l,q⟩ k)):=rfl;obtain ⟨⟨x,T,y,U,b5,b7,b8,b9,c5,f2,f1,n1,n2,n3,n4,c1,e2,c2,c4,f3⟩,h0⟩:=jM0 Y.out f0
   have g0:Hid (∀j,j<k+1->0<(aY0 p ⟨[],l,q⟩ j).q):=fun j hj=>by
    by_cases e:j=k
    ·subst e;exact f0
    ·exact HJ.out j o7
   generalize aY0 p ⟨[],l,q⟩ k=s at *;have g2:Hid (lotN s=min s.q (min x.qty y.qty)):=by show lotN s=_;unfold lotN;rw [b8,b9]
   have a1:Hid ((fF0 p s).fs=s.fs++[⟨x.id,y.id,p,lotN s⟩]/\(fF0 p s).q=s.q - lotN s):=⟨by show s.fs++[_]=_;rw [b8,b9],rfl⟩;have P:Hid (aR0 1 s.L=x::T/\aR0 2 s.L=y::U):=⟨b5,b7⟩;have HM:Hid (x∈s.L/\y∈bR0 x.id (lotN s) s.L/\LOk (bR0 x.id (lotN s) s.L)/\(fF0 p s).L=bR0 y.id (lotN s) (bR0 x.id (lotN s) s.L)/\lotN s<=x.qty/\lotN s<=y.qty):=⟨c5,f1,f3,e2,n3,n4⟩;have px:=Y.out.ok.ok x c5;have py:=Y.out.ok.ok y f2;have f6:Hid (BookIs wr.drew base E M s.L):=z.out.below (B:=wr.heap.size) (aF _ _).drew lR7;have A:=hid7 Y.out.ok.prices;have h4:(0:Int)<((aR0 1 s.L).length:Int):=by rw [b5];simp
   have h5:(0:Int)<((aR0 2 s.L).length:Int):=by rw [b7];simp
   clear b5 b7 b8 b9 c5 f2 f1 c1 e2 c2 c4 f3 n3 n4 HJ;go_upto_region 5 with fail;go_cut [9,10] from 22 to 61 (fun p9 g9 wc=>∃O N:Nat,p9=.pointer (some ⟨O,0,none⟩)/\g9=.pointer (some ⟨N,0,none⟩)/\DBox wc O x/\DBox wc N y/\Below wr.heap.size wr wc)
   case first=>
    refine fE0 (fun _=>True) (fun i=>i == 11) k7 trivial (fun hHeld=>?_);have c:Hid (Two wr wr.drew x y none none none none):=Two.start wr x y;generalize wr.drew=wz at c hHeld ⊢;refine tkL9 0 a7 ?_;refine tkL9 4 a7 ?_;refine aN0 (rs:=[1,8,9]) k7 s7 ?_;refine aG0.cons rfl (fun K f=>?_) ?_
    case' _=>
     go_simp;refine (gK0 base E M s.L 1 _ (z.out.below c.out.bel lR7) o7 A.out).mono ?_;rintro e g ⟨vA,rfl,I,F⟩;obtain ⟨D,cA,rfl,G,H⟩:=cJ0 I P.out.1;dsimp only;replace c:Hid (Two wr g x y _ _ _ _):=c.out.callA F G H;clear I F G H;refine f.out _ _ (fun _=>trivial) (fun hHeld=>?_);replace hHeld:=hHeld rfl;clear f K;generalize g=wz at c hHeld ⊢;refine bU0 (S':=fun w=>Head w D x) (fun _ _=>trivial) _ _ _ _ ?_;replace hHeld:=(c.out.a _ rfl).2.2;refine tkL9 2 a7 ?_;refine tkL8 3 ?_ ?_ a7 ?_;rotate_left
     ·intro w u;obtain ⟨Q,R,S,V,W⟩:=u;go_simp;try rfl
     refine aN0 (rs:=[5,8,9]) k7 s7 ?_;refine aG0.cons rfl (fun K f=>?_) ?_
     case' _=>
      go_simp;refine (gK0 base E M s.L 2 _ (z.out.below c.out.bel lR7) o7 A.out).mono ?_;rintro e g ⟨vB,rfl,r,m⟩;obtain ⟨C,cB,rfl,n,o⟩:=cJ0 r P.out.2;dsimp only;replace c:Hid (Two wr g x y _ _ _ _):=c.out.callB m n o;clear r m n o;refine f.out _ _ (fun _=>(c.out.a _ rfl).2.2) (fun hHeld=>?_);replace hHeld:=hHeld rfl;clear f K;generalize g=wz at c hHeld ⊢;refine bU0 (S':=fun w=>Head w D x/\Head w C y) (fun _ h=>h.1) _ _ _ _ ?_;replace hHeld:Head _ D x/\Head _ C y:=⟨(c.out.a _ rfl).2.2,(c.out.b _ rfl).2.2⟩;refine tkL9 6 a7 ?_;refine tkL8 7 ?_ ?_ a7 ?_;rotate_left
      ·intro w u;obtain ⟨Q,R,S,V,W⟩:=u.2;go_simp;try rfl
      refine aN0 (rs:=[8,9]) k7 s7 ?_;refine aG0.cons rfl (fun K f=>?_) ?_
      case' _=>
       go_simp;have d:=c.out.boxX;replace c:Hid _:=d;clear d;refine f.out _ _ (fun _=>⟨(c.out.a _ rfl).2.2,(c.out.b _ rfl).2.2⟩) (fun hHeld=>?_);replace hHeld:=hHeld rfl;clear f K;generalize wz.alloc (.cells #[.int .i64 0,.int .i64 0,.int .i64 0,.int .i64 0,.int .i64 0] 92)=g at c hHeld ⊢;generalize wz.heap.size=O at c ⊢;generalize g=wz at c hHeld ⊢;refine aN0 (rs:=[9]) k7 s7 ?_;refine aG0.cons rfl (fun K f=>?_) aG0.nil
       case' _=>
        go_simp;have d:=c.out.boxY;replace c:Hid _:=d;clear d;refine f.out _ _ (fun _=>⟨(c.out.a _ rfl).2.2,(c.out.b _ rfl).2.2⟩) (fun hHeld=>?_);replace hHeld:=hHeld rfl;clear f K;generalize wz.alloc (.cells #[.int .i64 0,.int .i64 0,.int .i64 0,.int .i64 0,.int .i64 0] 92)=g at c hHeld ⊢;generalize wz.heap.size=N at c ⊢;generalize g=wz at c hHeld ⊢
      rotate_left;refine aG0.cons rfl (fun K f=>?_) aG0.nil
      case' _=>
       go_simp;have d:=c.out.boxY;replace c:Hid _:=d;clear d;refine f.out _ _ (fun _=>⟨(c.out.a _ rfl).2.2,(c.out.b _ rfl).2.2⟩) (fun hHeld=>?_);replace hHeld:=hHeld rfl;clear f K;generalize wz.alloc (.cells #[.int .i64 0,.int .i64 0,.int .i64 0,.int .i64 0,.int .i64 0] 92)=g at c hHeld ⊢;generalize wz.heap.size=N at c ⊢;generalize g=wz at c hHeld ⊢;refine aN0 (rs:=[8]) k7 s7 ?_;refine aG0.cons rfl (fun K f=>?_) aG0.nil
       case' _=>
        go_simp;have d:=c.out.boxX;replace c:Hid _:=d;clear d;refine f.out _ _ (fun _=>⟨(c.out.a _ rfl).2.2,(c.out.b _ rfl).2.2⟩) (fun hHeld=>?_);replace hHeld:=hHeld rfl;clear f K;generalize wz.alloc (.cells #[.int .i64 0,.int .i64 0,.int .i64 0,.int .i64 0,.int .i64 0] 92)=g at c hHeld ⊢;generalize wz.heap.size=O at c ⊢;generalize g=wz at c hHeld ⊢
     rotate_left 2;refine aG0.cons rfl (fun K f=>?_) ?_
     case' _=>
      go_simp;have d:=c.out.boxX;replace c:Hid _:=d;clear d;refine f.out _ _ (fun _=>(c.out.a _ rfl).2.2) (fun hHeld=>?_);replace hHeld:=hHeld rfl;clear f K;generalize wz.alloc (.cells #[.int .i64 0,.int .i64 0,.int .i64 0,.int .i64 0,.int .i64 0] 92)=g at c hHeld ⊢;generalize wz.heap.size=O at c ⊢;generalize g=wz at c hHeld ⊢;refine aN0 (rs:=[5,9]) k7 s7 ?_;refine aG0.cons rfl (fun K f=>?_) ?_
      case' _=>
       go_simp;refine (gK0 base E M s.L 2 _ (z.out.below c.out.bel lR7) o7 A.out).mono ?_;rintro e g ⟨vB,rfl,r,m⟩;obtain ⟨C,cB,rfl,n,o⟩:=cJ0 r P.out.2;dsimp only;replace c:Hid (Two wr g x y _ _ _ _):=c.out.callB m n o;clear r m n o;refine f.out _ _ (fun _=>(c.out.a _ rfl).2.2) (fun hHeld=>?_);replace hHeld:=hHeld rfl;clear f K;generalize g=wz at c hHeld ⊢;refine bU0 (S':=fun w=>Head w D x/\Head w C y) (fun _ h=>h.1) _ _ _ _ ?_;replace hHeld:Head _ D x/\Head _ C y:=⟨(c.out.a _ rfl).2.2,(c.out.b _ rfl).2.2⟩;refine tkL9 6 a7 ?_;refine tkL8 7 ?_ ?_ a7 ?_;rotate_left
       ·intro w u;obtain ⟨Q,R,S,V,W⟩:=u.2;go_simp;try rfl
       refine aN0 (rs:=[9]) k7 s7 ?_;refine aG0.cons rfl (fun K f=>?_) aG0.nil
       case' _=>
        go_simp;have d:=c.out.boxY;replace c:Hid _:=d;clear d;refine f.out _ _ (fun _=>⟨(c.out.a _ rfl).2.2,(c.out.b _ rfl).2.2⟩) (fun hHeld=>?_);replace hHeld:=hHeld rfl;clear f K;generalize wz.alloc (.cells #[.int .i64 0,.int .i64 0,.int .i64 0,.int .i64 0,.int .i64 0] 92)=g at c hHeld ⊢;generalize wz.heap.size=N at c ⊢;generalize g=wz at c hHeld ⊢
      rotate_left;refine aG0.cons rfl (fun K f=>?_) aG0.nil
      case' _=>
       go_simp;have d:=c.out.boxY;replace c:Hid _:=d;clear d;refine f.out _ _ (fun _=>(c.out.a _ rfl).2.2) (fun hHeld=>?_);replace hHeld:=hHeld rfl;clear f K;generalize wz.alloc (.cells #[.int .i64 0,.int .i64 0,.int .i64 0,.int .i64 0,.int .i64 0] 92)=g at c hHeld ⊢;generalize wz.heap.size=N at c ⊢;generalize g=wz at c hHeld ⊢;refine aN0 (rs:=[5]) k7 s7 ?_;refine aG0.cons rfl (fun K f=>?_) aG0.nil
       case' _=>
        go_simp;refine (gK0 base E M s.L 2 _ (z.out.below c.out.bel lR7) o7 A.out).mono ?_;rintro e g ⟨vB,rfl,r,m⟩;obtain ⟨C,cB,rfl,n,o⟩:=cJ0 r P.out.2;dsimp only;replace c:Hid (Two wr g x y _ _ _ _):=c.out.callB m n o;clear r m n o;refine f.out _ _ (fun _=>(c.out.a _ rfl).2.2) (fun hHeld=>?_);replace hHeld:=hHeld rfl;clear f K;generalize g=wz at c hHeld ⊢;refine bU0 (S':=fun w=>Head w D x/\Head w C y) (fun _ h=>h.1) _ _ _ _ ?_;replace hHeld:Head _ D x/\Head _ C y:=⟨(c.out.a _ rfl).2.2,(c.out.b _ rfl).2.2⟩;refine tkL9 6 a7 ?_;refine tkL8 7 ?_ ?_ a7 ?_;rotate_left
        ·intro w u;obtain ⟨Q,R,S,V,W⟩:=u.2;go_simp;try rfl
     rotate_left 2;refine aG0.cons rfl (fun K f=>?_) aG0.nil
     case' _=>
      go_simp;have d:=c.out.boxY;replace c:Hid _:=d;clear d;refine f.out _ _ (fun _=>(c.out.a _ rfl).2.2) (fun hHeld=>?_);replace hHeld:=hHeld rfl;clear f K;generalize wz.alloc (.cells #[.int .i64 0,.int .i64 0,.int .i64 0,.int .i64 0,.int .i64 0] 92)=g at c hHeld ⊢;generalize wz.heap.size=N at c ⊢;generalize g=wz at c hHeld ⊢;refine aN0 (rs:=[5,8]) k7 s7 ?_;refine aG0.cons rfl (fun K f=>?_) ?_
      case' _=>
       go_simp;refine (gK0 base E M s.L 2 _ (z.out.below c.out.bel lR7) o7 A.out).mono ?_;rintro e g ⟨vB,rfl,r,m⟩;obtain ⟨C,cB,rfl,n,o⟩:=cJ0 r P.out.2;dsimp only;replace c:Hid (Two wr g x y _ _ _ _):=c.out.callB m n o;clear r m n o;refine f.out _ _ (fun _=>(c.out.a _ rfl).2.2) (fun hHeld=>?_);replace hHeld:=hHeld rfl;clear f K;generalize g=wz at c hHeld ⊢;refine bU0 (S':=fun w=>Head w D x/\Head w C y) (fun _ h=>h.1) _ _ _ _ ?_;replace hHeld:Head _ D x/\Head _ C y:=⟨(c.out.a _ rfl).2.2,(c.out.b _ rfl).2.2⟩;refine tkL9 6 a7 ?_;refine tkL8 7 ?_ ?_ a7 ?_;rotate_left
       ·intro w u;obtain ⟨Q,R,S,V,W⟩:=u.2;go_simp;try rfl
       refine aN0 (rs:=[8]) k7 s7 ?_;refine aG0.cons rfl (fun K f=>?_) aG0.nil
       case' _=>
        go_simp;have d:=c.out.boxX;replace c:Hid _:=d;clear d;refine f.out _ _ (fun _=>⟨(c.out.a _ rfl).2.2,(c.out.b _ rfl).2.2⟩) (fun hHeld=>?_);replace hHeld:=hHeld rfl;clear f K;generalize wz.alloc (.cells #[.int .i64 0,.int .i64 0,.int .i64 0,.int .i64 0,.int .i64 0] 92)=g at c hHeld ⊢;generalize wz.heap.size=O at c ⊢;generalize g=wz at c hHeld ⊢
      rotate_left;refine aG0.cons rfl (fun K f=>?_) aG0.nil
      case' _=>
       go_simp;have d:=c.out.boxX;replace c:Hid _:=d;clear d;refine f.out _ _ (fun _=>(c.out.a _ rfl).2.2) (fun hHeld=>?_);replace hHeld:=hHeld rfl;clear f K;generalize wz.alloc (.cells #[.int .i64 0,.int .i64 0,.int .i64 0,.int .i64 0,.int .i64 0] 92)=g at c hHeld ⊢;generalize wz.heap.size=O at c ⊢;generalize g=wz at c hHeld ⊢;refine aN0 (rs:=[5]) k7 s7 ?_;refine aG0.cons rfl (fun K f=>?_) aG0.nil
       case' _=>
        go_simp;refine (gK0 base E M s.L 2 _ (z.out.below c.out.bel lR7) o7 A.out).mono ?_;rintro e g ⟨vB,rfl,r,m⟩;obtain ⟨C,cB,rfl,n,o⟩:=cJ0 r P.out.2;dsimp only;replace c:Hid (Two wr g x y _ _ _ _):=c.out.callB m n o;clear r m n o;refine f.out _ _ (fun _=>(c.out.a _ rfl).2.2) (fun hHeld=>?_);replace hHeld:=hHeld rfl;clear f K;generalize g=wz at c hHeld ⊢;refine bU0 (S':=fun w=>Head w D x/\Head w C y) (fun _ h=>h.1) _ _ _ _ ?_;replace hHeld:Head _ D x/\Head _ C y:=⟨(c.out.a _ rfl).2.2,(c.out.b _ rfl).2.2⟩;refine tkL9 6 a7 ?_;refine tkL8 7 ?_ ?_ a7 ?_;rotate_left
        ·intro w u;obtain ⟨Q,R,S,V,W⟩:=u.2;go_simp;try rfl
    rotate_left 6;refine aG0.cons rfl (fun K f=>?_) ?_
    case' _=>
     go_simp;have d:=c.out.boxX;replace c:Hid _:=d;clear d;refine f.out _ _ (fun _=>trivial) (fun hHeld=>?_);replace hHeld:=hHeld rfl;clear f K;generalize wz.alloc (.cells #[.int .i64 0,.int .i64 0,.int .i64 0,.int .i64 0,.int .i64 0] 92)=g at c hHeld ⊢;generalize wz.heap.size=O at c ⊢;generalize g=wz at c hHeld ⊢;refine aN0 (rs:=[1,9]) k7 s7 ?_;refine aG0.cons rfl (fun K f=>?_) ?_
     case' _=>
      go_simp;refine (gK0 base E M s.L 1 _ (z.out.below c.out.bel lR7) o7 A.out).mono ?_;rintro e g ⟨vA,rfl,I,F⟩;obtain ⟨D,cA,rfl,G,H⟩:=cJ0 I P.out.1;dsimp only;replace c:Hid (Two wr g x y _ _ _ _):=c.out.callA F G H;clear I F G H;refine f.out _ _ (fun _=>trivial) (fun hHeld=>?_);replace hHeld:=hHeld rfl;clear f K;generalize g=wz at c hHeld ⊢;refine bU0 (S':=fun w=>Head w D x) (fun _ _=>trivial) _ _ _ _ ?_;replace hHeld:=(c.out.a _ rfl).2.2;refine tkL9 2 a7 ?_;refine tkL8 3 ?_ ?_ a7 ?_;rotate_left
      ·intro w u;obtain ⟨Q,R,S,V,W⟩:=u;go_simp;try rfl
      refine aN0 (rs:=[5,9]) k7 s7 ?_;refine aG0.cons rfl (fun K f=>?_) ?_
      case' _=>
       go_simp;refine (gK0 base E M s.L 2 _ (z.out.below c.out.bel lR7) o7 A.out).mono ?_;rintro e g ⟨vB,rfl,r,m⟩;obtain ⟨C,cB,rfl,n,o⟩:=cJ0 r P.out.2;dsimp only;replace c:Hid (Two wr g x y _ _ _ _):=c.out.callB m n o;clear r m n o;refine f.out _ _ (fun _=>(c.out.a _ rfl).2.2) (fun hHeld=>?_);replace hHeld:=hHeld rfl;clear f K;generalize g=wz at c hHeld ⊢;refine bU0 (S':=fun w=>Head w D x/\Head w C y) (fun _ h=>h.1) _ _ _ _ ?_;replace hHeld:Head _ D x/\Head _ C y:=⟨(c.out.a _ rfl).2.2,(c.out.b _ rfl).2.2⟩;refine tkL9 6 a7 ?_;refine tkL8 7 ?_ ?_ a7 ?_;rotate_left
       ·intro w u;obtain ⟨Q,R,S,V,W⟩:=u.2;go_simp;try rfl
       refine aN0 (rs:=[9]) k7 s7 ?_;refine aG0.cons rfl (fun K f=>?_) aG0.nil
       case' _=>
        go_simp;have d:=c.out.boxY;replace c:Hid _:=d;clear d;refine f.out _ _ (fun _=>⟨(c.out.a _ rfl).2.2,(c.out.b _ rfl).2.2⟩) (fun hHeld=>?_);replace hHeld:=hHeld rfl;clear f K;generalize wz.alloc (.cells #[.int .i64 0,.int .i64 0,.int .i64 0,.int .i64 0,.int .i64 0] 92)=g at c hHeld ⊢;generalize wz.heap.size=N at c ⊢;generalize g=wz at c hHeld ⊢
      rotate_left;refine aG0.cons rfl (fun K f=>?_) aG0.nil
      case' _=>
       go_simp;have d:=c.out.boxY;replace c:Hid _:=d;clear d;refine f.out _ _ (fun _=>(c.out.a _ rfl).2.2) (fun hHeld=>?_);replace hHeld:=hHeld rfl;clear f K;generalize wz.alloc (.cells #[.int .i64 0,.int .i64 0,.int .i64 0,.int .i64 0,.int .i64 0] 92)=g at c hHeld ⊢;generalize wz.heap.size=N at c ⊢;generalize g=wz at c hHeld ⊢;refine aN0 (rs:=[5]) k7 s7 ?_;refine aG0.cons rfl (fun K f=>?_) aG0.nil
       case' _=>
        go_simp;refine (gK0 base E M s.L 2 _ (z.out.below c.out.bel lR7) o7 A.out).mono ?_;rintro e g ⟨vB,rfl,r,m⟩;obtain ⟨C,cB,rfl,n,o⟩:=cJ0 r P.out.2;dsimp only;replace c:Hid (Two wr g x y _ _ _ _):=c.out.callB m n o;clear r m n o;refine f.out _ _ (fun _=>(c.out.a _ rfl).2.2) (fun hHeld=>?_);replace hHeld:=hHeld rfl;clear f K;generalize g=wz at c hHeld ⊢;refine bU0 (S':=fun w=>Head w D x/\Head w C y) (fun _ h=>h.1) _ _ _ _ ?_;replace hHeld:Head _ D x/\Head _ C y:=⟨(c.out.a _ rfl).2.2,(c.out.b _ rfl).2.2⟩;refine tkL9 6 a7 ?_;refine tkL8 7 ?_ ?_ a7 ?_;rotate_left
        ·intro w u;obtain ⟨Q,R,S,V,W⟩:=u.2;go_simp;try rfl
     rotate_left 2;refine aG0.cons rfl (fun K f=>?_) aG0.nil
     case' _=>
      go_simp;have d:=c.out.boxY;replace c:Hid _:=d;clear d;refine f.out _ _ (fun _=>trivial) (fun hHeld=>?_);replace hHeld:=hHeld rfl;clear f K;generalize wz.alloc (.cells #[.int .i64 0,.int .i64 0,.int .i64 0,.int .i64 0,.int .i64 0] 92)=g at c hHeld ⊢;generalize wz.heap.size=N at c ⊢;generalize g=wz at c hHeld ⊢;refine aN0 (rs:=[1]) k7 s7 ?_;refine aG0.cons rfl (fun K f=>?_) aG0.nil
      case' _=>
       go_simp;refine (gK0 base E M s.L 1 _ (z.out.below c.out.bel lR7) o7 A.out).mono ?_;rintro e g ⟨vA,rfl,I,F⟩;obtain ⟨D,cA,rfl,G,H⟩:=cJ0 I P.out.1;dsimp only;replace c:Hid (Two wr g x y _ _ _ _):=c.out.callA F G H;clear I F G H;refine f.out _ _ (fun _=>trivial) (fun hHeld=>?_);replace hHeld:=hHeld rfl;clear f K;generalize g=wz at c hHeld ⊢;refine bU0 (S':=fun w=>Head w D x) (fun _ _=>trivial) _ _ _ _ ?_;replace hHeld:=(c.out.a _ rfl).2.2;refine tkL9 2 a7 ?_;refine tkL8 3 ?_ ?_ a7 ?_;rotate_left
       ·intro w u;obtain ⟨Q,R,S,V,W⟩:=u;go_simp;try rfl
       refine aN0 (rs:=[5]) k7 s7 ?_;refine aG0.cons rfl (fun K f=>?_) aG0.nil
       case' _=>
        go_simp;refine (gK0 base E M s.L 2 _ (z.out.below c.out.bel lR7) o7 A.out).mono ?_;rintro e g ⟨vB,rfl,r,m⟩;obtain ⟨C,cB,rfl,n,o⟩:=cJ0 r P.out.2;dsimp only;replace c:Hid (Two wr g x y _ _ _ _):=c.out.callB m n o;clear r m n o;refine f.out _ _ (fun _=>(c.out.a _ rfl).2.2) (fun hHeld=>?_);replace hHeld:=hHeld rfl;clear f K;generalize g=wz at c hHeld ⊢;refine bU0 (S':=fun w=>Head w D x/\Head w C y) (fun _ h=>h.1) _ _ _ _ ?_;replace hHeld:Head _ D x/\Head _ C y:=⟨(c.out.a _ rfl).2.2,(c.out.b _ rfl).2.2⟩;refine tkL9 6 a7 ?_;refine tkL8 7 ?_ ?_ a7 ?_;rotate_left
        ·intro w u;obtain ⟨Q,R,S,V,W⟩:=u.2;go_simp;try rfl
    rotate_left 3;refine aG0.cons rfl (fun K f=>?_) aG0.nil
    case' _=>
     go_simp;have d:=c.out.boxY;replace c:Hid _:=d;clear d;refine f.out _ _ (fun _=>trivial) (fun hHeld=>?_);replace hHeld:=hHeld rfl;clear f K;generalize wz.alloc (.cells #[.int .i64 0,.int .i64 0,.int .i64 0,.int .i64 0,.int .i64 0] 92)=g at c hHeld ⊢;generalize wz.heap.size=N at c ⊢;generalize g=wz at c hHeld ⊢;refine aN0 (rs:=[1,8]) k7 s7 ?_;refine aG0.cons rfl (fun K f=>?_) ?_
     case' _=>
      go_simp;refine (gK0 base E M s.L 1 _ (z.out.below c.out.bel lR7) o7 A.out).mono ?_;rintro e g ⟨vA,rfl,I,F⟩;obtain ⟨D,cA,rfl,G,H⟩:=cJ0 I P.out.1;dsimp only;replace c:Hid (Two wr g x y _ _ _ _):=c.out.callA F G H;clear I F G H;refine f.out _ _ (fun _=>trivial) (fun hHeld=>?_);replace hHeld:=hHeld rfl;clear f K;generalize g=wz at c hHeld ⊢;refine bU0 (S':=fun w=>Head w D x) (fun _ _=>trivial) _ _ _ _ ?_;replace hHeld:=(c.out.a _ rfl).2.2;refine tkL9 2 a7 ?_;refine tkL8 3 ?_ ?_ a7 ?_;rotate_left
      ·intro w u;obtain ⟨Q,R,S,V,W⟩:=u;go_simp;try rfl
      refine aN0 (rs:=[5,8]) k7 s7 ?_;refine aG0.cons rfl (fun K f=>?_) ?_
      case' _=>
       go_simp;refine (gK0 base E M s.L 2 _ (z.out.below c.out.bel lR7) o7 A.out).mono ?_;rintro e g ⟨vB,rfl,r,m⟩;obtain ⟨C,cB,rfl,n,o⟩:=cJ0 r P.out.2;dsimp only;replace c:Hid (Two wr g x y _ _ _ _):=c.out.callB m n o;clear r m n o;refine f.out _ _ (fun _=>(c.out.a _ rfl).2.2) (fun hHeld=>?_);replace hHeld:=hHeld rfl;clear f K;generalize g=wz at c hHeld ⊢;refine bU0 (S':=fun w=>Head w D x/\Head w C y) (fun _ h=>h.1) _ _ _ _ ?_;replace hHeld:Head _ D x/\Head _ C y:=⟨(c.out.a _ rfl).2.2,(c.out.b _ rfl).2.2⟩;refine tkL9 6 a7 ?_;refine tkL8 7 ?_ ?_ a7 ?_;rotate_left
       ·intro w u;obtain ⟨Q,R,S,V,W⟩:=u.2;go_simp;try rfl
       refine aN0 (rs:=[8]) k7 s7 ?_;refine aG0.cons rfl (fun K f=>?_) aG0.nil
       case' _=>
        go_simp;have d:=c.out.boxX;replace c:Hid _:=d;clear d;refine f.out _ _ (fun _=>⟨(c.out.a _ rfl).2.2,(c.out.b _ rfl).2.2⟩) (fun hHeld=>?_);replace hHeld:=hHeld rfl;clear f K;generalize wz.alloc (.cells #[.int .i64 0,.int .i64 0,.int .i64 0,.int .i64 0,.int .i64 0] 92)=g at c hHeld ⊢;generalize wz.heap.size=O at c ⊢;generalize g=wz at c hHeld ⊢
      rotate_left;refine aG0.cons rfl (fun K f=>?_) aG0.nil
      case' _=>
       go_simp;have d:=c.out.boxX;replace c:Hid _:=d;clear d;refine f.out _ _ (fun _=>(c.out.a _ rfl).2.2) (fun hHeld=>?_);replace hHeld:=hHeld rfl;clear f K;generalize wz.alloc (.cells #[.int .i64 0,.int .i64 0,.int .i64 0,.int .i64 0,.int .i64 0] 92)=g at c hHeld ⊢;generalize wz.heap.size=O at c ⊢;generalize g=wz at c hHeld ⊢;refine aN0 (rs:=[5]) k7 s7 ?_;refine aG0.cons rfl (fun K f=>?_) aG0.nil
       case' _=>
        go_simp;refine (gK0 base E M s.L 2 _ (z.out.below c.out.bel lR7) o7 A.out).mono ?_;rintro e g ⟨vB,rfl,r,m⟩;obtain ⟨C,cB,rfl,n,o⟩:=cJ0 r P.out.2;dsimp only;replace c:Hid (Two wr g x y _ _ _ _):=c.out.callB m n o;clear r m n o;refine f.out _ _ (fun _=>(c.out.a _ rfl).2.2) (fun hHeld=>?_);replace hHeld:=hHeld rfl;clear f K;generalize g=wz at c hHeld ⊢;refine bU0 (S':=fun w=>Head w D x/\Head w C y) (fun _ h=>h.1) _ _ _ _ ?_;replace hHeld:Head _ D x/\Head _ C y:=⟨(c.out.a _ rfl).2.2,(c.out.b _ rfl).2.2⟩;refine tkL9 6 a7 ?_;refine tkL8 7 ?_ ?_ a7 ?_;rotate_left
        ·intro w u;obtain ⟨Q,R,S,V,W⟩:=u.2;go_simp;try rfl
     rotate_left 2;refine aG0.cons rfl (fun K f=>?_) aG0.nil
     case' _=>
      go_simp;have d:=c.out.boxX;replace c:Hid _:=d;clear d;refine f.out _ _ (fun _=>trivial) (fun hHeld=>?_);replace hHeld:=hHeld rfl;clear f K;generalize wz.alloc (.cells #[.int .i64 0,.int .i64 0,.int .i64 0,.int .i64 0,.int .i64 0] 92)=g at c hHeld ⊢;generalize wz.heap.size=O at c ⊢;generalize g=wz at c hHeld ⊢;refine aN0 (rs:=[1]) k7 s7 ?_;refine aG0.cons rfl (fun K f=>?_) aG0.nil
      case' _=>
       go_simp;refine (gK0 base E M s.L 1 _ (z.out.below c.out.bel lR7) o7 A.out).mono ?_;rintro e g ⟨vA,rfl,I,F⟩;obtain ⟨D,cA,rfl,G,H⟩:=cJ0 I P.out.1;dsimp only;replace c:Hid (Two wr g x y _ _ _ _):=c.out.callA F G H;clear I F G H;refine f.out _ _ (fun _=>trivial) (fun hHeld=>?_);replace hHeld:=hHeld rfl;clear f K;generalize g=wz at c hHeld ⊢;refine bU0 (S':=fun w=>Head w D x) (fun _ _=>trivial) _ _ _ _ ?_;replace hHeld:=(c.out.a _ rfl).2.2;refine tkL9 2 a7 ?_;refine tkL8 3 ?_ ?_ a7 ?_;rotate_left
       ·intro w u;obtain ⟨Q,R,S,V,W⟩:=u;go_simp;try rfl
       refine aN0 (rs:=[5]) k7 s7 ?_;refine aG0.cons rfl (fun K f=>?_) aG0.nil
       case' _=>
        go_simp;refine (gK0 base E M s.L 2 _ (z.out.below c.out.bel lR7) o7 A.out).mono ?_;rintro e g ⟨vB,rfl,r,m⟩;obtain ⟨C,cB,rfl,n,o⟩:=cJ0 r P.out.2;dsimp only;replace c:Hid (Two wr g x y _ _ _ _):=c.out.callB m n o;clear r m n o;refine f.out _ _ (fun _=>(c.out.a _ rfl).2.2) (fun hHeld=>?_);replace hHeld:=hHeld rfl;clear f K;generalize g=wz at c hHeld ⊢;refine bU0 (S':=fun w=>Head w D x/\Head w C y) (fun _ h=>h.1) _ _ _ _ ?_;replace hHeld:Head _ D x/\Head _ C y:=⟨(c.out.a _ rfl).2.2,(c.out.b _ rfl).2.2⟩;refine tkL9 6 a7 ?_;refine tkL8 7 ?_ ?_ a7 ?_;rotate_left
        ·intro w u;obtain ⟨Q,R,S,V,W⟩:=u.2;go_simp;try rfl
    all_goals
     obtain ⟨fA,fB,fx,fy,fb⟩:=c.out.first;obtain ⟨_,_,J⟩:=c.out.x _ rfl;have z0:=aA0 (j:=0) J rfl;have z1:=aA0 (j:=1) J rfl;have z2:=aA0 (j:=2) J rfl;have z3:=aA0 (j:=3) J rfl;have z4:=aA0 (j:=4) J rfl;have q0:=aB0 (j:=0) J;have q1:=aB0 (j:=1) J;have q2:=aB0 (j:=2) J;have q3:=aB0 (j:=3) J;have q4:=aB0 (j:=4) J;unfold boxed at fA fB fx fy fb;have HF:Hid _:=And.intro fA (And.intro fB (And.intro fx (And.intro fy fb)));clear fA fB fx fy fb J hHeld;refine aN0 (rs:=[10]) k7 s7 ?_;refine aG0.cons rfl (fun K f=>?_) aG0.nil;go_simp;generalize ((((wz.setCell ⟨O,0,none⟩ (.int .i64 x.id)).setCell ⟨O,1,none⟩ (.int .i64 x.side)).setCell ⟨O,2,none⟩ (.int .i64 x.kind)).setCell ⟨O,3,none⟩ (.int .i64 x.price)).setCell ⟨O,4,none⟩ (.int .i64 x.qty)=wm at HF ⊢;refine f.out _ _ (fun _=>⟨HF.out.1,HF.out.2.1⟩) (fun _=>?_);clear f K z0 z1 z2 z3 z4 q0 q1 q2 q3 q4;obtain ⟨d1,d2,d3⟩:=c.out.both HF.out.2.2.1 HF.out.2.2.2.1 HF.out.2.2.2.2;have J:=HF.out.2.2.2.1;have z0:=aA0 (j:=0) J rfl;have z1:=aA0 (j:=1) J rfl;have z2:=aA0 (j:=2) J rfl;have z3:=aA0 (j:=3) J rfl;have z4:=aA0 (j:=4) J rfl;have q0:=aB0 (j:=0) J;have q1:=aB0 (j:=1) J;have q2:=aB0 (j:=2) J;have q3:=aB0 (j:=3) J;have q4:=aB0 (j:=4) J;unfold boxed at d1 d2 d3;have HD:Hid _:=And.intro d1 (And.intro d2 d3);clear d1 d2 d3 J HF;refine aN0 (rs:=[11]) k7 s7 ?_;refine aG0.cons rfl (fun K f=>?_) aG0.nil;go_simp;generalize ((((wm.setCell ⟨N,0,none⟩ (.int .i64 y.id)).setCell ⟨N,1,none⟩ (.int .i64 y.side)).setCell ⟨N,2,none⟩ (.int .i64 y.kind)).setCell ⟨N,3,none⟩ (.int .i64 y.price)).setCell ⟨N,4,none⟩ (.int .i64 y.qty)=we at HD ⊢;refine f.out _ _ (fun h=>by cases h) (fun _=>?_);clear f K z0 z1 z2 z3 z4 q0 q1 q2 q3 q4;refine gS0 k7 ?_ _;go_wp2_with fail;go_meet;exact ⟨O,N,rfl,rfl,HD.out⟩
   case rest=>
    obtain ⟨O,N,rfl,rfl,a5,a6,a4⟩:=hcut;have f7:=hid7 a5;have f8:=hid7 a6;have d4:Hid (wc.ownsRow w.heap.size 146 4 (.slice fa s.fs.length fc) s.fs.length (fV s.fs)):=aU0 b4.out a4 lR7;have f5:Hid (BookIs wc base E M s.L):=z.out.below a4 lR7;have d0:Hid (Out (fun j=>j=E.bb) w wc):=aX0 b3.out (aL a4 lR7);have i1:w.heap.size<=wc.heap.size:=d0.out.size;have h7:s.fs.length<=100000000:=by have:=b2.out;omega
    have x0:=aA0 (j:=0) a5 rfl;have x4:=aA0 (j:=4) a5 rfl;have y0:=aA0 (j:=0) a6 rfl;have y4:=aA0 (j:=4) a6 rfl;rw [g2.out] at a1 HM n1 n2;clear a4 a5 a6 b4 z b3 f6;go_wp2_with (at_builtin;refine wpList_append_own_at _ rfl _ _ 93 rfl w.heap.size 146 iF (.agg #[.int .i64 0,.int .i64 0,.int .i64 0,.int .i64 0]) 4 32 underlying93 g8 g5 g6 g7 rfl d7 _ s.fs.length (fV s.fs) rfl (d4.out.alloc _) ⟨wc.heap.size,0,none⟩ 1 1 [.int .i64 x.id,.int .i64 y.id,.int .i64 p,.int .i64 (min s.q (min x.qty y.qty))] rfl rfl (bJ (cs:=#[.int .i64 x.id,.int .i64 y.id,.int .i64 p,.int .i64 (min s.q (min x.qty y.qty))]) (t:=146) (fr:=(0,0)) (heap_alloc_new wc _)) (by simp [Value.oneCell']) (by unfold maxLen;omega) o7 (by simp;omega) ?_;intro v6 w6 a2 X _ _;obtain ⟨b6,d9,e0,o6⟩:=pG1 d4.out f5.out f7.out f8.out d0.out X;have x6:=aA0 (j:=0) d9 rfl;have a0:Hid _:=b6;have d8:Hid _:=e0;have c8:Hid _:=o6;have d5:Hid _:=a2;clear b6 d9 e0 o6 a2 X);have c0:=b2.out;have i2:w.heap.size<=w6.heap.size:=c8.out.size;refine (bF1 base E M s.L x (min s.q (min x.qty y.qty)) w6 a0.out o7 o7 Y.out.ok HM.out.1 ⟨n1,HM.out.2.2.2.2.1⟩).mono ?_;rintro e w7 ⟨rfl,a8,v7,e5⟩;have e1:DBox w7 N y:=aF0 d8.out a8 (dQ0 d8.out a0.out.box (fun e=>a0.out.ty.1 e.symm));have y7:=aA0 (j:=0) e1 rfl;have d6:Hid (w7.ownsRow w.heap.size 146 4 v6 (s.fs.length+1) (fV s.fs++[.int .i64 x.id,.int .i64 y.id,.int .i64 p,.int .i64 (min s.q (min x.qty y.qty))])):=aK0 d5.out a8 (fun j hj e=>aH0 d5.out a0.out.box a0.out.ty.2 (hj.trans (congrArg some e)));have b1:=hid7 e5;have c9:=hid7 (aX0 c8.out a8);clear a8 e5 e1 x6 c0;go_wp2_with fail;have i3:w.heap.size<=w7.heap.size:=c9.out.size;have e9:(bR0 x.id (min s.q (min x.qty y.qty)) s.L).length<=s.L.length:=pI0 _ _ _;refine (bF1 base E v7 (bR0 x.id (min s.q (min x.qty y.qty)) s.L) y (min s.q (min x.qty y.qty)) w7 b1.out o7 o7 HM.out.2.2.1 HM.out.2.1 ⟨n1,HM.out.2.2.2.2.2⟩).mono ?_;rintro e w8 ⟨rfl,c3,v8,e6⟩;have g4:Hid (w8.ownsRow w.heap.size 146 4 v6 (s.fs.length+1) (fV s.fs++[.int .i64 x.id,.int .i64 y.id,.int .i64 p,.int .i64 (min s.q (min x.qty y.qty))])):=aK0 d6.out c3 (fun j hj e=>aH0 d6.out b1.out.box b1.out.ty.2 (hj.trans (congrArg some e)));have f4:=hid7 e6;have g3:=hid7 (aX0 c9.out c3);have g1:Hid ((bR0 y.id (min s.q (min x.qty y.qty)) (bR0 x.id (min s.q (min x.qty y.qty)) s.L)).length<=s.L.length):=aI (pI0 _ _ _) e9;clear c3 e6 y7 e9;go_wp2_with fail;go_roundw
    case rel=>
     have c0:=b2.out;have h8:=g1.out;refine ⟨k+1,v8,?_,g0.out,?_,?_,?_,?_,?_,g3.out⟩
     ·rw [Z.out,a1.out.2];try go_num
     ·rw [Z.out,a1.out.1,aN,bD,c0]
     ·rw [Z.out,a1.out.2];omega
     ·rw [Z.out,HM.out.2.2.2.1];omega
     ·rw [Z.out,a1.out.1,xL0,aN,bD];exact g4.out
     ·rw [Z.out,HM.out.2.2.2.1];exact f4.out
    case measure=>simp [intOf];omega
  ·go_wp2_with fail;go_ret2;exact ⟨k,_,rfl,o7,HJ.out,b4.out,⟨_,z.out⟩,b3.out⟩
structure StOk (w:World) (base:Nat) (St:World->Spot->List Int->Prop):Prop where
 below:∀{W W' sp ts},St W sp ts->Below W.heap.size W W'->St W' sp ts
 news:∀{W W' sp ts} {S:Nat->Prop},St W sp ts->Out S W W'->(∀j,S j->w.heap.size<=j)->St W' sp ts
 book:∀{W W' sp ts v v' l l'},St W sp ts->BookIs W base sp v l->BookIs W' base sp v' l'->Out (fun j=>j=sp.bb) W W'->St W' sp ts
structure AskS (g:Nat) (fa la:Array Value) (al:List Int->Int->Bool) (St:World->Spot->List Int->Prop):Prop where
 enters:∀args w,(callFunc g args).run prog w=.ok (.enter g args) w
 tells:∀{W sp ts},St W sp ts->∀p:Int,1<=p->p<=1000000->Calls prog g (fa++#[U G p]++la) W fun e W'=>e=Y (.bool (al ts p))/\Below W.heap.size W W'
structure TellS (g:Nat) (fa la:Array Value) (base:Nat) (St:World->Spot->List Int->Prop):Prop where
 enters:∀args w,(callFunc g args).run prog w=.ok (.enter g args) w
 tells:∀{W sp ts v l},St W sp ts->BookIs W base sp v l->∀p:Int,1<=p->p<=1000000->Calls prog g (fa++#[U G p]++la) W fun e W'=>e=Y (.tuple #[])/\∃sp',sp'.bb=sp.bb/\sp'.off=sp.off/\BookIs W' base sp' v l/\St W' sp' (ts++[p])/\Out (fun j=>j=sp.bb) W W'
structure Mt (w W:World) (base:Nat) (sp0 sp:Spot) (ob rb B:Nat) (vx vb vf:Value) (X:List Ord) (o:Ord) (s:MS) (St:World->Spot->List Int->Prop):Prop where
 old:w.heap.size<=ob/\w.heap.size<=rb/\ob≠rb/\ob<B/\rb<B/\sp0.bb<w.heap.size
 spot:sp.bb=sp0.bb/\sp.off=sp0.off
 row:W.ownsRow B 92 5 vx X.length (oV X)
 box:DBox W ob (bX0 o s.q)
 res:ZBox W rb
 book:BookIs W base sp vb s.L
 far:∀j,vb.ownBlock=some j->j≠ob/\j≠rb
 fils:W.ownsRow w.heap.size 146 4 vf s.fs.length (fV s.fs)
 told:St W sp s.ts
 out:Out (fun j=>j=sp0.bb) w W
section
variable {w W W':World} {base ob rb B:Nat} {sp0 sp sp':Spot} {vx vb vf:Value} {X:List Ord} {o x:Ord} {s:MS} {St:World->Spot->List Int->Prop}
theorem Mt.below (b:StOk w base St) (h:Mt w W base sp0 sp ob rb B vx vb vf X o s St) (a:Below W.heap.size W W'):Mt w W' base sp0 sp ob rb B vx vb vf X o s St:=
 ⟨h.old,h.spot,aU0 h.row a lR7,aE0 h.box a lR7,aE0 h.res a lR7,h.book.below a lR7,h.far,aU0 h.fils a lR7,b.below h.told a,aX0 h.out (aL a lR7)⟩
theorem Mt.push (c:StOk w base St) (h:Mt w W base sp0 sp ob rb B vx vb vf X o s St) {b:Obj} {v':Value} {f:Fil} (d:(W.alloc b).grownBy W' vf.ownBlock) (g:W'.ownsRow w.heap.size 146 4 v' (s.fs.length+1) (fV s.fs++[U G f.buyer,U G f.seller,U G f.price,U G f.qty])):
  Mt w W' base sp0 sp ob rb B vx vb v' X o ⟨s.fs++[f],s.L,s.q,s.ts⟩ St:=by
 have a:Out (fun j=>vf.ownBlock=some j) W W':=aX0 (dD0 (bL _ _) _) (dJ d (fun k hk=>hk));refine ⟨h.old,h.spot,aK0 h.row a (fun k hk=>bP0 h.row h.fils d7 hk),aF0 h.box a (aH0 h.fils h.box d7),aF0 h.res a (aH0 h.fils h.res d7),wY0 h.book a (aH0 h.fils h.book.box h.book.ty.2) (fun k hk=>bP0 h.book.all h.fils d7 hk),h.far,?_,c.news h.told a (fun j e=>(h.fils.lt j e).1),h.out.trans a (fun k hk=>aG (h.fils.lt k hk).1)⟩;rw [xL0,aN,bD];exact g
theorem Mt.cut (c:StOk w base St) (h:Mt w W base sp0 sp ob rb B vx vb vf X o s St) {v':Value} {L':List Ord} (a:Out (fun j=>j=sp.bb) W W') (b:BookIs W' base sp v' L') (d:∀j,v'.ownBlock=some j->W.heap.size<=j):
  Mt w W' base sp0 sp ob rb B vx v' vf X o ⟨s.fs,L',s.q,s.ts⟩ St:=by
 have g:=lt_of_block h.box;have i:=lt_of_block h.res;refine ⟨h.old,h.spot,aK0 h.row a (fun k hk e=>aH0 h.row h.book.box h.book.ty.1 (hk.trans (congrArg some e))),aF0 h.box a (dQ0 h.box h.book.box (fun e=>h.book.ty.1 e.symm)),aF0 h.res a (dQ0 h.res h.book.box (fun e=>h.book.ty.1 e.symm)),b,fun j f=>?_,aK0 h.fils a (fun k hk e=>aH0 h.fils h.book.box h.book.ty.2 (hk.trans (congrArg some e))),c.book h.told h.book b a,h.out.trans a (fun k hk=>aH ((show k=sp.bb from hk).trans h.spot.1))⟩;have:=d j f;omega
theorem Mt.left (c:StOk w base St) (h:Mt w W base sp0 sp ob rb B vx vb vf X o s St) (q:Int):
  Mt w (W.setCell ⟨ob,4,none⟩ (U G q)) base sp0 sp ob rb B vx vb vf X o ⟨s.fs,s.L,q,s.ts⟩ St:=by
 have a:Out (fun j=>j=ob) W (W.setCell ⟨ob,4,none⟩ (U G q)):=aM0 W ⟨ob,4,none⟩ _;obtain ⟨b,i,f,l,m,n⟩:=h.old;refine ⟨h.old,h.spot,aK0 h.row a (fun k hk e=>?_),aJ0 (j:=4) (U G q) h.box,aF0 h.res a (fun e=>f e.symm),wY0 h.book a (dQ0 h.book.box h.box h.book.ty.1) (fun k hk=>(h.far k hk).1),h.far,aK0 h.fils a (fun k hk e=>aH0 h.fils h.box d7 (hk.trans (congrArg some e))),c.news h.told a (fun j d=>by rw [show j=ob from d];exact b),h.out.trans a (fun k hk=>aG (by rw [show k=ob from hk];exact b))⟩;have:=(h.row.lt k hk).1;have g:k=ob:=e;omega
theorem Mt.tell (h:Mt w W base sp0 sp ob rb B vx vb vf X o s St) {p:Int} (h1:sp'.bb=sp.bb) (b:sp'.off=sp.off) (c:BookIs W' base sp' vb s.L) (d:St W' sp' (s.ts++[p])) (a:Out (fun j=>j=sp.bb) W W'):
  Mt w W' base sp0 sp' ob rb B vx vb vf X o ⟨s.fs,s.L,s.q,s.ts++[p]⟩ St:=
 ⟨h.old,⟨h1.trans h.spot.1,b.trans h.spot.2⟩,aK0 h.row a (fun _ hk e=>aH0 h.row h.book.box h.book.ty.1 (hk.trans (congrArg some e))),aF0 h.box a (dQ0 h.box h.book.box (fun e=>h.book.ty.1 e.symm)),aF0 h.res a (dQ0 h.res h.book.box (fun e=>h.book.ty.1 e.symm)),c,h.far,aK0 h.fils a (fun _ hk e=>aH0 h.fils h.book.box h.book.ty.2 (hk.trans (congrArg some e))),d,h.out.trans a (fun k hk=>aH ((show k=sp.bb from hk).trans h.spot.1))⟩
theorem Mt.start (i:StOk w base St) {V:World} {v:Value} {l:List Ord} (h:BookIs w base sp v l) (c:St w sp []) (k:Below w.heap.size w V) (d:DBox V ob o) (e:ZBox V rb) (h1:w.heap.size<=ob) (f:w.heap.size<=rb) (g:ob≠rb) (n:W.ownsRow V.heap.size 92 5 vx X.length (oV X)) (a:Below V.heap.size V W):
  Mt w W base sp sp ob rb V.heap.size vx v (J none 0 0) X o ⟨[],l,o.qty,[]⟩ St:=by
 have b:=aD0 k a;refine ⟨⟨h1,f,g,lt_of_block d,lt_of_block e,lt_of_block h.box⟩,⟨rfl,rfl⟩,n,aE0 d a lR7,aE0 e a lR7,h.below b lR7,fun j m=>?_,aU _ _ _ _,i.below c b,aL b lR7⟩;have:=(h.all.lt j m).2;omega
theorem Mt.done (d:StOk w base St) (h:Mt w W base sp0 sp ob rb B vx vb vf X o s St):
  DBox (boxed W rb (bX0 o s.q)).drew rb (bX0 o s.q)/\(boxed W rb (bX0 o s.q)).drew.ownsRow w.heap.size 146 4 vf s.fs.length (fV s.fs)/\BookIs (boxed W rb (bX0 o s.q)).drew base sp vb s.L/\St (boxed W rb (bX0 o s.q)).drew sp s.ts/\Out (fun j=>j=sp0.bb) w (boxed W rb (bX0 o s.q)).drew/\sp.bb=sp0.bb/\sp.off=sp0.off:=by
 have a:=aW0 (hY0 W rb (bX0 o s.q))
 have b:DBox (boxed W rb (bX0 o s.q)).drew rb (bX0 o s.q):=by
  unfold DBox;rw [lB0];exact lX0 (bX0 o s.q) h.res
 generalize (boxed W rb (bX0 o s.q)).drew=W' at a b ⊢;obtain ⟨g,c,i,l,m,n⟩:=h.old;exact ⟨b,aK0 h.fils a (fun k hk e=>aH0 h.fils h.res d7 (hk.trans (congrArg some e))),wY0 h.book a (dQ0 h.book.box h.res h.book.ty.1) (fun k hk=>(h.far k hk).2),d.news h.told a (fun j f=>by rw [show j=rb from f];exact c),h.out.trans a (fun k hk=>aG (by rw [show k=rb from hk];exact c)),h.spot.1,h.spot.2⟩
theorem Mt.pushX (h:Mt w W base sp0 sp ob rb B vx vb vf X o s St) {c:Nat} {a:Obj} (e:(W.alloc a).grownBy W' vf.ownBlock) (b:DBox W c x):DBox W' c x:=by
 have d:Out (fun j=>vf.ownBlock=some j) W W':=aX0 (dD0 (bL _ _) _) (dJ e (fun k hk=>hk));exact aF0 b d (aH0 h.fils b d7)
end
def pH1 (al:List Int->Int->Bool) (o:Ord) (l:List Ord) (base:Nat) (sp:Spot) (St:World->Spot->List Int->Prop) (w:World) (e:Ending) (w':World):Prop:=
 ∃(s:MS) (b:Bool) (vf v':Value) (sp':Spot),cC0 al o (aR0 (3 - o.side) l) ⟨[],l,o.qty,[]⟩=(s,b)/\e=Y (.tuple #[vf,.agg #[U G o.id,U G o.side,U G o.kind,U G o.price,U G s.q],.bool b])/\w'.ownsRow w.heap.size 146 4 vf s.fs.length (fV s.fs)/\BookIs w' base sp' v' s.L/\St w' sp' s.ts/\Out (fun j=>j=sp.bb) w w'/\sp'.bb=sp.bb/\sp'.off=sp.off
theorem oH0 {a:List Int->Int->Bool} {o:Ord} {sp sp':Spot} {St:World->Spot->List Int->Prop} {s:MS} {b:Bool} {vf v':Value} (h:cC0 a o (aR0 (3 - o.side) l) ⟨[],l,o.qty,[]⟩=(s,b)) (c:w'.ownsRow w.heap.size 146 4 vf s.fs.length (fV s.fs)/\BookIs w' base sp' v' s.L/\St w' sp' s.ts/\Out (fun j=>j=sp.bb) w w'/\sp'.bb=sp.bb/\sp'.off=sp.off):
  pH1 a o l base sp St w (Y (.tuple #[vf,.agg #[U G o.id,U G o.side,U G o.kind,U G o.price,U G s.q],.bool b])) w':=⟨s,b,vf,v',sp',h,rfl,c⟩
theorem vJ1 {X:List Ord} (h:k<X.length):X.drop k=oAt X k::X.drop (k+1):=by
 rw [List.drop_eq_getElem_cons h]
 congr 1
 simp [oAt,h]
theorem pI1 (base:Nat) (b:Spot) (v:Value) (l:List Ord) (o:Ord) (n:Int) (w:World) (h:BookIs w base b v l) (z:l.length<=100) (g:base<=w.heap.size) (a:LOk l) (q:o∈l) (m:1<=n/\n<=o.qty):
  Calls prog 152 #[E (some ⟨b.bb,b.off,none⟩),U G o.id,U G n] w fun e w'=>e=Y (U G 0)/\Out (fun j=>j=b.bb) w w'/\∃v',BookIs w' base b v' (bR0 o.id n l)/\∀j,v'.ownBlock=some j->w.heap.size<=j:=by
 refine (yN1 base b v l o.id n w h z g a.qtys).mono ?_;obtain ⟨k0,y,r,f⟩:=oD1 a q;obtain ⟨d,A⟩:=aR1 a q m;rintro e w' ⟨u,v',⟨h1,_,_⟩ | ⟨k,hk,h1,B,⟨c,_,_⟩ | ⟨c,x,s,t⟩⟩⟩
 ·omega
 ·obtain rfl:k=k0:=o7;rw [f] at c;simp [m.1,m.2] at c
 ·obtain rfl:k=k0:=o7;refine ⟨x,u,v',?_,t⟩;have p:¬idxO o.id l=-1:=o7;have i:(idxO o.id l).toNat=k:=o7;unfold cutM at d;rw [aA p,i,aA (by rw [c];decide)] at d;rw [<-d];exact s
theorem bC2 (base:Nat) (M:Spot) (v:Value) (l:List Ord) (o:Ord) (ga gt:Nat) (d5 la b6 lt:Array Value) (z:List Int->Int->Bool) (O:World->Spot->List Int->Prop) (w:World) (h:BookIs w base M v l) (i3:base<=w.heap.size) (hl:l.length<=100) (g2:LOk l) (y:o.side=1\/o.side=2) (h7:-9223372036854775808<=o.qty/\o.qty<=9223372036854775807) (hS:StOk w base O) (hA:AskS ga d5 la z O) (hT:TellS gt b6 lt base O) (g3:O w M []):
  Calls prog 96 #[E (some ⟨M.bb,M.off,none⟩),.agg #[U G o.id,U G o.side,U G o.kind,U G o.price,U G o.qty],.func (.func ga) d5 la,.func (.func gt) b6 lt] w
   fun e w'=>pH1 z o l base M O w e w':=by
 obtain ⟨iF,f5,d6,d8,d9⟩:=info_parts infoFi;have HA:=hid7 h;have HK:=hid7 g2;have p:Hid (StOk w base O):=hS;have g6:=hid7 hA;have h0:Hid (TellS gt b6 lt base O):=hT;have c9:=hid7 g3;have eA:=hA.enters;have eT:=hT.enters;have i6:M.bb<w.heap.size:=lt_of_block h.box;have s3:IntKind.i64.wrap (3 - o.side)=3 - o.side:=IntWalk.i64_in _ o7;clear h g2 hA hT g3 hS;go_enter func96,ntmps96;go_wp2_with fail;have a4:=bel2 w (R #[U G o.id,U G o.side,U G o.kind,U G o.price,U G o.qty] 92) (R #[U G 0,U G 0,U G 0,U G 0,U G 0] 92);have c0:=gA0 w (R #[U G o.id,U G o.side,U G o.kind,U G o.price,U G o.qty] 92) (R #[U G 0,U G 0,U G 0,U G 0,U G 0] 92);have c1:=eY0 w (R #[U G o.id,U G o.side,U G o.kind,U G o.price,U G o.qty] 92) (R #[U G 0,U G 0,U G 0,U G 0,U G 0] 92);generalize (w.alloc (R #[U G o.id,U G o.side,U G o.kind,U G o.price,U G o.qty] 92)).alloc (R #[U G 0,U G 0,U G 0,U G 0,U G 0] 92)=w1 at a4 c0 c1 ⊢;refine (gK0 base M v l (3 - o.side) w1 (HA.out.below a4 lR7) o7 HK.out.prices).mono ?_;rintro e w2 ⟨vx,rfl,c6,e7⟩;have Q:=Mt.start p.out HA.out c9.out a4 c0 c1 lR7 o7 o7 c6 e7;have c7:Hid _:=Q;have c8:Hid _:=MOk.start HK.out (3 - o.side) o.qty;obtain ⟨xa,xc,rfl,_,_⟩:=bC0 c6;have i2:(aR0 (3 - o.side) l).length<=l.length:=iU0 _ _;generalize hX:aR0 (3 - o.side) l=X at *;have V:=hid7 hX;generalize w1.heap.size=B at *;clear hX c6 e7 a4 c0 c1 Q c9;go_wp2_with fail;go_loopw [11,14,15,23] (fun u11 _ _ u23 wr=>∃(k:Nat) (s:MS) (vb:Value) (C:Spot),u23=U G k/\k<=X.length/\cC0 z o (X.drop k) s=cC0 z o X ⟨[],l,o.qty,[]⟩/\MOk (X.drop k) s/\s.L.length<=l.length/\s.fs.length<=k/\(-9223372036854775808<=s.q/\s.q<=9223372036854775807)/\Mt w wr base M C w.heap.size (w.heap.size+1) B (J xa X.length xc) vb u11 X o s O) (fun _ _ _ u23 _=>X.length - (intOf u23).toNat)
 case atStart=>exact ⟨0,_,v,M,rfl,aO _,rfl,c8.out,lR7,lR7,h7,c7.out⟩
 case round=>
  obtain ⟨k,s,vb,C,rfl,hk,f9,f8,e5,i4,h8,hM⟩:=hrel;have N:=hid7 f9;have n:Hid (Mt w wr base M C w.heap.size (w.heap.size+1) B (J xa X.length xc) vb u11 X o s O):=hM;have b3:=hid7 f8;obtain ⟨fa,fc,rfl,_,_⟩:=bC0 hM.fils;clear f9 f8 c7 c8
  by_cases a6:k<X.length
  ·have i7:(k:Int)<(X.length:Int):=o7;obtain ⟨g,i1,e,d0,d1,d2,d3,d4⟩:=cT0 hM.row a6;injection e with I _ K;subst I K;have HD:Hid (X.drop k=oAt X k::X.drop (k+1)):=vJ1 a6;generalize oAt X k=x at d0 d1 d2 d3 d4 HD;clear hM;go_upto_region 6 with fail;have c4:=bel1 wr (R #[U G x.id,U G x.side,U G x.kind,U G x.price,U G x.qty] 92);have A:=heap_alloc_new wr (R #[U G x.id,U G x.side,U G x.kind,U G x.price,U G x.qty] 92);have a5:=n.out.below p.out c4;generalize wr.alloc (R #[U G x.id,U G x.side,U G x.kind,U G x.price,U G x.qty] 92)=W at c4 A a5 ⊢;have hR:=n.out.res;clear c4 n d0 d1 d2 d3 d4;have h9:w.heap.size+1<wr.heap.size:=lt_of_block hR;clear hR;generalize wr.heap.size=xb at A h9 ⊢;have HX:=hid7 A;have n:Hid (Mt w W base M C w.heap.size (w.heap.size+1) B (J (some ⟨g,0,none⟩) X.length xc) vb (J fa s.fs.length fc) X o s O):=a5;have x0:=aA0 (j:=0) A rfl;have x2:=aA0 (j:=2) A rfl;have x3:=aA0 (j:=3) A rfl;have x4:=aA0 (j:=4) A rfl;have d:W.heap[w.heap.size]? = some (R #[U G o.id,U G o.side,U G o.kind,U G o.price,U G s.q] 92 (0,0)):=a5.box;have o0:=aA0 (j:=0) d rfl;have o1:=aA0 (j:=1) d rfl;have o2:=aA0 (j:=2) d rfl;have o3:=aA0 (j:=3) d rfl;have o4:=aA0 (j:=4) d rfl;clear A a5 d
   by_cases hq:s.q<=0
   ·have u:Hid (cC0 z o X ⟨[],l,o.qty,[]⟩=(s,false)):=by have:=N.out;rw [eC0 hq] at this;exact this.symm
    go_wp2_with fail;have c:=n.out.res;have z0:=aA0 (j:=0) c rfl;have z1:=aA0 (j:=1) c rfl;have z2:=aA0 (j:=2) c rfl;have z3:=aA0 (j:=3) c rfl;have z4:=aA0 (j:=4) c rfl;have f0:=aB0 (j:=0) c;have f1:=aB0 (j:=1) c;have f2:=aB0 (j:=2) c;have f3:=aB0 (j:=3) c;have f4:=aB0 (j:=4) c;have HE:Hid (cC0 z o (aR0 (3 - o.side) l) ⟨[],l,o.qty,[]⟩=(s,false)):=by show _=_;rw [V.out];exact u.out
    have b:=n.out.done p.out;unfold boxed bX0 DBox at b;have a:Hid _:=b;clear c b;go_region
    all_goals go_wp2_with fail
    all_goals generalize (((((W.setCell ⟨w.heap.size+1,0,none⟩ (U G o.id)).setCell ⟨w.heap.size+1,1,none⟩ (U G o.side)).setCell ⟨w.heap.size+1,2,none⟩ (U G o.kind)).setCell ⟨w.heap.size+1,3,none⟩ (U G o.price)).setCell ⟨w.heap.size+1,4,none⟩ (U G s.q)).drew=wz at a ⊢
    all_goals have e0:=aA0 (j:=0) a.out.1 rfl
    all_goals have I:=aA0 (j:=1) a.out.1 rfl
    all_goals have K:=aA0 (j:=2) a.out.1 rfl
    all_goals have e3:=aA0 (j:=3) a.out.1 rfl
    all_goals have e4:=aA0 (j:=4) a.out.1 rfl
    all_goals refine bodyPost_ret (by simp [results,results96,go_sem,e0,I,K,e3,e4];try rfl) rfl ?_
    all_goals exact oH0 HE.out a.out.2
   ·have P:0<s.q:=o7
    have a3:Hid (1<=x.price/\x.price<=1000000/\1<=x.qty/\x.qty<=1000000):=by
     have Q:=b3.out;rw [HD.out] at Q;exact Q.ok.ok x (Q.here x (aK ..))
    by_cases Q:x.kind=2
    ·have h6:(x.kind == 2)=true:=beq_iff_eq.2 Q;have g7:Hid (cC0 z o (X.drop (k+1)) s=cC0 z o X ⟨[],l,o.qty,[]⟩):=by have:=N.out;rw [HD.out,vO0 P Q] at this;exact this
     have b2:Hid (MOk (X.drop (k+1)) s):=by have h1:=b3.out;rw [HD.out] at h1;exact h1.pass
     go_wp2_with fail;go_roundw
     case rel=>exact ⟨k+1,s,vb,C,by go_num,a6,g7.out,b2.out,e5,o7,h8,n.out⟩
     case measure=>simp [intOf];omega
    ·have h6:(x.kind == 2)=false:=aC.2 Q;have b4:=hid7 Q;clear Q;cases hfar:farB o x with
     | true=>
      have u:Hid (cC0 z o X ⟨[],l,o.qty,[]⟩=(s,false)):=by have:=N.out;rw [HD.out,jB0 P b4.out hfar] at this;exact this.symm
      have h2:o.kind≠2/\(o.side=1/\o.price<x.price\/o.side=2/\x.price<o.price):=by simpa [farB] using hfar
      obtain ⟨m,h3⟩:=h2;have a9:(o.kind == 2)=false:=aC.2 m;clear y;rcases h3 with ⟨f,f6⟩ | ⟨f,f6⟩
      ·have a1:(o.side == 1)=true:=beq_iff_eq.2 f;clear f;go_wp2_with fail;have c:=n.out.res;have z0:=aA0 (j:=0) c rfl;have z1:=aA0 (j:=1) c rfl;have z2:=aA0 (j:=2) c rfl;have z3:=aA0 (j:=3) c rfl;have z4:=aA0 (j:=4) c rfl;have f0:=aB0 (j:=0) c;have f1:=aB0 (j:=1) c;have f2:=aB0 (j:=2) c;have f3:=aB0 (j:=3) c;have f4:=aB0 (j:=4) c;have HE:Hid (cC0 z o (aR0 (3 - o.side) l) ⟨[],l,o.qty,[]⟩=(s,false)):=by show _=_;rw [V.out];exact u.out
       have b:=n.out.done p.out;unfold boxed bX0 DBox at b;have a:Hid _:=b;clear c b;go_region
       all_goals go_wp2_with fail
       all_goals generalize (((((W.setCell ⟨w.heap.size+1,0,none⟩ (U G o.id)).setCell ⟨w.heap.size+1,1,none⟩ (U G o.side)).setCell ⟨w.heap.size+1,2,none⟩ (U G o.kind)).setCell ⟨w.heap.size+1,3,none⟩ (U G o.price)).setCell ⟨w.heap.size+1,4,none⟩ (U G s.q)).drew=wz at a ⊢
       all_goals have e0:=aA0 (j:=0) a.out.1 rfl
       all_goals have I:=aA0 (j:=1) a.out.1 rfl
       all_goals have K:=aA0 (j:=2) a.out.1 rfl
       all_goals have e3:=aA0 (j:=3) a.out.1 rfl
       all_goals have e4:=aA0 (j:=4) a.out.1 rfl
       all_goals refine bodyPost_ret (by simp [results,results96,go_sem,e0,I,K,e3,e4];try rfl) rfl ?_
       all_goals exact oH0 HE.out a.out.2
      ·have a1:(o.side == 1)=false:=aC.2 o7;have b0:(o.side == 2)=true:=beq_iff_eq.2 f;clear f;go_wp2_with fail;have c:=n.out.res;have z0:=aA0 (j:=0) c rfl;have z1:=aA0 (j:=1) c rfl;have z2:=aA0 (j:=2) c rfl;have z3:=aA0 (j:=3) c rfl;have z4:=aA0 (j:=4) c rfl;have f0:=aB0 (j:=0) c;have f1:=aB0 (j:=1) c;have f2:=aB0 (j:=2) c;have f3:=aB0 (j:=3) c;have f4:=aB0 (j:=4) c;have HE:Hid (cC0 z o (aR0 (3 - o.side) l) ⟨[],l,o.qty,[]⟩=(s,false)):=by show _=_;rw [V.out];exact u.out
       have b:=n.out.done p.out;unfold boxed bX0 DBox at b;have a:Hid _:=b;clear c b;go_region
       all_goals go_wp2_with fail
       all_goals generalize (((((W.setCell ⟨w.heap.size+1,0,none⟩ (U G o.id)).setCell ⟨w.heap.size+1,1,none⟩ (U G o.side)).setCell ⟨w.heap.size+1,2,none⟩ (U G o.kind)).setCell ⟨w.heap.size+1,3,none⟩ (U G o.price)).setCell ⟨w.heap.size+1,4,none⟩ (U G s.q)).drew=wz at a ⊢
       all_goals have e0:=aA0 (j:=0) a.out.1 rfl
       all_goals have I:=aA0 (j:=1) a.out.1 rfl
       all_goals have K:=aA0 (j:=2) a.out.1 rfl
       all_goals have e3:=aA0 (j:=3) a.out.1 rfl
       all_goals have e4:=aA0 (j:=4) a.out.1 rfl
       all_goals refine bodyPost_ret (by simp [results,results96,go_sem,e0,I,K,e3,e4];try rfl) rfl ?_
       all_goals exact oH0 HE.out a.out.2
     | false=>
      go_upto_if 35 with fail;go_cut [] from 35 to 55 (fun wc=>wc=W)
      case first=>
       by_cases m:o.kind=2
       ·have a9:(o.kind == 2)=true:=beq_iff_eq.2 m;clear m;go_wp2_with fail;go_meet;rfl
       ·have a9:(o.kind == 2)=false:=aC.2 m;rcases y with f | f
        ·have a1:(o.side == 1)=true:=beq_iff_eq.2 f;have b0:(o.side == 2)=false:=aC.2 o7;have h5:¬o.price<x.price:=by simpa [farB,m,f] using hfar
         clear f m;go_wp2_with fail;go_meet;rfl
        ·have a1:(o.side == 1)=false:=aC.2 o7;have b0:(o.side == 2)=true:=beq_iff_eq.2 f;have h5:¬x.price<o.price:=by simpa [farB,m,f] using hfar
         clear f m;go_wp2_with fail;go_meet;rfl
      case rest=>
       subst hcut;have HS:=hid7 y;clear y;go_wp2_with fail;refine (g6.out.tells n.out.told x.price a3.out.1 a3.out.2.1).mono ?_;rintro e w4 ⟨rfl,c3⟩;have b7:=n.out.below p.out c3;have Z:DBox w4 xb x:=aE0 HX.out c3 lR7;clear c3 x0 x2 x3 x4 o0 o1 o2 o3 o4 n HX;have HX:=hid7 Z;have n:Hid (Mt w w4 base M C w.heap.size (w.heap.size+1) B (J (some ⟨g,0,none⟩) X.length xc) vb (J fa s.fs.length fc) X o s O):=b7;have x0:=aA0 (j:=0) Z rfl;have x3:=aA0 (j:=3) Z rfl;have x4:=aA0 (j:=4) Z rfl;have d:w4.heap[w.heap.size]? = some (R #[U G o.id,U G o.side,U G o.kind,U G o.price,U G s.q] 92 (0,0)):=b7.box;have o0:=aA0 (j:=0) d rfl;have o1:=aA0 (j:=1) d rfl;have o2:=aA0 (j:=2) d rfl;have o3:=aA0 (j:=3) d rfl;have o4:=aA0 (j:=4) d rfl;clear b7 Z d;cases ha:z s.ts x.price with
       | false=>
        have u:Hid (cC0 z o X ⟨[],l,o.qty,[]⟩=(s,true)):=by have:=N.out;rw [HD.out,gT0 P b4.out hfar ha] at this;exact this.symm
        go_wp2_with fail;have c:=n.out.res;have z0:=aA0 (j:=0) c rfl;have z1:=aA0 (j:=1) c rfl;have z2:=aA0 (j:=2) c rfl;have z3:=aA0 (j:=3) c rfl;have z4:=aA0 (j:=4) c rfl;have f0:=aB0 (j:=0) c;have f1:=aB0 (j:=1) c;have f2:=aB0 (j:=2) c;have f3:=aB0 (j:=3) c;have f4:=aB0 (j:=4) c;have HE:Hid (cC0 z o (aR0 (3 - o.side) l) ⟨[],l,o.qty,[]⟩=(s,true)):=by show _=_;rw [V.out];exact u.out
        have b:=n.out.done p.out;unfold boxed bX0 DBox at b;have a:Hid _:=b;clear c b;go_region
        all_goals go_wp2_with fail
        all_goals generalize (((((w4.setCell ⟨w.heap.size+1,0,none⟩ (U G o.id)).setCell ⟨w.heap.size+1,1,none⟩ (U G o.side)).setCell ⟨w.heap.size+1,2,none⟩ (U G o.kind)).setCell ⟨w.heap.size+1,3,none⟩ (U G o.price)).setCell ⟨w.heap.size+1,4,none⟩ (U G s.q)).drew=wz at a ⊢
        all_goals have e0:=aA0 (j:=0) a.out.1 rfl
        all_goals have I:=aA0 (j:=1) a.out.1 rfl
        all_goals have K:=aA0 (j:=2) a.out.1 rfl
        all_goals have e3:=aA0 (j:=3) a.out.1 rfl
        all_goals have e4:=aA0 (j:=4) a.out.1 rfl
        all_goals refine bodyPost_ret (by simp [results,results96,go_sem,e0,I,K,e3,e4];try rfl) rfl ?_
        all_goals exact oH0 HE.out a.out.2
       | true=>
        have u:Hid (cC0 z o (X.drop (k+1)) (iN0 o x s)=cC0 z o X ⟨[],l,o.qty,[]⟩):=by have:=N.out;rw [HD.out,fK0 P b4.out hfar ha] at this;exact this
        have h4:s.fs.length<=100:=o7;have i8:w.heap.size<=w4.heap.size:=n.out.out.size;go_upto_if 70 with fail;go_cut [11] from 70 to 92 (fun u11 wc=>∃(F:Option Addr) (H:Nat),u11=J F (s.fs.length+1) H/\Mt w wc base M C w.heap.size (w.heap.size+1) B (J (some ⟨g,0,none⟩) X.length xc) vb u11 X o ⟨s.fs++[mK0 o x (min s.q x.qty)],s.L,s.q,s.ts⟩ O/\DBox wc xb x)
        case first=>
         rcases HS.out with f | f
         ·have a1:(o.side == 1)=true:=beq_iff_eq.2 f;have HF:Hid (mK0 o x (min s.q x.qty)=⟨o.id,x.id,x.price,min s.q x.qty⟩):=aB f;clear f;go_wp2_with (at_builtin;refine wpList_append_own_at _ rfl _ _ 93 rfl w.heap.size 146 iF (.agg #[U G 0,U G 0,U G 0,U G 0]) 4 32 underlying93 f5 d6 d8 d9 rfl d7 _ s.fs.length (fV s.fs) rfl (n.out.fils.alloc _) ⟨w4.heap.size,0,none⟩ 1 1 [U G o.id,U G x.id,U G x.price,U G (min s.q x.qty)] rfl rfl (bJ (cs:=#[U G o.id,U G x.id,U G x.price,U G (min s.q x.qty)]) (t:=146) (fr:=(0,0)) (heap_alloc_new w4 _)) (by simp [Value.oneCell']) (by unfold maxLen;omega) o7 (by simp;omega) ?_;intro v6 w6 r i _ _;have T:Hid _:=r;have S:Hid _:=i;clear r i);obtain ⟨F,H,rfl,_,_⟩:=bC0 T.out;go_meet;exact ⟨F,H,rfl,by rw [HF.out];exact n.out.push p.out S.out T.out,n.out.pushX S.out HX.out⟩
         ·have a1:(o.side == 1)=false:=aC.2 o7;have HF:Hid (mK0 o x (min s.q x.qty)=⟨x.id,o.id,x.price,min s.q x.qty⟩):=aA o7;clear f;go_wp2_with (at_builtin;refine wpList_append_own_at _ rfl _ _ 93 rfl w.heap.size 146 iF (.agg #[U G 0,U G 0,U G 0,U G 0]) 4 32 underlying93 f5 d6 d8 d9 rfl d7 _ s.fs.length (fV s.fs) rfl (n.out.fils.alloc _) ⟨w4.heap.size,0,none⟩ 1 1 [U G x.id,U G o.id,U G x.price,U G (min s.q x.qty)] rfl rfl (bJ (cs:=#[U G x.id,U G o.id,U G x.price,U G (min s.q x.qty)]) (t:=146) (fr:=(0,0)) (heap_alloc_new w4 _)) (by simp [Value.oneCell']) (by unfold maxLen;omega) o7 (by simp;omega) ?_;intro v6 w6 r i _ _;have T:Hid _:=r;have S:Hid _:=i;clear r i);obtain ⟨F,H,rfl,_,_⟩:=bC0 T.out;go_meet;exact ⟨F,H,rfl,by rw [HF.out];exact n.out.push p.out S.out T.out,n.out.pushX S.out HX.out⟩
        case rest=>
         obtain ⟨F,H,rfl,b8,c2⟩:=hcut;have a7:=b3.out;rw [HD.out] at a7;have a0:=a7.lots P;have a2:Hid (MOk (x::X.drop (k+1)) s):=a7;have D:Hid _:=b8;have b5:=hid7 c2;have x0:=aA0 (j:=0) c2 rfl;have i9:w.heap.size<=wc.heap.size:=b8.out.size;clear b8 c2 a7 n HX;go_wp2_with fail;have hcut:=pI1 base C vb s.L x (min s.q x.qty) wc D.out.book o7 o7 a2.out.ok (a2.out.here x (aK ..)) ⟨a0.1,a0.2.1⟩;have b1:=D.out.spot.1;rw [b1,D.out.spot.2] at hcut;refine hcut.mono ?_;clear hcut;rintro e w7 ⟨rfl,a8,v7,e8,g0⟩;rw [<-b1] at a8;have b9:=D.out.cut p.out a8 e8 g0;have e6:DBox w7 xb x:=aF0 b5.out a8 (dQ0 b5.out D.out.book.box (fun e=>D.out.book.ty.1 e.symm));have g8:Hid _:=b9;have x7:=aA0 (j:=3) e6 rfl;have c5:w7.heap[w.heap.size]? = some (R #[U G o.id,U G o.side,U G o.kind,U G o.price,U G s.q] 92 (0,0)):=b9.box;have o7:=aA0 (j:=4) c5 rfl;have f7:=aB0 (j:=4) c5;have j0:xb≠w.heap.size:=by omega
         have q4:IntKind.i64.wrap (s.q - min s.q x.qty)=s.q - min s.q x.qty:=IntWalk.i64_in _ (by omega);clear a8 e8 g0 b9 e6 c5 D b5;go_wp2_with fail;have Y:=g8.out.left p.out (s.q - min s.q x.qty);generalize w7.setCell ⟨w.heap.size,4,none⟩ (U G (s.q - min s.q x.qty))=w8 at Y ⊢;have i0:=a2.out.one;refine (h0.out.tells Y.told Y.book x.price a3.out.1 a3.out.2.1).mono ?_;rintro e w9 ⟨rfl,g5,I,K,e9,g4,g1⟩;have g9:Hid (Mt w w9 base M g5 w.heap.size (w.heap.size+1) B (J (some ⟨g,0,none⟩) X.length xc) v7 (J F (s.fs.length+1) H) X o (iN0 o x s) O):=Y.tell I K e9 g4 g1;have b2:Hid (MOk (X.drop (k+1)) (iN0 o x s)):=a2.out.step o P;clear Y g4 g1 e9 I K;go_wp2_with fail;go_roundw
         case rel=>
          refine ⟨k+1,iN0 o x s,v7,g5,by go_num,a6,u.out,b2.out,aI (pI0 _ _ _) e5,?_,?_,g9.out⟩
          ·show (s.fs++[_]).length<=k+1;rw [aN,bD];omega
          ·show -9223372036854775808<=s.q - min s.q x.qty/\s.q - min s.q x.qty<=9223372036854775807;omega
         case measure=>simp [intOf];omega
  ·have i5:k=X.length:=o7;have d:wr.heap[w.heap.size]? = some (R #[U G o.id,U G o.side,U G o.kind,U G o.price,U G s.q] 92 (0,0)):=hM.box;have o0:=aA0 (j:=0) d rfl;have o1:=aA0 (j:=1) d rfl;have o2:=aA0 (j:=2) d rfl;have o3:=aA0 (j:=3) d rfl;have o4:=aA0 (j:=4) d rfl;have u:Hid (cC0 z o X ⟨[],l,o.qty,[]⟩=(s,false)):=by have:=N.out;rw [List.drop_eq_nil_of_le o7] at this;exact this.symm
   clear hM d;go_wp2_with fail;have c:=n.out.res;have z0:=aA0 (j:=0) c rfl;have z1:=aA0 (j:=1) c rfl;have z2:=aA0 (j:=2) c rfl;have z3:=aA0 (j:=3) c rfl;have z4:=aA0 (j:=4) c rfl;have f0:=aB0 (j:=0) c;have f1:=aB0 (j:=1) c;have f2:=aB0 (j:=2) c;have f3:=aB0 (j:=3) c;have f4:=aB0 (j:=4) c;have HE:Hid (cC0 z o (aR0 (3 - o.side) l) ⟨[],l,o.qty,[]⟩=(s,false)):=by show _=_;rw [V.out];exact u.out
   have b:=n.out.done p.out;unfold boxed bX0 DBox at b;have a:Hid _:=b;clear c b;go_region
   all_goals go_wp2_with fail
   all_goals generalize (((((wr.setCell ⟨w.heap.size+1,0,none⟩ (U G o.id)).setCell ⟨w.heap.size+1,1,none⟩ (U G o.side)).setCell ⟨w.heap.size+1,2,none⟩ (U G o.kind)).setCell ⟨w.heap.size+1,3,none⟩ (U G o.price)).setCell ⟨w.heap.size+1,4,none⟩ (U G s.q)).drew=wz at a ⊢
   all_goals have e0:=aA0 (j:=0) a.out.1 rfl
   all_goals have I:=aA0 (j:=1) a.out.1 rfl
   all_goals have K:=aA0 (j:=2) a.out.1 rfl
   all_goals have e3:=aA0 (j:=3) a.out.1 rfl
   all_goals have e4:=aA0 (j:=4) a.out.1 rfl
   all_goals refine bodyPost_ret (by simp [results,results96,go_sem,e0,I,K,e3,e4];try rfl) rfl ?_
   all_goals exact oH0 HE.out a.out.2
def nV (l:List Int):List Value:=l.map (Value.int .i64)
def mkV (vt:Value) (m:Mkt) (vb vp vi:Value):Array Value:=#[vt,U G m.st,U G m.dy,U G m.an,U G m.la,U G m.ti,U G m.mo,vb,vp,vi,U G m.ph,U G m.now,U G m.en,U G m.lo]
structure MkIs (w:World) (F:Nat->Prop) (base mb bt ct:Nat) (m:Mkt) (vb vp vi:Value):Prop where
 box:w.heap[mb]? = some (R (mkV (J (some ⟨bt,0,none⟩) m.rs.length ct) m vb vp vi) 103 (0,0))
 tab:cV0 w bt 0 m.rs
 tne:bt≠mb
 bk:w.ownsRow base 92 5 vb m.L.length (oV m.L)
 pk:w.ownsRow base 92 5 vp m.P.length (oV m.P)
 ids:w.ownsRow base 3 1 vi m.I.length (nV m.I)
 lim:∀j,F j->j<w.heap.size
 farb:∀j,vb.ownBlock=some j->¬F j
 farp:∀j,vp.ownBlock=some j->¬F j
 fari:∀j,vi.ownBlock=some j->¬F j
def spM (F:Nat->Prop) (mb bt ct:Nat) (m:Mkt) (vb vp vi:Value):Spot:=⟨mb,7,103,mkV (J (some ⟨bt,0,none⟩) m.rs.length ct) m vb vp vi,F⟩
theorem eG0 {S:Nat->Prop} {b a:Nat} (h:cV0 w b a rs) (g:Out S w w') (d:¬S b):cV0 w' b a rs:=fun j u f=>by
 have h1:=h j u f;have c:b<w.heap.size:=World.block_lt_of_cell? w _ h1;have e:=g.block b c d;rw [<-h1];simp only [World.cell?,e]
section
variable {w w':World} {F:Nat->Prop} {base mb bt ct:Nat} {m m':Mkt} {vb vp vi v':Value} {L' P':List Ord} {S:Nat->Prop}
theorem MkIs.below (h:MkIs w F base mb bt ct m vb vp vi) (a:Below w.heap.size w w'):MkIs w' F base mb bt ct m vb vp vi:=
 ⟨aE0 h.box a lR7,h.tab.below a lR7,h.tne,aU0 h.bk a lR7,aU0 h.pk a lR7,aU0 h.ids a lR7,fun j b=>aT (h.lim j b) a.size,h.farb,h.farp,h.fari⟩
theorem MkIs.book (h:MkIs w F base mb bt ct m vb vp vi):BookIs w base (spM F mb bt ct m vb vp vi) vb m.L:=⟨by show 7<14;decide,⟨by show (103:TypeId)≠92;decide,by show (103:TypeId)≠146;decide⟩,h.box,h.bk,h.lim,h.farb⟩
theorem MkIs.ofBook (h:MkIs w F base mb bt ct m vb vp vi) (a:BookIs w' base (spM F mb bt ct m vb vp vi) v' L') (b:Out (fun j=>j=mb) w w'):MkIs w' F base mb bt ct { m with L:=L' } v' vp vi:=
 ⟨a.box,eG0 h.tab b h.tne,h.tne,a.all,aK0 h.pk b (fun k hk e=>aH0 h.pk h.box d7 (hk.trans (congrArg some e))),aK0 h.ids b (fun k hk e=>aH0 h.ids h.box d7 (hk.trans (congrArg some e))),a.lim,a.far,h.farp,h.fari⟩
theorem MkIs.write (h:MkIs w F base mb bt ct m vb vp vi) {j:Nat} {u:Value} (g:(mkV (J (some ⟨bt,0,none⟩) m.rs.length ct) m vb vp vi).setIfInBounds j u=mkV (J (some ⟨bt,0,none⟩) m'.rs.length ct) m' vb vp vi) (h1:m'.rs=m.rs) (c:m'.L=m.L) (d:m'.P=m.P) (f:m'.I=m.I):
  MkIs (w.setCell ⟨mb,j,none⟩ u) F base mb bt ct m' vb vp vi:=by
 have a:=aM0 w ⟨mb,j,none⟩ u;have b:=aJ0 (j:=j) u h.box;rw [g] at b;refine ⟨b,by rw [h1];exact eG0 h.tab a h.tne,h.tne,?_,?_,?_,fun j i=>aT (h.lim j i) a.size,h.farb,h.farp,h.fari⟩
 ·rw [c];exact aK0 h.bk a (fun k hk e=>aH0 h.bk h.box d7 (hk.trans (congrArg some e)))
 ·rw [d];exact aK0 h.pk a (fun k hk e=>aH0 h.pk h.box d7 (hk.trans (congrArg some e)))
 ·rw [f];exact aK0 h.ids a (fun k hk e=>aH0 h.ids h.box d7 (hk.trans (congrArg some e)))
theorem MkIs.drew (h:MkIs w F base mb bt ct m vb vp vi):MkIs w.drew F base mb bt ct m vb vp vi:=h.below (aF _ _).drew
end
theorem fB2 (F:Nat->Prop) (base mb f g:Nat) (m:Mkt) (i l k:Value) (w:World) (h:MkIs w F base mb f g m i l k):
  Calls prog 56 #[E (some ⟨mb,0,none⟩)] w fun e w'=>e=Y (U G (kQ0 m))/\MkIs w' F base mb f g (fY0 m) i l k/\Out (fun j=>j=mb) w w':=by
 have n:w.cell? ⟨mb,10,none⟩=some (U G m.ph):=aA0 (j:=10) h.box rfl;have q:=aB0 (j:=10) h.box;have H:=hid7 h;clear h
 by_cases b:m.ph=6
 ·have o:=beq_iff_eq.2 b;have a:Hid (kQ0 m=6/\fY0 m=m):=⟨by unfold kQ0;rw [aB (aH b)],by unfold fY0;rw [aB (aH b)]⟩;clear b;go_enter func56,ntmps56;go_wp2_with fail;go_ret;exact ⟨by rw [a.out.1];rfl,by rw [a.out.2];exact H.out,bL _ _⟩
 ·have o:=aC.2 b
  by_cases c:m.ph=7
  ·have p:=beq_iff_eq.2 c;have a:Hid (kQ0 m=6/\fY0 m=m):=⟨by unfold kQ0;rw [aB (aG c)],by unfold fY0;rw [aB (aG c)]⟩;clear b c;go_enter func56,ntmps56;go_wp2_with fail;go_ret;exact ⟨by rw [a.out.1];rfl,by rw [a.out.2];exact H.out,bL _ _⟩
  ·have p:=aC.2 c;have d:¬(m.ph=6\/m.ph=7):=fun e=>e.elim b c
   have a:Hid (kQ0 m=0/\fY0 m={ m with ph:=6 }):=⟨by unfold kQ0;rw [aA d],by unfold fY0;rw [aA d]⟩;clear b c d;go_enter func56,ntmps56;go_wp2_with fail;go_ret;exact ⟨by rw [a.out.1];rfl,by rw [a.out.2];exact H.out.write (j:=10) (m':={ m with ph:=6 }) rfl rfl rfl rfl rfl,aM0 w ⟨mb,10,none⟩ (U G 6)⟩
theorem vR0 (F:Nat->Prop) (base mb a b:Nat) (m:Mkt) (c f d:Value) (w:World) (h:MkIs w F base mb a b m c f d) (r:0<=m.now/\m.now<=1000000000000) (s:0<=m.ti/\m.ti<=1000000000000):
  Calls prog 99 #[E (some ⟨mb,0,none⟩)] w fun e w'=>e=Y (.tuple #[])/\MkIs w' F base mb a b (volM m) c f d/\Out (fun j=>j=mb) w w':=by
 have q:w.cell? ⟨mb,5,none⟩=some (U G m.ti):=aA0 (j:=5) h.box rfl;have g:w.cell? ⟨mb,10,none⟩=some (U G m.ph):=aA0 (j:=10) h.box rfl;have i:w.cell? ⟨mb,11,none⟩=some (U G m.now):=aA0 (j:=11) h.box rfl;have k:w.cell? ⟨mb,12,none⟩=some (U G m.en):=aA0 (j:=12) h.box rfl;have l:w.cell? ⟨mb,13,none⟩=some (U G m.lo):=aA0 (j:=13) h.box rfl;have n:=aB0 (j:=10) h.box;have o:=aB0 (j:=12) h.box;have p:=aB0 (j:=13) h.box;have H:=hid7 h;have wr:IntKind.i64.wrap (m.now+m.ti)=m.now+m.ti:=IntWalk.i64_in _ o7;clear h;go_enter func99,ntmps99;go_region
 all_goals go_wp2_with fail
 all_goals refine bodyPost_end (results_none rfl _ _ _) rfl ?_
 all_goals refine ⟨rfl,(((H.out.write (j:=10) (u:=U G 4) (m':={ m with ph:=4 }) rfl rfl rfl rfl rfl).write (j:=12) (u:=U G (m.now+m.ti)) (m':={ m with ph:=4,en:=m.now+m.ti }) rfl rfl rfl rfl rfl).write (j:=13) (u:=U G 0) (m':=volM m) rfl rfl rfl rfl rfl).drew,?_⟩
 all_goals exact aW0 ((((aM0 w ⟨mb,10,none⟩ _)).trans (aM0 _ ⟨mb,12,none⟩ _) (Went.refl _ _)).trans (aM0 _ ⟨mb,13,none⟩ _) (Went.refl _ _))
def qAgg (q:Quo):Value:=.agg #[U G q.price,U G q.qty,U G q.sur]
theorem eL1 (F:Nat->Prop) (base mb Q S:Nat) (m:Mkt) (vb vp vi:Value) (w:World) (h:MkIs w F base mb Q S m vb vp vi) (hL:m.L.length<=100) (r:LOk m.L) (T:1<=m.la/\m.la<=1000000):
  Calls prog 104 #[E (some ⟨mb,0,none⟩)] w fun e w'=>e=Y (qAgg (aI0 m))/\Below w.heap.size w w':=by
 obtain ⟨I,P,W,q⟩:=dS0.of_row h.bk;subst W;have u:=hid7 q;have H:=hid7 h;have B:Hid (∀x∈aS0 m.L m.la,x.Small):=sE0 o7 (fun o V=>by have:=r.ok o V;omega) o7;have M:(aS0 m.L m.la).length<=1000:=by have:=zI0 m.L m.la;omega
 have C:Hid (∀w',Below w.heap.size w w'->w'.cell? ⟨mb,7,none⟩=some (J I m.L.length P)/\w'.cell? ⟨mb,4,none⟩=some (U G m.la)/\Below w.heap.size w w'):=fun w' K=>⟨aA0 (j:=7) (h.below K).box rfl,aA0 (j:=4) (h.below K).box rfl,K⟩
 have D:Hid (aI0 m=aO0 (aS0 m.L m.la) m.la):=rfl;clear h q r;go_enter func104,ntmps104;go_upto_region 1 with fail;have f:=bel1 w (R #[U G 0,U G 0,U G 0] 107);have g:=heap_alloc_new w (R #[U G 0,U G 0,U G 0] 107);generalize w.alloc (R #[U G 0,U G 0,U G 0] 107)=w1 at f g ⊢;have i:=hid7 f;have y:=hid7 g;clear f g
 go_region_held3 (fun w'=>w'.cell? ⟨mb,7,none⟩=some (J I m.L.length P)/\w'.cell? ⟨mb,4,none⟩=some (U G m.la)/\Below w.heap.size w w')
  ((refine C.out _ ?_;(repeat' first | exact l.out | exact k.out | exact i.out | assumption | exact lR7 | refine Below.setCell ?_ ?_ _ | refine aV ?_)))
  (first | (go_at_call 155;refine (aV2 I _ m.L m.la _ (u.out.below ?_) o7).mono ?_;(go_split_ands;assumption);rintro e N ⟨v5,rfl,c,b⟩;obtain ⟨O,cp,rfl,s⟩:=kL0.of_row c;have v:Hid (kL0 N O (aS0 m.L m.la)):=s;have z:Hid (N.heap[w.heap.size]? = some (R #[U G 0,U G 0,U G 0] 107 (0,0))):=aE0 (w:=w1.drew) y.out b lR7;have k:Hid (Below w.heap.size w N):=aD0 (w1:=w1.drew) i.out.drew b;clear c s) | (go_at_call 154;refine (uV1 O _ (aS0 m.L m.la) m.la _ (v.out.below ?_) M B.out o7 o7).mono ?_;((repeat' first | assumption | exact aF _ _ | exact lR7 | refine aV ?_ | refine Below.alloc ?_ ?_ _ | (simp;done) | (simp;omega)));rintro e t ⟨rfl,b⟩;have a:t.heap[w.heap.size]? = some (R #[U G 0,U G 0,U G 0] 107 (0,0)):=aE0 z.out b lR7;have l:Hid (Below w.heap.size w t):=aD0 k.out b;have z0:=aA0 (j:=0) a rfl;have z1:=aA0 (j:=1) a rfl;have z2:=aA0 (j:=2) a rfl;have y0:=aB0 (j:=0) a;have y1:=aB0 (j:=1) a;have y2:=aB0 (j:=2) a;have A:Hid _:=a;clear a))
 have d:=aJ0 (j:=2) (U G (aO0 (aS0 m.L m.la) m.la).sur) (aJ0 (j:=1) (U G (aO0 (aS0 m.L m.la) m.la).qty) (aJ0 (j:=0) (U G (aO0 (aS0 m.L m.la) m.la).price) A.out));have n:Hid (Below w.heap.size w (((t.setCell ⟨w.heap.size,0,none⟩ (U G (aO0 (aS0 m.L m.la) m.la).price)).setCell ⟨w.heap.size,1,none⟩ (U G (aO0 (aS0 m.L m.la) m.la).qty)).setCell ⟨w.heap.size,2,none⟩ (U G (aO0 (aS0 m.L m.la) m.la).sur))):=((l.out.setCell (p:=⟨w.heap.size,0,none⟩) lR7 _).setCell (p:=⟨w.heap.size,1,none⟩) lR7 _).setCell (p:=⟨w.heap.size,2,none⟩) lR7 _;clear z0 z1 z2 y0 y1 y2;generalize (((t.setCell ⟨w.heap.size,0,none⟩ (U G (aO0 (aS0 m.L m.la) m.la).price)).setCell ⟨w.heap.size,1,none⟩ (U G (aO0 (aS0 m.L m.la) m.la).qty)).setCell ⟨w.heap.size,2,none⟩ (U G (aO0 (aS0 m.L m.la) m.la).sur))=w7 at d n ⊢;have X:w7.cell? ⟨w.heap.size,0,none⟩=some (U G (aO0 (aS0 m.L m.la) m.la).price):=aA0 (j:=0) d rfl;have Z:w7.cell? ⟨w.heap.size,1,none⟩=some (U G (aO0 (aS0 m.L m.la) m.la).qty):=aA0 (j:=1) d rfl;have q2:w7.cell? ⟨w.heap.size,2,none⟩=some (U G (aO0 (aS0 m.L m.la) m.la).sur):=aA0 (j:=2) d rfl;go_wp2_with fail;refine bodyPost_ret (by simp [results,results104,go_sem,X,Z,q2];try rfl) rfl ?_;exact ⟨by rw [D.out];rfl,n.out⟩
theorem bD2 (F:Nat->Prop) (base mb M N:Nat) (m:Mkt) (O Q P:Value) (w:World) (h:MkIs w F base mb M N m O Q P) (T:m.L.length<=100) (r:LOk m.L) (v:1<=m.la/\m.la<=1000000):
  Calls prog 59 #[E (some ⟨mb,0,none⟩)] w fun e w'=>e=Y (qAgg (cW0 m))/\Below w.heap.size w w':=by
 have H:=hid7 h;have S:=hid7 r;have d:=bel1 w (R #[U G 0,U G 0,U G 0] 107);have k:=heap_alloc_new w (R #[U G 0,U G 0,U G 0] 107);have f:=h.below d;clear h r;go_enter func59,ntmps59;go_upto_region 1 with fail;generalize w.alloc (R #[U G 0,U G 0,U G 0] 107)=w1 at d k f ⊢;have q:w1.cell? ⟨mb,10,none⟩=some (U G m.ph):=aA0 (j:=10) f.box rfl;have n:=hid7 d;have b:=hid7 k;have t:Hid _:=f;clear d k f;go_wp2_with fail;refine (eJ1 m.ph w1).mono ?_;rintro e A ⟨rfl,V⟩;subst V;cases ha:iA0 m.ph with
 | false=>
  have s:Hid (cW0 m=⟨0,0,0⟩):=by show _=_;unfold cW0;rw [ha,aA d7]
  have I:=aA0 (j:=0) b.out rfl;have J:=aA0 (j:=1) b.out rfl;have K:=aA0 (j:=2) b.out rfl;have B:=aB0 (j:=0) b.out;have C:=aB0 (j:=1) b.out;have D:=aB0 (j:=2) b.out;clear q;go_wp2_with fail;have a:=aJ0 (j:=2) (U G 0) (aJ0 (j:=1) (U G 0) (aJ0 (j:=0) (U G 0) b.out));have c:Hid (Below w.heap.size w (((A.setCell ⟨w.heap.size,0,none⟩ (U G 0)).setCell ⟨w.heap.size,1,none⟩ (U G 0)).setCell ⟨w.heap.size,2,none⟩ (U G 0))):=((n.out.setCell (p:=⟨w.heap.size,0,none⟩) lR7 _).setCell (p:=⟨w.heap.size,1,none⟩) lR7 _).setCell (p:=⟨w.heap.size,2,none⟩) lR7 _;clear I J K B C D;generalize ((A.setCell ⟨w.heap.size,0,none⟩ (U G 0)).setCell ⟨w.heap.size,1,none⟩ (U G 0)).setCell ⟨w.heap.size,2,none⟩ (U G 0)=l at a c ⊢;have x:l.cell? ⟨w.heap.size,0,none⟩=some (U G 0):=aA0 (j:=0) a rfl;have y:l.cell? ⟨w.heap.size,1,none⟩=some (U G 0):=aA0 (j:=1) a rfl;have z:l.cell? ⟨w.heap.size,2,none⟩=some (U G 0):=aA0 (j:=2) a rfl;refine bodyPost_ret (by simp [results,results59,go_sem,x,y,z];try rfl) rfl ?_;exact ⟨by rw [s.out];rfl,c.out⟩
 | true=>
  have s:Hid (cW0 m=aI0 m):=by show _=_;unfold cW0;rw [ha,aB rfl]
  clear q;go_wp2_with fail;refine (eL1 F base mb M N m O Q P A t.out T S.out v).mono ?_;rintro e l ⟨rfl,i⟩;unfold qAgg;have a:=aE0 b.out i lR7;have u:Hid _:=a;have c:=hid7 (aD0 n.out i);have I:=aA0 (j:=0) a rfl;have J:=aA0 (j:=1) a rfl;have K:=aA0 (j:=2) a rfl;have B:=aB0 (j:=0) a;have C:=aB0 (j:=1) a;have D:=aB0 (j:=2) a;generalize aI0 m=qq at s ⊢;clear i a;go_wp2_with fail;have g:=aJ0 (j:=2) (U G qq.sur) (aJ0 (j:=1) (U G qq.qty) (aJ0 (j:=0) (U G qq.price) u.out));have o:Hid (Below w.heap.size w (((l.setCell ⟨w.heap.size,0,none⟩ (U G qq.price)).setCell ⟨w.heap.size,1,none⟩ (U G qq.qty)).setCell ⟨w.heap.size,2,none⟩ (U G qq.sur))):=((c.out.setCell (p:=⟨w.heap.size,0,none⟩) lR7 _).setCell (p:=⟨w.heap.size,1,none⟩) lR7 _).setCell (p:=⟨w.heap.size,2,none⟩) lR7 _;clear I J K B C D;generalize ((l.setCell ⟨w.heap.size,0,none⟩ (U G qq.price)).setCell ⟨w.heap.size,1,none⟩ (U G qq.qty)).setCell ⟨w.heap.size,2,none⟩ (U G qq.sur)=w4 at g o ⊢;have x:w4.cell? ⟨w.heap.size,0,none⟩=some (U G qq.price):=aA0 (j:=0) g rfl;have y:w4.cell? ⟨w.heap.size,1,none⟩=some (U G qq.qty):=aA0 (j:=1) g rfl;have z:w4.cell? ⟨w.heap.size,2,none⟩=some (U G qq.sur):=aA0 (j:=2) g rfl;refine bodyPost_ret (by simp [results,results59,go_sem,x,y,z];try rfl) rfl ?_;exact ⟨by rw [s.out];rfl,o.out⟩
theorem vK1 {o:Ord} (h:L.length<=100):(addL o L).length<=100:=by
 unfold addL;split
 ·rename_i e;unfold addN at e;split at e
  ·omega
  ·split at e
   ·omega
   ·split at e
    ·omega
    ·split at e
     ·omega
     ·rw [aN,bD];omega
 ·exact h
theorem hC1:∀(P L:List Ord),L.length<=100->(P.foldl (fun L o=>addL o L) L).length<=100
 | [],_,h=>h
 | _::P,_,h=>hC1 P _ (vK1 h)
theorem pJ1 {P:List Ord} (L:List Ord) (h:k<P.length):(P.take (k+1)).foldl (fun L o=>addL o L) L=addL (oAt P k) ((P.take k).foldl (fun L o=>addL o L) L):=by
 rw [aM h,List.foldl_append,eJ0 h];rfl
theorem MkIs.parks {w:World} {F:Nat->Prop} {base mb b c:Nat} {m:Mkt} {f l vi v':Value} {P':List Ord} (h:MkIs w F base mb b c m f l vi) (d:w.ownsRow base 92 5 v' P'.length (oV P')) (g:∀j,v'.ownBlock=some j->¬F j):MkIs (w.setCell ⟨mb,8,none⟩ v') F base mb b c { m with P:=P' } f v' vi:=by
 have a:=aM0 w ⟨mb,8,none⟩ v';exact ⟨aJ0 (j:=8) v' h.box,eG0 h.tab a h.tne,h.tne,aK0 h.bk a (fun k hk e=>aH0 h.bk h.box d7 (hk.trans (congrArg some e))),aK0 d a (fun k hk e=>aH0 d h.box d7 (hk.trans (congrArg some e))),aK0 h.ids a (fun k hk e=>aH0 h.ids h.box d7 (hk.trans (congrArg some e))),fun j i=>aT (h.lim j i) a.size,h.farb,g,h.fari⟩
theorem lJ0 {p:Array Oper} {K:Act->World->Prop} {E:Prop}
  (G:o.guard=none) (s x:Operand) (t:TypeId) (A:o.op=Op.call { callee:=Callee.builtin Builtin.append,args:=#[s,x],argTypes:=#[t,t] })
  (base:Nat) (e:TypeId) (i:TypeInfo) (z:Value) (b bytes:Nat) (J:P.underlying t=some (.slice e)) (hi:P.info? e=some i) (N:i.zero=some z)
  (k:i.size=b) (y:i.bytes=bytes) (C:z.cells.size=b) (B:0<b)
  (v:Value) (n:Nat) (xs:List Value) (I:a.eval s=v) (l:w.ownsRow base e b v n xs)
  (q:Addr) (m c:Nat) (news:List Value) (M:a.eval x=.slice (some q) m c) (H:news.length=m*b) (g:∀j u,news[j]? = some u->w.cell? (q.add j)=some u) (h1:∀u∈news,u.oneCell'=true)
  (r:n+m<=maxLen) (d:(n+m)*bytes<=140737488355328) (f:base<=w.heap.size)
  (h:∀v' w',w'.ownsRow base e b v' (n+m) (xs++news)->w.grownBy w' v.ownBlock->K (a.put o.dst v') w'):
  if Region.wanted o (yielded p a.tmps)=true then Oper.wp P o a w K Q else E:=by
 have L:Region.wanted o (yielded p a.tmps)=true:=by simp [Region.wanted,G]
 rw [aB L];exact wp_append_own w s x t A base e i z b bytes J hi N k y C B v n xs I l q m c news M H g h1 r d f (fun v' w' D F _=>h v' w' D F)
theorem eM1 (a b:List (Int×Int)):flat (a++b)=flat a++flat b:=by
 induction a with
 | nil=>rfl
 | cons r a ih=>simp [flat,ih]
theorem bG1 (h:k<rs.length):flat (rs.take k)++[U G (bZ0 rs k).1,U G (bZ0 rs k).2]=flat (rs.take (k+1)):=by
 rw [aM h,eM1];simp [flat,bZ0,h]
theorem xS0 {e:TypeId} {a:Nat} {xs:List Value} (h:w.ownsRow base e a v n xs):∀k,v.ownBlock=some k->base<=k:=by
 intro k hk;obtain ⟨_,⟨rfl,_⟩ | ⟨g,c,b,rfl,d,_⟩⟩:=h
 ·cases hk
 ·cases hk;exact d
theorem bH1 {e:TypeId} (h:w.ownsRow base e 2 v n (flat rs)) (l:0<n):∃cb c:Nat,v=J (some ⟨cb,0,none⟩) n c/\cV0 w cb 0 rs:=by
 obtain ⟨_,⟨_,h0⟩ | ⟨g,c,a,rfl,_,k,_,_,_,d⟩⟩:=h
 ·omega
 ·refine ⟨g,c,rfl,fun j u b=>?_⟩
  have f:a.toList[j]? = some u:=by
   rw [<-d,List.getElem?_take] at b;split at b
   ·exact b
   ·cases b
  have i:a[j]? = some u:=by rw [<-f];simp
  simp [World.cell?,k,i]
end
end Go.Proofs.YtaelphbianmckaaGreatDoor
