/- ManyWorkers -/
import Derived.Test.YtpodibeogglplaaGreatDoorVL
open Array renaming map_congr_left->Tw, getElem?_eq_none->Te, getElem?_eq_some_iff->Sb, getElem?_eq_getElem->Tf, getElem?_setIfInBounds_ne->Sg, getElem?_setIfInBounds->WI, getElem?_push->VT, ext_getElem?->Vg, getElem?_modify->Zl, map_id'->XT
open Bool renaming true->G_, false->E_, and_eq_true->SV, false_eq_true->SE, not_true->Va
open Classical renaming byContradiction->SL
open Except renaming bind->VI
open Go renaming Frame->I_, World->C_, Event->K_, Value->D_, Addr->J_, TypeId->RZ, doReturn->Yy, Question->UD
open Go.Call renaming operands->Zi
open Go.Instr renaming endRound->Xv, enterLoop->Yp, deferInRound->YV, takeDeferred->YW
open Go.Rn.dM renaming after->WR
open Go.Sem renaming runT->Tm
open Go.World renaming cell?->SS, frozen?->WH, freeze->VY, farLoad->Zk, viewStore->Wt, farStore->Wp
open Go.stepG renaming apply->ZF
open List renaming map_cons->RY, all_eq_true->VF, map_nil->TV, map_congr_left->SF, map_map->Vs, foldlM_cons->YI, mem_map->Ti
open Nat renaming le_refl->RQ, le_trans->RV, le_succ->Uk
open Option renaming none->B_, map_some->Si, map_none->XH, some->A_
set_option linter.all false
set_option maxHeartbeats 1000000
namespace Go.Rn
variable {P:Program} {L:dW} {fr:I_} {Q:C_->C_->Prop} {Γ:C_->Prop} {cs C:List I_} {w W:C_} {y:GStep} {K:C_->(C_->Prop)->Prop} {fr':I_} {es:Array K_} {main:Bool} {v:D_} {c:Call} {n N m d d0 D0:Nat} {W0:C_} {b:Nat} {o:Obj} {r:Nat} {α:Type} {w1:C_} {a:J_} {u:RZ} {x:Bool} {t:List J_} {mo:Mode} {k:Sem α} {s:Bool} {β:Nat->Nat}
def Gp{π:Ren}(F:Fit P L π)(h:frame (mover L) fr=fr):(frame π fr).fn=fr.fn:=F.f (rV h)
def aWr{π:Ren}(fr:I_):(frame π fr).kind=fr.kind:=rfl
def Pg{π:Ren}(fr:I_):(frame π fr).todo=fr.todo.map (item π):=rfl
def zM{π:Ren}(b:Bool)(es:Array K_):(if b=G_ then #[]else evs π es)=evs π (if b=G_ then #[]else es):=by cases b<;>simp[evs]
def aPl{π:Ren}(F:Fit P L π)(fr:I_)(d:Deferred)(h:∀x∈fr.todo,wX L x=G_):frame π (({ fr with defers:=d::fr.defers }:I_).finish undef)=({ frame π fr with defers:=deferred π d::(frame π fr).defers }:I_).finish undef:=by
 have:=Dq F { fr with defers:=d::fr.defers } undef h;rw[Cr]at this;rw[this];rfl
def CQ{π:Ren}(F:Fit P L π)(G:rJ P L){s s':Sem Next}(z:∀f∈C,∀l k,f.todo≠.inRangeFunc l::k)(N:qJ L fr cs)(i:xM Γ π Q (nH π) (s.runT P w #[]) (s'.runT P W #[])):dM P Γ π C Q (ZF P G_ fr cs B_ s w) (ZF P G_ (frame π fr) (cs.map (frame π)++C) B_ s' W):=by
 have hi:=LH N.top;have j:=Gp F N.top;have hk:=aWr (π:=π) fr;have c:=λv=>Dq F fr v hi
 unfold ZF;rw[j,hk];simp only[if_true];generalize s.runT P w #[]=x at i⊢;generalize s'.runT P W #[]=y at i⊢;obtain⟨r,es⟩:=x;cases r with
 |halt h w1=>
  cases h with
  |panic v=>
   by_cases n:Γ w1
   ·rcases i n with p|⟨W1,rfl,e⟩
    ·exact tH p
    rw[zM,kS];exact WR (jA (λ_=>e) (by simp[comp,IV,nN])) _
   ·exact uw n
  |throw m=>exact uy (Over.after (aGd _ _ _ _ _) _)
  |stuck m=>exact uy trivial
  |unsupported u=>
   cases u<;>first|(cases i;done)|(exact uy trivial)
  |_=>cases i
 |ok a w1=>
  by_cases n:Γ w1
  rotate_left 1
  ·refine uw ?_;rw[zQ];cases a<;>simp only<;>repeat'(first|exact n|split)
  rcases i n with p|⟨b,W1,rfl,A,e⟩
  ·exact tH p
  replace e:Γ w1->Q w1 W1:=λ_=>e
  cases A with
  |value v=>
   rw[zM,kS];exact WR (jA e (by simp[comp,c])) _
  |skip=>
   rw[zM,kS];exact WR (jA e (by simp[comp,c,Cr])) _
  |enter f args hf=>
   rw[zM,kS];refine WR (jA e ?_) _;simp only[comp,RY,List.cons_append,Dn F G ((F.fs f).1 hf),Goroutine.mk.injEq,and_true]
   congr 1
   rw[Pg];cases ht:fr.todo with
   |nil=>rfl
   |cons x k=>
    cases x with
    |inRegion ops l=>rw[RY,zV (l:=l) F (hi (.inRegion ops l) (by rw[ht];simp))]
    |call d b r sv=>cases hi (.call d b r sv) (by rw[ht];simp)
    |extern r a=>cases hi (.extern r a) (by rw[ht];simp)
    |_=>rfl
  |round l f tmps a b=>
   simp only;rw[zM,kS];exact WR (jA e (by simp[comp,aHk])) _
  |defer d=>
   simp only;rw[zM,kS];exact WR (jA e (by simp only[comp];rw[aPl F fr d hi];simp only[j,hk])) _
  |recover=>
   simp only;rw[zM,kS];refine WR ?_ _;have h1:=Pj (π:=π) C cs fr N.last;have h2:=λl=>bHs F.ok C z cs l (λq=>by have:=N.last;rwa[List.getLast_cons q]at this)
   have t:(frame π fr).roundOf=fr.roundOf.map π.b:=rfl;rw[t]
   have g:∀(o:Option (D_×List I_)) (o':Option (D_×List I_)),o'=o.map (λx=>(val π x.1,x.2.map (frame π)++C))->dM P Γ π C Q
     (match o with|some (v,callers)=>.go { frame:=fr.finish v,callers,status:=.running,dying:=B_ } w1|none=>.go { frame:=fr.finish .nilIface,callers:=cs,status:=.running,dying:=B_ } w1)
     (match o' with|some (v,callers)=>.go { frame:=(frame π fr).finish v,callers,status:=.running,dying:=B_ } W1|none=>.go { frame:=(frame π fr).finish .nilIface,callers:=cs.map (frame π)++C,status:=.running,dying:=B_ } W1):=by
    rintro o _ rfl;cases o with
    |none=>exact jA e (by simp[comp,c])
    |some x=>exact jA e (by simp[comp,c])
   cases fr.roundOf with
   |none=>exact g _ _ h1
   |some l=>
    simp only[Si]
    by_cases hp:P.follows .rangeFuncRecover=G_
    ·simp only[hp,if_true];exact g _ _ h1
    ·simp only[hp];exact g _ _ (h2 l)
def aLr{s:Sem Next}(hk:Il (s.runT P w #[]).1):wQ (ZF P G_ fr cs B_ s w)=left (s.runT P w #[]).1:=by
 unfold ZF;simp only[if_true];generalize s.runT P w #[]=x at hk⊢;obtain⟨r,b⟩:=x;cases r with
 |ok a w1=>cases a<;>simp only<;>repeat'(first|rfl|(rw[zQ];rfl)|split)
 |halt hh w1=>
  cases hh with
  |unsupported u=>
   cases u<;>first|(cases hk;done)|rfl
  |throw m=>rfl
  |panic v=>rfl
  |stuck m=>rfl
  |_=>cases hk
def bF9{π:Ren}{b b':Bool}{x a c:GStep}(d:b'=b)(h1:dM P Γ π C Q x a)(h2:dM P Γ π C Q y c):dM P Γ π C Q (if b=G_ then x else y) (if b'=G_ then a else c):=by
 subst d;cases b'
 ·exact h2
 ·exact h1
def aNp{π:Ren}(F:Fit P L π)(G:rJ P L){d:Deferred}(N:qJ L fr cs)(g:vN π d.target)(j:xM Γ π Q (nH π) ((invoke d.target d.args).runT P w #[]) ((invoke (target π d.target) (vals π d.args)).runT P W #[])):dM P Γ π C Q (callDeferred P fr cs B_ d w) (callDeferred P (frame π fr) (cs.map (frame π)++C) B_ (deferred π d) W):=by
 have o:=Gp F N.top;have k:(deferred π d).target=target π d.target:=rfl;have n:(deferred π d).args=vals π d.args:=rfl;have p:(frame π fr).mode=mode π fr.mode:=rfl;unfold callDeferred;rw[k,n,o,p];refine bF9 ?_ Jl ?_
 ·have e1:(match target π d.target with| .nil=>G_|_=>E_)=(match d.target with| .nil=>G_|_=>E_):=by
   cases k:d.target with
   |builtin b ts t cs=>rw[k]at g;simp[target,g.2]
   |coroexit c=>rw[k]at g;exact g.elim
   |_=>simp[target]
  have e2:(match mode π fr.mode with| .panicking _=>G_|_=>E_)=(match fr.mode with| .panicking _=>G_|_=>E_):=by cases fr.mode<;>rfl
  exact congr (RJ and e1) e2
 ·skip
  generalize(invoke d.target d.args).runT P w #[]=x at j⊢;generalize(invoke (target π d.target) (vals π d.args)).runT P W #[]=y at j⊢;obtain⟨r,es⟩:=x;cases r with
  |halt h w1=>
   cases h with
   |panic v=>
    by_cases i:Γ w1
    ·rcases j i with g|⟨W1,rfl,e⟩
     ·exact tH g
     simp only;rw[kS];exact WR (jA (λ_=>e) (by simp[comp,IV,nN])) _
    ·exact uw i
   |throw m=>exact uy (Over.after (aGd _ _ _ _ _) _)
   |stuck m=>exact uy trivial
   |unsupported u=>exact uy trivial
   |_=>cases j
  |ok a w1=>
   by_cases i:Γ w1
   rotate_left 1
   ·refine uw ?_;rw[zQ];cases a with
    |coroswitch c x=>cases x<;>exact i
    |alone x v=>cases x<;>exact i
    |_=>(try simp only);repeat'(first|exact i|split)
   rcases j i with g|⟨b,W1,rfl,n,e⟩
   ·exact tH g
   replace e:Γ w1->Q w1 W1:=λ_=>e
   cases n with
   |value v=>simp only;rw[kS];exact WR (jA e rfl) _
   |skip=>simp only;rw[kS];exact WR (jA e rfl) _
   |defer d=>simp only;rw[kS];exact WR (jA e rfl) _
   |enter f args hf=>simp only;rw[kS];exact WR (jA e (by simp[comp,Dn F G ((F.fs f).1 hf)])) _
   |round l f tmps a b=>simp only;rw[kS];exact WR (jA e (by simp[comp,aHk])) _
   |recover=>
    simp only;rw[kS];refine WR ?_ _;have h1:=Pj (π:=π) C cs fr N.last;rw[h1];cases hmm:fr.mode<;>cases tryRecover fr cs<;>simp only[mode,Option.map]<;>exact jA e (by simp[comp])
def mq{π:Ren}(S:rO K Γ P π Q)(b:Q w W)(h:fr'=frame π fr):
  K w λw'=>dM P Γ π C Q (.go { frame:=fr,callers:=cs,status:=.running,dying:=B_ } w') (.go { frame:=fr',callers:=cs.map (frame π)++C,status:=.running,dying:=B_ } W):=
 S.mY.mono (S.id b) λw' a=>jA a (by simp[comp,h])
def zI{π:Ren}(S:rO K Γ P π Q){o:C_->Outcome}:K w λw'=>dM P Γ π C Q (.ended (o w') w' es) y:=S.mY.any λ_=>Jl
def Mv(cs:List I_)(h:fr'.kind=fr.kind):((fr'::cs).getLast s7).kind=((fr::cs).getLast s7).kind:=by
 cases cs with
 |nil=>exact h
 |cons c cs=>simp
def aAw:wQ (Yy P main fr cs B_ v w)=w:=by
 unfold Yy
 repeat'(first|rfl|split)
def Gf{π:Ren}(F:Fit P L π)(G:rJ P L)(S:rO K Γ P π Q){l:Nat}{j:Option Code}(N:qJ L fr cs)(k:Pl P L)(g:∀{σ:Ren},Fit P L σ->j.map σ.c=j)(d:Q w W)(p:C_->String)(s:String):
  K w λw'=>dM P Γ π C Q
   (GStep.after (seen P fr.fn ((Xv l j).runT P w' #[]).2) (match ((Xv l j).runT P w' #[]).1 with| .ok v w=>Yy P G_ fr cs B_ v w| .halt _ w=>.ended (.stuck "range over a function: no such loop" (p w')) w))
   (GStep.after (seen P fr.fn ((Xv (π.b l) j).runT P W #[]).2) (match ((Xv (π.b l) j).runT P W #[]).1 with| .ok v w=>Yy P main (frame π fr) (cs.map (frame π)++C) B_ v w| .halt _ w=>.ended (.stuck "range over a function: no such loop" s) w)):=by
 obtain⟨π0,i,m,q⟩:=k;refine S.mY.mono (S.one (aBm (l:=l) (g F)) (sJ m q (aBm (l:=l) (g i))) d) λw' e=>?_
 generalize(Xv l j).runT P w' #[]=x at e⊢;generalize(Xv (π.b l) j).runT P W #[]=y at e⊢;obtain⟨r,es⟩:=x;cases r with
 |halt h w1=>exact uy trivial
 |ok a w1=>
  by_cases f:Γ w1
  rotate_left 1
  ·refine uw ?_;rw[zQ,aAw];exact f
  rcases e f with o|⟨b,t,rfl,n,d⟩
  ·exact tH o
  subst n;rw[kS];exact WR (aAv G F N (λ_=>d)) _
def RB(q:UD)(w:C_):(choose q).run P w=((choose q).runT P w #[]).1:=by
 unfold choose;simp only[Sem.run,Tm];split<;>rfl
def aN2(q:UD)(w:C_):((choose q).runT P w #[]).2=#[]:=by
 unfold choose;simp only[Tm];split<;>rfl
def Lf{π:Ren}(F:Fit P L π)(h:frame (mover L) fr=fr){x:Operand}(c:yI L x=G_):∀g a cs,fr.eval x=.func g a cs->zi π g:=by
 intro g a cs e;cases x with
 |tmp t=>
  have:=aUq h t;have b:fr.tmps.getD t undef=.func g a cs:=e;rw[b,gM]at this;exact aCc F (by injection this)
 |const v=>
  have b:v=.func g a cs:=e;rw[b]at c;cases c
 |global g=>simp[Frame.eval]at e
 |func f=>
  simp only[Frame.eval,Value.func.injEq]at e;obtain⟨rfl,_⟩:=e;exact(F.fs f).2 c
def Nr{o:Oper}(h:nU L o=G_):∀x∈o.op.operands,yI L x=G_:=by
 unfold nU at h;rw[SV,VF]at h;exact λx a=>h.1 x (by simpa using a)
def KC{π:Ren}(F:Fit P L π)(h:frame (mover L) fr=fr)(a:aF0 L c.callee=G_)(ho:∀x∈c.operands,yI L x=G_):Cy π fr.eval c:=by
 unfold Cy;cases hcal:c.callee with
 |builtin b=>rw[hcal]at a;exact⟨a,F.bad b a⟩
 |invoke r n=>rw[hcal]at a;exact(F.ms n).2 a
 |value f=>exact Lf F h (ho f (by unfold Zi;rw[hcal];simp))
def bA2{π:Ren}(F:Fit P L π)(h:frame (mover L) fr=fr){o:Oper}(ho:nU L o=G_):Fj π fr.eval o:=by
 have e:=Nr ho;unfold nU at ho;rw[SV]at ho;have h2:=ho.2;unfold Fj;cases hop:o.op<;>rw[hop]at h2 e<;>dsimp only at h2⊢<;>first|trivial|(cases h2;done)|skip
 case nilCheck x=>exact Lf F h (e x (by simp[Op.operands]))
 case convert s d x=>exact λ_=>by simpa using h2
 case makeFunc g a b=>exact(bAw F h2).2
 case call c=>exact KC F h h2 e
 case defer c=>exact KC F h h2 e
def aZ1{o:Oper}(ho:nU L o=G_):∀cs b,o.op≠.select cs b:=by
 intro cs b e;unfold nU at ho;rw[e]at ho;simp at ho
def aBt{π:Ren}(F:Fit P L π)(h:frame (mover L) fr=fr){o:Oper}(ho:nU L o=G_):NR P π (execOp fr.eval o) (execOp (frame π fr).eval o):=by
 have:=aS7 F.ok F.ext (bA2 F h ho);rw[execOp_congr (aZ1 ho) λx a=>Br F (Nr ho x a)];exact this
def bDs{π:Ren}(F:Fit P L π)(h:frame (mover L) fr=fr){o:Oper}(ho:nU L o=G_)(b:o.op=.defer c){t:RZ}:aC P π (λd d'=>d'=deferred π d/\vN π d.target) (resolve fr.eval c t) (resolve (frame π fr).eval c t):=by
 have a:=Nr ho;unfold nU at ho;rw[SV]at ho;have h2:=ho.2;rw[b]at h2 a;have:=Og F.ok (t:=t) (KC F h h2 a)
 have e:resolve (frame π fr).eval c t=resolve (λx=>val π (fr.eval x)) c t:=by
  unfold resolve;have g:c.args.map (frame π fr).eval=c.args.map (λx=>val π (fr.eval x)):=Tw λx i=>Br F (a x (by show x∈c.operands;unfold Zi;exact Array.mem_append.2 (.inr i)))
  rw[g];cases hcal:c.callee<;>dsimp only
  ·next f=>rw[Br F (a f (by show f∈c.operands;unfold Zi;rw[hcal];simp))]
  ·next r n=>rw[Br F (a r (by show r∈c.operands;unfold Zi;rw[hcal];simp))]
 rw[e];exact this
def aS9{π:Ren}(F:Fit P L π)(G:rJ P L)(I:Pl P L)(S:rO K Γ P π Q)(J:∀f∈C,∀l k,f.todo≠.inRangeFunc l::k)(N:qJ L fr cs)(g:Q w W):
  K w λw'=>dM P Γ π C Q (stepG.exec P G_ G_ fr cs B_ w') (stepG.exec P main G_ (frame π fr) (cs.map (frame π)++C) B_ W):=by
 have hi:=LH N.top;have p:=Gp F N.top;have s:(frame π fr).roundOf=fr.roundOf.map π.b:=rfl;obtain⟨π0,H,B,E⟩:=id I;unfold stepG.exec;rw[Pg];cases z:fr.todo with
 |nil=>
  simp only[TV];rw[s];cases fr.roundOf with
  |none=>exact mq S g (by simp[frame,mode,z])
  |some l=>
   simp only[Si,p];exact Gf F G S N I (λ_=>rfl) g _ _
 |cons x k=>
  have m:=hi x (by rw[z];simp);have hk:∀y∈k,wX L y=G_:=λy hy=>hi y (by rw[z];simp[hy])
  cases x with
  |code c=>
   rw[RY,tT F m];cases c with
   |skip=>exact mq S g (by simp[frame])
   |label l=>exact mq S g (by simp[frame])
   |seq a b=>
    simp only[wX,fH,SV]at m;exact mq S g (by simp[frame,tT F m.1,tT F m.2])
   |block id c=>exact mq S g (by simp[frame,tT F (show fH L c=G_ from m)];simp[item])
   |loop c=>exact mq S g (by simp[frame,tT F (show fH L c=G_ from m),Mk F (show fH L c=G_ from m)])
   |scope c=>exact mq S g (by simp[frame,tT F (show fH L c=G_ from m),GY F (show fH L c=G_ from m)])
   |refuse y=>exact zI S
   |cond c a b=>
    simp only[wX,fH,SV]at m;simp only;rw[Br F m.1.1];cases fr.eval c with
    |bool q=>
     rw[iq];exact mq S g (by cases q<;>simp[frame,tT F m.1.2,tT F m.2])
    |_=>(first|rw[iq]|rw[gB]|rw[jP]|rw[jO]|rw[jB]|rw[dI]|rw[gD]|rw[gT]|rw[iY]|rw[gM]|rw[fM]|rw[fq]|rw[gN]|rw[jQ]|rw[iZ]);exact zI S
   |ret=>
    simp only;rw[s];cases fr.roundOf with
    |none=>exact mq S g (by simp[frame,mode,z,tT F m])
    |some l=>
     simp only[Si,p];exact Gf F G S N I (λF=>by simp[F.code .ret rfl]) g _ _
   |exit id=>
    simp only;rw[aTa];cases X:exitTo id k with
    |some k'=>exact mq S g (by simp[frame])
    |none=>
     simp only[XH,Option.elim];rw[s];cases fr.roundOf with
     |none=>exact zI S
     |some l=>
      simp only[Si,p];exact Gf F G S N I (λF=>by simp[F.code (.exit id) rfl]) g _ _
   |goto l=>
    simp only;rw[aU8 F l k hk];cases X:gotoIn l k with
    |some k'=>exact mq S g (by simp[frame])
    |none=>
     simp only[XH,Option.elim];rw[s];cases fr.roundOf with
     |none=>exact zI S
     |some l'=>
      simp only[Si,p];exact Gf F G S N I (λF=>by simp[F.code (.goto l) rfl]) g _ _
   |region id ops dr=>
    cases dr
    ·exact mq S g (by simp[frame,zV F (show ops.toList.all (nU L)=G_ from m)])
    ·simp only[p];refine S.mY.mono (S.one (mg (q:=.order fr.fn id)) (sJ B E (mg (q:=.order fr.fn id))) g) λw' n=>?_
     rw[RB,RB];have h1:=aN2 (P:=P) (.order fr.fn id) w';generalize(choose (.order fr.fn id)).runT P w' #[]=x at n h1⊢;generalize(choose (.order fr.fn id)).runT P W #[]=y at n⊢;obtain⟨r,es⟩:=x;cases r with
     |halt h w1=>exact Jl
     |ok a w1=>
      by_cases t:Γ w1
      rotate_left 1
      ·exact uw t
      rcases n t with u|⟨b,R,rfl,V,g⟩
      ·exact tH u
      subst V;exact jA (λ_=>g) (by simp[comp,frame,F.f (rV N.top),zV F (show ops.toList.all (nU L)=G_ from m)])
   |rangeFunc f ps a b=>
    simp only[wX,fH,SV]at m;simp only[p,s];have M:(frame π fr).tmps=vals π fr.tmps:=rfl;rw[M]
    have T:∀{σ:Ren} (F:Fit P L σ),aC P σ (λx O=>O=(σ.b x.1,x.2.map (deferred σ))/\∀d∈x.2,∃r,d=⟨.collected r,#[]⟩) (Yp fr.fn fr.tmps ps a b fr.roundOf) (Yp fr.fn (vals σ fr.tmps) ps a b (fr.roundOf.map σ.b)):=λF=>
     aSq (fn:=fr.fn) (tmps:=fr.tmps) (ps:=ps) (a:=a) (b:=b) (ar:=fr.roundOf) (F.f (rV N.top)) (F.code a m.1.2) (F.code b m.2)
    have U:∀{σ:Ren} (F:Fit P L σ) (x O:Nat×List Deferred),(O=(σ.b x.1,x.2.map (deferred σ))/\∀d∈x.2,∃r,d=⟨.collected r,#[]⟩)->
      aC P σ (nH σ) (resolve fr.eval { callee:=.value f,args:=#[.const (.func (.yield x.1) #[] #[])],argTypes:=#[] } 0 >>= λd=>invoke d.target d.args)
       (resolve (frame σ fr).eval { callee:=.value f,args:=#[.const (.func (.yield O.1) #[] #[])],argTypes:=#[] } 0 >>= λd=>invoke d.target d.args):=fun {σ} F x O hA=>by
     obtain⟨rfl,_⟩:=hA;have X:=Br F (fr:=fr) m.1.1;refine aC.bind' (A:=λd d'=>d'=deferred σ d/\vN σ d.target) ?_ λd d' e=>by obtain⟨rfl,z⟩:=e;exact GR F.ok F.ext z
     have:=aFz (P:=P) (args:=#[.func (.yield x.1) #[] #[]]) (Lf F N.top m.1.1);rw[Av,gM,qF]at this;unfold resolve;dsimp only;rw[X]
     simpa[Frame.eval,fn]using this
    refine S.mY.mono (S.two
     (T F) (U F) (bG8 B E (T H) (U H)) g) λw' n=>?_
    ·clear T U;generalize(Yp fr.fn fr.tmps ps a b fr.roundOf).runT P w' #[]=x at n⊢;generalize(Yp fr.fn (vals π fr.tmps) ps a b (fr.roundOf.map π.b)).runT P W #[]=y at n⊢;obtain⟨r,es⟩:=x;cases r with
     |halt h w1=>exact uy trivial
     |ok q w1=>
      obtain⟨l,mk⟩:=q
      by_cases t:Γ (left ((resolve fr.eval { callee:=.value f,args:=#[.const (.func (.yield l) #[] #[])],argTypes:=#[] } 0 >>= λd=>invoke d.target d.args).runT P w1 #[]).1)
      rotate_left 1
      ·refine uw λh'=>t ?_
       rw[zQ]at h';exact(RJ Γ (aLr n.1)).mp h'
      rcases n.2 t with u|⟨b',R,rfl,⟨rfl,Z⟩,a3⟩
      ·exact tH u
      rw[kS];refine WR ?_ _
      have N':qJ L { fr with todo:=.inRangeFunc l::k,defers:=mk++fr.defers } cs:=by
       refine⟨?_,N.low,(by rw[Mv cs];exact N.last;rfl)⟩;have h0:=N.top;have h1:fr.todo.map (item (mover L))=fr.todo:=RJ Frame.todo h0;have h2:fr.defers.map (deferred (mover L))=fr.defers:=RJ Frame.defers h0;rw[z,RY]at h1;injection h1 with _ h1
       have h3:mk.map (deferred (mover L))=mk:=by
        have:mk.map (deferred (mover L))=mk.map id:=SF λd u=>by obtain⟨r,rfl⟩:=Z d u;simp[deferred,target,mover]
        simpa using this
       have e1:=RJ Frame.fn h0;have e2:=RJ Frame.tmps h0;have e3:=RJ Frame.mode h0;have e4:=RJ Frame.roundOf h0;simp only[frame]at e1 e2 e3 e4⊢;rw[e1,e2,e3,e4,List.map_append,h2,h3,RY,h1];rfl
      have:=CQ F G J N' a3
      have e:frame π { fr with todo:=.inRangeFunc l::k,defers:=mk++fr.defers }={ frame π fr with todo:=.inRangeFunc (π.b l)::k.map (item π),defers:=mk.map (deferred π)++(frame π fr).defers }:=by
       simp[frame,item]
      rw[e]at this
      have Y:{ frame π fr with todo:=.inRangeFunc (π.b l)::k.map (item π),defers:=mk.map (deferred π)++(frame π fr).defers }=({ fn:=fr.fn,tmps:=vals π fr.tmps,todo:=.inRangeFunc (π.b l)::k.map (item π),defers:=mk.map (deferred π)++(frame π fr).defers,mode:=(frame π fr).mode,kind:=(frame π fr).kind,roundOf:=fr.roundOf.map π.b }:I_):=by
       simp only[p,s,M]
      rw[Y]at this;exact this
  |inBlock i=>exact mq S g (by simp[frame])
  |inLoop c=>
   rw[RY,Mk F m];exact mq S g (by simp[frame,tT F m,Mk F m])
  |inScope c=>
   rw[RY,GY F m];exact mq S g (by simp[frame])
  |inRegion ops l=>
   rw[RY,zV F m];cases l with
   |nil=>exact mq S g (by simp[frame])
   |cons i l=>
    simp only;have hy:yielded ops (frame π fr).tmps=yielded ops fr.tmps:=funext λj=>bI8 ops fr.tmps j
    rw[hy];cases hw:((ops[i]?).map (Region.wanted · (yielded ops fr.tmps))).getD E_
    ·simp only[SE,if_false];exact mq S g (by rw[Dq F fr undef hi,Cr])
    ·simp only[if_true];unfold stepG.oper;have a1:fr.oper? = ops[i]? :=by unfold Frame.oper?;rw[z]
     have a2:(frame π fr).oper? = ops[i]? :=by unfold Frame.oper?;rw[Pg,z,RY,zV F m]
     rw[a1,a2];cases hop:ops[i]? with
     |none=>exact zI S
     |some o=>
      have D:nU L o=G_:=by
       have:ops.toList.all (nU L)=G_:=m;rw[VF]at this;exact this o (by have:=Array.mem_of_getElem? hop;simpa using this)
      rw[s];have plain:=S.mY.mono (S.one (aBt F N.top D) (sJ B E (aBt H N.top D)) g) λw' n=>CQ F G J N n
      cases fr.roundOf with
      |none=>exact plain
      |some r=>
       simp only[Si];cases hoo:o.op with
       |defer c=>
        have hR:∀{σ:Ren} (_:Fit P L σ),NR P σ (do let d <-resolve fr.eval c o.type;YV r d;pure Next.skip) (do let d <-resolve (frame σ fr).eval c o.type;YV (σ.b r) d;pure Next.skip):=λF=>by
         refine aC.bind' (bDs F N.top D hoo) λd d' e=>?_
         obtain⟨rfl,_⟩:=e;exact aB aPk λ_=>av .skip
        exact S.mY.mono (S.one (hR F) (sJ B E (hR H)) g) λw' n=>CQ (C:=C) F G J N n
       |_=>rw[hoo]at *;exact plain
  |inRangeFunc l=>exact zI S
  |endRangeFunc l=>
   simp only[RY,item,p];refine S.mY.mono (S.one (aBk F.ok (l:=l)) (sJ B E (aBk H.ok (l:=l))) g) λw' n=>?_
   generalize(Instr.endLoop l).runT P w' #[]=x at n⊢;generalize(Instr.endLoop (π.b l)).runT P W #[]=y at n⊢;obtain⟨r,es⟩:=x;cases r with
   |halt h w1=>
    cases h with
    |panic v=>
     by_cases t:Γ w1
     rotate_left 1
     ·exact uw t
     rcases n t with u|⟨R,rfl,g⟩
     ·exact tH u
     rw[kS];exact WR (jA (λ_=>g) (by simp[comp,IV,nN])) _
    |_=>exact uy trivial
   |ok a w1=>
    by_cases t:Γ w1
    rotate_left 1
    ·exact uw t
    rcases n t with u|⟨b,R,rfl,V,g⟩
    ·exact tH u
    subst V;rw[kS];exact WR (jA (λ_=>g) (by cases a<;>simp[comp,frame,item,F.f (rV N.top)])) _
  |beginRound=>
   simp only[RY,item];rw[s];cases fr.roundOf with
   |none=>exact S.mY.mono (S.one kT (sJ B E (A:=nH π0) (kT (f':=λ(_:Unit)=>(pure Next.skip:Sem Next)))) g) λw' n=>CQ F G J N n
   |some l=>exact S.mY.mono (S.one (aB (QL F.ok) λ_=>av .skip) (sJ B E (A:=nH π0) (aB (QL H.ok) λ_=>av (b:=Next.skip) nH.skip)) g) λw' n=>CQ F G J N n
  |call d wr r sv=>cases m
  |extern r a=>cases m
def aJy{π:Ren}(F:Fit P L π)(G:rJ P L)(U:Pl P L)(S:rO K Γ P π Q)(N:qJ L fr cs)(i:∃fn,P.funcs[fr.fn]? = A_ fn)(o:¬(cs=[]/\fr.defers=[]/\∃ch,fr.mode=.panicking ch))(m:Q w W):
  K w λw'=>dM P Γ π C Q (unwind P G_ fr cs B_ w') (unwind P main (frame π fr) (cs.map (frame π)++C) B_ W):=by
 have n:=Gp F N.top;have p:=aCq F N.top;have H:(frame π fr).defers=fr.defers.map (deferred π):=rfl;have Z:(frame π fr).mode=mode π fr.mode:=rfl;have I:(frame π fr).tmps=vals π fr.tmps:=rfl;obtain⟨π0,z,A,J⟩:=id U;unfold unwind;rw[H];cases hds:fr.defers with
 |nil=>
  simp only[TV];rw[Z];cases hmm:fr.mode with
  |run=>exact zI S
  |panicking ch=>
   simp only[mode]
   have D:fr.catches P=E_:=by
    obtain⟨fn,u⟩:=i;unfold Frame.catches;rw[u]
   have E:(frame π fr).catches P=E_:=by
    obtain⟨fn,u⟩:=i;unfold Frame.catches;rw[n,u]
   rw[D,E];simp only[SE,if_false];cases cs with
   |cons c cs=>exact mq S m (IV c ch).symm
   |nil=>
    simp only[TV];exact absurd ⟨rfl,hds,ch,hmm⟩ o
  |returning=>
   simp only[mode];obtain⟨fn,u⟩:=i;rw[n,u,I];simp only;refine S.mY.mono (S.one (Oh F.ok (fn:=fn) (tmps:=fr.tmps)) (sJ A J (Oh z.ok (fn:=fn) (tmps:=fr.tmps))) m) λw' k=>?_
   generalize(results fn fr.tmps).runT P w' #[]=x at k⊢;generalize(results fn (vals π fr.tmps)).runT P W #[]=y at k⊢;obtain⟨r,es⟩:=x;cases r with
   |halt h w1=>cases h<;>exact uy trivial
   |ok a w1=>
    by_cases v:Γ w1
    rotate_left 1
    ·refine uw ?_;rw[zQ,aAw];exact v
    rcases k v with p|⟨b,X,rfl,B,m⟩
    ·exact tH p
    subst B;simp only;rw[kS];exact WR (aAv G F N (λ_=>m)) _
 |cons d ds=>
  have j:=p d (by rw[hds];simp)
  have V:qJ L { fr with defers:=ds } cs:=by
   refine⟨?_,N.low,(by rw[Mv (fr:=fr) cs];exact N.last;rfl)⟩;have h0:=N.top;have h2:fr.defers.map (deferred (mover L))=fr.defers:=RJ Frame.defers h0;rw[hds,RY]at h2;injection h2 with _ h2;have e1:=RJ Frame.fn h0;have e2:=RJ Frame.tmps h0;have M:=RJ Frame.mode h0;have O:=RJ Frame.roundOf h0;have R:=RJ Frame.todo h0;simp only[frame]at e1 e2 M O R⊢;rw[e1,e2,M,O,R,h2]
  have Y:frame π { fr with defers:=ds }={ frame π fr with defers:=ds.map (deferred π) }:=rfl;have s:=aCq z N.top d (by rw[hds];simp)
  have plain:vN π d.target->K w λw'=>dM P Γ π C Q (callDeferred P { fr with defers:=ds } cs B_ d w') (callDeferred P { frame π fr with defers:=ds.map (deferred π) } (cs.map (frame π)++C) B_ (deferred π d) W):=λT=>
   S.mY.mono (S.one (GR F.ok F.ext T (args:=d.args)) (sJ A J (GR z.ok z.ext s (args:=d.args))) m) λw' k=>by
    have:=aNp (C:=C) F G V T k;rw[Y]at this;exact this
  obtain⟨t,args⟩:=d;cases t with
  |collected r=>
   simp only[RY,deferred,target,n];refine S.mY.mono (S.one (aI7) (sJ A J (aI7 (l:=r))) m) λw' k=>?_
   generalize(YW r).runT P w' #[]=x at k⊢;generalize(YW (π.b r)).runT P W #[]=y at k⊢;obtain⟨q,es⟩:=x;cases q with
   |halt h w1=>exact uy trivial
   |ok a w1=>
    by_cases v:Γ w1
    rotate_left 1
    ·exact uw v
    rcases k v with p|⟨b,X,rfl,B,m⟩
    ·exact tH p
    subst B;rw[kS];exact WR (jA (λ_=>m) (by simp[comp,frame,F.f (rV N.top)])) _
  |fn g c=>exact plain j
  |nil=>exact plain j
  |builtin b ts t c=>
   have e:deferred π ⟨.builtin b ts t c,args⟩=⟨.builtin b ts t c,vals π args⟩:=by simp[deferred,target,j.2]
   simp only[RY,e];have:=plain j;rw[e]at this;exact this
  |coroexit c=>exact j.elim
def xw{π:Ren}(F:Fit P L π)(G:rJ P L)(c:Pl P L)(S:rO K Γ P π Q)(e:∀f∈C,∀l k,f.todo≠.inRangeFunc l::k)(N:qJ L fr cs)(b:∃fn,P.funcs[fr.fn]? = A_ fn)(a:¬(cs=[]/\fr.defers=[]/\∃ch,fr.mode=.panicking ch))(d:Q w W):
  K w λw'=>dM P Γ π C Q (stepG P G_ { frame:=fr,callers:=cs,status:=.running,dying:=B_ } w') (stepG P main (comp π C { frame:=fr,callers:=cs,status:=.running,dying:=B_ }) W):=by
 unfold stepG comp;simp only;have g:(frame π fr).mode=mode π fr.mode:=rfl;rw[g];cases hmm:fr.mode with
 |run=>exact aS9 F G c S e N d
 |returning=>exact aJy F G c S N b a d
 |panicking ch=>exact aJy F G c S N b a d
structure PC(π:Ren)(n N m:Nat):Prop where
 inj:∀a b,π.b a=π.b b->a=b
 low:∀b,b<n->π.vg b=E_->π.b b<N
 new:∀b,n<=b->b<m->π.b b=N+(b - n)
 high:∀b,m<=b->n<=b->π.gh b=E_->N+(m - n)<=π.b b
 gone:∀b,π.gh b=G_->m<=b
 away:∀b,π.vg b=G_->b<n/\N+(m - n)<=π.b b
 sym:π.asym=E_
def FZ(c:Array D_)(f:Nat×Nat):Prop:=c.size=0\/(f.1=0/\c.size<=f.2)
def OZ(o:Obj):Prop:=∃c e f,o=.cells c e f/\FZ c f
structure QC(π:Ren)(n N d d0 D0:Nat)(W0 w W:C_):Prop where
 le:n<=w.heap.size
 size:W.heap.size+n=w.heap.size+N
 blk:∀b:Nat,b<w.heap.size->π.vg b=E_->W.heap[π.b b]? = (w.heap[b]?).map (obj π)
 rA:∀b:Nat,π.vg b=G_->w.heap[b]? = A_ (.coro B_)
 su:∀(b:Nat) (o:Obj),w.heap[b]? = A_ o->np o=G_
 tape:∀i,w.drawn+i<d->W.tape (W.drawn+i)=w.tape (w.drawn+i)
 dr:W.drawn+d0=w.drawn+D0
 ny:W.tape=W0.tape
 os:W.os=w.os
 qA:W.os=W0.os
 out:W.output=W0.output
 other:∀c:Nat,c<N->(∀b,b<n->π.b b≠c)->W.heap[c]? = W0.heap[c]?
 fz:∀b,π.wb b≠π.b b->∃o,w.heap[b]? = A_ o/\OZ o
variable {π:Ren}
def QC.BQ(C:PC π n N m)(h:QC π n N d d0 D0 W0 w W)(a:w.heap.size<=m)(hv:π.vg b=G_):W.heap[π.b b]? = B_:=by
 have:=h.size;have:=h.le;have:=(C.away b hv).2;exact Te o7
def QC.same(C:PC π n N m)(h:QC π n N d d0 D0 W0 w W)(g:w.heap.size<=m)(b:Nat)(f:π.gh b=E_)(hv:π.vg b=E_):W.heap[π.b b]? = (w.heap[b]?).map (obj π):=by
 by_cases c:b<w.heap.size
 ·exact h.blk b c hv
 ·have e:w.heap[b]? = B_:=Te o7;rw[e];have:=h.le;have:=h.size;refine Te ?_
  by_cases a:b<m
  ·rw[C.new b o7 a];omega
  ·have:=C.high b o7 o7 f;omega
def QC.far(C:PC π n N m)(a:QC π n N d d0 D0 W0 w W)(c:w.heap.size<=m)(e:w.heap[b]? = A_ o):π.gh b=E_:=by
 cases hg:π.gh b
 ·rfl
 ·have:=C.gone b hg;have:=(Sb.1 e).1;omega
def QC.gone(C:PC π n N m)(c:w.heap.size<=m)(a:π.gh b=G_):w.heap[b]? = Option.none:=by
 have:=C.gone b a;exact Te o7
def QC.cell(C:PC π n N m)(h:QC π n N d d0 D0 W0 w W)(c:w.heap.size<=m)(a:J_)(e:π.gh a.block=E_):W.cell? (addr π a)=(w.cell? a).map (val π):=by
 unfold SS;rw[show(addr π a).block=π.b a.block from rfl];cases hv:π.vg a.block;rotate_left 1
 ·rw[h.BQ C c hv,h.rA _ hv];rfl
 rw[h.same C c a.block e hv];cases w.heap[a.block]? with
 |none=>rfl
 |some o=>
  cases o<;>simp only[Si,obj]<;>try rfl
  rw[show(addr π a).spot=a.spot from rfl,show(addr π a).off=a.off from rfl];split
  ·rfl
  ·rw[iw]
def QC.shape{π:Ren}{n N m d d0 D0:Nat}{W0 w W:C_}(C:PC π n N m)(h:QC π n N d d0 D0 W0 w W)(a:w.heap.size<=m)(r:Nat)(c:π.gh r=E_):W.shape? (π.b r)=w.shape? r:=by
 unfold World.shape?;cases hv:π.vg r;rotate_left 1
 ·rw[h.BQ C a hv,h.rA _ hv]
 rw[h.same C a r c hv];cases w.heap[r]? with
 |none=>rfl
 |some o=>cases o<;>simp[obj]
def QC.frozen{π:Ren}{n N m d d0 D0:Nat}{W0 w W:C_}(C:PC π n N m)(h:QC π n N d d0 D0 W0 w W)(c:w.heap.size<=m)(a:J_)(e:π.gh a.block=E_):W.frozen? (addr π a)=w.frozen? a:=by
 unfold WH;rw[show(addr π a).block=π.b a.block from rfl];cases hv:π.vg a.block;rotate_left 1
 ·rw[h.BQ C c hv,h.rA _ hv]
 rw[h.same C c a.block e hv];cases w.heap[a.block]? with
 |none=>rfl
 |some o=>cases o<;>simp only[Si,obj]<;>rfl
def QC.turn(C:PC π n N m)(h:QC π n N d d0 D0 W0 w W)(i:r<w.heap.size)(hv:π.vg r=E_)(ho:np o=G_)(t:w.heap.size<=m)(q:π.wb r≠π.b r->OZ o):
  QC π n N d d0 D0 W0 { w with heap:=w.heap.setIfInBounds r o } { W with heap:=W.heap.setIfInBounds (π.b r) (obj π o) }:=by
 have l:π.b r<W.heap.size:=by
  have e:=h.blk r i hv;rw[Tf i]at e;exact(Sb.1 e).1
 refine⟨by simpa using h.le,by simpa using h.size,λb a f=>?_,λb f=>?_,λb s a=>?_,h.tape,h.dr,h.ny,h.os,h.qA,h.out,λc p g=>?_,λb a=>?_⟩
 ·simp only[Array.size_setIfInBounds]at a
  by_cases e:r=b
  ·subst e;simp[i,l]
  ·have k:π.b r≠π.b b:=λx=>e (C.inj _ _ x)
   simp only[Sg e,Sg k];exact h.blk b a f
 ·have e:r≠b:=by rintro rfl;rw[hv]at f;cases f
  simp only[Sg e];exact h.rA b f
 ·simp only[WI]at a;split at a
  ·first|(cases a;exact ho)|(split at a<;>first|(cases a;exact ho)|cases a)
  ·exact h.su b s a
 ·have:π.b r≠c:=by
   by_cases j:r<n
   ·exact g r j
   ·intro e;have:=h.le;rw[C.new r o7 o7]at e;omega
  simp only[Sg this];exact h.other c p g
 ·by_cases e:r=b
  ·subst e;exact⟨o,by simp[i],q a⟩
  ·simp only[Sg e];exact h.fz b a
def QC.more(C:PC π n N m)(h:QC π n N d d0 D0 W0 w W)(ho:np o=G_)(s:w.heap.size+1<=m):
  π.b w.heap.size=W.heap.size/\QC π n N d d0 D0 W0 { w with heap:=w.heap.push o } { W with heap:=W.heap.push (obj π o) }:=by
 have t:=h.size;have p:=h.le;have k:π.b w.heap.size=W.heap.size:=by rw[C.new _ p o7];omega
 refine⟨k,by simp;omega,by simp;omega,λb f a=>?_,λb a=>?_,λb j f=>?_,h.tape,h.dr,h.ny,h.os,h.qA,h.out,λc l i=>?_,λb f=>?_⟩
 ·simp only[Array.size_push]at f
  by_cases e:b=w.heap.size
  ·subst e;rw[k];simp
  ·have g:b<w.heap.size:=by omega
   have e1:=h.blk b g a;rw[Tf g]at e1;have r:=(Sb.1 e1).1;simp only[VT,show b≠w.heap.size from e,if_false,show π.b b≠W.heap.size by omega];exact h.blk b g a
 ·have e:=h.rA b a;have:=(Sb.1 e).1;simp only[VT,show b≠w.heap.size by omega,if_false];exact e
 ·simp only[VT]at f;split at f
  ·cases f;exact ho
  ·exact h.su b j f
 ·have:c≠W.heap.size:=by omega
  simp only[VT,this,if_false];exact h.other c l i
 ·obtain⟨j,e,q⟩:=h.fz b f;have:=(Sb.1 e).1;refine⟨j,?_,q⟩;simp only[VT,show b≠w.heap.size by omega,if_false];exact e
def wU(xs:Array α)(i:Nat)(f:α->α){x:α}(h:xs[i]? = A_ x):xs.modify i f=xs.setIfInBounds i (f x):=by
 apply Vg;intro j;rw[Zl,WI]
 by_cases e:i=j
 ·subst e;obtain⟨hi,a⟩:=Sb.1 h;simp[hi,a]
 ·simp[e]
def Hy(xs:Array α)(i:Nat)(f:α->α)(h:xs[i]? = B_):xs.modify i f=xs:=by
 apply Vg;intro j;rw[Zl]
 by_cases e:i=j
 ·subst e;simp[h]
 ·simp[e]
def QC.store{π:Ren}{n N m d d0 D0:Nat}{W0 w W:C_}(C:PC π n N m)(h:QC π n N d d0 D0 W0 w W)(j:w.heap.size<=m){a:J_}{x v:D_}(f:w.cell? a=A_ x):QC π n N d d0 D0 W0 (w.setCell a v) (W.setCell (addr π a) (val π v)):=by
 unfold SS at f;cases hb:w.heap[a.block]? with
 |none=>rw[hb]at f;cases f
 |some o=>
  have hv:π.vg a.block=E_:=by
   cases hv:π.vg a.block
   ·rfl
   ·rw[hb,h.rA _ hv]at *;cases hb;cases f
  have e:=h.same C j a.block (h.far C j hb) hv;rw[hb]at f e;cases o with
  |cells c el fr=>
   unfold World.setCell;rw[wU _ _ _ hb];have k:W.heap[(addr π a).block]? = A_ (.cells (vals π c) el fr):=e;rw[wU _ _ _ k];have l:=(Sb.1 hb).1
   have i:π.wb a.block≠π.b a.block->OZ (.cells (if a.spot.isSome then c else c.setIfInBounds a.off v) el fr):=λp=>by
    obtain⟨o,g,q,k,f',rfl,i⟩:=h.fz _ p;rw[hb]at g;cases g;refine⟨_,_,_,rfl,?_⟩;split
    ·exact i
    ·simpa[FZ]using i
   have:=h.turn C l hv rfl j i
   have g:obj π (.cells (if a.spot.isSome then c else c.setIfInBounds a.off v) el fr)=.cells (if(addr π a).spot.isSome then vals π c else(vals π c).setIfInBounds (addr π a).off (val π v)) el fr:=by
    rw[show(addr π a).spot=a.spot from rfl,show(addr π a).off=a.off from rfl];simp only[obj]
    congr 1
    split
    ·rfl
    ·rw[JD]
   rw[g]at this;exact this
  |_=>simp at f
def QC.freeze{π:Ren}{n N m d d0 D0:Nat}{W0 w W:C_}(C:PC π n N m)(h:QC π n N d d0 D0 W0 w W)(i:w.heap.size<=m)(a:J_)(k:Nat)(t:π.gh a.block=E_):QC π n N d d0 D0 W0 (w.freeze a k) (W.freeze (addr π a) k):=by
 unfold VY;split
 ·exact h
 ·cases hv:π.vg a.block;rotate_left 1
  ·have e1:=h.rA _ hv;have e2:W.heap[(addr π a).block]? = Option.none:=h.BQ C i hv;rw[Hy _ _ _ e2,wU _ _ _ e1]
   have s:w.heap.setIfInBounds a.block (.coro Option.none)=w.heap:=by
    apply Vg;intro j;rw[WI]
    by_cases e:a.block=j
    ·subst e;have:=(Sb.1 e1).1;rw[e1];simp[this]
    ·simp[e]
   simp only[s];exact h
  have e:=h.same C i a.block t hv;cases hb:w.heap[a.block]? with
  |none=>
   rw[hb]at e;have b:W.heap[(addr π a).block]? = B_:=e;rw[Hy _ _ _ hb,Hy _ _ _ b];exact h
  |some o=>
   rw[hb]at e;have b:W.heap[(addr π a).block]? = A_ (obj π o):=e;rw[wU _ _ _ hb,wU _ _ _ b];have q:=(Sb.1 hb).1;have g:=h.su _ _ hb;cases o with
   |cells c el fr=>
    refine h.turn C q hv rfl i λp=>⟨_,_,_,rfl,?_⟩
    obtain⟨o,f,r,b,f',rfl,l⟩:=h.fz _ p;rw[hb]at f;cases f;obtain⟨lo,hi⟩:=fr;rcases l with l|⟨h1,h2⟩
    ·exact .inl l
    ·by_cases h0:c.size=0
     ·exact .inl h0
     ·refine .inr ?_;have:(lo == hi)=E_:=by simp;omega
      simp only[this,SE,if_false];exact⟨by omega,by omega⟩
   |pending=>cases g
   |_=>
    refine h.turn C q hv g i λp=>?_
    obtain⟨o,f,r,b,f',rfl,l⟩:=h.fz _ p;rw[hb]at f;cases f
def Rm(v:D_):(val π v).bytes? = v.bytes? :=by cases v<;>simp[Value.bytes?]
def aFy{like:D_}{a:List UInt8}(h:like.ofBytes a=A_ v):val π v=v/\(val π like).ofBytes a=A_ v:=by
 unfold Value.ofBytes at h⊢;cases like<;>simp only[iq,gB,jP,jO,jB,dI,gD,gT,iY,gM,fM,fq,gN,jQ,iZ]at h⊢<;>try(cases h;done)
 ·refine⟨?_,h⟩;split at h<;>first|(cases h;simp;done)|cases h
 all_goals
  refine⟨?_,h⟩;split at h
  ·cases h;simp
  ·cases h
def bEw(c:Array D_)(e:RZ):∀(f x stop:Nat),seenCells P (vals π c) e f x stop=seenCells P c e f x stop:=by
 intro f
 induction f with
 |zero=>intro x stop;rfl
 |succ f ih=>
  intro x stop;unfold seenCells;simp only[iw,ih];split
  ·rfl
  ·split
   ·rfl
   ·split
    ·rfl
    ·next i s _=>
     cases c[i]? with
     |none=>rfl
     |some v=>simp only[Si,Rm]
def aLy(a:Ask α):∀w:C_,(w.ask a).2.heap=w.heap/\w.drawn<=(w.ask a).2.drawn:=by
 induction a with
 |done a=>intro w;exact⟨rfl,RQ _⟩
 |ask what range k ih=>
  intro w;unfold World.ask;simp only;split
  ·exact ih _ w
  ·have h:=ih ((Question.extern what range).cut (w.tape w.drawn (Question.extern what range))) { w with drawn:=w.drawn+1 };exact⟨h.1,RV (Uk _) h.2⟩
def bG0(w:C_)(c:Sys):(w.sys c).2.heap=w.heap/\w.drawn<=(w.sys c).2.drawn:=by
 have h:=aLy (Kernel.perform c w.os) w;unfold World.sys;generalize w.ask (Kernel.perform c w.os)=x at h;obtain⟨⟨r,os⟩,w'⟩:=x;cases r<;>first|exact⟨rfl,RQ _⟩|exact h
def pF{w2:C_}(h:w1.heap.size<=w2.heap.size/\w1.drawn<=w2.drawn)(b:w.heap.size<=w1.heap.size)(a:w.drawn<=w1.drawn):w.heap.size<=w2.heap.size/\w.drawn<=w2.drawn:=⟨RV b h.1,RV a h.2⟩
def pE(s:Sem α):∀(w:C_) (es:Array K_),w.heap.size<=(left (s.runT P w es).1).heap.size/\w.drawn<=(left (s.runT P w es).1).drawn:=by
 induction s with
 |pure a=>intro w es;exact⟨RQ _,RQ _⟩
 |load mo a k ih=>
  intro w es;simp only[Tm];cases w.cell? a with
  |some v=>exact ih _ w _
  |none=>
   cases w.farLoad P a (mo == .atomic)with
   |error h=>exact⟨RQ _,RQ _⟩
   |ok r=>exact ih _ w _
 |store mo a v k ih=>
  intro w es;cases v<;>simp only[Tm]
  case agg=>exact⟨RQ _,RQ _⟩
  case tuple=>exact⟨RQ _,RQ _⟩
  all_goals
   cases w.cell? a with
   |some x=>
    simp only;split
    ·exact⟨RQ _,RQ _⟩
    ·exact pF (ih _ _) (by simp[World.setCell]) (RQ _)
   |none=>
    simp only;split
    ·next hf=>
     have h1:=aTr hf;exact pF (ih _ _) (by rw[h1.1];exact RQ _) (by rw[h1.2];exact RQ _)
    ·exact⟨RQ _,RQ _⟩
 |new o k ih=>intro w es;have h:=ih w.heap.size { w with heap:=w.heap.push o } es;exact⟨RV s7 h.1,h.2⟩
 |shape r k ih=>intro w es;exact ih _ w es
 |freeze a n k ih=>
  intro w es;have h:=ih (w.freeze a n) es;have e1:(w.freeze a n).heap.size=w.heap.size:=by unfold VY;split<;>simp
  have e2:(w.freeze a n).drawn=w.drawn:=by unfold VY;split<;>rfl
  rw[e1,e2]at h;exact h
 |frozen a k ih=>intro w es;exact ih _ w es
 |getObj r k ih=>
  intro w es;simp only[Tm];cases w.heap[r]? with
  |none=>exact⟨RQ _,RQ _⟩
  |some o=>cases o<;>first|exact⟨RQ _,RQ _⟩|exact ih _ w _
 |setObj r o k ih=>
  intro w es;simp only[Tm];cases w.heap[r]? with
  |none=>exact⟨RQ _,RQ _⟩
  |some o'=>
   have h:=ih { w with heap:=w.heap.setIfInBounds r o } (es.push ⟨.obj r,G_,o.isChan⟩);have d:w.heap.size<=_/\w.drawn<=_:=⟨RV s7 h.1,h.2⟩;cases o'<;>first|exact⟨RQ _,RQ _⟩|exact d
 |choose q k ih=>
  intro w es;simp only[Tm];split
  ·exact ih _ w es
  ·have h:=ih (q.cut (w.tape w.drawn q)) { w with drawn:=w.drawn+1 } es;exact⟨h.1,RV (Uk _) h.2⟩
 |sys c k ih=>
  intro w es;simp only[Tm];have h:=ih (w.sys c).1 (w.sys c).2 (es.push ⟨.output,G_,E_⟩);have b:=bG0 w c;rw[b.1]at h;exact⟨h.1,RV b.2 h.2⟩
 |program k ih=>intro w es;exact ih P w es
 |mark m k ih=>intro w es;exact ih w _
 |halt h=>intro w es;exact⟨RQ _,RQ _⟩
def JQ(m d:Nat)(w:C_):Prop:=w.heap.size<=m/\w.drawn<=d
def Goal(m d:Nat)(π:Ren)(Q:C_->C_->Prop){α β:Type}(A:α->β->Prop)(x:Result α×Array K_)(y:Result β×Array K_):Prop:=
 JQ m d (left x.1)->match x.1 with
  | .ok a w1=>(π.vx=G_/\Dead y.1)\/∃b W1,y=(.ok b W1,evs π x.2)/\A a b/\Q w1 W1
  | .halt (.panic v) w1=>(π.vx=G_/\Dead y.1)\/∃W1,y=(.halt (.panic (val π v)) W1,evs π x.2)/\Q w1 W1
  | .halt _ _=>True
def yN{k:J_}{r:Array D_×RZ×(Nat×Nat)×Nat×D_×List (Nat×Nat×List UInt8)}(h:w.seen P a u k x=.ok r):w.heap[a.block]? = A_ (.cells r.1 r.2.1 r.2.2.1):=by
 unfold World.seen at h
 repeat'(first|(cases h;done)|split at h)
 all_goals try(cases h;done)
 all_goals simp only[bind,VI]at h
 all_goals repeat'(first|(cases h;done)|(cases h;assumption)|split at h)
def QC.Ab(q:QC π n N d d0 D0 W0 w W)(e:w.heap[b]? = A_ o)(ho:o≠.coro B_):π.vg b=E_:=by
 cases hv:π.vg b
 ·rfl
 ·rw[q.rA b hv]at e;cases e;exact absurd rfl ho
def aH0(C:PC π n N m)(q:QC π n N d d0 D0 W0 w W)(g:w.heap.size<=m)(a k:J_)(u:RZ)(x:Bool){r:Array D_×RZ×(Nat×Nat)×Nat×D_×List (Nat×Nat×List UInt8)}(j:w.seen P a u k x=.ok r):W.seen P (addr π a) u (addr π k) x=(w.seen P a u k x).map (λr=>(vals π r.1,r.2)):=by
 have f:=yN j;have e:=q.same C g a.block (q.far C g f) (q.Ab f s7);unfold World.seen;rw[show(addr π a).spot=a.spot from rfl,show(addr π k).spot=k.spot from rfl,show(addr π k).off=k.off from rfl,show(addr π a).off=a.off from rfl,show(addr π a).block=π.b a.block from rfl,e];cases hs:(k.spot.isSome || a.spot.isSome);rotate_left 1
 ·rfl
 simp only[SE,if_false];cases plainCell P P.depth u k.off with
 |none=>rfl
 |some like=>
  simp only;cases like.bytes? with
  |none=>rfl
  |some bs=>
   simp only[Si];cases byteOfCell P P.depth u k.off with
   |none=>rfl
   |some β=>
    simp only;cases w.heap[a.block]? with
    |none=>rfl
    |some o=>
     cases o<;>simp only[Si,obj]<;>try rfl
     next c el fr=>
     simp only[bEw]
     by_cases h0:P.cellsOf el=0
     ·simp only[h0,if_true];rfl
     ·simp only[h0,if_false];cases byteOfCell P P.depth el (a.off % P.cellsOf el)with
      |none=>rfl
      |some b0=>
       simp only;cases seenCells P c el (bs.length+1) (a.off / P.cellsOf el*P.bytesOf el+b0+β) (a.off / P.cellsOf el*P.bytesOf el+b0+β+bs.length)with
       |error _=>rfl
       |ok cells=>
        cases x
        ·rfl
        ·rcases cells with _|⟨⟨i,s,h⟩,_|⟨y,l⟩⟩
         ·rfl
         ·simp only[bind,VI,if_true];split<;>rfl
         ·rfl
def bIe(C:PC π n N m)(q:QC π n N d d0 D0 W0 w W)(b:w.heap.size<=m)(a k:J_)(u:RZ)(x:Bool)(h:w.viewLoad P a u k x=.ok (v,t)):
  W.viewLoad P (addr π a) u (addr π k) x=.ok (val π v,t.map (addr π)):=by
 unfold World.viewLoad at h⊢;cases hs:w.seen P a u k x with
 |error e=>rw[hs]at h;cases h
 |ok r=>
  rw[aH0 C q b _ _ _ _ hs,hs];rw[hs]at h;obtain⟨c,e,fr,first,like,cells⟩:=r;simp only[Except.map,bind,VI]at h⊢;cases hb:like.ofBytes (cells.flatMap λ(x:Nat×Nat×List UInt8)=>(x.2.2.drop (first - x.2.1)).take (first+(like.bytes?.map (·.length)).getD 0 - max first x.2.1))with
  |none=>simp only[hb]at h;cases h
  |some v'=>
   simp only[hb]at h⊢;cases h;have:=aFy (π:=π) hb;rw[this.1];simp only[pure,Except.pure,Vs]
   congr 2
def aTk(C:PC π n N m)(q:QC π n N d d0 D0 W0 w W)(c:w.heap.size<=m)(a:J_)(x:Bool)(h:w.farLoad P a x=.ok (v,t)):
  W.farLoad P (addr π a) x=.ok (val π v,t.map (addr π)):=by
 unfold Zk at h⊢;rw[show(addr π a).block=π.b a.block from rfl];cases hb:w.heap[a.block]? with
 |none=>rw[hb]at h;cases h
 |some o=>
  rw[hb]at h;cases o<;>try(cases h;done)
  next a' u=>
  rw[q.same C c a.block (q.far C c hb) (q.Ab hb s7),hb];simp only[Si,obj]at h⊢;cases hv:w.viewLoad P a' u a x with
  |error _=>rw[hv]at h;cases h
  |ok r=>
   rw[hv]at h;cases h;rw[bIe C q c _ _ _ _ hv]
def aCf{X:Type}{f g:Array D_->X->Except String (Array D_)}(h:∀c x c1,f c x=.ok c1->g (vals π c) x=.ok (vals π c1)):∀(l:List X) (c c1:Array D_),l.foldlM f c=.ok c1->l.foldlM g (vals π c)=.ok (vals π c1)
 |[],c,c1,e=>by cases e;rfl
 |x::l,c,c1,e=>by
  simp only[YI,bind,VI]at e⊢;cases hf:f c x with
  |error _=>rw[hf]at e;cases e
  |ok c2=>
   rw[hf]at e;rw[h c x c2 hf];exact aCf h l c2 c1 e
def aCh{X:Type}{f:Array D_->X->Except String (Array D_)}(h:∀c x c1,f c x=.ok c1->c1.size=c.size):∀(l:List X) (c c1:Array D_),l.foldlM f c=.ok c1->c1.size=c.size
 |[],c,c1,e=>by cases e;rfl
 |x::l,c,c1,e=>by
  simp only[YI,bind,VI]at e;cases hf:f c x with
  |error _=>rw[hf]at e;cases e
  |ok c2=>
   rw[hf]at e;rw[aCh h l c2 c1 e,h c x c2 hf]
def bIh(C:PC π n N m)(q:QC π n N d d0 D0 W0 w W)(s:w.heap.size<=m)(a k:J_)(u:RZ)(v:D_)(x:Bool)(h:w.viewStore P a u k v x=.ok (w1,t)):
  w1.heap.size=w.heap.size/\w1.drawn=w.drawn/\∃W1,W.viewStore P (addr π a) u (addr π k) (val π v) x=.ok (W1,t.map (addr π))/\QC π n N d d0 D0 W0 w1 W1:=by
 unfold Wt at h⊢;rw[Rm];cases ht:tight P P.depth u with
 |false=>rw[ht]at h;cases h
 |true=>
  rw[ht]at h;simp only[Va,SE,if_false]at h⊢;cases hs:w.seen P a u k x with
  |error e=>rw[hs]at h;cases h
  |ok r=>
   have g:=yN hs;rw[aH0 C q s _ _ _ _ hs,hs];rw[hs]at h;obtain⟨c,e,fr,first,like,cells⟩:=r;simp only[Except.map,bind,VI]at h⊢;cases hv:v.bytes? with
   |none=>rw[hv]at h;cases h
   |some bs=>
    rw[hv]at h;simp only at h⊢
    by_cases p:A_ bs.length≠like.bytes?.map (·.length)
    ·simp only[p,ne_eq,not_false_eq_true,if_true]at h;cases h
    ·simp only[p,if_false]at h⊢;split at h
     ·cases h
     ·next c1 heq=>
      cases h;have A:=(Sb.1 g).1
      have i:π.wb a.block≠π.b a.block->OZ (.cells c1 e fr):=λB=>by
       obtain⟨o,l,D,E,f',rfl,i⟩:=q.fz _ B;rw[g]at l;cases l;refine⟨_,_,_,rfl,?_⟩
       have:c1.size=c.size:=aCh (λj y z f=>by
        repeat'(first|(cases f;done)|split at f)
        all_goals(cases f;simp)) cells c c1 heq
       unfold FZ;rw[this];exact i
      refine⟨by simp,rfl,_,?_,q.turn C A (q.Ab g s7) (o:=.cells c1 e fr) rfl s i⟩;rw[aCf (π:=π) ?_ cells c c1 heq]
      ·simp only[pure,Except.pure,obj,Vs];rfl
      ·intro j y z f
       by_cases h1:(decide (y.2.fst<first) || decide (y.2.fst+y.2.snd.length>first+bs.length))=G_
       ·simp only[h1,if_true]at f;cases f
       ·simp only[h1]at f⊢
        by_cases h2:(decide (fr.fst<=y.fst)&& decide (y.fst<fr.snd))=G_
        ·simp only[h2,if_true]at f;cases f
        ·simp only[h2]at f⊢;rw[iw];cases hc:j[y.fst]? with
         |none=>simp only[hc]at f;cases f
         |some old=>
          simp only[hc,Si]at f⊢;cases ho:old.ofBytes (List.take y.2.snd.length (List.drop (y.2.fst - first) bs))with
          |none=>simp only[ho]at f;cases f
          |some new=>
           simp only[ho]at f;cases f;have hn:=aFy (π:=π) ho;simp only[hn.2];rw[JD,hn.1];rfl
def aTp(C:PC π n N m)(q:QC π n N d d0 D0 W0 w W)(c:w.heap.size<=m)(a:J_)(v:D_)(x:Bool)(h:w.farStore P a v x=.ok (w1,t)):
  w1.heap.size=w.heap.size/\w1.drawn=w.drawn/\∃W1,W.farStore P (addr π a) (val π v) x=.ok (W1,t.map (addr π))/\QC π n N d d0 D0 W0 w1 W1:=by
 unfold Wp at h⊢;rw[show(addr π a).block=π.b a.block from rfl];cases hb:w.heap[a.block]? with
 |none=>rw[hb]at h;cases h
 |some o=>
  rw[hb]at h;cases o<;>try(cases h;done)
  next a' u=>
  rw[q.same C c a.block (q.far C c hb) (q.Ab hb s7),hb];simp only[Si,obj]at h⊢;cases hv:w.viewStore P a' u a v x with
  |error _=>rw[hv]at h;cases h
  |ok r=>
   rw[hv]at h;cases h;obtain⟨h1,h2,W1,h3,e⟩:=bIh C q c _ _ _ _ _ hv;exact⟨h1,h2,W1,by rw[h3],e⟩
def aCg{X:Type}{p:Nat->X->Prop}{f:Array D_->X->Except String (Array D_)}(h:∀c x c1,f c x=.ok c1->c1.size=c.size/\p c.size x):∀(l:List X) (c c1:Array D_),l.foldlM f c=.ok c1->∀x∈l,p c.size x
 |[],c,c1,e=>by intro x b;cases b
 |x::l,c,c1,e=>by
  simp only[YI,bind,VI]at e;cases hf:f c x with
  |error _=>rw[hf]at e;cases e
  |ok c2=>
   rw[hf]at e;have h1:=h c x c2 hf;have h2:=aCg h l c2 c1 e;intro y a;cases a with
   |head=>exact h1.2
   |tail _ a=>rw[<-h1.1];exact h2 y a
def Pz{k:J_}(h:w.viewStore P a u k v x=.ok (w1,t))(ho:w.heap[a.block]? = A_ o):∀y∈t,y.block=a.block/\¬OZ o:=by
 unfold Wt at h;cases ht:tight P P.depth u with
 |false=>rw[ht]at h;cases h
 |true=>
  rw[ht]at h;simp only[Va,SE,if_false]at h;cases hs:w.seen P a u k x with
  |error e=>rw[hs]at h;cases h
  |ok r=>
   have g:=yN hs;rw[hs]at h;obtain⟨c,e,fr,first,like,cells⟩:=r;simp only[bind,VI]at h;cases hv:v.bytes? with
   |none=>rw[hv]at h;cases h
   |some bs=>
    rw[hv]at h
    by_cases d:A_ bs.length≠like.bytes?.map (·.length)
    ·simp only[d,ne_eq,not_false_eq_true,if_true]at h;cases h
    ·simp only[d,if_false]at h;split at h
     ·cases h
     ·next c1 heq=>
      cases h
      have i:=aCg (p:=λn y=>y.1<n/\¬(fr.1<=y.1/\y.1<fr.2)) (λf y q b=>by
       by_cases h1:(decide (y.2.fst<first) || decide (y.2.fst+y.2.snd.length>first+bs.length))=G_
       ·simp only[h1,if_true]at b;cases b
       ·simp only[h1]at b
        by_cases h2:(decide (fr.fst<=y.fst)&& decide (y.fst<fr.snd))=G_
        ·simp only[h2,if_true]at b;cases b
        ·simp only[h2]at b;cases hc:f[y.fst]? with
         |none=>simp only[hc]at b;cases b
         |some old=>
          simp only[hc]at b;cases ho:old.ofBytes (List.take y.2.snd.length (List.drop (y.2.fst - first) bs))with
          |none=>simp only[ho]at b;cases b
          |some new=>
           simp only[ho]at b;cases b;refine⟨by simp,(Sb.1 hc).1,?_⟩
           simpa using h2) cells c c1 heq
      intro y j;obtain⟨z,l,rfl⟩:=Ti.1 j;refine⟨rfl,?_⟩;rintro⟨m,s,f',rfl,b⟩;rw[g]at ho;cases ho;have:=i z l;unfold FZ at b;simp only at b;rcases b with b|⟨h1,h2⟩
      ·omega
      ·exact this.2 ⟨by omega,by omega⟩
def aTo(q:QC π n N d d0 D0 W0 w W)(h:w.farStore P a v x=.ok (w1,t)):∀y∈t,π.wb y.block=π.b y.block:=by
 unfold Wp at h;cases hb:w.heap[a.block]? with
 |none=>rw[hb]at h;cases h
 |some o=>
  rw[hb]at h;cases o<;>try(cases h;done)
  next a' u=>
  simp only at h;cases hv:w.viewStore P a' u a v x with
  |error _=>rw[hv]at h;cases h
  |ok r=>
   rw[hv]at h;cases h;intro y i;apply SL;intro f
   by_cases g:∃o,w.heap[a'.block]? = A_ o
   ·obtain⟨o,ho⟩:=g;have h1:=Pz hv ho y i;rw[h1.1]at f;obtain⟨k,c,j⟩:=q.fz _ f;rw[ho]at c;cases c;exact h1.2 j
   ·unfold Wt at hv;simp only[bind,VI]at hv;split at hv
    ·cases hv
    ·cases hs:w.seen P a' u a x with
     |error e=>rw[hs]at hv;cases hv
     |ok r=>exact g ⟨_,yN hs⟩
def aNx(q:QC π n N d d0 D0 W0 w W){x:D_}(g:w.cell? a=A_ x)(h:w.frozen? a=E_):π.wb a.block=π.b a.block:=by
 apply SL;intro j;obtain⟨o,ho,c,e,f,rfl,i⟩:=q.fz _ j;unfold SS at g;unfold WH at h;rw[ho]at g h;simp only at g h;split at g
 ·cases g
 ·have:=(Sb.1 g).1;obtain⟨lo,hi⟩:=f;simp only[Bool.and_eq_false_iff,decide_eq_false_iff_not]at h;rcases i with i|⟨h1,h2⟩
  ·omega
  ·simp only at h1 h2;omega
def bAn(q:QC π n N d d0 D0 W0 w W)(ho:w.heap[r]? = A_ o)(hn:∀c e f,o≠.cells c e f):π.wb r=π.b r:=by
 apply SL;intro g;obtain⟨i,a,c,e,f,rfl,h⟩:=q.fz _ g;rw[ho]at a;cases a;exact hn _ _ _ rfl
def bId{k:J_}(h:w.viewLoad P a u k x=.ok (v,t)):(∃c e f,w.heap[a.block]? = A_ (.cells c e f))/\∀y∈t,y.block=a.block:=by
 unfold World.viewLoad at h;cases hs:w.seen P a u k x with
 |error e=>rw[hs]at h;cases h
 |ok r=>
  have b:=yN hs;rw[hs]at h;obtain⟨c,e,fr,first,like,cells⟩:=r;refine⟨⟨_,_,_,b⟩,?_⟩;simp only[bind,VI]at h;split at h
  ·cases h;intro y d;obtain⟨z,_,rfl⟩:=Ti.1 d;rfl
  ·cases h
def aTj(q:QC π n N d d0 D0 W0 w W)(h:w.farLoad P a x=.ok (v,t)):∀y∈t,π.vg y.block=E_:=by
 unfold Zk at h;cases hb:w.heap[a.block]? with
 |none=>rw[hb]at h;cases h
 |some o=>
  rw[hb]at h;cases o<;>try(cases h;done)
  next a' u=>
  simp only at h;cases hv:w.viewLoad P a' u a x with
  |error _=>rw[hv]at h;cases h
  |ok r=>
   rw[hv]at h;cases h;obtain⟨⟨c,e,f,h1⟩,h2⟩:=bId hv;intro y b;rw[h2 y b];exact q.Ab h1 s7
def aTq(q:QC π n N d d0 D0 W0 w W)(h:w.farStore P a v x=.ok (w1,t)):∀y∈t,π.vg y.block=E_:=by
 unfold Wp at h;cases hb:w.heap[a.block]? with
 |none=>rw[hb]at h;cases h
 |some o=>
  rw[hb]at h;cases o<;>try(cases h;done)
  next a' u=>
  simp only at h;cases hv:w.viewStore P a' u a v x with
  |error _=>rw[hv]at h;cases h
  |ok r=>
   rw[hv]at h;cases h;intro y c
   by_cases b:∃o,w.heap[a'.block]? = A_ o
   ·obtain⟨o,ho⟩:=b;rw[(Pz hv ho y c).1];unfold Wt at hv;simp only[bind,VI]at hv;split at hv
    ·cases hv
    ·cases hs:w.seen P a' u a x with
     |error e=>rw[hs]at hv;cases hv
     |ok r=>exact q.Ab (yN hs) s7
   ·exfalso;unfold Wt at hv;simp only[bind,VI]at hv;split at hv
    ·cases hv
    ·cases hs:w.seen P a' u a x with
     |error e=>rw[hs]at hv;cases hv
     |ok r=>exact b ⟨_,yN hs⟩
def Ru(q:QC π n N d d0 D0 W0 w W)(b:w.cell? a=A_ v):π.vg a.block=E_:=by
 unfold SS at b;cases hb:w.heap[a.block]? with
 |none=>rw[hb]at b;cases b
 |some o=>
  refine q.Ab hb ?_;rintro rfl;rw[hb]at b;cases b
def cell_far(C:PC π n N m)(q:QC π n N d d0 D0 W0 w W)(c:w.heap.size<=m)(b:w.cell? a=A_ v):π.gh a.block=E_:=by
 unfold SS at b;cases hb:w.heap[a.block]? with
 |none=>rw[hb]at b;cases b
 |some o=>exact q.far C c hb
def aTh(C:PC π n N m)(q:QC π n N d d0 D0 W0 w W)(c:w.heap.size<=m){r:D_×List J_}(b:w.farLoad P a x=.ok r):π.gh a.block=E_:=by
 unfold Zk at b;cases hb:w.heap[a.block]? with
 |none=>rw[hb]at b;cases b
 |some o=>exact q.far C c hb
def aTm(C:PC π n N m)(q:QC π n N d d0 D0 W0 w W)(c:w.heap.size<=m){r:C_×List J_}(b:w.farStore P a v x=.ok r):π.gh a.block=E_:=by
 unfold Wp at b;cases hb:w.heap[a.block]? with
 |none=>rw[hb]at b;cases b
 |some o=>exact q.far C c hb
def tQ:D_->Bool
 | .agg _| .tuple _=>G_
 |_=>E_
def aWh(v:D_):tQ (val π v)=tQ v:=by cases v<;>simp[tQ]
def aIo(hv:tQ v=G_):∃s,Tm P (.store mo a v k) w es=(.halt (.stuck s) w,es):=by
 cases v<;>first|(cases hv;done)|exact⟨_,rfl⟩
def Jo{x:D_}(hv:tQ v=E_)(b:w.cell? a=A_ x)(c:w.frozen? a=E_):Tm P (.store mo a v k) w es=k.runT P (w.setCell a v) (es.push ⟨.cell a,G_,mo == .atomic⟩):=by
 cases v<;>first|(cases hv;done)|simp only[Tm,b,c,SE,if_false]
def aIq{x:D_}(hv:tQ v=E_)(b:w.cell? a=A_ x)(c:w.frozen? a=G_):∃u,Tm P (.store mo a v k) w es=(.halt (.unsupported (.unsafePointer u)) w,es):=by
 cases v<;>first|(cases hv;done)|exact⟨ "a write to bytes that a string shares",by simp only[Tm,b,c,if_true]⟩
def Jp(hv:tQ v=E_)(b:w.cell? a=B_)(c:w.farStore P a v (mo == .atomic)=.ok (w1,t)):Tm P (.store mo a v k) w es=k.runT P w1 (es++t.toArray.map (⟨.cell ·,G_,mo == .atomic⟩)):=by
 cases v<;>first|(cases hv;done)|simp only[Tm,b,c]
def aIp{h:Halt}(hv:tQ v=E_)(b:w.cell? a=B_)(c:w.farStore P a v (mo == .atomic)=.error h):Tm P (.store mo a v k) w es=(.halt h w,es):=by
 cases v<;>first|(cases hv;done)|simp only[Tm,b,c]
def aUv{s:Sem α}(h:GB P π s):∀(w:C_) (es:Array K_),(∀r,π.gh r=G_->w.heap[r]? = B_)->NP w->∃hh es',(∀v,hh≠.panic v)/\s.runT P w es=(.halt hh w,es'):=by
 induction h with
 |bad s hb=>
  intro w es b hn
  induction hb generalizing es with
  |stuck s=>exact⟨_,_,(λv e=>by cases e),rfl⟩
  |kV u h=>exact⟨_,_,(λv e=>by cases e),rfl⟩
  |mark m k _ ih=>exact ih _
 |gone r k h=>
  intro w es b hn;simp only[Tm,b r h];exact⟨_,_,(λv e=>by cases e),rfl⟩
 |get r k _ ih=>
  intro w es b hn;simp only[Tm];cases hb:w.heap[r]? with
  |none=>exact⟨_,_,(λv e=>by cases e),rfl⟩
  |some o=>
   have ho:=hn r o hb;cases o<;>first|exact⟨_,_,(λv e=>by cases e),rfl⟩|exact ih _ ho w _ b hn
 |shape r k _ ih=>
  intro w es b hn;exact ih (w.shape? r) (λh=>by unfold World.shape?;rw[b r h]) w es b hn
 |frozen a k _ ih=>
  intro w es b hn;exact ih (w.frozen? a) (λh=>by unfold WH;rw[b _ h]) w es b hn
 |prog k _ ih=>intro w es b hn;exact ih w es b hn
def aC0{β:Type}{A:α->β->Prop}{x:Result α×Array K_}{y:Result β×Array K_}(hv:π.vx=G_)(h:Dead y.1):Goal m d π Q A x y:=by
 intro _;obtain⟨r,es⟩:=x;cases r with
 |ok=>exact .inl ⟨hv,h⟩
 |halt hh=>cases hh<;>first|trivial|exact .inl ⟨hv,h⟩
def Ot(C:PC π n N m){β:Type}{A:α->β->Prop}{s:Sem α}{s':Sem β}(h:aC P π A s s'):
  ∀(w W:C_) (es:Array K_),QC π n N d d0 D0 W0 w W->Goal m d π (QC π n N d d0 D0 W0) A (s.runT P w es) (s'.runT P W (evs π es)):=by
 induction h with
 |pure ha=>intro w W es q _;exact .inr ⟨_,_,rfl,ha,q⟩
 |bad a=>rw[C.sym]at a;cases a
 |nil a hb=>
  intro w W es q f;obtain⟨M,J,hp,e⟩:=aUv hb w es (λr p=>QC.gone C (RV (pE (P:=P) _ w es).1 f.1) p) q.su;rw[e];cases M<;>first|trivial|exact absurd rfl (hp _)
 |@xu r k k' p hk ih=>
  intro w W es q f;simp only[Tm]at f⊢;have g:=RV (pE (P:=P) _ w es).1 f.1;have e:w.shape? r=B_:=by unfold World.shape?;rw[QC.gone C g p]
  rw[e]at f⊢;exact ih _ w W es q f
 |@uT a k k' p hk ih=>
  intro w W es q f;simp only[Tm]at f⊢;have g:=RV (pE (P:=P) _ w es).1 f.1;have e:w.frozen? a=E_:=by unfold WH;rw[QC.gone C g p]
  rw[e]at f⊢;exact ih _ w W es q f
 |vD a=>rw[C.sym]at a;cases a
 |wN a=>rw[C.sym]at a;cases a
 |bH a=>rw[C.sym]at a;cases a
 |@halt h hk=>
  intro w W es q _;cases h<;>first|trivial|exact .inr ⟨W,rfl,q⟩
 |program _ ih=>intro w W es q;exact ih w W es q
 |@mark mk k k' hmk _ ih=>
  intro w W es q;have:=ih w W (es.push ⟨.mark mk,E_,G_⟩) q;have e:evs π (es.push ⟨.mark mk,E_,G_⟩)=(evs π es).push ⟨.mark mk,E_,G_⟩:=by simp[evs,ev,loc,hmk]
  rw[e]at this;exact this
 |sys _ ih=>
  intro w W es q;simp only[Tm,Jt];have:=ih (.strings w.os.env) w W (es.push ⟨.output,G_,E_⟩) q;have e:evs π (es.push ⟨.output,G_,E_⟩)=(evs π es).push ⟨.output,G_,E_⟩:=by simp[evs,ev,loc]
  rw[e]at this;rw[q.os];exact this
 |@choose qu k k' hk ih=>
  intro w W es q;simp only[Tm]
  by_cases j:qu.forced=G_
  ·simp only[j,if_true];exact ih 0 w W es q
  ·simp only[j];intro f;have l:=pE (P:=P) (k (qu.cut (w.tape w.drawn qu))) { w with drawn:=w.drawn+1 } es;have L:=Nat.lt_of_lt_of_le (Nat.lt_succ_self _) (RV l.2 f.2);have e:=q.tape 0 L;simp only[Nat.add_zero]at e;rw[e];refine ih _ { w with drawn:=w.drawn+1 } { W with drawn:=W.drawn+1 } es ⟨q.le,q.size,q.blk,q.rA,q.su,λi hi=>?_,by have:=q.dr;show W.drawn+1+d0=w.drawn+1+D0;omega,q.ny,q.os,q.qA,q.out,q.other,q.fz⟩ f;have:=q.tape (i+1) (by have:w.drawn+1+i<d:=hi;omega);rw[show W.drawn+1+i=W.drawn+(i+1) by omega,show w.drawn+1+i=w.drawn+(i+1) by omega];exact this
 |@shape r k k' p hk ih=>
  intro w W es q f;simp only[Tm]at f⊢;have l:=pE (P:=P) (k (w.shape? r)) w es;rw[q.shape C (RV l.1 f.1) r p];exact ih (w.shape? r) w W es q f
 |@frozen a k k' p hk ih=>
  intro w W es q f;simp only[Tm]at f⊢;have l:=pE (P:=P) (k (w.frozen? a)) w es;rw[q.frozen C (RV l.1 f.1) a p];exact ih (w.frozen? a) (w.frozen? a) (λ_=>rfl) id w W es q f
 |@freeze a c k _ p hk ih=>
  intro w W es q f;simp only[Tm]at f⊢;have l:=pE (P:=P) k (w.freeze a c) es;have O:w.heap.size=(w.freeze a c).heap.size:=by unfold VY;split<;>simp
  exact ih _ _ es (q.freeze C (by rw[O];exact RV l.1 f.1) a c p) f
 |@load mo a k k' hk ih=>
  intro w W es q f;simp only[Tm]at f⊢;cases hc:w.cell? a with
  |some v=>
   rw[hc]at f;have l:=pE (P:=P) (k v) w (es.push ⟨.cell a,E_,mo == .atomic⟩);have g:=RV l.1 f.1;rw[q.cell C g a (cell_far C q g hc),hc];have:=ih v w W (es.push ⟨.cell a,E_,mo == .atomic⟩) q f;have e:evs π (es.push ⟨.cell a,E_,mo == .atomic⟩)=(evs π es).push ⟨.cell (addr π a),E_,mo == .atomic⟩:=by simp[evs,ev,loc,addr,Ru q hc]
   rw[e]at this;exact this
  |none=>
   rw[hc]at f;simp only at f⊢;cases j:w.farLoad P a (mo == .atomic)with
   |error h=>
    have hk:=Li q.su a _ j;cases h<;>first|trivial|exact absurd rfl (hk.2 _)
   |ok r=>
    obtain⟨v,t⟩:=r;rw[j]at f;have l:=pE (P:=P) (k v) w (es++t.toArray.map (⟨.cell ·,E_,mo == .atomic⟩));have g:=RV l.1 f.1;rw[q.cell C g a (aTh C q g j),hc,XH];rw[aTk C q g a _ j];have:=ih v w W (es++t.toArray.map (⟨.cell ·,E_,mo == .atomic⟩)) q f
    have e:evs π (es++t.toArray.map (⟨.cell ·,E_,mo == .atomic⟩))=evs π es++(t.map (addr π)).toArray.map (⟨.cell ·,E_,mo == .atomic⟩):=by
     rw[Lg];congr 1;have z:=aTj q j;simp only[evs,List.map_toArray,Vs]
     congr 1
     refine SF λy F=>?_
     simp[ev,loc,addr,z y F]
    rw[e]at this;exact this
 |@store mo a v k k' hk ih=>
  intro w W es q f;cases hv:tQ v with
  |true=>
   obtain⟨u,e⟩:=aIo (k:=k) (w:=w) (es:=es) hv;rw[e];trivial
  |false=>
   have E:tQ (val π v)=E_:=by rw[aWh];exact hv
   cases hc:w.cell? a with
   |some x=>
    cases j:w.frozen? a with
    |true=>
     obtain⟨u,e⟩:=aIq (P:=P) (mo:=mo) (k:=k) (es:=es) hv hc j;rw[e];trivial
    |false=>
     rw[Jo hv hc j]at f⊢;have l:=pE (P:=P) k (w.setCell a v) (es.push ⟨.cell a,G_,mo == .atomic⟩);have g:w.heap.size<=m:=by have:=RV l.1 f.1;simpa[World.setCell]using this
     have D:=cell_far C q g hc;have B:W.cell? (addr π a)=A_ (val π x):=by rw[q.cell C g a D,hc];rfl
     have G:W.frozen? (addr π a)=E_:=by rw[q.frozen C g a D];exact j
     rw[Jo E B G];have:=ih _ _ (es.push ⟨.cell a,G_,mo == .atomic⟩) (q.store C g (v:=v) hc) f;have e:evs π (es.push ⟨.cell a,G_,mo == .atomic⟩)=(evs π es).push ⟨.cell (addr π a),G_,mo == .atomic⟩:=by simp[evs,ev,loc,addr,aNx q hc j,Ru q hc]
     rw[e]at this;exact this
   |none=>
    cases j:w.farStore P a v (mo == .atomic)with
    |error h=>
     rw[aIp hv hc j];have hk:=Ll q.su a _ _ j;cases h<;>first|trivial|exact absurd rfl (hk.2 _)
    |ok r=>
     obtain⟨w1,t⟩:=r;rw[Jp hv hc j]at f⊢;have K:=Lj q.su j;have l:=pE (P:=P) k w1 (es++t.toArray.map (⟨.cell ·,G_,mo == .atomic⟩));have g:w.heap.size<=m:=by rw[<-K.1];exact RV l.1 f.1
     obtain⟨_,_,R,h3,Q⟩:=aTp C q g a v _ j;have B:W.cell? (addr π a)=B_:=by rw[q.cell C g a (aTm C q g j),hc];rfl
     rw[Jp E B h3];have:=ih _ _ (es++t.toArray.map (⟨.cell ·,G_,mo == .atomic⟩)) Q f
     have e:evs π (es++t.toArray.map (⟨.cell ·,G_,mo == .atomic⟩))=evs π es++(t.map (addr π)).toArray.map (⟨.cell ·,G_,mo == .atomic⟩):=by
      rw[Lg];congr 1;have z:=aTo q j;have I:=aTq q j;simp only[evs,List.map_toArray,Vs]
      congr 1
      refine SF λy F=>?_
      simp[ev,loc,addr,z y F,I y F]
     rw[e]at this;exact this
 |@new o k k' ho hk ih=>
  intro w W es q f;simp only[Tm]at f⊢;have l:=pE (P:=P) (k w.heap.size) { w with heap:=w.heap.push o } es;have g:w.heap.size+1<=m:=by have:=RV l.1 f.1;simpa using this
  obtain⟨p,q'⟩:=q.more C ho g
  have H:π.gh w.heap.size=E_:=by
   cases hx:π.gh w.heap.size
   ·rfl
   ·have:=C.gone _ hx;omega
  have:=ih w.heap.size H _ _ es q' f;rw[p]at this;exact this
 |@getObj r k k' hk ih=>
  intro w W es q f;cases hv:π.vg r;rotate_left 1
  ·exact aC0 (π.BA _ hv) (by simp only[Tm,q.BQ C (RV (pE (P:=P) _ w es).1 f.1) hv];trivial) f
  simp only[Tm]at f⊢;cases hb:w.heap[r]? with
  |none=>trivial
  |some o=>
   rw[hb]at f;have hn:=q.su r o hb;have p:=(Sb.1 hb).1;have e:=q.blk r p hv;rw[hb]at e;rw[e]
   have e2:evs π (es.push ⟨.obj r,E_,o.isChan⟩)=(evs π es).push ⟨.obj (π.b r),E_,(obj π o).isChan⟩:=by
    cases o<;>simp[evs,ev,loc,obj,Obj.isChan,hv]
   have:=ih o hn w W (es.push ⟨.obj r,E_,o.isChan⟩) q;rw[e2]at this;cases o with
   |cells c el fr=>trivial
   |pending=>cases hn
   |_=>exact this f
 |@setObj r o k k' ho hk ih=>
  intro w W es q f;cases hv:π.vg r;rotate_left 1
  ·exact aC0 (π.BA _ hv) (by simp only[Tm,q.BQ C (RV (pE (P:=P) _ w es).1 f.1) hv];trivial) f
  simp only[Tm]at f⊢;cases hb:w.heap[r]? with
  |none=>trivial
  |some o'=>
   rw[hb]at f;have p:=(Sb.1 hb).1;have e:=q.blk r p hv;rw[hb]at e;rw[e]
   have e2:π.wb r=π.b r->evs π (es.push ⟨.obj r,G_,o.isChan⟩)=(evs π es).push ⟨.obj (π.b r),G_,(obj π o).isChan⟩:=by
    intro z;cases o<;>simp[evs,ev,loc,obj,Obj.isChan,z,hv]
   have l:=pE (P:=P) k { w with heap:=w.heap.setIfInBounds r o } (es.push ⟨.obj r,G_,o.isChan⟩);cases o' with
   |cells c el fr=>trivial
   |_=>
    have g:w.heap.size<=m:=by have:=RV l.1 f.1;simpa using this
    have z:π.wb r=π.b r:=bAn q hb s7;have:=ih _ _ (es.push ⟨.obj r,G_,o.isChan⟩) (q.turn C p hv ho g λh=>absurd z h) f;rw[e2 z]at this;exact this
def xP(C:PC π n N m):rO (λw p=>p w) (JQ m d) P π (QC π n N d d0 D0 W0) where
 mY:=aYz
 two:=by
  intro α β γ δ A B s s' f f' w W h hk o q;have h1:=Ot C h w W #[] q;have g:=o.one w #[] q.su;rw[Bt]at h1;unfold Fq;have u:=o.two w;generalize D:s.runT P w #[]=x at h1 g⊢;obtain⟨r,es⟩:=x;cases r with
  |ok a w1=>
   have c:=u w1 #[] es a q.su D w1 #[] g.np;refine⟨c.ok,λi=>?_⟩;have j:JQ m d w1:=⟨RV c.size i.1,RV c.drawn i.2⟩;rcases h1 j with z|⟨b,k,e,l,E⟩
   ·exact .inl z
   refine .inr ⟨b,k,e,l,?_⟩;have h2:=Ot C (hk a b l) w1 k #[] E;rw[Bt]at h2;unfold xM;generalize(f a).runT P w1 #[]=y at h2 c i⊢;obtain⟨F,t⟩:=y;cases F with
   |ok a2 w2=>exact h2
   |halt hh w2=>
    cases hh with
    |panic v=>exact h2
    |_=>exact c.ok
  |halt hh w1=>
   cases hh with
   |panic v=>exact h1
   |_=>exact g.ok
def eO(L:dW)(s:Bool)(β:Nat->Nat):Ren:=
 { b:=id,f:=id,m:=id,bad:=λ_=>E_,c:=id,fs:=λf=>L.fs f=G_,ms:=λn=>L.ms n=G_,asym:=s,wb:=β }
abbrev fO(L:dW)(s:Bool):Ren:=eO L s id
def aLb(a:J_):addr (eO L s β) a=a:=rfl
def aFv(a:Option J_):a.map (addr (eO L s β))=a:=by cases a<;>rfl
def Iq(a:Option Nat):a.map (eO L s β).b=a:=by cases a<;>rfl
def aB9(g:Fn):fn (eO L s β) g=g:=by cases g<;>rfl
def pU(v:D_):val (eO L s β) v=v:=by
 match v with
 | .pointer a=>rw[dI,aFv]
 | .slice a l c=>rw[gD,aFv]
 | .map r=>rw[gT,Iq]
 | .chan r=>rw[iY,Iq]
 | .func g first captured=>
  rw[gM,aB9]
  have h1:vals (eO L s β) first=first:=by
   unfold vals
   conv=>rhs;rw[<-XT first]
   exact Tw λx hx=>pU x
  have h2:vals (eO L s β) captured=captured:=by
   unfold vals
   conv=>rhs;rw[<-XT captured]
   exact Tw λx hx=>pU x
  rw[h1,h2]
 | .iface t v=>rw[fM,pU v]
 | .agg cs=>
  rw[fq]
  have h1:vals (eO L s β) cs=cs:=by
   unfold vals
   conv=>rhs;rw[<-XT cs]
   exact Tw λx hx=>pU x
  rw[h1]
 | .tuple cs=>
  rw[gN]
  have h1:vals (eO L s β) cs=cs:=by
   unfold vals
   conv=>rhs;rw[<-XT cs]
   exact Tw λx hx=>pU x
  rw[h1]
 | .bool b=>simp
 | .int k n=>simp
 | .float k n=>simp
 | .complex k n m=>simp
 | .string s=>simp
 | .nilFunc=>simp
 | .nilIface=>simp
 termination_by SizeOf.sizeOf v
 decreasing_by
  all_goals simp_wf
  all_goals first|(have:=Array.sizeOf_lt_of_mem hx;omega)|omega
def uI(c:Array D_):vals (eO L s β) c=c:=by
 unfold vals
 conv=>rhs;rw[<-XT c]
 exact Tw λx a=>pU x
def bHb(t:Target):target (eO L s β) t=t:=by
 cases t with
 |fn f c=>simp only[target,aB9,uI]
 |_=>rfl
def FU(d:Deferred):deferred (eO L s β) d=d:=by
 obtain⟨t,a⟩:=d;simp only[deferred,bHb,uI]
def Eb(o:Obj):obj (eO L s β) o=o:=by
 cases o with
 |cells c e f=>simp only[obj,uI]
 |pending c e=>simp only[obj,uI]
 |map es c=>
  simp only[obj]
  have:es.map (entry (eO L s β))=es:=by
   conv=>rhs;rw[<-XT es]
   refine Tw λx _=>?_
   simp only[entry,pU]
  rw[this]
 |chan=>simp only[obj,uI]
 |mapIter=>simp only[obj,Iq]
 |loop l=>
  simp only[obj,loop,uI];have:l.pending.map (eO L s β).c=l.pending:=by cases l.pending<;>rfl
  rw[this];rfl
 |deferred cs=>
  simp only[obj]
  have:cs.map (·.map (deferred (eO L s β)))=cs:=by
   cases cs with
   |none=>rfl
   |some l=>
    simp only[Si]
    congr 1
    conv=>rhs;rw[<-List.map_id' l]
    exact SF λx _=>FU x
  rw[this]
 |finalizers fs r=>
  simp only[obj]
  have:(fs.map λx=>((eO L s β).b x.1,deferred (eO L s β) x.2))=fs:=by
   conv=>rhs;rw[<-XT fs]
   refine Tw λx _=>?_
   simp only[FU];rfl
  rw[this]
 |_=>rfl
def aYg(m:Mark):mark (eO L s β) m=m:=by cases m<;>rfl
def aS4(e:K_):ev (fO L s) e=e:=by
 obtain⟨l,wr,a⟩:=e;cases l with
 |mark m=>
  simp only[ev,loc,aYg]
  congr 1
  split
  ·rfl
  ·rfl
 |_=>cases wr<;>rfl
def zL(es:Array K_):evs (fO L s) es=es:=by
 unfold evs
 conv=>rhs;rw[<-XT es]
 exact Tw λx _=>aS4 x
def aSr(e:PanicEntry):nN (eO L s β) e=e:=by
 obtain⟨v,r,g⟩:=e;simp only[nN,pU]
def aWm(x:Item):item (eO L s β) x=x:=by
 cases x with
 |call d w r a=>simp only[item,FU,uI];rfl
 |extern r a=>simp only[item,uI];rfl
 |_=>rfl
def aCr(fr:I_):frame (eO L s β) fr=fr:=by
 obtain⟨f,t,td,df,md,kd,a⟩:=fr
 have h1:td.map (item (eO L s β))=td:=by
  conv=>rhs;rw[<-List.map_id' td]
  exact SF λx _=>aWm x
 have h2:df.map (deferred (eO L s β))=df:=by
  conv=>rhs;rw[<-List.map_id' df]
  exact SF λx _=>FU x
 have h3:mode (eO L s β) md=md:=by
  cases md with
  |panicking ch=>
   have:ch.map (nN (eO L s β))=ch:=by
    conv=>rhs;rw[<-List.map_id' ch]
    exact SF λx _=>aSr x
   simp only[mode,this]
  |_=>rfl
 simp only[frame,uI,h1,h2,h3,Iq];rfl
def aUr(cs:List I_):cs.map (frame (eO L s β))=cs:=by
 conv=>rhs;rw[<-List.map_id' cs]
 exact SF λx _=>aCr x
def wB(C:List I_)(fr:I_)(cs:List I_):comp (eO L s β) C { frame:=fr,callers:=cs,status:=.running,dying:=B_ }={ frame:=fr,callers:=cs++C,status:=.running,dying:=B_ }:=by
 simp only[comp,aCr,aUr]
def FF(f f':Nat×Nat):Prop:=f'.1=f'.2\/(f.1<=f'.1/\f'.2<=f.2/\f'.1<f'.2)
def GG(f f':Nat×Nat):Prop:=f'=f\/(f'.1<f'.2/\(f.1=f.2\/(f'.1<=f.1/\f.2<=f'.2)))
def Lo(o o':Obj):Prop:=o'=o\/∃c e f f',o=.cells c e f/\o'=.cells c e f'/\FF f f'
structure QA(n:Nat)(W0 w W:C_):Prop where
 size:W.heap.size=w.heap.size
 blk:∀(b:Nat) (o:Obj),w.heap[b]? = A_ o->∃o',W.heap[b]? = A_ o'/\Lo o o'
 np:NP w
 ny:W.tape=W0.tape
 os:W.os=w.os
 qA:W.os=W0.os
 out:W.output=W0.output
 old:∀b:Nat,b<n->∃c e f f' f0,w.heap[b]? = A_ (.cells c e f)/\FZ c f/\W.heap[b]? = A_ (.cells c e f')/\W0.heap[b]? = A_ (.cells c e f0)/\GG f0 f'
def nO(f:Nat×Nat)(o k:Nat):Nat×Nat:=if f.1 == f.2 then(o,o+k)else(min f.1 o,max f.2 (o+k))
def FF.nO{f f':Nat×Nat}(h:FF f f'){o k:Nat}(c:k≠0):FF (nO f o k) (nO f' o k):=by
 obtain⟨a,b⟩:=f;obtain⟨a',b'⟩:=f';unfold FF Rn.nO at *
 by_cases h1:a=b<;>by_cases h2:a'=b'<;>simp[h1,h2]at h⊢<;>omega
def GG.nO{f f':Nat×Nat}(h:GG f f'){o k:Nat}(hk:k≠0):GG f (nO f' o k):=by
 obtain⟨a,b⟩:=f;obtain⟨a',b'⟩:=f';unfold GG Rn.nO at *;simp only[Prod.mk.injEq]at h
 by_cases h2:a'=b'<;>simp[h2]at h⊢<;>omega
def GG.anti{f f':Nat×Nat}(h:GG f f')(c:GG f' f):f'=f:=by
 obtain⟨a,b⟩:=f;obtain⟨a',b'⟩:=f';unfold GG at *;simp only[Prod.mk.injEq]at h c⊢;omega
def FZ.nO{c:Array D_}{f:Nat×Nat}(h:FZ c f){o k:Nat}:FZ c (nO f o k):=by
 obtain⟨a,b⟩:=f;unfold FZ Rn.nO at *
 by_cases h0:c.size=0
 ·exact .inl h0
 ·refine .inr ?_;have:(a == b)=E_:=by simp;omega
  simp only[this,SE,if_false];omega
def QA.none(h:QA n W0 w W){b:Nat}(e:w.heap[b]? = B_):W.heap[b]? = B_:=by
 rw[Array.getElem?_eq_none_iff]at e⊢;rw[h.size];exact e
def QA.cell(h:QA n W0 w W)(a:J_):W.cell? a=w.cell? a:=by
 unfold SS;cases hb:w.heap[a.block]? with
 |none=>rw[h.none hb]
 |some o=>
  obtain⟨g,e,b⟩:=h.blk _ _ hb;rw[e];rcases b with rfl|⟨c,d,f,f',rfl,rfl,_⟩<;>rfl
def QA.shape{n:Nat}{W0 w W:C_}(h:QA n W0 w W)(r:Nat):W.shape? r=w.shape? r:=by
 unfold World.shape?;cases hb:w.heap[r]? with
 |none=>rw[h.none hb]
 |some o=>
  obtain⟨d,e,a⟩:=h.blk _ _ hb;rw[e];rcases a with rfl|⟨c,b,f,f',rfl,rfl,_⟩<;>rfl
def QA.frozen{n:Nat}{W0 w W:C_}(h:QA n W0 w W)(a:J_)(d:W.frozen? a=G_):w.frozen? a=G_:=by
 unfold WH at d⊢;cases hb:w.heap[a.block]? with
 |none=>rw[h.none hb]at d;cases d
 |some o=>
  obtain⟨k,e,g⟩:=h.blk _ _ hb;rw[e]at d;rcases g with rfl|⟨c,j,⟨lo,hi⟩,⟨i,f⟩,rfl,rfl,b⟩
  ·exact d
  ·simp only[SV,decide_eq_true_eq]at d⊢;rcases b with b|b<;>simp only at b<;>omega
def QA.turn(h:QA n W0 w W){g:Obj}(j:r<w.heap.size)(s:Lo o g)(ho:Rn.np o=G_)(t:r<n->∃c e f f' i,o=.cells c e f/\g=.cells c e f'/\FZ c f/\W.heap[r]? = A_ (.cells c e i)/\∀d,GG d i->GG d f'):
  QA n W0 { w with heap:=w.heap.setIfInBounds r o } { W with heap:=W.heap.setIfInBounds r g }:=by
 have l:r<W.heap.size:=by rw[h.size];exact j
 refine⟨by simpa using h.size,λb x a=>?_,h.np.set ho,h.ny,h.os,h.qA,h.out,λb a=>?_⟩
 ·by_cases e:r=b
  ·subst e;simp only[Array.getElem?_setIfInBounds_self_of_lt j,Option.some.injEq]at a;subst a;exact⟨g,by simp[l],s⟩
  ·simp only[Sg e]at a⊢;exact h.blk b x a
 ·by_cases e:r=b
  ·subst e;obtain⟨c,e,f,f',i,rfl,rfl,h1,h2,h3⟩:=t a;obtain⟨u,e2,v,m,d,_,_,k,p,q⟩:=h.old r a;rw[h2]at k;cases k;exact⟨c,e,f,f',d,by simp[j],h1,by simp[l],p,h3 _ q⟩
  ·simp only[Sg e];exact h.old b a
def QA.more(h:QA n W0 w W)(ho:Rn.np o=G_):QA n W0 { w with heap:=w.heap.push o } { W with heap:=W.heap.push o }:=by
 refine⟨by simpa using h.size,λb x a=>?_,h.np.push ho,h.ny,h.os,h.qA,h.out,λb a=>?_⟩
 ·simp only[VT,h.size]at a⊢;split at a
  ·next e=>cases a;exact⟨o,by simp[e],.inl rfl⟩
  ·next e=>
   obtain⟨j,h1,h2⟩:=h.blk b x a;exact⟨j,by simp[e,h1],h2⟩
 ·obtain⟨c,e,f,f',d,h1,h2,h3,g,i⟩:=h.old b a;have k:=(Sb.1 h1).1;have l:=(Sb.1 h3).1;refine⟨c,e,f,f',d,?_,h2,?_,g,i⟩
  ·simp only[VT,show b≠w.heap.size by omega,if_false];exact h1
  ·simp only[VT,show b≠W.heap.size by omega,if_false];exact h3
def QA.store{n:Nat}{W0 w W:C_}(h:QA n W0 w W){a:J_}{x v:D_}(b:w.cell? a=A_ x)(g:w.frozen? a=E_):QA n W0 (w.setCell a v) (W.setCell a v):=by
 unfold SS at b;unfold WH at g;cases hb:w.heap[a.block]? with
 |none=>rw[hb]at b;cases b
 |some o=>
  rw[hb]at b g;obtain⟨s,e,q⟩:=h.blk _ _ hb;have r:=(Sb.1 hb).1;cases o with
  |cells c el fr=>
   have d:∀f',s=.cells c el f'->Lo (.cells (if a.spot.isSome then c else c.setIfInBounds a.off v) el fr) (.cells (if a.spot.isSome then c else c.setIfInBounds a.off v) el f')->QA n W0 (w.setCell a v) (W.setCell a v):=by
    intro f' l p;subst l;unfold World.setCell;rw[wU _ _ _ hb,wU _ _ _ e];refine h.turn r p rfl λj=>?_
    exfalso;obtain⟨k,e2,u,m,t,h1,h2,_⟩:=h.old _ j;rw[hb]at h1;cases h1;simp only at b g;split at b
    ·cases b
    ·have:=(Sb.1 b).1;obtain⟨lo,hi⟩:=fr;simp only[Bool.and_eq_false_iff,decide_eq_false_iff_not]at g;rcases h2 with y|⟨h1,h2⟩
     ·omega
     ·simp only at h1 h2;omega
   rcases q with rfl|⟨k,e2,f,f',h1,h2,i⟩
   ·exact d fr rfl (.inl rfl)
   ·cases h1;exact d f' h2 (.inr ⟨_,_,_,_,rfl,rfl,i⟩)
  |_=>simp at b
def aCw{W:C_}{k:Nat}{c:Array D_}{b:RZ}{f:Nat×Nat}(hk:k≠0)(d:W.heap[a.block]? = A_ (.cells c b f)):W.freeze a k={ W with heap:=W.heap.setIfInBounds a.block (.cells c b (nO f a.off k)) }:=by
 unfold VY;rw[RD hk,wU _ _ _ d];rfl
def aCx{W:C_}{k:Nat}(b:W.heap[a.block]? = A_ o)(ho:∀c e f,o≠.cells c e f):W.freeze a k={ W with heap:=W.heap.setIfInBounds a.block o }:=by
 unfold VY;split
 ·have:W.heap.setIfInBounds a.block o=W.heap:=by
   apply Vg;intro j;rw[WI]
   by_cases e:a.block=j
   ·subst e;have:=(Sb.1 b).1;rw[b];simp[this]
   ·simp[e]
  rw[this]
 ·rw[wU _ _ _ b];cases o<;>first|rfl|exact absurd rfl (ho _ _ _)
def aCv{W:C_}{k:Nat}(b:W.heap[a.block]? = B_):W.freeze a k=W:=by
 unfold VY;split
 ·rfl
 ·rw[Hy _ _ _ b]
def QA.freeze{n:Nat}{W0 w W:C_}(h:QA n W0 w W)(a:J_)(k:Nat):QA n W0 (w.freeze a k) (W.freeze a k):=by
 by_cases hk:k=0
 ·subst hk;exact h
 cases hb:w.heap[a.block]? with
 |none=>rw[aCv hb,aCv (h.none hb)];exact h
 |some o=>
  obtain⟨u,e,p⟩:=h.blk _ _ hb;have q:=(Sb.1 hb).1;have hn:=h.np _ _ hb;cases o with
  |cells c el f=>
   have g:∀f',u=.cells c el f'->Lo (.cells c el (nO f a.off k)) (.cells c el (nO f' a.off k))->QA n W0 (w.freeze a k) (W.freeze a k):=by
    intro f' r s;subst r;rw[aCw hk hb,aCw hk e];refine h.turn q s rfl λb=>?_
    obtain⟨i,e2,j,l,m,h1,h2,_⟩:=h.old _ b;rw[hb]at h1;cases h1;exact⟨_,_,_,_,f',rfl,rfl,h2.nO,e,λm t=>t.nO hk⟩
   rcases p with rfl|⟨i,e2,j,f',h1,h2,d⟩
   ·exact g f rfl (.inl rfl)
   ·cases h1;exact g f' h2 (.inr ⟨_,_,_,_,rfl,rfl,d.nO hk⟩)
  |_=>
   rcases p with rfl|⟨i,e2,j,f',h1,h2,d⟩
   ·rw[aCx hb s7,aCx e s7];refine h.turn q (.inl rfl) hn λb=>?_
    exfalso;obtain⟨i,e2,j,l,m,h1,h2,_⟩:=h.old _ b;rw[hb]at h1;cases h1
   ·cases h1
def aH1(h:QA n W0 w W)(a k:J_)(u:RZ)(x:Bool):(∃e,w.seen P a u k x=.error e/\W.seen P a u k x=.error e)\/
  ∃c e f f' r,w.seen P a u k x=.ok (c,e,f,r)/\W.seen P a u k x=.ok (c,e,f',r)/\W.heap[a.block]? = A_ (.cells c e f')/\(f'=f\/FF f f'):=by
 unfold World.seen;cases hs:(k.spot.isSome || a.spot.isSome);rotate_left 1
 ·exact .inl ⟨_,rfl,rfl⟩
 simp only[SE,if_false];cases plainCell P P.depth u k.off with
 |none=>exact .inl ⟨_,rfl,rfl⟩
 |some like=>
  simp only;cases like.bytes? with
  |none=>exact .inl ⟨_,rfl,rfl⟩
  |some bs=>
   simp only[Si];cases byteOfCell P P.depth u k.off with
   |none=>exact .inl ⟨_,rfl,rfl⟩
   |some β=>
    simp only;cases hb:w.heap[a.block]? with
    |none=>rw[h.none hb];exact .inl ⟨_,rfl,rfl⟩
    |some o=>
     obtain⟨g,p,q⟩:=h.blk _ _ hb;rw[p]
     have j:(g=o/\∀c e f,o≠.cells c e f)\/∃c e f f',o=.cells c e f/\g=.cells c e f'/\(f'=f\/FF f f'):=by
      rcases q with rfl|⟨c,e,f,f',h1,h2,h3⟩
      ·cases g with
       |cells c e f=>exact .inr ⟨_,_,_,_,rfl,rfl,.inl rfl⟩
       |_=>exact .inl ⟨rfl,by simp⟩
      ·exact .inr ⟨_,_,_,_,h1,h2,.inr h3⟩
     rcases j with⟨rfl,hn⟩|⟨c,b,f,f',rfl,rfl,d⟩
     ·cases g<;>first|exact absurd rfl (hn _ _ _)|exact .inl ⟨_,rfl,rfl⟩
     ·simp only
      by_cases h0:P.cellsOf b=0
      ·simp only[h0,if_true];exact .inl ⟨_,rfl,rfl⟩
      ·simp only[h0,if_false];cases byteOfCell P P.depth b (a.off % P.cellsOf b)with
       |none=>exact .inl ⟨_,rfl,rfl⟩
       |some b0=>
        simp only;cases seenCells P c b (bs.length+1) (a.off / P.cellsOf b*P.bytesOf b+b0+β) (a.off / P.cellsOf b*P.bytesOf b+b0+β+bs.length)with
        |error _=>exact .inl ⟨_,rfl,rfl⟩
        |ok cells=>
         cases x
         ·exact .inr ⟨_,_,_,_,_,rfl,rfl,rfl,d⟩
         ·rcases cells with _|⟨⟨i,s,m⟩,_|⟨y,l⟩⟩
          ·exact .inl ⟨_,rfl,rfl⟩
          ·simp only[bind,VI,if_true];split
           ·exact .inl ⟨_,rfl,rfl⟩
           ·exact .inr ⟨_,_,_,_,_,rfl,rfl,rfl,d⟩
          ·exact .inl ⟨_,rfl,rfl⟩
def aTi(h:QA n W0 w W)(a:J_)(x:Bool)(e:w.farLoad P a x=.ok (v,t)):W.farLoad P a x=.ok (v,t):=by
 unfold Zk at e⊢;cases hb:w.heap[a.block]? with
 |none=>rw[hb]at e;cases e
 |some o=>
  rw[hb]at e;obtain⟨i,b,d⟩:=h.blk _ _ hb;rw[b];cases o<;>try(cases e;done)
  next a' u=>
  rcases d with rfl|⟨_,_,_,_,h1,_⟩
  ·simp only at e⊢
   have:W.viewLoad P a' u a x=w.viewLoad P a' u a x:=by
    unfold World.viewLoad;rcases aH1 h a' a u x with⟨e1,h1,h2⟩|⟨c,g,f,f',r,h1,h2,_⟩
    ·rw[h1,h2]
    ·rw[h1,h2];rfl
   rw[this];exact e
  ·cases h1
def aCe{X:Type}{f g:Array D_->X->Except String (Array D_)}(h:∀c x c1,f c x=.ok c1->g c x=.ok c1):∀(l:List X) (c c1:Array D_),l.foldlM f c=.ok c1->l.foldlM g c=.ok c1
 |[],c,c1,e=>by cases e;rfl
 |x::l,c,c1,e=>by
  simp only[YI,bind,VI]at e⊢;cases hf:f c x with
  |error _=>rw[hf]at e;cases e
  |ok c2=>
   rw[hf]at e;rw[h c x c2 hf];exact aCe h l c2 c1 e
def bIf(h:QA n W0 w W)(a k:J_)(u:RZ)(v:D_)(x:Bool)(e:w.viewStore P a u k v x=.ok (w1,t)):
  ∃W1,W.viewStore P a u k v x=.ok (W1,t)/\QA n W0 w1 W1/\w1.tape=w.tape/\w1.drawn=w.drawn:=by
 have G:=λo ho=>Pz (o:=o) e ho
 unfold Wt at e⊢;cases ht:tight P P.depth u with
 |false=>rw[ht]at e;cases e
 |true=>
  rw[ht]at e;simp only[Va,SE,if_false]at e⊢;rcases aH1 h a k u x with⟨e1,h1,h2⟩|⟨c,q,f,f',⟨first,like,cells⟩,h1,h2,H,b⟩
  ·rw[h1]at e;cases e
  ·have s:=yN h1;rw[h1]at e;rw[h2];simp only[bind,VI]at e⊢;cases hv:v.bytes? with
   |none=>rw[hv]at e;cases e
   |some bs=>
    rw[hv]at e
    by_cases A:A_ bs.length≠like.bytes?.map (·.length)
    ·simp only[A,ne_eq,not_false_eq_true,if_true]at e;cases e
    ·simp only[A,if_false]at e⊢;split at e
     ·cases e
     ·next c1 heq=>
      cases e;have K:=(Sb.1 s).1
      have i:Lo (.cells c1 q f) (.cells c1 q f'):=by
       rcases b with rfl|b
       ·exact .inl rfl
       ·exact .inr ⟨_,_,_,_,rfl,rfl,b⟩
      refine⟨_,?_,h.turn K i rfl λj=>?_,rfl,rfl⟩
      ·rw[aCe ?_ cells c c1 heq]
       ·rfl
       ·intro L y C d
        by_cases r:(decide (y.2.fst<first) || decide (y.2.fst+y.2.snd.length>first+bs.length))=G_
        ·simp only[r,if_true]at d;cases d
        ·simp only[r]at d⊢
         by_cases g:(decide (f.fst<=y.fst)&& decide (y.fst<f.snd))=G_
         ·simp only[g,if_true]at d;cases d
         ·have F:¬(decide (f'.fst<=y.fst)&& decide (y.fst<f'.snd))=G_:=by
           rcases b with rfl|b
           ·exact g
           ·simp only[SV,decide_eq_true_eq]at g⊢;rcases b with b|b<;>omega
          simp only[g]at d;simp only[F];exact d
      ·obtain⟨C,e2,M,E,D,m,B,N,O,Q⟩:=h.old _ j;have p:=m;rw[s]at m;cases m;have ho:=G _ p
       have I:cells=[]:=by
        cases cells with
        |nil=>rfl
        |cons z l=>exact absurd ⟨_,_,_,rfl,B⟩ (ho _ (List.mem_cons_self)).2
       subst I;cases heq;exact⟨_,_,_,_,f',rfl,rfl,B,H,λD J=>J⟩
def aTn(h:QA n W0 w W)(a:J_)(v:D_)(x:Bool)(e:w.farStore P a v x=.ok (w1,t)):
  ∃b,W.farStore P a v x=.ok (b,t)/\QA n W0 w1 b/\w1.tape=w.tape/\w1.drawn=w.drawn:=by
 unfold Wp at e⊢;cases hb:w.heap[a.block]? with
 |none=>rw[hb]at e;cases e
 |some o=>
  rw[hb]at e;obtain⟨i,c,d⟩:=h.blk _ _ hb;rw[c];cases o<;>try(cases e;done)
  next a' u=>
  rcases d with rfl|⟨_,_,_,_,h1,_⟩
  ·simp only at e⊢;cases hv:w.viewStore P a' u a v x with
   |error _=>rw[hv]at e;cases e
   |ok r=>
    rw[hv]at e;cases e;obtain⟨b,f,g⟩:=bIf h _ _ _ _ _ hv;exact⟨b,by rw[f],g⟩
  ·cases h1
def bIj(w:C_)(τ:Nat->UD->Nat)(a k:J_)(u:RZ)(v:D_)(x:Bool):Wt P { w with tape:=τ } a u k v x=(w.viewStore P a u k v x).map λr=>({ r.1 with tape:=τ },r.2):=by
 unfold Wt;have d:World.seen P { w with tape:=τ } a u k x=w.seen P a u k x:=rfl;rw[d];cases tight P P.depth u
 ·rfl
 ·simp only[Va,SE,if_false];cases w.seen P a u k x with
  |error _=>rfl
  |ok r=>
   obtain⟨c,e,f,first,like,cells⟩:=r;simp only[bind,VI];cases v.bytes? with
   |none=>rfl
   |some bs=>
    by_cases b:A_ bs.length≠like.bytes?.map (·.length)
    ·simp only[b,ne_eq,not_false_eq_true,if_true];rfl
    ·simp only[b,if_false];split<;>rfl
def aBw(w:C_)(τ:Nat->UD->Nat)(a:J_)(v:D_)(x:Bool):Wp P { w with tape:=τ } a v x=(w.farStore P a v x).map λr=>({ r.1 with tape:=τ },r.2):=by
 unfold Wp;cases w.heap[a.block]? with
 |none=>rfl
 |some o=>
  cases o<;>try rfl
  simp only;rw[bIj];cases Wt P w _ _ a v x<;>rfl
end Go.Rn
