/- DeskAnswers -/
import Derived.Test.YtaelphbianmckaaGreatDoorSK
import Derived.Test.YtaelphbianmckaaGreatDoorSL
open Go.Value renaming int->U, pointer->E, slice->J
open Go.IntKind renaming i64->G
open Go.Obj renaming cells->R
open Go.Ending renaming returned->Y
open Go.Proofs.Tryz
open Go.RowKit.Below renaming refl->aF
open Bool renaming and_eq_true_iff->aW
open Int renaming le_refl->bP
open List renaming mem_append->bQ, mem_singleton->bC, length_append->aN, mem_cons_self->aK, mem_cons_of_mem->aQ, mem_append_left->bY, mem_append_right->cG, mem_of_mem_take->dT, mem_of_mem_drop->fO, length_take->bF, eq_nil_of_length_eq_zero->dQ, append_assoc->dG, mem_cons->aR, replicate->gH, take_succ_eq_append_getElem->aM, take_length->bI, mem_map->bH, not_mem_nil->cL, length_cons->aZ, length_map->bU
open Nat renaming le_trans->aI, zero_le->aO, le_succ->cH, le_add_right->bV, zero_add->bT
open Or renaming inl->aH, inr->aG
open Go.Proofs.YtaelphbianmckaaGreatDoor.Out renaming refl->bL
open Go.Value.slice renaming injEq->aY
open Go.Proofs.YtaelphbianmckaaGreatDoor.Went renaming refl->aJ
set_option maxHeartbeats 4000000
set_option maxRecDepth 8000
namespace Go.Proofs.YtaelphbianmckaaGreatDoor
variable {l:List Int} {L:List Ord} {M:Mkt} {a:Nat} {o x:Ord} {w:World}
section
open Go.RowKit
theorem cA1 (o:Ord):(lieO o).kind=o.kind:=by unfold lieO;split <;> rfl
theorem hN1 (o:Ord):(lieO o).qty=o.qty:=by unfold lieO;split <;> rfl
theorem yC0 (h:x∈addL o L):x∈L\/x=lieO o:=by
 unfold addL at h;split at h
 ·rcases bQ.1 h with h | h
  ·exact aH h
  ·exact aG (bC.1 h)
 ·exact aH h
theorem yD0 (o:Ord) (L:List Ord):(addL o L).length<=L.length+1:=by
 unfold addL;split
 ·rw [aN];exact lR7
 ·omega
theorem yE0 {x:Ord}:∀{P L:List Ord},x∈layL P L->x∈L\/∃o∈P,x=lieO o
 | [],_,h=>aH h
 | o::P,L,h=>by
  rcases yE0 (P:=P) (L:=addL o L) h with h | ⟨q,a,e⟩
  ·rcases yC0 h with h | h
   ·exact aH h
   ·exact aG ⟨o,aK ..,h⟩
  ·exact aG ⟨q,aQ _ a,e⟩
theorem hQ1:∀(P L:List Ord),(layL P L).length<=L.length+P.length
 | [],_=>lR7
 | o::P,L=>by
  have h1:=hQ1 P (addL o L);have a:=yD0 o L;show (layL P (addL o L)).length<=L.length+(P.length+1);omega
section
variable {M:Mkt} {lots side:Int->Int} {since:Int} {hands:Bool}
theorem gW0 (h:DayInv M lots side since hands) {M':Mkt} (a:M'.ph=M.ph):fG0 M' since=since:=by
 unfold fG0;rw [a]
 by_cases e:M.ph=4
 ·rw [aB e]
 ·rw [aA e,h.sn.2 e]
theorem DayA.clos (h:DayA M lots side) (d:(phaseV M.rs M.now).1=5):DayInv (kC0 M) lots side 0 hands:=by
 have hk:eN0 lots side (layL M.P M.L):=fun x a=>by
  rcases yE0 a with a | ⟨o,b,e⟩
  ·exact h.kp x (bY _ a)
  ·have:=h.kp o (cG _ b);rw [e,iT0,nH0,hN1];exact this
 refine ⟨⟨h.tab,h.rl,h.an,h.la,h.sh,h.ti,h.mo,h.lo,h.now,by show eN0 lots side (layL M.P M.L++[]);rw [List.append_nil];exact hk,fun x a=>?_,(fun x _ y f=>by cases f),(fun x a=>by cases a),?_,h.lb⟩,aG (aG d.symm),fun e=>absurd e (by show ¬(phaseV M.rs M.now).1=7;omega),(fun e=>absurd (show (5:Int)=7 from e) d7),(fun e=>absurd (show (5:Int)=3 from e) d7),(fun _ e=>absurd (show (5:Int)=4 from e) d7),⟨bP 0,fun _=>rfl⟩⟩
 ·have c:x∈layL M.P M.L:=by simpa [kC0,layL] using a
  rcases yE0 c with a | ⟨o,b,e⟩
  ·exact h.idI x (bY _ a)
  ·rw [e,iT0];exact h.idI o (cG _ b)
 ·have h1:=hQ1 M.P M.L;have g:=h.few;show (layL M.P M.L).length+0<=100;omega
theorem DayA.res (h:DayA M lots side) (s:LOk M.L) (w:(phaseV M.rs M.now).1=3):fM0 side lots (resM M).1/\DayInv (resM M).2 (cA0 lots (resM M).1) side 0 hands:=by
 obtain ⟨h1,p,q,j,r⟩:=bL1 s h.la (h.kp.sub (fun x c=>bY _ c));have k:0<(aI0 M).qty->1<=(aI0 M).price/\(aI0 M).price<=1000000:=fun g=>iC0 s h.la g
 have d:(uncM M).2.L.length<=M.L.length:=by
  rw [xT0];show (limL (uncA M).2.L).length<=M.L.length;exact aI (List.length_filter_le _ _) (eP1 s).2
 have t:eN0 (cA0 lots (uncM M).1) side M.P:=nE0 (fun f Q x c=>by
  obtain ⟨⟨a,K,F⟩,⟨b,O,G⟩⟩:=r f Q;exact ⟨by rw [<-F];exact h.dis a K x c,by rw [<-G];exact h.dis b O x c⟩) (h.kp.sub (fun x c=>cG _ c))
 have e:(uncM M).2.rs=M.rs/\(uncM M).2.P=M.P/\(uncM M).2.I=M.I/\(uncM M).2.st=M.st/\(uncM M).2.dy=M.dy/\(uncM M).2.ti=M.ti/\(uncM M).2.mo=M.mo/\(uncM M).2.lo=M.lo/\(uncM M).2.now=M.now/\(1<=(uncM M).2.an/\(uncM M).2.an<=1000000)/\(1<=(uncM M).2.la/\(uncM M).2.la<=1000000):=by
  unfold uncM
  by_cases g:0<(aI0 M).qty
  ·rw [aB g];exact ⟨rfl,rfl,rfl,rfl,rfl,rfl,rfl,rfl,rfl,k g,k g⟩
  ·rw [aA g];exact ⟨rfl,rfl,rfl,rfl,rfl,rfl,rfl,rfl,rfl,h.an,h.la⟩
 unfold resM;generalize uncM M=um at h1 p q j r d t e;obtain ⟨fs,N⟩:=um;dsimp only at h1 p q j r d t e ⊢;obtain ⟨l,i,A,B,C,D,v,E,o,m,n⟩:=e;refine ⟨h1,⟨⟨by show tabE N.rs=_;rw [l];exact h.tab,by show N.rs.length<=60;rw [l];exact h.rl,m,n,by show (0<=N.st/\N.st<=10000)/\(0<=N.dy/\N.dy<=10000);rw [B,C];exact h.sh,by show 1<=N.ti/\N.ti<=1000000;rw [D];exact h.ti,by show 0<=N.mo/\N.mo<=10;rw [v];exact h.mo,by show 0<=N.lo/\N.lo<=N.mo;rw [E,v];exact h.lo,by show 0<=N.now;rw [o];exact h.now,by show eN0 _ side (N.L++N.P);rw [i];exact oM0 p t,fun x c=>?_,fun x c y u=>?_,fun x c=>h.pP x (by rw [<-i];exact c),by show N.L.length+N.P.length<=100;rw [i];have:=h.few;omega,rE0 h1 h.lb⟩,aG (aG (by show (3:Int)=(phaseV N.rs N.now).1;rw [l,o,w])),fun e=>absurd e (by show ¬(phaseV N.rs N.now).1=7;rw [l,o,w];decide),(fun e=>absurd (show (3:Int)=7 from e) d7),fun _=>⟨fun x c=>(j x c).1,q⟩,(fun _ e=>absurd (show (3:Int)=4 from e) d7),⟨bP 0,fun _=>rfl⟩⟩⟩
 ·show x.id∈N.I;rw [A];rcases bQ.1 c with c | c
  ·obtain ⟨_,y,u,H⟩:=j x c;rw [<-H];exact h.idI y (bY _ u)
  ·exact h.idI x (cG _ (by rw [<-i];exact c))
 ·obtain ⟨_,z,R,J⟩:=j x c;rw [<-J];exact h.dis z R y (by rw [<-i];exact u)
def eH0 (M M':Mkt) (since:Int):Int:=if M'.ph=4 then (if M.ph=4 then since+1 else since) else 0
theorem DayA.tick1 (h:DayA M lots side):DayA { M with now:=M.now+1 } lots side:=⟨h.tab,h.rl,h.an,h.la,h.sh,h.ti,h.mo,h.lo,by show 0<=M.now+1;have:=h.now;omega,h.kp,h.idI,h.dis,h.pP,h.few,h.lb⟩
theorem DayInv.tick (h:DayInv M lots side since hands) (B:LOk M.L):fM0 side lots (bT0 M).1/\DayInv (bT0 M).2 (cA0 lots (bT0 M).1) side (eH0 M (bT0 M).2 since) hands:=by
 by_cases l:M.ph=7
 ·have e:bT0 M=([],M):=by unfold bT0;rw [aB l]
  rw [e];refine ⟨trivial,?_⟩
  have n:eH0 M M since=since:=by
   unfold eH0;rw [aA (by rw [l];decide),h.sn.2 (by rw [l];decide)]
  show DayInv M lots side (eH0 M M since) hands;rw [n];exact h
 have K:¬(phaseV M.rs M.now).1=7:=fun e=>l (h.fin e)
 have i:=h.toDayA.tick1;have Z:bT0 M=kP0 (phaseV M.rs M.now).1 (phaseV M.rs (M.now+1)).1 { M with now:=M.now+1 }:=by unfold bT0;rw [aA l]
 rw [Z,xV0];have d:=vP0 h.tab h.now;have p:=pM0 (now:=M.now) h.tab;generalize w:(phaseV M.rs M.now).1=was at d K p;generalize b:(phaseV M.rs (M.now+1)).1=is at d;have g:∀{v:Int},is=v->(phaseV M.rs (M.now+1)).1=v:=fun e=>b.trans e
 have q:=h.ph;rw [w] at q
 by_cases j:is=7
 ·rw [aB j];have u:=g j;obtain ⟨u1,_,_,_,_⟩:=bL1 (M:={ M with now:=M.now+1 }) B h.la (h.kp.sub (fun x m=>bY _ m));have t:0<(aI0 { M with now:=M.now+1 }).qty->1<=(aI0 { M with now:=M.now+1 }).price/\(aI0 { M with now:=M.now+1 }).price<=1000000:=fun r=>iC0 (L:=M.L) (la:=M.la) B h.la r
  have e:(uncM { M with now:=M.now+1 }).2.rs=M.rs/\(uncM { M with now:=M.now+1 }).2.I=M.I/\(uncM { M with now:=M.now+1 }).2.st=M.st/\(uncM { M with now:=M.now+1 }).2.dy=M.dy/\(uncM { M with now:=M.now+1 }).2.ti=M.ti/\(uncM { M with now:=M.now+1 }).2.mo=M.mo/\(uncM { M with now:=M.now+1 }).2.lo=M.lo/\(uncM { M with now:=M.now+1 }).2.now=M.now+1/\(1<=(uncM { M with now:=M.now+1 }).2.an/\(uncM { M with now:=M.now+1 }).2.an<=1000000)/\(1<=(uncM { M with now:=M.now+1 }).2.la/\(uncM { M with now:=M.now+1 }).2.la<=1000000):=by
   unfold uncM
   by_cases r:0<(aI0 { M with now:=M.now+1 }).qty
   ·rw [aB r];exact ⟨rfl,rfl,rfl,rfl,rfl,rfl,rfl,rfl,t r,t r⟩
   ·rw [aA r];exact ⟨rfl,rfl,rfl,rfl,rfl,rfl,rfl,rfl,h.an,h.la⟩
  have o:∀{N:Mkt} {c:Int->Int},N.rs=M.rs->N.st=M.st->N.dy=M.dy->N.ti=M.ti->N.mo=M.mo->N.lo=M.lo->N.now=M.now+1->(1<=N.an/\N.an<=1000000)->(1<=N.la/\N.la<=1000000)->(∀id,0<=c id/\c id<=1000000)->DayInv { N with L:=[],P:=[],ph:=7 } c side (eH0 M { N with L:=[],P:=[],ph:=7 } since) hands:=by
   intro N c k n s E y F z W X Y;have a:eH0 M { N with L:=[],P:=[],ph:=7 } since=0:=aA (by show ¬(7:Int)=4;decide);rw [a];refine ⟨⟨by show tabE N.rs=_;rw [k];exact h.tab,by show N.rs.length<=60;rw [k];exact h.rl,W,X,by show (0<=N.st/\N.st<=10000)/\(0<=N.dy/\N.dy<=10000);rw [n,s];exact h.sh,by show 1<=N.ti/\N.ti<=1000000;rw [E];exact h.ti,by show 0<=N.mo/\N.mo<=10;rw [y];exact h.mo,by show 0<=N.lo/\N.lo<=N.mo;rw [F,y];exact h.lo,by show 0<=N.now;rw [z];exact i.now,(fun x m=>by cases m),(fun x m=>by cases m),(fun x m=>by cases m),(fun x m=>by cases m),aO _,Y⟩,aG (aG ?_),fun _=>rfl,fun _=>⟨rfl,rfl⟩,(fun e=>absurd (show (7:Int)=3 from e) d7),(fun _ e=>absurd (show (7:Int)=4 from e) d7),⟨bP 0,fun _=>rfl⟩⟩;show (7:Int)=(phaseV N.rs N.now).1;rw [k,z];exact u.symm
  unfold finM
  by_cases A:M.ph=5
  ·rw [aB (show ({ M with now:=M.now+1 }:Mkt).ph=5 from A),aB (show ({ M with now:=M.now+1 }:Mkt).ph=5 from A)];obtain ⟨k,_,s,E,y,F,z,e8,e9,D⟩:=e;exact ⟨u1,o k s E y F z e8 e9 D (rE0 u1 h.lb)⟩
  ·rw [aA (show ¬({ M with now:=M.now+1 }:Mkt).ph=5 from A),aA (show ¬({ M with now:=M.now+1 }:Mkt).ph=5 from A)];exact ⟨trivial,o rfl rfl rfl rfl rfl rfl rfl h.an h.la h.lb⟩
 rw [aA j]
 by_cases G:M.ph=6
 ·rw [aB (show ({ M with now:=M.now+1 }:Mkt).ph=6 from G)];have a:eH0 M { M with now:=M.now+1 } since=0:=aA (by show ¬M.ph=4;omega);refine ⟨trivial,?_⟩;show DayInv { M with now:=M.now+1 } lots side (eH0 M { M with now:=M.now+1 } since) hands;rw [a];exact ⟨i,aH G,fun e=>absurd (b.symm.trans e) j,fun e=>absurd e l,fun e=>absurd (show M.ph=3 from e) o7,fun _ e=>absurd (show M.ph=4 from e) o7,⟨bP 0,fun _=>rfl⟩⟩
 rw [aA (show ¬({ M with now:=M.now+1 }:Mkt).ph=6 from G)]
 by_cases J:is=was
 ·rw [aA (fun e=>e J)]
  by_cases f:M.ph=4
  ·have a5:was=3:=by
    rcases q with e | ⟨_,e⟩ | e
    ·omega
    ·exact e
    ·omega
   by_cases T:M.en<=M.now+1
   ·rw [aB (show ({ M with now:=M.now+1 }:Mkt).ph=4/\({ M with now:=M.now+1 }:Mkt).en<=({ M with now:=M.now+1 }:Mkt).now from ⟨f,T⟩)];unfold setM
    by_cases S:(aI0 { M with now:=M.now+1 }).qty=0\/gI0 ({ M with now:=M.now+1 }:Mkt).st ({ M with now:=M.now+1 }:Mkt).an (aI0 { M with now:=M.now+1 }).price=true
    ·rw [aB S];obtain ⟨Q,R⟩:=i.res (hands:=hands) B (g o7);refine ⟨Q,?_⟩;have a:eH0 M (resM { M with now:=M.now+1 }).2 since=0:=aA (by show ¬(3:Int)=4;decide);rw [a];exact R
    ·rw [aA S]
     by_cases V:M.lo<M.mo
     ·rw [aB (show ({ M with now:=M.now+1 }:Mkt).lo<({ M with now:=M.now+1 }:Mkt).mo from V)];refine ⟨trivial,?_⟩;show DayInv { M with now:=M.now+1,lo:=M.lo+1,en:=M.now+1+M.ti } lots side (eH0 M { M with now:=M.now+1,lo:=M.lo+1,en:=M.now+1+M.ti } since) hands
      have a:eH0 M { M with now:=M.now+1,lo:=M.lo+1,en:=M.now+1+M.ti } since=since+1:=by
       unfold eH0;rw [aB (show ({ M with now:=M.now+1,lo:=M.lo+1,en:=M.now+1+M.ti }:Mkt).ph=4 from f),aB f]
      rw [a];have a0:=h.lo;refine ⟨⟨h.tab,h.rl,h.an,h.la,h.sh,h.ti,h.mo,by show 0<=M.lo+1/\M.lo+1<=M.mo;omega,i.now,h.kp,h.idI,h.dis,h.pP,h.few,h.lb⟩,aG (aH ⟨f,g o7⟩),fun e=>absurd (b.symm.trans e) j,fun e=>absurd e l,fun e=>absurd (show M.ph=3 from e) o7,fun H _=>?_,⟨by have:=h.sn.1;omega,fun e=>absurd f e⟩⟩;obtain ⟨v1,v2⟩:=h.vol H f;show since+1+(M.now+1+M.ti - (M.now+1))=(M.lo+1+1)*M.ti/\1<=M.now+1+M.ti - (M.now+1);have s:(M.lo+1+1)*M.ti=(M.lo+1)*M.ti+M.ti:=by rw [Int.add_mul (M.lo+1) 1 M.ti,Int.one_mul]
      have:=h.ti;rw [s];omega
     ·rw [aA (show ¬({ M with now:=M.now+1 }:Mkt).lo<({ M with now:=M.now+1 }:Mkt).mo from V)];refine ⟨trivial,?_⟩;show DayInv { M with now:=M.now+1,ph:=6 } lots side (eH0 M { M with now:=M.now+1,ph:=6 } since) hands;have a:eH0 M { M with now:=M.now+1,ph:=6 } since=0:=aA (by show ¬(6:Int)=4;decide);rw [a];exact ⟨⟨h.tab,h.rl,h.an,h.la,h.sh,h.ti,h.mo,h.lo,i.now,h.kp,h.idI,h.dis,h.pP,h.few,h.lb⟩,aH rfl,fun e=>absurd (b.symm.trans e) j,(fun e=>absurd (show (6:Int)=7 from e) d7),(fun e=>absurd (show (6:Int)=3 from e) d7),(fun _ e=>absurd (show (6:Int)=4 from e) d7),⟨bP 0,fun _=>rfl⟩⟩
   ·rw [aA (fun e=>T e.2)];refine ⟨trivial,?_⟩;show DayInv { M with now:=M.now+1 } lots side (eH0 M { M with now:=M.now+1 } since) hands
    have a:eH0 M { M with now:=M.now+1 } since=since+1:=by
     unfold eH0;rw [aB (show ({ M with now:=M.now+1 }:Mkt).ph=4 from f),aB f]
    rw [a];refine ⟨i,aG (aH ⟨f,g o7⟩),fun e=>absurd (b.symm.trans e) j,fun e=>absurd e l,fun e=>absurd (show M.ph=3 from e) o7,fun H _=>?_,⟨by have:=h.sn.1;omega,fun e=>absurd f e⟩⟩;obtain ⟨v1,v2⟩:=h.vol H f;show since+1+(M.en - (M.now+1))=(M.lo+1)*M.ti/\1<=M.en - (M.now+1);rw [<-v1];omega
  ·rw [aA (fun e=>f e.1)];refine ⟨trivial,?_⟩;show DayInv { M with now:=M.now+1 } lots side (eH0 M { M with now:=M.now+1 } since) hands;have a:eH0 M { M with now:=M.now+1 } since=0:=aA f;rw [a]
   have a4:M.ph=was:=by
    rcases q with e | ⟨e,_⟩ | e
    ·omega
    ·omega
    ·exact e
   exact ⟨i,aG (aG (show M.ph=(phaseV M.rs (M.now+1)).1 by rw [b];omega)),fun e=>absurd (b.symm.trans e) j,fun e=>absurd e l,h.tr,fun _ e=>absurd (show M.ph=4 from e) f,⟨bP 0,fun _=>rfl⟩⟩
 ·rw [aB J]
  have U:(was=1/\is=2)\/(was=2/\is=3)\/(was=3/\is=5):=by
   rcases d with e | e
   ·exact absurd e J
   ·rcases oO1 e with ⟨k,n⟩ | ⟨k,n⟩ | ⟨k,n | n⟩ | ⟨k,n⟩ <;> omega
  unfold qO0
  by_cases C:is=3
  ·rw [aB C];obtain ⟨Q,R⟩:=i.res (hands:=hands) B (g C);refine ⟨Q,?_⟩;have a:eH0 M (resM { M with now:=M.now+1 }).2 since=0:=aA (by show ¬(3:Int)=4;decide);rw [a];exact R
  ·rw [aA C]
   by_cases O:is=5
   ·rw [aB O];refine ⟨trivial,?_⟩;have a:eH0 M (kC0 { M with now:=M.now+1 }) since=0:=aA (by show ¬(5:Int)=4;decide);show DayInv (kC0 { M with now:=M.now+1 }) lots side (eH0 M (kC0 { M with now:=M.now+1 }) since) hands;rw [a];exact i.clos (g O)
   ·rw [aA O];have i2:is=2:=o7;refine ⟨trivial,?_⟩;show DayInv { M with now:=M.now+1,ph:=is } lots side (eH0 M { M with now:=M.now+1,ph:=is } since) hands;have a:eH0 M { M with now:=M.now+1,ph:=is } since=0:=aA (by show ¬is=4;omega);rw [a];exact ⟨⟨h.tab,h.rl,h.an,h.la,h.sh,h.ti,h.mo,h.lo,i.now,h.kp,h.idI,h.dis,h.pP,h.few,h.lb⟩,aG (aG b.symm),fun e=>absurd (b.symm.trans e) j,(fun e=>absurd (show is=7 from e) j),(fun e=>absurd (show is=3 from e) C),(fun _ e=>absurd (show is=4 from e) o7),⟨bP 0,fun _=>rfl⟩⟩
end
theorem eV1 (i:Nat) (l:List Ord):dT0 i l=l.eraseIdx i:=(List.eraseIdx_eq_take_drop_succ l i).symm
theorem wF1 (a:Nat) (k:EgK) (M:Mkt) (w:World) (h:Eg w a k M) (g:M.P.length<=1000):
  Calls prog 80 #[E (some ⟨a,0,none⟩)] w fun e w'=>∃v,e=Y v/\w'.ownsRow w.heap.size 92 5 v M.P.length (oV M.P)/\Below w.heap.size w w':=by
 have i:w.cell? ⟨a,3,none⟩=some k.vp:=aA0 (j:=3) h.box rfl;have f:Hid _:=h.pk;clear h;go_enter func80,ntmps80;go_wp2_with fail;refine (bJ2 k.vp M.P w f.out g).mono ?_;rintro e w1 ⟨v',rfl,h1,b⟩;have c:Hid _:=h1;have d:Hid _:=b;clear h1 b;go_wp2_with fail;go_ret;exact ⟨v',rfl,c.out,d.out⟩
theorem kP1 {m:Nat} {b:BkS} (h:Bk w a m b) (q:m+1<=900000) (f:Lnk b.S L) (id:Int) (z:(Lit.int .i64 id).wf=true):
  Calls prog 120 #[E (some ⟨a,0,none⟩),U G id] w fun e g=>∃(x:Ord) (err:Value),e=Y (.tuple #[.agg #[U G x.id,U G x.side,U G x.kind,U G x.price,U G x.qty],err])/\ErrE err (canN id L)/\(err=.nilIface\/err=.iface 26 (U G 7))/\∃b',Lnk b'.S (canL id L)/\Goes w g a (m+1) b b':=by
 rcases qW0 b.S id with ⟨s,p,x,r,rfl⟩ | d
 ·obtain ⟨k,hk,hi,y⟩:=oF1 f p r;have c:¬idxO x.o.id L=-1:=o7;have n:(idxO x.o.id L).toNat=k:=o7;refine (pF0 a m s b x w h q p r).mono ?_;rintro e g ⟨rfl,b',⟨i,j,l,t⟩,v⟩;refine ⟨x.o,.nilIface,rfl,ErrE.yes (by unfold canN;rw [aA c]),aH rfl,b',?_,v⟩;unfold canL;rw [aA c,n,t];exact f.gone h.ok p j l hk (by rw [y])
 ·have h1:=f.idx_no d;refine (aC1 a m b id w h z d).mono ?_;rintro e g ⟨rfl,u⟩;exact ⟨Ord.none_,_,rfl,ErrE.no 7 (by unfold canN;rw [aB h1]) d7,aG rfl,b,by unfold canL;rw [aB h1];exact f,Goes.stay h u (cH _) q⟩
theorem EgGo.boxed5 {w b:World} {c lb:Nat} {k k2:EgK} {M2:Mkt} {vs:Array Value} (d:EgGo w b c k k2 M2) (g:b.heap[lb]? = some (R vs 92 (0,0))) (a:w.heap.size<=lb) (e:k2.tb≠lb/\k2.cb≠lb) (f:k2.vp.ownBlock≠some lb) (x:Ord):
  EgGo w (((((b.setCell ⟨lb,0,none⟩ (U G x.id)).setCell ⟨lb,1,none⟩ (U G x.side)).setCell ⟨lb,2,none⟩ (U G x.kind)).setCell ⟨lb,3,none⟩ (U G x.price)).setCell ⟨lb,4,none⟩ (U G x.qty)) c k k2 M2:=d.boxed g a e f x
def fQ2 (w:World) (eb:Nat) (k:EgK) (M:Mkt) (id:Int) (u7:Value) (wc:World):Prop:=∃b':BkS,ErrE u7 (canN id M.L)/\EgGo w wc eb k { k with m:=k.m+1,b:=b' } { M with L:=canL id M.L }
theorem yV1 {wc:World} {k:EgK} {id:Int} {u7:Value} {b':BkS} (h1:ErrE u7 (canN id M.L)) (c:EgGo w wc a k { k with m:=k.m+1,b:=b' } { M with L:=canL id M.L }):fQ2 w a k M id u7 wc:=⟨b',h1,c⟩
theorem wG1 (p:Nat) (k:EgK) (M:Mkt) (id:Int) (w:World) (h:Eg w p k M) (hP:M.P.length<=1000) (hw:(Lit.int .i64 id).wf=true) (hm:k.m<=700000):
  Calls prog 68 #[E (some ⟨p,0,none⟩),U G id] w fun e w'=>∃D k',e=Y D/\ErrE D (kB0 M id)/\EgGo w w' p k k' (canM M id)/\k'.m<=k.m+302:=by
 have H:=hid7 h;have HW:=hid7 hw;have d:=bel1 w (R #[U G id] 3);have t:=heap_alloc_new w (R #[U G id] 3);clear h hw
 by_cases q:M.ph=7
 ·have z:Hid (kB0 M id=6/\canM M id=M):=⟨by unfold kB0;rw [aB q],by unfold canM;rw [aB q]⟩;have b7:=beq_iff_eq.2 q;clear q;go_enter func68,ntmps68;go_upto_region 1 with fail;generalize w.alloc (R #[U G id] 3)=w1 at d t ⊢;have c5:w1.cell? ⟨p,5,none⟩=some (U G M.ph):=aA0 (j:=5) (H.out.below d).box rfl;have u:=hid7 d;clear d t;go_wp2_with fail;go_ret;exact ⟨_,k,rfl,ErrE.no 6 z.out.1 d7,by rw [z.out.2];exact EgGo.stay H.out u.out,bV _ _⟩
 ·have b7:=aC.2 q;go_enter func68,ntmps68;go_upto_region 1 with fail;generalize w.alloc (R #[U G id] 3)=w1 at d t ⊢;have h1:=H.out.below d;obtain ⟨pa,O,K,a2⟩:=dS0.of_row h1.pk;have c5:w1.cell? ⟨p,5,none⟩=some (U G M.ph):=aA0 (j:=5) h1.box rfl;have c3:w1.cell? ⟨p,3,none⟩=some (J pa M.P.length O):=(aA0 (j:=3) (v:=k.vp) h1.box rfl).trans (by rw [K]);have A:=hid7 K;have u:=hid7 d;have C:=hid7 t;have W:=hid7 a2;clear d t h1 K a2;go_wp2_with fail;refine (bK2 w.heap.size id pa O M.P w1 hP W.out C.out).mono ?_;rintro e f ⟨rfl,F⟩;have y:=hid7 (aD0 u.out F);have c:=hid7 (H.out.below y.out);have b1:Hid (f.heap[w.heap.size]? = some (R #[U G id] 3 (0,0))):=aE0 C.out F lR7;clear F c5 c3 W C u
  by_cases n:0<=idxO id M.P
  ·have z:Hid (kB0 M id=0/\canM M id={ M with P:=dT0 (idxO id M.P).toNat M.P }):=⟨by unfold kB0;rw [aA q,aB n],by unfold canM;rw [aA q,aB n]⟩
   obtain ⟨i,hi,a1⟩:∃i:Nat,i<M.P.length/\idxO id M.P=(i:Int):=by
    rcases mW0 id M.P 0 with e | ⟨i,hi,e,_⟩
    ·have e':idxO id M.P=-1:=e;omega
    ·refine ⟨i,hi,?_⟩;have e':idxO id M.P=((0+i:Nat):Int):=e;rw [e'];congr 1;omega
   rw [a1] at z ⊢;clear q n a1;have s:f.ownsRow 0 92 5 (J pa M.P.length O) M.P.length (oV M.P):=by have:=c.out.pk;rw [A.out] at this;exact this
   obtain ⟨g,b5,hv,_,_⟩:=s.form o7;simp only [aY,true_and] at hv;obtain ⟨rfl,rfl⟩:=hv;have c3:f.cell? ⟨p,3,none⟩=some (J (some ⟨g,0,none⟩) M.P.length O):=(aA0 (j:=3) (v:=k.vp) c.out.box rfl).trans (by rw [A.out]);have wr:IntKind.i64.wrap ((i:Int)+1)=(i:Int)+1:=IntWalk.i64_in _ o7;have X:Hid _:=s;clear s;go_wp2_with fail;refine (iC2 g O i M.P f X.out hP hi).mono ?_;rintro e w3 ⟨rfl,a4,o⟩;have l:Out (fun j=>k.vp.ownBlock=some j) f w3:=⟨o.os,o.tape,o.output,o.size,fun j hj hn=>o.block j hj (fun e=>hn (by rw [A.out];exact congrArg some e.symm))⟩;have r:(M.P.eraseIdx i).length=M.P.length - 1:=by rw [List.length_eraseIdx,aB hi]
   have B:=c.out.ofParked (P':=M.P.eraseIdx i) l (by rw [r];exact a4) (fun j hj=>aH (by rw [A.out];exact hj));have d3:w3.cell? ⟨p,3,none⟩=some k.vp:=aA0 (j:=3) (aF0 c.out.box l c.out.ebpk) rfl;have f3:=aB0 (j:=3) (aF0 c.out.box l c.out.ebpk);have S:=hid7 ((EgGo.stay H.out y.out).trans B);clear a4 o l r B;go_wp2_with fail;go_ret;exact ⟨_,{ k with vp:=J (some ⟨g,0,none⟩) (M.P.length - 1) O },rfl,ErrE.yes z.out.1,by rw [z.out.2,show ((i:Int)).toNat=i from rfl,eV1];exact S.out,bV _ _⟩
  ·have z:Hid (kB0 M id=canN id M.L/\canM M id={ M with L:=canL id M.L }):=⟨by unfold kB0;rw [aA q,aA n],by unfold canM;rw [aA q,aA n]⟩;have e1:=n;clear q;go_upto_region 7 with fail;have a0:¬k.b.foot k.bb w.heap.size:=fun e=>by have:=H.out.bk.lt e;omega
   have a9:Hid (∀w',Out (k.b.foot k.bb) f w'->w'.cell? ⟨p,2,none⟩=some (E (some ⟨k.bb,0,none⟩))/\w'.cell? ⟨w.heap.size,0,none⟩=some (U G id)/\Out (k.b.foot k.bb) f w'):=fun w' ho=>⟨aA0 (j:=2) (aF0 c.out.box ho c.out.ebbk) rfl,aA0 (j:=0) (aF0 b1.out ho a0) rfl,ho⟩
   have a3:¬k.b.foot k.bb f.heap.size:=fun e=>by have:=c.out.bk.lt e;omega
   have a7:=hid7 a3;have a6:Hid (k.tb≠f.heap.size/\k.cb≠f.heap.size):=⟨by have:=c.out.tlt';omega,by have:=c.out.tlt;omega⟩;have b0:Hid (k.vp.ownBlock≠some f.heap.size):=fun e=>by have:=(c.out.pk.lt _ e).2;omega
   have b4:k.m+1<=900000:=o7;clear a0 a3;go_cut [6,7] from 33 to 41 (fun _ u7 wc=>fQ2 w p k M id u7 wc)
   case first=>
    go_region_held3 (fun w'=>w'.cell? ⟨p,2,none⟩=some (E (some ⟨k.bb,0,none⟩))/\w'.cell? ⟨w.heap.size,0,none⟩=some (U G id)/\Out (k.b.foot k.bb) f w')
     ((refine a9.out _ ?_;(repeat' first | assumption | exact a8.out | exact bL _ _ | refine aW0 ?_ | refine dD0 ?_ _ | refine gP0 ?_ ?_ | (simp;done) | (simp;omega))))
     ((go_at_call 120;refine (kP1 (c.out.bk.below ?_ lR7) b4 c.out.lnk id HW.out).mono ?_;((repeat' first | assumption | exact aF _ _ | exact lR7 | refine Below.drew ?_ | refine Below.alloc ?_ ?_ _ | (simp;done) | (simp;omega)));rintro e w3 ⟨x,D,rfl,Z,b6,N,r,I⟩;have T:Hid (Goes f w3 k.bb (k.m+1) k.b N):=oE0 c.out.bk q7 I;have a8:Hid (Out (k.b.foot k.bb) f w3):=T.out.2.1;have a5:Hid _:=r;have Q:Hid _:=Z;(try (have a:w3.heap[f.heap.size]? = some (R #[U G 0,U G 0,U G 0,U G 0,U G 0] 92 (0,0)):=(I.2.1.block _ s7 a7.out).trans (heap_alloc_new _ _);have z0:=aA0 (j:=0) a rfl;have z1:=aA0 (j:=1) a rfl;have z2:=aA0 (j:=2) a rfl;have z3:=aA0 (j:=3) a rfl;have z4:=aA0 (j:=4) a rfl;have y0:=aB0 (j:=0) a;have y1:=aB0 (j:=1) a;have y2:=aB0 (j:=2) a;have y3:=aB0 (j:=3) a;have y4:=aB0 (j:=4) a;have b2:Hid (ZBox w3 f.heap.size):=a;clear a));clear r I Z))
    all_goals have V:Hid (EgGo w w3 p k { k with m:=k.m+1,b:=N } { M with L:=canL id M.L }):=(EgGo.stay H.out y.out).trans (c.out.ofBook T.out a5.out (cH _))
    all_goals go_wp2_with fail
    all_goals go_meet
    all_goals first | exact yV1 (b':=N) Q.out (EgGo.boxed5 V.out b2.out y.out.size a6.out b0.out x) | exact yV1 (b':=N) Q.out (V.out.bel (bel1 _ _))
   case rest=>
    obtain ⟨N,Z,hg⟩:=hcut;have HE:=hid7 Z;have HG:=hid7 hg;clear Z hg;go_wp2_with fail;go_ret;exact ⟨u7,{ k with m:=k.m+1,b:=N },rfl,by rw [z.out.1];exact HE.out,by rw [z.out.2];exact HG.out,by show k.m+1<=k.m+302;omega⟩
section
variable {M:Mkt} {lots side:Int->Int} {since:Int} {hands:Bool}
theorem cB1 {rs:List (Int×Int)} {st dy p ti mo:Int} (a:tabE rs=(0,-1)) (f:rs.length<=60) (i:1<=p/\p<=1000000) (l:0<=st/\st<=10000) (k:0<=dy/\dy<=10000) (g:1<=ti/\ti<=1000000) (c:0<=mo/\mo<=10):DayInv (newM rs st dy p ti mo) (fun _=>0) (fun _=>0) 0 false:=by
 have d:(phaseV rs 0).1=1:=by
  obtain ⟨_,h1,j⟩:=aY1 a;obtain ⟨n,e⟩:=tK0 (now:=0) j (by rw [h1];exact bP 0);unfold phaseV;rw [e,h1]
 exact ⟨⟨a,f,i,i,⟨l,k⟩,g,c,⟨bP 0,c.1⟩,bP 0,(fun x b=>by cases b),(fun x b=>by cases b),(fun x b=>by cases b),(fun x b=>by cases b),aO _,fun _=>⟨bP 0,d7⟩⟩,aG (aG d.symm),fun e=>absurd (d.symm.trans e) d7,(fun e=>absurd (show (1:Int)=7 from e) d7),(fun e=>absurd (show (1:Int)=3 from e) d7),(fun _ e=>absurd (show (1:Int)=4 from e) d7),⟨bP 0,fun _=>rfl⟩⟩
theorem DayInv.open_ (h:DayInv M lots side since false):DayInv (eA0 M) lots side (fG0 (eA0 M) since) (decide (kD0 M=0)):=by
 by_cases d:M.ph=6
 ·have g:kD0 M=0:=by unfold kD0;rw [aB d]
  have a:¬(phaseV M.rs M.now).1=7:=fun e=>by have:=h.fin e;omega
  have k:since=0:=h.sn.2 o7;have f:eA0 M=if (phaseV M.rs M.now).1=3 then volM M else if (phaseV M.rs M.now).1=5 then kC0 M else { M with ph:=(phaseV M.rs M.now).1 }:=by unfold eA0;rw [aB d]
  rw [g,f]
  by_cases c:(phaseV M.rs M.now).1=3
  ·rw [aB c];have b:fG0 (volM M) since=0:=by unfold fG0;rw [k];split <;> rfl
   rw [b];exact ⟨⟨h.tab,h.rl,h.an,h.la,h.sh,h.ti,h.mo,⟨bP 0,h.mo.1⟩,h.now,h.kp,h.idI,h.dis,h.pP,h.few,h.lb⟩,aG (aH ⟨rfl,c⟩),fun e=>absurd e a,(fun e=>absurd (show (4:Int)=7 from e) d7),(fun e=>absurd (show (4:Int)=3 from e) d7),(fun e=>by simp at e),⟨bP 0,fun _=>rfl⟩⟩
  ·rw [aA c]
   by_cases i:(phaseV M.rs M.now).1=5
   ·rw [aB i];have b:fG0 (kC0 M) since=0:=aA (by show ¬(5:Int)=4;decide);rw [b];exact h.toDayA.clos i
   ·rw [aA i];have j:=pM0 (now:=M.now) h.tab;have b:fG0 { M with ph:=(phaseV M.rs M.now).1 } since=0:=by unfold fG0;rw [k];split <;> rfl
    rw [b];exact ⟨⟨h.tab,h.rl,h.an,h.la,h.sh,h.ti,h.mo,h.lo,h.now,h.kp,h.idI,h.dis,h.pP,h.few,h.lb⟩,aG (aG rfl),fun e=>absurd e a,(fun e=>absurd e a),(fun e=>absurd e c),(fun e=>by simp at e),⟨bP 0,fun _=>rfl⟩⟩
 ·have f:eA0 M=M:=by unfold eA0;rw [aA d]
  have g:kD0 M=6:=by unfold kD0;rw [aA d]
  rw [f,g,gW0 h rfl];exact h
theorem wH1 {id:Int} (h:x∈canL id L):x∈L:=by
 unfold canL at h;split at h
 ·exact h
 ·unfold dT0 at h;rcases bQ.1 h with h | h
  ·exact dT h
  ·exact fO h
theorem qG1 {i:Nat} (h:x∈dT0 i L):x∈L:=by
 unfold dT0 at h;rcases bQ.1 h with h | h
 ·exact dT h
 ·exact fO h
theorem cC1 (i:Nat) (L:List Ord):(dT0 i L).length<=L.length:=by
 unfold dT0;rw [aN,bF,List.length_drop];omega
theorem wI1 (id:Int) (L:List Ord):(canL id L).length<=L.length:=by
 unfold canL;split
 ·exact lR7
 ·exact cC1 _ _
theorem DayInv.less (h:DayInv M lots side since hands) {L' P':List Ord} (h1:∀x∈L',x∈M.L) (f:∀x∈P',x∈M.P) (i:L'.length<=M.L.length) (j:P'.length<=M.P.length):DayInv { M with L:=L',P:=P' } lots side since hands:=by
 have d:∀x∈L'++P',x∈M.L++M.P:=fun x c=>(bQ.1 c).elim (fun e=>bY _ (h1 x e)) (fun e=>cG _ (f x e))
 refine ⟨⟨h.tab,h.rl,h.an,h.la,h.sh,h.ti,h.mo,h.lo,h.now,h.kp.sub d,fun x c=>h.idI x (d x c),fun x c y g=>h.dis x (h1 x c) y (f y g),fun x c=>h.pP x (f x c),?_,h.lb⟩,h.ph,h.fin,fun e=>?_,fun e=>⟨fun x c=>(h.tr e).1 x (h1 x c),fun x c y g=>(h.tr e).2 x (h1 x c) y (h1 y g)⟩,h.vol,h.sn⟩
 ·have:=h.few;show L'.length+P'.length<=100;omega
 ·obtain ⟨a,b⟩:=h.none e;rw [a] at i;rw [b] at j;exact ⟨dQ (Nat.le_zero.1 i),dQ (Nat.le_zero.1 j)⟩
theorem DayInv.cancel (h:DayInv M lots side since hands) (id:Int):DayInv (canM M id) lots side (fG0 (canM M id) since) hands:=by
 have key:DayInv (canM M id) lots side since hands/\(canM M id).ph=M.ph:=by
  unfold canM
  by_cases b:M.ph=7
  ·rw [aB b];exact ⟨h,rfl⟩
  ·rw [aA b]
   by_cases hi:0<=idxO id M.P
   ·rw [aB hi];exact ⟨h.less (fun _ a=>a) (fun _ a=>qG1 a) lR7 (cC1 _ _),rfl⟩
   ·rw [aA hi];exact ⟨h.less (fun _ a=>wH1 a) (fun _ a=>a) (wI1 _ _) lR7,rfl⟩
 rw [gW0 h key.2];exact key.1
theorem DayInv.order_no (h:DayInv M lots side since hands) {o:Ord} (a:ordN M o≠0):(ordM M o).1=[]/\DayInv (ordM M o).2 lots side (fG0 (ordM M o).2 since) hands:=by
 have e:ordM M o=([],M):=by unfold ordM;rw [aA a]
 rw [e];refine ⟨rfl,?_⟩;show DayInv M lots side (fG0 M since) hands;rw [gW0 h rfl];exact h
theorem DayInv.taken (h:DayInv M lots side since hands) {p:Ord} (c:RefOk M p):DayInv { M with I:=M.I++[p.id] } (upF lots p.id p.qty) (upF side p.id p.side) since hands:=by
 have a:∀x∈M.L++M.P,x.id≠p.id:=fun x b e=>c.new (by rw [<-e];exact h.idI x b)
 refine ⟨⟨h.tab,h.rl,h.an,h.la,h.sh,h.ti,h.mo,h.lo,h.now,(h.kp.up a).upS a,fun x b=>bY _ (h.idI x b),h.dis,h.pP,h.few,fun id=>?_⟩,h.ph,h.fin,h.none,h.tr,h.vol,h.sn⟩
 by_cases e:id=p.id
 ·subst e;rw [eU0];have:=c.right;omega
 ·rw [dJ0 e];exact h.lb id
theorem qH1 (s:Int) (L:List Ord):(aR0 s L).Pairwise (fun a b=>fV0 s a<=fV0 s b):=jX0 _
theorem DayInv.order_yes (h:DayInv M lots side since hands) {o:Ord} (hL:LOk M.L) (hw:(Lit.int .i64 o.id).wf=true) (hn:ordN M o=0):
  fM0 (upF side o.id o.side) (upF lots o.id o.qty) (ordM M o).1/\nD0 M.st M.dy M.an M.la (ordM M o).1/\((ordM M o).1≠[]->M.ph=3)
   /\DayInv (ordM M o).2 (cA0 (upF lots o.id o.qty) (ordM M o).1) (upF side o.id o.side) (fG0 (ordM M o).2 since) hands:=by
 have r:RefOk M (lieO o):=tY0 (by rw [<-rD0];exact hn);have v:=h.taken r;have e:ordM M o=eW0 { M with I:=M.I++[(lieO o).id] } (lieO o):=by unfold ordM;rw [aB hn,iT0]
 have T:(Lit.int .i64 (lieO o).id).wf=true:=by rw [iT0];exact hw
 have i:∀x∈M.L++M.P,x.id≠(lieO o).id:=fun x c e=>r.new (by rw [<-e];exact h.idI x c)
 have D:lieO (lieO o)=lieO o:=by
  by_cases hk:o.kind=2
  ·unfold lieO;rw [aB hk];exact aB hk
  ·unfold lieO;rw [aA hk];exact aA hk
 rw [e,show upF side o.id o.side=upF side (lieO o).id (lieO o).side by rw [iT0,nH0],show upF lots o.id o.qty=upF lots (lieO o).id (lieO o).qty by rw [iT0,hN1]];generalize lieO o=p at r v T i D;have S:eN0 (upF lots p.id p.qty) (upF side p.id p.side) [p]:=fun x c=>by rw [bC.1 c];exact ⟨eU0 _ _ _,eU0 _ _ _⟩
 have n:p.id∈M.I++[p.id]:=cG _ (bC.2 rfl);have a0:=r.room;unfold eW0
 by_cases A:p.kind=4/\M.ph≠5
 ·rw [aB (show p.kind=4/\({ M with I:=M.I++[p.id] }:Mkt).ph≠5 from A)];refine ⟨trivial,trivial,fun e=>absurd rfl e,?_⟩;have F:fG0 { M with I:=M.I++[p.id],P:=M.P++[p] } since=since:=gW0 h rfl;show DayInv { M with I:=M.I++[p.id],P:=M.P++[p] } (upF lots p.id p.qty) (upF side p.id p.side) (fG0 { M with I:=M.I++[p.id],P:=M.P++[p] } since) hands;rw [F];refine ⟨⟨h.tab,h.rl,h.an,h.la,h.sh,h.ti,h.mo,h.lo,h.now,?_,fun x c=>?_,fun x c y j=>?_,fun x c=>?_,?_,v.lb⟩,h.ph,h.fin,fun e=>?_,h.tr,h.vol,h.sn⟩
  ·show eN0 _ _ (M.L++(M.P++[p]));rw [<-dG];exact oM0 v.kp S
  ·have a4:x∈(M.L++M.P)++[p]:=by rw [dG];exact c
   rcases bQ.1 a4 with c | c
   ·exact v.idI x c
   ·rw [bC.1 c];exact n
  ·rcases bQ.1 j with j | j
   ·exact h.dis x c y j
   ·rw [bC.1 j];exact fun e=>i x (bY _ c) e.symm
  ·rcases bQ.1 c with c | c
   ·exact h.pP x c
   ·rw [bC.1 c];exact ⟨A.1,T⟩
  ·show M.L.length+(M.P++[p]).length<=100;rw [aN,List.length_singleton];omega
  ·exfalso;have u:=r.takes;have V:M.ph=7:=e;rw [V,A.1] at u;exact absurd u (by decide)
 rw [aA (show ¬(p.kind=4/\({ M with I:=M.I++[p.id] }:Mkt).ph≠5) from A)]
 have C:∀{L0 L':List Ord} {q0:Ord},lieO q0=q0->L'=addL q0 L0->(∀x∈L',x∈L0\/x=q0):=fun H e x c=>by
  rw [e] at c;rcases yC0 c with h1 | h1
  ·exact aH h1
  ·rw [H] at h1;exact aG h1
 by_cases J:M.ph=3
 ·rw [aA (fun e=>e (show ({ M with I:=M.I++[p.id] }:Mkt).ph=3 from J))];obtain ⟨tk,a7⟩:=h.tr J
  have Z:p.kind=1\/p.kind=2:=by
   have u:=r.takes;rw [J] at u;have hk:=r.kind;unfold eV0 iA0 hD0 at u
   by_cases k3:p.kind=3
   ·rw [k3] at u;exact absurd u (by decide)
   ·by_cases k4:p.kind=4
    ·exact absurd ⟨k4,by omega⟩ A
    ·omega
  have Q:MF { M with I:=M.I++[p.id] } p (upF lots p.id p.qty) (upF side p.id p.side) ⟨[],M.L,p.qty,[]⟩:=⟨trivial,(v.kp.sub (fun x c=>bY _ c)),⟨eU0 _ _ _,eU0 _ _ _⟩,fun x c=>i x (bY _ c),rfl,trivial,by show 0<=p.qty;have:=r.right;omega,fun x c=>⟨x,c,rfl,rfl,rfl,rfl⟩,lR7,(fun t u=>by cases u),(fun f w=>by cases w)⟩;have g:=pQ0 r.side (aR0 (3 - p.side) M.L) _ Q (MOk.start hL _ _) (fun x c=>(bD0.1 c).2);have k:=fun s'=>vV0 (M:={ M with I:=M.I++[p.id] }) r.side (aR0 (3 - p.side) M.L) ⟨[],M.L,p.qty,[]⟩ s' (MOk.start hL _ _) (qH1 _ _) (fun x c=>by rw [tk x (bD0.1 c).1];decide) (fun y j a5=>bD0.2 ⟨j,a5⟩)
  unfold eB0;have X:bN0 { M with I:=M.I++[p.id] } p=cC0 (alM { M with I:=M.I++[p.id] }) p (aR0 (3 - p.side) M.L) ⟨[],M.L,p.qty,[]⟩:=rfl;rw [<-X] at g k;generalize bN0 { M with I:=M.I++[p.id] } p=mt at g k ⊢;obtain ⟨s,t⟩:=mt;dsimp only at g k ⊢;refine ⟨g.fok,g.bands,fun _=>J,?_⟩
  have Y:eN0 (cA0 (upF lots p.id p.qty) s.fs) (upF side p.id p.side) M.P:=nE0 (fun f w x c=>by
   obtain ⟨w1,w2⟩:=g.who f w;refine ⟨?_,?_⟩
   ·rcases w1 with e | ⟨a,R,W⟩
    ·rw [e];exact i x (cG _ c)
    ·rw [<-W];exact h.dis a R x c
   ·rcases w2 with e | ⟨a,R,W⟩
    ·rw [e];exact i x (cG _ c)
    ·rw [<-W];exact h.dis a R x c) (v.kp.sub (fun x c=>cG _ c))
  generalize l:(if 0<s.q/\p.kind≠2 then addL (bX0 p s.q) s.L else s.L)=L2
  have d:∀x∈L2,x∈s.L\/(x=bX0 p s.q/\0<s.q/\p.kind=1):=fun x c=>by
   by_cases G:0<s.q/\p.kind≠2
   ·rw [aB G] at l;have hk:p.kind=1:=Z.elim id (fun e=>absurd e G.2);have hl:lieO (bX0 p s.q)=bX0 p s.q:=aA (by show ¬p.kind=2;omega);rcases C hl l.symm x c with h1 | h1
    ·exact aH h1
    ·exact aG ⟨h1,G.1,hk⟩
   ·rw [aA G] at l;rw [<-l] at c;exact aH c
  have a8:L2.length<=M.L.length+1:=by
   have:=g.len;have h0:s.L.length<=M.L.length:=this
   by_cases G:0<s.q/\p.kind≠2
   ·rw [aB G] at l;rw [<-l];have:=yD0 (bX0 p s.q) s.L;omega
   ·rw [aA G] at l;rw [<-l];omega
  have m:DayA { M with I:=M.I++[p.id],L:=L2,la:=dE0 M.la s.ts } (cA0 (upF lots p.id p.qty) s.fs) (upF side p.id p.side):=by
   refine ⟨h.tab,h.rl,h.an,?_,h.sh,h.ti,h.mo,h.lo,h.now,oM0 (fun x c=>?_) Y,fun x c=>?_,fun x c y j=>?_,h.pP,?_,rE0 g.fok v.lb⟩
   ·show 1<=dE0 M.la s.ts/\dE0 M.la s.ts<=1000000;exact hD1 (P:=fun t=>1<=t/\t<=1000000) h.la g.tsr
   ·rcases d x c with h1 | ⟨h1,_,_⟩
    ·exact g.kp x h1
    ·rw [h1];exact g.me
   ·show x.id∈M.I++[p.id];rcases bQ.1 c with c | c
    ·rcases d x c with h1 | ⟨h1,_,_⟩
     ·obtain ⟨y,j,ey,_⟩:=g.sub x h1;rw [<-ey];exact bY _ (h.idI y (bY _ j))
     ·rw [h1];exact n
    ·exact bY _ (h.idI x (cG _ c))
   ·rcases d x c with h1 | ⟨h1,_,_⟩
    ·obtain ⟨z,hz,ez,_⟩:=g.sub x h1;rw [<-ez];exact h.dis z hz y j
    ·rw [h1];exact i y (cG _ j)
   ·show L2.length+M.P.length<=100;omega
  have E:(phaseV M.rs M.now).1=3:=by
   rcases h.ph with e | ⟨e,_⟩ | e
   ·omega
   ·omega
   ·omega
  have a3:since=0:=h.sn.2 o7;cases t with
  | true=>
   rw [aB rfl];have F:fG0 (volM { M with I:=M.I++[p.id],L:=L2,la:=dE0 M.la s.ts }) since=0:=by unfold fG0;rw [a3];split <;> rfl
   show DayInv (volM { M with I:=M.I++[p.id],L:=L2,la:=dE0 M.la s.ts }) _ _ (fG0 (volM { M with I:=M.I++[p.id],L:=L2,la:=dE0 M.la s.ts }) since) hands;rw [F];refine ⟨⟨m.tab,m.rl,m.an,m.la,m.sh,m.ti,m.mo,⟨bP 0,h.mo.1⟩,m.now,m.kp,m.idI,m.dis,m.pP,m.few,m.lb⟩,aG (aH ⟨rfl,E⟩),fun e=>absurd (E.symm.trans e) d7,(fun e=>absurd (show (4:Int)=7 from e) d7),(fun e=>absurd (show (4:Int)=3 from e) d7),(fun _ _=>?_),⟨bP 0,fun _=>rfl⟩⟩;show 0+(M.now+M.ti - M.now)=(0+1)*M.ti/\1<=M.now+M.ti - M.now;have:=h.ti;omega
  | false=>
   rw [aA d7];have F:fG0 { M with I:=M.I++[p.id],L:=L2,la:=dE0 M.la s.ts } since=since:=gW0 h rfl;show DayInv { M with I:=M.I++[p.id],L:=L2,la:=dE0 M.la s.ts } _ _ (fG0 { M with I:=M.I++[p.id],L:=L2,la:=dE0 M.la s.ts } since) hands;rw [F];refine ⟨m,h.ph,h.fin,fun e=>absurd (show M.ph=7 from e) o7,fun _=>⟨fun x c=>?_,fun x c y j K N=>?_⟩,fun _ e=>absurd (show M.ph=4 from e) o7,h.sn⟩
   ·rcases d x c with h1 | ⟨h1,_,B⟩
    ·obtain ⟨y,j,_,_,ek,_⟩:=g.sub x h1;rw [<-ek];exact tk y j
    ·rw [h1];exact B
   ·have O:∀{z:Ord},z∈s.L->z.side=3 - p.side->0<s.q->farB p z=true:=fun hz a6 H=>k s rfl H _ hz a6
    have a9:=r.side;rcases d x c with h1 | ⟨h1,H,hk⟩
    ·rcases d y j with B | ⟨B,H,hk⟩
     ·obtain ⟨a,R,_,sa,_,ap⟩:=g.sub x h1;obtain ⟨b,hb,_,sb,_,bp⟩:=g.sub y B;rw [<-ap,<-bp];exact a7 a R b hb (sa.trans K) (sb.trans N)
     ·have U:p.side=2:=by rw [B] at N;exact N
      have w:=O h1 (by rw [K,U];rfl) H;unfold farB at w;rw [hk,U] at w;rw [B];show x.price<p.price
      simpa using w
    ·rcases d y j with B | ⟨B,_,_⟩
     ·have U:p.side=1:=by rw [h1] at K;exact K
      have w:=O B (by rw [N,U];rfl) H;unfold farB at w;rw [hk,U] at w;rw [h1];show p.price<y.price
      simpa using w
     ·rw [h1] at K;rw [B] at N;have a1:=K;have a2:=N;omega
 ·rw [aB (show ({ M with I:=M.I++[p.id] }:Mkt).ph≠3 from J)];refine ⟨trivial,trivial,fun e=>absurd rfl e,?_⟩;have F:fG0 { M with I:=M.I++[p.id],L:=addL p M.L } since=since:=gW0 h rfl;show DayInv { M with I:=M.I++[p.id],L:=addL p M.L } (upF lots p.id p.qty) (upF side p.id p.side) (fG0 { M with I:=M.I++[p.id],L:=addL p M.L } since) hands;rw [F];have d:∀x∈addL p M.L,x∈M.L\/x=p:=C D rfl;refine ⟨⟨h.tab,h.rl,h.an,h.la,h.sh,h.ti,h.mo,h.lo,h.now,?_,fun x c=>?_,fun x c y j=>?_,h.pP,?_,v.lb⟩,h.ph,h.fin,fun e=>?_,fun e=>absurd e J,h.vol,h.sn⟩
  ·refine oM0 (fun x c=>?_) (v.kp.sub (fun x c=>cG _ c));rcases d x c with h1 | h1
   ·exact v.kp x (bY _ h1)
   ·exact S x (bC.2 h1)
  ·show x.id∈M.I++[p.id];rcases bQ.1 c with c | c
   ·rcases d x c with h1 | h1
    ·exact v.idI x (bY _ h1)
    ·rw [h1];exact n
   ·exact v.idI x (cG _ c)
  ·rcases d x c with h1 | h1
   ·exact h.dis x h1 y j
   ·rw [h1];exact i y (cG _ j)
  ·have:=yD0 p M.L;show (addL p M.L).length+M.P.length<=100;omega
  ·exfalso;have u:=r.takes;have V:M.ph=7:=e;rw [V] at u;have hk:=r.kind;unfold eV0 iA0 hD0 at u;simp at u
end
theorem vZ0 (p:Int) (s:FS):∀k,(aY0 p s k).fs.length=s.fs.length+k
 | 0=>rfl
 | k+1=>by
  show ((aY0 p s k).fs++[_]).length=_;rw [aN,vZ0 p s k];rfl
theorem qI1 (h:LOk M.L) (g:M.L.length<=100):(uncM M).1.length<=101:=by
 unfold uncM
 by_cases a:0<(aI0 M).qty
 ·rw [aB a];have b:FOk (aI0 M).price ⟨[],M.L,(aI0 M).qty⟩:=fS0 M.la h a;obtain ⟨K,e,_,c⟩:=vU0 b;show (kA0 (aI0 M).price (aI0 M).qty M.L).fs.length<=101;rw [e,vZ0];cases K with
  | zero=>exact aO _
  | succ K=>
   have:=jY0 b K c;have d:(⟨[],M.L,(aI0 M).qty⟩:FS).L.length=M.L.length:=rfl;have f:(⟨[],M.L,(aI0 M).qty⟩:FS).fs.length=0:=rfl;omega
 ·rw [aA a];exact aO _
def uP0 (M M':Mkt):Prop:=M'.rs=M.rs/\M'.st=M.st/\M'.dy=M.dy/\M'.ti=M.ti/\M'.mo=M.mo
theorem qJ1 (M:Mkt):uP0 M (uncM M).2:=by
 unfold uncM;split <;> exact ⟨rfl,rfl,rfl,rfl,rfl⟩
theorem wJ1 (M:Mkt):(uncM M).2.now=M.now:=by unfold uncM;split <;> rfl
theorem uE0 (h:LOk M.L) (i:M.L.length<=100):(bT0 M).1.length<=101/\uP0 M (bT0 M).2/\(bT0 M).2.now<=M.now+1:=by
 have g:=qI1 (M:={ M with now:=M.now+1 }) h i;have f:uP0 M (uncM { M with now:=M.now+1 }).2:=qJ1 { M with now:=M.now+1 };have j:(uncM { M with now:=M.now+1 }).2.now=M.now+1:=wJ1 { M with now:=M.now+1 };have c:uP0 M M:=⟨rfl,rfl,rfl,rfl,rfl⟩;have a:uP0 M { M with now:=M.now+1 }:=⟨rfl,rfl,rfl,rfl,rfl⟩;unfold bT0
 by_cases e:M.ph=7
 ·rw [aB e];exact ⟨aO _,c,by show M.now<=M.now+1;omega⟩
 rw [aA e,xV0];have b:(resM { M with now:=M.now+1 }).1.length<=101/\uP0 M (resM { M with now:=M.now+1 }).2/\(resM { M with now:=M.now+1 }).2.now<=M.now+1:=⟨g,f,by show (uncM { M with now:=M.now+1 }).2.now<=M.now+1;omega⟩;split
 ·unfold finM
  by_cases d:M.ph=5
  ·rw [aB (show ({ M with now:=M.now+1 }:Mkt).ph=5 from d),aB (show ({ M with now:=M.now+1 }:Mkt).ph=5 from d)];exact ⟨g,f,by show (uncM { M with now:=M.now+1 }).2.now<=M.now+1;omega⟩
  ·rw [aA (show ¬({ M with now:=M.now+1 }:Mkt).ph=5 from d),aA (show ¬({ M with now:=M.now+1 }:Mkt).ph=5 from d)];exact ⟨aO _,a,bP _⟩
 split
 ·exact ⟨aO _,a,bP _⟩
 split
 ·unfold qO0;split
  ·exact b
  split
  ·exact ⟨aO _,a,bP _⟩
  ·exact ⟨aO _,a,bP _⟩
 split
 ·unfold setM;split
  ·exact b
  split
  ·exact ⟨aO _,a,bP _⟩
  ·exact ⟨aO _,a,bP _⟩
 ·exact ⟨aO _,a,bP _⟩
theorem rH0 (b:M.L.length<=100):(ordM M o).1.length<=101/\uP0 M (ordM M o).2/\(ordM M o).2.now=M.now:=by
 unfold ordM;split
 ·unfold eW0;split
  ·exact ⟨aO _,⟨rfl,rfl,rfl,rfl,rfl⟩,rfl⟩
  split
  ·exact ⟨aO _,⟨rfl,rfl,rfl,rfl,rfl⟩,rfl⟩
  ·unfold eB0;refine ⟨?_,?_,?_⟩
   ·have:=(tI0 (alM { M with I:=M.I++[o.id] }) (lieO o) (aR0 (3 - (lieO o).side) M.L) ⟨[],M.L,(lieO o).qty,[]⟩).1;have a:=iU0 (3 - (lieO o).side) M.L;have e:(⟨[],M.L,(lieO o).qty,[]⟩:MS).fs.length=0:=rfl;show (bN0 { M with I:=M.I++[o.id] } (lieO o)).1.fs.length<=101;unfold bN0;show (cC0 (alM { M with I:=M.I++[o.id] }) (lieO o) (aR0 (3 - (lieO o).side) M.L) ⟨[],M.L,(lieO o).qty,[]⟩).1.fs.length<=101;omega
   ·dsimp only;split <;> exact ⟨rfl,rfl,rfl,rfl,rfl⟩
   ·dsimp only;split <;> rfl
 ·exact ⟨aO _,⟨rfl,rfl,rfl,rfl,rfl⟩,rfl⟩
theorem cD1 (M:Mkt) (id:Int):uP0 M (canM M id)/\(canM M id).now=M.now:=by
 unfold canM;split
 ·exact ⟨⟨rfl,rfl,rfl,rfl,rfl⟩,rfl⟩
 split <;> exact ⟨⟨rfl,rfl,rfl,rfl,rfl⟩,rfl⟩
theorem wA0 (M:Mkt):uP0 M (fY0 M)/\(fY0 M).now=M.now:=by
 unfold fY0;split <;> exact ⟨⟨rfl,rfl,rfl,rfl,rfl⟩,rfl⟩
theorem wB0 (M:Mkt):uP0 M (eA0 M)/\(eA0 M).now=M.now:=by
 unfold eA0;split
 ·split
  ·exact ⟨⟨rfl,rfl,rfl,rfl,rfl⟩,rfl⟩
  split <;> exact ⟨⟨rfl,rfl,rfl,rfl,rfl⟩,rfl⟩
 ·exact ⟨⟨rfl,rfl,rfl,rfl,rfl⟩,rfl⟩
section
variable {M:Mkt} {lots side:Int->Int} {since:Int} {hands:Bool}
theorem DayInv.hT (h:DayInv M lots side since hands):DayInv M lots side 0 true:=
 ⟨h.toDayA,h.ph,h.fin,h.none,h.tr,(fun e=>by cases e),⟨bP _,fun _=>rfl⟩⟩
theorem DayInv.haltT (h:DayInv M lots side 0 true):DayInv (fY0 M) lots side 0 true:=by
 unfold fY0
 by_cases a:M.ph=6\/M.ph=7
 ·rw [aB a];exact h
 ·rw [aA a];refine ⟨⟨h.tab,h.rl,h.an,h.la,h.sh,h.ti,h.mo,h.lo,h.now,h.kp,h.idI,h.dis,h.pP,h.few,h.lb⟩,aH rfl,fun e=>absurd (aG (h.fin e)) a,(fun e=>by cases e),(fun e=>by cases e),(fun e=>by cases e),⟨bP _,fun _=>rfl⟩⟩
theorem DayInv.openT (h:DayInv M lots side 0 true):DayInv (eA0 M) lots side 0 true:=by
 by_cases a:M.ph=6
 ·have b:DayInv M lots side 0 false:=⟨h.toDayA,h.ph,h.fin,h.none,h.tr,(fun _ e=>by rw [a] at e;exact absurd e d7),h.sn⟩;exact b.open_.hT
 ·have e:eA0 M=M:=by unfold eA0;rw [aA a]
  rw [e];exact h
end
theorem qK1 (M:Mkt):(uncM M).2.I=M.I:=by unfold uncM;split <;> rfl
theorem bU2 (a b:Int) (m:Mkt):(kP0 a b m).2.I=m.I:=by
 unfold kP0;split
 ·show (if m.ph=5 then (uncM m).2 else m).I=m.I;split
  ·exact qK1 m
  ·rfl
 split
 ·rfl
 split
 ·exact qK1 m
 split
 ·rfl
 split
 ·rfl
 split
 ·split
  ·exact qK1 m
  split <;> rfl
 ·rfl
theorem bV2 (M:Mkt):(bT0 M).2.I=M.I:=by
 unfold bT0;split
 ·rfl
 ·exact bU2 _ _ _
theorem fR2 (M:Mkt) (id:Int):(canM M id).I=M.I:=by
 unfold canM;split
 ·rfl
 ·split <;> rfl
theorem bW2 (M:Mkt):(fY0 M).I=M.I:=by unfold fY0;split <;> rfl
theorem bX2 (M:Mkt):(eA0 M).I=M.I:=by
 unfold eA0;split
 ·split
  ·rfl
  split <;> rfl
 ·rfl
theorem fS2 (M:Mkt) (o:Ord):(ordM M o).2.I.length<=M.I.length+1:=by
 unfold ordM;split
 ·have e:(M.I++[o.id]).length=M.I.length+1:=by simp
  unfold eW0;split
  ·show (M.I++[o.id]).length<=_;omega
  split
  ·show (M.I++[o.id]).length<=_;omega
  ·unfold eB0;dsimp only;split
   ·show (M.I++[o.id]).length<=_;omega
   ·show (M.I++[o.id]).length<=_;omega
 ·exact cH _
def KdL (L:List Ord):Prop:=∀o∈L,in64 o.kind
structure KdM (M:Mkt):Prop where
 l:KdL M.L
 p:∀o∈M.P,in64 o.kind/\in64 o.price
theorem bQ0 {z:Int} (h:-1000000000<=z/\z<=1000000000):in64 z:=⟨o7,o7⟩
theorem KdL.less {L:List Ord} (h:KdL L) (id n:Int):KdL (bR0 id n L):=fun x a=>by
 obtain ⟨y,b,_,_,e,_⟩:=tV0 a;rw [<-e];exact h y b
theorem KdL.add {L:List Ord} (h:KdL L) {o:Ord} (a:in64 o.kind):KdL (addL o L):=fun x b=>by
 rcases yC0 b with h1 | h1
 ·exact h x h1
 ·rw [h1,cA1];exact a
theorem yF0 {k:Nat} (h:x∈dT0 k L):x∈L:=by
 unfold dT0 at h;rcases bQ.1 h with h | h
 ·exact dT h
 ·exact fO h
theorem wK1 (h:KdL L) (k:Nat):in64 (oAt L k).kind:=by
 by_cases hk:k<L.length
 ·exact h _ (qH0 hk)
 ·have:oAt L k=Ord.none_:=by simp [oAt,hk]
  rw [this];exact bQ0 d7
theorem KdL.cut {L:List Ord} (h:KdL L) (id q:Int):KdL (cutM id q L):=fun x a=>by
 unfold cutM at a;split at a
 ·exact h x a
 ·split at a
  ·exact h x a
  ·split at a
   ·exact h x (yF0 a)
   ·rcases List.mem_or_eq_of_mem_set a with h1 | h1
    ·exact h x h1
    ·rw [h1];exact wK1 h _
theorem KdL.fills {p:Int}:∀(n:Nat) (s:FS),KdL s.L->KdL (jN0 p n s).L
 | 0,_,h=>h
 | n+1,s,h=>by
  unfold jN0;split
  ·exact h
  ·exact KdL.fills n _ ((h.cut _ _).cut _ _)
theorem KdL.lim {L:List Ord} (h:KdL L):KdL (limL L):=fun x a=>h x (List.mem_filter.1 a).1
theorem KdM.unc {M:Mkt} (h:KdM M):KdM (uncM M).2:=by
 unfold uncM;split
 ·exact ⟨(KdL.fills _ _ h.l).lim,h.p⟩
 ·exact ⟨h.l.lim,h.p⟩
theorem qL1:∀(P L:List Ord),(∀o∈P,in64 o.kind/\in64 o.price)->KdL L->KdL (P.foldl (fun L o=>addL o L) L)
 | [],_,_,h=>h
 | o::P,L,hP,h=>qL1 P (addL o L) (fun x a=>hP x (aQ _ a)) (h.add (hP o (aK ..)).1)
theorem KdM.clos {M:Mkt} (h:KdM M):KdM (kC0 M):=⟨qL1 M.P M.L h.p h.l,fun o a=>by cases a⟩
theorem KdM.nil {M:Mkt} (b:M.L=[]) (c:M.P=[]):KdM M:=⟨fun o a=>(by rw [b] at a;cases a),fun o a=>(by rw [c] at a;cases a)⟩
theorem KdM.same {M M':Mkt} (h:KdM M) (a:M'.L=M.L) (b:M'.P=M.P):KdM M':=⟨by rw [a];exact h.l,by rw [b];exact h.p⟩
theorem KdM.tick {M:Mkt} (h:KdM M):KdM (bT0 M).2:=by
 unfold bT0;split
 ·exact h
 ·unfold kP0;have h1:KdM { M with now:=M.now+1 }:=h.same rfl rfl;split
  ·exact KdM.nil rfl rfl
  ·split
   ·exact h1
   ·split
    ·exact h1.unc.same rfl rfl
    ·split
     ·exact h1.clos
     ·split
      ·exact h1.same rfl rfl
      ·split
       ·split
        ·exact h1.unc.same rfl rfl
        ·split
         ·exact h1.same rfl rfl
         ·exact h1.same rfl rfl
       ·exact h1
theorem KdL.meet {a:List Int->Int->Bool} {o:Ord}:∀(X:List Ord) (s:MS),KdL s.L->KdL (cC0 a o X s).1.L
 | [],s,h=>by unfold cC0;exact h
 | x::T,s,h=>by
  by_cases h0:s.q<=0
  ·rw [eC0 h0];exact h
  by_cases hk:x.kind=2
  ·rw [jZ0 hk];exact KdL.meet T s h
  cases hf:farB o x with
  | true=>rw [jB0 o7 hk hf];exact h
  | false=>
   cases ha:a s.ts x.price with
   | false=>rw [gT0 o7 hk hf ha];exact h
   | true=>
    rw [fK0 o7 hk hf ha];refine KdL.meet T (iN0 o x s) ?_;unfold iN0;exact h.less _ _
theorem KdM.trade {M:Mkt} (h:KdM M) {o:Ord} (c:in64 o.kind):KdM (eB0 M o).2:=by
 have b:KdL (bN0 M o).1.L:=KdL.meet _ _ h.l
 have a:KdL (if 0<(bN0 M o).1.q/\o.kind≠2 then addL (bX0 o (bN0 M o).1.q) (bN0 M o).1.L else (bN0 M o).1.L):=by
  split
  ·exact b.add c
  ·exact b
 unfold eB0;dsimp only;split
 ·exact ⟨a,h.p⟩
 ·exact ⟨a,h.p⟩
theorem KdM.ord {M:Mkt} (h:KdM M) {o:Ord} (d:in64 o.kind) (e:in64 o.price):KdM (ordM M o).2:=by
 unfold ordM;split
 ·have h1:KdM { M with I:=M.I++[o.id] }:=h.same rfl rfl;have a:in64 (lieO o).kind:=by rw [cA1];exact d
  have c:in64 (lieO o).price:=by
   unfold lieO;split
   ·exact (bQ0 ⟨d7,d7⟩:in64 1)
   ·exact e
  unfold eW0;split
  ·refine ⟨h1.l,fun x b=>?_⟩;rcases bQ.1 b with b | b
   ·exact h.p x b
   ·rw [bC.1 b];exact ⟨a,c⟩
  ·split
   ·exact ⟨h1.l.add a,h.p⟩
   ·exact h1.trade a
 ·exact h
theorem KdM.can {M:Mkt} (h:KdM M) (id:Int):KdM (canM M id):=by
 unfold canM;split
 ·exact h
 ·split
  ·exact ⟨h.l,fun o b=>h.p o (yF0 b)⟩
  ·refine ⟨fun o b=>?_,h.p⟩;have a:o∈canL id M.L:=b;unfold canL at a;split at a
   ·exact h.l o a
   ·exact h.l o (yF0 a)
theorem KdM.halt {M:Mkt} (h:KdM M):KdM (fY0 M):=by
 unfold fY0;split
 ·exact h
 ·exact h.same rfl rfl
theorem KdM.open_ {M:Mkt} (h:KdM M):KdM (eA0 M):=by
 unfold eA0;split
 ·split
  ·exact h.same rfl rfl
  ·split
   ·exact h.clos
   ·exact h.same rfl rfl
 ·exact h
theorem uF0 {p:Int}:∀(n:Nat) (s:FS),(∀f∈s.fs,f.price=p)->∀f∈(jN0 p n s).fs,f.price=p
 | 0,_,h=>h
 | n+1,s,h=>by
  unfold jN0;split
  ·exact h
  ·refine uF0 n _ (fun f a=>?_);rcases bQ.1 a with a | a
   ·exact h f a
   ·rw [bC.1 a]
theorem qM1 (c:LOk M.L) (b:1<=M.la/\M.la<=1000000):∀f∈(uncM M).1,1<=f.price/\f.price<=1000000:=by
 unfold uncM;split
 ·rename_i hq;intro f a;rw [uF0 _ _ (fun f a=>by cases a) f a];exact iC0 c b hq
 ·intro f a;cases a
theorem kQ1 (d:LOk M.L) (b:1<=M.la/\M.la<=1000000):∀f∈(bT0 M).1,1<=f.price/\f.price<=1000000:=by
 have c:=qM1 (M:={ M with now:=M.now+1 }) d b;have a:∀f∈([]:List Fil),1<=f.price/\f.price<=1000000:=fun f e=>by cases e
 unfold bT0;split
 ·exact a
 ·unfold kP0;split
  ·dsimp only;split
   ·exact c
   ·exact a
  ·split
   ·exact a
   ·split
    ·exact c
    ·split
     ·exact a
     ·split
      ·exact a
      ·split
       ·split
        ·exact c
        ·split
         ·exact a
         ·exact a
       ·exact a
theorem cE1 {st dy a la p:Int} (g:1<=a/\a<=1000000) (i:0<=st/\st<=10000) (h:dZ0 st dy a la p=true):1<=p/\p<=1000000:=by
 have b:cO0 a st=true:=by unfold cO0 inB;simp;omega
 have h1:gI0 st a p=true:=by
  unfold dZ0 at h;exact (aW.1 h).1
 unfold gI0 inB bandL bandH at h1;rw [aB b,aB b] at h1;obtain ⟨c,e⟩:=aW.1 h1;have d:=of_decide_eq_true c;have f:=of_decide_eq_true e;omega
theorem uG0 {st dy b:Int} (c:1<=b/\b<=1000000) (d:0<=st/\st<=10000):∀{fs:List Fil} {la:Int},nD0 st dy b la fs->∀f∈fs,1<=f.price/\f.price<=1000000
 | [],_,_,f,a=>by cases a
 | g::fs,la,h,f,a=>by
  obtain ⟨h1,e⟩:=h;rcases aR.1 a with rfl | a
  ·exact cE1 c d h1
  ·exact uG0 c d e f a
def LotI (lots:Int->Int):Prop:=∀id,lots id≠0->in64 id
theorem LotI.start:LotI (fun _=>0):=fun _ h=>absurd rfl h
theorem LotI.up {lots:Int->Int} (h:LotI lots) {k v:Int} (hk:in64 k):LotI (upF lots k v):=fun id a=>by
 by_cases e:id=k
 ·rw [e];exact hk
 ·rw [dJ0 e] at a;exact h id a
theorem LotI.fills {side:Int->Int}:∀{fs:List Fil} {lots:Int->Int},LotI lots->(∀id,lots id<=1000000)->fM0 side lots fs->(∀f∈fs,in64 f.buyer/\in64 f.seller/\in64 f.qty)/\LotI (cA0 lots fs)
 | [],_,h,_,_=>⟨fun f b=>(by cases b),h⟩
 | f::fs,lots,h,hb,b=>by
  obtain ⟨⟨h1,l,m,q,r⟩,n⟩:=b;have j:in64 f.buyer:=h _ o7;have k:in64 f.seller:=h _ o7;have d:f.seller≠f.buyer:=fun e=>by rw [e,l] at m;omega
  have a:∀id,oJ0 lots f id<=1000000:=fun id=>by
   unfold oJ0
   by_cases e:id=f.seller
   ·rw [e,eU0,dJ0 d];have:=hb f.seller;omega
   ·rw [dJ0 e]
    by_cases i:id=f.buyer
    ·rw [i,eU0];have:=hb f.buyer;omega
    ·rw [dJ0 i];exact hb id
  obtain ⟨o,p⟩:=LotI.fills ((h.up j).up k) a n;refine ⟨fun g c=>?_,p⟩;rcases aR.1 c with rfl | c
  ·exact ⟨j,k,bQ0 (by have:=hb g.buyer;omega)⟩
  ·exact o g c
structure NumI (M:Mkt) (lots:Int->Int):Prop where
 kd:KdM M
 lot:LotI lots
theorem yG0 {lots side:Int->Int} {a:Int} {hands:Bool} (h:DayInv M lots side a hands) (d:LOk M.L) (c:NumI M lots):∀o∈M.L,kU0 o:=fun o b=>by
 have h1:=d.ok o b;have e:=(h.kp o (bY _ b)).1;exact ⟨c.lot _ o7,c.kd.l o b,bQ0 o7,bQ0 o7⟩
theorem yH0 {lots side:Int->Int} {a:Int} {hands:Bool} (h:DayInv M lots side a hands) (c:NumI M lots):∀o∈M.P,kU0 o:=fun o b=>by
 have e:=(h.kp o (cG _ b)).1;have f:=h.lb o.id;have d:=(h.pP o b).2;exact ⟨bounds_i64 d,(c.kd.p o b).1,(c.kd.p o b).2,bQ0 o7⟩
structure DsK where
 ta:Option Addr
 tc:Nat
 eb:Nat
 k:EgK
def dsV (x:DsK) (H:DsS):Array Value:=#[J x.ta H.rs.length x.tc,U G H.st,U G H.dy,U G H.pr,U G H.ti,U G H.mo,E (match H.mkt with | some _=>some ⟨x.eb,0,none⟩ | none=>none)]
structure DsIs (w:World) (lo sb:Nat) (x:DsK) (H:DsS) (n:Nat):Prop where
 box:w.heap[sb]? = some (R (dsV x H) 32 (0,0))
 slt:sb<lo/\lo<=w.heap.size
 rows:0<H.rs.length->∃tb,x.ta=some ⟨tb,0,none⟩/\cV0 w tb 0 H.rs/\zQ0 H.rs/\lo<=tb/\((∃M,H.mkt=some M)->¬x.k.foot x.eb tb)/\∃cs f,w.heap[tb]? = some (R cs 113 f)
 eg:∀M,H.mkt=some M->Eg w x.eb x.k M/\(∃lots side,DayInv M lots side 0 true/\NumI M lots)/\(∀j,x.k.foot x.eb j->lo<=j)/\x.k.m<=302*n/\M.now<=(n:Int)
def DsW (w:World) (lo sb:Nat) (j:Nat):Prop:=j=sb\/(lo<=j/\∀c t f,t=5\/t=9->w.heap[j]?≠some (R c t f))
section
variable {w w':World} {lo sb n:Nat} {x:DsK} {H:DsS} {M:Mkt}
theorem Eg.farU {u:Nat} {k:EgK} (h:Eg w u k M) {j:Nat} (a:k.foot u j):∀c t f,t=5\/t=9->w.heap[j]?≠some (R c t f):=fun c B f o e=>by
 have d:∀{base p l n:Nat} {v:Value} {xs:List Value},w.ownsRow base p l v n xs->v.ownBlock=some j->(p≠5/\p≠9)->False:=fun {base p l n v xs} hr hv hne=>by
  rcases hr.2 with ⟨s,_⟩ | ⟨g,x,y,s,_,A,_⟩
  ·rw [s] at hv;cases hv
  ·rw [s] at hv;have z:g=j:=by simpa [Value.ownBlock] using hv
   rw [<-z,A] at e;injection e with e;injection e with _ m _;exact o.elim (fun q=>hne.1 (m.trans q)) (fun q=>hne.2 (m.trans q))
 have i:∀{b:Nat} {vs:Array Value} {t:TypeId} {f':Nat×Nat},w.heap[b]? = some (R vs t f')->j=b->(t≠5/\t≠9)->False:=fun {b vs t f'} r hv hne=>by
  rw [<-hv,e] at r;injection r with r;injection r with _ m _;exact o.elim (fun q=>hne.1 (m.symm.trans q)) (fun q=>hne.2 (m.symm.trans q))
 rcases a with a | a | a | a | a
 ·exact i h.box a d7
 ·exact i h.bn a d7
 ·rcases a with a | a | a | a | a
  ·exact i h.bk.at_.box a d7
  ·rcases a with a | a | a
   ·exact i h.bk.at_.ar.box a d7
   ·exact d h.bk.at_.ar.slots a d7
   ·exact d h.bk.at_.ar.free a d7
  ·exact h.bk.at_.map.ne e a
  ·exact d h.bk.at_.row0 a d7
  ·exact d h.bk.at_.row1 a d7
 ·exact d h.pk a d7
 ·exact h.tkn.ne e a
theorem DsIs.below (h:DsIs w lo sb x H n) (a:Below w.heap.size w w'):DsIs w' lo sb x H n:=by
 refine ⟨aE0 h.box a lR7,⟨h.slt.1,aI h.slt.2 a.size⟩,fun h0=>?_,fun M i=>?_⟩
 ·obtain ⟨j,h1,b,c,d,e,cs,f,g⟩:=h.rows h0;exact ⟨j,h1,b.below a lR7,c,d,e,cs,f,aE0 g a lR7⟩
 ·obtain ⟨h1,b⟩:=h.eg M i;exact ⟨h1.below a,b⟩
theorem DsIs.more {n':Nat} (h:DsIs w lo sb x H n) (f:n<=n'):DsIs w lo sb x H n':=⟨h.box,h.slt,h.rows,fun M c=>by
 obtain ⟨h1,a,b,d,e⟩:=h.eg M c;exact ⟨h1,a,b,o7,o7⟩⟩
theorem DsIs.ptr (h:DsIs w lo sb x H n):w.cell? ⟨sb,6,none⟩=some (E (match H.mkt with | some _=>some ⟨x.eb,0,none⟩ | none=>none)):=aA0 (j:=6) h.box rfl
theorem DsIs.far (h:DsIs w lo sb x H n) (a:H.mkt=some M):¬x.k.foot x.eb sb:=fun e=>by
 have:=(h.eg M a).2.2.1 sb e;have:=h.slt.1;omega
theorem DsW.of_below (a:Below w.heap.size w w'):Out (DsW w lo sb) w w':=Out.of_below a lR7
theorem DsIs.go {g:EgK} {M':Mkt} (h:DsIs w lo sb x H n) (b:H.mkt=some M) (a:EgGo w w' x.eb x.k g M') (t:∃lots side,DayInv M' lots side 0 true/\NumI M' lots) (v:g.m<=302*(n+1)) (y:M'.now<=(n+1:Nat)):
  DsIs w' lo sb { x with k:=g } { H with mkt:=some M' } (n+1)/\Out (DsW w lo sb) w w':=by
 obtain ⟨h1,A,l,B,C⟩:=h.eg M b;have u:=h.far b;refine ⟨⟨?_,⟨h.slt.1,aI h.slt.2 a.2.1.size⟩,fun h0=>?_,fun z e=>?_⟩,a.2.1.mono fun j c=>aG ⟨l j c,h1.farU c⟩⟩
 ·have:=aF0 h.box a.2.1 u;unfold dsV at this ⊢;rw [b] at this;exact this
 ·obtain ⟨tb,o,p,q,r,s,cs,f,i⟩:=h.rows h0;have d:¬x.k.foot x.eb tb:=s ⟨M,b⟩;refine ⟨tb,o,cX0 p a.2.1 d,q,r,fun _ e=>?_,cs,f,aF0 i a.2.1 d⟩;rcases a.2.2.1 tb e with e | e
  ·exact d e
  ·have:=lt_of_block i;omega
 ·cases e;refine ⟨a.1,t,fun j c=>?_,v,y⟩;rcases a.2.2.1 j c with e | e
  ·exact l j e
  ·exact aI h.slt.2 e
end
def fI0 (r:Int×List UInt8) (e:Ending):Prop:=
 (r.1=0/\e=Y (.string (baOf r.2)))\/(r.1≠0/\e=.panicked [{ v:=.iface 26 (U G r.1),recovered:=false }])
def eQ0 (w w':World) (lo sb n:Nat) (r:(Int×List UInt8)×DsS) (e:Ending):Prop:=fI0 r.1 e/\Out (DsW w lo sb) w w'/\∃x',DsIs w' lo sb x' r.2 (n+1)
end
section
open Go.RowKit Go.Shelf
theorem fT2 (a b:Int) (f:Value) (n:Nat) (w:World) (j:n<=1000000):
  Calls prog 44 #[.agg #[U G a,U G b,f],U G n] w fun e w'=>e=Y (.bool (kT0 a n))/\Below w.heap.size w w':=by
 have g:=bel1 w (R #[U G a,U G b,f] 69);have d:Hid _:=g;clear g
 have i:(Int.tmod (n:Int) 2 == 0)=decide ((n:Int) % 2=0):=by
  rw [Int.tmod_eq_emod_of_nonneg o7];rfl
 by_cases h:a=-1
 ·have h1:=beq_iff_eq.2 h;have c:Hid (kT0 a n=decide ((n:Int) % 2=0)):=by show _=_;unfold kT0;rw [aB h]
  clear h;go_enter func44,ntmps44;go_wp2_with fail;go_ret;exact ⟨by rw [c.out];first | rfl | (rw [<-i]),d.out⟩
 ·have h1:=aC.2 h;have c:Hid (kT0 a n=((n:Int) == a)):=by show _=_;unfold kT0;rw [aA h];rfl
  clear h;go_enter func44,ntmps44;go_wp2_with fail;go_ret;exact ⟨by rw [c.out];rfl,d.out⟩
theorem fU2 (lo sb n:Nat) (x:DsK) (H:DsS) (t:Int) (w:World) (h:DsIs w lo sb x H n):
  Calls prog 46 #[E (some ⟨sb,0,none⟩),U G t] w fun e w'=>e=Y (.bool (mayD t H))/\w'=w:=by
 have c:=h.ptr;clear h
 by_cases h1:t=1
 ·have d:=beq_iff_eq.2 h1;have a:Hid (mayD t H=H.mkt.isNone):=by show _=_;unfold mayD;rw [aB h1]
  clear h1;cases hm:H.mkt with
  | none=>
   rw [hm] at c a;go_enter func46,ntmps46;go_wp2_with fail;go_ret;exact ⟨by rw [a.out];rfl,rfl⟩
  | some M=>
   rw [hm] at c a;go_enter func46,ntmps46;go_wp2_with fail;go_ret;exact ⟨by rw [a.out];rfl,rfl⟩
 ·have d:=aC.2 h1
  by_cases b:t=2
  ·have f:=beq_iff_eq.2 b;have a:Hid (mayD t H=H.mkt.isSome):=by show _=_;unfold mayD;rw [aA h1,aB b]
   clear h1 b;cases hm:H.mkt with
   | none=>
    rw [hm] at c a;go_enter func46,ntmps46;go_wp2_with fail;go_ret;exact ⟨by rw [a.out];rfl,rfl⟩
   | some M=>
    rw [hm] at c a;go_enter func46,ntmps46;go_wp2_with fail;go_ret;exact ⟨by rw [a.out];rfl,rfl⟩
  ·have f:=aC.2 b;have a:Hid (mayD t H=true):=by show _=_;unfold mayD;rw [aA h1,aA b]
   clear h1 b c;go_enter func46,ntmps46;go_wp2_with fail;go_ret;exact ⟨by rw [a.out];rfl,rfl⟩
theorem pV0:∀(b:List ByteArray) (s:ByteArray),gD0 (b++[s])=match gD0 b with | none=>none | some l=>match numB s with | none=>none | some n=>some (l++[n])
 | [],s=>by
  show (match numB s with | none=>none | some n=>_)=_;cases numB s <;> rfl
 | a::b,s=>by
  show (match numB a with | none=>none | some n=>match gD0 (b++[s]) with | none=>none | some l=>some (n::l))=(match (match numB a with | none=>none | some n=>match gD0 b with | none=>none | some l=>some (n::l)) with | none=>none | some l=>match numB s with | none=>none | some n=>some (l++[n]));rw [pV0 b s];cases numB a with
  | none=>rfl
  | some n=>
   cases gD0 b with
   | none=>rfl
   | some l=>cases numB s <;> rfl
theorem mE0:∀(b:List ByteArray) {s:ByteArray},s∈b->numB s=none->gD0 b=none
 | [],_,h,_=>by cases h
 | a::b,s,h,hs=>by
  show (match numB a with | none=>none | some n=>match gD0 b with | none=>none | some l=>some (n::l))=none;rcases aR.1 h with rfl | h
  ·rw [hs]
  ·rw [mE0 b h hs];cases numB a <;> rfl
theorem kJ0:∀(b:List ByteArray) {l:List Int},gD0 b=some l->l.length=b.length
 | [],l,h=>by cases h;rfl
 | a::b,l,h=>by
  change (match numB a with | none=>none | some n=>match gD0 b with | none=>none | some l=>some (n::l))=some l at h
  cases ha:numB a with
  | none=>rw [ha] at h;cases h
  | some n=>
   rw [ha] at h;cases hw:gD0 b with
   | none=>rw [hw] at h;cases h
   | some l'=>
    rw [hw] at h;cases h;simp [kJ0 b hw]
theorem yI0 {l:List UInt8} {v:Int} (h:Lib.parseIntB 64 l=.ok v):-9223372036854775808<=v/\v<=9223372036854775807:=by
 unfold Lib.parseIntB at h;split at h
 ·cases h
 ·dsimp only at h;split at h
  ·cases h
  ·cases h
  ·split at h
   ·cases h
   ·split at h
    ·cases h
    ·rename_i u _ h1 h2;cases h;split
     ·rename_i hneg;have:¬2 ^ (64 - 1)<u:=fun e=>h2 ⟨hneg,e⟩
      have a:2 ^ (64 - 1)=9223372036854775808:=d7;omega
     ·rename_i hneg;have:¬2 ^ (64 - 1)<=u:=fun e=>h1 ⟨hneg,e⟩
      have a:2 ^ (64 - 1)=9223372036854775808:=d7;omega
theorem bY2 {s:ByteArray} {v:Int} (h:numB s=some v):-9223372036854775808<=v/\v<=9223372036854775807:=by
 unfold numB at h;split at h
 ·rename_i v' hp;split at h
  ·cases h;exact yI0 hp
  ·cases h
 ·cases h
theorem oP0:∀(c:List ByteArray) {l:List Int},gD0 c=some l->∀z∈l,-9223372036854775808<=z/\z<=9223372036854775807
 | [],l,h,z,b=>by cases h;cases b
 | a::c,l,h,z,b=>by
  change (match numB a with | none=>none | some n=>match gD0 c with | none=>none | some l=>some (n::l))=some l at h
  cases ha:numB a with
  | none=>rw [ha] at h;cases h
  | some n=>
   rw [ha] at h;cases hw:gD0 c with
   | none=>rw [hw] at h;cases h
   | some l'=>
    rw [hw] at h;cases h;rcases aR.1 b with rfl | b
    ·exact bY2 ha
    ·exact oP0 c hw z b
def numV (l:List Int) (n:Nat):List Value:=l.map (fun z=>Value.int .i64 z)++gH (n - l.length) (U G 0)
theorem bZ2 {n:Nat} (h:l.length<n) (z:Int):(numV l n).set l.length (U G z)=numV (l++[z]) n:=by
 unfold numV;rw [show n - l.length=(n - (l++[z]).length)+1 by simp;omega,List.replicate_succ,List.set_append,aA s7];simp
theorem fV2 {n:Nat} (h:l.length<n):(numV l n)[l.length]? = some (U G 0):=by
 unfold numV;rw [List.getElem?_append_right s7];simp [List.getElem?_replicate];omega
def pW0 (l:List Int):List Value:=l.map (fun z=>Value.int .i64 z)
theorem cA2:numV l l.length=pW0 l:=by simp [numV,pW0]
def qN1 (ws:List ByteArray) (w w':World) (e:Ending):Prop:=
 (gD0 ws=none/\e=.panicked [{ v:=.iface 26 (U G 3),recovered:=false }])\/
 ∃l v,gD0 ws=some l/\e=Y v/\w'.ownsRow w.heap.size 3 1 v l.length (pW0 l)
theorem infoIntD:(prog.info? 3).map (fun i=>(i.zero,i.size,i.bytes))=some (some (U G 0),1,8):=k7
theorem qO1 (a:Option Addr) (a1:Nat) (c:List ByteArray) (w:World) (hc:∀j s,c[j]? = some s->∃b o,a=some ⟨b,o,none⟩/\w.cell? ⟨b,o+j,none⟩=some (.string s)) (hs:∀s∈c,s.size<=1000000) (hn:c.length<=100000) (R:DsVars w) (hB:12<=w.heap.size):
  Calls prog 45 #[J a c.length a1] w fun e w'=>qN1 c w w' e/\Below w.heap.size w w':=by
 obtain ⟨i0,hi,O,P,Q⟩:=info_parts infoIntD;have HC:=hid7 hc;have HS:=hid7 hs;have HV:=hid7 R;have q1:∀(w:World) (t:TypeId) (p:Value),(binOp .neq 43 (.iface t p) .nilIface).run prog w=.ok (.bool true) w:=fun _ _ _=>by rfl
 have q0:∀(w:World),(binOp .neq 43 .nilIface .nilIface).run prog w=.ok (.bool false) w:=fun _=>by rfl
 clear hc hs R;go_enter func45,ntmps45;go_wp2_with (at_make;refine wpList_make_full _ rfl _ _ 59 rfl w.heap.size 3 i0 (U G 0) 1 underlying59 hi O P _ _ _ _ c.length rfl rfl (by go_num) (by go_num) (by rw [Q];omega) (by unfold maxLen;omega) lR7 ?_;intro wt f M);have L:Below w.heap.size w wt:=(aF _ _).grown M lR7 (fun _ n=>by cases n);rw [show (Value.int .i64 0:Value).cells=#[U G 0] from rfl,Nat.mul_one,toList_madeCells_one,show gH c.length (Value.int .i64 0)=numV [] c.length by simp [numV]] at f;have HO:Hid _:=f;have S:=hid7 L;clear f L M hi O P Q;go_wp2_with fail
 go_loopw [4,5,6,7,13] (fun _ _ _ _ u wr=>∃(k:Nat) (l:List Int),k<=c.length/\u=U G k/\gD0 (c.take k)=some l/\wr.ownsRow w.heap.size 3 1 (J (some ⟨w.heap.size,0,none⟩) c.length c.length) c.length (numV l c.length)/\Below w.heap.size w wr)
  (fun _ _ _ _ u _=>c.length - (intOf u).toNat)
 case atStart=>exact ⟨0,[],aO _,rfl,rfl,HO.out,S.out⟩
 case round=>
  obtain ⟨k,l,hk,rfl,hl,q,hb⟩:=hrel;have g:=hid7 hb;have K:Hid _:=q;have V:=hid7 hl;clear q hb hl
  by_cases D:k<c.length
  ·obtain ⟨s,m⟩:∃s,c[k]? = some s:=⟨c[k],List.getElem?_eq_getElem D⟩;have A:=hid7 m;obtain ⟨b,o,rfl,c0⟩:=HC.out k s m;have c1:wr.cell? ⟨b,o+k,none⟩=some (.string s):=(g.out.cell (p:=⟨b,o+k,none⟩) (World.block_lt_of_cell? w _ c0)).trans c0;have a4:=HS.out s (List.mem_of_getElem? m);clear m c0;have B:=hid7 (HV.out.below g.out hB);go_wp2_with fail;refine (pC1 s wr a4 B.out.syn B.out.ran).mono ?_;rintro e w2 ⟨hP,i⟩;have H:=hid7 i;have E:=hid7 (aD0 g.out i);have x:Hid (w2.ownsRow w.heap.size 3 1 (J (some ⟨w.heap.size,0,none⟩) c.length c.length) c.length (numV l c.length)):=aU0 K.out i lR7;clear i c1;rcases hP with ⟨v,hp,rfl⟩ | ⟨N,z,t,p,rfl⟩
   ·have r:=yI0 hp;have HP:=hid7 hp;clear hp;go_wp2_with fail;refine (gY1 v w2 r.1 r.2 (B.out.tab.below H.out)).mono ?_;rintro e w3 ⟨rfl,C⟩;have F:=hid7 (aD0 E.out C);have y:Hid (w3.ownsRow w.heap.size 3 1 (J (some ⟨w.heap.size,0,none⟩) c.length c.length) c.length (numV l c.length)):=aU0 x.out C lR7;clear C;have d:=kJ0 _ V.out;rw [bF,Nat.min_eq_left hk] at d
    by_cases n:Lib.itoa v=s.data.toList
    ·have a3:((baOf (Lib.itoa v)).toList == s.toList)=true:=by rw [ByteArray.toList_eq,ByteArray.toList_eq];exact beq_iff_eq.2 n
     have X:Hid (numB s=some v):=by
      show _=_;unfold numB;rw [HP.out];dsimp only;rw [aB n]
     have Z:Hid (gD0 (c.take (k+1))=some (l++[v])):=by
      show _=_;obtain ⟨a2,e'⟩:=List.getElem?_eq_some_iff.1 A.out;rw [aM a2,e',pV0,V.out,X.out]
     have c3:w3.cell? ⟨w.heap.size,k,none⟩=some (U G 0):=by
      rw [y.out.cellAt k o7,<-d];exact fV2 o7
     have f3:=y.out.frozenAt k;have a0:Hid _:=(y.out.stored k (U G v)).1;have T:Hid (Below w.heap.size w (w3.setCell ⟨w.heap.size,k,none⟩ (U G v))):=F.out.setCell (p:=⟨w.heap.size,k,none⟩) lR7 _;have HE:Hid ((numV l c.length).set k (U G v)=numV (l++[v]) c.length):=by show _=_;rw [<-d];exact bZ2 o7 v
     clear n d;go_wp2_with fail;go_roundw
     case rel=>exact ⟨k+1,l++[v],D,by go_num,Z.out,by rw [<-HE.out];exact a0.out,T.out⟩
     case measure=>first | (simp [intOf];omega) | (show c.length - (k+1)<c.length - k;omega) | omega
    ·have a3:((baOf (Lib.itoa v)).toList == s.toList)=false:=by rw [ByteArray.toList_eq,ByteArray.toList_eq];exact aC.2 n
     have W:Hid (gD0 c=none):=mE0 c (List.mem_of_getElem? A.out) (by
      unfold numB;rw [HP.out];dsimp only;rw [aA n])
     clear n d;go_wp2_with fail;exact ⟨rfl,aH ⟨W.out,rfl⟩,F.out⟩
   ·have W:Hid (numB s=none):=by
     show _=_;unfold numB;split
     ·rename_i v R;exact absurd R (N v)
     ·rfl
    have Y:=hid7 (mE0 c (List.mem_of_getElem? A.out) W.out);clear N;go_wp2_with fail;exact ⟨rfl,aH ⟨Y.out,rfl⟩,E.out⟩
  ·obtain rfl:k=c.length:=o7;have I:Hid (gD0 c=some l):=by show _=_;have:=V.out;rwa [bI] at this
   have d:=kJ0 _ I.out
   have x:Hid (wr.ownsRow w.heap.size 3 1 (J (some ⟨w.heap.size,0,none⟩) c.length c.length) l.length (pW0 l)):=by
    have:=K.out;rw [<-d,cA2] at this;rw [<-d];exact this
   clear D d;go_wp2_with fail;go_ret;exact ⟨aG ⟨l,_,I.out,rfl,x.out⟩,g.out⟩
theorem qP1 (a b:List UInt8):(⟨a.toArray⟩:ByteArray)++baOf b=baOf (a++b):=by
 apply ByteArray.ext;rw [ByteArray.data_append];simp [baOf]
theorem pX0 (a b:List UInt8):baOf a++baOf b=baOf (a++b):=qP1 a b
theorem gE0 (a:List UInt8):(baOf a).size=a.length:=by simp [baOf,ByteArray.size]
theorem qQ1 (n:Int) (w:World) (b:in64 n) (g:gV0 w):
  Calls prog 7 #[.iface 26 (U G n)] w fun e w'=>e=Y (.string (baOf (errT n)))/\Below w.heap.size w w':=by
 have i:∀(w:World) (n:Int),(Instr.typeAssert (.iface 26 (U G n)) 20 26 true).run prog w=.ok (.tuple #[U G n,.bool true]) w:=fun _ _=>by kernel_rfl
 have c:=Lib.itoa_length_le n b.1 b.2;have f:Hid ((⟨#[101,114,114,111,114,32]⟩:ByteArray)++baOf (Lib.itoa n)=baOf (errT n)):=qP1 [101,114,114,111,114,32] (Lib.itoa n);have j:=gE0 (Lib.itoa n);go_enter func7,ntmps7;go_wp2_with fail;refine (pB1 n w b.1 b.2 g).mono ?_;rintro e w1 ⟨rfl,a⟩;have d:Hid (Below w.heap.size w w1):=a;clear a;go_wp2_with fail;go_ret;exact ⟨by rw [<-f.out];rfl,d.out⟩
def yW1 (n:Int) (e:Ending):Prop:=(n=0/\e=Y (.tuple #[]))\/(n≠0/\e=.panicked [{ v:=.iface 26 (U G n),recovered:=false }])
theorem qR1 (c:Value) (n k:Int) (w:World) (j:ErrT w) (h:jZ1 w c n k) (d:c=.nilIface\/n≠0):
  Calls prog 66 #[c] w fun e w'=>yW1 n e/\Below w.heap.size w w':=by
 have r:∀(w:World) (t:TypeId) (p:Value),(binOp .neq 43 (.iface t p) .nilIface).run prog w=.ok (.bool true) w:=fun _ _ _=>by rfl
 have q:∀(w:World),(binOp .neq 43 .nilIface .nilIface).run prog w=.ok (.bool false) w:=fun _=>by rfl
 have m:∀(w:World) (n:Int),(Instr.makeInterface 26 (U G n)).run prog w=.ok (.iface 26 (U G n)) w:=fun _ _=>by rfl
 have H:=hid7 h;have i:=hid7 j;clear j;rcases h with ⟨rfl,rfl,rfl⟩ | ⟨rfl,rfl⟩ | ⟨b,o,rfl,h1,l⟩
 ·go_enter func66,ntmps66;go_wp2_with fail
  first
   | exact ⟨aH ⟨rfl,rfl⟩,aF _ _⟩
   | (go_end0;exact ⟨aH ⟨rfl,rfl⟩,aF _ _⟩)
   | (go_ret;exact ⟨aH ⟨rfl,rfl⟩,aF _ _⟩)
 ·have g:Hid (n≠0):=d.resolve_left (fun e=>by cases e);clear d;go_enter func66,ntmps66;go_wp2_with fail;refine (gW1 _ n (-1) w i.out H.out).mono ?_;rintro e w1 ⟨rfl,a⟩;have f:=hid7 a;clear a;go_wp2_with fail;exact ⟨rfl,aG ⟨g.out,rfl⟩,f.out⟩
 ·have g:Hid (n≠0):=d.resolve_left (fun e=>by cases e);clear d h1 l;go_enter func66,ntmps66;go_wp2_with fail;refine (gW1 _ n k w i.out H.out).mono ?_;rintro e w1 ⟨rfl,a⟩;have f:=hid7 a;clear a;go_wp2_with fail;exact ⟨rfl,aG ⟨g.out,rfl⟩,f.out⟩
def pY0 (w:World) (a:Option Addr) (l:List Fil):Prop:=∀k,k<l.length->∃b off,a=some ⟨b,off,none⟩/\w.cell? ⟨b,off+k*4,none⟩=some (U G (fAt l k).buyer)/\w.cell? ⟨b,off+k*4+1,none⟩=some (U G (fAt l k).seller)/\w.cell? ⟨b,off+k*4+2,none⟩=some (U G (fAt l k).price)/\w.cell? ⟨b,off+k*4+3,none⟩=some (U G (fAt l k).qty)
theorem pY0.of_row {w:World} {base:Nat} {v:Value} {l:List Fil} (h:w.ownsRow base 146 4 v l.length (fV l)):∃a b,v=J a l.length b/\pY0 w a l:=by
 obtain ⟨a,b,rfl,_,_⟩:=bC0 h;refine ⟨a,b,rfl,fun k hk=>?_⟩;obtain ⟨g,c,e,_,_⟩:=h.form o7;simp only [aY,true_and] at e;obtain ⟨rfl,rfl⟩:=e;obtain ⟨h1,d,f,i⟩:=hQ2 hk;exact ⟨g,0,rfl,by simpa using (h.cellAt _ o7).trans h1,by simpa using (h.cellAt _ o7).trans d,by simpa using (h.cellAt _ o7).trans f,by simpa using (h.cellAt _ o7).trans i⟩
theorem aQ0 {w':World} {p:Addr} {v:Value} (a:Below w.heap.size w w') (h:w.cell? p=some v):w'.cell? p=some v:=(a.cell (World.block_lt_of_cell? w _ h)).trans h
theorem qS1 {l:List Fil} {k:Nat} (h:k<l.length):fAt l k∈l:=by
 have:fAt l k=l[k]:=by simp [fAt,h]
 rw [this];exact List.getElem_mem h
def strV (xs:List (List UInt8)):List Value:=xs.map (fun x=>Value.string (baOf x))
theorem rI0 {base g:Nat} {xs:List (List UInt8)} (h:w.ownsRow base 9 1 (J (some ⟨g,0,none⟩) xs.length a) xs.length (strV xs)):qI0 w g 0 xs:=fun j x b=>by
 have c:j<xs.length:=(List.getElem?_eq_some_iff.1 b).1;have:=h.cellAt j o7;rw [bT,this];simp [strV,b]
theorem rJ0 {f:Fil} (h:filI f):(filT f).length<=88:=by
 have:=dK0 (m:=21) ([f.buyer,f.seller,f.price,f.qty].map Lib.itoa) [32] (fun x b=>by
  obtain ⟨z,a,rfl⟩:=bH.1 b;simp only [aR,cL,or_false] at a;rcases a with rfl | rfl | rfl | rfl
  ·exact Lib.itoa_length_le _ h.1.1 h.1.2
  ·exact Lib.itoa_length_le _ h.2.1.1 h.2.1.2
  ·exact Lib.itoa_length_le _ h.2.2.1.1 h.2.2.1.2
  ·exact Lib.itoa_length_le _ h.2.2.2.1 h.2.2.2.2)
 simpa [filT,rowT] using this
theorem jE0 (w:World) (l:List Int) (t:TypeId):∀j z,l[j]? = some z->(w.alloc (R (l.map (fun z=>Value.int .i64 z)).toArray t)).cell? ⟨w.heap.size,0+j,none⟩=some (U G z):=fun j z a=>by
 have h:=heap_alloc_new w (R (l.map (fun z=>Value.int .i64 z)).toArray t);rw [bT];exact aA0 h (by simp [a])
theorem yX1 (t:List UInt8) (a:Option Addr) (M:Nat) (fs:List Fil) (w:World) (K:pY0 w a fs) (hi:∀f∈fs,filI f) (hn:fs.length<=1000) (T:t.length<=1000) (ht:gV0 w):
  Calls prog 70 #[.string (baOf t),J a fs.length M] w fun e w'=>e=Y (.string (baOf (iP0 t fs)))/\Below w.heap.size w w':=by
 obtain ⟨i0,N,X,Z,a0⟩:=info_parts infoStr;have HF:=hid7 K;have HI:=hid7 hi;have HT:=hid7 ht;clear K hi ht;go_enter func70,ntmps70;go_upto_region 2 with fail;have S:(w.alloc (R #[.string (baOf t)] 9)).ownsRow w.heap.size 9 1 (J (some ⟨w.heap.size,0,none⟩) 1 1) 1 (strV [t]):=World.ownsRow_lit w #[.string (baOf t)] 1 lR7 (by unfold maxLen;omega) rfl;have C:=bel1 w (R #[.string (baOf t)] 9);generalize w.alloc (R #[.string (baOf t)] 9)=w1 at S C ⊢;have HO:Hid _:=S;have HB:=hid7 C;clear S C;go_wp2_with fail
 go_loopw [5,7,12] (fun u5 _ u wr=>∃k:Nat,k<=fs.length/\u=U G k/\wr.ownsRow w.heap.size 9 1 u5 (k+1) (strV (t::(fs.take k).map filT))/\Below w.heap.size w wr)
  (fun _ _ u _=>fs.length - (intOf u).toNat)
 case atStart=>exact ⟨0,aO _,rfl,HO.out,HB.out⟩
 case round=>
  obtain ⟨k,hk,rfl,p,C⟩:=hrel;have c:=hid7 C;obtain ⟨g,vc,rfl⟩:=ownsRow_succ p;have D:Hid _:=p;clear p C
  by_cases l:k<fs.length
  ·obtain ⟨b,a3,rfl,c0,c1,c2,c3⟩:=HF.out k l;have d0:=aQ0 c.out c0;have d1:=aQ0 c.out c1;have d2:=aQ0 c.out c2;have d3:=aQ0 c.out c3;have n:Hid (filI (fAt fs k)):=HI.out _ (qS1 l)
   have H:Hid ((fs.take (k+1)).map filT=(fs.take k).map filT++[filT (fAt fs k)]):=by
    show _=_;have e:fAt fs k=fs[k]:=by simp [fAt,l]
    rw [aM l,List.map_append,e];rfl
   clear c0 c1 c2 c3;generalize fAt fs k=f at d0 d1 d2 d3 n H;go_upto_region 5 with fail;have A:=heap_alloc_new wr (R #[U G f.buyer,U G f.seller,U G f.price,U G f.qty] 146);have r:=bel1 wr (R #[U G f.buyer,U G f.seller,U G f.price,U G f.qty] 146);have o:Hid ((wr.alloc (R #[U G f.buyer,U G f.seller,U G f.price,U G f.qty] 146)).ownsRow w.heap.size 9 1 (J (some ⟨g,0,none⟩) (k+1) vc) (k+1) (strV (t::(fs.take k).map filT))):=aU0 D.out r lR7;have y:=hid7 (aD0 c.out r);generalize wr.alloc (R #[U G f.buyer,U G f.seller,U G f.price,U G f.qty] 146)=W at A r o y ⊢;generalize wr.heap.size=xb at A ⊢;have y0:=aA0 (j:=0) A rfl;have y1:=aA0 (j:=1) A rfl;have y2:=aA0 (j:=2) A rfl;have y3:=aA0 (j:=3) A rfl;clear A r d0 d1 d2 d3;go_wp2_with fail;have s:=bel1 W (R #[U G f.buyer,U G f.seller,U G f.price,U G f.qty] 3)
   refine (kK1 W.heap.size 0 4 [f.buyer,f.seller,f.price,f.qty] _ (jE0 W [f.buyer,f.seller,f.price,f.qty] 3) (fun z hz=>by
    simp only [aR,cL,or_false] at hz;rcases hz with rfl | rfl | rfl | rfl
    ·exact n.out.1
    ·exact n.out.2.1
    ·exact n.out.2.2.1
    ·exact n.out.2.2.2) s7 s7 ((HT.out.below y.out).below s)).mono ?_
   rintro e L ⟨rfl,i⟩;have d:=hid7 (aD0 y.out (aD0 s i));have E:Hid (L.ownsRow w.heap.size 9 1 (J (some ⟨g,0,none⟩) (k+1) vc) (k+1) (strV (t::(fs.take k).map filT))):=aU0 o.out (aD0 s i) lR7;clear s i y0 y1 y2 y3;go_wp2_with (at_builtin;refine wpList_append_own_at _ rfl _ _ 49 rfl w.heap.size 9 i0 (.string ⟨#[]⟩) 1 16 underlying49 N X Z a0 rfl d7 _ (k+1) (strV (t::(fs.take k).map filT)) rfl (E.out.alloc _) ⟨L.heap.size,0,none⟩ 1 1 [.string (baOf (rowT [f.buyer,f.seller,f.price,f.qty]))] rfl rfl (World.news_of_block (cs:=#[.string (baOf (rowT [f.buyer,f.seller,f.price,f.qty]))]) (t:=9) (fr:=(0,0)) (heap_alloc_new L _)) (by simp [Value.oneCell']) (by unfold maxLen;omega) o7 (by have:=d.out.size;simp;omega) ?_;intro v' w6 B v _ _);go_roundw
   case rel=>
    refine ⟨k+1,l,by go_num,?_,(d.out.alloc d.out.size _).grown v (by have:=d.out.size;simp;omega) (fun q hq=>(E.out.lt q hq).1)⟩;rw [H.out];have:strV (t::((fs.take k).map filT++[filT f]))=strV (t::(fs.take k).map filT)++[.string (baOf (rowT [f.buyer,f.seller,f.price,f.qty]))]:=by simp [strV,filT]
    rw [this];exact B
   case measure=>first | (simp [intOf];omega) | (show fs.length - (k+1)<fs.length - k;omega) | omega
  ·obtain rfl:k=fs.length:=o7
   have o:Hid (wr.ownsRow w.heap.size 9 1 (J (some ⟨g,0,none⟩) (t::fs.map filT).length vc) (t::fs.map filT).length (strV (t::fs.map filT))):=by
    have:=D.out;rw [bI] at this;rw [aZ,bU];exact this
   have F:=rI0 o.out
   have I:(t::fs.map filT).length<=vc:=by
    rcases o.out.2 with ⟨e,_⟩ | ⟨g',a1,a2,e,_,_,Q,_⟩
    ·cases e
    ·simp only [aY] at e;rw [e.2.2];exact Q
   have P:(Lib.join (t::fs.map filT) [44,32]).length<=100000000:=by
    have:=dK0 (m:=1000) (t::fs.map filT) [44,32] (fun x V=>by
     rcases aR.1 V with rfl | V
     ·exact T
     ·obtain ⟨f,K,rfl⟩:=bH.1 V;have:=rJ0 (HI.out f K);omega)
    simp at this;omega
   have O:=bC1 g 0 vc (t::fs.map filT) [44,32] wr F s7 (by simp;omega) I P;rw [aZ,bU] at O;clear l F;go_wp2_with fail;refine O.mono ?_;rintro e L ⟨rfl,i⟩;have d:=hid7 (aD0 c.out i);clear i O;go_wp2_with fail;go_ret;exact ⟨rfl,d.out⟩
theorem yJ0 (h:kU0 o):(ordT o).length<=88:=by
 have:=dK0 (m:=21) ([o.id,o.kind,o.price,o.qty].map Lib.itoa) [32] (fun x b=>by
  obtain ⟨z,a,rfl⟩:=bH.1 b;simp only [aR,cL,or_false] at a;rcases a with rfl | rfl | rfl | rfl
  ·exact Lib.itoa_length_le _ h.1.1 h.1.2
  ·exact Lib.itoa_length_le _ h.2.1.1 h.2.1.2
  ·exact Lib.itoa_length_le _ h.2.2.1.1 h.2.2.1.2
  ·exact Lib.itoa_length_le _ h.2.2.2.1 h.2.2.2.2)
 simpa [ordT,rowT] using this
theorem hR1 (a:Option Addr) (X:Nat) (l:List Ord) (w:World) (hl:dS0 w a l) (hi:∀o∈l,kU0 o) (hn:l.length<=1000) (ht:gV0 w):
  Calls prog 79 #[J a l.length X] w fun e w'=>e=Y (.string (baOf (pN0 l)))/\Below w.heap.size w w':=by
 obtain ⟨i0,K,M,N,O⟩:=info_parts infoStr;have HL:=hid7 hl;have HI:=hid7 hi;have HT:=hid7 ht;clear hl hi ht;go_enter func79,ntmps79;go_wp2_with (at_make;refine wpList_make_full _ rfl _ _ 49 rfl w.heap.size 9 i0 (.string ⟨#[]⟩) 1 underlying49 K M N _ _ _ _ l.length rfl rfl (by go_num) (by go_num) (by rw [O];omega) (by unfold maxLen;omega) lR7 ?_;intro wt g I);have H:Below w.heap.size w wt:=(aF _ _).grown I lR7 (fun _ hq=>by cases hq);rw [show (Value.string ⟨#[]⟩:Value).cells=#[.string ⟨#[]⟩] from rfl,Nat.mul_one,toList_madeCells_one,<-hE1 ordT l] at g;have HO:Hid _:=g;have HB:=hid7 H;clear g H I K M N O;go_wp2_with fail
 go_loopw [4,5,11] (fun _ _ u wr=>∃k:Nat,k<=l.length/\u=U G k/\wr.ownsRow w.heap.size 9 1 (J (some ⟨w.heap.size,0,none⟩) l.length l.length) l.length (wrdV ordT l k)/\Below w.heap.size w wr)
  (fun _ _ u _=>l.length - (intOf u).toNat)
 case atStart=>exact ⟨0,aO _,rfl,HO.out,HB.out⟩
 case round=>
  obtain ⟨k,hk,rfl,t,hb⟩:=hrel;have d:=hid7 hb;have D:Hid _:=t;clear t hb
  by_cases i:k<l.length
  ·obtain ⟨b,a0,rfl,c0,c1,V,c3,c4⟩:=HL.out k i;have d0:=aQ0 d.out c0;have d1:=aQ0 d.out c1;have d2:=aQ0 d.out V;have d3:=aQ0 d.out c3;have d4:=aQ0 d.out c4
   have T:Hid (l[k]? = some (oAt l k)):=by
    show _=_;simp [oAt,i]
   have q:Hid (kU0 (oAt l k)):=HI.out _ (List.mem_of_getElem? T.out);clear c0 c1 V c3 c4;generalize oAt l k=o at d0 d1 d2 d3 d4 q T;go_upto_region 5 with fail;have B:=heap_alloc_new wr (R #[U G o.id,U G o.side,U G o.kind,U G o.price,U G o.qty] 92);have r:=bel1 wr (R #[U G o.id,U G o.side,U G o.kind,U G o.price,U G o.qty] 92);have E:Hid ((wr.alloc (R #[U G o.id,U G o.side,U G o.kind,U G o.price,U G o.qty] 92)).ownsRow w.heap.size 9 1 (J (some ⟨w.heap.size,0,none⟩) l.length l.length) l.length (wrdV ordT l k)):=aU0 D.out r lR7;have y:=hid7 (aD0 d.out r);generalize wr.alloc (R #[U G o.id,U G o.side,U G o.kind,U G o.price,U G o.qty] 92)=W at B r E y ⊢;generalize wr.heap.size=xb at B ⊢;have y0:=aA0 (j:=0) B rfl;have y2:=aA0 (j:=2) B rfl;have y3:=aA0 (j:=3) B rfl;have y4:=aA0 (j:=4) B rfl;clear B r d0 d1 d2 d3 d4;go_wp2_with fail;have s:=bel1 W (R #[U G o.id,U G o.kind,U G o.price,U G o.qty] 3)
   refine (kK1 W.heap.size 0 4 [o.id,o.kind,o.price,o.qty] _ (jE0 W [o.id,o.kind,o.price,o.qty] 3) (fun z hz=>by
    simp only [aR,cL,or_false] at hz;rcases hz with rfl | rfl | rfl | rfl
    ·exact q.out.1
    ·exact q.out.2.1
    ·exact q.out.2.2.1
    ·exact q.out.2.2.2) s7 s7 ((HT.out.below y.out).below s)).mono ?_
   rintro e P ⟨rfl,c⟩;have n:=hid7 (aD0 y.out (aD0 s c));have A:Hid (P.ownsRow w.heap.size 9 1 (J (some ⟨w.heap.size,0,none⟩) l.length l.length) l.length (wrdV ordT l k)):=aU0 E.out (aD0 s c) lR7;obtain ⟨v,hv,_⟩:=yU1 (f:=ordT) hk i;have V:P.cell? ⟨w.heap.size,k,none⟩=some v:=by rw [A.out.cellAt k o7];exact hv
   have f2:=A.out.frozenAt k;have HS:Hid _:=(A.out.stored k (.string (baOf (rowT [o.id,o.kind,o.price,o.qty])))).1;have Q:Hid (Below w.heap.size w (P.setCell ⟨w.heap.size,k,none⟩ (.string (baOf (rowT [o.id,o.kind,o.price,o.qty]))))):=n.out.setCell (p:=⟨w.heap.size,k,none⟩) lR7 _;have S:=hid7 (pV1 (f:=ordT) T.out);clear s c y0 y2 y3 y4 hv;go_wp2_with fail;go_roundw
   case rel=>exact ⟨k+1,i,by go_num,by rw [<-S.out];exact HS.out,Q.out⟩
   case measure=>first | (simp [intOf];omega) | (show l.length - (k+1)<l.length - k;omega) | omega
  ·obtain rfl:k=l.length:=o7
   by_cases h0:l.length=0
   ·have L:=List.length_eq_zero_iff.1 h0;have C:=tQ0 (some ⟨w.heap.size,0,none⟩) l.length (baOf [44,32]) wr;rw [h0] at C;have S:Hid (pN0 l=[]):=by show _=_;rw [L];rfl
    have e0:(l.length:Int)=0:=o7;clear i L;go_wp2_with fail;rw [h0];refine C.mono ?_;rintro e P ⟨rfl,c⟩;have n:=hid7 (aD0 d.out c);clear c C;go_wp2_with fail;go_ret;exact ⟨by rw [S.out];rfl,n.out⟩
   ·have F:=hG1 D.out
    have Z:(Lib.join (l.map ordT) [44,32]).length<=100000000:=by
     have:=dK0 (m:=88) (l.map ordT) [44,32] (fun x hx=>by
      obtain ⟨o,ho,rfl⟩:=bH.1 hx;exact yJ0 (HI.out o ho))
     simp at this;omega
    have C:=bC1 w.heap.size 0 l.length (l.map ordT) [44,32] wr F (by simp;omega) (by simp;omega) s7 Z;rw [bU] at C;clear i F;go_wp2_with fail;refine C.mono ?_;rintro e P ⟨rfl,c⟩;have n:=hid7 (aD0 d.out c);clear c C;go_wp2_with fail;go_ret;exact ⟨rfl,n.out⟩
structure ArgIs (w:World) (sb:Nat) (la:Option Addr) (l:List Int):Prop where
 cells:∀k,k<l.length->∃g,la=some ⟨g,0,none⟩/\¬g=sb/\w.cell? ⟨g,k,none⟩=some (U G (nI l k))
 nums:∀k,in64 (nI l k)
section
variable {w w':World} {lo sb n:Nat} {x:DsK} {H:DsS} {la:Option Addr} {l:List Int}
theorem DsIs.stay (h:DsIs w lo sb x H n) (a:Below w.heap.size w w') {r:Int×List UInt8} {e:Ending} (b:fI0 r e):eQ0 w w' lo sb n (r,H) e:=
 ⟨b,DsW.of_below a,x,(h.below a).more (cH n)⟩
theorem fI0.yes {t:List UInt8} {v:Value} (h:v=.string (baOf t)):fI0 (0,t) (Y v):=aH ⟨rfl,by rw [h]⟩
theorem fI0.no {m:Int} {t:List UInt8} (h:m≠0):fI0 (orE m t) (.panicked [{ v:=.iface 26 (U G m),recovered:=false }]):=by
 unfold orE;rw [aA h];exact aG ⟨h,rfl⟩
theorem fI0.ok {m:Int} {t:List UInt8} {v:Value} (h:m=0) (a:v=.string (baOf t)):fI0 (orE m t) (Y v):=by
 unfold orE;rw [aB h,a];exact aH ⟨rfl,rfl⟩
theorem DsIs.told (h:DsIs w lo sb x H n) {H':DsS} (b:Out (fun j=>j=sb) w w') (a:w'.heap[sb]? = some (R (dsV x H') 32 (0,0))) (q:H'.rs=H.rs) (c:H'.mkt=none):
  DsIs w' lo sb x H' (n+1)/\Out (DsW w lo sb) w w':=by
 refine ⟨⟨a,⟨h.slt.1,aI h.slt.2 b.size⟩,fun h0=>?_,fun M e=>by rw [c] at e;cases e⟩,b.mono fun j p=>aH p⟩;rw [q] at h0 ⊢;obtain ⟨g,i,k,l,m,r,cs,f,o⟩:=h.rows h0;have d:¬g=sb:=fun e=>by have:=h.slt.1;omega
 exact ⟨g,i,cX0 k b d,l,m,fun ⟨M,e⟩=>(by rw [c] at e;cases e),cs,f,aF0 o b d⟩
end
theorem fW2 (la:Option Addr) (b:Nat) (l:List Int) (lo sb n:Nat) (x:DsK) (H:DsS) (w:World) (h:DsIs w lo sb x H n):
  Calls prog 36 #[E (some ⟨sb,0,none⟩),J la l.length b] w fun e w'=>eQ0 w w' lo sb n (aZ0 17 l H) e:=by
 have a:=hid7 h;clear h;go_enter func36,ntmps36;go_wp2_with fail;go_ret;exact a.out.stay (aF _ _) (fI0.yes rfl)
theorem cB2 (la:Option Addr) (d:Nat) (l:List Int) (lo sb n:Nat) (x:DsK) (H:DsS) (w:World) (h:DsIs w lo sb x H n):
  Calls prog 35 #[E (some ⟨sb,0,none⟩),J la l.length d] w fun e w'=>eQ0 w w' lo sb n (aZ0 16 l H) e:=by
 have a:=hid7 h;have g:=aA0 (j:=0) h.box rfl;have i:=aA0 (j:=1) h.box rfl;have k:=aA0 (j:=2) h.box rfl;have m:=aA0 (j:=3) h.box rfl;have o:=aA0 (j:=4) h.box rfl;have p:=aA0 (j:=5) h.box rfl;have q:=aA0 (j:=6) h.box rfl;have r:=aB0 (j:=0) h.box;have s:=aB0 (j:=1) h.box;have t:=aB0 (j:=2) h.box;have u:=aB0 (j:=3) h.box;have v:=aB0 (j:=4) h.box;have y:=aB0 (j:=5) h.box;have z:=aB0 (j:=6) h.box;have c:Hid _:=aJ0 (j:=6) (E none) (aJ0 (j:=5) (U G 0) (aJ0 (j:=4) (U G 0) (aJ0 (j:=3) (U G 0) (aJ0 (j:=2) (U G 0) (aJ0 (j:=1) (U G 0) (aJ0 (j:=0) (J none 0 0) h.box))))));have b:Hid _:=(((((((bL (fun j=>j=sb) w).trans (aM0 w ⟨sb,0,none⟩ (J none 0 0)) (aJ _ _)).trans (aM0 _ ⟨sb,1,none⟩ (U G 0)) (aJ _ _)).trans (aM0 _ ⟨sb,2,none⟩ (U G 0)) (aJ _ _)).trans (aM0 _ ⟨sb,3,none⟩ (U G 0)) (aJ _ _)).trans (aM0 _ ⟨sb,4,none⟩ (U G 0)) (aJ _ _)).trans (aM0 _ ⟨sb,5,none⟩ (U G 0)) (aJ _ _)).trans (aM0 _ ⟨sb,6,none⟩ (E none)) (aJ _ _);clear h;go_enter func35,ntmps35;go_wp2_with fail;go_ret;refine ⟨fI0.yes rfl,b.out.mono fun j f=>aH f,{ x with ta:=none,tc:=0 },⟨c.out,⟨a.out.slt.1,aI a.out.slt.2 b.out.size⟩,fun h0=>?_,fun M e=>?_⟩⟩
 ·exact absurd h0 (Nat.lt_irrefl 0)
 ·cases e
theorem cC2 (la:Option Addr) (k:Nat) (l:List Int) (lo sb n:Nat) (x:DsK) (H:DsS) (w:World) (h:DsIs w lo sb x H n) (a:ArgIs w sb la l) (p:l.length=3) (b:H.mkt=none):
  Calls prog 20 #[E (some ⟨sb,0,none⟩),J la l.length k] w fun e w'=>eQ0 w w' lo sb n (aZ0 1 l H) e:=by
 have c:=hid7 h;have d:=hid7 b;obtain ⟨g,rfl,I,v⟩:=a.cells 0 o7;obtain ⟨D,m,_,y⟩:=a.cells 1 o7;obtain ⟨F,o,_,z⟩:=a.cells 2 o7;cases m;cases o;have s:=aA0 (j:=1) h.box rfl;have t:=aA0 (j:=2) h.box rfl;have u:=aA0 (j:=3) h.box rfl;have A:=aB0 (j:=1) h.box;have B:=aB0 (j:=2) h.box;have C:=aB0 (j:=3) h.box;have i:Hid _:=aJ0 (j:=3) (U G (nI l 2)) (aJ0 (j:=2) (U G (nI l 1)) (aJ0 (j:=1) (U G (nI l 0)) h.box));have f:Hid _:=(((bL (fun j=>j=sb) w).trans (aM0 w ⟨sb,1,none⟩ (U G (nI l 0))) (aJ _ _)).trans (aM0 _ ⟨sb,2,none⟩ (U G (nI l 1))) (aJ _ _)).trans (aM0 _ ⟨sb,3,none⟩ (U G (nI l 2))) (aJ _ _);clear h a b;rw [p];go_enter func20,ntmps20;go_upto_region 1 with fail;go_region;go_wp2_with fail;go_ret;obtain ⟨q,r⟩:=c.out.told (H':={ H with st:=nI l 0,dy:=nI l 1,pr:=nI l 2 }) (aW0 f.out) i.out rfl d.out;exact ⟨fI0.yes rfl,r,x,q⟩
theorem qT1 (la:Option Addr) (k:Nat) (l:List Int) (lo sb n:Nat) (x:DsK) (H:DsS) (w:World) (h:DsIs w lo sb x H n) (a:ArgIs w sb la l) (o:l.length=2) (b:H.mkt=none):
  Calls prog 21 #[E (some ⟨sb,0,none⟩),J la l.length k] w fun e w'=>eQ0 w w' lo sb n (aZ0 2 l H) e:=by
 have c:=hid7 h;have d:=hid7 b;obtain ⟨g,rfl,A,t⟩:=a.cells 0 o7;obtain ⟨z,m,_,u⟩:=a.cells 1 o7;cases m;have r:=aA0 (j:=4) h.box rfl;have s:=aA0 (j:=5) h.box rfl;have v:=aB0 (j:=4) h.box;have y:=aB0 (j:=5) h.box;have i:Hid _:=aJ0 (j:=5) (U G (nI l 1)) (aJ0 (j:=4) (U G (nI l 0)) h.box);have f:Hid _:=((bL (fun j=>j=sb) w).trans (aM0 w ⟨sb,4,none⟩ (U G (nI l 0))) (aJ _ _)).trans (aM0 _ ⟨sb,5,none⟩ (U G (nI l 1))) (aJ _ _);clear h a b;rw [o];go_enter func21,ntmps21;go_upto_region 1 with fail;go_region;go_wp2_with fail;go_ret;obtain ⟨p,q⟩:=c.out.told (H':={ H with ti:=nI l 0,mo:=nI l 1 }) (aW0 f.out) i.out rfl d.out;exact ⟨fI0.yes rfl,q,x,p⟩
theorem ErrE.isD {w:World} {a:Value} {n:Int} (h:ErrE a n):jZ1 w a n (-1)/\(a=.nilIface\/n≠0):=by
 rcases h with ⟨h1,b⟩ | ⟨h1,b⟩
 ·exact ⟨aH ⟨h1,b,rfl⟩,aH h1⟩
 ·exact ⟨aG (aH ⟨h1,rfl⟩),aG b⟩
theorem hH0 (a:Value) (n:Int) (w:World) (b:ErrT w) (h:ErrE a n):
  Calls prog 66 #[a] w fun e w'=>yW1 n e/\Below w.heap.size w w':=qR1 a n (-1) w b (ErrE.isD h).1 (ErrE.isD (w:=w) h).2
theorem yK0 (p s:Int):in64 (bandL p s)/\in64 (bandH p s):=by
 unfold in64 bandL bandH cO0 inB;split
 ·rename_i h;simp only [Bool.and_eq_true,decide_eq_true_eq] at h;have h1:0<=p*s / 10000:=Int.ediv_nonneg (Int.mul_nonneg o7 o7) d7;omega
 ·omega
theorem fX2 (la:Option Addr) (N:Nat) (l:List Int) (lo sb n:Nat) (x:DsK) (H:DsS) (w:World) (h:DsIs w lo sb x H n) (A:ArgIs w sb la l) (S:l.length=2) (I:DsVars w) (P:12<=lo):
  Calls prog 34 #[E (some ⟨sb,0,none⟩),J la l.length N] w fun e w'=>eQ0 w w' lo sb n (aZ0 15 l H) e:=by
 have p:=hid7 h;have M:=hid7 I;obtain ⟨g,rfl,Q,C⟩:=A.cells 0 o7;obtain ⟨T,O,_,D⟩:=A.cells 1 o7;cases O;have s:Hid (∀V,Below w.heap.size w V->(fun w':World=>w'.cell? ⟨g,0,none⟩=some (U G (nI l 0))/\w'.cell? ⟨g,1,none⟩=some (U G (nI l 1))) V):=fun V hV=>⟨aQ0 hV C,aQ0 hV D⟩
 clear h A I C D Q;rw [S];go_enter func34,ntmps34;go_upto_region 1 with fail;refine bB0 (fun _=>fun w':World=>w'.cell? ⟨g,0,none⟩=some (U G (nI l 0))/\w'.cell? ⟨g,1,none⟩=some (U G (nI l 1))) (fun _ i=>i == 6) k7 (fun _=>s.out _ (aF _ _).drew) (fun hHeld=>?_);have y:Below w.heap.size w w.drew:=(aF _ _).drew;generalize w.drew=wz at y hHeld ⊢;refine tkM9 0 0 (hHeld 0) ?_;refine tkM9 0 1 (hHeld 0) ?_;refine tkM9 0 2 (hHeld 0) ?_;refine tkM9 0 3 (hHeld 0) ?_;refine tkM9 0 4 (hHeld 0) ?_;refine tkM9 0 5 (hHeld 0) ?_;refine aT0 (i:=6) k7 rfl (fun K F=>?_);go_simp;refine (nB0 (nI l 0) (nI l 1) wz).mono ?_;rintro e w1 ⟨rfl,k⟩;have b:=hid7 (aD0 y k);refine F.out _ _ (fun _ h=>by cases h) ?_;clear F K hHeld y k;refine puM9 7 ?_;refine puM9 8 ?_;refine puM9 9 ?_;refine puM9 10 ?_;refine puM9 11 ?_;refine puM9 12 ?_;refine puM9 13 ?_;refine bI0 k7 ?_ _;have d:Hid (DsVars w1):=M.out.below b.out (aI P p.out.slt.2);cases hok:cO0 (nI l 0) (nI l 1) with
 | true=>
  have j:iZ0 (nI l 0) (nI l 1)=.nilIface:=by unfold iZ0;rw [aB hok]
  have r:Hid (mZ0 (nI l 0) (nI l 1)=0):=by show _=_;unfold mZ0;rw [aB hok]
  rw [j];obtain ⟨u,v⟩:=yK0 (nI l 0) (nI l 1);clear j hok;go_wp2_with fail;refine (hH0 .nilIface 0 w1 d.out.et (aH ⟨rfl,rfl⟩)).mono ?_;rintro e o ⟨B,a⟩;have c:=hid7 (aD0 b.out a);have t:=hid7 (d.out.tab.below a);rcases B with ⟨_,rfl⟩ | ⟨h0,_⟩
  ·clear a;go_wp2_with fail;have f:=bel1 o (R #[U G (bandL (nI l 0) (nI l 1)),U G (bandH (nI l 0) (nI l 1))] 3)
   refine (kK1 o.heap.size 0 2 [bandL (nI l 0) (nI l 1),bandH (nI l 0) (nI l 1)] _ (jE0 o [bandL (nI l 0) (nI l 1),bandH (nI l 0) (nI l 1)] 3) (fun z L=>by
    simp only [aR,cL,or_false] at L;rcases L with rfl | rfl
    ·exact u
    ·exact v) s7 s7 (t.out.below f)).mono ?_
   rintro e W ⟨rfl,m⟩;have q:=hid7 (aD0 c.out (aD0 f m));clear f m;go_wp2_with fail;go_ret;refine p.out.stay q.out ?_;exact fI0.ok r.out rfl
  ·exact absurd rfl h0
 | false=>
  have j:iZ0 (nI l 0) (nI l 1)=.iface 26 (U G 2):=by unfold iZ0;rw [aA (by rw [hok];decide)]
  have r:Hid (mZ0 (nI l 0) (nI l 1)=2):=by show _=_;unfold mZ0;rw [aA (by rw [hok];decide)]
  rw [j];clear j hok;go_wp2_with fail;refine (hH0 (.iface 26 (U G 2)) 2 w1 d.out.et (aG ⟨rfl,d7⟩)).mono ?_;rintro e o ⟨B,a⟩;have c:=hid7 (aD0 b.out a);rcases B with ⟨h0,_⟩ | ⟨_,rfl⟩
  ·exact absurd h0 d7
  ·clear a;go_wp2_with fail;refine ⟨rfl,p.out.stay c.out ?_⟩;rw [r.out];exact fI0.no d7
theorem eW1 (f:LOk M.L) (j:M.L.length<=100) (c:1<=M.la/\M.la<=1000000):in64 (cW0 M).price/\in64 (cW0 M).qty/\in64 (cW0 M).sur:=by
 have z:in64 0:=bQ0 d7;unfold cW0;split
 ·unfold aI0
  by_cases d:0<(aO0 (aS0 M.L M.la) M.la).qty
  ·have h1:=iC0 f c d;obtain ⟨a,b⟩:=vA0 M.la d;have g:=wM0 (aO0 (aS0 M.L M.la) M.la).price M.L;have i:=wN0 (aO0 (aS0 M.L M.la) M.la).price M.L;refine ⟨bQ0 o7,bQ0 ?_,bQ0 ?_⟩
   ·rw [a];omega
   ·rw [b];omega
  ·have h1:=oY0 (aS0 M.L M.la) M.la
   have a:cP0 (aS0 M.L M.la)<1:=by
    by_cases e:cP0 (aS0 M.L M.la)<1
    ·exact e
    ·rw [aA e] at h1;omega
   have b:aO0 (aS0 M.L M.la) M.la=⟨0,0,0⟩:=aB a;rw [b];exact ⟨z,z,z⟩
 ·exact ⟨z,z,z⟩
section
variable {w w':World} {lo sb n:Nat} {x:DsK} {H:DsS} {M:Mkt} {la:Option Addr} {l:List Int}
theorem DsIs.mkt (h:DsIs w lo sb x H n) (a:H.mkt=some M):w.cell? ⟨sb,6,none⟩=some (E (some ⟨x.eb,0,none⟩)):=by
 have:=h.ptr;rw [a] at this;exact this
theorem DsIs.asks (h:DsIs w lo sb x H n) (a:H.mkt=some M) (b:Below w.heap.size w w') {r:Int×List UInt8} {e:Ending} (c:fI0 r e):eQ0 w w' lo sb n (r,{ H with mkt:=some M }) e:=by
 have:({ H with mkt:=some M }:DsS)=H:=by cases H;cases a;rfl
 rw [this];exact h.stay b c
theorem bS0 {d:Nat} (c:4<=d/\d<=14) (l:List Int) (a:H.mkt=some M):aZ0 d l H=((cK0 d l M).1,{ H with mkt:=some (cK0 d l M).2 }):=by
 obtain ⟨h1,b⟩:=c
 match d,h1,b with
 | 4,_,_=>simp only [aZ0,a]
 | 5,_,_=>simp only [aZ0,a]
 | 6,_,_=>simp only [aZ0,a]
 | 7,_,_=>simp only [aZ0,a]
 | 8,_,_=>simp only [aZ0,a]
 | 9,_,_=>simp only [aZ0,a]
 | 10,_,_=>simp only [aZ0,a]
 | 11,_,_=>simp only [aZ0,a]
 | 12,_,_=>simp only [aZ0,a]
 | 13,_,_=>simp only [aZ0,a]
 | 14,_,_=>simp only [aZ0,a]
end
theorem cD2 (la:Option Addr) (s:Nat) (l:List Int) (lo sb n:Nat) (x:DsK) (H:DsS) (M:Mkt) (w:World) (h:DsIs w lo sb x H n) (m:H.mkt=some M):
  Calls prog 29 #[E (some ⟨sb,0,none⟩),J la l.length s] w fun e w'=>eQ0 w w' lo sb n (aZ0 10 l H) e:=by
 have p:Hid (aZ0 10 l H=((cK0 10 l M).1,{ H with mkt:=some (cK0 10 l M).2 })):=bS0 d7 l m;have o:=hid7 h;have r:=hid7 m;have D:=h.mkt m;have q:=hid7 ((h.eg M m).1);clear h m
 have j:∀t,phT M.ph=t->eQ0 w w lo sb n (aZ0 10 l H) (Y (.string (baOf t))):=fun t C=>by
  rw [p.out];refine o.out.asks r.out (aF _ _) ?_;show fI0 (0,phT M.ph) _;rw [C];exact fI0.yes rfl
 have a:Hid _:=j;clear j;go_enter func29,ntmps29;go_wp2_with fail;refine (aW2 x.eb x.k M w q.out).mono ?_;rintro e w1 ⟨rfl,rfl⟩
 by_cases h1:M.ph=1
 ·have u:=beq_iff_eq.2 h1;have c:Hid (phT M.ph=[112,114,101,111,112,101,110]):=by show _=_;unfold phT;rw [aB h1]
  clear h1;go_wp2_with fail;go_ret;exact a.out _ c.out
 have u:=aC.2 h1
 by_cases b:M.ph=2
 ·have v:=beq_iff_eq.2 b;have c:Hid (phT M.ph=[111,112,101,110,105,110,103]):=by show _=_;unfold phT;rw [aA h1,aB b]
  clear h1 b;go_wp2_with fail;go_ret;exact a.out _ c.out
 have v:=aC.2 b
 by_cases d:M.ph=3
 ·have y:=beq_iff_eq.2 d;have c:Hid (phT M.ph=[116,114,97,100,105,110,103]):=by show _=_;unfold phT;rw [aA h1,aA b,aB d]
  clear h1 b d;go_wp2_with fail;go_ret;exact a.out _ c.out
 have y:=aC.2 d
 by_cases f:M.ph=4
 ·have z:=beq_iff_eq.2 f;have c:Hid (phT M.ph=[118,111,108,97,116,105,108,105,116,121]):=by show _=_;unfold phT;rw [aA h1,aA b,aA d,aB f]
  clear h1 b d f;go_wp2_with fail;go_ret;exact a.out _ c.out
 have z:=aC.2 f
 by_cases g:M.ph=5
 ·have A:=beq_iff_eq.2 g;have c:Hid (phT M.ph=[99,108,111,115,105,110,103]):=by show _=_;unfold phT;rw [aA h1,aA b,aA d,aA f,aB g]
  clear h1 b d f g;go_wp2_with fail;go_ret;exact a.out _ c.out
 have A:=aC.2 g
 by_cases i:M.ph=6
 ·have B:=beq_iff_eq.2 i;have c:Hid (phT M.ph=[104,97,108,116]):=by show _=_;unfold phT;rw [aA h1,aA b,aA d,aA f,aA g,aB i]
  clear h1 b d f g i;go_wp2_with fail;go_ret;exact a.out _ c.out
 have B:=aC.2 i;have c:Hid (phT M.ph=[101,110,100,101,100]):=by show _=_;unfold phT;rw [aA h1,aA b,aA d,aA f,aA g,aA i]
 clear h1 b d f g i;go_wp2_with fail;go_ret;exact a.out _ c.out
theorem cE2 (la:Option Addr) (K:Nat) (l:List Int) (lo sb n:Nat) (x:DsK) (H:DsS) (M:Mkt) (w:World) (h:DsIs w lo sb x H n) (d:H.mkt=some M) (y:gV0 w):
  Calls prog 30 #[E (some ⟨sb,0,none⟩),J la l.length K] w fun e w'=>eQ0 w w' lo sb n (aZ0 11 l H) e:=by
 have C:Hid (aZ0 11 l H=((cK0 11 l M).1,{ H with mkt:=some (cK0 11 l M).2 })):=bS0 d7 l d;have B:=hid7 h;have F:=hid7 d;have I:=hid7 y;have P:=h.mkt d;obtain ⟨m,⟨lots,side,v,_⟩,_⟩:=h.eg M d;have D:=hid7 m;have c:=v.la;obtain ⟨s,t,u⟩:=eW1 m.lok m.few100 c;clear h d y m v;go_enter func30,ntmps30;go_wp2_with fail;refine (eR1 x.eb x.k M w D.out c).mono ?_;rintro e w1 ⟨rfl,g⟩;have o:=hid7 g;have r:Hid (rowT [(cW0 M).price,(cW0 M).qty,(cW0 M).sur]=(cK0 11 l M).1.2):=rfl;unfold vP1;generalize cW0 M=q at s t u r ⊢;clear g c;go_upto_region 2 with fail;have f:=heap_alloc_new w1 (R #[U G q.price,U G q.qty,U G q.sur] 107);have a:Hid (Below w.heap.size w (w1.alloc (R #[U G q.price,U G q.qty,U G q.sur] 107))):=aD0 o.out (bel1 w1 _);generalize w1.alloc (R #[U G q.price,U G q.qty,U G q.sur] 107)=W at f a ⊢;have L:=aA0 (j:=0) f rfl;have N:=aA0 (j:=1) f rfl;have O:=aA0 (j:=2) f rfl;clear f;go_wp2_with fail;have b:=bel1 W (R #[U G q.price,U G q.qty,U G q.sur] 3)
 refine (kK1 W.heap.size 0 3 [q.price,q.qty,q.sur] _ (jE0 W [q.price,q.qty,q.sur] 3) (fun z A=>by
  simp only [aR,cL,or_false] at A;rcases A with rfl | rfl | rfl
  ·exact s
  ·exact t
  ·exact u) s7 s7 ((I.out.below a.out).below b)).mono ?_
 rintro e Q ⟨rfl,i⟩;have p:=hid7 (aD0 a.out (aD0 b i));clear b i L N O;go_wp2_with fail;go_ret;rw [C.out];refine B.out.asks F.out p.out ?_;exact aH ⟨rfl,by rw [r.out];rfl⟩
theorem fY2 (la:Option Addr) (y:Nat) (l:List Int) (lo sb n:Nat) (x:DsK) (H:DsS) (M:Mkt) (w:World) (h:DsIs w lo sb x H n) (c:H.mkt=some M) (m:gV0 w):
  Calls prog 31 #[E (some ⟨sb,0,none⟩),J la l.length y] w fun e w'=>eQ0 w w' lo sb n (aZ0 12 l H) e:=by
 have q:Hid (aZ0 12 l H=((cK0 12 l M).1,{ H with mkt:=some (cK0 12 l M).2 })):=bS0 d7 l c;have p:=hid7 h;have s:=hid7 c;have t:=hid7 m;have A:=h.mkt c;obtain ⟨j,⟨lots,side,i,_⟩,_⟩:=h.eg M c;have r:=hid7 j;have u:in64 M.an:=bQ0 (by have:=i.an;omega);have v:in64 M.la:=bQ0 (by have:=i.la;omega);clear h c m j i;go_enter func31,ntmps31;go_wp2_with fail;refine (eV2 x.eb x.k M w r.out).mono ?_;rintro e w1 ⟨rfl,d⟩;have b:=hid7 d;clear d;go_wp2_with fail;have a:=bel1 w1 (R #[U G M.an,U G M.la] 3)
 refine (kK1 w1.heap.size 0 2 [M.an,M.la] _ (jE0 w1 [M.an,M.la] 3) (fun z o=>by
  simp only [aR,cL,or_false] at o;rcases o with rfl | rfl
  ·exact u
  ·exact v) s7 s7 ((t.out.below b.out).below a)).mono ?_
 rintro e B ⟨rfl,f⟩;have g:=hid7 (aD0 b.out (aD0 a f));clear a f;go_wp2_with fail;go_ret;rw [q.out];exact p.out.asks s.out g.out (fI0.yes rfl)
theorem wL1 (la:Option Addr) (C:Nat) (l:List Int) (lo sb n:Nat) (x:DsK) (H:DsS) (M:Mkt) (w:World) (h:DsIs w lo sb x H n) (c:H.mkt=some M) (s:gV0 w):
  Calls prog 33 #[E (some ⟨sb,0,none⟩),J la l.length C] w fun e w'=>eQ0 w w' lo sb n (aZ0 14 l H) e:=by
 have u:Hid (aZ0 14 l H=((cK0 14 l M).1,{ H with mkt:=some (cK0 14 l M).2 })):=bS0 d7 l c;have t:=hid7 h;have z:=hid7 c;have B:=hid7 s;have F:=h.mkt c;obtain ⟨p,⟨lots,side,o,q⟩,_⟩:=h.eg M c;have y:=hid7 p;have A:=hid7 (yH0 o q);have D:M.P.length<=1000:=by have:=o.few;omega
 clear h c s p o q;go_enter func33,ntmps33;go_wp2_with fail;refine (wF1 x.eb x.k M w y.out o7).mono ?_;rintro e w1 ⟨v,rfl,r,d⟩;have b:=hid7 d;obtain ⟨a,m,rfl,g⟩:=dS0.of_row r;have j:=hid7 g;clear d r g;go_wp2_with fail;refine (hR1 a m M.P w1 j.out A.out D (B.out.below b.out)).mono ?_;rintro e G ⟨rfl,f⟩;have i:=hid7 (aD0 b.out f);clear f;go_wp2_with fail;go_ret;rw [u.out];exact t.out.asks z.out i.out (fI0.yes rfl)
end
end Go.Proofs.YtaelphbianmckaaGreatDoor
