/- DeskPieces: a part of the proof, packed (the readable form: the templates). -/
import Derived.Test.YtaelphbianmckaaGreatDoorQA
import Derived.Test.YtaelphbianmckaaGreatDoorQP
import Derived.Test.YtaelphbianmckaaGreatDoorQO
import Derived.Shelf.Spec.SlicesInsert
import Derived.Lib.AppendZerosOnto
import Derived.Lib.Overlaps
import Derived.Deep.RegionLaw
import Derived.Test.YtaelphbianmckaaGreatDoorQJ
import Derived.Test.YtaelphbianmckaaGreatDoorQK
namespace Go.Proofs.YtaelphbianmckaaGreatDoor
open Go.RowKit
theorem uS0 (o:Ord):(lieO o).kind=o.kind:=by unfold lieO;split <;> rfl
theorem yZ0 (o:Ord):(lieO o).qty=o.qty:=by unfold lieO;split <;> rfl
theorem sA0 {o x:Ord} {L:List Ord} (h:x∈addL o L):x∈L∨x=lieO o:=by
 unfold addL at h;split at h
 ·rcases List.mem_append.1 h with h | h
  ·exact Or.inl h
  ·exact Or.inr (List.mem_singleton.1 h)
 ·exact Or.inl h
theorem sB0 (o:Ord) (L:List Ord):(addL o L).length≤L.length+1:=by
 unfold addL;split
 ·rw [List.length_append];exact lR7
 ·omega
theorem sC0 {x:Ord}:∀{P L:List Ord},x∈layL P L→x∈L∨∃o∈P,x=lieO o
 | [],_,h=>Or.inl h
 | o::P,L,h=>by
  rcases sC0 (P:=P) (L:=addL o L) h with h | ⟨q,hq,e⟩
  ·rcases sA0 h with h | h
   ·exact Or.inl h
   ·exact Or.inr ⟨o,List.mem_cons_self ..,h⟩
  ·exact Or.inr ⟨q,List.mem_cons_of_mem _ hq,e⟩
theorem zA0:∀(P L:List Ord),(layL P L).length≤L.length+P.length
 | [],_=>lR7
 | o::P,L=>by
  have h1:=zA0 P (addL o L);have h2:=sB0 o L;show (layL P (addL o L)).length≤L.length+(P.length+1);omega
section
variable {M:Mkt} {lots side:Int→Int} {since:Int} {hands:Bool}
theorem eM0 (h:DayInv M lots side since hands) {M':Mkt} (hp:M'.ph=M.ph):dJ0 M' since=since:=by
 unfold dJ0;rw [hp]
 by_cases e:M.ph=4
 ·rw [if_pos e]
 ·rw [if_neg e,h.sn.2 e]
theorem DayA.clos (h:DayA M lots side) (hp:(phaseV M.rs M.now).1=5):DayInv (jE0 M) lots side 0 hands:=by
 have hk:cX0 lots side (layL M.P M.L):=fun x hx=>by
  rcases sC0 hx with hx | ⟨o,ho,e⟩
  ·exact h.kp x (List.mem_append_left _ hx)
  ·have:=h.kp o (List.mem_append_right _ ho);rw [e,hI0,nQ0,yZ0];exact this
 refine ⟨⟨h.tab,h.rl,h.an,h.la,h.sh,h.ti,h.mo,h.lo,h.now,by show cX0 lots side (layL M.P M.L++[]);rw [List.append_nil];exact hk,fun x hx=>?_,(fun x _ y hy=>by cases hy),(fun x hx=>by cases hx),?_,h.lb⟩,Or.inr (Or.inr hp.symm),fun e=>absurd e (by show ¬(phaseV M.rs M.now).1=7;omega),(fun e=>absurd (show (5:Int)=7 from e) (by decide)),(fun e=>absurd (show (5:Int)=3 from e) (by decide)),(fun _ e=>absurd (show (5:Int)=4 from e) (by decide)),⟨Int.le_refl 0,fun _=>rfl⟩⟩
 ·have hx':x∈layL M.P M.L:=by simpa [jE0,layL] using hx
  rcases sC0 hx' with hx | ⟨o,ho,e⟩
  ·exact h.idI x (List.mem_append_left _ hx)
  ·rw [e,hI0];exact h.idI o (List.mem_append_right _ ho)
 ·have h1:=zA0 M.P M.L;have h2:=h.few;show (layL M.P M.L).length+0≤100;omega
theorem DayA.res (h:DayA M lots side) (hL:LOk M.L) (hp:(phaseV M.rs M.now).1=3):dN0 side lots (resM M).1∧DayInv (resM M).2 (bF0 lots (resM M).1) side 0 hands:=by
 obtain ⟨h1,h2,h3,h4,h5⟩:=uI0 hL h.la (h.kp.sub (fun x hx=>List.mem_append_left _ hx));have hpr:0<(aG0 M).qty→1≤(aG0 M).price∧(aG0 M).price≤1000000:=fun hq=>fF0 hL h.la hq
 have hlen:(uncM M).2.L.length≤M.L.length:=by
  rw [eZ1];show (limL (uncA M).2.L).length≤M.L.length;exact Nat.le_trans (List.length_filter_le _ _) (oX1 hL).2
 have hP:cX0 (bF0 lots (uncM M).1) side M.P:=jT0 (fun f hf x hx=>by
  obtain ⟨⟨a,ha,ea⟩,⟨b,hb,eb⟩⟩:=h5 f hf;exact ⟨by rw [←ea];exact h.dis a ha x hx,by rw [←eb];exact h.dis b hb x hx⟩) (h.kp.sub (fun x hx=>List.mem_append_right _ hx))
 have e:(uncM M).2.rs=M.rs∧(uncM M).2.P=M.P∧(uncM M).2.I=M.I∧(uncM M).2.st=M.st∧(uncM M).2.dy=M.dy∧(uncM M).2.ti=M.ti∧(uncM M).2.mo=M.mo∧(uncM M).2.lo=M.lo∧(uncM M).2.now=M.now∧(1≤(uncM M).2.an∧(uncM M).2.an≤1000000)∧(1≤(uncM M).2.la∧(uncM M).2.la≤1000000):=by
  unfold uncM
  by_cases hq:0<(aG0 M).qty
  ·rw [if_pos hq];exact ⟨rfl,rfl,rfl,rfl,rfl,rfl,rfl,rfl,rfl,hpr hq,hpr hq⟩
  ·rw [if_neg hq];exact ⟨rfl,rfl,rfl,rfl,rfl,rfl,rfl,rfl,rfl,h.an,h.la⟩
 unfold resM;generalize uncM M=um at h1 h2 h3 h4 h5 hlen hP e;obtain ⟨fs,N⟩:=um;dsimp only at h1 h2 h3 h4 h5 hlen hP e ⊢;obtain ⟨e1,e2,e3,e4,e5,e6,e7,e8,e9,e10,e11⟩:=e;refine ⟨h1,⟨⟨by show tabE N.rs=_;rw [e1];exact h.tab,by show N.rs.length≤60;rw [e1];exact h.rl,e10,e11,by show (0≤N.st∧N.st≤10000)∧(0≤N.dy∧N.dy≤10000);rw [e4,e5];exact h.sh,by show 1≤N.ti∧N.ti≤1000000;rw [e6];exact h.ti,by show 0≤N.mo∧N.mo≤10;rw [e7];exact h.mo,by show 0≤N.lo∧N.lo≤N.mo;rw [e8,e7];exact h.lo,by show 0≤N.now;rw [e9];exact h.now,by show cX0 _ side (N.L++N.P);rw [e2];exact kW0 h2 hP,fun x hx=>?_,fun x hx y hy=>?_,fun x hx=>h.pP x (by rw [←e2];exact hx),by show N.L.length+N.P.length≤100;rw [e2];have:=h.few;omega,mY0 h1 h.lb⟩,Or.inr (Or.inr (by show (3:Int)=(phaseV N.rs N.now).1;rw [e1,e9,hp])),fun e=>absurd e (by show ¬(phaseV N.rs N.now).1=7;rw [e1,e9,hp];decide),(fun e=>absurd (show (3:Int)=7 from e) (by decide)),fun _=>⟨fun x hx=>(h4 x hx).1,h3⟩,(fun _ e=>absurd (show (3:Int)=4 from e) (by decide)),⟨Int.le_refl 0,fun _=>rfl⟩⟩⟩
 ·show x.id∈N.I;rw [e3];rcases List.mem_append.1 hx with hx | hx
  ·obtain ⟨_,y,hy,ey⟩:=h4 x hx;rw [←ey];exact h.idI y (List.mem_append_left _ hy)
  ·exact h.idI x (List.mem_append_right _ (by rw [←e2];exact hx))
 ·obtain ⟨_,z,hz,ez⟩:=h4 x hx;rw [←ez];exact h.dis z hz y (by rw [←e2];exact hy)
def cS0 (M M':Mkt) (since:Int):Int:=if M'.ph=4 then (if M.ph=4 then since+1 else since) else 0
theorem DayA.tick1 (h:DayA M lots side):DayA { M with now:=M.now+1 } lots side:=⟨h.tab,h.rl,h.an,h.la,h.sh,h.ti,h.mo,h.lo,by show 0≤M.now+1;have:=h.now;omega,h.kp,h.idI,h.dis,h.pP,h.few,h.lb⟩
theorem DayInv.tick (h:DayInv M lots side since hands) (hL:LOk M.L):dN0 side lots (bO0 M).1∧DayInv (bO0 M).2 (bF0 lots (bO0 M).1) side (cS0 M (bO0 M).2 since) hands:=by
 by_cases h7:M.ph=7
 ·have e:bO0 M=([],M):=by unfold bO0;rw [if_pos h7]
  rw [e];refine ⟨trivial,?_⟩
  have e2:cS0 M M since=since:=by
   unfold cS0;rw [if_neg (by rw [h7];decide),h.sn.2 (by rw [h7];decide)]
  show DayInv M lots side (cS0 M M since) hands;rw [e2];exact h
 have hw7:¬(phaseV M.rs M.now).1=7:=fun e=>h7 (h.fin e)
 have hA:=h.toDayA.tick1;have e0:bO0 M=wE0 (phaseV M.rs M.now).1 (phaseV M.rs (M.now+1)).1 { M with now:=M.now+1 }:=by unfold bO0;rw [if_neg h7]
 rw [e0,rZ0];have hnext:=qJ0 h.tab h.now;have hfive:=qL0 (now:=M.now) h.tab;generalize hwas:(phaseV M.rs M.now).1=was at hnext hw7 hfive;generalize his:(phaseV M.rs (M.now+1)).1=is at hnext;have hpv:∀{v:Int},is=v→(phaseV M.rs (M.now+1)).1=v:=fun e=>his.trans e
 have hph:=h.ph;rw [hwas] at hph
 by_cases i7:is=7
 ·rw [if_pos i7];have hpv7:=hpv i7;obtain ⟨u1,_,_,_,_⟩:=uI0 (M:={ M with now:=M.now+1 }) hL h.la (h.kp.sub (fun x hx=>List.mem_append_left _ hx));have hpr:0<(aG0 { M with now:=M.now+1 }).qty→1≤(aG0 { M with now:=M.now+1 }).price∧(aG0 { M with now:=M.now+1 }).price≤1000000:=fun hq=>fF0 (L:=M.L) (la:=M.la) hL h.la hq
  have e:(uncM { M with now:=M.now+1 }).2.rs=M.rs∧(uncM { M with now:=M.now+1 }).2.I=M.I∧(uncM { M with now:=M.now+1 }).2.st=M.st∧(uncM { M with now:=M.now+1 }).2.dy=M.dy∧(uncM { M with now:=M.now+1 }).2.ti=M.ti∧(uncM { M with now:=M.now+1 }).2.mo=M.mo∧(uncM { M with now:=M.now+1 }).2.lo=M.lo∧(uncM { M with now:=M.now+1 }).2.now=M.now+1∧(1≤(uncM { M with now:=M.now+1 }).2.an∧(uncM { M with now:=M.now+1 }).2.an≤1000000)∧(1≤(uncM { M with now:=M.now+1 }).2.la∧(uncM { M with now:=M.now+1 }).2.la≤1000000):=by
   unfold uncM
   by_cases hq:0<(aG0 { M with now:=M.now+1 }).qty
   ·rw [if_pos hq];exact ⟨rfl,rfl,rfl,rfl,rfl,rfl,rfl,rfl,hpr hq,hpr hq⟩
   ·rw [if_neg hq];exact ⟨rfl,rfl,rfl,rfl,rfl,rfl,rfl,rfl,h.an,h.la⟩
  have fin7:∀{N:Mkt} {lots':Int→Int},N.rs=M.rs→N.st=M.st→N.dy=M.dy→N.ti=M.ti→N.mo=M.mo→N.lo=M.lo→N.now=M.now+1→(1≤N.an∧N.an≤1000000)→(1≤N.la∧N.la≤1000000)→(∀id,0≤lots' id∧lots' id≤1000000)→DayInv { N with L:=[],P:=[],ph:=7 } lots' side (cS0 M { N with L:=[],P:=[],ph:=7 } since) hands:=by
   intro N lots' e1 e2 e3 e4 e5 e6 e7 a1 a2 a3;have es:cS0 M { N with L:=[],P:=[],ph:=7 } since=0:=if_neg (by show ¬(7:Int)=4;decide);rw [es];refine ⟨⟨by show tabE N.rs=_;rw [e1];exact h.tab,by show N.rs.length≤60;rw [e1];exact h.rl,a1,a2,by show (0≤N.st∧N.st≤10000)∧(0≤N.dy∧N.dy≤10000);rw [e2,e3];exact h.sh,by show 1≤N.ti∧N.ti≤1000000;rw [e4];exact h.ti,by show 0≤N.mo∧N.mo≤10;rw [e5];exact h.mo,by show 0≤N.lo∧N.lo≤N.mo;rw [e6,e5];exact h.lo,by show 0≤N.now;rw [e7];exact hA.now,(fun x hx=>by cases hx),(fun x hx=>by cases hx),(fun x hx=>by cases hx),(fun x hx=>by cases hx),Nat.zero_le _,a3⟩,Or.inr (Or.inr ?_),fun _=>rfl,fun _=>⟨rfl,rfl⟩,(fun e=>absurd (show (7:Int)=3 from e) (by decide)),(fun _ e=>absurd (show (7:Int)=4 from e) (by decide)),⟨Int.le_refl 0,fun _=>rfl⟩⟩;show (7:Int)=(phaseV N.rs N.now).1;rw [e1,e7];exact hpv7.symm
  unfold finM
  by_cases h5:M.ph=5
  ·rw [if_pos (show ({ M with now:=M.now+1 }:Mkt).ph=5 from h5),if_pos (show ({ M with now:=M.now+1 }:Mkt).ph=5 from h5)];obtain ⟨e1,_,e3,e4,e5,e6,e7,e8,e9,e10⟩:=e;exact ⟨u1,fin7 e1 e3 e4 e5 e6 e7 e8 e9 e10 (mY0 u1 h.lb)⟩
  ·rw [if_neg (show ¬({ M with now:=M.now+1 }:Mkt).ph=5 from h5),if_neg (show ¬({ M with now:=M.now+1 }:Mkt).ph=5 from h5)];exact ⟨trivial,fin7 rfl rfl rfl rfl rfl rfl rfl h.an h.la h.lb⟩
 rw [if_neg i7]
 by_cases h6:M.ph=6
 ·rw [if_pos (show ({ M with now:=M.now+1 }:Mkt).ph=6 from h6)];have es:cS0 M { M with now:=M.now+1 } since=0:=if_neg (by show ¬M.ph=4;omega);refine ⟨trivial,?_⟩;show DayInv { M with now:=M.now+1 } lots side (cS0 M { M with now:=M.now+1 } since) hands;rw [es];exact ⟨hA,Or.inl h6,fun e=>absurd (his.symm.trans e) i7,fun e=>absurd e h7,fun e=>absurd (show M.ph=3 from e) (by omega),fun _ e=>absurd (show M.ph=4 from e) (by omega),⟨Int.le_refl 0,fun _=>rfl⟩⟩
 rw [if_neg (show ¬({ M with now:=M.now+1 }:Mkt).ph=6 from h6)]
 by_cases hw:is=was
 ·rw [if_neg (fun e=>e hw)]
  by_cases h4:M.ph=4
  ·have hw3:was=3:=by
    rcases hph with e | ⟨_,e⟩ | e
    ·omega
    ·exact e
    ·omega
   by_cases he:M.en≤M.now+1
   ·rw [if_pos (show ({ M with now:=M.now+1 }:Mkt).ph=4∧({ M with now:=M.now+1 }:Mkt).en≤({ M with now:=M.now+1 }:Mkt).now from ⟨h4,he⟩)];unfold setM
    by_cases hc:(aG0 { M with now:=M.now+1 }).qty=0∨eV0 ({ M with now:=M.now+1 }:Mkt).st ({ M with now:=M.now+1 }:Mkt).an (aG0 { M with now:=M.now+1 }).price=true
    ·rw [if_pos hc];obtain ⟨r1,r2⟩:=hA.res (hands:=hands) hL (hpv (by omega));refine ⟨r1,?_⟩;have es:cS0 M (resM { M with now:=M.now+1 }).2 since=0:=if_neg (by show ¬(3:Int)=4;decide);rw [es];exact r2
    ·rw [if_neg hc]
     by_cases hl:M.lo<M.mo
     ·rw [if_pos (show ({ M with now:=M.now+1 }:Mkt).lo<({ M with now:=M.now+1 }:Mkt).mo from hl)];refine ⟨trivial,?_⟩;show DayInv { M with now:=M.now+1,lo:=M.lo+1,en:=M.now+1+M.ti } lots side (cS0 M { M with now:=M.now+1,lo:=M.lo+1,en:=M.now+1+M.ti } since) hands
      have es:cS0 M { M with now:=M.now+1,lo:=M.lo+1,en:=M.now+1+M.ti } since=since+1:=by
       unfold cS0;rw [if_pos (show ({ M with now:=M.now+1,lo:=M.lo+1,en:=M.now+1+M.ti }:Mkt).ph=4 from h4),if_pos h4]
      rw [es];have hlo:=h.lo;refine ⟨⟨h.tab,h.rl,h.an,h.la,h.sh,h.ti,h.mo,by show 0≤M.lo+1∧M.lo+1≤M.mo;omega,hA.now,h.kp,h.idI,h.dis,h.pP,h.few,h.lb⟩,Or.inr (Or.inl ⟨h4,hpv (by omega)⟩),fun e=>absurd (his.symm.trans e) i7,fun e=>absurd e h7,fun e=>absurd (show M.ph=3 from e) (by omega),fun hh _=>?_,⟨by have:=h.sn.1;omega,fun e=>absurd h4 e⟩⟩;obtain ⟨v1,v2⟩:=h.vol hh h4;show since+1+(M.now+1+M.ti - (M.now+1))=(M.lo+1+1)*M.ti∧1≤M.now+1+M.ti - (M.now+1);have e3:(M.lo+1+1)*M.ti=(M.lo+1)*M.ti+M.ti:=by rw [Int.add_mul (M.lo+1) 1 M.ti,Int.one_mul]
      have:=h.ti;rw [e3];omega
     ·rw [if_neg (show ¬({ M with now:=M.now+1 }:Mkt).lo<({ M with now:=M.now+1 }:Mkt).mo from hl)];refine ⟨trivial,?_⟩;show DayInv { M with now:=M.now+1,ph:=6 } lots side (cS0 M { M with now:=M.now+1,ph:=6 } since) hands;have es:cS0 M { M with now:=M.now+1,ph:=6 } since=0:=if_neg (by show ¬(6:Int)=4;decide);rw [es];exact ⟨⟨h.tab,h.rl,h.an,h.la,h.sh,h.ti,h.mo,h.lo,hA.now,h.kp,h.idI,h.dis,h.pP,h.few,h.lb⟩,Or.inl rfl,fun e=>absurd (his.symm.trans e) i7,(fun e=>absurd (show (6:Int)=7 from e) (by decide)),(fun e=>absurd (show (6:Int)=3 from e) (by decide)),(fun _ e=>absurd (show (6:Int)=4 from e) (by decide)),⟨Int.le_refl 0,fun _=>rfl⟩⟩
   ·rw [if_neg (fun e=>he e.2)];refine ⟨trivial,?_⟩;show DayInv { M with now:=M.now+1 } lots side (cS0 M { M with now:=M.now+1 } since) hands
    have es:cS0 M { M with now:=M.now+1 } since=since+1:=by
     unfold cS0;rw [if_pos (show ({ M with now:=M.now+1 }:Mkt).ph=4 from h4),if_pos h4]
    rw [es];refine ⟨hA,Or.inr (Or.inl ⟨h4,hpv (by omega)⟩),fun e=>absurd (his.symm.trans e) i7,fun e=>absurd e h7,fun e=>absurd (show M.ph=3 from e) (by omega),fun hh _=>?_,⟨by have:=h.sn.1;omega,fun e=>absurd h4 e⟩⟩;obtain ⟨v1,v2⟩:=h.vol hh h4;show since+1+(M.en - (M.now+1))=(M.lo+1)*M.ti∧1≤M.en - (M.now+1);rw [←v1];omega
  ·rw [if_neg (fun e=>h4 e.1)];refine ⟨trivial,?_⟩;show DayInv { M with now:=M.now+1 } lots side (cS0 M { M with now:=M.now+1 } since) hands;have es:cS0 M { M with now:=M.now+1 } since=0:=if_neg h4;rw [es]
   have hpw:M.ph=was:=by
    rcases hph with e | ⟨e,_⟩ | e
    ·omega
    ·omega
    ·exact e
   exact ⟨hA,Or.inr (Or.inr (show M.ph=(phaseV M.rs (M.now+1)).1 by rw [his];omega)),fun e=>absurd (his.symm.trans e) i7,fun e=>absurd e h7,h.tr,fun _ e=>absurd (show M.ph=4 from e) h4,⟨Int.le_refl 0,fun _=>rfl⟩⟩
 ·rw [if_pos hw]
  have hfol:(was=1∧is=2)∨(was=2∧is=3)∨(was=3∧is=5):=by
   rcases hnext with e | e
   ·exact absurd e hw
   ·rcases fB1 e with ⟨e1,e2⟩ | ⟨e1,e2⟩ | ⟨e1,e2 | e2⟩ | ⟨e1,e2⟩ <;> omega
  unfold mN0
  by_cases i3:is=3
  ·rw [if_pos i3];obtain ⟨r1,r2⟩:=hA.res (hands:=hands) hL (hpv i3);refine ⟨r1,?_⟩;have es:cS0 M (resM { M with now:=M.now+1 }).2 since=0:=if_neg (by show ¬(3:Int)=4;decide);rw [es];exact r2
  ·rw [if_neg i3]
   by_cases i5:is=5
   ·rw [if_pos i5];refine ⟨trivial,?_⟩;have es:cS0 M (jE0 { M with now:=M.now+1 }) since=0:=if_neg (by show ¬(5:Int)=4;decide);show DayInv (jE0 { M with now:=M.now+1 }) lots side (cS0 M (jE0 { M with now:=M.now+1 }) since) hands;rw [es];exact hA.clos (hpv i5)
   ·rw [if_neg i5];have i2:is=2:=by omega
    refine ⟨trivial,?_⟩;show DayInv { M with now:=M.now+1,ph:=is } lots side (cS0 M { M with now:=M.now+1,ph:=is } since) hands;have es:cS0 M { M with now:=M.now+1,ph:=is } since=0:=if_neg (by show ¬is=4;omega);rw [es];exact ⟨⟨h.tab,h.rl,h.an,h.la,h.sh,h.ti,h.mo,h.lo,hA.now,h.kp,h.idI,h.dis,h.pP,h.few,h.lb⟩,Or.inr (Or.inr his.symm),fun e=>absurd (his.symm.trans e) i7,(fun e=>absurd (show is=7 from e) i7),(fun e=>absurd (show is=3 from e) i3),(fun _ e=>absurd (show is=4 from e) (by omega)),⟨Int.le_refl 0,fun _=>rfl⟩⟩
end
end Go.Proofs.YtaelphbianmckaaGreatDoor
namespace Go.Proofs.YtaelphbianmckaaGreatDoor
open Go.RowKit Go.Shelf
theorem kX0 {g:Nat} {t:TypeId}:∀(vs:List Value) (o:Nat) (w:World) (cur:Array Value),w.heap[g]? = some (.cells cur t (0,0))→o+vs.length≤cur.size→
  (w.setCells g o vs).heap[g]? = some (.cells (cur.toList.take o++vs++cur.toList.drop (o+vs.length)).toArray t (0,0))
 | [],o,w,cur,h,_=>by
  show w.heap[g]? = _;rw [h];simp
 | v::vs,o,w,cur,h,hs=>by
  show ((w.setCell ⟨g,o,none⟩ v).setCells g (o+1) vs).heap[g]? = _;rw [List.length_cons] at hs;rw [kX0 vs (o+1) _ _ (aH0 v h) (by simp;omega)]
  congr 2
  rw [Array.toList_setIfInBounds]
  congr 1
  rw [List.take_set,List.take_succ_eq_append_getElem (by simpa using (by omega:o<cur.size)),List.set_append_right _ _ (by rw [List.length_take];omega),List.drop_set_of_lt (by omega)];have hL:cur.toList.length=cur.size:=Array.length_toList;have e:o - (cur.toList.take o).length=0:=by rw [List.length_take];omega
  rw [e];simp
  congr 1;omega
theorem kY0 (g:Nat):∀(vs:List Value) (o:Nat) (w:World),Out (fun j=>j=g) w (w.setCells g o vs)
 | [],_,_=>Out.refl _ _
 | v::vs,o,w=>(aN0 w ⟨g,o,none⟩ v).trans (kY0 g vs (o+1) _) (Went.refl _ _)
theorem Tryz.zeroOrdE (w:World):(zeroValue 92).run Tryz.prog w=.ok (.agg #[.int .i64 0,.int .i64 0,.int .i64 0,.int .i64 0,.int .i64 0]) w:=by kernel_rfl
theorem pI1 (W:World) (g o c:Nat) (cur:Array Value) (t:TypeId) (hg:W.heap[g]? = some (.cells cur t (0,0))) (hfit:o+5≤cur.size):
  ∃W',(∀ty,(Builtin.clear_ #[99] ty #[.slice (some ⟨g,o,none⟩) 1 c]).run Tryz.prog W=.ok (.tuple #[]) W')
   ∧W'.heap[g]? = some (.cells (cur.toList.take o++[Value.int .i64 0,Value.int .i64 0,Value.int .i64 0,Value.int .i64 0,Value.int .i64 0]++cur.toList.drop (o+5)).toArray t (0,0))∧Out (fun j=>j=g) W W':=by
 refine ⟨W.setRow g (cur.toList.take o++[Value.int .i64 0,Value.int .i64 0,Value.int .i64 0,Value.int .i64 0,Value.int .i64 0]++cur.toList.drop (o+5)).toArray,fun ty=>?_,setRow_heap W g _ _ t _ hg,⟨rfl,rfl,rfl,by simp [World.setRow],fun j _ hj=>setRow_other W g j _ hj⟩⟩;have hst:=run_storeCells_at Tryz.prog g o t [Value.int .i64 0,Value.int .i64 0,Value.int .i64 0,Value.int .i64 0,Value.int .i64 0] 0 cur W hg (by simpa using hfit) (by simp [Value.oneCell']);have hz:=Tryz.zeroOrdE W;have hu:=run_underlying (P:=Tryz.prog) Tryz.underlying99 (w:=W);simp only [Nat.add_zero,List.length_cons,List.length_nil,Nat.zero_add,Nat.reduceAdd] at hst;simp [Builtin.clear_,hu,hz,Builtin.zeroCells,Value.cells];rw [show List.map (fun i=>[Value.int .i64 0,Value.int .i64 0,Value.int .i64 0,Value.int .i64 0,Value.int .i64 0][i % 5]?.getD default) (List.range 5)=[Value.int .i64 0,Value.int .i64 0,Value.int .i64 0,Value.int .i64 0,Value.int .i64 0] from rfl,hst];simp
theorem uT0 (i:Nat) (l:List Ord):oV l=oV (l.take i)++oV (l.drop i):=by rw [←gM0,List.take_append_drop]
theorem gF1 {l:List Ord} {i:Nat}:oV (l.eraseIdx i)=oV (l.take i)++oV (l.drop (i+1)):=by rw [List.eraseIdx_eq_take_drop_succ,gM0]
set_option maxRecDepth 100000 in
set_option maxHeartbeats 4000000 in
theorem tM1 (g cap i:Nat) (l:List Ord) (w:World) (hr:w.ownsRow 0 92 5 (.slice (some ⟨g,0,none⟩) l.length cap) l.length (oV l)) (hl:l.length≤1000) (hi:i<l.length):
  Calls Tryz.prog 119 #[.slice (some ⟨g,0,none⟩) l.length cap,.int .i64 i,.int .i64 ((i:Int)+1)] w fun e w'=>e=.returned (.slice (some ⟨g,0,none⟩) (l.length - 1) cap)
   ∧w'.ownsRow 0 92 5 (.slice (some ⟨g,0,none⟩) (l.length - 1) cap) (l.length - 1) (oV (l.eraseIdx i))∧Out (fun j=>j=g) w w':=by
 obtain ⟨i0,hi0,hz0,hzs,hzb⟩:=info_parts Tryz.infoOrdE;rcases hr.2 with ⟨h',_⟩ | ⟨g',cap',cur,h',_,hg,hnc,hcm,hcs,ht⟩
 ·simp at h'
 simp only [Value.slice.injEq,Option.some.injEq,Addr.mk.injEq,and_true,true_and] at h';obtain ⟨rfl,rfl⟩:=h';clear hr;unfold maxLen at hcm;have hA:(oV (l.take i)).length=i*5:=by rw [eR0,List.length_take];omega
 have hBl:(oV (l.drop (i+1))).length=(l.length - (i+1))*5:=by rw [eR0,List.length_drop]
 have hcut:cur.toList.take (l.length*5)=oV l:=ht;have hgd:w.drew.heap[g]? = some (.cells cur 92 (0,0)):=hg
 obtain ⟨A,hAd,hsrc⟩:∃A:Addr,(if cap=i+1 then some (⟨g,0,none⟩:Addr) else some ⟨g,(i+1)*5,none⟩)=some A∧Hid (∀t u,(oV (l.drop (i+1)))[t]? = some u→w.drew.cell? (A.add t)=some u):=by
  by_cases h:cap=i+1
  ·refine ⟨⟨g,0,none⟩,by simp [h],fun t u hu=>?_⟩;have:=(List.getElem?_eq_some_iff.1 hu).1;omega
  ·refine ⟨⟨g,(i+1)*5,none⟩,by simp [h],fun t u hu=>?_⟩;have hlt:=(List.getElem?_eq_some_iff.1 hu).1;rw [Addr.add_lit];refine aA0 hgd ?_
   have e1:(cur.toList.take (l.length*5))[(i+1)*5+t]? = some u:=by
    rw [hcut,uT0 (i+1) l,List.getElem?_append_right (by rw [eR0,List.length_take];omega),eR0,List.length_take];rw [show (i+1)*5+t - min (i+1) l.length*5=t by omega];exact hu
   rw [List.getElem?_take_of_lt (by omega)] at e1;rw [←Array.getElem?_toList];exact e1
 have s3:Hid (∀t,t<(oV (l.drop (i+1))).length→(w.drew.cell? ⟨g,0+i*5+t,none⟩).isSome=true∧w.drew.frozen? ⟨g,0+i*5+t,none⟩=false):=fun t ht'=>by
  refine ⟨?_,aB0 hgd⟩;have hlt:0+i*5+t<cur.size:=by omega
  rw [aA0 hgd (Array.getElem?_eq_getElem hlt)];rfl
 have s1:Hid ((oV (l.drop (i+1))).length=(l.length - (i+1))*5):=hBl;have s2:Hid (∀u∈oV (l.drop (i+1)),u.oneCell'=true):=bS1 _;have hg1:=kX0 (oV (l.drop (i+1))) (0+i*5) w.drew cur hgd (by omega);have ho1:=kY0 g (oV (l.drop (i+1))) (0+i*5) w.drew;obtain ⟨W1,hW1⟩:∃W1,W1=w.drew.setCells g (0+i*5) (oV (l.drop (i+1))):=⟨_,rfl⟩;rw [←hW1] at hg1 ho1;have hW:Hid (W1=w.drew.setCells g (0+i*5) (oV (l.drop (i+1)))):=hW1;obtain ⟨cur1,hcur1⟩:∃cur1:Array Value,cur1=(cur.toList.take (0+i*5)++oV (l.drop (i+1))++cur.toList.drop (0+i*5+(oV (l.drop (i+1))).length)).toArray:=⟨_,rfl⟩;rw [←hcur1] at hg1
 have hcz:cur1.size=cap*5:=by
  rw [hcur1];simp [hBl];omega
 obtain ⟨W2,hr2,hg2,ho2⟩:=pI1 W1 g ((l.length - 1)*5) (cap - (l.length - 1)) cur1 92 hg1 (by omega)
 have HFIN:Hid (W2.ownsRow 0 92 5 (.slice (some ⟨g,0,none⟩) (l.length - 1) cap) (l.length - 1) (oV (l.eraseIdx i))∧Out (fun j=>j=g) w W2):=by
  refine ⟨⟨by rw [eR0,List.length_eraseIdx,if_pos hi],Or.inr ⟨g,cap,_,rfl,Nat.zero_le _,hg2,by omega,by unfold maxLen;omega,?_,?_⟩⟩,?_⟩
  ·simp [hcz];omega
  ·rw [List.append_assoc,List.take_append_of_le_length (by rw [List.length_take,Array.length_toList (xs:=cur1)];omega),List.take_take,Nat.min_self,hcur1,gF1];show (cur.toList.take (0+i*5)++oV (l.drop (i+1))++_).take _=_;rw [Nat.zero_add,List.take_append_of_le_length (by rw [List.length_append,List.length_take,Array.length_toList (xs:=cur),hBl];omega),List.take_of_length_le (by rw [List.length_append,List.length_take,Array.length_toList (xs:=cur),hBl];omega)]
   congr 1
   have:=congrArg (List.take (i*5)) hcut;rw [List.take_take,Nat.min_eq_left (by omega)] at this;rw [this,uT0 i l,List.take_append_of_le_length (by omega),List.take_of_length_le (by omega)]
  ·exact (Out.of_below (Below.refl w.heap.size w).drew lR7).trans (ho1.trans ho2 (Went.refl _ _)) (Went.refl _ _)
 clear hg1 hg2 ho1 ho2 hcut hA hBl hcur1 hcz hg hgd hcs ht hW1;have q0:IntKind.i64.wrap ((i:Int)+1)=(i:Int)+1:=IntWalk.i64_in _ (by omega);have q1:(0:Int)≤(i:Int)+1:=by omega
 have q2:i≤l.length:=by omega
 have q3:((i:Int)+1).toNat=i+1:=by omega
 have q5:(i:Int)+1≤(l.length:Int):=by omega
 have q6:i≤cap:=by omega
 have q7:((i:Int) == (i:Int)+1)=false:=beq_eq_false_iff_ne.2 (by omega);have q8:i+1≤cap:=by omega
 have q9:i+(l.length - (i+1))=l.length - 1:=by omega
 have q10:l.length - (l.length - 1)=1:=by omega
 have q11:¬cap=l.length - 1:=by omega
 go_enter Tryz.func119,Tryz.ntmps119;go_wp2_with fail;go_region_law (refine step_append_room rfl (.tmp 22) (.tmp 25) 99 rfl 92 i0 5 Tryz.underlying99 hi0 hzs g 0 i cap (by simp [Act.eval,Act.put]) A (l.length - (i+1)) (cap - (i+1)) (oV (l.drop (i+1))) (by simp [Act.eval,Act.put]) s1.out hsrc.out s2.out (by omega) s3.out ?_;rw [←hW.out,q9]);go_wp2_with fail;go_ret;exact ⟨rfl,HFIN.out⟩
set_option maxRecDepth 100000 in
set_option maxHeartbeats 4000000 in
theorem pJ1 (v:Value) (l:List Ord) (w:World) (hr:w.ownsRow 0 92 5 v l.length (oV l)) (hl:l.length≤1000):
  Calls Tryz.prog 134 #[v] w fun e w'=>∃v',e=.returned v'∧w'.ownsRow w.heap.size 92 5 v' l.length (oV l)∧Below w.heap.size w w':=by
 obtain ⟨i0,hi0,hz0,hzs,hzb⟩:=info_parts Tryz.infoOrdE;have hu:∀(w:World) (a:Option Addr) (n c n' c':Nat),(binOp .eql 99 (.slice a n c) (.slice none n' c')).run Tryz.prog w=.ok (.bool a.isNone) w:=fun w a n c n' c'=>Lib.run_eql_slice_nil w _ _ a n c n' c' Tryz.underlying99
 rcases hr.2 with ⟨rfl,h0⟩ | ⟨g,cap,cur,rfl,_,hg,hnc,hcm,hcs,ht⟩
 ·obtain rfl:l=[]:=List.length_eq_zero_iff.1 h0;clear hr;go_enter Tryz.func134,Tryz.ntmps134;go_wp2;go_ret;exact ⟨_,rfl,World.ownsRow_nil _ _ _ _,Below.refl _ _⟩
 ·have HC:Hid (∀j u,(oV l)[j]? = some u→w.cell? ⟨g,j,none⟩=some u):=fun j u hj=>by
   refine aA0 hg ?_;rw [←ht,List.getElem?_take] at hj;split at hj
   ·rw [←Array.getElem?_toList];exact hj
   ·cases hj
  clear hr hg hcs ht;go_enter Tryz.func134,Tryz.ntmps134;go_wp2_with (at_builtin;refine wpList_append_own _ rfl _ _ 99 rfl w.heap.size 92 i0 (.agg #[.int .i64 0,.int .i64 0,.int .i64 0,.int .i64 0,.int .i64 0]) 5 40 Tryz.underlying99 hi0 hz0 hzs hzb rfl (by decide) _ _ _ rfl (World.ownsRow_made w #[] 0 lR7 (Nat.zero_le _) (by simp)) ⟨g,0,none⟩ l.length cap (oV l) rfl (eR0 l) (fun j u hj=>by rw [Addr.add_lit];exact Lib.cell?_alloc_some _ (by simpa using HC.out j u hj)) (bS1 l) (by unfold maxLen;omega) (by omega) (by simp) ?_;intro v' w1 hown hgrow hnil);go_ret;refine ⟨v',rfl,by simpa using hown,?_⟩;exact ((Below.refl _ w).alloc lR7 _).grown hgrow (by simp) (fun k hk=>by have e:some w.heap.size=some k:=hk;injection e with e;omega)
theorem sB1 (pb:Nat) (id:Int) (x:Ord) (w:World) (hp:w.heap[pb]? = some (.cells #[.int .i64 id] 3 (0,0))):
  Calls Tryz.prog 118 #[.agg #[.int .i64 x.id,.int .i64 x.side,.int .i64 x.kind,.int .i64 x.price,.int .i64 x.qty],.pointer (some ⟨pb,0,none⟩)] w fun e w'=>e=.returned (.bool (x.id == id))∧Below w.heap.size w w':=by
 have c0:(w.alloc (.cells #[.int .i64 x.id,.int .i64 x.side,.int .i64 x.kind,.int .i64 x.price,.int .i64 x.qty] 92)).cell? ⟨pb,0,none⟩=some (.int .i64 id):=aA0 (j:=0) (aD0 hp (bel1 _ _) lR7) rfl;clear hp;go_enter Tryz.func118,Tryz.ntmps118;go_wp2;go_ret;exact ⟨rfl,bel1 _ _⟩
set_option maxRecDepth 4000 in
set_option maxHeartbeats 2000000 in
theorem pK1 (pb:Nat) (id:Int) (a:Option Addr) (cap:Nat) (l:List Ord) (w:World) (hl:l.length≤1000) (hr:bX0 w a l) (hp:w.heap[pb]? = some (.cells #[.int .i64 id] 3 (0,0))):
  Calls Tryz.prog 117 #[.slice a l.length cap,.func (.func 118) #[] #[.pointer (some ⟨pb,0,none⟩)]] w fun e w'=>e=.returned (.int .i64 (idxO id l))∧Below w.heap.size w w':=by
 have HR:Hid (bX0 w a l):=hr;have HP:Hid (w.heap[pb]? = some (.cells #[.int .i64 id] 3 (0,0))):=hp;clear hr hp;go_enter Tryz.func117,Tryz.ntmps117;go_wp2_with fail;go_loopw [8] (fun v wr=>∃j:Nat,j≤l.length∧v=.int .i64 j∧idxF id j (l.drop j)=idxO id l∧Below w.heap.size w wr) (fun v _=>l.length - (intOf v).toNat)
 case atStart=>exact ⟨0,Nat.zero_le _,rfl,rfl,Below.refl _ _⟩
 case round=>
  obtain ⟨j,hj,rfl,hix,hb⟩:=hrel;have HB:Hid (Below w.heap.size w wr):=hb;have HIX:Hid (idxF id j (l.drop j)=idxO id l):=hix;clear hix
  by_cases hlt:j<l.length
  ·have hlt':(j:Int)<(l.length:Int):=by omega
   obtain ⟨g,off,e1,c0,c1,c2,c3,c4⟩:=(HR.out.below hb) j hlt;subst e1;have HPR:Hid _:=aD0 HP.out hb lR7;clear hb;go_wp2_with fail;refine (sB1 pb id (oAt l j) _ HPR.out).mono ?_;rintro e w1 ⟨rfl,hb1⟩;have HB1:Hid (Below w.heap.size w w1):=aC0 HB.out hb1;clear hb1 c0 c1 c2 c3 c4
   by_cases hji:(oAt l j).id=id
   ·have HE:Hid (idxO id l=(j:Int)):=by show _=_;rw [←HIX.out];exact iC1 hlt hji
    rw [beq_iff_eq.2 hji];clear hji;go_wp2_with fail;go_ret;exact ⟨by rw [HE.out];rfl,HB1.out⟩
   ·have HE:Hid (idxF id (j+1) (l.drop (j+1))=idxO id l):=by show _=_;rw [←HIX.out];exact bT1 hlt hji
    rw [beq_eq_false_iff_ne.2 hji];clear hji;go_wp2_with fail;go_roundw
    case rel=>exact ⟨j+1,by omega,by go_num,HE.out,HB1.out⟩
    case measure=>first | (simp [intOf];omega) | (show l.length - (j+1)<l.length - j;omega) | omega
  ·have HE:Hid (idxO id l=-1):=by show _=_;rw [←HIX.out];exact iD1 (by omega)
   go_wp2_with fail;go_ret;exact ⟨by rw [HE.out];rfl,HB.out⟩
end Go.Proofs.YtaelphbianmckaaGreatDoor
namespace Go.Proofs.YtaelphbianmckaaGreatDoor
open Go.RowKit
theorem xA0 (i:Nat) (l:List Ord):jN0 i l=l.eraseIdx i:=(List.eraseIdx_eq_take_drop_succ l i).symm
theorem lD1 (eb:Nat) (k:EgK) (M:Mkt) (w:World) (h:Eg w eb k M) (hP:M.P.length≤1000):
  Calls Tryz.prog 80 #[.pointer (some ⟨eb,0,none⟩)] w fun e w'=>∃v,e=.returned v∧w'.ownsRow w.heap.size 92 5 v M.P.length (oV M.P)∧Below w.heap.size w w':=by
 have c3:w.cell? ⟨eb,3,none⟩=some k.vp:=aA0 (j:=3) h.box rfl;have HP:Hid _:=h.pk;clear h;go_enter Tryz.func80,Tryz.ntmps80;go_wp2_with fail;refine (pJ1 k.vp M.P w HP.out hP).mono ?_;rintro e w1 ⟨v',rfl,h1,h2⟩;have H1:Hid _:=h1;have H2:Hid _:=h2;clear h1 h2;go_wp2_with fail;go_ret;exact ⟨v',rfl,H1.out,H2.out⟩
theorem bJ1 {w:World} {bb m:Nat} {b:BkS} {L:List Ord} (h:Bk w bb m b) (hm:m+1≤900000) (hl:Lnk b.S L) (id:Int) (hw:(Lit.int .i64 id).wf=true):
  Calls Tryz.prog 120 #[.pointer (some ⟨bb,0,none⟩),.int .i64 id] w fun e W'=>∃(x:Ord) (err:Value),e=.returned (.tuple #[.agg #[.int .i64 x.id,.int .i64 x.side,.int .i64 x.kind,.int .i64 x.price,.int .i64 x.qty],err])∧ErrE err (canN id L)∧(err=.nilIface∨err=.iface 26 (.int .i64 7))∧∃b',Lnk b'.S (canL id L)∧Goes w W' bb (m+1) b b':=by
 rcases mQ0 b.S id with ⟨s,hs,x,hx,rfl⟩ | hno
 ·obtain ⟨k,hk,hi,ho⟩:=dX1 hl hs hx;have hne:¬idxO x.o.id L=-1:=by omega
  have hkk:(idxO x.o.id L).toNat=k:=by omega
  refine (lE0 bb m s b x w h hm hs hx).mono ?_;rintro e W' ⟨rfl,b',⟨i,hi2,hix,hS⟩,hg⟩;refine ⟨x.o,.nilIface,rfl,ErrE.yes (by unfold canN;rw [if_neg hne]),Or.inl rfl,b',?_,hg⟩;unfold canL;rw [if_neg hne,hkk,hS];exact hl.gone h.ok hs hi2 hix hk (by rw [ho])
 ·have h1:=hl.idx_no hno;refine (sX0 bb m b id w h hw hno).mono ?_;rintro e W' ⟨rfl,hb⟩;exact ⟨Ord.none_,_,rfl,ErrE.no 7 (by unfold canN;rw [if_pos h1]) (by decide),Or.inr rfl,b,by unfold canL;rw [if_pos h1];exact hl,Goes.stay h hb (Nat.le_succ _) hm⟩
theorem EgGo.boxed5 {w w2:World} {eb lb:Nat} {k k2:EgK} {M2:Mkt} {vs:Array Value} (hg:EgGo w w2 eb k k2 M2) (hz:w2.heap[lb]? = some (.cells vs 92 (0,0))) (hlb:w.heap.size≤lb) (ht:k2.tb≠lb∧k2.cb≠lb) (hv:k2.vp.ownBlock≠some lb) (x:Ord):
  EgGo w (((((w2.setCell ⟨lb,0,none⟩ (.int .i64 x.id)).setCell ⟨lb,1,none⟩ (.int .i64 x.side)).setCell ⟨lb,2,none⟩ (.int .i64 x.kind)).setCell ⟨lb,3,none⟩ (.int .i64 x.price)).setCell ⟨lb,4,none⟩ (.int .i64 x.qty)) eb k k2 M2:=hg.boxed hz hlb ht hv x
def sC1 (w:World) (eb:Nat) (k:EgK) (M:Mkt) (id:Int) (u7:Value) (wc:World):Prop:=∃b':BkS,ErrE u7 (canN id M.L)∧EgGo w wc eb k { k with m:=k.m+1,b:=b' } { M with L:=canL id M.L }
theorem nB1 {w wc:World} {eb:Nat} {k:EgK} {M:Mkt} {id:Int} {u7:Value} {b':BkS} (h1:ErrE u7 (canN id M.L)) (h2:EgGo w wc eb k { k with m:=k.m+1,b:=b' } { M with L:=canL id M.L }):sC1 w eb k M id u7 wc:=⟨b',h1,h2⟩
set_option maxRecDepth 8000 in
set_option maxHeartbeats 4000000 in
theorem lE1 (eb:Nat) (k:EgK) (M:Mkt) (id:Int) (w:World) (h:Eg w eb k M) (hP:M.P.length≤1000) (hw:(Lit.int .i64 id).wf=true) (hm:k.m≤700000):
  Calls Tryz.prog 68 #[.pointer (some ⟨eb,0,none⟩),.int .i64 id] w fun e w'=>∃err k',e=.returned err∧ErrE err (mL0 M id)∧EgGo w w' eb k k' (canM M id)∧k'.m≤k.m+302:=by
 have H:Hid (Eg w eb k M):=h;have HW:Hid ((Lit.int .i64 id).wf=true):=hw;have hb1:=bel1 w (.cells #[.int .i64 id] 3);have hx1:=heap_alloc_new w (.cells #[.int .i64 id] 3);clear h hw
 by_cases h7:M.ph=7
 ·have HC:Hid (mL0 M id=6∧canM M id=M):=⟨by unfold mL0;rw [if_pos h7],by unfold canM;rw [if_pos h7]⟩;have b7:(M.ph == 7)=true:=beq_iff_eq.2 h7;clear h7;go_enter Tryz.func68,Tryz.ntmps68;go_upto_region 1 with fail;generalize w.alloc (.cells #[.int .i64 id] 3)=w1 at hb1 hx1 ⊢;have c5:w1.cell? ⟨eb,5,none⟩=some (.int .i64 M.ph):=aA0 (j:=5) (H.out.below hb1).box rfl;have HB1:Hid (Below w.heap.size w w1):=hb1;clear hb1 hx1;go_wp2_with fail;go_ret;exact ⟨_,k,rfl,ErrE.no 6 HC.out.1 (by decide),by rw [HC.out.2];exact EgGo.stay H.out HB1.out,Nat.le_add_right _ _⟩
 ·have b7:(M.ph == 7)=false:=beq_eq_false_iff_ne.2 h7;go_enter Tryz.func68,Tryz.ntmps68;go_upto_region 1 with fail;generalize w.alloc (.cells #[.int .i64 id] 3)=w1 at hb1 hx1 ⊢;have h1:=H.out.below hb1;obtain ⟨pa,pc,hvp,hin⟩:=bX0.of_row h1.pk;have c5:w1.cell? ⟨eb,5,none⟩=some (.int .i64 M.ph):=aA0 (j:=5) h1.box rfl;have c3:w1.cell? ⟨eb,3,none⟩=some (.slice pa M.P.length pc):=(aA0 (j:=3) (v:=k.vp) h1.box rfl).trans (by rw [hvp]);have HVP:Hid (k.vp=.slice pa M.P.length pc):=hvp;have HB1:Hid (Below w.heap.size w w1):=hb1;have HX1:Hid (w1.heap[w.heap.size]? = some (.cells #[.int .i64 id] 3 (0,0))):=hx1;have HIN:Hid (bX0 w1 pa M.P):=hin;clear hb1 hx1 h1 hvp hin;go_wp2_with fail;refine (pK1 w.heap.size id pa pc M.P w1 hP HIN.out HX1.out).mono ?_;rintro e w2 ⟨rfl,hb2⟩;have HB2:Hid (Below w.heap.size w w2):=aC0 HB1.out hb2;have H2:Hid (Eg w2 eb k M):=H.out.below HB2.out;have HX2:Hid (w2.heap[w.heap.size]? = some (.cells #[.int .i64 id] 3 (0,0))):=aD0 HX1.out hb2 lR7;clear hb2 c5 c3 HIN HX1 HB1
  by_cases hix:0≤idxO id M.P
  ·have HC:Hid (mL0 M id=0∧canM M id={ M with P:=jN0 (idxO id M.P).toNat M.P }):=⟨by unfold mL0;rw [if_neg h7,if_pos hix],by unfold canM;rw [if_neg h7,if_pos hix]⟩
   obtain ⟨i,hi,hie⟩:∃i:Nat,i<M.P.length∧idxO id M.P=(i:Int):=by
    rcases nC0 id M.P 0 with e | ⟨i,hi,e,_⟩
    ·have e':idxO id M.P=-1:=e;omega
    ·refine ⟨i,hi,?_⟩;have e':idxO id M.P=((0+i:Nat):Int):=e;rw [e'];congr 1;omega
   rw [hie] at HC ⊢;clear h7 hix hie;have hrow:w2.ownsRow 0 92 5 (.slice pa M.P.length pc) M.P.length (oV M.P):=by have:=H2.out.pk;rw [HVP.out] at this;exact this
   obtain ⟨g,cap,hv,_,_⟩:=hrow.form (by omega);simp only [Value.slice.injEq,true_and] at hv;obtain ⟨rfl,rfl⟩:=hv;have c3:w2.cell? ⟨eb,3,none⟩=some (.slice (some ⟨g,0,none⟩) M.P.length pc):=(aA0 (j:=3) (v:=k.vp) H2.out.box rfl).trans (by rw [HVP.out]);have wr:IntKind.i64.wrap ((i:Int)+1)=(i:Int)+1:=IntWalk.i64_in _ (by omega);have HROW:Hid _:=hrow;clear hrow;go_wp2_with fail;refine (tM1 g pc i M.P w2 HROW.out hP hi).mono ?_;rintro e w3 ⟨rfl,hr3,ho3⟩;have ho3':Out (fun j=>k.vp.ownBlock=some j) w2 w3:=⟨ho3.os,ho3.tape,ho3.output,ho3.size,fun j hj hn=>ho3.block j hj (fun e=>hn (by rw [HVP.out];exact congrArg some e.symm))⟩;have hl3:(M.P.eraseIdx i).length=M.P.length - 1:=by rw [List.length_eraseIdx,if_pos hi]
   have hfin:=H2.out.ofParked (P':=M.P.eraseIdx i) ho3' (by rw [hl3];exact hr3) (fun j hj=>Or.inl (by rw [HVP.out];exact hj));have d3:w3.cell? ⟨eb,3,none⟩=some k.vp:=aA0 (j:=3) (aE0 H2.out.box ho3' H2.out.ebpk) rfl;have f3:=aB0 (j:=3) (aE0 H2.out.box ho3' H2.out.ebpk);have HFIN:Hid (EgGo w (w3.setCell ⟨eb,3,none⟩ (.slice (some ⟨g,0,none⟩) (M.P.length - 1) pc)) eb k { k with vp:=.slice (some ⟨g,0,none⟩) (M.P.length - 1) pc } { M with P:=M.P.eraseIdx i }):=(EgGo.stay H.out HB2.out).trans hfin;clear hr3 ho3 ho3' hl3 hfin;go_wp2_with fail;go_ret;exact ⟨_,{ k with vp:=.slice (some ⟨g,0,none⟩) (M.P.length - 1) pc },rfl,ErrE.yes HC.out.1,by rw [HC.out.2,show ((i:Int)).toNat=i from rfl,xA0];exact HFIN.out,Nat.le_add_right _ _⟩
  ·have HC:Hid (mL0 M id=canN id M.L∧canM M id={ M with L:=canL id M.L }):=⟨by unfold mL0;rw [if_neg h7,if_neg hix],by unfold canM;rw [if_neg h7,if_neg hix]⟩;have e1:¬(idxO id M.P≥0):=hix;clear h7;go_upto_region 7 with fail;have hfx:¬k.b.foot k.bb w.heap.size:=fun e=>by have:=H.out.bk.lt e;omega
   have HS7:Hid (∀w',Out (k.b.foot k.bb) w2 w'→w'.cell? ⟨eb,2,none⟩=some (.pointer (some ⟨k.bb,0,none⟩))∧w'.cell? ⟨w.heap.size,0,none⟩=some (.int .i64 id)∧Out (k.b.foot k.bb) w2 w'):=fun w' ho=>⟨aA0 (j:=2) (aE0 H2.out.box ho H2.out.ebbk) rfl,aA0 (j:=0) (aE0 HX2.out ho hfx) rfl,ho⟩
   have hnf:¬k.b.foot k.bb w2.heap.size:=fun e=>by have:=H2.out.bk.lt e;omega
   have HNF:Hid (¬k.b.foot k.bb w2.heap.size):=hnf;have HLB:Hid (k.tb≠w2.heap.size∧k.cb≠w2.heap.size):=⟨by have:=H2.out.tlt';omega,by have:=H2.out.tlt;omega⟩;have HVN:Hid (k.vp.ownBlock≠some w2.heap.size):=fun e=>by have:=(H2.out.pk.lt _ e).2;omega
   have hm1:k.m+1≤900000:=by omega
   clear hfx hnf;go_cut [6,7] from 33 to 41 (fun _ u7 wc=>sC1 w eb k M id u7 wc)
   case first=>
    go_region_held3 (fun w'=>w'.cell? ⟨eb,2,none⟩=some (.pointer (some ⟨k.bb,0,none⟩))∧w'.cell? ⟨w.heap.size,0,none⟩=some (.int .i64 id)∧Out (k.b.foot k.bb) w2 w')
     ((refine HS7.out _ ?_;(repeat' first | assumption | exact HO3.out | exact Out.refl _ _ | refine aT0 ?_ | refine cU0 ?_ _ | refine eH0 ?_ ?_ | (simp;done) | (simp;omega))))
     ((go_at_call 120;refine (bJ1 (H2.out.bk.below ?_ lR7) hm1 H2.out.lnk id HW.out).mono ?_;((repeat' first | assumption | exact Below.refl _ _ | exact lR7 | refine Below.drew ?_ | refine Below.alloc ?_ ?_ _ | (simp;done) | (simp;omega)));rintro e w3 ⟨x,err,rfl,he,her,b3,hl3,hg3⟩;have HG3:Hid (Goes w2 w3 k.bb (k.m+1) k.b b3):=kM0 H2.out.bk (by (repeat' first | assumption | exact Below.refl _ _ | exact lR7 | refine Below.drew ?_ | refine Below.alloc ?_ ?_ _ | (simp;done) | (simp;omega))) hg3;have HO3:Hid (Out (k.b.foot k.bb) w2 w3):=HG3.out.2.1;have HL3:Hid _:=hl3;have HER:Hid _:=he;(try (have hz2:w3.heap[w2.heap.size]? = some (.cells #[.int .i64 0,.int .i64 0,.int .i64 0,.int .i64 0,.int .i64 0] 92 (0,0)):=(hg3.2.1.block _ (by simp) HNF.out).trans (heap_alloc_new _ _);have z0:=aA0 (j:=0) hz2 rfl;have z1:=aA0 (j:=1) hz2 rfl;have z2:=aA0 (j:=2) hz2 rfl;have z3:=aA0 (j:=3) hz2 rfl;have z4:=aA0 (j:=4) hz2 rfl;have y0:=aB0 (j:=0) hz2;have y1:=aB0 (j:=1) hz2;have y2:=aB0 (j:=2) hz2;have y3:=aB0 (j:=3) hz2;have y4:=aB0 (j:=4) hz2;have HZ2:Hid (ZBox w3 w2.heap.size):=hz2;clear hz2));clear hl3 hg3 he))
    all_goals have HGG:Hid (EgGo w w3 eb k { k with m:=k.m+1,b:=b3 } { M with L:=canL id M.L }):=(EgGo.stay H.out HB2.out).trans (H2.out.ofBook HG3.out HL3.out (Nat.le_succ _))
    all_goals go_wp2_with fail
    all_goals go_meet
    all_goals first | exact nB1 (b':=b3) HER.out (EgGo.boxed5 HGG.out HZ2.out HB2.out.size HLB.out HVN.out x) | exact nB1 (b':=b3) HER.out (HGG.out.bel (bel1 _ _))
   case rest=>
    obtain ⟨b3,he,hg⟩:=hcut;have HE:Hid (ErrE u7 (canN id M.L)):=he;have HG:Hid (EgGo w wc eb k { k with m:=k.m+1,b:=b3 } { M with L:=canL id M.L }):=hg;clear he hg;go_wp2_with fail;go_ret;exact ⟨u7,{ k with m:=k.m+1,b:=b3 },rfl,by rw [HC.out.1];exact HE.out,by rw [HC.out.2];exact HG.out,by show k.m+1≤k.m+302;omega⟩
section
variable {M:Mkt} {lots side:Int→Int} {since:Int} {hands:Bool}
theorem gG1 {rs:List (Int×Int)} {st dy p ti mo:Int} (htab:tabE rs=(0,-1)) (hrl:rs.length≤60) (hp:1≤p∧p≤1000000) (hs:0≤st∧st≤10000) (hd:0≤dy∧dy≤10000) (hti:1≤ti∧ti≤1000000) (hmo:0≤mo∧mo≤10):DayInv (newM rs st dy p ti mo) (fun _=>0) (fun _=>0) 0 false:=by
 have hph:(phaseV rs 0).1=1:=by
  obtain ⟨_,h1,h2⟩:=yS0 htab;obtain ⟨n,e⟩:=oP0 (now:=0) h2 (by rw [h1];exact Int.le_refl 0);unfold phaseV;rw [e,h1]
 exact ⟨⟨htab,hrl,hp,hp,⟨hs,hd⟩,hti,hmo,⟨Int.le_refl 0,hmo.1⟩,Int.le_refl 0,(fun x hx=>by cases hx),(fun x hx=>by cases hx),(fun x hx=>by cases hx),(fun x hx=>by cases hx),Nat.zero_le _,fun _=>⟨Int.le_refl 0,by decide⟩⟩,Or.inr (Or.inr hph.symm),fun e=>absurd (hph.symm.trans e) (by decide),(fun e=>absurd (show (1:Int)=7 from e) (by decide)),(fun e=>absurd (show (1:Int)=3 from e) (by decide)),(fun _ e=>absurd (show (1:Int)=4 from e) (by decide)),⟨Int.le_refl 0,fun _=>rfl⟩⟩
theorem DayInv.open_ (h:DayInv M lots side since false):DayInv (eK0 M) lots side (dJ0 (eK0 M) since) (decide (kK0 M=0)):=by
 by_cases hp:M.ph=6
 ·have e2:kK0 M=0:=by unfold kK0;rw [if_pos hp]
  have hn7:¬(phaseV M.rs M.now).1=7:=fun e=>by have:=h.fin e;omega
  have hs:since=0:=h.sn.2 (by omega);have e1:eK0 M=if (phaseV M.rs M.now).1=3 then volM M else if (phaseV M.rs M.now).1=5 then jE0 M else { M with ph:=(phaseV M.rs M.now).1 }:=by unfold eK0;rw [if_pos hp]
  rw [e2,e1]
  by_cases h3:(phaseV M.rs M.now).1=3
  ·rw [if_pos h3];have es:dJ0 (volM M) since=0:=by unfold dJ0;rw [hs];split <;> rfl
   rw [es];exact ⟨⟨h.tab,h.rl,h.an,h.la,h.sh,h.ti,h.mo,⟨Int.le_refl 0,h.mo.1⟩,h.now,h.kp,h.idI,h.dis,h.pP,h.few,h.lb⟩,Or.inr (Or.inl ⟨rfl,h3⟩),fun e=>absurd e hn7,(fun e=>absurd (show (4:Int)=7 from e) (by decide)),(fun e=>absurd (show (4:Int)=3 from e) (by decide)),(fun e=>by simp at e),⟨Int.le_refl 0,fun _=>rfl⟩⟩
  ·rw [if_neg h3]
   by_cases h5:(phaseV M.rs M.now).1=5
   ·rw [if_pos h5];have es:dJ0 (jE0 M) since=0:=if_neg (by show ¬(5:Int)=4;decide);rw [es];exact h.toDayA.clos h5
   ·rw [if_neg h5];have hfive:=qL0 (now:=M.now) h.tab;have es:dJ0 { M with ph:=(phaseV M.rs M.now).1 } since=0:=by unfold dJ0;rw [hs];split <;> rfl
    rw [es];exact ⟨⟨h.tab,h.rl,h.an,h.la,h.sh,h.ti,h.mo,h.lo,h.now,h.kp,h.idI,h.dis,h.pP,h.few,h.lb⟩,Or.inr (Or.inr rfl),fun e=>absurd e hn7,(fun e=>absurd e hn7),(fun e=>absurd e h3),(fun e=>by simp at e),⟨Int.le_refl 0,fun _=>rfl⟩⟩
 ·have e1:eK0 M=M:=by unfold eK0;rw [if_neg hp]
  have e2:kK0 M=6:=by unfold kK0;rw [if_neg hp]
  rw [e1,e2,eM0 h rfl];exact h
theorem lF1 {id:Int} {L:List Ord} {x:Ord} (h:x∈canL id L):x∈L:=by
 unfold canL at h;split at h
 ·exact h
 ·unfold jN0 at h;rcases List.mem_append.1 h with h | h
  ·exact List.mem_of_mem_take h
  ·exact List.mem_of_mem_drop h
theorem gH1 {i:Nat} {L:List Ord} {x:Ord} (h:x∈jN0 i L):x∈L:=by
 unfold jN0 at h;rcases List.mem_append.1 h with h | h
 ·exact List.mem_of_mem_take h
 ·exact List.mem_of_mem_drop h
theorem uU0 (i:Nat) (L:List Ord):(jN0 i L).length≤L.length:=by
 unfold jN0;rw [List.length_append,List.length_take,List.length_drop];omega
theorem lG1 (id:Int) (L:List Ord):(canL id L).length≤L.length:=by
 unfold canL;split
 ·exact lR7
 ·exact uU0 _ _
theorem DayInv.less (h:DayInv M lots side since hands) {L' P':List Ord} (h1:∀x∈L',x∈M.L) (h2:∀x∈P',x∈M.P) (h3:L'.length≤M.L.length) (h4:P'.length≤M.P.length):DayInv { M with L:=L',P:=P' } lots side since hands:=by
 have hsub:∀x∈L'++P',x∈M.L++M.P:=fun x hx=>(List.mem_append.1 hx).elim (fun e=>List.mem_append_left _ (h1 x e)) (fun e=>List.mem_append_right _ (h2 x e))
 refine ⟨⟨h.tab,h.rl,h.an,h.la,h.sh,h.ti,h.mo,h.lo,h.now,h.kp.sub hsub,fun x hx=>h.idI x (hsub x hx),fun x hx y hy=>h.dis x (h1 x hx) y (h2 y hy),fun x hx=>h.pP x (h2 x hx),?_,h.lb⟩,h.ph,h.fin,fun e=>?_,fun e=>⟨fun x hx=>(h.tr e).1 x (h1 x hx),fun x hx y hy=>(h.tr e).2 x (h1 x hx) y (h1 y hy)⟩,h.vol,h.sn⟩
 ·have:=h.few;show L'.length+P'.length≤100;omega
 ·obtain ⟨a,b⟩:=h.none e;rw [a] at h3;rw [b] at h4;exact ⟨List.eq_nil_of_length_eq_zero (Nat.le_zero.1 h3),List.eq_nil_of_length_eq_zero (Nat.le_zero.1 h4)⟩
theorem DayInv.cancel (h:DayInv M lots side since hands) (id:Int):DayInv (canM M id) lots side (dJ0 (canM M id) since) hands:=by
 have key:DayInv (canM M id) lots side since hands∧(canM M id).ph=M.ph:=by
  unfold canM
  by_cases h7:M.ph=7
  ·rw [if_pos h7];exact ⟨h,rfl⟩
  ·rw [if_neg h7]
   by_cases hi:0≤idxO id M.P
   ·rw [if_pos hi];exact ⟨h.less (fun _ hx=>hx) (fun _ hx=>gH1 hx) lR7 (uU0 _ _),rfl⟩
   ·rw [if_neg hi];exact ⟨h.less (fun _ hx=>lF1 hx) (fun _ hx=>hx) (lG1 _ _) lR7,rfl⟩
 rw [eM0 h key.2];exact key.1
theorem DayInv.order_no (h:DayInv M lots side since hands) {o:Ord} (hn:ordN M o≠0):(ordM M o).1=[]∧DayInv (ordM M o).2 lots side (dJ0 (ordM M o).2 since) hands:=by
 have e:ordM M o=([],M):=by unfold ordM;rw [if_neg hn]
 rw [e];refine ⟨rfl,?_⟩;show DayInv M lots side (dJ0 M since) hands;rw [eM0 h rfl];exact h
theorem DayInv.taken (h:DayInv M lots side since hands) {p:Ord} (hr:RefOk M p):DayInv { M with I:=M.I++[p.id] } (upF lots p.id p.qty) (upF side p.id p.side) since hands:=by
 have hne:∀x∈M.L++M.P,x.id≠p.id:=fun x hx e=>hr.new (by rw [←e];exact h.idI x hx)
 refine ⟨⟨h.tab,h.rl,h.an,h.la,h.sh,h.ti,h.mo,h.lo,h.now,(h.kp.up hne).upS hne,fun x hx=>List.mem_append_left _ (h.idI x hx),h.dis,h.pP,h.few,fun id=>?_⟩,h.ph,h.fin,h.none,h.tr,h.vol,h.sn⟩
 by_cases e:id=p.id
 ·subst e;rw [dC0];have:=hr.right;omega
 ·rw [cC0 e];exact h.lb id
theorem gI1 (s:Int) (L:List Ord):(aK0 s L).Pairwise (fun a b=>eI0 s a≤eI0 s b):=gP0 _
theorem DayInv.order_yes (h:DayInv M lots side since hands) {o:Ord} (hL:LOk M.L) (hw:(Lit.int .i64 o.id).wf=true) (hn:ordN M o=0):
  dN0 (upF side o.id o.side) (upF lots o.id o.qty) (ordM M o).1∧jS0 M.st M.dy M.an M.la (ordM M o).1∧((ordM M o).1≠[]→M.ph=3)
   ∧DayInv (ordM M o).2 (bF0 (upF lots o.id o.qty) (ordM M o).1) (upF side o.id o.side) (dJ0 (ordM M o).2 since) hands:=by
 have hr:RefOk M (lieO o):=pB0 (by rw [←mX0];exact hn);have hT:=h.taken hr;have e:ordM M o=gU0 { M with I:=M.I++[(lieO o).id] } (lieO o):=by unfold ordM;rw [if_pos hn,hI0]
 have hwp:(Lit.int .i64 (lieO o).id).wf=true:=by rw [hI0];exact hw
 have hnew:∀x∈M.L++M.P,x.id≠(lieO o).id:=fun x hx e=>hr.new (by rw [←e];exact h.idI x hx)
 have hlie:lieO (lieO o)=lieO o:=by
  by_cases hk:o.kind=2
  ·unfold lieO;rw [if_pos hk];exact if_pos hk
  ·unfold lieO;rw [if_neg hk];exact if_neg hk
 rw [e,show upF side o.id o.side=upF side (lieO o).id (lieO o).side by rw [hI0,nQ0],show upF lots o.id o.qty=upF lots (lieO o).id (lieO o).qty by rw [hI0,yZ0]];generalize lieO o=p at hr hT hwp hnew hlie;have hkp:cX0 (upF lots p.id p.qty) (upF side p.id p.side) [p]:=fun x hx=>by rw [List.mem_singleton.1 hx];exact ⟨dC0 _ _ _,dC0 _ _ _⟩
 have hself:p.id∈M.I++[p.id]:=List.mem_append_right _ (List.mem_singleton.2 rfl);have hroom:=hr.room;unfold gU0
 by_cases hpk:p.kind=4∧M.ph≠5
 ·rw [if_pos (show p.kind=4∧({ M with I:=M.I++[p.id] }:Mkt).ph≠5 from hpk)];refine ⟨trivial,trivial,fun e=>absurd rfl e,?_⟩;have es:dJ0 { M with I:=M.I++[p.id],P:=M.P++[p] } since=since:=eM0 h rfl;show DayInv { M with I:=M.I++[p.id],P:=M.P++[p] } (upF lots p.id p.qty) (upF side p.id p.side) (dJ0 { M with I:=M.I++[p.id],P:=M.P++[p] } since) hands;rw [es];refine ⟨⟨h.tab,h.rl,h.an,h.la,h.sh,h.ti,h.mo,h.lo,h.now,?_,fun x hx=>?_,fun x hx y hy=>?_,fun x hx=>?_,?_,hT.lb⟩,h.ph,h.fin,fun e=>?_,h.tr,h.vol,h.sn⟩
  ·show cX0 _ _ (M.L++(M.P++[p]));rw [←List.append_assoc];exact kW0 hT.kp hkp
  ·have hx':x∈(M.L++M.P)++[p]:=by rw [List.append_assoc];exact hx
   rcases List.mem_append.1 hx' with hx | hx
   ·exact hT.idI x hx
   ·rw [List.mem_singleton.1 hx];exact hself
  ·rcases List.mem_append.1 hy with hy | hy
   ·exact h.dis x hx y hy
   ·rw [List.mem_singleton.1 hy];exact fun e=>hnew x (List.mem_append_left _ hx) e.symm
  ·rcases List.mem_append.1 hx with hx | hx
   ·exact h.pP x hx
   ·rw [List.mem_singleton.1 hx];exact ⟨hpk.1,hwp⟩
  ·show M.L.length+(M.P++[p]).length≤100;rw [List.length_append,List.length_singleton];omega
  ·exfalso;have ht:=hr.takes;have e':M.ph=7:=e;rw [e',hpk.1] at ht;exact absurd ht (by decide)
 rw [if_neg (show ¬(p.kind=4∧({ M with I:=M.I++[p.id] }:Mkt).ph≠5) from hpk)]
 have hadd:∀{L0 L':List Ord} {q0:Ord},lieO q0=q0→L'=addL q0 L0→(∀x∈L',x∈L0∨x=q0):=fun hq e x hx=>by
  rw [e] at hx;rcases sA0 hx with h1 | h1
  ·exact Or.inl h1
  ·rw [hq] at h1;exact Or.inr h1
 by_cases h3:M.ph=3
 ·rw [if_neg (fun e=>e (show ({ M with I:=M.I++[p.id] }:Mkt).ph=3 from h3))];obtain ⟨tk,tap⟩:=h.tr h3
  have hk1:p.kind=1∨p.kind=2:=by
   have ht:=hr.takes;rw [h3] at ht;have hk:=hr.kind;unfold gR0 eD0 hM0 at ht
   by_cases k3:p.kind=3
   ·rw [k3] at ht;exact absurd ht (by decide)
   ·by_cases k4:p.kind=4
    ·exact absurd ⟨k4,by omega⟩ hpk
    ·omega
  have hMF0:MF { M with I:=M.I++[p.id] } p (upF lots p.id p.qty) (upF side p.id p.side) ⟨[],M.L,p.qty,[]⟩:=⟨trivial,(hT.kp.sub (fun x hx=>List.mem_append_left _ hx)),⟨dC0 _ _ _,dC0 _ _ _⟩,fun x hx=>hnew x (List.mem_append_left _ hx),rfl,trivial,by show 0≤p.qty;have:=hr.right;omega,fun x hx=>⟨x,hx,rfl,rfl,rfl,rfl⟩,lR7,(fun t ht=>by cases ht),(fun f hf=>by cases hf)⟩;have hMF:=lQ0 hr.side (aK0 (3 - p.side) M.L) _ hMF0 (MOk.start hL _ _) (fun x hx=>(aP0.1 hx).2);have hleft:=fun s'=>qO0 (M:={ M with I:=M.I++[p.id] }) hr.side (aK0 (3 - p.side) M.L) ⟨[],M.L,p.qty,[]⟩ s' (MOk.start hL _ _) (gI1 _ _) (fun x hx=>by rw [tk x (aP0.1 hx).1];decide) (fun y hy hyS=>aP0.2 ⟨hy,hyS⟩)
  unfold dY0;have emt:bM0 { M with I:=M.I++[p.id] } p=cH0 (alM { M with I:=M.I++[p.id] }) p (aK0 (3 - p.side) M.L) ⟨[],M.L,p.qty,[]⟩:=rfl;rw [←emt] at hMF hleft;generalize bM0 { M with I:=M.I++[p.id] } p=mt at hMF hleft ⊢;obtain ⟨s,t⟩:=mt;dsimp only at hMF hleft ⊢;refine ⟨hMF.fok,hMF.bands,fun _=>h3,?_⟩
  have hPk:cX0 (bF0 (upF lots p.id p.qty) s.fs) (upF side p.id p.side) M.P:=jT0 (fun f hf x hx=>by
   obtain ⟨w1,w2⟩:=hMF.who f hf;refine ⟨?_,?_⟩
   ·rcases w1 with e | ⟨a,ha,ea⟩
    ·rw [e];exact hnew x (List.mem_append_right _ hx)
    ·rw [←ea];exact h.dis a ha x hx
   ·rcases w2 with e | ⟨a,ha,ea⟩
    ·rw [e];exact hnew x (List.mem_append_right _ hx)
    ·rw [←ea];exact h.dis a ha x hx) (hT.kp.sub (fun x hx=>List.mem_append_right _ hx))
  generalize hL2:(if 0<s.q∧p.kind≠2 then addL (cE0 p s.q) s.L else s.L)=L2
  have hmem:∀x∈L2,x∈s.L∨(x=cE0 p s.q∧0<s.q∧p.kind=1):=fun x hx=>by
   by_cases hc:0<s.q∧p.kind≠2
   ·rw [if_pos hc] at hL2;have hk:p.kind=1:=hk1.elim id (fun e=>absurd e hc.2);have hl:lieO (cE0 p s.q)=cE0 p s.q:=if_neg (by show ¬p.kind=2;omega);rcases hadd hl hL2.symm x hx with h1 | h1
    ·exact Or.inl h1
    ·exact Or.inr ⟨h1,hc.1,hk⟩
   ·rw [if_neg hc] at hL2;rw [←hL2] at hx;exact Or.inl hx
  have hlen:L2.length≤M.L.length+1:=by
   have:=hMF.len;have h0:s.L.length≤M.L.length:=this
   by_cases hc:0<s.q∧p.kind≠2
   ·rw [if_pos hc] at hL2;rw [←hL2];have:=sB0 (cE0 p s.q) s.L;omega
   ·rw [if_neg hc] at hL2;rw [←hL2];omega
  have hA:DayA { M with I:=M.I++[p.id],L:=L2,la:=bZ0 M.la s.ts } (bF0 (upF lots p.id p.qty) s.fs) (upF side p.id p.side):=by
   refine ⟨h.tab,h.rl,h.an,?_,h.sh,h.ti,h.mo,h.lo,h.now,kW0 (fun x hx=>?_) hPk,fun x hx=>?_,fun x hx y hy=>?_,h.pP,?_,mY0 hMF.fok hT.lb⟩
   ·show 1≤bZ0 M.la s.ts∧bZ0 M.la s.ts≤1000000;exact yT0 (P:=fun t=>1≤t∧t≤1000000) h.la hMF.tsr
   ·rcases hmem x hx with h1 | ⟨h1,_,_⟩
    ·exact hMF.kp x h1
    ·rw [h1];exact hMF.me
   ·show x.id∈M.I++[p.id];rcases List.mem_append.1 hx with hx | hx
    ·rcases hmem x hx with h1 | ⟨h1,_,_⟩
     ·obtain ⟨y,hy,ey,_⟩:=hMF.sub x h1;rw [←ey];exact List.mem_append_left _ (h.idI y (List.mem_append_left _ hy))
     ·rw [h1];exact hself
    ·exact List.mem_append_left _ (h.idI x (List.mem_append_right _ hx))
   ·rcases hmem x hx with h1 | ⟨h1,_,_⟩
    ·obtain ⟨z,hz,ez,_⟩:=hMF.sub x h1;rw [←ez];exact h.dis z hz y hy
    ·rw [h1];exact hnew y (List.mem_append_right _ hy)
   ·show L2.length+M.P.length≤100;omega
  have hpv3:(phaseV M.rs M.now).1=3:=by
   rcases h.ph with e | ⟨e,_⟩ | e
   ·omega
   ·omega
   ·omega
  have hs0:since=0:=h.sn.2 (by omega);cases t with
  | true=>
   rw [if_pos rfl];have es:dJ0 (volM { M with I:=M.I++[p.id],L:=L2,la:=bZ0 M.la s.ts }) since=0:=by unfold dJ0;rw [hs0];split <;> rfl
   show DayInv (volM { M with I:=M.I++[p.id],L:=L2,la:=bZ0 M.la s.ts }) _ _ (dJ0 (volM { M with I:=M.I++[p.id],L:=L2,la:=bZ0 M.la s.ts }) since) hands;rw [es];refine ⟨⟨hA.tab,hA.rl,hA.an,hA.la,hA.sh,hA.ti,hA.mo,⟨Int.le_refl 0,h.mo.1⟩,hA.now,hA.kp,hA.idI,hA.dis,hA.pP,hA.few,hA.lb⟩,Or.inr (Or.inl ⟨rfl,hpv3⟩),fun e=>absurd (hpv3.symm.trans e) (by decide),(fun e=>absurd (show (4:Int)=7 from e) (by decide)),(fun e=>absurd (show (4:Int)=3 from e) (by decide)),(fun _ _=>?_),⟨Int.le_refl 0,fun _=>rfl⟩⟩;show 0+(M.now+M.ti - M.now)=(0+1)*M.ti∧1≤M.now+M.ti - M.now;have:=h.ti;omega
  | false=>
   rw [if_neg (by decide)];have es:dJ0 { M with I:=M.I++[p.id],L:=L2,la:=bZ0 M.la s.ts } since=since:=eM0 h rfl;show DayInv { M with I:=M.I++[p.id],L:=L2,la:=bZ0 M.la s.ts } _ _ (dJ0 { M with I:=M.I++[p.id],L:=L2,la:=bZ0 M.la s.ts } since) hands;rw [es];refine ⟨hA,h.ph,h.fin,fun e=>absurd (show M.ph=7 from e) (by omega),fun _=>⟨fun x hx=>?_,fun x hx y hy sx sy=>?_⟩,fun _ e=>absurd (show M.ph=4 from e) (by omega),h.sn⟩
   ·rcases hmem x hx with h1 | ⟨h1,_,h2⟩
    ·obtain ⟨y,hy,_,_,ek,_⟩:=hMF.sub x h1;rw [←ek];exact tk y hy
    ·rw [h1];exact h2
   ·have far:∀{z:Ord},z∈s.L→z.side=3 - p.side→0<s.q→farB p z=true:=fun hz hzs hq=>hleft s rfl hq _ hz hzs
    have hsd:=hr.side;rcases hmem x hx with h1 | ⟨h1,hq,hk⟩
    ·rcases hmem y hy with h2 | ⟨h2,hq,hk⟩
     ·obtain ⟨a,ha,_,sa,_,ap⟩:=hMF.sub x h1;obtain ⟨b,hb,_,sb,_,bp⟩:=hMF.sub y h2;rw [←ap,←bp];exact tap a ha b hb (sa.trans sx) (sb.trans sy)
     ·have sp:p.side=2:=by rw [h2] at sy;exact sy
      have hf:=far h1 (by rw [sx,sp];rfl) hq;unfold farB at hf;rw [hk,sp] at hf;rw [h2];show x.price<p.price
      simpa using hf
    ·rcases hmem y hy with h2 | ⟨h2,_,_⟩
     ·have sp:p.side=1:=by rw [h1] at sx;exact sx
      have hf:=far h2 (by rw [sy,sp];rfl) hq;unfold farB at hf;rw [hk,sp] at hf;rw [h1];show p.price<y.price
      simpa using hf
     ·rw [h1] at sx;rw [h2] at sy;have a1:p.side=1:=sx;have a2:p.side=2:=sy;omega
 ·rw [if_pos (show ({ M with I:=M.I++[p.id] }:Mkt).ph≠3 from h3)];refine ⟨trivial,trivial,fun e=>absurd rfl e,?_⟩;have es:dJ0 { M with I:=M.I++[p.id],L:=addL p M.L } since=since:=eM0 h rfl;show DayInv { M with I:=M.I++[p.id],L:=addL p M.L } (upF lots p.id p.qty) (upF side p.id p.side) (dJ0 { M with I:=M.I++[p.id],L:=addL p M.L } since) hands;rw [es];have hmem:∀x∈addL p M.L,x∈M.L∨x=p:=hadd hlie rfl;refine ⟨⟨h.tab,h.rl,h.an,h.la,h.sh,h.ti,h.mo,h.lo,h.now,?_,fun x hx=>?_,fun x hx y hy=>?_,h.pP,?_,hT.lb⟩,h.ph,h.fin,fun e=>?_,fun e=>absurd e h3,h.vol,h.sn⟩
  ·refine kW0 (fun x hx=>?_) (hT.kp.sub (fun x hx=>List.mem_append_right _ hx));rcases hmem x hx with h1 | h1
   ·exact hT.kp x (List.mem_append_left _ h1)
   ·exact hkp x (List.mem_singleton.2 h1)
  ·show x.id∈M.I++[p.id];rcases List.mem_append.1 hx with hx | hx
   ·rcases hmem x hx with h1 | h1
    ·exact hT.idI x (List.mem_append_left _ h1)
    ·rw [h1];exact hself
   ·exact hT.idI x (List.mem_append_right _ hx)
  ·rcases hmem x hx with h1 | h1
   ·exact h.dis x h1 y hy
   ·rw [h1];exact hnew y (List.mem_append_right _ hy)
  ·have:=sB0 p M.L;show (addL p M.L).length+M.P.length≤100;omega
  ·exfalso;have ht:=hr.takes;have e':M.ph=7:=e;rw [e'] at ht;have hk:=hr.kind;unfold gR0 eD0 hM0 at ht;simp at ht
end
theorem qR0 (p:Int) (s:FS):∀k,(aQ0 p s k).fs.length=s.fs.length+k
 | 0=>rfl
 | k+1=>by
  show ((aQ0 p s k).fs++[_]).length=_;rw [List.length_append,qR0 p s k];rfl
theorem gJ1 {M:Mkt} (h:LOk M.L) (hL:M.L.length≤100):(uncM M).1.length≤101:=by
 unfold uncM
 by_cases hq:0<(aG0 M).qty
 ·rw [if_pos hq];have hF:FOk (aG0 M).price ⟨[],M.L,(aG0 M).qty⟩:=fB0 M.la h hq;obtain ⟨K,e,_,hj⟩:=qN0 hF;show (gT0 (aG0 M).price (aG0 M).qty M.L).fs.length≤101;rw [e,qR0];cases K with
  | zero=>exact Nat.zero_le _
  | succ K=>
   have:=gQ0 hF K hj;have e3:(⟨[],M.L,(aG0 M).qty⟩:FS).L.length=M.L.length:=rfl;have e4:(⟨[],M.L,(aG0 M).qty⟩:FS).fs.length=0:=rfl;omega
 ·rw [if_neg hq];exact Nat.zero_le _
def pK0 (M M':Mkt):Prop:=M'.rs=M.rs∧M'.st=M.st∧M'.dy=M.dy∧M'.ti=M.ti∧M'.mo=M.mo
theorem gK1 (M:Mkt):pK0 M (uncM M).2:=by
 unfold uncM;split <;> exact ⟨rfl,rfl,rfl,rfl,rfl⟩
theorem lH1 (M:Mkt):(uncM M).2.now=M.now:=by unfold uncM;split <;> rfl
theorem uV0 {M:Mkt} (h:LOk M.L) (hL:M.L.length≤100):(bO0 M).1.length≤101∧pK0 M (bO0 M).2∧(bO0 M).2.now≤M.now+1:=by
 have hu:=gJ1 (M:={ M with now:=M.now+1 }) h hL;have hs:pK0 M (uncM { M with now:=M.now+1 }).2:=gK1 { M with now:=M.now+1 };have hn:(uncM { M with now:=M.now+1 }).2.now=M.now+1:=lH1 { M with now:=M.now+1 };have hself:pK0 M M:=⟨rfl,rfl,rfl,rfl,rfl⟩;have hself1:pK0 M { M with now:=M.now+1 }:=⟨rfl,rfl,rfl,rfl,rfl⟩;unfold bO0
 by_cases h7:M.ph=7
 ·rw [if_pos h7];exact ⟨Nat.zero_le _,hself,by show M.now≤M.now+1;omega⟩
 rw [if_neg h7,rZ0];have hres:(resM { M with now:=M.now+1 }).1.length≤101∧pK0 M (resM { M with now:=M.now+1 }).2∧(resM { M with now:=M.now+1 }).2.now≤M.now+1:=⟨hu,hs,by show (uncM { M with now:=M.now+1 }).2.now≤M.now+1;omega⟩;split
 ·unfold finM
  by_cases h5:M.ph=5
  ·rw [if_pos (show ({ M with now:=M.now+1 }:Mkt).ph=5 from h5),if_pos (show ({ M with now:=M.now+1 }:Mkt).ph=5 from h5)];exact ⟨hu,hs,by show (uncM { M with now:=M.now+1 }).2.now≤M.now+1;omega⟩
  ·rw [if_neg (show ¬({ M with now:=M.now+1 }:Mkt).ph=5 from h5),if_neg (show ¬({ M with now:=M.now+1 }:Mkt).ph=5 from h5)];exact ⟨Nat.zero_le _,hself1,Int.le_refl _⟩
 split
 ·exact ⟨Nat.zero_le _,hself1,Int.le_refl _⟩
 split
 ·unfold mN0;split
  ·exact hres
  split
  ·exact ⟨Nat.zero_le _,hself1,Int.le_refl _⟩
  ·exact ⟨Nat.zero_le _,hself1,Int.le_refl _⟩
 split
 ·unfold setM;split
  ·exact hres
  split
  ·exact ⟨Nat.zero_le _,hself1,Int.le_refl _⟩
  ·exact ⟨Nat.zero_le _,hself1,Int.le_refl _⟩
 ·exact ⟨Nat.zero_le _,hself1,Int.le_refl _⟩
theorem sD0 {M:Mkt} {o:Ord} (hL:M.L.length≤100):(ordM M o).1.length≤101∧pK0 M (ordM M o).2∧(ordM M o).2.now=M.now:=by
 unfold ordM;split
 ·unfold gU0;split
  ·exact ⟨Nat.zero_le _,⟨rfl,rfl,rfl,rfl,rfl⟩,rfl⟩
  split
  ·exact ⟨Nat.zero_le _,⟨rfl,rfl,rfl,rfl,rfl⟩,rfl⟩
  ·unfold dY0;refine ⟨?_,?_,?_⟩
   ·have:=(nW0 (alM { M with I:=M.I++[o.id] }) (lieO o) (aK0 (3 - (lieO o).side) M.L) ⟨[],M.L,(lieO o).qty,[]⟩).1;have h2:=iE0 (3 - (lieO o).side) M.L;have e:(⟨[],M.L,(lieO o).qty,[]⟩:MS).fs.length=0:=rfl;show (bM0 { M with I:=M.I++[o.id] } (lieO o)).1.fs.length≤101;unfold bM0;show (cH0 (alM { M with I:=M.I++[o.id] }) (lieO o) (aK0 (3 - (lieO o).side) M.L) ⟨[],M.L,(lieO o).qty,[]⟩).1.fs.length≤101;omega
   ·dsimp only;split <;> exact ⟨rfl,rfl,rfl,rfl,rfl⟩
   ·dsimp only;split <;> rfl
 ·exact ⟨Nat.zero_le _,⟨rfl,rfl,rfl,rfl,rfl⟩,rfl⟩
theorem gL1 (M:Mkt) (id:Int):pK0 M (canM M id)∧(canM M id).now=M.now:=by
 unfold canM;split
 ·exact ⟨⟨rfl,rfl,rfl,rfl,rfl⟩,rfl⟩
 split <;> exact ⟨⟨rfl,rfl,rfl,rfl,rfl⟩,rfl⟩
theorem bK1 (M:Mkt):pK0 M (hT0 M)∧(hT0 M).now=M.now:=by
 unfold hT0;split <;> exact ⟨⟨rfl,rfl,rfl,rfl,rfl⟩,rfl⟩
theorem bL1 (M:Mkt):pK0 M (eK0 M)∧(eK0 M).now=M.now:=by
 unfold eK0;split
 ·split
  ·exact ⟨⟨rfl,rfl,rfl,rfl,rfl⟩,rfl⟩
  split <;> exact ⟨⟨rfl,rfl,rfl,rfl,rfl⟩,rfl⟩
 ·exact ⟨⟨rfl,rfl,rfl,rfl,rfl⟩,rfl⟩
section
variable {M:Mkt} {lots side:Int→Int} {since:Int} {hands:Bool}
theorem DayInv.hT (h:DayInv M lots side since hands):DayInv M lots side 0 true:=
 ⟨h.toDayA,h.ph,h.fin,h.none,h.tr,(fun e=>by cases e),⟨Int.le_refl _,fun _=>rfl⟩⟩
theorem DayInv.haltT (h:DayInv M lots side 0 true):DayInv (hT0 M) lots side 0 true:=by
 unfold hT0
 by_cases hp:M.ph=6∨M.ph=7
 ·rw [if_pos hp];exact h
 ·rw [if_neg hp];refine ⟨⟨h.tab,h.rl,h.an,h.la,h.sh,h.ti,h.mo,h.lo,h.now,h.kp,h.idI,h.dis,h.pP,h.few,h.lb⟩,Or.inl rfl,fun e=>absurd (Or.inr (h.fin e)) hp,(fun e=>by cases e),(fun e=>by cases e),(fun e=>by cases e),⟨Int.le_refl _,fun _=>rfl⟩⟩
theorem DayInv.openT (h:DayInv M lots side 0 true):DayInv (eK0 M) lots side 0 true:=by
 by_cases hp:M.ph=6
 ·have h':DayInv M lots side 0 false:=⟨h.toDayA,h.ph,h.fin,h.none,h.tr,(fun _ e=>by rw [hp] at e;exact absurd e (by decide)),h.sn⟩;exact h'.open_.hT
 ·have e:eK0 M=M:=by unfold eK0;rw [if_neg hp]
  rw [e];exact h
end
end Go.Proofs.YtaelphbianmckaaGreatDoor
