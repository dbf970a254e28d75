/- A part of the proof of EnginePlays. -/
import Derived.Test.YtjdkagafdnchhaaGreatDoorPA
import Derived.Test.YtjdkagafdnchhaaGreatDoorPW
import Derived.Test.YtjdkagafdnchhaaGreatDoorPG
import Derived.Test.YtjdkagafdnchhaaGreatDoorPU
import Derived.Shelf.Spec.SlicesInsert
import Derived.Lib.AppendZerosOnto
import Derived.Lib.Overlaps
import Derived.Deep.RegionLaw
import Derived.Test.YtjdkagafdnchhaaGreatDoorPV
namespace Go.Proofs.YtjdkagafdnchhaaGreatDoor
open Go.RowKit
theorem aI1 (o:Ord):(lieO o).qty=o.qty:=by unfold lieO;split <;> rfl
theorem aJ1 {o x:Ord} {L:List Ord} (h:x∈addL o L):x∈L∨x=lieO o:=by
 unfold addL at h;split at h
 ·rcases List.mem_append.1 h with h | h
  ·exact Or.inl h
  ·exact Or.inr (List.mem_singleton.1 h)
 ·exact Or.inl h
theorem sZ0 (o:Ord) (L:List Ord):(addL o L).length≤L.length+1:=by
 unfold addL;split
 ·rw [List.length_append];exact lR7
 ·omega
theorem tA0 {x:Ord}:∀{P L:List Ord},x∈layL P L→x∈L∨∃o∈P,x=lieO o
 | [],_,h=>Or.inl h
 | o::P,L,h=>by
  rcases tA0 (P:=P) (L:=addL o L) h with h | ⟨q,hq,e⟩
  ·rcases aJ1 h with h | h
   ·exact Or.inl h
   ·exact Or.inr ⟨o,List.mem_cons_self ..,h⟩
  ·exact Or.inr ⟨q,List.mem_cons_of_mem _ hq,e⟩
theorem aK1:∀(P L:List Ord),(layL P L).length≤L.length+P.length
 | [],_=>lR7
 | o::P,L=>by
  have h1:=aK1 P (addL o L);have h2:=sZ0 o L;show (layL P (addL o L)).length≤L.length+(P.length+1);omega
section
variable {M:Mkt} {lots side:Int→Int} {since:Int} {hands:Bool}
theorem fL0 (h:DayInv M lots side since hands) {M':Mkt} (hp:M'.ph=M.ph):eH0 M' since=since:=by
 unfold eH0;rw [hp]
 by_cases e:M.ph=4
 ·rw [if_pos e]
 ·rw [if_neg e,h.sn.2 e]
theorem DayA.clos (h:DayA M lots side) (hp:(phaseV M.rs M.now).1=5):DayInv (iG0 M) lots side 0 hands:=by
 have hk:dP0 lots side (layL M.P M.L):=fun x hx=>by
  rcases tA0 hx with hx | ⟨o,ho,e⟩
  ·exact h.kp x (List.mem_append_left _ hx)
  ·have:=h.kp o (List.mem_append_right _ ho);rw [e,hC0,oD0,aI1];exact this
 refine ⟨⟨h.tab,h.rl,h.an,h.la,h.sh,h.ti,h.mo,h.lo,h.now,by show dP0 lots side (layL M.P M.L++[]);rw [List.append_nil];exact hk,fun x hx=>?_,(fun x _ y hy=>by cases hy),(fun x hx=>by cases hx),?_,h.lb⟩,Or.inr (Or.inr hp.symm),fun e=>absurd e (by show ¬(phaseV M.rs M.now).1=7;omega),(fun e=>absurd (show (5:Int)=7 from e) (by decide)),(fun e=>absurd (show (5:Int)=3 from e) (by decide)),(fun _ e=>absurd (show (5:Int)=4 from e) (by decide)),⟨Int.le_refl 0,fun _=>rfl⟩⟩
 ·have hx':x∈layL M.P M.L:=by simpa [iG0,layL] using hx
  rcases tA0 hx' with hx | ⟨o,ho,e⟩
  ·exact h.idI x (List.mem_append_left _ hx)
  ·rw [e,hC0];exact h.idI o (List.mem_append_right _ ho)
 ·have h1:=aK1 M.P M.L;have h2:=h.few;show (layL M.P M.L).length+0≤100;omega
theorem DayA.res (h:DayA M lots side) (hL:LOk M.L) (hp:(phaseV M.rs M.now).1=3):fC0 side lots (resM M).1∧DayInv (resM M).2 (bU0 lots (resM M).1) side 0 hands:=by
 obtain ⟨h1,h2,h3,h4,h5⟩:=vH0 hL h.la (h.kp.sub (fun x hx=>List.mem_append_left _ hx));have hpr:0<(aH0 M).qty→1≤(aH0 M).price∧(aH0 M).price≤1000000:=fun hq=>jF0 hL h.la hq
 have hlen:(uncM M).2.L.length≤M.L.length:=by
  rw [xR0];show (limL (uncA M).2.L).length≤M.L.length;exact Nat.le_trans (List.length_filter_le _ _) (fZ1 hL).2
 have hP:dP0 (bU0 lots (uncM M).1) side M.P:=kI0 (fun f hf x hx=>by
  obtain ⟨⟨a,ha,ea⟩,⟨b,hb,eb⟩⟩:=h5 f hf;exact ⟨by rw [←ea];exact h.dis a ha x hx,by rw [←eb];exact h.dis b hb x hx⟩) (h.kp.sub (fun x hx=>List.mem_append_right _ hx))
 have e:(uncM M).2.rs=M.rs∧(uncM M).2.P=M.P∧(uncM M).2.I=M.I∧(uncM M).2.st=M.st∧(uncM M).2.dy=M.dy∧(uncM M).2.ti=M.ti∧(uncM M).2.mo=M.mo∧(uncM M).2.lo=M.lo∧(uncM M).2.now=M.now∧(1≤(uncM M).2.an∧(uncM M).2.an≤1000000)∧(1≤(uncM M).2.la∧(uncM M).2.la≤1000000):=by
  unfold uncM
  by_cases hq:0<(aH0 M).qty
  ·rw [if_pos hq];exact ⟨rfl,rfl,rfl,rfl,rfl,rfl,rfl,rfl,rfl,hpr hq,hpr hq⟩
  ·rw [if_neg hq];exact ⟨rfl,rfl,rfl,rfl,rfl,rfl,rfl,rfl,rfl,h.an,h.la⟩
 unfold resM;generalize uncM M=um at h1 h2 h3 h4 h5 hlen hP e;obtain ⟨fs,N⟩:=um;dsimp only at h1 h2 h3 h4 h5 hlen hP e ⊢;obtain ⟨e1,e2,e3,e4,e5,e6,e7,e8,e9,e10,e11⟩:=e;refine ⟨h1,⟨⟨by show tabE N.rs=_;rw [e1];exact h.tab,by show N.rs.length≤60;rw [e1];exact h.rl,e10,e11,by show (0≤N.st∧N.st≤10000)∧(0≤N.dy∧N.dy≤10000);rw [e4,e5];exact h.sh,by show 1≤N.ti∧N.ti≤1000000;rw [e6];exact h.ti,by show 0≤N.mo∧N.mo≤10;rw [e7];exact h.mo,by show 0≤N.lo∧N.lo≤N.mo;rw [e8,e7];exact h.lo,by show 0≤N.now;rw [e9];exact h.now,by show dP0 _ side (N.L++N.P);rw [e2];exact lK0 h2 hP,fun x hx=>?_,fun x hx y hy=>?_,fun x hx=>h.pP x (by rw [←e2];exact hx),by show N.L.length+N.P.length≤100;rw [e2];have:=h.few;omega,nN0 h1 h.lb⟩,Or.inr (Or.inr (by show (3:Int)=(phaseV N.rs N.now).1;rw [e1,e9,hp])),fun e=>absurd e (by show ¬(phaseV N.rs N.now).1=7;rw [e1,e9,hp];decide),(fun e=>absurd (show (3:Int)=7 from e) (by decide)),fun _=>⟨fun x hx=>(h4 x hx).1,h3⟩,(fun _ e=>absurd (show (3:Int)=4 from e) (by decide)),⟨Int.le_refl 0,fun _=>rfl⟩⟩⟩
 ·show x.id∈N.I;rw [e3];rcases List.mem_append.1 hx with hx | hx
  ·obtain ⟨_,y,hy,ey⟩:=h4 x hx;rw [←ey];exact h.idI y (List.mem_append_left _ hy)
  ·exact h.idI x (List.mem_append_right _ (by rw [←e2];exact hx))
 ·obtain ⟨_,z,hz,ez⟩:=h4 x hx;rw [←ez];exact h.dis z hz y (by rw [←e2];exact hy)
def dG0 (M M':Mkt) (since:Int):Int:=if M'.ph=4 then (if M.ph=4 then since+1 else since) else 0
theorem DayA.tick1 (h:DayA M lots side):DayA { M with now:=M.now+1 } lots side:=⟨h.tab,h.rl,h.an,h.la,h.sh,h.ti,h.mo,h.lo,by show 0≤M.now+1;have:=h.now;omega,h.kp,h.idI,h.dis,h.pP,h.few,h.lb⟩
theorem DayInv.tick (h:DayInv M lots side since hands) (hL:LOk M.L):fC0 side lots (cL0 M).1∧DayInv (cL0 M).2 (bU0 lots (cL0 M).1) side (dG0 M (cL0 M).2 since) hands:=by
 by_cases h7:M.ph=7
 ·have e:cL0 M=([],M):=by unfold cL0;rw [if_pos h7]
  rw [e];refine ⟨trivial,?_⟩
  have e2:dG0 M M since=since:=by
   unfold dG0;rw [if_neg (by rw [h7];decide),h.sn.2 (by rw [h7];decide)]
  show DayInv M lots side (dG0 M M since) hands;rw [e2];exact h
 have hw7:¬(phaseV M.rs M.now).1=7:=fun e=>h7 (h.fin e)
 have hA:=h.toDayA.tick1;have e0:cL0 M=jT0 (phaseV M.rs M.now).1 (phaseV M.rs (M.now+1)).1 { M with now:=M.now+1 }:=by unfold cL0;rw [if_neg h7]
 rw [e0,sX0];have hnext:=rA0 h.tab h.now;have hfive:=rC0 (now:=M.now) h.tab;generalize hwas:(phaseV M.rs M.now).1=was at hnext hw7 hfive;generalize his:(phaseV M.rs (M.now+1)).1=is at hnext;have hpv:∀{v:Int},is=v→(phaseV M.rs (M.now+1)).1=v:=fun e=>his.trans e
 have hph:=h.ph;rw [hwas] at hph
 by_cases i7:is=7
 ·rw [if_pos i7];have hpv7:=hpv i7;obtain ⟨u1,_,_,_,_⟩:=vH0 (M:={ M with now:=M.now+1 }) hL h.la (h.kp.sub (fun x hx=>List.mem_append_left _ hx));have hpr:0<(aH0 { M with now:=M.now+1 }).qty→1≤(aH0 { M with now:=M.now+1 }).price∧(aH0 { M with now:=M.now+1 }).price≤1000000:=fun hq=>jF0 (L:=M.L) (la:=M.la) hL h.la hq
  have e:(uncM { M with now:=M.now+1 }).2.rs=M.rs∧(uncM { M with now:=M.now+1 }).2.I=M.I∧(uncM { M with now:=M.now+1 }).2.st=M.st∧(uncM { M with now:=M.now+1 }).2.dy=M.dy∧(uncM { M with now:=M.now+1 }).2.ti=M.ti∧(uncM { M with now:=M.now+1 }).2.mo=M.mo∧(uncM { M with now:=M.now+1 }).2.lo=M.lo∧(uncM { M with now:=M.now+1 }).2.now=M.now+1∧(1≤(uncM { M with now:=M.now+1 }).2.an∧(uncM { M with now:=M.now+1 }).2.an≤1000000)∧(1≤(uncM { M with now:=M.now+1 }).2.la∧(uncM { M with now:=M.now+1 }).2.la≤1000000):=by
   unfold uncM
   by_cases hq:0<(aH0 { M with now:=M.now+1 }).qty
   ·rw [if_pos hq];exact ⟨rfl,rfl,rfl,rfl,rfl,rfl,rfl,rfl,hpr hq,hpr hq⟩
   ·rw [if_neg hq];exact ⟨rfl,rfl,rfl,rfl,rfl,rfl,rfl,rfl,h.an,h.la⟩
  have fin7:∀{N:Mkt} {lots':Int→Int},N.rs=M.rs→N.st=M.st→N.dy=M.dy→N.ti=M.ti→N.mo=M.mo→N.lo=M.lo→N.now=M.now+1→(1≤N.an∧N.an≤1000000)→(1≤N.la∧N.la≤1000000)→(∀id,0≤lots' id∧lots' id≤1000000)→DayInv { N with L:=[],P:=[],ph:=7 } lots' side (dG0 M { N with L:=[],P:=[],ph:=7 } since) hands:=by
   intro N lots' e1 e2 e3 e4 e5 e6 e7 a1 a2 a3;have es:dG0 M { N with L:=[],P:=[],ph:=7 } since=0:=if_neg (by show ¬(7:Int)=4;decide);rw [es];refine ⟨⟨by show tabE N.rs=_;rw [e1];exact h.tab,by show N.rs.length≤60;rw [e1];exact h.rl,a1,a2,by show (0≤N.st∧N.st≤10000)∧(0≤N.dy∧N.dy≤10000);rw [e2,e3];exact h.sh,by show 1≤N.ti∧N.ti≤1000000;rw [e4];exact h.ti,by show 0≤N.mo∧N.mo≤10;rw [e5];exact h.mo,by show 0≤N.lo∧N.lo≤N.mo;rw [e6,e5];exact h.lo,by show 0≤N.now;rw [e7];exact hA.now,(fun x hx=>by cases hx),(fun x hx=>by cases hx),(fun x hx=>by cases hx),(fun x hx=>by cases hx),Nat.zero_le _,a3⟩,Or.inr (Or.inr ?_),fun _=>rfl,fun _=>⟨rfl,rfl⟩,(fun e=>absurd (show (7:Int)=3 from e) (by decide)),(fun _ e=>absurd (show (7:Int)=4 from e) (by decide)),⟨Int.le_refl 0,fun _=>rfl⟩⟩;show (7:Int)=(phaseV N.rs N.now).1;rw [e1,e7];exact hpv7.symm
  unfold finM
  by_cases h5:M.ph=5
  ·rw [if_pos (show ({ M with now:=M.now+1 }:Mkt).ph=5 from h5),if_pos (show ({ M with now:=M.now+1 }:Mkt).ph=5 from h5)];obtain ⟨e1,_,e3,e4,e5,e6,e7,e8,e9,e10⟩:=e;exact ⟨u1,fin7 e1 e3 e4 e5 e6 e7 e8 e9 e10 (nN0 u1 h.lb)⟩
  ·rw [if_neg (show ¬({ M with now:=M.now+1 }:Mkt).ph=5 from h5),if_neg (show ¬({ M with now:=M.now+1 }:Mkt).ph=5 from h5)];exact ⟨trivial,fin7 rfl rfl rfl rfl rfl rfl rfl h.an h.la h.lb⟩
 rw [if_neg i7]
 by_cases h6:M.ph=6
 ·rw [if_pos (show ({ M with now:=M.now+1 }:Mkt).ph=6 from h6)];have es:dG0 M { M with now:=M.now+1 } since=0:=if_neg (by show ¬M.ph=4;omega);refine ⟨trivial,?_⟩;show DayInv { M with now:=M.now+1 } lots side (dG0 M { M with now:=M.now+1 } since) hands;rw [es];exact ⟨hA,Or.inl h6,fun e=>absurd (his.symm.trans e) i7,fun e=>absurd e h7,fun e=>absurd (show M.ph=3 from e) (by omega),fun _ e=>absurd (show M.ph=4 from e) (by omega),⟨Int.le_refl 0,fun _=>rfl⟩⟩
 rw [if_neg (show ¬({ M with now:=M.now+1 }:Mkt).ph=6 from h6)]
 by_cases hw:is=was
 ·rw [if_neg (fun e=>e hw)]
  by_cases h4:M.ph=4
  ·have hw3:was=3:=by
    rcases hph with e | ⟨_,e⟩ | e
    ·omega
    ·exact e
    ·omega
   by_cases he:M.en≤M.now+1
   ·rw [if_pos (show ({ M with now:=M.now+1 }:Mkt).ph=4∧({ M with now:=M.now+1 }:Mkt).en≤({ M with now:=M.now+1 }:Mkt).now from ⟨h4,he⟩)];unfold setM
    by_cases hc:(aH0 { M with now:=M.now+1 }).qty=0∨dY0 ({ M with now:=M.now+1 }:Mkt).st ({ M with now:=M.now+1 }:Mkt).an (aH0 { M with now:=M.now+1 }).price=true
    ·rw [if_pos hc];obtain ⟨r1,r2⟩:=hA.res (hands:=hands) hL (hpv (by omega));refine ⟨r1,?_⟩;have es:dG0 M (resM { M with now:=M.now+1 }).2 since=0:=if_neg (by show ¬(3:Int)=4;decide);rw [es];exact r2
    ·rw [if_neg hc]
     by_cases hl:M.lo<M.mo
     ·rw [if_pos (show ({ M with now:=M.now+1 }:Mkt).lo<({ M with now:=M.now+1 }:Mkt).mo from hl)];refine ⟨trivial,?_⟩;show DayInv { M with now:=M.now+1,lo:=M.lo+1,en:=M.now+1+M.ti } lots side (dG0 M { M with now:=M.now+1,lo:=M.lo+1,en:=M.now+1+M.ti } since) hands
      have es:dG0 M { M with now:=M.now+1,lo:=M.lo+1,en:=M.now+1+M.ti } since=since+1:=by
       unfold dG0;rw [if_pos (show ({ M with now:=M.now+1,lo:=M.lo+1,en:=M.now+1+M.ti }:Mkt).ph=4 from h4),if_pos h4]
      rw [es];have hlo:=h.lo;refine ⟨⟨h.tab,h.rl,h.an,h.la,h.sh,h.ti,h.mo,by show 0≤M.lo+1∧M.lo+1≤M.mo;omega,hA.now,h.kp,h.idI,h.dis,h.pP,h.few,h.lb⟩,Or.inr (Or.inl ⟨h4,hpv (by omega)⟩),fun e=>absurd (his.symm.trans e) i7,fun e=>absurd e h7,fun e=>absurd (show M.ph=3 from e) (by omega),fun hh _=>?_,⟨by have:=h.sn.1;omega,fun e=>absurd h4 e⟩⟩;obtain ⟨v1,v2⟩:=h.vol hh h4;show since+1+(M.now+1+M.ti - (M.now+1))=(M.lo+1+1)*M.ti∧1≤M.now+1+M.ti - (M.now+1);have e3:(M.lo+1+1)*M.ti=(M.lo+1)*M.ti+M.ti:=by rw [Int.add_mul (M.lo+1) 1 M.ti,Int.one_mul]
      have:=h.ti;rw [e3];omega
     ·rw [if_neg (show ¬({ M with now:=M.now+1 }:Mkt).lo<({ M with now:=M.now+1 }:Mkt).mo from hl)];refine ⟨trivial,?_⟩;show DayInv { M with now:=M.now+1,ph:=6 } lots side (dG0 M { M with now:=M.now+1,ph:=6 } since) hands;have es:dG0 M { M with now:=M.now+1,ph:=6 } since=0:=if_neg (by show ¬(6:Int)=4;decide);rw [es];exact ⟨⟨h.tab,h.rl,h.an,h.la,h.sh,h.ti,h.mo,h.lo,hA.now,h.kp,h.idI,h.dis,h.pP,h.few,h.lb⟩,Or.inl rfl,fun e=>absurd (his.symm.trans e) i7,(fun e=>absurd (show (6:Int)=7 from e) (by decide)),(fun e=>absurd (show (6:Int)=3 from e) (by decide)),(fun _ e=>absurd (show (6:Int)=4 from e) (by decide)),⟨Int.le_refl 0,fun _=>rfl⟩⟩
   ·rw [if_neg (fun e=>he e.2)];refine ⟨trivial,?_⟩;show DayInv { M with now:=M.now+1 } lots side (dG0 M { M with now:=M.now+1 } since) hands
    have es:dG0 M { M with now:=M.now+1 } since=since+1:=by
     unfold dG0;rw [if_pos (show ({ M with now:=M.now+1 }:Mkt).ph=4 from h4),if_pos h4]
    rw [es];refine ⟨hA,Or.inr (Or.inl ⟨h4,hpv (by omega)⟩),fun e=>absurd (his.symm.trans e) i7,fun e=>absurd e h7,fun e=>absurd (show M.ph=3 from e) (by omega),fun hh _=>?_,⟨by have:=h.sn.1;omega,fun e=>absurd h4 e⟩⟩;obtain ⟨v1,v2⟩:=h.vol hh h4;show since+1+(M.en - (M.now+1))=(M.lo+1)*M.ti∧1≤M.en - (M.now+1);rw [←v1];omega
  ·rw [if_neg (fun e=>h4 e.1)];refine ⟨trivial,?_⟩;show DayInv { M with now:=M.now+1 } lots side (dG0 M { M with now:=M.now+1 } since) hands;have es:dG0 M { M with now:=M.now+1 } since=0:=if_neg h4;rw [es]
   have hpw:M.ph=was:=by
    rcases hph with e | ⟨e,_⟩ | e
    ·omega
    ·omega
    ·exact e
   exact ⟨hA,Or.inr (Or.inr (show M.ph=(phaseV M.rs (M.now+1)).1 by rw [his];omega)),fun e=>absurd (his.symm.trans e) i7,fun e=>absurd e h7,h.tr,fun _ e=>absurd (show M.ph=4 from e) h4,⟨Int.le_refl 0,fun _=>rfl⟩⟩
 ·rw [if_pos hw]
  have hfol:(was=1∧is=2)∨(was=2∧is=3)∨(was=3∧is=5):=by
   rcases hnext with e | e
   ·exact absurd e hw
   ·rcases gC1 e with ⟨e1,e2⟩ | ⟨e1,e2⟩ | ⟨e1,e2 | e2⟩ | ⟨e1,e2⟩ <;> omega
  unfold mZ0
  by_cases i3:is=3
  ·rw [if_pos i3];obtain ⟨r1,r2⟩:=hA.res (hands:=hands) hL (hpv i3);refine ⟨r1,?_⟩;have es:dG0 M (resM { M with now:=M.now+1 }).2 since=0:=if_neg (by show ¬(3:Int)=4;decide);rw [es];exact r2
  ·rw [if_neg i3]
   by_cases i5:is=5
   ·rw [if_pos i5];refine ⟨trivial,?_⟩;have es:dG0 M (iG0 { M with now:=M.now+1 }) since=0:=if_neg (by show ¬(5:Int)=4;decide);show DayInv (iG0 { M with now:=M.now+1 }) lots side (dG0 M (iG0 { M with now:=M.now+1 }) since) hands;rw [es];exact hA.clos (hpv i5)
   ·rw [if_neg i5];have i2:is=2:=by omega
    refine ⟨trivial,?_⟩;show DayInv { M with now:=M.now+1,ph:=is } lots side (dG0 M { M with now:=M.now+1,ph:=is } since) hands;have es:dG0 M { M with now:=M.now+1,ph:=is } since=0:=if_neg (by show ¬is=4;omega);rw [es];exact ⟨⟨h.tab,h.rl,h.an,h.la,h.sh,h.ti,h.mo,h.lo,hA.now,h.kp,h.idI,h.dis,h.pP,h.few,h.lb⟩,Or.inr (Or.inr his.symm),fun e=>absurd (his.symm.trans e) i7,(fun e=>absurd (show is=7 from e) i7),(fun e=>absurd (show is=3 from e) i3),(fun _ e=>absurd (show is=4 from e) (by omega)),⟨Int.le_refl 0,fun _=>rfl⟩⟩
end
def newM (rs:List (Int×Int)) (st dy p ti mo:Int):Mkt:=⟨rs,st,dy,p,p,ti,mo,[],[],[],1,0,0,0⟩
theorem lU1 {wf:World} {eb tb cb ct nb bb tk n:Nat} {b:BkS} {rs:List (Int×Int)} {st dy p ti mo:Int}
  (hbox:wf.heap[eb]? = some (.cells #[.pointer (some ⟨tb,0,none⟩),.pointer (some ⟨nb,0,none⟩),.pointer (some ⟨bb,0,none⟩),.slice none 0 0,.map (some tk),.int .i64 1,.int .i64 0,.int .i64 ti,.int .i64 mo,.int .i64 0,.int .i64 0] 98 (0,0)))
  (htab:wf.cell? ⟨tb,0,none⟩=some (.slice (some ⟨cb,0,none⟩) rs.length ct)∧bK0 wf cb 0 rs) (hbn:BnAt wf nb st dy p p) (hbk:Bk wf bb 0 b) (hl:Lnk b.S []) (htk:jB0 wf tk 0 []) (hlt:tb<n∧cb<n) (hn:n≤nb∧n≤eb∧n≤tk∧n≤wf.heap.size) (hf:∀j,b.foot bb j→n≤j) (htkf:¬b.foot bb tk):
  Eg wf eb ⟨tb,cb,ct,nb,bb,0,b,.slice none 0 0,tk,0⟩ (newM rs st dy p ti mo)∧∀j,(⟨tb,cb,ct,nb,bb,0,b,.slice none 0 0,tk,0⟩:EgK).foot eb j→n≤j:=by
 have hall:∀j,(⟨tb,cb,ct,nb,bb,0,b,.slice none 0 0,tk,0⟩:EgK).foot eb j→n≤j:=fun j hj=>by
  rcases hj with rfl | rfl | hj | hj | rfl
  ·exact hn.2.1
  ·exact hn.1
  ·exact hf j hj
  ·cases hj
  ·exact hn.2.2.1
 refine ⟨⟨hbox,htab,Nat.lt_of_lt_of_le hlt.2 hn.2.2.2,hbn,hbk,hl,World.ownsRow_nil _ _ _ _,htk,htkf,lR7,fun j hj e=>?_⟩,hall⟩;have h1:=hall j e;rcases hj with e1 | e1
 ·have e2:j=tb:=e1;have:=hlt.1;omega
 ·have e2:j=cb:=e1;have:=hlt.2;omega
theorem hR1 (w:World):jB0 (w.alloc (.map #[] 0)) w.heap.size 0 []:=by
 have:=World.ownsMap_made (H:=Unit) w Tryz.prog 3 fQ1;exact ⟨_,this,fun _=>rfl⟩
theorem tQ1 {W:World} {n n':Nat} (e:n=n') (h:Bk W (n+2) 0 (BkS.none_ n)):Bk W (n'+2) 0 (BkS.none_ n'):=by subst e;exact h
def lV1 (w:World) (rs:List (Int×Int)) (st dy p ti mo:Int) (e:Ending) (w':World):Prop:=∃(eb:Nat) (k:EgK),e=.returned (.tuple #[.pointer (some ⟨eb,0,none⟩),.nilIface])∧Eg w' eb k (newM rs st dy p ti mo)∧k.m=0∧(∀j,k.foot eb j→w.heap.size≤j)∧Below w.heap.size w w'
section
variable {w w2 w3 w4:World} {tb cb ct:Nat} {rs:List (Int×Int)} {st dy p ti mo:Int}
theorem hT1 {wf:World} {eb bb tk:Nat} {b:BkS} (hb2:Below w.heap.size w w2) (hb3:Below w2.heap.size w2 w3) (hb4:Below w3.heap.size w3 w4) (hbf:Below w4.heap.size w4 wf) (ht1:w2.cell? ⟨tb,0,none⟩=some (.slice (some ⟨cb,0,none⟩) rs.length ct)) (ht2:bK0 w2 cb 0 rs) (hlt:tb<w2.heap.size∧cb<w2.heap.size) (hbn:BnAt w3 w2.heap.size st dy p p)
  (hbk:Bk w4 bb 0 b) (hl:Lnk b.S []) (hf:∀j,b.foot bb j→w2.heap.size≤j) (htk:jB0 wf tk 0 []) (htn:w2.heap.size≤tk) (htf:¬b.foot bb tk) (hen:w2.heap.size≤eb)
  (hx:wf.heap[eb]? = some (.cells #[.pointer (some ⟨tb,0,none⟩),.pointer (some ⟨w2.heap.size,0,none⟩),.pointer (some ⟨bb,0,none⟩),.slice none 0 0,.map (some tk),.int .i64 1,.int .i64 0,.int .i64 ti,.int .i64 mo,.int .i64 0,.int .i64 0] 98 (0,0))):
  lV1 w rs st dy p ti mo (.returned (.tuple #[.pointer (some ⟨eb,0,none⟩),.nilIface])) wf:=by
 have h34:=aD0 hb4 hbf;have h24:=aD0 hb3 h34;obtain ⟨g1,g2⟩:=lU1 (n:=w2.heap.size) hx ⟨gK0 ht1 h24,ht2.below h24 lR7⟩ (hbn.below h34) (hbk.below hbf lR7) hl htk hlt ⟨lR7,hen,htn,h24.size⟩ hf htf;exact ⟨eb,_,rfl,g1,rfl,fun j hj=>Nat.le_trans hb2.size (g2 j hj),aD0 hb2 h24⟩
theorem tR1 (hb2:Below w.heap.size w w2) (hb3:Below w2.heap.size w2 w3) (hb4:Below w3.heap.size w3 w4) (ht1:w2.cell? ⟨tb,0,none⟩=some (.slice (some ⟨cb,0,none⟩) rs.length ct)) (ht2:bK0 w2 cb 0 rs) (hlt:tb<w2.heap.size∧cb<w2.heap.size) (hbn:BnAt w3 w2.heap.size st dy p p) (hbk:Bk w4 (w3.heap.size+2) 0 (BkS.none_ w3.heap.size)):
  lV1 w rs st dy p ti mo (.returned (.tuple #[.pointer (some ⟨w4.heap.size+1,0,none⟩),.nilIface])) ((w4.alloc (.map #[] 0)).alloc (.cells #[.pointer (some ⟨tb,0,none⟩),.pointer (some ⟨w2.heap.size,0,none⟩),.pointer (some ⟨w3.heap.size+2,0,none⟩),.slice none 0 0,.map (some w4.heap.size),.int .i64 1,.int .i64 0,.int .i64 ti,.int .i64 mo,.int .i64 0,.int .i64 0] 98)):=by
 have hs3:=hb3.size;have hs4:=hb4.size;exact hT1 hb2 hb3 hb4 (bel2 _ _ _) ht1 ht2 hlt hbn hbk Lnk.start (fun j hj=>Nat.le_trans hs3 (wG0 w3 hj)) ((hR1 w4).same ((bel1 _ _).block _ (by simp))) (by omega) (fun e=>by have:=hbk.lt e;omega) (by omega) (dX0 _ _ _)
theorem tS1 (hb2:Below w.heap.size w w2) (hb3:Below w2.heap.size w2 w3) (hb4:Below w3.heap.size w3 w4) (hbc:Below (w3.alloc (.map #[] 0)).heap.size (w3.alloc (.map #[] 0)) w4) (ht1:w2.cell? ⟨tb,0,none⟩=some (.slice (some ⟨cb,0,none⟩) rs.length ct)) (ht2:bK0 w2 cb 0 rs) (hlt:tb<w2.heap.size∧cb<w2.heap.size) (hbn:BnAt w3 w2.heap.size st dy p p) (hbk:Bk w4 (w3.heap.size+1+2) 0 (BkS.none_ (w3.heap.size+1))):
  lV1 w rs st dy p ti mo (.returned (.tuple #[.pointer (some ⟨w4.heap.size,0,none⟩),.nilIface])) (w4.alloc (.cells #[.pointer (some ⟨tb,0,none⟩),.pointer (some ⟨w2.heap.size,0,none⟩),.pointer (some ⟨w3.heap.size+1+2,0,none⟩),.slice none 0 0,.map (some w3.heap.size),.int .i64 1,.int .i64 0,.int .i64 ti,.int .i64 mo,.int .i64 0,.int .i64 0] 98)):=by
 have hs3:=hb3.size;have hs4:=hb4.size
 have hno:∀{j:Nat},(BkS.none_ (w3.heap.size+1)).foot (w3.heap.size+1+2) j→w3.heap.size+1≤j:=fun {j} hj=>by
  have e:(w3.alloc (.map #[] 0)).heap.size=w3.heap.size+1:=by simp
  have:=wG0 (w3.alloc (.map #[] 0)) (k:=j) (by rw [e];exact hj);omega
 exact hT1 hb2 hb3 hb4 (bel1 _ _) ht1 ht2 hlt hbn hbk Lnk.start (fun j hj=>by have:=hno hj;omega) ((hR1 w3).same (((bel1 w4 _).block _ (by have:=hbc.size;simp at this;omega)).trans (hbc.block _ (by simp)))) (by omega) (fun e=>by have:=hno e;omega) (by omega) (heap_alloc_new _ _)
end
set_option maxRecDepth 8000 in
set_option maxHeartbeats 4000000 in
theorem lW1 (tb0 off cap:Nat) (rs:List (Int×Int)) (st dy p ti mo:Int) (w:World) (h:bK0 w tb0 off rs) (hwf:hU0 rs) (hne:0<rs.length) (hlen:rs.length≤60) (htab:tabE rs=(0,-1)) (hok:jS0 st dy p=true) (hti:1≤ti∧ti≤1000000) (hmo:0≤mo∧mo≤10):
  Calls Tryz.prog 5 #[.agg #[.slice (some ⟨tb0,off,none⟩) rs.length cap,.int .i64 st,.int .i64 dy,.int .i64 p,.int .i64 ti,.int .i64 mo]] w fun e w'=>lV1 w rs st dy p ti mo e w':=by
 have hmm:=@run_makeMap Tryz.prog;have HR:Hid (bK0 w tb0 off rs):=h;have HW:Hid (hU0 rs):=hwf;have HT:Hid (tabE rs=(0,-1)):=htab;have HO:Hid (jS0 st dy p=true):=hok;clear h hwf htab hok;go_enter Tryz.func5,Tryz.ntmps5;go_upto_region 1 with fail;have hx:=heap_alloc_new w (.cells #[.slice (some ⟨tb0,off,none⟩) rs.length cap,.int .i64 st,.int .i64 dy,.int .i64 p,.int .i64 ti,.int .i64 mo] 24);have hb:=bel1 w (.cells #[.slice (some ⟨tb0,off,none⟩) rs.length cap,.int .i64 st,.int .i64 dy,.int .i64 p,.int .i64 ti,.int .i64 mo] 24);generalize w.alloc (.cells #[.slice (some ⟨tb0,off,none⟩) rs.length cap,.int .i64 st,.int .i64 dy,.int .i64 p,.int .i64 ti,.int .i64 mo] 24)=w1 at hx hb ⊢;have c0:w1.cell? ⟨w.heap.size,0,none⟩=some (.slice (some ⟨tb0,off,none⟩) rs.length cap):=aA0 (j:=0) hx rfl;have HX:Hid _:=hx;have HB:Hid (Below w.heap.size w w1):=hb;clear hx hb;go_wp2_with fail;refine (eK1 tb0 off cap rs w1 (HR.out.below HB.out lR7) HW.out hne hlen).mono ?_;rintro e w2 ⟨t,err,rfl,hN,hb2⟩;rcases hN with ⟨_,rfl,tb,rfl,cb,ct,ht1,ht2⟩ | ⟨h0,_⟩
 ·have hx2:=aC0 HX.out hb2 lR7;have HB2:Hid (Below w.heap.size w w2):=aD0 HB.out hb2;have HT1:Hid (w2.cell? ⟨tb,0,none⟩=some (.slice (some ⟨cb,0,none⟩) rs.length ct)):=ht1;have HT2:Hid (bK0 w2 cb 0 rs):=ht2
  have hcb:cb<w2.heap.size:=by
   have:=(ht2.row hne).1;exact World.block_lt_of_cell? w2 _ this
  have htb:tb<w2.heap.size:=World.block_lt_of_cell? w2 _ ht1;have HLT:Hid (tb<w2.heap.size∧cb<w2.heap.size):=⟨htb,hcb⟩;have c1:w2.cell? ⟨w.heap.size,1,none⟩=some (.int .i64 st):=aA0 (j:=1) hx2 rfl;have c2:w2.cell? ⟨w.heap.size,2,none⟩=some (.int .i64 dy):=aA0 (j:=2) hx2 rfl;have c3:w2.cell? ⟨w.heap.size,3,none⟩=some (.int .i64 p):=aA0 (j:=3) hx2 rfl;have HX2:Hid _:=hx2;clear hb2 hx2 ht1 ht2 c0 hcb htb;go_wp2_with fail;refine (zI0 st dy p w2 HO.out).mono ?_;rintro e w3 ⟨rfl,hb3,hbn⟩;have hx3:=aC0 HX2.out hb3 lR7;have HB3:Hid (Below w2.heap.size w2 w3):=hb3;have HBN:Hid (BnAt w3 w2.heap.size st dy p p):=hbn;have d4:w3.cell? ⟨w.heap.size,4,none⟩=some (.int .i64 ti):=aA0 (j:=4) hx3 rfl;have d5:w3.cell? ⟨w.heap.size,5,none⟩=some (.int .i64 mo):=aA0 (j:=5) hx3 rfl;have HSS:Hid (∀w',Below w3.heap.size w3 w'→w'.cell? ⟨w.heap.size,4,none⟩=some (.int .i64 ti)∧w'.cell? ⟨w.heap.size,5,none⟩=some (.int .i64 mo)∧Below w3.heap.size w3 w'):=fun w' hb=>⟨aA0 (j:=4) (aC0 hx3 hb lR7) rfl,aA0 (j:=5) (aC0 hx3 hb lR7) rfl,hb⟩
  clear hb3 hbn hx3 c1 c2 c3;go_upto_region 9 with fail;clear d4 d5
  go_region_held3 (fun w'=>w'.cell? ⟨w.heap.size,4,none⟩=some (.int .i64 ti)∧w'.cell? ⟨w.heap.size,5,none⟩=some (.int .i64 mo)∧Below w3.heap.size w3 w')
   ((refine HSS.out _ ?_;(repeat' first | assumption | exact HB4.out | exact Below.refl _ _ | refine Below.drew ?_ | refine Below.alloc ?_ ?_ _ | exact lR7 | (simp;done) | (simp;omega) | (have h9:=HB4.out.size;simp at h9 ⊢;omega))))
   ((go_at_call 36;refine (qY1 _).mono ?_;rintro e w4 ⟨rfl,hbk,hb4⟩;have HBK:Hid _:=hbk;have HB4':Hid _:=hb4;have HB4:Hid (Below w3.heap.size w3 w4):=(aD0 (by (repeat' first | assumption | exact Below.refl _ _ | exact lR7 | refine Below.drew ?_ | refine Below.alloc ?_ ?_ _ | (simp;done) | (simp;omega))) hb4);clear hbk hb4))
  all_goals go_wp2_with fail
  all_goals go_ret2
  all_goals first | exact tR1 HB2.out HB3.out HB4.out HT1.out HT2.out HLT.out HBN.out HBK.out | exact tS1 HB2.out HB3.out HB4.out (aD0 (Below.refl _ _).drew HB4'.out) HT1.out HT2.out HLT.out HBN.out (tQ1 (by simp) HBK.out)
 ·exact absurd (by rw [HT.out]) h0
end Go.Proofs.YtjdkagafdnchhaaGreatDoor
namespace Go.Proofs.YtjdkagafdnchhaaGreatDoor
open Go.RowKit Go.Shelf
theorem lL0 {g:Nat} {t:TypeId}:∀(vs:List Value) (o:Nat) (w:World) (cur:Array Value),w.heap[g]? = some (.cells cur t (0,0))→o+vs.length≤cur.size→
  (w.setCells g o vs).heap[g]? = some (.cells (cur.toList.take o++vs++cur.toList.drop (o+vs.length)).toArray t (0,0))
 | [],o,w,cur,h,_=>by
  show w.heap[g]? = _;rw [h];simp
 | v::vs,o,w,cur,h,hs=>by
  show ((w.setCell ⟨g,o,none⟩ v).setCells g (o+1) vs).heap[g]? = _;rw [List.length_cons] at hs;rw [lL0 vs (o+1) _ _ (aK0 v h) (by simp;omega)]
  congr 2
  rw [Array.toList_setIfInBounds]
  congr 1
  rw [List.take_set,List.take_succ_eq_append_getElem (by simpa using (by omega:o<cur.size)),List.set_append_right _ _ (by rw [List.length_take];omega),List.drop_set_of_lt (by omega)];have hL:cur.toList.length=cur.size:=Array.length_toList;have e:o - (cur.toList.take o).length=0:=by rw [List.length_take];omega
  rw [e];simp
  congr 1;omega
theorem lM0 (g:Nat):∀(vs:List Value) (o:Nat) (w:World),Out (fun j=>j=g) w (w.setCells g o vs)
 | [],_,_=>Out.refl _ _
 | v::vs,o,w=>(aQ0 w ⟨g,o,none⟩ v).trans (lM0 g vs (o+1) _) (Went.refl _ _)
theorem Tryz.zeroOrdE (w:World):(zeroValue 41).run Tryz.prog w=.ok (.agg #[.int .i64 0,.int .i64 0,.int .i64 0,.int .i64 0,.int .i64 0]) w:=by kernel_rfl
theorem qF1 (W:World) (g o c:Nat) (cur:Array Value) (t:TypeId) (hg:W.heap[g]? = some (.cells cur t (0,0))) (hfit:o+5≤cur.size):
  ∃W',(∀ty,(Builtin.clear_ #[59] ty #[.slice (some ⟨g,o,none⟩) 1 c]).run Tryz.prog W=.ok (.tuple #[]) W')
   ∧W'.heap[g]? = some (.cells (cur.toList.take o++[Value.int .i64 0,Value.int .i64 0,Value.int .i64 0,Value.int .i64 0,Value.int .i64 0]++cur.toList.drop (o+5)).toArray t (0,0))∧Out (fun j=>j=g) W W':=by
 refine ⟨W.setRow g (cur.toList.take o++[Value.int .i64 0,Value.int .i64 0,Value.int .i64 0,Value.int .i64 0,Value.int .i64 0]++cur.toList.drop (o+5)).toArray,fun ty=>?_,setRow_heap W g _ _ t _ hg,⟨rfl,rfl,rfl,by simp [World.setRow],fun j _ hj=>setRow_other W g j _ hj⟩⟩;have hst:=run_storeCells_at Tryz.prog g o t [Value.int .i64 0,Value.int .i64 0,Value.int .i64 0,Value.int .i64 0,Value.int .i64 0] 0 cur W hg (by simpa using hfit) (by simp [Value.oneCell']);have hz:=Tryz.zeroOrdE W;have hu:=run_underlying (P:=Tryz.prog) Tryz.underlying59 (w:=W);simp only [Nat.add_zero,List.length_cons,List.length_nil,Nat.zero_add,Nat.reduceAdd] at hst;simp [Builtin.clear_,hu,hz,Builtin.zeroCells,Value.cells];rw [show List.map (fun i=>[Value.int .i64 0,Value.int .i64 0,Value.int .i64 0,Value.int .i64 0,Value.int .i64 0][i % 5]?.getD default) (List.range 5)=[Value.int .i64 0,Value.int .i64 0,Value.int .i64 0,Value.int .i64 0,Value.int .i64 0] from rfl,hst];simp
theorem vS0 (i:Nat) (l:List Ord):oV l=oV (l.take i)++oV (l.drop i):=by rw [←cC0,List.take_append_drop]
theorem hU1 {l:List Ord} {i:Nat}:oV (l.eraseIdx i)=oV (l.take i)++oV (l.drop (i+1)):=by rw [List.eraseIdx_eq_take_drop_succ,cC0]
set_option maxRecDepth 100000 in
set_option maxHeartbeats 4000000 in
theorem tT1 (g cap i:Nat) (l:List Ord) (w:World) (hr:w.ownsRow 0 41 5 (.slice (some ⟨g,0,none⟩) l.length cap) l.length (oV l)) (hl:l.length≤1000) (hi:i<l.length):
  Calls Tryz.prog 53 #[.slice (some ⟨g,0,none⟩) l.length cap,.int .i64 i,.int .i64 ((i:Int)+1)] w fun e w'=>e=.returned (.slice (some ⟨g,0,none⟩) (l.length - 1) cap)
   ∧w'.ownsRow 0 41 5 (.slice (some ⟨g,0,none⟩) (l.length - 1) cap) (l.length - 1) (oV (l.eraseIdx i))∧Out (fun j=>j=g) w w':=by
 obtain ⟨i0,hi0,hz0,hzs,hzb⟩:=info_parts Tryz.infoOrdE;rcases hr.2 with ⟨h',_⟩ | ⟨g',cap',cur,h',_,hg,hnc,hcm,hcs,ht⟩
 ·simp at h'
 simp only [Value.slice.injEq,Option.some.injEq,Addr.mk.injEq,and_true,true_and] at h';obtain ⟨rfl,rfl⟩:=h';clear hr;unfold maxLen at hcm;have hA:(oV (l.take i)).length=i*5:=by rw [bR0,List.length_take];omega
 have hBl:(oV (l.drop (i+1))).length=(l.length - (i+1))*5:=by rw [bR0,List.length_drop]
 have hcut:cur.toList.take (l.length*5)=oV l:=ht;have hgd:w.drew.heap[g]? = some (.cells cur 41 (0,0)):=hg
 obtain ⟨A,hAd,hsrc⟩:∃A:Addr,(if cap=i+1 then some (⟨g,0,none⟩:Addr) else some ⟨g,(i+1)*5,none⟩)=some A∧Hid (∀t u,(oV (l.drop (i+1)))[t]? = some u→w.drew.cell? (A.add t)=some u):=by
  by_cases h:cap=i+1
  ·refine ⟨⟨g,0,none⟩,by simp [h],fun t u hu=>?_⟩;have:=(List.getElem?_eq_some_iff.1 hu).1;omega
  ·refine ⟨⟨g,(i+1)*5,none⟩,by simp [h],fun t u hu=>?_⟩;have hlt:=(List.getElem?_eq_some_iff.1 hu).1;rw [Addr.add_lit];refine aA0 hgd ?_
   have e1:(cur.toList.take (l.length*5))[(i+1)*5+t]? = some u:=by
    rw [hcut,vS0 (i+1) l,List.getElem?_append_right (by rw [bR0,List.length_take];omega),bR0,List.length_take];rw [show (i+1)*5+t - min (i+1) l.length*5=t by omega];exact hu
   rw [List.getElem?_take_of_lt (by omega)] at e1;rw [←Array.getElem?_toList];exact e1
 have s3:Hid (∀t,t<(oV (l.drop (i+1))).length→(w.drew.cell? ⟨g,0+i*5+t,none⟩).isSome=true∧w.drew.frozen? ⟨g,0+i*5+t,none⟩=false):=fun t ht'=>by
  refine ⟨?_,aB0 hgd⟩;have hlt:0+i*5+t<cur.size:=by omega
  rw [aA0 hgd (Array.getElem?_eq_getElem hlt)];rfl
 have s1:Hid ((oV (l.drop (i+1))).length=(l.length - (i+1))*5):=hBl;have s2:Hid (∀u∈oV (l.drop (i+1)),u.oneCell'=true):=gV0 _;have hg1:=lL0 (oV (l.drop (i+1))) (0+i*5) w.drew cur hgd (by omega);have ho1:=lM0 g (oV (l.drop (i+1))) (0+i*5) w.drew;obtain ⟨W1,hW1⟩:∃W1,W1=w.drew.setCells g (0+i*5) (oV (l.drop (i+1))):=⟨_,rfl⟩;rw [←hW1] at hg1 ho1;have hW:Hid (W1=w.drew.setCells g (0+i*5) (oV (l.drop (i+1)))):=hW1;obtain ⟨cur1,hcur1⟩:∃cur1:Array Value,cur1=(cur.toList.take (0+i*5)++oV (l.drop (i+1))++cur.toList.drop (0+i*5+(oV (l.drop (i+1))).length)).toArray:=⟨_,rfl⟩;rw [←hcur1] at hg1
 have hcz:cur1.size=cap*5:=by
  rw [hcur1];simp [hBl];omega
 obtain ⟨W2,hr2,hg2,ho2⟩:=qF1 W1 g ((l.length - 1)*5) (cap - (l.length - 1)) cur1 41 hg1 (by omega)
 have HFIN:Hid (W2.ownsRow 0 41 5 (.slice (some ⟨g,0,none⟩) (l.length - 1) cap) (l.length - 1) (oV (l.eraseIdx i))∧Out (fun j=>j=g) w W2):=by
  refine ⟨⟨by rw [bR0,List.length_eraseIdx,if_pos hi],Or.inr ⟨g,cap,_,rfl,Nat.zero_le _,hg2,by omega,by unfold maxLen;omega,?_,?_⟩⟩,?_⟩
  ·simp [hcz];omega
  ·rw [List.append_assoc,List.take_append_of_le_length (by rw [List.length_take,Array.length_toList (xs:=cur1)];omega),List.take_take,Nat.min_self,hcur1,hU1];show (cur.toList.take (0+i*5)++oV (l.drop (i+1))++_).take _=_;rw [Nat.zero_add,List.take_append_of_le_length (by rw [List.length_append,List.length_take,Array.length_toList (xs:=cur),hBl];omega),List.take_of_length_le (by rw [List.length_append,List.length_take,Array.length_toList (xs:=cur),hBl];omega)]
   congr 1
   have:=congrArg (List.take (i*5)) hcut;rw [List.take_take,Nat.min_eq_left (by omega)] at this;rw [this,vS0 i l,List.take_append_of_le_length (by omega),List.take_of_length_le (by omega)]
  ·exact (Out.of_below (Below.refl w.heap.size w).drew lR7).trans (ho1.trans ho2 (Went.refl _ _)) (Went.refl _ _)
 clear hg1 hg2 ho1 ho2 hcut hA hBl hcur1 hcz hg hgd hcs ht hW1;have q0:IntKind.i64.wrap ((i:Int)+1)=(i:Int)+1:=IntWalk.i64_in _ (by omega);have q1:(0:Int)≤(i:Int)+1:=by omega
 have q2:i≤l.length:=by omega
 have q3:((i:Int)+1).toNat=i+1:=by omega
 have q5:(i:Int)+1≤(l.length:Int):=by omega
 have q6:i≤cap:=by omega
 have q7:((i:Int) == (i:Int)+1)=false:=beq_eq_false_iff_ne.2 (by omega);have q8:i+1≤cap:=by omega
 have q9:i+(l.length - (i+1))=l.length - 1:=by omega
 have q10:l.length - (l.length - 1)=1:=by omega
 have q11:¬cap=l.length - 1:=by omega
 go_enter Tryz.func53,Tryz.ntmps53;go_wp2_with fail;go_region_law (refine step_append_room rfl (.tmp 22) (.tmp 25) 59 rfl 41 i0 5 Tryz.underlying59 hi0 hzs g 0 i cap (by simp [Act.eval,Act.put]) A (l.length - (i+1)) (cap - (i+1)) (oV (l.drop (i+1))) (by simp [Act.eval,Act.put]) s1.out hsrc.out s2.out (by omega) s3.out ?_;rw [←hW.out,q9]);go_wp2_with fail;go_ret;exact ⟨rfl,HFIN.out⟩
set_option maxRecDepth 100000 in
set_option maxHeartbeats 4000000 in
theorem qG1 (v:Value) (l:List Ord) (w:World) (hr:w.ownsRow 0 41 5 v l.length (oV l)) (hl:l.length≤1000):
  Calls Tryz.prog 75 #[v] w fun e w'=>∃v',e=.returned v'∧w'.ownsRow w.heap.size 41 5 v' l.length (oV l)∧Below w.heap.size w w':=by
 obtain ⟨i0,hi0,hz0,hzs,hzb⟩:=info_parts Tryz.infoOrdE;have hu:∀(w:World) (a:Option Addr) (n c n' c':Nat),(binOp .eql 59 (.slice a n c) (.slice none n' c')).run Tryz.prog w=.ok (.bool a.isNone) w:=fun w a n c n' c'=>Lib.run_eql_slice_nil w _ _ a n c n' c' Tryz.underlying59
 rcases hr.2 with ⟨rfl,h0⟩ | ⟨g,cap,cur,rfl,_,hg,hnc,hcm,hcs,ht⟩
 ·obtain rfl:l=[]:=List.length_eq_zero_iff.1 h0;clear hr;go_enter Tryz.func75,Tryz.ntmps75;go_wp2;go_ret;exact ⟨_,rfl,World.ownsRow_nil _ _ _ _,Below.refl _ _⟩
 ·have HC:Hid (∀j u,(oV l)[j]? = some u→w.cell? ⟨g,j,none⟩=some u):=fun j u hj=>by
   refine aA0 hg ?_;rw [←ht,List.getElem?_take] at hj;split at hj
   ·rw [←Array.getElem?_toList];exact hj
   ·cases hj
  clear hr hg hcs ht;go_enter Tryz.func75,Tryz.ntmps75;go_wp2_with (at_builtin;refine wpList_append_own _ rfl _ _ 59 rfl w.heap.size 41 i0 (.agg #[.int .i64 0,.int .i64 0,.int .i64 0,.int .i64 0,.int .i64 0]) 5 40 Tryz.underlying59 hi0 hz0 hzs hzb rfl (by decide) _ _ _ rfl (World.ownsRow_made w #[] 0 lR7 (Nat.zero_le _) (by simp)) ⟨g,0,none⟩ l.length cap (oV l) rfl (bR0 l) (fun j u hj=>by rw [Addr.add_lit];exact Lib.cell?_alloc_some _ (by simpa using HC.out j u hj)) (gV0 l) (by unfold maxLen;omega) (by omega) (by simp) ?_;intro v' w1 hown hgrow hnil);go_ret;refine ⟨v',rfl,by simpa using hown,?_⟩;exact ((Below.refl _ w).alloc lR7 _).grown hgrow (by simp) (fun k hk=>by have e:some w.heap.size=some k:=hk;injection e with e;omega)
theorem sQ1 (pb:Nat) (id:Int) (x:Ord) (w:World) (hp:w.heap[pb]? = some (.cells #[.int .i64 id] 3 (0,0))):
  Calls Tryz.prog 52 #[.agg #[.int .i64 x.id,.int .i64 x.side,.int .i64 x.kind,.int .i64 x.price,.int .i64 x.qty],.pointer (some ⟨pb,0,none⟩)] w fun e w'=>e=.returned (.bool (x.id == id))∧Below w.heap.size w w':=by
 have c0:(w.alloc (.cells #[.int .i64 x.id,.int .i64 x.side,.int .i64 x.kind,.int .i64 x.price,.int .i64 x.qty] 41)).cell? ⟨pb,0,none⟩=some (.int .i64 id):=aA0 (j:=0) (aC0 hp (bel1 _ _) lR7) rfl;clear hp;go_enter Tryz.func52,Tryz.ntmps52;go_wp2;go_ret;exact ⟨rfl,bel1 _ _⟩
set_option maxRecDepth 4000 in
set_option maxHeartbeats 2000000 in
theorem qH1 (pb:Nat) (id:Int) (a:Option Addr) (cap:Nat) (l:List Ord) (w:World) (hl:l.length≤1000) (hr:cR0 w a l) (hp:w.heap[pb]? = some (.cells #[.int .i64 id] 3 (0,0))):
  Calls Tryz.prog 51 #[.slice a l.length cap,.func (.func 52) #[] #[.pointer (some ⟨pb,0,none⟩)]] w fun e w'=>e=.returned (.int .i64 (idxO id l))∧Below w.heap.size w w':=by
 have HR:Hid (cR0 w a l):=hr;have HP:Hid (w.heap[pb]? = some (.cells #[.int .i64 id] 3 (0,0))):=hp;clear hr hp;go_enter Tryz.func51,Tryz.ntmps51;go_wp2_with fail;go_loopw [8] (fun v wr=>∃j:Nat,j≤l.length∧v=.int .i64 j∧idxF id j (l.drop j)=idxO id l∧Below w.heap.size w wr) (fun v _=>l.length - (intOf v).toNat)
 case atStart=>exact ⟨0,Nat.zero_le _,rfl,rfl,Below.refl _ _⟩
 case round=>
  obtain ⟨j,hj,rfl,hix,hb⟩:=hrel;have HB:Hid (Below w.heap.size w wr):=hb;have HIX:Hid (idxF id j (l.drop j)=idxO id l):=hix;clear hix
  by_cases hlt:j<l.length
  ·have hlt':(j:Int)<(l.length:Int):=by omega
   obtain ⟨g,off,e1,c0,c1,c2,c3,c4⟩:=(HR.out.below hb) j hlt;subst e1;have HPR:Hid _:=aC0 HP.out hb lR7;clear hb;go_wp2_with fail;refine (sQ1 pb id (oAt l j) _ HPR.out).mono ?_;rintro e w1 ⟨rfl,hb1⟩;have HB1:Hid (Below w.heap.size w w1):=aD0 HB.out hb1;clear hb1 c0 c1 c2 c3 c4
   by_cases hji:(oAt l j).id=id
   ·have HE:Hid (idxO id l=(j:Int)):=by show _=_;rw [←HIX.out];exact rL0 hlt hji
    rw [beq_iff_eq.2 hji];clear hji;go_wp2_with fail;go_ret;exact ⟨by rw [HE.out];rfl,HB1.out⟩
   ·have HE:Hid (idxF id (j+1) (l.drop (j+1))=idxO id l):=by show _=_;rw [←HIX.out];exact nP0 hlt hji
    rw [beq_eq_false_iff_ne.2 hji];clear hji;go_wp2_with fail;go_roundw
    case rel=>exact ⟨j+1,by omega,by go_num,HE.out,HB1.out⟩
    case measure=>first | (simp [intOf];omega) | (show l.length - (j+1)<l.length - j;omega) | omega
  ·have HE:Hid (idxO id l=-1):=by show _=_;rw [←HIX.out];exact rM0 (by omega)
   go_wp2_with fail;go_ret;exact ⟨by rw [HE.out];rfl,HB.out⟩
end Go.Proofs.YtjdkagafdnchhaaGreatDoor
namespace Go.Proofs.YtjdkagafdnchhaaGreatDoor
open Go.RowKit
theorem yJ0 (i:Nat) (l:List Ord):dI0 i l=l.eraseIdx i:=(List.eraseIdx_eq_take_drop_succ l i).symm
theorem lX1 (eb:Nat) (k:EgK) (M:Mkt) (w:World) (h:Eg w eb k M) (hP:M.P.length≤1000):
  Calls Tryz.prog 28 #[.pointer (some ⟨eb,0,none⟩)] w fun e w'=>∃v,e=.returned v∧w'.ownsRow w.heap.size 41 5 v M.P.length (oV M.P)∧Below w.heap.size w w':=by
 have c3:w.cell? ⟨eb,3,none⟩=some k.vp:=aA0 (j:=3) h.box rfl;have HP:Hid _:=h.pk;clear h;go_enter Tryz.func28,Tryz.ntmps28;go_wp2_with fail;refine (qG1 k.vp M.P w HP.out hP).mono ?_;rintro e w1 ⟨v',rfl,h1,h2⟩;have H1:Hid _:=h1;have H2:Hid _:=h2;clear h1 h2;go_wp2_with fail;go_ret;exact ⟨v',rfl,H1.out,H2.out⟩
theorem cQ1 {w:World} {bb m:Nat} {b:BkS} {L:List Ord} (h:Bk w bb m b) (hm:m+1≤900000) (hl:Lnk b.S L) (id:Int) (hw:(Lit.int .i64 id).wf=true):
  Calls Tryz.prog 54 #[.pointer (some ⟨bb,0,none⟩),.int .i64 id] w fun e W'=>∃(x:Ord) (err:Value),e=.returned (.tuple #[.agg #[.int .i64 x.id,.int .i64 x.side,.int .i64 x.kind,.int .i64 x.price,.int .i64 x.qty],err])∧ErrE err (canN id L)∧(err=.nilIface∨err=.iface 32 (.int .i64 7))∧∃b',Lnk b'.S (canL id L)∧Goes w W' bb (m+1) b b':=by
 rcases nD0 b.S id with ⟨s,hs,x,hx,rfl⟩ | hno
 ·obtain ⟨k,hk,hi,ho⟩:=fN1 hl hs hx;have hne:¬idxO x.o.id L=-1:=by omega
  have hkk:(idxO x.o.id L).toNat=k:=by omega
  refine (lT0 bb m s b x w h hm hs hx).mono ?_;rintro e W' ⟨rfl,b',⟨i,hi2,hix,hS⟩,hg⟩;refine ⟨x.o,.nilIface,rfl,ErrE.yes (by unfold canN;rw [if_neg hne]),Or.inl rfl,b',?_,hg⟩;unfold canL;rw [if_neg hne,hkk,hS];exact hl.gone h.ok hs hi2 hix hk (by rw [ho])
 ·have h1:=hl.idx_no hno;refine (tQ0 bb m b id w h hw hno).mono ?_;rintro e W' ⟨rfl,hb⟩;exact ⟨Ord.none_,_,rfl,ErrE.no 7 (by unfold canN;rw [if_pos h1]) (by decide),Or.inr rfl,b,by unfold canL;rw [if_pos h1];exact hl,Goes.stay h hb (Nat.le_succ _) hm⟩
theorem EgGo.boxed5 {w w2:World} {eb lb:Nat} {k k2:EgK} {M2:Mkt} {vs:Array Value} (hg:EgGo w w2 eb k k2 M2) (hz:w2.heap[lb]? = some (.cells vs 41 (0,0))) (hlb:w.heap.size≤lb) (ht:k2.tb≠lb∧k2.cb≠lb) (hv:k2.vp.ownBlock≠some lb) (x:Ord):
  EgGo w (((((w2.setCell ⟨lb,0,none⟩ (.int .i64 x.id)).setCell ⟨lb,1,none⟩ (.int .i64 x.side)).setCell ⟨lb,2,none⟩ (.int .i64 x.kind)).setCell ⟨lb,3,none⟩ (.int .i64 x.price)).setCell ⟨lb,4,none⟩ (.int .i64 x.qty)) eb k k2 M2:=hg.boxed hz hlb ht hv x
def sR1 (w:World) (eb:Nat) (k:EgK) (M:Mkt) (id:Int) (u7:Value) (wc:World):Prop:=∃b':BkS,ErrE u7 (canN id M.L)∧EgGo w wc eb k { k with m:=k.m+1,b:=b' } { M with L:=canL id M.L }
theorem nN1 {w wc:World} {eb:Nat} {k:EgK} {M:Mkt} {id:Int} {u7:Value} {b':BkS} (h1:ErrE u7 (canN id M.L)) (h2:EgGo w wc eb k { k with m:=k.m+1,b:=b' } { M with L:=canL id M.L }):sR1 w eb k M id u7 wc:=⟨b',h1,h2⟩
set_option maxRecDepth 8000 in
set_option maxHeartbeats 4000000 in
theorem lY1 (eb:Nat) (k:EgK) (M:Mkt) (id:Int) (w:World) (h:Eg w eb k M) (hP:M.P.length≤1000) (hw:(Lit.int .i64 id).wf=true) (hm:k.m≤700000):
  Calls Tryz.prog 13 #[.pointer (some ⟨eb,0,none⟩),.int .i64 id] w fun e w'=>∃err k',e=.returned err∧ErrE err (kF0 M id)∧EgGo w w' eb k k' (canM M id)∧k'.m≤k.m+302:=by
 have H:Hid (Eg w eb k M):=h;have HW:Hid ((Lit.int .i64 id).wf=true):=hw;have hb1:=bel1 w (.cells #[.int .i64 id] 3);have hx1:=heap_alloc_new w (.cells #[.int .i64 id] 3);clear h hw
 by_cases h7:M.ph=7
 ·have HC:Hid (kF0 M id=6∧canM M id=M):=⟨by unfold kF0;rw [if_pos h7],by unfold canM;rw [if_pos h7]⟩;have b7:(M.ph == 7)=true:=beq_iff_eq.2 h7;clear h7;go_enter Tryz.func13,Tryz.ntmps13;go_upto_region 1 with fail;generalize w.alloc (.cells #[.int .i64 id] 3)=w1 at hb1 hx1 ⊢;have c5:w1.cell? ⟨eb,5,none⟩=some (.int .i64 M.ph):=aA0 (j:=5) (H.out.below hb1).box rfl;have HB1:Hid (Below w.heap.size w w1):=hb1;clear hb1 hx1;go_wp2_with fail;go_ret;exact ⟨_,k,rfl,ErrE.no 6 HC.out.1 (by decide),by rw [HC.out.2];exact EgGo.stay H.out HB1.out,Nat.le_add_right _ _⟩
 ·have b7:(M.ph == 7)=false:=beq_eq_false_iff_ne.2 h7;go_enter Tryz.func13,Tryz.ntmps13;go_upto_region 1 with fail;generalize w.alloc (.cells #[.int .i64 id] 3)=w1 at hb1 hx1 ⊢;have h1:=H.out.below hb1;obtain ⟨pa,pc,hvp,hin⟩:=cR0.of_row h1.pk;have c5:w1.cell? ⟨eb,5,none⟩=some (.int .i64 M.ph):=aA0 (j:=5) h1.box rfl;have c3:w1.cell? ⟨eb,3,none⟩=some (.slice pa M.P.length pc):=(aA0 (j:=3) (v:=k.vp) h1.box rfl).trans (by rw [hvp]);have HVP:Hid (k.vp=.slice pa M.P.length pc):=hvp;have HB1:Hid (Below w.heap.size w w1):=hb1;have HX1:Hid (w1.heap[w.heap.size]? = some (.cells #[.int .i64 id] 3 (0,0))):=hx1;have HIN:Hid (cR0 w1 pa M.P):=hin;clear hb1 hx1 h1 hvp hin;go_wp2_with fail;refine (qH1 w.heap.size id pa pc M.P w1 hP HIN.out HX1.out).mono ?_;rintro e w2 ⟨rfl,hb2⟩;have HB2:Hid (Below w.heap.size w w2):=aD0 HB1.out hb2;have H2:Hid (Eg w2 eb k M):=H.out.below HB2.out;have HX2:Hid (w2.heap[w.heap.size]? = some (.cells #[.int .i64 id] 3 (0,0))):=aC0 HX1.out hb2 lR7;clear hb2 c5 c3 HIN HX1 HB1
  by_cases hix:0≤idxO id M.P
  ·have HC:Hid (kF0 M id=0∧canM M id={ M with P:=dI0 (idxO id M.P).toNat M.P }):=⟨by unfold kF0;rw [if_neg h7,if_pos hix],by unfold canM;rw [if_neg h7,if_pos hix]⟩
   obtain ⟨i,hi,hie⟩:∃i:Nat,i<M.P.length∧idxO id M.P=(i:Int):=by
    rcases kB0 id M.P 0 with e | ⟨i,hi,e,_⟩
    ·have e':idxO id M.P=-1:=e;omega
    ·refine ⟨i,hi,?_⟩;have e':idxO id M.P=((0+i:Nat):Int):=e;rw [e'];congr 1;omega
   rw [hie] at HC ⊢;clear h7 hix hie;have hrow:w2.ownsRow 0 41 5 (.slice pa M.P.length pc) M.P.length (oV M.P):=by have:=H2.out.pk;rw [HVP.out] at this;exact this
   obtain ⟨g,cap,hv,_,_⟩:=hrow.form (by omega);simp only [Value.slice.injEq,true_and] at hv;obtain ⟨rfl,rfl⟩:=hv;have c3:w2.cell? ⟨eb,3,none⟩=some (.slice (some ⟨g,0,none⟩) M.P.length pc):=(aA0 (j:=3) (v:=k.vp) H2.out.box rfl).trans (by rw [HVP.out]);have wr:IntKind.i64.wrap ((i:Int)+1)=(i:Int)+1:=IntWalk.i64_in _ (by omega);have HROW:Hid _:=hrow;clear hrow;go_wp2_with fail;refine (tT1 g pc i M.P w2 HROW.out hP hi).mono ?_;rintro e w3 ⟨rfl,hr3,ho3⟩;have ho3':Out (fun j=>k.vp.ownBlock=some j) w2 w3:=⟨ho3.os,ho3.tape,ho3.output,ho3.size,fun j hj hn=>ho3.block j hj (fun e=>hn (by rw [HVP.out];exact congrArg some e.symm))⟩;have hl3:(M.P.eraseIdx i).length=M.P.length - 1:=by rw [List.length_eraseIdx,if_pos hi]
   have hfin:=H2.out.ofParked (P':=M.P.eraseIdx i) ho3' (by rw [hl3];exact hr3) (fun j hj=>Or.inl (by rw [HVP.out];exact hj));have d3:w3.cell? ⟨eb,3,none⟩=some k.vp:=aA0 (j:=3) (aE0 H2.out.box ho3' H2.out.ebpk) rfl;have f3:=aB0 (j:=3) (aE0 H2.out.box ho3' H2.out.ebpk);have HFIN:Hid (EgGo w (w3.setCell ⟨eb,3,none⟩ (.slice (some ⟨g,0,none⟩) (M.P.length - 1) pc)) eb k { k with vp:=.slice (some ⟨g,0,none⟩) (M.P.length - 1) pc } { M with P:=M.P.eraseIdx i }):=(EgGo.stay H.out HB2.out).trans hfin;clear hr3 ho3 ho3' hl3 hfin;go_wp2_with fail;go_ret;exact ⟨_,{ k with vp:=.slice (some ⟨g,0,none⟩) (M.P.length - 1) pc },rfl,ErrE.yes HC.out.1,by rw [HC.out.2,show ((i:Int)).toNat=i from rfl,yJ0];exact HFIN.out,Nat.le_add_right _ _⟩
  ·have HC:Hid (kF0 M id=canN id M.L∧canM M id={ M with L:=canL id M.L }):=⟨by unfold kF0;rw [if_neg h7,if_neg hix],by unfold canM;rw [if_neg h7,if_neg hix]⟩;have e1:¬(idxO id M.P≥0):=hix;clear h7;go_upto_region 7 with fail;have hfx:¬k.b.foot k.bb w.heap.size:=fun e=>by have:=H.out.bk.lt e;omega
   have HS7:Hid (∀w',Out (k.b.foot k.bb) w2 w'→w'.cell? ⟨eb,2,none⟩=some (.pointer (some ⟨k.bb,0,none⟩))∧w'.cell? ⟨w.heap.size,0,none⟩=some (.int .i64 id)∧Out (k.b.foot k.bb) w2 w'):=fun w' ho=>⟨aA0 (j:=2) (aE0 H2.out.box ho H2.out.ebbk) rfl,aA0 (j:=0) (aE0 HX2.out ho hfx) rfl,ho⟩
   have hnf:¬k.b.foot k.bb w2.heap.size:=fun e=>by have:=H2.out.bk.lt e;omega
   have HNF:Hid (¬k.b.foot k.bb w2.heap.size):=hnf;have HLB:Hid (k.tb≠w2.heap.size∧k.cb≠w2.heap.size):=⟨by have:=H2.out.tlt';omega,by have:=H2.out.tlt;omega⟩;have HVN:Hid (k.vp.ownBlock≠some w2.heap.size):=fun e=>by have:=(H2.out.pk.lt _ e).2;omega
   have hm1:k.m+1≤900000:=by omega
   clear hfx hnf;go_cut [6,7] from 33 to 41 (fun _ u7 wc=>sR1 w eb k M id u7 wc)
   case first=>
    go_region_held3 (fun w'=>w'.cell? ⟨eb,2,none⟩=some (.pointer (some ⟨k.bb,0,none⟩))∧w'.cell? ⟨w.heap.size,0,none⟩=some (.int .i64 id)∧Out (k.b.foot k.bb) w2 w')
     ((refine HS7.out _ ?_;(repeat' first | assumption | exact HO3.out | exact Out.refl _ _ | refine aU0 ?_ | refine cP0 ?_ _ | refine hH0 ?_ ?_ | (simp;done) | (simp;omega))))
     ((go_at_call 54;refine (cQ1 (H2.out.bk.below ?_ lR7) hm1 H2.out.lnk id HW.out).mono ?_;((repeat' first | assumption | exact Below.refl _ _ | exact lR7 | refine Below.drew ?_ | refine Below.alloc ?_ ?_ _ | (simp;done) | (simp;omega)));rintro e w3 ⟨x,err,rfl,he,her,b3,hl3,hg3⟩;have HG3:Hid (Goes w2 w3 k.bb (k.m+1) k.b b3):=lJ0 H2.out.bk (by (repeat' first | assumption | exact Below.refl _ _ | exact lR7 | refine Below.drew ?_ | refine Below.alloc ?_ ?_ _ | (simp;done) | (simp;omega))) hg3;have HO3:Hid (Out (k.b.foot k.bb) w2 w3):=HG3.out.2.1;have HL3:Hid _:=hl3;have HER:Hid _:=he;(try (have hz2:w3.heap[w2.heap.size]? = some (.cells #[.int .i64 0,.int .i64 0,.int .i64 0,.int .i64 0,.int .i64 0] 41 (0,0)):=(hg3.2.1.block _ (by simp) HNF.out).trans (heap_alloc_new _ _);have z0:=aA0 (j:=0) hz2 rfl;have z1:=aA0 (j:=1) hz2 rfl;have z2:=aA0 (j:=2) hz2 rfl;have z3:=aA0 (j:=3) hz2 rfl;have z4:=aA0 (j:=4) hz2 rfl;have y0:=aB0 (j:=0) hz2;have y1:=aB0 (j:=1) hz2;have y2:=aB0 (j:=2) hz2;have y3:=aB0 (j:=3) hz2;have y4:=aB0 (j:=4) hz2;have HZ2:Hid (ZBox w3 w2.heap.size):=hz2;clear hz2));clear hl3 hg3 he))
    all_goals have HGG:Hid (EgGo w w3 eb k { k with m:=k.m+1,b:=b3 } { M with L:=canL id M.L }):=(EgGo.stay H.out HB2.out).trans (H2.out.ofBook HG3.out HL3.out (Nat.le_succ _))
    all_goals go_wp2_with fail
    all_goals go_meet
    all_goals first | exact nN1 (b':=b3) HER.out (EgGo.boxed5 HGG.out HZ2.out HB2.out.size HLB.out HVN.out x) | exact nN1 (b':=b3) HER.out (HGG.out.bel (bel1 _ _))
   case rest=>
    obtain ⟨b3,he,hg⟩:=hcut;have HE:Hid (ErrE u7 (canN id M.L)):=he;have HG:Hid (EgGo w wc eb k { k with m:=k.m+1,b:=b3 } { M with L:=canL id M.L }):=hg;clear he hg;go_wp2_with fail;go_ret;exact ⟨u7,{ k with m:=k.m+1,b:=b3 },rfl,by rw [HC.out.1];exact HE.out,by rw [HC.out.2];exact HG.out,by show k.m+1≤k.m+302;omega⟩
end Go.Proofs.YtjdkagafdnchhaaGreatDoor
