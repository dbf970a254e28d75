/- DeskPieces: a part of the proof, packed (the readable form: the templates). -/
import Derived.Test.YtaelphbianmckaaGreatDoorQA
import Derived.Test.YtaelphbianmckaaGreatDoorQN
import Derived.Test.YtaelphbianmckaaGreatDoorQI
import Derived.Test.YtaelphbianmckaaGreatDoorQM
import Derived.Test.YtaelphbianmckaaGreatDoorQL
import Derived.Deep.CutRange
import Derived.Test.YtaelphbianmckaaGreatDoorQJ
import Derived.Deep.RegionHeld3
namespace Go.Proofs.YtaelphbianmckaaGreatDoor
open Go.RowKit
theorem mX1 {a b:Int} (ha:-1099511627776≤a∧a≤1099511627776) (hb:-1099511627776≤b∧b≤1099511627776):-9000000000000000000≤apB a b∧apB a b≤9000000000000000000:=by
 unfold apB;omega
theorem pE1 {w:World} {base:Nat} {t:TypeId} {v:Value} {l:List Pt} (h:w.ownsRow base t 3 v l.length (ptV l)) {k:Nat} (hk:k<l.length):
  ∃g cap,v=.slice (some ⟨g,0,none⟩) l.length cap∧base≤g∧w.cell? ⟨g,k*3,none⟩=some (.int .i64 (ptAt l k).price)∧w.cell? ⟨g,k*3+1,none⟩=some (.int .i64 (ptAt l k).dem)∧w.cell? ⟨g,k*3+2,none⟩=some (.int .i64 (ptAt l k).sup):=by
 obtain ⟨g,cap,rfl,hg,_⟩:=h.form (by omega);obtain ⟨h1,h2,h3⟩:=mJ1 hk;exact ⟨g,cap,rfl,hg,(h.cellAt _ (by omega)).trans h1,(h.cellAt _ (by omega)).trans h2,(h.cellAt _ (by omega)).trans h3⟩
set_option maxRecDepth 4000 in
set_option maxHeartbeats 4000000 in
theorem kY1 (a:Option Addr) (cap:Nat) (l:List Pt) (around:Int) (w:World) (h:hU0 w a l) (hl:l.length≤1000) (hs:∀x∈l,x.Small) (ha:-1099511627776≤around∧around≤1099511627776):
  Calls Tryz.prog 129 #[.slice a l.length cap,.int .i64 around] w fun e w'=>e=.returned (.agg #[.int .i64 (aJ0 l around).price,.int .i64 (aJ0 l around).qty,.int .i64 (aJ0 l around).sur])∧Below w.heap.size w w':=by
 have HA:Hid (hU0 w a l):=h;have HS:Hid (∀x∈l,x.Small):=hs;have HR:Hid (-1099511627776≤around∧around≤1099511627776):=ha;have HC:Hid (aJ0 l around=wU0 l around):=(bE1 l around).symm;clear h hs ha;go_enter Tryz.func129,Tryz.ntmps129;go_wp2_with fail
 have hq0:mM0 ((w.alloc (.cells #[.int .i64 around] 3)).alloc (.cells #[.int .i64 0,.int .i64 0,.int .i64 0] 107)) (w.heap.size+1):=by
  have:=heap_alloc_new (w.alloc (.cells #[.int .i64 around] 3)) (.cells #[.int .i64 0,.int .i64 0,.int .i64 0] 107);unfold mM0
  simpa using this
 have ha0:((w.alloc (.cells #[.int .i64 around] 3)).alloc (.cells #[.int .i64 0,.int .i64 0,.int .i64 0] 107)).cell? ⟨w.heap.size,0,none⟩=some (.int .i64 around):=bN0 (bL0 _ _) (aV0 (j:=0) (heap_alloc_new w _) rfl);have hb0:Below w.heap.size w ((w.alloc (.cells #[.int .i64 around] 3)).alloc (.cells #[.int .i64 0,.int .i64 0,.int .i64 0] 107)):=aO0 (bL0 w _) (bL0 _ _);generalize (w.alloc (.cells #[.int .i64 around] 3)).alloc (.cells #[.int .i64 0,.int .i64 0,.int .i64 0] 107)=W0 at hq0 ha0 hb0 ⊢;refine (gA1 a _ l _ _ trB W0 (HA.out.below hb0) hl (kX1 l W0)).mono ?_;rintro e w1 ⟨v1,rfl,hown,hb1⟩;have HQ1:Hid (mM0 w1 (w.heap.size+1)):=hq0.below hb1;have HA1:Hid (w1.cell? ⟨w.heap.size,0,none⟩=some (.int .i64 around)):=bN0 hb1 ha0;have HB1:Hid (Below w.heap.size w w1):=aO0 hb0 hb1;have HC1:Hid (aJ0 l around=if oV0 (dT0 trB l)=true then ⟨0,0,0⟩ else quoP (ptAt (fD0 around (bI0 lfP (dT0 trB l))) 0)):=HC.out;have HS1:Hid (∀x∈dT0 trB l,x.Small):=fun x hx=>HS.out x (oX0 hx)
 have hl1:(dT0 trB l).length≤1000:=Nat.le_trans (oW0 trB l) hl;have HW1:Hid (w1.ownsRow w.heap.size 252 3 v1 (dT0 trB l).length (ptV (dT0 trB l))):=cB0 hown hb0.size;obtain ⟨ao,c1,rfl,_,_⟩:=fN0 hown;clear hq0 ha0 hb0 hown hb1 HS HC HA hl;generalize dT0 trB l=l1 at HC1 HS1 hl1 HW1 ⊢
 by_cases h0:0<l1.length
 ·have hlen:((l1.length:Int) == 0)=false:=beq_eq_false_iff_ne.2 (by omega);have hlt:(0:Int)<(l1.length:Int):=by omega
  obtain ⟨g,cap1,hv,d0,d1,d2⟩:=mK1 HW1.out h0;simp only [Value.slice.injEq,true_and] at hv;obtain ⟨rfl,rfl⟩:=hv
  have HNO:Hid (oV0 l1=decide (trB (ptAt l1 0)<1)):=by
   show oV0 l1=_;unfold oV0;rw [hlen];rfl
  rw [Nat.zero_mul] at d0;rw [Nat.zero_mul,Nat.zero_add] at d1 d2;generalize ptAt l1 0=x0 at d0 d1 d2 HNO;go_wp2_with fail;refine (rX0 x0 _).mono ?_;rintro e w2 ⟨rfl,hb2⟩;have HQ2:Hid (mM0 w2 (w.heap.size+1)):=HQ1.out.below hb2;have HA2:Hid (w2.cell? ⟨w.heap.size,0,none⟩=some (.int .i64 around)):=bN0 hb2 HA1.out;have HB2:Hid (Below w.heap.size w w2):=aO0 HB1.out hb2;have HW2:Hid (w2.ownsRow w.heap.size 252 3 (.slice (some ⟨g,0,none⟩) l1.length c1) l1.length (ptV l1)):=iS0 HW1.out hb2 lR7;clear hb2 HQ1 HA1 HB1 HW1 d0 d1 d2
  by_cases ht:trB x0<1
  ·have HC2:Hid (aJ0 l around=⟨0,0,0⟩):=by rw [HC1.out,HNO.out,decide_eq_true ht];rfl
   have q0:=aV0 (j:=0) HQ2.out rfl;have q1:=aV0 (j:=1) HQ2.out rfl;have q2:=aV0 (j:=2) HQ2.out rfl;have f0:=eL0 (j:=0) HQ2.out;have f1:=eL0 (j:=1) HQ2.out;have f2:=eL0 (j:=2) HQ2.out;have hF:=gJ0 (j:=2) (.int .i64 0) (gJ0 (j:=1) (.int .i64 0) (gJ0 (j:=0) (.int .i64 0) HQ2.out));have HB9:Hid (Below w.heap.size w (((w2.setCell ⟨w.heap.size+1,0,none⟩ (.int .i64 0)).setCell ⟨w.heap.size+1,1,none⟩ (.int .i64 0)).setCell ⟨w.heap.size+1,2,none⟩ (.int .i64 0))):=((HB2.out.setCell (Nat.le_succ _) _).setCell (Nat.le_succ _) _).setCell (Nat.le_succ _) _;go_wp2_with fail;generalize ((w2.setCell ⟨w.heap.size+1,0,none⟩ (.int .i64 0)).setCell ⟨w.heap.size+1,1,none⟩ (.int .i64 0)).setCell ⟨w.heap.size+1,2,none⟩ (.int .i64 0)=V at hF HB9 ⊢;have z0:=aV0 (j:=0) hF rfl;have z1:=aV0 (j:=1) hF rfl;have z2:=aV0 (j:=2) hF rfl;refine bodyPost_ret (by simp [results,Tryz.results129,go_sem,z0,z1,z2];try rfl) rfl ?_;exact ⟨by rw [HC2.out],HB9.out⟩
  ·have HC2:Hid (aJ0 l around=quoP (ptAt (fD0 around (bI0 lfP l1)) 0)):=by rw [HC1.out,HNO.out,decide_eq_false ht];rfl
   clear HC1 HNO;have HLF:Hid (∀x∈l1,-9000000000000000000≤lfP x∧lfP x≤9000000000000000000):=fun x hx=>mX1 (HS1.out x hx).d (HS1.out x hx).s
   have HP2:Hid (0<(bI0 lfP l1).length):=fE0 _ h0;have HS2:Hid (∀x∈bI0 lfP l1,x.Small):=fun x hx=>HS1.out x (hD0 hx)
   have hl2:(bI0 lfP l1).length≤1000:=Nat.le_trans (qQ0 lfP l1) hl1;obtain ⟨aw,cw,hvw,hpts⟩:=hU0.of_row HW2.out;simp only [Value.slice.injEq,true_and] at hvw;obtain ⟨rfl,rfl⟩:=hvw;have HL2:Hid (∀ca,Calls Tryz.prog 181 #[.slice (some ⟨g,0,none⟩) l1.length ca,.func (.func 182) #[] #[]] w2 fun e w'=>∃v',e=.returned v'∧w'.ownsRow w2.heap.size 252 3 v' (bI0 lfP l1).length (ptV (bI0 lfP l1))∧Below w2.heap.size w2 w'):=fun ca=>rW0 _ ca l1 _ _ lfP w2 hpts hl1 (rT1 HS1.out w2) HLF.out
   clear hpts HLF HS1;go_wp2_with fail;refine (HL2.out _).mono ?_;rintro e w3 ⟨v2,rfl,hown2,hb3⟩;have HQ3:Hid (mM0 w3 (w.heap.size+1)):=HQ2.out.below hb3;have HA3:Hid (w3.cell? ⟨w.heap.size,0,none⟩=some (.int .i64 around)):=bN0 hb3 HA2.out;have HB3:Hid (Below w.heap.size w w3):=aO0 HB2.out hb3;obtain ⟨a2,c2,rfl,hpts⟩:=hU0.of_row hown2;have HI:Hid (hU0 w3 a2 (bI0 lfP l1)):=hpts;clear hown2 hb3 hpts HQ2 HA2 HB2 HW2 HL2 hl1 h0 hlen hlt ht;generalize bI0 lfP l1=l2 at HP2 HS2 hl2 HI HC2 ⊢;have HLA:Hid (fD0 around l2=if allP upB l2=true then dT0 Pt.price l2 else if allP iM0 l2=true then bI0 Pt.price l2 else bI0 Pt.price (bI0 (fQ0 around) l2)):=rfl;have HPR:Hid (∀x∈l2,-9000000000000000000≤Pt.price x∧Pt.price x≤9000000000000000000):=fun x hx=>by have:=(HS2.out x hx).p;omega
   have HNR:Hid (∀x∈l2,-9000000000000000000≤fQ0 around x∧fQ0 around x≤9000000000000000000):=fun x hx=>mX1 (HS2.out x hx).p HR.out
   go_upto_block 0 with fail;go_cut [0] from 21 to 38 (fun v wc=>wc.ownsRow w3.heap.size 252 3 v (fD0 around l2).length (ptV (fD0 around l2))∧Below w3.heap.size w3 wc)
   case first=>
    go_wp2_with fail;refine (rS1 a2 _ l2 _ _ upB w3 HI.out hl2 (fnUp HS2.out w3)).mono ?_;rintro e w4 ⟨rfl,hb4⟩;have HB4:Hid (Below w3.heap.size w3 w4):=hb4;clear hb4;cases hup:allP upB l2 with
    | true=>
     have HL:Hid (fD0 around l2=dT0 Pt.price l2):=by rw [HLA.out,hup];rfl
     go_wp2_with fail;refine (gA1 a2 _ l2 _ _ Pt.price w4 (HI.out.below HB4.out) hl2 (wX0 l2 w4)).mono ?_;rintro e w5 ⟨v5,rfl,hown5,hb5⟩;have HO5:Hid (w5.ownsRow w3.heap.size 252 3 v5 (fD0 around l2).length (ptV (fD0 around l2))):=by rw [HL.out];exact cB0 hown5 HB4.out.size
     have HB5:Hid (Below w3.heap.size w3 w5):=aO0 HB4.out hb5;clear hown5 hb5;go_wp2_with fail;go_meet;exact ⟨HO5.out,HB5.out⟩
    | false=>
     go_wp2_with fail;refine (rS1 a2 _ l2 _ _ iM0 w4 (HI.out.below HB4.out) hl2 (rU1 HS2.out w4)).mono ?_;rintro e w5 ⟨rfl,hb5⟩;have HB5:Hid (Below w3.heap.size w3 w5):=aO0 HB4.out hb5;clear hb5;cases hdn:allP iM0 l2 with
     | true=>
      have HL:Hid (fD0 around l2=bI0 Pt.price l2):=by rw [HLA.out,hup,hdn];rfl
      go_wp2_with fail;refine (rW0 a2 _ l2 _ _ Pt.price w5 (HI.out.below HB5.out) hl2 (wX0 l2 w5) HPR.out).mono ?_;rintro e w6 ⟨v6,rfl,hown6,hb6⟩;have HO6:Hid (w6.ownsRow w3.heap.size 252 3 v6 (fD0 around l2).length (ptV (fD0 around l2))):=by rw [HL.out];exact cB0 hown6 HB5.out.size
      have HB6:Hid (Below w3.heap.size w3 w6):=aO0 HB5.out hb6;clear hown6 hb6;go_wp2_with fail;go_meet;exact ⟨HO6.out,HB6.out⟩
     | false=>
      have HL:Hid (fD0 around l2=bI0 Pt.price (bI0 (fQ0 around) l2)):=by rw [HLA.out,hup,hdn];rfl
      go_wp2_with fail;refine (rW0 a2 _ l2 _ _ (fQ0 around) w5 (HI.out.below HB5.out) hl2 (rV1 HS2.out HR.out (bN0 HB5.out HA3.out)) HNR.out).mono ?_;rintro e w6 ⟨v6,rfl,hown6,hb6⟩;have HB6:Hid (Below w3.heap.size w3 w6):=aO0 HB5.out hb6;obtain ⟨a6,c6,rfl,hpts⟩:=hU0.of_row hown6;have HI6:Hid (hU0 w6 a6 (bI0 (fQ0 around) l2)):=hpts;have hl6:(bI0 (fQ0 around) l2).length≤1000:=Nat.le_trans (qQ0 (fQ0 around) l2) hl2;have HPR6:Hid (∀x∈bI0 (fQ0 around) l2,-9000000000000000000≤Pt.price x∧Pt.price x≤9000000000000000000):=fun x hx=>HPR.out x (hD0 hx)
      clear hown6 hb6 hpts;generalize bI0 (fQ0 around) l2=l6 at HI6 hl6 HPR6 HL ⊢;go_wp2_with fail;refine (rW0 a6 _ l6 _ _ Pt.price w6 HI6.out hl6 (wX0 l6 w6) HPR6.out).mono ?_;rintro e w7 ⟨v7,rfl,hown7,hb7⟩;have HO7:Hid (w7.ownsRow w3.heap.size 252 3 v7 (fD0 around l2).length (ptV (fD0 around l2))):=by rw [HL.out];exact cB0 hown7 HB6.out.size
      have HB7:Hid (Below w3.heap.size w3 w7):=aO0 HB6.out hb7;clear hown7 hb7;go_wp2_with fail;go_meet;exact ⟨HO7.out,HB7.out⟩
   case rest=>
    obtain ⟨ho,hbc⟩:=hcut;have hpos:=uQ0 around HP2.out;have hsm:=HS2.out _ (rQ1 (around:=around) HP2.out);obtain ⟨g3,cap3,rfl,hg3,d0,d1,d2⟩:=pE1 ho hpos;have hlt:(0:Int)<((fD0 around l2).length:Int):=by omega
    have HQd:Hid (mM0 wc.drew (w.heap.size+1)):=(HQ3.out.below hbc:mM0 wc (w.heap.size+1));have hng:¬w.heap.size+1=g3:=fun e=>by have:=lt_of_block HQ3.out;omega
    have hng':¬g3=w.heap.size+1:=fun e=>hng e.symm
    have HBd:Hid (Below w.heap.size w wc.drew):=(aO0 HB3.out hbc).drew;rw [Nat.zero_mul] at d0;rw [Nat.zero_mul,Nat.zero_add] at d1 d2;generalize (fD0 around l2).length=n3 at hlt hpos ⊢;generalize ptAt (fD0 around l2) 0=x at d0 d1 d2 HC2 hsm;have HX:Hid x.Small:=hsm;have HC3:Hid ((aJ0 l around).price=x.price∧(aJ0 l around).qty=trB x∧(aJ0 l around).sur=surB x):=by rw [HC2.out];exact ⟨rfl,rfl,rfl⟩
    clear ho hbc hsm HLA HPR HNR HI HS2 HP2 HQ3 HA3 HB3 HC2;go_wp2_with fail
    go_region_held3 (fun w'=>w'.cell? ⟨g3,0,none⟩=some (.int .i64 x.price)∧w'.cell? ⟨g3,1,none⟩=some (.int .i64 x.dem)∧w'.cell? ⟨g3,2,none⟩=some (.int .i64 x.sup))
     (first | go_keep | (go_split_ands;refine ⟨?_,?_,?_⟩ <;> (refine bN0 hbk ?_;assumption)))
     (first | (go_at_call 180;refine (rX0 x _).mono ?_;rintro e w5 ⟨rfl,hbk⟩;have HQ5:Hid (mM0 w5 (w.heap.size+1)):=HQd.out.below hbk;have HB5:Hid (Below w.heap.size w w5):=aO0 HBd.out hbk) | (go_at_call 187;refine (oZ0 x HX.out _).mono ?_;rintro e w6 ⟨rfl,hbk⟩;have hq6:=HQ5.out.below hbk;have q0:=aV0 (j:=0) hq6 rfl;have q1:=aV0 (j:=1) hq6 rfl;have q2:=aV0 (j:=2) hq6 rfl;have f0:=eL0 (j:=0) hq6;have f1:=eL0 (j:=1) hq6;have f2:=eL0 (j:=2) hq6;have HB6:Hid (Below w.heap.size w w6):=aO0 HB5.out hbk;have HQ6:Hid (mM0 w6 (w.heap.size+1)):=hq6;clear hq6))
    have hF:=gJ0 (j:=2) (.int .i64 (surB x)) (gJ0 (j:=1) (.int .i64 (trB x)) (gJ0 (j:=0) (.int .i64 x.price) HQ6.out));have HB9:Hid (Below w.heap.size w (((w6.setCell ⟨w.heap.size+1,0,none⟩ (.int .i64 x.price)).setCell ⟨w.heap.size+1,1,none⟩ (.int .i64 (trB x))).setCell ⟨w.heap.size+1,2,none⟩ (.int .i64 (surB x)))):=((HB6.out.setCell (Nat.le_succ _) _).setCell (Nat.le_succ _) _).setCell (Nat.le_succ _) _;rename_i hHeld9;clear hHeld9 q0 q1 q2 f0 f1 f2 d0 d1 d2;generalize ((w6.setCell ⟨w.heap.size+1,0,none⟩ (.int .i64 x.price)).setCell ⟨w.heap.size+1,1,none⟩ (.int .i64 (trB x))).setCell ⟨w.heap.size+1,2,none⟩ (.int .i64 (surB x))=V at hF HB9 ⊢;have z0:=aV0 (j:=0) hF rfl;have z1:=aV0 (j:=1) hF rfl;have z2:=aV0 (j:=2) hF rfl;clear hF;go_wp2_with fail;refine bodyPost_ret (by simp [results,Tryz.results129,go_sem,z0,z1,z2];try rfl) rfl ?_;exact ⟨by rw [HC3.out.1,HC3.out.2.1,HC3.out.2.2],HB9.out⟩
 ·have hlen:((l1.length:Int) == 0)=true:=beq_iff_eq.2 (by omega)
  have HC2:Hid (aJ0 l around=⟨0,0,0⟩):=by
   show aJ0 l around=_;rw [HC1.out];exact if_pos (by unfold oV0;rw [hlen];rfl)
  have q0:=aV0 (j:=0) HQ1.out rfl;have q1:=aV0 (j:=1) HQ1.out rfl;have q2:=aV0 (j:=2) HQ1.out rfl;have f0:=eL0 (j:=0) HQ1.out;have f1:=eL0 (j:=1) HQ1.out;have f2:=eL0 (j:=2) HQ1.out;have hF:=gJ0 (j:=2) (.int .i64 0) (gJ0 (j:=1) (.int .i64 0) (gJ0 (j:=0) (.int .i64 0) HQ1.out));have HB9:Hid (Below w.heap.size w (((w1.setCell ⟨w.heap.size+1,0,none⟩ (.int .i64 0)).setCell ⟨w.heap.size+1,1,none⟩ (.int .i64 0)).setCell ⟨w.heap.size+1,2,none⟩ (.int .i64 0))):=((HB1.out.setCell (Nat.le_succ _) _).setCell (Nat.le_succ _) _).setCell (Nat.le_succ _) _;go_wp2_with fail;generalize ((w1.setCell ⟨w.heap.size+1,0,none⟩ (.int .i64 0)).setCell ⟨w.heap.size+1,1,none⟩ (.int .i64 0)).setCell ⟨w.heap.size+1,2,none⟩ (.int .i64 0)=V at hF HB9 ⊢;have z0:=aV0 (j:=0) hF rfl;have z1:=aV0 (j:=1) hF rfl;have z2:=aV0 (j:=2) hF rfl;refine bodyPost_ret (by simp [results,Tryz.results129,go_sem,z0,z1,z2];try rfl) rfl ?_;exact ⟨by rw [HC2.out],HB9.out⟩
theorem mY1 (eb s:Nat) (k:EgK) (M:Mkt) (w:World) (h:Eg w eb k M) (hs:s<2) (side:Int) (hsd:side=(s:Int)+1):
  Calls Tryz.prog 78 #[.pointer (some ⟨eb,0,none⟩),.int .i64 side] w fun e w'=>∃v,e=.returned (.tuple #[v,.nilIface])∧w'.ownsRow w.heap.size 92 5 v (aK0 side M.L).length (oV (aK0 side M.L))∧Below w.heap.size w w':=by
 have c2:w.cell? ⟨eb,2,none⟩=some (.pointer (some ⟨k.bb,0,none⟩)):=aA0 (j:=2) h.box rfl;have HE:Hid ((k.b.S s).map Ly.o=aK0 side M.L):=by show _=_;rw [hsd];exact h.lnk.side s hs
 have HSD:Hid (side=(s:Int)+1):=hsd;have HB:Hid _:=h.bk;clear h hsd;go_enter Tryz.func78,Tryz.ntmps78;go_wp2_with fail;refine (mS0 k.bb k.m s k.b w HB.out hs side HSD.out).mono ?_;rintro e w1 ⟨v,rfl,h1,h2⟩;rw [HE.out,show (k.b.S s).length=(aK0 side M.L).length by rw [←HE.out,List.length_map]] at h1;have H1:Hid _:=h1;have H2:Hid _:=h2;clear h1 h2;go_wp2_with fail;go_ret2;exact ⟨v,rfl,H1.out,H2.out⟩
def iN0 (L:List Ord):List Ord:=aK0 1 L++aK0 2 L
theorem pA0 {L:List Ord} (h:LOk L):(iN0 L).length=L.length:=(gX0 h).length_eq
theorem Tryz.infoOrdE:(Tryz.prog.info? 92).map (fun i=>(i.zero,i.size,i.bytes))=some (some (.agg #[.int .i64 0,.int .i64 0,.int .i64 0,.int .i64 0,.int .i64 0]),5,40):=by kernel_rfl
set_option maxRecDepth 4000 in
set_option maxHeartbeats 2000000 in
theorem gC1 (eb:Nat) (k:EgK) (M:Mkt) (w:World) (h:Eg w eb k M):
  Calls Tryz.prog 131 #[.pointer (some ⟨eb,0,none⟩)] w fun e w'=>∃v,e=.returned v∧w'.ownsRow w.heap.size 92 5 v (iN0 M.L).length (oV (iN0 M.L))∧Below w.heap.size w w':=by
 obtain ⟨i0,hi0,hz0,hz1,hz2⟩:=info_parts Tryz.infoOrdE
 have hl:(aK0 1 M.L).length+(aK0 2 M.L).length≤100:=by
  have h1:=pA0 h.lok;have h2:=h.few100;unfold iN0 at h1;rw [List.length_append] at h1;omega
 have c2:w.cell? ⟨eb,2,none⟩=some (.pointer (some ⟨k.bb,0,none⟩)):=aA0 (j:=2) h.box rfl;have HE1:Hid ((k.b.S 0).map Ly.o=aK0 1 M.L):=h.lnk.side 0 (by decide);have HE2:Hid ((k.b.S 1).map Ly.o=aK0 2 M.L):=h.lnk.side 1 (by decide);have H:Hid (Eg w eb k M):=h;clear h;go_enter Tryz.func131,Tryz.ntmps131;go_wp2_with fail;refine (mS0 k.bb k.m 0 k.b w H.out.bk (by decide) 1 rfl).mono ?_;rintro e w1 ⟨v1,rfl,h1,hb1⟩;rw [HE1.out,show (k.b.S 0).length=(aK0 1 M.L).length by rw [←HE1.out,List.length_map]] at h1;have c2':w1.cell? ⟨eb,2,none⟩=some (.pointer (some ⟨k.bb,0,none⟩)):=aA0 (j:=2) (H.out.below hb1).box rfl;have H1:Hid _:=h1;have HB1:Hid (Below w.heap.size w w1):=hb1;clear h1 hb1 c2;go_wp2_with fail;refine (mS0 k.bb k.m 1 k.b w1 (H.out.below HB1.out).bk (by decide) 2 rfl).mono ?_;rintro e w2 ⟨v2,rfl,h2,hb2⟩;rw [HE2.out,show (k.b.S 1).length=(aK0 2 M.L).length by rw [←HE2.out,List.length_map]] at h2;have hr1:w2.ownsRow w.heap.size 92 5 v1 (aK0 1 M.L).length (oV (aK0 1 M.L)):=aS0 H1.out hb2 lR7;obtain ⟨a2,n2,rfl,_,_⟩:=aY0 h2;have HL2:Hid (wO0 w2 a2 (aK0 2 M.L).length (oV (aK0 2 M.L))):=wO0.of_row h2 (Below.refl _ _);have HR1:Hid (w2.ownsRow w.heap.size 92 5 v1 (aK0 1 M.L).length (oV (aK0 1 M.L))):=hr1;have HB2:Hid (Below w.heap.size w w2):=aC0 HB1.out hb2;have hws:w.heap.size≤w2.heap.size:=HB2.out.size;have q63:(aK0 1 M.L).length+(aK0 2 M.L).length≤maxLen:=by unfold maxLen;omega
 clear h2 hb2 hr1 c2';go_wp2_with (at_builtin;refine lR0 _ rfl _ _ 99 rfl w.heap.size 92 i0 _ 5 40 Tryz.underlying99 hi0 hz0 hz1 hz2 (by rfl) (by omega) v1 (aK0 1 M.L).length (oV (aK0 1 M.L)) (by rfl) HR1.out a2 (aK0 2 M.L).length n2 (oV (aK0 2 M.L)) (by rfl) (eR0 _) HL2.out (bS1 _) q63 (by omega) hws ?_;intro v3 w3 h3 hg3 hk3;have H3:Hid _:=h3;have HO3:Hid (Out (fun j=>v1.ownBlock=some j) w2 w3):=Out.of_grown hg3 (fun _ e=>e);clear h3 hg3 hk3);go_ret
 have hbb:Below w.heap.size w w3:=by
  have ho:Out (fun j=>v1.ownBlock=some j) w w3:=(Out.of_below HB2.out lR7).trans HO3.out (Went.refl _ _)
  exact ⟨ho.os,ho.tape,ho.output,ho.size,fun j hj=>by
   by_cases hlt:j<w.heap.size
   ·exact ho.block j hlt (fun e=>by have:=(HR1.out.lt j e).1;omega)
   ·omega⟩
 refine ⟨v3,rfl,?_,hbb⟩;have:=H3.out;unfold iN0;rw [List.length_append,gM0];exact this
def kZ1 (q:Quo):Value:=.agg #[.int .i64 q.price,.int .i64 q.qty,.int .i64 q.sur]
set_option maxRecDepth 4000 in
set_option maxHeartbeats 4000000 in
theorem wY0 (eb:Nat) (k:EgK) (M:Mkt) (w:World) (h:Eg w eb k M) (hla:1≤M.la∧M.la≤1000000):
  Calls Tryz.prog 76 #[.pointer (some ⟨eb,0,none⟩)] w fun e w'=>e=.returned (kZ1 (dQ0 M))∧Below w.heap.size w w':=by
 have hok:=h.lok;have hL:=h.few100;have hbl:(iN0 M.L).length≤100:=by rw [pA0 hok];exact hL
 have HP:Hid (aM0 (iN0 M.L) M.la=aM0 M.L M.la):=aW1 (gX0 hok) M.la;have HWF:Hid (∀o∈iN0 M.L,wf64 o.price):=fun o ho=>by have:=hok.ok o ((gX0 hok).mem_iff.1 ho);exact WalkArith.wf_i64 (by omega)
 have hsm:∀x∈aM0 M.L M.la,x.Small:=wK0 (by omega) (fun o ho=>by have:=hok.ok o ho;omega) (by omega);have HSM:Hid (∀x∈aM0 M.L M.la,x.Small):=hsm;have hcl:(aM0 M.L M.la).length≤1000:=by have:=eX1 M.L M.la;omega
 have H:Hid (Eg w eb k M):=h;have hb0:=bel1 w (.cells #[.int .i64 0,.int .i64 0,.int .i64 0] 107);have hq0:=heap_alloc_new w (.cells #[.int .i64 0,.int .i64 0,.int .i64 0] 107);clear h hok hsm;cases ha:eD0 M.ph with
 | false=>
  have HQ:Hid (dQ0 M=⟨0,0,0⟩):=by show _=_;unfold dQ0;rw [ha];rfl
  have HA:Hid (eD0 M.ph=false):=ha;clear ha;go_enter Tryz.func76,Tryz.ntmps76;go_upto_region 1 with fail;generalize w.alloc (.cells #[.int .i64 0,.int .i64 0,.int .i64 0] 107)=w1 at hb0 hq0 ⊢;have c5:w1.cell? ⟨eb,5,none⟩=some (.int .i64 M.ph):=aA0 (j:=5) (H.out.below hb0).box rfl;have z0:=aA0 (j:=0) hq0 rfl;have z1:=aA0 (j:=1) hq0 rfl;have z2:=aA0 (j:=2) hq0 rfl;have y0:=aB0 (j:=0) hq0;have y1:=aB0 (j:=1) hq0;have y2:=aB0 (j:=2) hq0;have HB0:Hid (Below w.heap.size w w1):=hb0;have HQ0:Hid _:=hq0;clear hb0 hq0;go_wp2_with fail;refine (cZ1 M.ph w1).mono ?_;rintro e w1' ⟨rfl,hw⟩;subst hw;rw [HA.out];go_wp2_with fail;have HW:=aH0 (j:=2) (.int .i64 0) (aH0 (j:=1) (.int .i64 0) (aH0 (j:=0) (.int .i64 0) HQ0.out));have HB7:Hid (Below w.heap.size w (((w1'.setCell ⟨w.heap.size,0,none⟩ (.int .i64 0)).setCell ⟨w.heap.size,1,none⟩ (.int .i64 0)).setCell ⟨w.heap.size,2,none⟩ (.int .i64 0))):=((HB0.out.setCell (p:=⟨w.heap.size,0,none⟩) lR7 _).setCell (p:=⟨w.heap.size,1,none⟩) lR7 _).setCell (p:=⟨w.heap.size,2,none⟩) lR7 _;clear z0 z1 z2 y0 y1 y2 c5;generalize ((w1'.setCell ⟨w.heap.size,0,none⟩ (.int .i64 0)).setCell ⟨w.heap.size,1,none⟩ (.int .i64 0)).setCell ⟨w.heap.size,2,none⟩ (.int .i64 0)=w7 at HW HB7 ⊢;have q0:w7.cell? ⟨w.heap.size,0,none⟩=some (.int .i64 0):=aA0 (j:=0) HW rfl;have q1:w7.cell? ⟨w.heap.size,1,none⟩=some (.int .i64 0):=aA0 (j:=1) HW rfl;have q2:w7.cell? ⟨w.heap.size,2,none⟩=some (.int .i64 0):=aA0 (j:=2) HW rfl;refine bodyPost_ret (by simp [results,Tryz.results76,go_sem,q0,q1,q2];try rfl) rfl ?_;exact ⟨by rw [HQ.out];rfl,HB7.out⟩
 | true=>
  have HQ:Hid (dQ0 M=aJ0 (aM0 M.L M.la) M.la):=by show _=_;unfold dQ0;rw [ha];rfl
  have HA:Hid (eD0 M.ph=true):=ha;clear ha;go_enter Tryz.func76,Tryz.ntmps76;go_upto_region 1 with fail;generalize w.alloc (.cells #[.int .i64 0,.int .i64 0,.int .i64 0] 107)=w1 at hb0 hq0 ⊢;have h1:=H.out.below hb0;have c5:w1.cell? ⟨eb,5,none⟩=some (.int .i64 M.ph):=aA0 (j:=5) h1.box rfl;have c1:w1.cell? ⟨eb,1,none⟩=some (.pointer (some ⟨k.nb,0,none⟩)):=aA0 (j:=1) h1.box rfl;have H1:Hid (Eg w1 eb k M):=h1;have HB0:Hid (Below w.heap.size w w1):=hb0;have HQ0:Hid _:=hq0;clear hb0 hq0 h1;go_wp2_with fail;refine (cZ1 M.ph w1).mono ?_;rintro e w1' ⟨rfl,hw⟩;subst hw;rw [HA.out];go_wp2_with fail;refine (mI1 k.nb M.st M.dy M.an M.la w1' H1.out.bn).mono ?_;rintro e w2 ⟨rfl,hb2⟩;have H2:Hid (Eg w2 eb k M):=H1.out.below hb2;have HQ2:Hid _:=aD0 HQ0.out hb2 lR7;have HB2:Hid (Below w.heap.size w w2):=aC0 HB0.out hb2;clear hb2 c5 c1;go_wp2_with fail;refine (gC1 eb k M w2 H2.out).mono ?_;rintro e w3 ⟨v3,rfl,hr3,hb3⟩;obtain ⟨a3,n3,rfl,hin3⟩:=bX0.of_row hr3;have HI3:Hid _:=hin3;have HQ3:Hid _:=aD0 HQ2.out hb3 lR7;have HB3:Hid (Below w.heap.size w w3):=aC0 HB2.out hb3;clear hb3 hr3 hin3;go_wp2_with fail;refine (tL1 a3 n3 (iN0 M.L) M.la w3 HI3.out (by omega) HWF.out (WalkArith.wf_i64 (by omega))).mono ?_;rintro e w4 ⟨v4,rfl,hr4,hb4⟩;rw [HP.out] at hr4;obtain ⟨a4,n4,rfl,hin4⟩:=hU0.of_row hr4;have HI4:Hid _:=hin4;have HQ4:Hid _:=aD0 HQ3.out hb4 lR7;have HB4:Hid (Below w.heap.size w w4):=aC0 HB3.out hb4;clear hb4 hr4 hin4;go_wp2_with fail;refine (kY1 a4 n4 (aM0 M.L M.la) M.la w4 HI4.out hcl HSM.out (by omega)).mono ?_;rintro e w6 ⟨rfl,hb6⟩;have hq6:=aD0 HQ4.out hb6 lR7;have HB6:Hid (Below w.heap.size w w6):=aC0 HB4.out hb6;have z0:=aA0 (j:=0) hq6 rfl;have z1:=aA0 (j:=1) hq6 rfl;have z2:=aA0 (j:=2) hq6 rfl;have y0:=aB0 (j:=0) hq6;have y1:=aB0 (j:=1) hq6;have y2:=aB0 (j:=2) hq6;have HQ6:Hid _:=hq6;clear hq6 hb6;go_wp2_with fail;have HW7:=aH0 (j:=2) (.int .i64 (aJ0 (aM0 M.L M.la) M.la).sur) (aH0 (j:=1) (.int .i64 (aJ0 (aM0 M.L M.la) M.la).qty) (aH0 (j:=0) (.int .i64 (aJ0 (aM0 M.L M.la) M.la).price) HQ6.out));have HB7:Hid (Below w.heap.size w (((w6.setCell ⟨w.heap.size,0,none⟩ (.int .i64 (aJ0 (aM0 M.L M.la) M.la).price)).setCell ⟨w.heap.size,1,none⟩ (.int .i64 (aJ0 (aM0 M.L M.la) M.la).qty)).setCell ⟨w.heap.size,2,none⟩ (.int .i64 (aJ0 (aM0 M.L M.la) M.la).sur))):=((HB6.out.setCell (p:=⟨w.heap.size,0,none⟩) lR7 _).setCell (p:=⟨w.heap.size,1,none⟩) lR7 _).setCell (p:=⟨w.heap.size,2,none⟩) lR7 _;clear z0 z1 z2 y0 y1 y2;generalize (((w6.setCell ⟨w.heap.size,0,none⟩ (.int .i64 (aJ0 (aM0 M.L M.la) M.la).price)).setCell ⟨w.heap.size,1,none⟩ (.int .i64 (aJ0 (aM0 M.L M.la) M.la).qty)).setCell ⟨w.heap.size,2,none⟩ (.int .i64 (aJ0 (aM0 M.L M.la) M.la).sur))=w7 at HW7 HB7 ⊢;have q0:w7.cell? ⟨w.heap.size,0,none⟩=some (.int .i64 (aJ0 (aM0 M.L M.la) M.la).price):=aA0 (j:=0) HW7 rfl;have q1:w7.cell? ⟨w.heap.size,1,none⟩=some (.int .i64 (aJ0 (aM0 M.L M.la) M.la).qty):=aA0 (j:=1) HW7 rfl;have q2:w7.cell? ⟨w.heap.size,2,none⟩=some (.int .i64 (aJ0 (aM0 M.L M.la) M.la).sur):=aA0 (j:=2) HW7 rfl;go_wp2_with fail;refine bodyPost_ret (by simp [results,Tryz.results76,go_sem,q0,q1,q2];try rfl) rfl ?_;exact ⟨by rw [HQ.out];rfl,HB7.out⟩
def goL (X:List Ord) (L:List Ord):List Ord:=X.foldl (fun L o=>if o.kind=1 then L else canL o.id L) L
theorem lA1 {l:List Ord} {i:Nat} (L:List Ord) (h:i<l.length):goL (l.take (i+1)) L=if (oAt l i).kind=1 then goL (l.take i) L else canL (oAt l i).id (goL (l.take i) L):=by
 unfold goL;rw [List.take_succ_eq_append_getElem h,List.foldl_append,←fS0 h];rfl
theorem wZ0 {L:List Ord} (hn:(L.map Ord.id).Nodup) (id:Int):canL id L=L.filter fun o=>decide (o.id≠id):=by
 unfold canL;rcases nC0 id L 0 with h | ⟨j,hj,h1,h2⟩
 ·have h3:idxO id L=-1:=h;rw [if_pos h3];refine (List.filter_eq_self.2 (fun o ho=>?_)).symm;rw [decide_eq_true_eq];intro e;have:=kC0 id L 0 ⟨o,ho,e⟩;have e2:idxF id 0 L=-1:=h;omega
 ·have h3:idxO id L=(j:Int):=by
   have:idxO id L=((0+j:Nat):Int):=h1;rw [this];congr 1;omega
  rw [if_neg (by omega),show (idxO id L).toNat=j by omega,←h2];exact gG0 hn hj
theorem lT0:∀(X:List Ord) {L:List Ord},(L.map Ord.id).Nodup→goL X L=L.filter fun o=>!(X.any fun x=>decide (x.kind≠1)&& decide (x.id=o.id))
 | [],L,_=>by
  show L=_;exact (List.filter_eq_self.2 (fun o _=>rfl)).symm
 | x::X,L,hn=>by
  show goL X (if x.kind=1 then L else canL x.id L)=_
  by_cases hk:x.kind=1
  ·rw [if_pos hk,lT0 X hn];refine List.filter_congr (fun o _=>?_);rw [List.any_cons,decide_eq_false (p:=x.kind≠1) (fun e=>e hk)];rfl
  ·have hn':((L.filter fun o=>decide (o.id≠x.id)).map Ord.id).Nodup:=hn.sublist (List.filter_sublist.map _);rw [if_neg hk,wZ0 hn,lT0 X hn',List.filter_filter];refine List.filter_congr (fun o _=>?_);rw [List.any_cons,decide_eq_true (p:=x.kind≠1) hk]
   by_cases e:o.id=x.id
   ·simp [e]
   ·have e':¬x.id=o.id:=fun h=>e h.symm
    simp [e,e']
theorem pF1 {L:List Ord} (h:LOk L):goL (iN0 L) L=limL L:=by
 rw [lT0 _ h.ids];unfold limL;refine List.filter_congr (fun o ho=>?_);have hmem:∀x,x∈iN0 L↔x∈L:=fun x=>(gX0 h).mem_iff
 by_cases hk:o.kind=1
 ·rw [show (o.kind == 1)=true by simpa using hk]
  have:((iN0 L).any fun x=>decide (x.kind≠1)&& decide (x.id=o.id))=false:=by
   rw [List.any_eq_false];intro x hx;have hxo:x.id=o.id→x=o:=fun e=>mC0 h.ids ((hmem x).1 hx) ho e
   simp only [Bool.and_eq_true,decide_eq_true_eq,not_and];intro h1 h2;exact h1 (by rw [hxo h2];exact hk)
  rw [this];rfl
 ·rw [show (o.kind == 1)=false by simpa using hk]
  have:((iN0 L).any fun x=>decide (x.kind≠1)&& decide (x.id=o.id))=true:=by
   rw [List.any_eq_true];exact ⟨o,(hmem o).2 ho,by simp [hk]⟩
  rw [this];rfl
theorem fF0 {L:List Ord} {la:Int} (hok:LOk L) (hla:1≤la∧la≤1000000) (hq:0<(aJ0 (aM0 L la) la).qty):1≤(aJ0 (aM0 L la) la).price∧(aJ0 (aM0 L la) la).price≤1000000:=by
 unfold aJ0 at hq ⊢
 by_cases hm:dA0 (aM0 L la)<1
 ·rw [if_pos hm] at hq;exact absurd hq (by decide)
 ·rw [if_neg hm];obtain ⟨h1,_⟩:=lN0 la (by omega:1≤dA0 (aM0 L la));show 1≤(jQ0 (aM0 L la) la).price∧(jQ0 (aM0 L la) la).price≤1000000;obtain ⟨p,hp,e⟩:=List.mem_map.1 h1;rw [←e];show 1≤p∧p≤1000000;rw [iI0 (cN0 _),fX0,cF0] at hp;rcases hp with ⟨_,rfl⟩ | ⟨o,ho,_,rfl⟩
  ·exact hla
  ·have:=hok.ok o ho;omega
theorem bG1 {w W:World} {bb m:Nat} {b b':BkS} (hb:Bk W bb m b') (hs:nP0 w W bb b b'):Goes w W bb m b b':=⟨hb,hs.1,hs.2⟩
theorem Eg.farFills {w:World} {eb base n size:Nat} {k:EgK} {M:Mkt} {v:Value} {xs:List Value} (h:Eg w eb k M) (hr:w.ownsRow base 146 size v n xs):∀j,v.ownBlock=some j→¬k.foot eb j:=fun j hj e=>by
 rcases e with e | e | e | e | e
 ·exact aF0 hr h.box (by decide) (by rw [hj,e])
 ·exact aF0 hr h.bn (by decide) (by rw [hj,e])
 ·exact h.bk.farAny hr (by decide) (by decide) (by decide) (by decide) (by decide) j hj e
 ·exact bJ0 hr h.pk (by decide) hj e
 ·rcases hr.2 with ⟨e',_⟩ | ⟨g,cap,cur,e',_,hh,_⟩
  ·rw [e'] at hj;cases hj
  ·rw [e'] at hj;have e2:g=j:=by simpa [Value.ownBlock] using hj
   exact h.tkn.ne hh (e2.trans e)
theorem pG1 (eb:Nat) (k:EgK) (M:Mkt) (W:World) (h:Eg W eb k M) (hm:k.m≤700000) (hq:0<(aG0 M).qty):
  Calls Tryz.prog 245 #[.pointer (some ⟨k.bb,0,none⟩),.int .i64 (aG0 M).price,.int .i64 (aG0 M).qty] W
   fun e W'=>∃(vf:Value) (b':BkS),e=.returned (.tuple #[vf,.nilIface])∧W'.ownsRow W.heap.size 146 4 vf (uncA M).1.length (fV (uncA M).1)∧Goes W W' k.bb (k.m+202) k.b b'∧Lnk b'.S (uncA M).2.L:=by
 have hok:=h.lok;have hF:FOk (aG0 M).price ⟨[],M.L,(aG0 M).qty⟩:=fB0 M.la hok hq;have h1:(aG0 M).qty≤wilL 1 (aG0 M).price M.L:=hF.buy;have h2:(aG0 M).qty≤wilL 2 (aG0 M).price M.L:=hF.sell;refine (oJ1 k.bb k.m k.b M.L (aG0 M).price (aG0 M).qty W h.bk (by omega) h.lnk hok ⟨by omega,by omega⟩).mono ?_;rintro e W' ⟨K,vf,rfl,h0,hj,b',hc⟩;have e1:=dV1 hF h0 hj
 have e2:uncA M=((aQ0 (aG0 M).price ⟨[],M.L,(aG0 M).qty⟩ K).fs,{ M with L:=(aQ0 (aG0 M).price ⟨[],M.L,(aG0 M).qty⟩ K).L,an:=(aG0 M).price,la:=(aG0 M).price }):=by
  unfold uncA;rw [if_pos hq,e1]
 have hK:K≤101:=by
  cases K with
  | zero=>omega
  | succ K=>
   have:=gQ0 hF K hj;have e:(⟨[],M.L,(aG0 M).qty⟩:FS).L.length=M.L.length:=rfl;have:=h.few100;omega
 rw [e2];refine ⟨vf,b',rfl,hc.fils,bG1 (hc.bk.more (by omega) (by omega)) hc.since,hc.lnk⟩
def rW1 (w:World) (eb:Nat) (k:EgK) (M:Mkt) (u3:Value) (wc:World):Prop:=
 ∃k1:EgK,wc.ownsRow w.heap.size 146 4 u3 (uncA M).1.length (fV (uncA M).1)∧EgGo w wc eb k k1 (uncA M).2∧k1.m≤k.m+202
theorem mZ1 {w wc:World} {eb:Nat} {k k1:EgK} {M:Mkt} {u3:Value} (h1:wc.ownsRow w.heap.size 146 4 u3 (uncA M).1.length (fV (uncA M).1)) (h2:EgGo w wc eb k k1 (uncA M).2) (h3:k1.m≤k.m+202):rW1 w eb k M u3 wc:=⟨k1,h1,h2,h3⟩
set_option maxRecDepth 8000 in
set_option maxHeartbeats 8000000 in
theorem uR0 (eb:Nat) (k:EgK) (M:Mkt) (w:World) (h:Eg w eb k M) (ha:eD0 M.ph=true) (hla:1≤M.la∧M.la≤1000000) (hm:k.m≤700000):
  Calls Tryz.prog 175 #[.pointer (some ⟨eb,0,none⟩)] w fun e w'=>∃vf k',e=.returned vf∧w'.ownsRow w.heap.size 146 4 vf (uncM M).1.length (fV (uncM M).1)∧EgGo w w' eb k k' (uncM M).2∧k'.m≤k.m+302:=by
 have H:Hid (Eg w eb k M):=h;have HK:Hid (LOk M.L):=h.lok;have HQE:Hid (dQ0 M=aG0 M):=by show _=_;unfold dQ0;rw [if_pos ha]
 clear h ha;go_enter Tryz.func175,Tryz.ntmps175;go_wp2_with fail;refine (wY0 eb k M w H.out hla).mono ?_;rintro e w1 ⟨rfl,hb1⟩;rw [HQE.out];unfold kZ1;have H1:Hid (Eg w1 eb k M):=H.out.below hb1;have HB1:Hid (Below w.heap.size w w1):=hb1;clear hb1;go_upto_if 11 with fail;have hx:=heap_alloc_new w1 (.cells #[.int .i64 (aG0 M).price,.int .i64 (aG0 M).qty,.int .i64 (aG0 M).sur] 107);have hb2:=bel1 w1 (.cells #[.int .i64 (aG0 M).price,.int .i64 (aG0 M).qty,.int .i64 (aG0 M).sur] 107);generalize w1.alloc (.cells #[.int .i64 (aG0 M).price,.int .i64 (aG0 M).qty,.int .i64 (aG0 M).sur] 107)=w2 at hx hb2 ⊢;have H2:Hid (Eg w2 eb k M):=H1.out.below hb2;have HB2:Hid (Below w.heap.size w w2):=aC0 HB1.out hb2;have HX:Hid _:=hx;have hne:¬k.b.foot k.bb w1.heap.size:=H2.out.bk.farBox hx (by decide) (by decide) (by decide) (by decide) (by decide);have HNE:Hid (¬k.b.foot k.bb w1.heap.size):=hne
 have HSS:Hid (∀w',Out (k.b.foot k.bb) w2 w'→w'.cell? ⟨eb,2,none⟩=some (.pointer (some ⟨k.bb,0,none⟩))∧w'.cell? ⟨w1.heap.size,0,none⟩=some (.int .i64 (aG0 M).price)∧w'.cell? ⟨w1.heap.size,1,none⟩=some (.int .i64 (aG0 M).qty)∧Out (k.b.foot k.bb) w2 w'):=fun w' ho=>by
  have hx':=aE0 hx ho hne;exact ⟨aA0 (j:=2) (aE0 H2.out.box ho H2.out.ebbk) rfl,aA0 (j:=0) hx' rfl,aA0 (j:=1) hx' rfl,ho⟩
 clear hx hb2 H1 HB1 hne;go_cut [3] (fun u3 wc=>rW1 w eb k M u3 wc)
 case first=>
  by_cases hq:0<(aG0 M).qty
  ·have HQ:Hid (0<(aG0 M).qty):=hq;have HPR:Hid (1≤(aG0 M).price∧(aG0 M).price≤1000000):=fF0 HK.out hla hq;have HE:Hid ((uncA M).2={ M with L:=(uncA M).2.L,an:=(aG0 M).price,la:=(aG0 M).price }):=by show _=_;unfold uncA;rw [if_pos hq]
   have gq:decide (0<(aG0 M).qty)=true:=decide_eq_true hq;generalize hpp:(aG0 M).price=pp at HE HSS HX HPR;generalize hqq:(aG0 M).qty=qq at hq gq HSS HX;go_wp2_with fail;rw [gq];go_cut [3] from 12 to 23 (fun u3 wc=>∃b',wc.ownsRow w.heap.size 146 4 u3 (uncA M).1.length (fV (uncA M).1)∧Goes w2 wc k.bb (k.m+202) k.b b'∧Lnk b'.S (uncA M).2.L)
   case first=>
    go_region_held3 (fun w'=>w'.cell? ⟨eb,2,none⟩=some (.pointer (some ⟨k.bb,0,none⟩))∧w'.cell? ⟨w1.heap.size,0,none⟩=some (.int .i64 pp)∧w'.cell? ⟨w1.heap.size,1,none⟩=some (.int .i64 qq)∧Out (k.b.foot k.bb) w2 w')
     ((refine HSS.out _ ?_;(first | exact HG3.out.2.1 | exact Out.refl _ _ | exact aT0 (Out.refl _ _))))
     ((go_at_call 245;subst hpp hqq;refine (pG1 eb k M w2.drew H2.out.drew hm HQ.out).mono ?_;rintro e w3 ⟨vf,b3,rfl,hr3,hg3,hl3⟩;have HR3:Hid _:=hr3;have HL3:Hid _:=hl3;have HG3:Hid (Goes w2 w3 k.bb (k.m+202) k.b b3):=kM0 H2.out.bk (Below.refl _ _).drew hg3;clear hr3 hg3 hl3))
    all_goals go_wp2_with fail
    all_goals go_meet
    all_goals exact ⟨b3,cB0 HR3.out HB2.out.size,HG3.out,HL3.out⟩
   case rest=>
    obtain ⟨b3,hr3,hg3,hl3⟩:=hcut;have HR3:Hid (wc.ownsRow w.heap.size 146 4 u3 (uncA M).1.length (fV (uncA M).1)):=hr3;have hE3:=H2.out.ofBook hg3 hl3 (Nat.le_add_right _ _);have HE3:Hid (EgGo w2 wc eb k { k with m:=k.m+202,b:=b3 } { M with L:=(uncA M).2.L }):=hE3;have hx3:=aE0 HX.out hg3.2.1 HNE.out;have hnx:w1.heap.size≠k.nb:=dV0 HX.out H2.out.bn (by decide);have HS5:Hid (∀w',Out (fun j=>j=k.nb) wc w'→w'.cell? ⟨eb,1,none⟩=some (.pointer (some ⟨k.nb,0,none⟩))∧w'.cell? ⟨w1.heap.size,0,none⟩=some (.int .i64 pp)∧Out (fun j=>j=k.nb) wc w'):=fun w' ho=>⟨aA0 (j:=1) (aE0 hE3.1.box ho H2.out.ebnb) rfl,aA0 (j:=0) (aE0 hx3 ho hnx) rfl,ho⟩
    clear hr3 hg3 hl3 hE3 hx3 hnx;go_upto_region 5 with fail
    go_region_held3 (fun w'=>w'.cell? ⟨eb,1,none⟩=some (.pointer (some ⟨k.nb,0,none⟩))∧w'.cell? ⟨w1.heap.size,0,none⟩=some (.int .i64 pp)∧Out (fun j=>j=k.nb) wc w')
     ((refine HS5.out _ ?_;(first | exact HO4.out | exact Out.refl _ _ | exact aT0 (Out.refl _ _))))
     ((go_at_call 246;refine (tD1 k.nb M.st M.dy M.an M.la pp wc.drew HE3.out.1.drew.bn (nN0 HPR.out)).mono ?_;rintro e w4 ⟨rfl,ho4,hb4⟩;have HB4:Hid _:=hb4;have HO4:Hid (Out (fun j=>j=k.nb) wc w4):=(aT0 (Out.refl _ _)).trans ho4 (Went.refl _ _);clear ho4 hb4))
    all_goals go_wp2_with fail
    all_goals go_meet
    all_goals refine mZ1 (k1:={ k with m:=k.m+202,b:=b3 }) (aL0 HR3.out HO4.out (fun j hj e=>?_)) ?_ lR7
    all_goals first | exact aF0 HR3.out HE3.out.1.bn (by decide) (hj.trans (congrArg some e)) | (rw [HE.out];exact ((EgGo.stay H.out HB2.out).trans HE3.out).trans (HE3.out.1.ofBands HB4.out HO4.out))
  ·have HE:Hid (uncA M=([],M)):=by show _=_;unfold uncA;rw [if_neg hq]
   have gq:decide (0<(aG0 M).qty)=false:=decide_eq_false hq;go_wp2_with fail;go_meet;exact mZ1 (k1:=k) (by rw [HE.out];exact World.ownsRow_nil _ _ _ _) (by rw [HE.out];exact EgGo.stay H.out HB2.out) (Nat.le_add_right _ _)
 case rest=>
  obtain ⟨k1,hr,hg,hk1⟩:=hcut;have HU:Hid (uncM M=((uncA M).1,{ (uncA M).2 with L:=limL (uncA M).2.L })):=eZ1 M;clear HX HSS H2 HB2 HNE;generalize uncA M=um at hr hg HU;obtain ⟨fs,M3⟩:=um;dsimp only at hr hg HU;have HR:Hid (wc.ownsRow w.heap.size 146 4 u3 fs.length (fV fs)):=hr;have HG:Hid (EgGo w wc eb k k1 M3):=hg;have HG3:Hid (goL (iN0 M3.L) M3.L=limL M3.L):=pF1 hg.1.lok;have hl3:(iN0 M3.L).length≤100:=by rw [pA0 hg.1.lok];exact hg.1.few100
  clear hr hg;go_wp2_with fail;refine (gC1 eb k1 M3 wc HG.out.1).mono ?_;rintro e w5 ⟨v5,rfl,hr5,hb5⟩;obtain ⟨a5,n5,rfl,_,_⟩:=aY0 hr5;generalize hX:iN0 M3.L=X at *;have HR5:Hid (w5.ownsRow wc.heap.size 92 5 (.slice a5 X.length n5) X.length (oV X)):=hr5
  have HW5:Hid (∀i,i<X.length→(Lit.int .i64 (oAt X i).id).wf=true):=fun i hi=>by
   have h1:oAt X i∈iN0 M3.L:=by rw [hX,fS0 hi];exact List.getElem_mem hi
   exact mL1 HG.out.1.bk HG.out.1.lnk ((gX0 HG.out.1.lok).mem_iff.1 h1)
  have HE5:Hid (Eg w5 eb k1 M3):=HG.out.1.below hb5;have HG5:Hid (EgGo w w5 eb k k1 M3):=HG.out.bel hb5;have HRF:Hid (w5.ownsRow w.heap.size 146 4 u3 fs.length (fV fs)):=aS0 HR.out hb5 lR7;clear hX hr5 hb5 HR HG;go_wp2_with fail;go_loopw [34] (fun u wr=>∃(i:Nat) (b1:BkS),u=.int .i64 i∧i≤X.length∧Lnk b1.S (goL (X.take i) M3.L)∧Goes w5 wr k1.bb (k1.m+i) k1.b b1) (fun u _=>X.length - (intOf u).toNat)
  case atStart=>exact ⟨0,k1.b,rfl,Nat.zero_le _,HE5.out.lnk,HE5.out.bk,Out.refl _ _,Went.refl _ _⟩
  case round=>
   obtain ⟨i,b1,rfl,hi,hln,hg⟩:=hrel;have HLN:Hid (Lnk b1.S (goL (X.take i) M3.L)):=hln;have HGO:Hid (Goes w5 wr k1.bb (k1.m+i) k1.b b1):=hg
   by_cases hi1:i<X.length
   ·have hlt:(i:Int)<(X.length:Int):=by omega
    have hrX:wr.ownsRow wc.heap.size 92 5 (.slice a5 X.length n5) X.length (oV X):=aL0 HR5.out hg.2.1 (HE5.out.bk.farAny HR5.out (by decide) (by decide) (by decide) (by decide) (by decide));obtain ⟨g,cap,e1,d0,d1,d2,d3,d4⟩:=iB0 hrX hi1;injection e1 with e1 _ e2;subst e1 e2;have HWI:Hid ((Lit.int .i64 (oAt X i).id).wf=true):=HW5.out i hi1;have HS:Hid _:=lA1 M3.L hi1;have HE:Hid (Eg wr eb { k1 with m:=k1.m+i,b:=b1 } { M3 with L:=goL (X.take i) M3.L }):=(HE5.out.ofBook hg hln (Nat.le_add_right _ _)).1;generalize oAt X i=o at d0 d1 d2 d3 d4 HWI HS;clear hg hln hrX
    by_cases hk:o.kind=1
    ·have HS1:Hid (goL (X.take (i+1)) M3.L=goL (X.take i) M3.L):=by show _=_;rw [HS.out,if_pos hk]
     have kb:(o.kind != 1)=false:=by simp [hk]
     clear hk HS;go_wp2_with fail;go_roundw
     case rel=>exact ⟨i+1,b1,by go_num,hi1,by rw [HS1.out];exact HLN.out,iK0 (rP0 HGO.out (bel1 _ _)) ⟨(HE.out.below (bel1 _ _)).bk.more (Nat.le_succ _) (by omega),Out.refl _ _,Went.refl _ _⟩⟩
     case measure=>first | (simp [intOf];omega) | (show X.length - (i+1)<X.length - i;omega) | omega
    ·have HS1:Hid (goL (X.take (i+1)) M3.L=canL o.id (goL (X.take i) M3.L)):=by show _=_;rw [HS.out,if_neg hk]
     have kb:(o.kind != 1)=true:=by simpa using hk
     clear hk HS;go_upto_region 10 with fail;have hx:=heap_alloc_new wr (.cells #[.int .i64 o.id,.int .i64 o.side,.int .i64 o.kind,.int .i64 o.price,.int .i64 o.qty] 92);have hbx:=bel1 wr (.cells #[.int .i64 o.id,.int .i64 o.side,.int .i64 o.kind,.int .i64 o.price,.int .i64 o.qty] 92);generalize wr.alloc (.cells #[.int .i64 o.id,.int .i64 o.side,.int .i64 o.kind,.int .i64 o.price,.int .i64 o.qty] 92)=w6 at hx hbx ⊢;have h6:=HE.out.below hbx;have HG6:Hid (Goes w5 w6 k1.bb (k1.m+i) k1.b b1):=rP0 HGO.out hbx;have hne:¬b1.foot k1.bb wr.heap.size:=h6.bk.farBox hx (by decide) (by decide) (by decide) (by decide) (by decide);have HSS:Hid (∀w',Out (b1.foot k1.bb) w6 w'→w'.cell? ⟨eb,2,none⟩=some (.pointer (some ⟨k1.bb,0,none⟩))∧w'.cell? ⟨wr.heap.size,0,none⟩=some (.int .i64 o.id)∧Out (b1.foot k1.bb) w6 w'):=fun w' ho=>⟨aA0 (j:=2) (aE0 h6.box ho h6.ebbk) rfl,aA0 (j:=0) (aE0 hx ho hne) rfl,ho⟩
     have HBK:Hid (Bk w6 k1.bb (k1.m+i) b1):=h6.bk;clear hx hbx d0 d1 d2 d3 d4 hne h6 HE HGO;have hm1:k1.m+i+1≤900000:=by omega
     go_region_held3 (fun w'=>w'.cell? ⟨eb,2,none⟩=some (.pointer (some ⟨k1.bb,0,none⟩))∧w'.cell? ⟨wr.heap.size,0,none⟩=some (.int .i64 o.id)∧Out (b1.foot k1.bb) w6 w')
      ((refine HSS.out _ ?_;(first | exact HG7.out.2.1 | exact Out.refl _ _ | exact aT0 (Out.refl _ _))))
      ((go_at_call 120;refine (wF0 (HBK.out.below (Below.refl _ _).drew lR7) hm1 HLN.out o.id HWI.out).mono ?_;rintro e w7 ⟨err,rfl,_,b2,hl2,hg2⟩;have HL2:Hid _:=hl2;have HG7:Hid (Goes w6 w7 k1.bb (k1.m+i+1) b1 b2):=kM0 HBK.out (Below.refl _ _).drew hg2;clear hl2 hg2))
     go_wp2_with fail;go_roundw
     case rel=>exact ⟨i+1,b2,by go_num,hi1,by rw [HS1.out];exact HL2.out,iK0 HG6.out HG7.out⟩
     case measure=>first | (simp [intOf];omega) | (show X.length - (i+1)<X.length - i;omega) | omega
   ·obtain rfl:i=X.length:=by omega
    rw [List.take_length,HG3.out] at HLN;clear hg hln;go_wp2_with fail;go_ret;have hfin:=HE5.out.ofBook HGO.out HLN.out (Nat.le_add_right _ _);refine ⟨u3,{ k1 with m:=k1.m+X.length,b:=b1 },rfl,?_,?_,?_⟩
    ·rw [HU.out];exact aL0 HRF.out hfin.2.1 (HE5.out.farFills HRF.out)
    ·rw [HU.out];exact HG5.out.trans hfin
    ·show k1.m+X.length≤k.m+302;omega
section
variable {w w1 w':World} {eb:Nat} {k:EgK} {M:Mkt}
theorem Eg.ofParked (h:Eg w eb k M) {v':Value} {P':List Ord} (ho:Out (fun j=>k.vp.ownBlock=some j) w w1) (hr:w1.ownsRow 0 92 5 v' P'.length (oV P')) (hn:∀j,v'.ownBlock=some j→k.vp.ownBlock=some j∨w.heap.size≤j):
  EgGo w (w1.setCell ⟨eb,3,none⟩ v') eb k { k with vp:=v' } { M with P:=P' }:=by
 have hbox:=aE0 h.box ho h.ebpk;have ho2:=aN0 w1 ⟨eb,3,none⟩ v';have hb2:=aH0 (j:=3) v' hbox;have far:∀j,j=k.tb∨j=k.cb→k.vp.ownBlock≠some j∧j≠eb:=fun j hj=>⟨fun e=>h.far j hj (Or.inr (Or.inr (Or.inr (Or.inl e)))),fun e=>h.far j hj (Or.inl e)⟩
 have hl:=ho.size;refine ⟨⟨hb2,⟨bH0 (bH0 h.tab.1 ho (far _ (Or.inl rfl)).1) ho2 (far _ (Or.inl rfl)).2,bR0 (bR0 h.tab.2 ho (far _ (Or.inr rfl)).1) ho2 (far _ (Or.inr rfl)).2⟩,Nat.lt_of_lt_of_le h.tlt (Nat.le_trans hl ho2.size),aE0 (aE0 h.bn ho h.nbpk) ho2 (fun e=>h.ebnb e.symm),(h.bk.out ho (fun j hj e=>h.pkbk e hj)).out ho2 (fun j hj e=>h.ebbk (by rw [←show j=eb from e];exact hj)),h.lnk,aL0 hr ho2 (fun j hj e=>aF0 hr hbox (by decide) (hj.trans (congrArg some e))),(h.tkn.same (ho.block _ h.tkn.lt h.pktk)).same (ho2.block _ (Nat.lt_of_lt_of_le h.tkn.lt hl) (fun e=>h.ebtk e.symm)),h.tkf,h.few,fun j hj e=>?_⟩,?_,?_,rfl,rfl⟩
 ·have hlt:j<w.heap.size:=by
   rcases hj with rfl | rfl
   ·exact h.tlt'
   ·exact h.tlt
  rcases e with e | e | e | e | e
  ·exact h.far j hj (Or.inl e)
  ·exact h.far j hj (Or.inr (Or.inl e))
  ·exact h.far j hj (Or.inr (Or.inr (Or.inl e)))
  ·rcases hn j e with e | e
   ·exact h.far j hj (Or.inr (Or.inr (Or.inr (Or.inl e))))
   ·omega
  ·exact h.far j hj (Or.inr (Or.inr (Or.inr (Or.inr e))))
 ·have h1:Out (k.foot eb) w w1:=⟨ho.os,ho.tape,ho.output,ho.size,fun i hi hn=>ho.block i hi (fun e=>hn (Or.inr (Or.inr (Or.inr (Or.inl e)))))⟩;have h2:Out (k.foot eb) w1 (w1.setCell ⟨eb,3,none⟩ v'):=⟨ho2.os,ho2.tape,ho2.output,ho2.size,fun i hi hn=>ho2.block i hi (fun e=>hn (Or.inl e))⟩;exact bA0 h1 h2
 ·intro j hj;rcases hj with e | e | e | e | e
  ·exact Or.inl (Or.inl e)
  ·exact Or.inl (Or.inr (Or.inl e))
  ·exact Or.inl (Or.inr (Or.inr (Or.inl e)))
  ·exact (hn j e).imp (fun e=>Or.inr (Or.inr (Or.inr (Or.inl e)))) id
  ·exact Or.inl (Or.inr (Or.inr (Or.inr (Or.inr e))))
theorem Eg.noParked (h:Eg w eb k M):EgGo w (w.setCell ⟨eb,3,none⟩ (.slice none 0 0)) eb k { k with vp:=.slice none 0 0 } { M with P:=[] }:=
 h.ofParked (P':=[]) (Out.refl _ _) (World.ownsRow_nil _ _ _ _) (fun j hj=>by cases hj)
theorem Eg.ofNew (h:Eg w eb k M) {bb':Nat} {b':BkS} (hb:Below w.heap.size w w1) (hbk:Bk w1 bb' 0 b') (hl:Lnk b'.S []) (hf:∀j,b'.foot bb' j→w.heap.size≤j):
  EgGo w (w1.setCell ⟨eb,2,none⟩ (.pointer (some ⟨bb',0,none⟩))) eb k { k with bb:=bb',b:=b' } { M with L:=[] }:=by
 have h1:=h.below hb;have ho2:=aN0 w1 ⟨eb,2,none⟩ (.pointer (some ⟨bb',0,none⟩));have hb2:=aH0 (j:=2) (.pointer (some ⟨bb',0,none⟩)) h1.box;have hebl:=lt_of_block h.box;refine ⟨⟨hb2,⟨bH0 h1.tab.1 ho2 (fun e=>h.far _ (Or.inl rfl) (Or.inl e)),bR0 h1.tab.2 ho2 (fun e=>h.far _ (Or.inr rfl) (Or.inl e))⟩,Nat.lt_of_lt_of_le h1.tlt ho2.size,aE0 h1.bn ho2 (fun e=>h.ebnb e.symm),(hbk.out ho2 (fun j hj e=>by have:=hf j hj;have e':j=eb:=e;omega)).more (Nat.zero_le _) h.bk.steps,hl,aL0 h1.pk ho2 (fun j hj e=>h.ebpk (by rw [←show j=eb from e];exact hj)),h1.tkn.same (ho2.block _ h1.tkn.lt (fun e=>h.ebtk e.symm)),fun e=>?_,h.few,fun j hj e=>?_⟩,?_,?_,rfl,rfl⟩
 ·have:=hf _ e;have h2:=h.tkn.lt;have e':w.heap.size≤k.tk:=this;omega
 ·have hlt:j<w.heap.size:=by
   rcases hj with rfl | rfl
   ·exact h.tlt'
   ·exact h.tlt
  rcases e with e | e | e | e | e
  ·exact h.far j hj (Or.inl e)
  ·exact h.far j hj (Or.inr (Or.inl e))
  ·have:=hf j e;omega
  ·exact h.far j hj (Or.inr (Or.inr (Or.inr (Or.inl e))))
  ·exact h.far j hj (Or.inr (Or.inr (Or.inr (Or.inr e))))
 ·have h2:Out (k.foot eb) w1 (w1.setCell ⟨eb,2,none⟩ (.pointer (some ⟨bb',0,none⟩))):=⟨ho2.os,ho2.tape,ho2.output,ho2.size,fun i hi hn=>ho2.block i hi (fun e=>hn (Or.inl e))⟩;exact bA0 (Out.of_below hb lR7) h2
 ·intro j hj;rcases hj with e | e | e | e | e
  ·exact Or.inl (Or.inl e)
  ·exact Or.inl (Or.inr (Or.inl e))
  ·exact Or.inr (hf j e)
  ·exact Or.inl (Or.inr (Or.inr (Or.inr (Or.inl e))))
  ·exact Or.inl (Or.inr (Or.inr (Or.inr (Or.inr e))))
end
set_option maxRecDepth 4000 in
set_option maxHeartbeats 2000000 in
theorem gD1 (eb:Nat) (k:EgK) (M:Mkt) (w:World) (h:Eg w eb k M) (hP:M.P.length≤100) (hw:∀o∈M.P,(Lit.int .i64 o.id).wf=true) (hm:k.m≤700000):
  Calls Tryz.prog 126 #[.pointer (some ⟨eb,0,none⟩)] w fun e w'=>∃k',e=.returned (.tuple #[])∧EgGo w w' eb k k' (jE0 M)∧k'.m≤k.m+100:=by
 have c5:w.cell? ⟨eb,5,none⟩=some (.int .i64 M.ph):=aA0 (j:=5) h.box rfl;have f5:=aB0 (j:=5) h.box;have h1:=h.write (j:=5) (u:=.int .i64 5) (M':={ M with ph:=5 }) rfl rfl rfl rfl rfl ⟨rfl,rfl,rfl,rfl⟩;have HW:Hid (∀o∈M.P,(Lit.int .i64 o.id).wf=true):=hw;clear h hw;go_enter Tryz.func126,Tryz.ntmps126;go_upto_region 1 with fail;generalize w.setCell ⟨eb,5,none⟩ (.int .i64 5)=w1 at h1 ⊢;obtain ⟨pa,pc,hvp,hin⟩:=bX0.of_row h1.1.pk;have c3:w1.cell? ⟨eb,3,none⟩=some (.slice pa M.P.length pc):=(aA0 (j:=3) (v:=k.vp) h1.1.box rfl).trans (by rw [hvp])
 have hfar:∀b off,pa=some ⟨b,off,none⟩→¬k.b.foot k.bb b:=fun b off e=>by
  rcases h1.1.pk.2 with ⟨e1,_⟩ | ⟨g,cap,cur,e1,_,hh,_⟩
  ·rw [hvp,e] at e1;cases e1
  ·rw [hvp,e] at e1;injection e1 with e1 _ _;injection e1 with e1;injection e1 with e1 _ _;subst e1;exact h1.1.bk.farBox hh (by decide) (by decide) (by decide) (by decide) (by decide)
 have H1:Hid (EgGo w w1 eb k k { M with ph:=5 }):=h1;have HIN:Hid (bX0 w1 pa M.P):=hin;have HF:Hid (∀b off,pa=some ⟨b,off,none⟩→¬k.b.foot k.bb b):=hfar;have hm2:k.m+M.P.length≤900000:=by omega
 clear h1 c5 f5 hvp hin hfar;go_wp2_with fail;refine (jS1 eb k { M with ph:=5 } pa pc M.P w1 H1.out.1 HIN.out HW.out HF.out hm2).mono ?_;rintro e w2 ⟨rfl,b2,hl2,hg2⟩;have h2:=H1.out.1.ofBook hg2 hl2 (Nat.le_add_right _ _);have d3:w2.cell? ⟨eb,3,none⟩=some k.vp:=aA0 (j:=3) h2.1.box rfl;have g3:=aB0 (j:=3) h2.1.box;have H2:Hid (EgGo w w2 eb k { k with m:=k.m+M.P.length,b:=b2 } { M with ph:=5,L:=layL M.P M.L }):=H1.out.trans h2;clear h2 hl2 hg2 c3;go_wp2_with fail;refine bodyPost_end (results_none rfl _ _ _) rfl ?_;refine ⟨_,rfl,H2.out.trans H2.out.1.noParked,?_⟩;show k.m+M.P.length≤k.m+100;omega
def finM (M:Mkt):List Fil×Mkt:=((if M.ph=5 then (uncM M).1 else []),{ (if M.ph=5 then (uncM M).2 else M) with L:=[],P:=[],ph:=7 })
def rX1 (w:World) (eb:Nat) (k:EgK) (M:Mkt) (u3:Value) (wc:World):Prop:=
 ∃k1:EgK,wc.ownsRow w.heap.size 146 4 u3 (finM M).1.length (fV (finM M).1)∧EgGo w wc eb k k1 (if M.ph=5 then (uncM M).2 else M)∧k1.m≤k.m+302
theorem nA1 {w wc:World} {eb:Nat} {k k1:EgK} {M:Mkt} {u3:Value} (h1:wc.ownsRow w.heap.size 146 4 u3 (finM M).1.length (fV (finM M).1)) (h2:EgGo w wc eb k k1 (if M.ph=5 then (uncM M).2 else M)) (h3:k1.m≤k.m+302):rX1 w eb k M u3 wc:=⟨k1,h1,h2,h3⟩
set_option maxRecDepth 4000 in
set_option maxHeartbeats 4000000 in
theorem lB1 (eb:Nat) (k:EgK) (M:Mkt) (w:World) (h:Eg w eb k M) (hla:1≤M.la∧M.la≤1000000) (hm:k.m≤700000):
  Calls Tryz.prog 122 #[.pointer (some ⟨eb,0,none⟩)] w fun e w'=>∃vf k',e=.returned vf∧w'.ownsRow w.heap.size 146 4 vf (finM M).1.length (fV (finM M).1)∧EgGo w w' eb k k' (finM M).2∧k'.m≤k.m+302:=by
 have c5:w.cell? ⟨eb,5,none⟩=some (.int .i64 M.ph):=aA0 (j:=5) h.box rfl;have H:Hid (Eg w eb k M):=h;clear h;go_enter Tryz.func122,Tryz.ntmps122;go_upto_if 8 with fail;go_cut [3] (fun u3 wc=>rX1 w eb k M u3 wc)
 case first=>
  by_cases h5:M.ph=5
  ·have HA:Hid (eD0 M.ph=true):=by show _=_;rw [h5];rfl
   have HE:Hid ((finM M).1=(uncM M).1∧(if M.ph=5 then (uncM M).2 else M)=(uncM M).2):=⟨by unfold finM;rw [if_pos h5],if_pos h5⟩;have e5:(M.ph == 5)=true:=beq_iff_eq.2 h5;clear h5;go_wp2_with fail;rw [e5];go_wp2_with fail;refine (uR0 eb k M w H.out HA.out hla hm).mono ?_;rintro e w1 ⟨vf,k1,rfl,hr,hg,hk⟩;have HR:Hid _:=hr;have HG:Hid _:=hg;clear hr hg;go_wp2_with fail;go_meet;exact nA1 (k1:=k1) (by rw [HE.out.1];exact HR.out) (by rw [HE.out.2];exact HG.out) hk
  ·have HE:Hid ((finM M).1=[]∧(if M.ph=5 then (uncM M).2 else M)=M):=⟨by unfold finM;rw [if_neg h5],if_neg h5⟩;have e5:(M.ph == 5)=false:=beq_eq_false_iff_ne.2 h5;clear h5;go_wp2_with fail;go_meet;exact nA1 (k1:=k) (by rw [HE.out.1];exact World.ownsRow_nil _ _ _ _) (by rw [HE.out.2];exact EgGo.refl H.out) (Nat.le_add_right _ _)
 case rest=>
  obtain ⟨k1,hr,hg,hk⟩:=hcut;have HFM:Hid (finM M=((finM M).1,{ (if M.ph=5 then (uncM M).2 else M) with L:=[],P:=[],ph:=7 })):=rfl;generalize (if M.ph=5 then (uncM M).2 else M)=M1 at hg HFM;generalize (finM M).1=fs at hr HFM;have HR:Hid (wc.ownsRow w.heap.size 146 4 u3 fs.length (fV fs)):=hr;have HG:Hid (EgGo w wc eb k k1 M1):=hg;clear hr hg c5;go_wp2_with fail;refine (qQ1 wc).mono ?_;rintro e w2 ⟨rfl,hbk,hb2⟩;have h2:=HG.out.1.ofNew hb2 hbk Lnk.start (fun j hj=>vK0 wc hj);have c2:w2.cell? ⟨eb,2,none⟩=some (.pointer (some ⟨k1.bb,0,none⟩)):=aA0 (j:=2) (HG.out.1.below hb2).box rfl;have f2:=aB0 (j:=2) (HG.out.1.below hb2).box;have h3:=h2.1.noParked;have c3:(w2.setCell ⟨eb,2,none⟩ (.pointer (some ⟨wc.heap.size+2,0,none⟩))).cell? ⟨eb,3,none⟩=some k1.vp:=aA0 (j:=3) h2.1.box rfl;have f3:=aB0 (j:=3) h2.1.box;have h23:=h2.trans h3;have H3:Hid (EgGo wc ((w2.setCell ⟨eb,2,none⟩ (.pointer (some ⟨wc.heap.size+2,0,none⟩))).setCell ⟨eb,3,none⟩ (.slice none 0 0)) eb k1 { k1 with bb:=wc.heap.size+2,b:=BkS.none_ wc.heap.size,vp:=.slice none 0 0 } { M1 with L:=[],P:=[] }):=h23;clear h23;have HR3:Hid _:=aL0 HR.out (h2.trans h3).2.1 (HG.out.1.farFills HR.out);clear hbk hb2 h2;go_upto_region 5 with fail;generalize (w2.setCell ⟨eb,2,none⟩ (.pointer (some ⟨wc.heap.size+2,0,none⟩))).setCell ⟨eb,3,none⟩ (.slice none 0 0)=w3 at h3 H3 HR3 ⊢;have c5:w3.cell? ⟨eb,5,none⟩=some (.int .i64 M1.ph):=aA0 (j:=5) h3.1.box rfl;have f5:=aB0 (j:=5) h3.1.box;have h4:=h3.1.write (j:=5) (u:=.int .i64 7) (M':={ M1 with L:=[],P:=[],ph:=7 }) rfl rfl rfl rfl rfl ⟨rfl,rfl,rfl,rfl⟩;have H4:Hid (EgGo w (w3.setCell ⟨eb,5,none⟩ (.int .i64 7)) eb k { k1 with bb:=wc.heap.size+2,b:=BkS.none_ wc.heap.size,vp:=.slice none 0 0 } { M1 with L:=[],P:=[],ph:=7 }):=(HG.out.trans H3.out).trans h4;have HR4:Hid _:=aL0 HR3.out h4.2.1 (H3.out.1.farFills HR3.out);clear h3 h4 c2 f2 c3 f3;go_wp2_with fail;go_ret;rw [HFM.out];exact ⟨u3,_,rfl,HR4.out,H4.out,hk⟩
end Go.Proofs.YtaelphbianmckaaGreatDoor
