/- A part of the proof of EnginePlays. -/
import Derived.Test.YtjdkagafdnchhaaGreatDoorPR
import Derived.Test.YtjdkagafdnchhaaGreatDoorPS
import Derived.Test.YtjdkagafdnchhaaGreatDoorPT
import Derived.Test.YtjdkagafdnchhaaGreatDoorPN
import Derived.Test.YtjdkagafdnchhaaGreatDoorPM
import Derived.Deep.RegionHeld3
import Derived.Deep.CutRange
import Derived.Test.YtjdkagafdnchhaaGreatDoorPA
import Derived.Defers
import Derived.Recover
import Derived.Shelf.Abstract
import Derived.Test.YtjdkagafdnchhaaGreatDoorPF
import Derived.Test.YtjdkagafdnchhaaGreatDoorPQ
import Derived.Deep.RegionWith
namespace Go.Proofs.YtjdkagafdnchhaaGreatDoor
open Go.RowKit
theorem nJ1 (eb s:Nat) (k:EgK) (M:Mkt) (w:World) (h:Eg w eb k M) (hs:s<2) (side:Int) (hsd:side=(s:Int)+1):
  Calls Tryz.prog 22 #[.pointer (some ⟨eb,0,none⟩),.int .i64 side] w fun e w'=>∃v,e=.returned (.tuple #[v,.nilIface])∧w'.ownsRow w.heap.size 41 5 v (aJ0 side M.L).length (oV (aJ0 side M.L))∧Below w.heap.size w w':=by
 have c2:w.cell? ⟨eb,2,none⟩=some (.pointer (some ⟨k.bb,0,none⟩)):=aA0 (j:=2) h.box rfl;have HE:Hid ((k.b.S s).map Ly.o=aJ0 side M.L):=by show _=_;rw [hsd];exact h.lnk.side s hs
 have HSD:Hid (side=(s:Int)+1):=hsd;have HB:Hid _:=h.bk;clear h hsd;go_enter Tryz.func22,Tryz.ntmps22;go_wp2_with fail;refine (nF0 k.bb k.m s k.b w HB.out hs side HSD.out).mono ?_;rintro e w1 ⟨v,rfl,h1,h2⟩;rw [HE.out,show (k.b.S s).length=(aJ0 side M.L).length by rw [←HE.out,List.length_map]] at h1;have H1:Hid _:=h1;have H2:Hid _:=h2;clear h1 h2;go_wp2_with fail;go_ret2;exact ⟨v,rfl,H1.out,H2.out⟩
def jD0 (L:List Ord):List Ord:=aJ0 1 L++aJ0 2 L
theorem pX0 {L:List Ord} (h:LOk L):(jD0 L).length=L.length:=(hZ0 h).length_eq
theorem Tryz.infoOrdE:(Tryz.prog.info? 41).map (fun i=>(i.zero,i.size,i.bytes))=some (some (.agg #[.int .i64 0,.int .i64 0,.int .i64 0,.int .i64 0,.int .i64 0]),5,40):=by kernel_rfl
set_option maxRecDepth 4000 in
set_option maxHeartbeats 2000000 in
theorem hG1 (eb:Nat) (k:EgK) (M:Mkt) (w:World) (h:Eg w eb k M):
  Calls Tryz.prog 73 #[.pointer (some ⟨eb,0,none⟩)] w fun e w'=>∃v,e=.returned v∧w'.ownsRow w.heap.size 41 5 v (jD0 M.L).length (oV (jD0 M.L))∧Below w.heap.size w w':=by
 obtain ⟨i0,hi0,hz0,hz1,hz2⟩:=info_parts Tryz.infoOrdE
 have hl:(aJ0 1 M.L).length+(aJ0 2 M.L).length≤100:=by
  have h1:=pX0 h.lok;have h2:=h.few100;unfold jD0 at h1;rw [List.length_append] at h1;omega
 have c2:w.cell? ⟨eb,2,none⟩=some (.pointer (some ⟨k.bb,0,none⟩)):=aA0 (j:=2) h.box rfl;have HE1:Hid ((k.b.S 0).map Ly.o=aJ0 1 M.L):=h.lnk.side 0 (by decide);have HE2:Hid ((k.b.S 1).map Ly.o=aJ0 2 M.L):=h.lnk.side 1 (by decide);have H:Hid (Eg w eb k M):=h;clear h;go_enter Tryz.func73,Tryz.ntmps73;go_wp2_with fail;refine (nF0 k.bb k.m 0 k.b w H.out.bk (by decide) 1 rfl).mono ?_;rintro e w1 ⟨v1,rfl,h1,hb1⟩;rw [HE1.out,show (k.b.S 0).length=(aJ0 1 M.L).length by rw [←HE1.out,List.length_map]] at h1;have c2':w1.cell? ⟨eb,2,none⟩=some (.pointer (some ⟨k.bb,0,none⟩)):=aA0 (j:=2) (H.out.below hb1).box rfl;have H1:Hid _:=h1;have HB1:Hid (Below w.heap.size w w1):=hb1;clear h1 hb1 c2;go_wp2_with fail;refine (nF0 k.bb k.m 1 k.b w1 (H.out.below HB1.out).bk (by decide) 2 rfl).mono ?_;rintro e w2 ⟨v2,rfl,h2,hb2⟩;rw [HE2.out,show (k.b.S 1).length=(aJ0 2 M.L).length by rw [←HE2.out,List.length_map]] at h2;have hr1:w2.ownsRow w.heap.size 41 5 v1 (aJ0 1 M.L).length (oV (aJ0 1 M.L)):=aO0 H1.out hb2 lR7;obtain ⟨a2,n2,rfl,_,_⟩:=bB0 h2;have HL2:Hid (xT0 w2 a2 (aJ0 2 M.L).length (oV (aJ0 2 M.L))):=xT0.of_row h2 (Below.refl _ _);have HR1:Hid (w2.ownsRow w.heap.size 41 5 v1 (aJ0 1 M.L).length (oV (aJ0 1 M.L))):=hr1;have HB2:Hid (Below w.heap.size w w2):=aD0 HB1.out hb2;have hws:w.heap.size≤w2.heap.size:=HB2.out.size;have q63:(aJ0 1 M.L).length+(aJ0 2 M.L).length≤maxLen:=by unfold maxLen;omega
 clear h2 hb2 hr1 c2';go_wp2_with (at_builtin;refine mJ0 _ rfl _ _ 59 rfl w.heap.size 41 i0 _ 5 40 Tryz.underlying59 hi0 hz0 hz1 hz2 (by rfl) (by omega) v1 (aJ0 1 M.L).length (oV (aJ0 1 M.L)) (by rfl) HR1.out a2 (aJ0 2 M.L).length n2 (oV (aJ0 2 M.L)) (by rfl) (bR0 _) HL2.out (gV0 _) q63 (by omega) hws ?_;intro v3 w3 h3 hg3 hk3;have H3:Hid _:=h3;have HO3:Hid (Out (fun j=>v1.ownBlock=some j) w2 w3):=Out.of_grown hg3 (fun _ e=>e);clear h3 hg3 hk3);go_ret
 have hbb:Below w.heap.size w w3:=by
  have ho:Out (fun j=>v1.ownBlock=some j) w w3:=(Out.of_below HB2.out lR7).trans HO3.out (Went.refl _ _)
  exact ⟨ho.os,ho.tape,ho.output,ho.size,fun j hj=>by
   by_cases hlt:j<w.heap.size
   ·exact ho.block j hlt (fun e=>by have:=(HR1.out.lt j e).1;omega)
   ·omega⟩
 refine ⟨v3,rfl,?_,hbb⟩;have:=H3.out;unfold jD0;rw [List.length_append,cC0];exact this
def lL1 (q:Quo):Value:=.agg #[.int .i64 q.price,.int .i64 q.qty,.int .i64 q.sur]
set_option maxRecDepth 4000 in
set_option maxHeartbeats 4000000 in
theorem yF0 (eb:Nat) (k:EgK) (M:Mkt) (w:World) (h:Eg w eb k M) (hla:1≤M.la∧M.la≤1000000):
  Calls Tryz.prog 25 #[.pointer (some ⟨eb,0,none⟩)] w fun e w'=>e=.returned (lL1 (gQ0 M))∧Below w.heap.size w w':=by
 have hok:=h.lok;have hL:=h.few100;have hbl:(jD0 M.L).length≤100:=by rw [pX0 hok];exact hL
 have HP:Hid (aR0 (jD0 M.L) M.la=aR0 M.L M.la):=cC1 (hZ0 hok) M.la;have HWF:Hid (∀o∈jD0 M.L,wf64 o.price):=fun o ho=>by have:=hok.ok o ((hZ0 hok).mem_iff.1 ho);exact WalkArith.wf_i64 (by omega)
 have hsm:∀x∈aR0 M.L M.la,x.Small:=pG0 (by omega) (fun o ho=>by have:=hok.ok o ho;omega) (by omega);have HSM:Hid (∀x∈aR0 M.L M.la,x.Small):=hsm;have hcl:(aR0 M.L M.la).length≤1000:=by have:=uZ0 M.L M.la;omega
 have H:Hid (Eg w eb k M):=h;have hb0:=bel1 w (.cells #[.int .i64 0,.int .i64 0,.int .i64 0] 69);have hq0:=heap_alloc_new w (.cells #[.int .i64 0,.int .i64 0,.int .i64 0] 69);clear h hok hsm;cases ha:eE0 M.ph with
 | false=>
  have HQ:Hid (gQ0 M=⟨0,0,0⟩):=by show _=_;unfold gQ0;rw [ha];rfl
  have HA:Hid (eE0 M.ph=false):=ha;clear ha;go_enter Tryz.func25,Tryz.ntmps25;go_upto_region 1 with fail;generalize w.alloc (.cells #[.int .i64 0,.int .i64 0,.int .i64 0] 69)=w1 at hb0 hq0 ⊢;have c5:w1.cell? ⟨eb,5,none⟩=some (.int .i64 M.ph):=aA0 (j:=5) (H.out.below hb0).box rfl;have z0:=aA0 (j:=0) hq0 rfl;have z1:=aA0 (j:=1) hq0 rfl;have z2:=aA0 (j:=2) hq0 rfl;have y0:=aB0 (j:=0) hq0;have y1:=aB0 (j:=1) hq0;have y2:=aB0 (j:=2) hq0;have HB0:Hid (Below w.heap.size w w1):=hb0;have HQ0:Hid _:=hq0;clear hb0 hq0;go_wp2_with fail;refine (dW1 M.ph w1).mono ?_;rintro e w1' ⟨rfl,hw⟩;subst hw;rw [HA.out];go_wp2_with fail;have HW:=aK0 (j:=2) (.int .i64 0) (aK0 (j:=1) (.int .i64 0) (aK0 (j:=0) (.int .i64 0) HQ0.out));have HB7:Hid (Below w.heap.size w (((w1'.setCell ⟨w.heap.size,0,none⟩ (.int .i64 0)).setCell ⟨w.heap.size,1,none⟩ (.int .i64 0)).setCell ⟨w.heap.size,2,none⟩ (.int .i64 0))):=((HB0.out.setCell (p:=⟨w.heap.size,0,none⟩) lR7 _).setCell (p:=⟨w.heap.size,1,none⟩) lR7 _).setCell (p:=⟨w.heap.size,2,none⟩) lR7 _;clear z0 z1 z2 y0 y1 y2 c5;generalize ((w1'.setCell ⟨w.heap.size,0,none⟩ (.int .i64 0)).setCell ⟨w.heap.size,1,none⟩ (.int .i64 0)).setCell ⟨w.heap.size,2,none⟩ (.int .i64 0)=w7 at HW HB7 ⊢;have q0:w7.cell? ⟨w.heap.size,0,none⟩=some (.int .i64 0):=aA0 (j:=0) HW rfl;have q1:w7.cell? ⟨w.heap.size,1,none⟩=some (.int .i64 0):=aA0 (j:=1) HW rfl;have q2:w7.cell? ⟨w.heap.size,2,none⟩=some (.int .i64 0):=aA0 (j:=2) HW rfl;refine bodyPost_ret (by simp [results,Tryz.results25,go_sem,q0,q1,q2];try rfl) rfl ?_;exact ⟨by rw [HQ.out];rfl,HB7.out⟩
 | true=>
  have HQ:Hid (gQ0 M=aN0 (aR0 M.L M.la) M.la):=by show _=_;unfold gQ0;rw [ha];rfl
  have HA:Hid (eE0 M.ph=true):=ha;clear ha;go_enter Tryz.func25,Tryz.ntmps25;go_upto_region 1 with fail;generalize w.alloc (.cells #[.int .i64 0,.int .i64 0,.int .i64 0] 69)=w1 at hb0 hq0 ⊢;have h1:=H.out.below hb0;have c5:w1.cell? ⟨eb,5,none⟩=some (.int .i64 M.ph):=aA0 (j:=5) h1.box rfl;have c1:w1.cell? ⟨eb,1,none⟩=some (.pointer (some ⟨k.nb,0,none⟩)):=aA0 (j:=1) h1.box rfl;have H1:Hid (Eg w1 eb k M):=h1;have HB0:Hid (Below w.heap.size w w1):=hb0;have HQ0:Hid _:=hq0;clear hb0 hq0 h1;go_wp2_with fail;refine (dW1 M.ph w1).mono ?_;rintro e w1' ⟨rfl,hw⟩;subst hw;rw [HA.out];go_wp2_with fail;refine (mQ1 k.nb M.st M.dy M.an M.la w1' H1.out.bn).mono ?_;rintro e w2 ⟨rfl,hb2⟩;have H2:Hid (Eg w2 eb k M):=H1.out.below hb2;have HQ2:Hid _:=aC0 HQ0.out hb2 lR7;have HB2:Hid (Below w.heap.size w w2):=aD0 HB0.out hb2;clear hb2 c5 c1;go_wp2_with fail;refine (hG1 eb k M w2 H2.out).mono ?_;rintro e w3 ⟨v3,rfl,hr3,hb3⟩;obtain ⟨a3,n3,rfl,hin3⟩:=cR0.of_row hr3;have HI3:Hid _:=hin3;have HQ3:Hid _:=aC0 HQ2.out hb3 lR7;have HB3:Hid (Below w.heap.size w w3):=aD0 HB2.out hb3;clear hb3 hr3 hin3;go_wp2_with fail;refine (tP1 a3 n3 (jD0 M.L) M.la w3 HI3.out (by omega) HWF.out (WalkArith.wf_i64 (by omega))).mono ?_;rintro e w4 ⟨v4,rfl,hr4,hb4⟩;rw [HP.out] at hr4;obtain ⟨a4,n4,rfl,hin4⟩:=gS0.of_row hr4;have HI4:Hid _:=hin4;have HQ4:Hid _:=aC0 HQ3.out hb4 lR7;have HB4:Hid (Below w.heap.size w w4):=aD0 HB3.out hb4;clear hb4 hr4 hin4;go_wp2_with fail;refine (lK1 a4 n4 (aR0 M.L M.la) M.la w4 HI4.out hcl HSM.out (by omega)).mono ?_;rintro e w6 ⟨rfl,hb6⟩;have hq6:=aC0 HQ4.out hb6 lR7;have HB6:Hid (Below w.heap.size w w6):=aD0 HB4.out hb6;have z0:=aA0 (j:=0) hq6 rfl;have z1:=aA0 (j:=1) hq6 rfl;have z2:=aA0 (j:=2) hq6 rfl;have y0:=aB0 (j:=0) hq6;have y1:=aB0 (j:=1) hq6;have y2:=aB0 (j:=2) hq6;have HQ6:Hid _:=hq6;clear hq6 hb6;go_wp2_with fail;have HW7:=aK0 (j:=2) (.int .i64 (aN0 (aR0 M.L M.la) M.la).sur) (aK0 (j:=1) (.int .i64 (aN0 (aR0 M.L M.la) M.la).qty) (aK0 (j:=0) (.int .i64 (aN0 (aR0 M.L M.la) M.la).price) HQ6.out));have HB7:Hid (Below w.heap.size w (((w6.setCell ⟨w.heap.size,0,none⟩ (.int .i64 (aN0 (aR0 M.L M.la) M.la).price)).setCell ⟨w.heap.size,1,none⟩ (.int .i64 (aN0 (aR0 M.L M.la) M.la).qty)).setCell ⟨w.heap.size,2,none⟩ (.int .i64 (aN0 (aR0 M.L M.la) M.la).sur))):=((HB6.out.setCell (p:=⟨w.heap.size,0,none⟩) lR7 _).setCell (p:=⟨w.heap.size,1,none⟩) lR7 _).setCell (p:=⟨w.heap.size,2,none⟩) lR7 _;clear z0 z1 z2 y0 y1 y2;generalize (((w6.setCell ⟨w.heap.size,0,none⟩ (.int .i64 (aN0 (aR0 M.L M.la) M.la).price)).setCell ⟨w.heap.size,1,none⟩ (.int .i64 (aN0 (aR0 M.L M.la) M.la).qty)).setCell ⟨w.heap.size,2,none⟩ (.int .i64 (aN0 (aR0 M.L M.la) M.la).sur))=w7 at HW7 HB7 ⊢;have q0:w7.cell? ⟨w.heap.size,0,none⟩=some (.int .i64 (aN0 (aR0 M.L M.la) M.la).price):=aA0 (j:=0) HW7 rfl;have q1:w7.cell? ⟨w.heap.size,1,none⟩=some (.int .i64 (aN0 (aR0 M.L M.la) M.la).qty):=aA0 (j:=1) HW7 rfl;have q2:w7.cell? ⟨w.heap.size,2,none⟩=some (.int .i64 (aN0 (aR0 M.L M.la) M.la).sur):=aA0 (j:=2) HW7 rfl;go_wp2_with fail;refine bodyPost_ret (by simp [results,Tryz.results25,go_sem,q0,q1,q2];try rfl) rfl ?_;exact ⟨by rw [HQ.out];rfl,HB7.out⟩
def layL (l:List Ord) (L:List Ord):List Ord:=l.foldl (fun L o=>addL o L) L
theorem hH1 {l:List Ord} {i:Nat} (L:List Ord) (h:i<l.length):layL (l.take (i+1)) L=addL (oAt l i) (layL (l.take i) L):=by
 unfold layL;rw [List.take_succ_eq_append_getElem h,List.foldl_append,←dL0 h];rfl
theorem cR0.out {S:Nat→Prop} {w w':World} {a:Option Addr} {l:List Ord} (h:cR0 w a l) (ho:Out S w w') (hS:∀b off,a=some ⟨b,off,none⟩→¬S b):cR0 w' a l:=fun k hk=>by
 obtain ⟨b,off,e,h0,h1,h2,h3,h4⟩:=h k hk;have hn:=hS b off e;exact ⟨b,off,e,cQ0 h0 ho hn,cQ0 h1 ho hn,cQ0 h2 ho hn,cQ0 h3 ho hn,cQ0 h4 ho hn⟩
theorem jE0 {w w1 w2:World} {bb m m1:Nat} {b b1 b2:BkS} (h:Goes w w1 bb m b b1) (h1:Goes w1 w2 bb m1 b1 b2):Goes w w2 bb m1 b b2:=⟨h1.1,h.2.1.trans h1.2.1 h.2.2,h.2.2.trans h1.2.2 h.2.1.size⟩
theorem sV0 {w w1 w2:World} {bb m:Nat} {b b1:BkS} (h:Goes w w1 bb m b b1) (h1:Below w1.heap.size w1 w2):Goes w w2 bb m b b1:=jE0 h ⟨h.1.below h1 lR7,Out.of_below h1 lR7,Went.refl _ _⟩
theorem lJ0 {w w1 w2:World} {bb m m1:Nat} {b b1:BkS} (h:Bk w bb m b) (hb:Below w.heap.size w w1) (h1:Goes w1 w2 bb m1 b b1):Goes w w2 bb m1 b b1:=jE0 ⟨h.below hb lR7,Out.of_below hb lR7,Went.refl _ _⟩ h1
set_option maxRecDepth 4000 in
set_option maxHeartbeats 2000000 in
theorem lM1 (eb:Nat) (k:EgK) (M:Mkt) (a:Option Addr) (cap:Nat) (l:List Ord) (w:World) (h:Eg w eb k M) (hin:cR0 w a l) (hw:∀o∈l,(Lit.int .i64 o.id).wf=true) (hf:∀b off,a=some ⟨b,off,none⟩→¬k.b.foot k.bb b) (hm:k.m+l.length≤900000):
  Calls Tryz.prog 50 #[.pointer (some ⟨eb,0,none⟩),.slice a l.length cap] w fun e w'=>e=.returned (.tuple #[])∧∃b',Lnk b'.S (layL l M.L)∧Goes w w' k.bb (k.m+l.length) k.b b':=by
 have H:Hid (Eg w eb k M):=h;have HIN:Hid (cR0 w a l):=hin;have HW:Hid (∀o∈l,(Lit.int .i64 o.id).wf=true):=hw;have HF:Hid (∀b off,a=some ⟨b,off,none⟩→¬k.b.foot k.bb b):=hf;clear h hin hw hf;go_enter Tryz.func50,Tryz.ntmps50;go_wp2_with fail;go_loopw [8] (fun u wr=>∃(i:Nat) (b1:BkS),u=.int .i64 i∧i≤l.length∧Lnk b1.S (layL (l.take i) M.L)∧Goes w wr k.bb (k.m+i) k.b b1) (fun u _=>l.length - (intOf u).toNat)
 case atStart=>exact ⟨0,k.b,rfl,Nat.zero_le _,H.out.lnk,H.out.bk,Out.refl _ _,Went.refl _ _⟩
 case round=>
  obtain ⟨i,b1,rfl,hi,hln,hg⟩:=hrel;have HLN:Hid (Lnk b1.S (layL (l.take i) M.L)):=hln;have HG:Hid (Goes w wr k.bb (k.m+i) k.b b1):=hg
  by_cases hi1:i<l.length
  ·have hlt:(i:Int)<(l.length:Int):=by omega
   obtain ⟨g,off,e1,d0,d1,d2,d3,d4⟩:=(HIN.out.out hg.2.1 HF.out) i hi1;subst e1;have HWI:Hid ((Lit.int .i64 (oAt l i).id).wf=true):=HW.out _ (by rw [dL0 hi1];exact List.getElem_mem hi1);have HS:Hid (layL (l.take (i+1)) M.L=addL (oAt l i) (layL (l.take i) M.L)):=hH1 M.L hi1;have HE:Hid (Eg wr eb { k with m:=k.m+i,b:=b1 } { M with L:=layL (l.take i) M.L }):=(H.out.ofBook hg hln (Nat.le_add_right _ _)).1;generalize oAt l i=o at d0 d1 d2 d3 d4 HWI HS;clear hg hln;go_upto_region 3 with fail;have hx:=heap_alloc_new wr (.cells #[.int .i64 o.id,.int .i64 o.side,.int .i64 o.kind,.int .i64 o.price,.int .i64 o.qty] 41);have HB1:=bel1 wr (.cells #[.int .i64 o.id,.int .i64 o.side,.int .i64 o.kind,.int .i64 o.price,.int .i64 o.qty] 41);generalize wr.alloc (.cells #[.int .i64 o.id,.int .i64 o.side,.int .i64 o.kind,.int .i64 o.price,.int .i64 o.qty] 41)=w1 at hx HB1 ⊢;have h1:=HE.out.below HB1;have HG1:Hid (Goes w w1 k.bb (k.m+i) k.b b1):=sV0 HG.out HB1;have hne:¬b1.foot k.bb wr.heap.size:=h1.bk.farBox hx (by decide) (by decide) (by decide) (by decide) (by decide)
   have HSS:Hid (∀w',Out (b1.foot k.bb) w1 w'→w'.cell? ⟨eb,2,none⟩=some (.pointer (some ⟨k.bb,0,none⟩))∧w'.cell? ⟨wr.heap.size,0,none⟩=some (.int .i64 o.id)∧w'.cell? ⟨wr.heap.size,1,none⟩=some (.int .i64 o.side)∧w'.cell? ⟨wr.heap.size,2,none⟩=some (.int .i64 o.kind)∧w'.cell? ⟨wr.heap.size,3,none⟩=some (.int .i64 o.price)∧w'.cell? ⟨wr.heap.size,4,none⟩=some (.int .i64 o.qty)∧Out (b1.foot k.bb) w1 w'):=fun w' ho=>by
    have hx':=aE0 hx ho hne;exact ⟨aA0 (j:=2) (aE0 h1.box ho h1.ebbk) rfl,aA0 (j:=0) hx' rfl,aA0 (j:=1) hx' rfl,aA0 (j:=2) hx' rfl,aA0 (j:=3) hx' rfl,aA0 (j:=4) hx' rfl,ho⟩
   have HBK:Hid (Bk w1 k.bb (k.m+i) b1):=h1.bk;clear hx HB1 d0 d1 d2 d3 d4 hne h1 HE HG;have hm1:k.m+i+1≤900000:=by omega
   go_region_held3 (fun w'=>w'.cell? ⟨eb,2,none⟩=some (.pointer (some ⟨k.bb,0,none⟩))∧w'.cell? ⟨wr.heap.size,0,none⟩=some (.int .i64 o.id)∧w'.cell? ⟨wr.heap.size,1,none⟩=some (.int .i64 o.side)∧w'.cell? ⟨wr.heap.size,2,none⟩=some (.int .i64 o.kind)∧w'.cell? ⟨wr.heap.size,3,none⟩=some (.int .i64 o.price)∧w'.cell? ⟨wr.heap.size,4,none⟩=some (.int .i64 o.qty)∧Out (b1.foot k.bb) w1 w')
    ((refine HSS.out _ ?_;(first | exact HO2.out | exact Out.refl _ _ | exact aU0 (Out.refl _ _))))
    ((go_at_call 98;refine (kR1 (HBK.out.below (Below.refl _ _).drew lR7) hm1 HLN.out o HWI.out).mono ?_;rintro e w2 ⟨err,rfl,_,b2,hl2,hg2⟩;have HL2:Hid _:=hl2;have HG2:Hid (Goes w1 w2 k.bb (k.m+i+1) b1 b2):=lJ0 HBK.out (Below.refl _ _).drew hg2;have HO2:Hid (Out (b1.foot k.bb) w1 w2):=HG2.out.2.1;clear hl2 hg2))
   go_wp2_with fail;go_roundw
   case rel=>exact ⟨i+1,b2,by go_num,hi1,by rw [HS.out];exact HL2.out,jE0 HG1.out HG2.out⟩
   case measure=>first | (simp [intOf];omega) | (show l.length - (i+1)<l.length - i;omega) | omega
  ·obtain rfl:i=l.length:=by omega
   rw [List.take_length] at HLN;clear hg hln;go_wp2_with fail;refine bodyPost_end (results_none rfl _ _ _) rfl ?_;exact ⟨rfl,b1,HLN.out,HG.out⟩
def goL (X:List Ord) (L:List Ord):List Ord:=X.foldl (fun L o=>if o.kind=1 then L else canL o.id L) L
theorem lN1 {l:List Ord} {i:Nat} (L:List Ord) (h:i<l.length):goL (l.take (i+1)) L=if (oAt l i).kind=1 then goL (l.take i) L else canL (oAt l i).id (goL (l.take i) L):=by
 unfold goL;rw [List.take_succ_eq_append_getElem h,List.foldl_append,←dL0 h];rfl
theorem yG0 {L:List Ord} (hn:(L.map Ord.id).Nodup) (id:Int):canL id L=L.filter fun o=>decide (o.id≠id):=by
 unfold canL;rcases kB0 id L 0 with h | ⟨j,hj,h1,h2⟩
 ·have h3:idxO id L=-1:=h;rw [if_pos h3];refine (List.filter_eq_self.2 (fun o ho=>?_)).symm;rw [decide_eq_true_eq];intro e;have:=kQ0 id L 0 ⟨o,ho,e⟩;have e2:idxF id 0 L=-1:=h;omega
 ·have h3:idxO id L=(j:Int):=by
   have:idxO id L=((0+j:Nat):Int):=h1;rw [this];congr 1;omega
  rw [if_neg (by omega),show (idxO id L).toNat=j by omega,←h2];exact gY0 hn hj
theorem mL0:∀(X:List Ord) {L:List Ord},(L.map Ord.id).Nodup→goL X L=L.filter fun o=>!(X.any fun x=>decide (x.kind≠1)&& decide (x.id=o.id))
 | [],L,_=>by
  show L=_;exact (List.filter_eq_self.2 (fun o _=>rfl)).symm
 | x::X,L,hn=>by
  show goL X (if x.kind=1 then L else canL x.id L)=_
  by_cases hk:x.kind=1
  ·rw [if_pos hk,mL0 X hn];refine List.filter_congr (fun o _=>?_);rw [List.any_cons,decide_eq_false (p:=x.kind≠1) (fun e=>e hk)];rfl
  ·have hn':((L.filter fun o=>decide (o.id≠x.id)).map Ord.id).Nodup:=hn.sublist (List.filter_sublist.map _);rw [if_neg hk,yG0 hn,mL0 X hn',List.filter_filter];refine List.filter_congr (fun o _=>?_);rw [List.any_cons,decide_eq_true (p:=x.kind≠1) hk]
   by_cases e:o.id=x.id
   ·simp [e]
   ·have e':¬x.id=o.id:=fun h=>e h.symm
    simp [e,e']
theorem pX1 {L:List Ord} (h:LOk L):goL (jD0 L) L=limL L:=by
 rw [mL0 _ h.ids];unfold limL;refine List.filter_congr (fun o ho=>?_);have hmem:∀x,x∈jD0 L↔x∈L:=fun x=>(hZ0 h).mem_iff
 by_cases hk:o.kind=1
 ·rw [show (o.kind == 1)=true by simpa using hk]
  have:((jD0 L).any fun x=>decide (x.kind≠1)&& decide (x.id=o.id))=false:=by
   rw [List.any_eq_false];intro x hx;have hxo:x.id=o.id→x=o:=fun e=>mQ0 h.ids ((hmem x).1 hx) ho e
   simp only [Bool.and_eq_true,decide_eq_true_eq,not_and];intro h1 h2;exact h1 (by rw [hxo h2];exact hk)
  rw [this];rfl
 ·rw [show (o.kind == 1)=false by simpa using hk]
  have:((jD0 L).any fun x=>decide (x.kind≠1)&& decide (x.id=o.id))=true:=by
   rw [List.any_eq_true];exact ⟨o,(hmem o).2 ho,by simp [hk]⟩
  rw [this];rfl
theorem cM1 (w:World):CallsD Tryz.prog 184 #[] .returning w fun e u' w'=>e=.returned (.tuple #[])∧u'=.returning∧w'=w:=by
 refine callsD_of_wpS Tryz.func184 rfl fun c₀ cs hu=>?_
 apply wpS_region;simp [wpOpsS,go_sem,recoverD,hu,Tryz.ntmps184,bodyPostS,results,Tryz.results184];cases c₀
 simp_all
theorem yH0 (w:World):CallsD Tryz.prog 186 #[] .returning w fun e u' w'=>e=.returned (.tuple #[])∧u'=.returning∧w'=w:=by
 refine callsD_of_wpS Tryz.func186 rfl fun c₀ cs hu=>?_
 apply wpS_region;simp [wpOpsS,go_sem,recoverD,hu,Tryz.ntmps186,bodyPostS,results,Tryz.results186];cases c₀
 simp_all
set_option maxHeartbeats 1000000 in
theorem sI1 (g:Nat) (fa la:Array Value) (p:Int) (v:Bool) (W:World) (hen:∀args w,(callFunc g args).run Tryz.prog w=.ok (.enter g args) w) (Q:World→Prop)
  (hc:Calls Tryz.prog g (fa++#[.int .i64 p]++la) W fun e W'=>e=.returned (.bool v)∧Q W'):
  Calls Tryz.prog 143 #[.func (.func g) fa la,.int .i64 p] W fun e W'=>e=.returned (.bool v)∧Q W':=by
 go_enter_defers Tryz.func143,Tryz.ntmps143;go_wp2_with fail;refine hc.mono ?_;rintro e w1 ⟨rfl,hq⟩;have HQ:Hid (Q w1):=hq;clear hq;go_wp2_with fail;refine leaves_cons (f:=184) (args:=#[]) (by simp) (by simp [go_sem]) ?_;refine (cM1 _).mono ?_;rintro e u' w'' ⟨rfl,rfl,rfl⟩;exact ⟨_,results_tmp rfl _ _ _,rfl,HQ.out⟩
set_option maxHeartbeats 1000000 in
theorem pY1 (g:Nat) (fa la:Array Value) (p:Int) (W:World) (hen:∀args w,(callFunc g args).run Tryz.prog w=.ok (.enter g args) w) (Q:World→Prop)
  (hc:Calls Tryz.prog g (fa++#[.int .i64 p]++la) W fun e W'=>e=.returned (.tuple #[])∧Q W'):
  Calls Tryz.prog 146 #[.func (.func g) fa la,.int .i64 p] W fun e W'=>e=.returned (.tuple #[])∧Q W':=by
 go_enter_defers Tryz.func146,Tryz.ntmps146;go_wp2_with fail;refine hc.mono ?_;rintro e w1 ⟨rfl,hq⟩;have HQ:Hid (Q w1):=hq;clear hq;go_wp2_with fail;refine leaves_cons (f:=186) (args:=#[]) (by simp) (by simp [go_sem]) ?_;refine (yH0 _).mono ?_;rintro e u' w'' ⟨rfl,rfl,rfl⟩;exact ⟨_,results_none rfl _ _ _,rfl,HQ.out⟩
structure StE (St:World→List Int→(Nat→Prop)→Prop):Prop where
 keep:∀{w w' ts D} {S:Nat→Prop},St w ts D→Out S w w'→(∀j,D j→¬S j)→St w' ts D
 far:∀{w ts D},St w ts D→∀j,D j→j<w.heap.size∧∀vs t fr,w.heap[j]? = some (.cells vs t fr)→t≠41∧t≠115
structure AskE (g:Nat) (fa la:Array Value) (al:List Int→Int→Bool) (St:World→List Int→(Nat→Prop)→Prop):Prop where
 enters:∀args w,(callFunc g args).run Tryz.prog w=.ok (.enter g args) w
 tells:∀{W ts D},St W ts D→∀p:Int,1≤p→p≤1000000→Calls Tryz.prog g (fa++#[.int .i64 p]++la) W fun e W'=>e=.returned (.bool (al ts p))∧Below W.heap.size W W'
structure TellE (g:Nat) (fa la:Array Value) (St:World→List Int→(Nat→Prop)→Prop):Prop where
 enters:∀args w,(callFunc g args).run Tryz.prog w=.ok (.enter g args) w
 tells:∀{W ts D},St W ts D→ts.length≤1000→∀p:Int,1≤p→p≤1000000→Calls Tryz.prog g (fa++#[.int .i64 p]++la) W fun e W'=>e=.returned (.tuple #[])∧∃D',St W' (ts++[p]) D'∧Out D W W'∧∀j,D' j→D j∨W.heap.size≤j
theorem pZ1 {o x:Ord} (hs:o.side=1∨o.side=2):wilP x.price o=!farB o x:=by
 unfold wilP farB;rcases hs with h | h
 ·rw [h]
  by_cases hk:o.kind=2
  ·simp [hk]
  ·simp [hk];rw [←decide_not];exact decide_eq_decide.2 (by omega)
 ·rw [h]
  by_cases hk:o.kind=2
  ·simp [hk]
  ·simp [hk];rw [←decide_not];exact decide_eq_decide.2 (by omega)
theorem hJ1 (o x:Ord) (w:World) (hs:o.side=1∨o.side=2):
  Calls Tryz.prog 144 #[.agg #[.int .i64 o.id,.int .i64 o.side,.int .i64 o.kind,.int .i64 o.price,.int .i64 o.qty],.agg #[.int .i64 x.id,.int .i64 x.side,.int .i64 x.kind,.int .i64 x.price,.int .i64 x.qty],.int .i64 x.price] w
   fun e w'=>e=.returned (.agg #[.int .i64 (iT0 o x (min o.qty x.qty)).buyer,.int .i64 (iT0 o x (min o.qty x.qty)).seller,.int .i64 (iT0 o x (min o.qty x.qty)).price,.int .i64 (iT0 o x (min o.qty x.qty)).qty])∧Below w.heap.size w w':=by
 rcases hs with h | h
 ·have e:iT0 o x (min o.qty x.qty)=⟨o.id,x.id,x.price,min o.qty x.qty⟩:=if_pos h;rw [e];exact qX0 o x x.price w (by rw [h];rfl)
 ·have e:iT0 o x (min o.qty x.qty)=⟨x.id,o.id,x.price,min x.qty o.qty⟩:=by unfold iT0;rw [if_neg (by omega),Int.min_comm]
  rw [e];exact cA1 o x x.price w (by rw [h];rfl)
structure Mp (w W:World) (bb m ob rb B:Nat) (vx vf:Value) (b b':BkS) (X:List Ord) (o:Ord) (s:MS) (St:World→List Int→(Nat→Prop)→Prop) (D0 D:Nat→Prop):Prop where
 old:w.heap.size≤ob∧w.heap.size≤rb∧ob≠rb∧ob<B∧rb<B
 row:W.ownsRow B 41 5 vx X.length (oV X)
 box:dD0 W ob (bJ0 o s.q)
 res:ZBox W rb
 bk:Bk W bb m b'
 lnk:Lnk b'.S s.L
 fils:W.ownsRow w.heap.size 115 4 vf s.fs.length (fV s.fs)
 told:St W s.ts D
 out:Out (fun j=>b.foot bb j∨D0 j) w W
 went:Went w (b.foot bb) (b'.foot bb)
 dees:∀j,D j→D0 j∨w.heap.size≤j
 apart:∀j,D j→¬b'.foot bb j
section
variable {w W W':World} {bb m m' ob rb B:Nat} {vx vf:Value} {b b' b2:BkS} {X:List Ord} {o x:Ord} {s:MS} {St:World→List Int→(Nat→Prop)→Prop} {D0 D:Nat→Prop}
theorem Mp.below (hF:StE St) (h:Mp w W bb m ob rb B vx vf b b' X o s St D0 D) (hb:Below W.heap.size W W'):Mp w W' bb m ob rb B vx vf b b' X o s St D0 D:=
 ⟨h.old,aO0 h.row hb lR7,aC0 h.box hb lR7,aC0 h.res hb lR7,h.bk.below hb lR7,h.lnk,aO0 h.fils hb lR7,hF.keep h.told (Out.of_below (S:=fun _=>False) hb lR7) (fun _ _ e=>e),bE0 h.out (Out.of_below hb lR7),h.went,h.dees,h.apart⟩
theorem Mp.pushed (_:Mp w W bb m ob rb B vx vf b b' X o s St D0 D) {obj:Obj} (hg:(W.alloc obj).grownBy W' vf.ownBlock):Out (fun j=>vf.ownBlock=some j) W W':=bE0 (cP0 (Out.refl _ _) _) (Out.of_grown hg (fun _ hk=>hk))
theorem Mp.push (hF:StE St) (h:Mp w W bb m ob rb B vx vf b b' X o s St D0 D) {obj:Obj} {v':Value} {f:Fil} (hg:(W.alloc obj).grownBy W' vf.ownBlock) (hn:W'.ownsRow w.heap.size 115 4 v' (s.fs.length+1) (fV s.fs++[.int .i64 f.buyer,.int .i64 f.seller,.int .i64 f.price,.int .i64 f.qty])):
  Mp w W' bb m ob rb B vx v' b b' X o ⟨s.fs++[f],s.L,s.q,s.ts⟩ St D0 D:=by
 have h6:=h.pushed hg;refine ⟨h.old,aI0 h.row h6 (fun k hk=>bG0 h.row h.fils (by decide) hk),aE0 h.box h6 (aG0 h.fils h.box (by decide)),aE0 h.res h6 (aG0 h.fils h.res (by decide)),h.bk.out h6 (fun k hk e=>h.bk.farAny h.fils (by decide) (by decide) (by decide) (by decide) (by decide) k e hk),h.lnk,?_,hF.keep h.told h6 (fun j hj e=>?_),h.out.trans h6 (fun k hk=>Or.inr (h.fils.lt k hk).1),h.went,h.dees,h.apart⟩
 ·rw [rW0,List.length_append,List.length_singleton];exact hn
 ·rcases h.fils.2 with ⟨rfl,_⟩ | ⟨g,cap,cur,rfl,_,hh,_⟩
  ·cases e
  ·have e':g=j:=by simpa [Value.ownBlock] using e
   subst e';exact ((hF.far h.told _ hj).2 _ _ _ hh).2 rfl
theorem Mp.cut (hF:StE St) (h:Mp w W bb m ob rb B vx vf b b' X o s St D0 D) {L':List Ord} (hg:Goes W W' bb m' b' b2) (hl:Lnk b2.S L'):
  Mp w W' bb m' ob rb B vx vf b b2 X o ⟨s.fs,L',s.q,s.ts⟩ St D0 D:=by
 obtain ⟨g1,g2,g3⟩:=hg;refine ⟨h.old,aI0 h.row g2 (h.bk.farAny h.row (by decide) (by decide) (by decide) (by decide) (by decide)),aE0 h.box g2 (h.bk.farBox h.box (by decide) (by decide) (by decide) (by decide) (by decide)),aE0 h.res g2 (h.bk.farBox h.res (by decide) (by decide) (by decide) (by decide) (by decide)),g1,hl,aI0 h.fils g2 (h.bk.farAny h.fils (by decide) (by decide) (by decide) (by decide) (by decide)),hF.keep h.told g2 h.apart,h.out.trans g2 (fun k hk=>(h.went k hk).elim (fun e=>Or.inl (Or.inl e)) Or.inr),fun k hk=>?_,h.dees,fun j hj e=>?_⟩
 ·exact (g3 k hk).elim (h.went k) (fun e=>Or.inr (Nat.le_trans h.out.size e))
 ·rcases g3 j e with e | e
  ·exact h.apart j hj e
  ·have:=(hF.far h.told _ hj).1;omega
theorem Mp.left (hF:StE St) (h:Mp w W bb m ob rb B vx vf b b' X o s St D0 D) (q:Int):
  Mp w (W.setCell ⟨ob,4,none⟩ (.int .i64 q)) bb m ob rb B vx vf b b' X o ⟨s.fs,s.L,q,s.ts⟩ St D0 D:=by
 have ho:Out (fun j=>j=ob) W (W.setCell ⟨ob,4,none⟩ (.int .i64 q)):=aQ0 W ⟨ob,4,none⟩ _;obtain ⟨o1,o2,o3,o4,o5⟩:=h.old;have hb:¬b'.foot bb ob:=h.bk.farBox h.box (by decide) (by decide) (by decide) (by decide) (by decide);refine ⟨h.old,aI0 h.row ho (fun k hk e=>?_),aK0 (j:=4) (.int .i64 q) h.box,aE0 h.res ho (fun e=>o3 e.symm),h.bk.out ho (fun k hk e=>hb (by rw [←show k=ob from e];exact hk)),h.lnk,aI0 h.fils ho (fun k hk e=>aG0 h.fils h.box (by decide) (hk.trans (congrArg some e))),hF.keep h.told ho (fun j hj e=>?_),h.out.trans ho (fun k hk=>Or.inr (by rw [show k=ob from hk];exact o1)),h.went,h.dees,h.apart⟩
 ·have:=(h.row.lt k hk).1;have e':k=ob:=e;omega
 ·have e':j=ob:=e;subst e';exact ((hF.far h.told _ hj).2 _ _ _ h.box).1 rfl
theorem Mp.tell (hF:StE St) (h:Mp w W bb m ob rb B vx vf b b' X o s St D0 D) {D':Nat→Prop} {p:Int} (ht:St W' (s.ts++[p]) D') (ho:Out D W W') (hd:∀j,D' j→D j∨W.heap.size≤j):
  Mp w W' bb m ob rb B vx vf b b' X o ⟨s.fs,s.L,s.q,s.ts++[p]⟩ St D0 D':=by
 have hs:=h.out.size
 have no:∀{k:Nat} {vs:Array Value} {t:TypeId} {fr:Nat×Nat},W.heap[k]? = some (.cells vs t fr)→(t=41∨t=115)→¬D k:=fun hb ht hD=>by
  have:=(hF.far h.told _ hD).2 _ _ _ hb;rcases ht with e | e
  ·exact this.1 e
  ·exact this.2 e
 have nr:∀{base':Nat} {e:TypeId} {size n:Nat} {v:Value} {xs:List Value},W.ownsRow base' e size v n xs→(e=41∨e=115)→∀k,v.ownBlock=some k→¬D k:=fun hr he k hk=>by
  rcases hr.2 with ⟨rfl,_⟩ | ⟨g,cap,cur,rfl,_,hh,_⟩
  ·cases hk
  ·have e':g=k:=by simpa [Value.ownBlock] using hk
   subst e';exact no hh he
 refine ⟨h.old,aI0 h.row ho (nr h.row (Or.inl rfl)),aE0 h.box ho (no h.box (Or.inl rfl)),aE0 h.res ho (no h.res (Or.inl rfl)),h.bk.out ho (fun k hk e=>h.apart k e hk),h.lnk,aI0 h.fils ho (nr h.fils (Or.inr rfl)),ht,h.out.trans ho (fun k hk=>(h.dees k hk).elim (fun e=>Or.inl (Or.inr e)) Or.inr),h.went,fun j hj=>?_,fun j hj e=>?_⟩
 ·rcases hd j hj with e | e
  ·exact h.dees j e
  ·exact Or.inr (Nat.le_trans hs e)
 ·rcases hd j hj with e' | e'
  ·exact h.apart j e' e
  ·have:=h.bk.lt e;omega
theorem Mp.start (hF:StE St) {V:World} {L:List Ord} (h:Bk w bb m b) (hl:Lnk b.S L) (hst:St w [] D) (hap:∀j,D j→¬b.foot bb j) (hb:Below w.heap.size w V) (ho:dD0 V ob o) (hr:ZBox V rb) (h1:w.heap.size≤ob) (h2:w.heap.size≤rb) (h3:ob≠rb) (hx:W.ownsRow V.heap.size 41 5 vx X.length (oV X)) (hb2:Below V.heap.size V W):
  Mp w W bb m ob rb V.heap.size vx (.slice none 0 0) b b X o ⟨[],L,o.qty,[]⟩ St D D:=by
 have hb3:=aD0 hb hb2;exact ⟨⟨h1,h2,h3,lt_of_block ho,lt_of_block hr⟩,hx,aC0 ho hb2 lR7,aC0 hr hb2 lR7,h.below hb3 lR7,hl,World.ownsRow_nil _ _ _ _,hF.keep hst (Out.of_below (S:=fun _=>False) hb3 lR7) (fun _ _ e=>e),Out.of_below hb3 lR7,Went.refl _ _,fun j hj=>Or.inl hj,hap⟩
theorem Mp.done (hF:StE St) (h:Mp w W bb m ob rb B vx vf b b' X o s St D0 D):
  DBox (boxed W rb (bJ0 o s.q)).drew rb (bJ0 o s.q)∧(boxed W rb (bJ0 o s.q)).drew.ownsRow w.heap.size 115 4 vf s.fs.length (fV s.fs)∧Bk (boxed W rb (bJ0 o s.q)).drew bb m b'∧Lnk b'.S s.L∧St (boxed W rb (bJ0 o s.q)).drew s.ts D∧Out (fun j=>b.foot bb j∨D0 j) w (boxed W rb (bJ0 o s.q)).drew∧Went w (b.foot bb) (b'.foot bb)∧(∀j,D j→D0 j∨w.heap.size≤j):=by
 have ho:Out (fun j=>j=rb) W (boxed W rb (bJ0 o s.q)).drew:=aU0 (fW0 W rb (bJ0 o s.q))
 have hd:DBox (boxed W rb (bJ0 o s.q)).drew rb (bJ0 o s.q):=by
  unfold DBox;rw [iR0];exact jJ0 (bJ0 o s.q) h.res
 generalize (boxed W rb (bJ0 o s.q)).drew=W' at ho hd ⊢;obtain ⟨o1,o2,o3,o4,o5⟩:=h.old;have hb:¬b'.foot bb rb:=h.bk.farBox h.res (by decide) (by decide) (by decide) (by decide) (by decide);refine ⟨hd,aI0 h.fils ho (fun k hk e=>aG0 h.fils h.res (by decide) (hk.trans (congrArg some e))),h.bk.out ho (fun k hk e=>hb (by rw [←show k=rb from e];exact hk)),h.lnk,hF.keep h.told ho (fun j hj e=>?_),h.out.trans ho (fun k hk=>Or.inr (by rw [show k=rb from hk];exact o2)),h.went,h.dees⟩;have e':j=rb:=e;subst e';exact ((hF.far h.told _ hj).2 _ _ _ h.res).1 rfl
end
def nK1 (al:List Int→Int→Bool) (o:Ord) (L:List Ord) (bb m:Nat) (b:BkS) (St:World→List Int→(Nat→Prop)→Prop) (D:Nat→Prop) (w:World) (e:Ending) (w':World):Prop:=
 ∃(s:MS) (t:Bool) (vf:Value) (b':BkS) (m':Nat) (D':Nat→Prop),bS0 al o (aJ0 (3 - o.side) L) ⟨[],L,o.qty,[]⟩=(s,t)∧m'≤m+100∧e=.returned (.tuple #[vf,.agg #[.int .i64 o.id,.int .i64 o.side,.int .i64 o.kind,.int .i64 o.price,.int .i64 s.q],.bool t])∧w'.ownsRow w.heap.size 115 4 vf s.fs.length (fV s.fs)∧Bk w' bb m' b'∧Lnk b'.S s.L∧St w' s.ts D'∧Out (fun j=>b.foot bb j∨D j) w w'∧Went w (b.foot bb) (b'.foot bb)∧∀j,D' j→D j∨w.heap.size≤j
theorem yI0 {al:List Int→Int→Bool} {o:Ord} {L:List Ord} {bb m m':Nat} {b b':BkS} {St:World→List Int→(Nat→Prop)→Prop} {D D':Nat→Prop} {w w':World} {s:MS} {t:Bool} {vf:Value} (h:bS0 al o (aJ0 (3 - o.side) L) ⟨[],L,o.qty,[]⟩=(s,t)) (hm:m'≤m+100) (h2:w'.ownsRow w.heap.size 115 4 vf s.fs.length (fV s.fs)∧Bk w' bb m' b'∧Lnk b'.S s.L∧St w' s.ts D'∧Out (fun j=>b.foot bb j∨D j) w w'∧Went w (b.foot bb) (b'.foot bb)∧∀j,D' j→D j∨w.heap.size≤j):
  nK1 al o L bb m b St D w (.returned (.tuple #[vf,.agg #[.int .i64 o.id,.int .i64 o.side,.int .i64 o.kind,.int .i64 o.price,.int .i64 s.q],.bool t])) w':=⟨s,t,vf,b',m',D',h,hm,rfl,h2⟩
theorem Mp.more {w W:World} {bb m m' ob rb B:Nat} {vx vf:Value} {b b':BkS} {X:List Ord} {o:Ord} {s:MS} {St:World→List Int→(Nat→Prop)→Prop} {D0 D:Nat→Prop} (h:Mp w W bb m ob rb B vx vf b b' X o s St D0 D) (hm:m≤m') (hs:m'≤900000):Mp w W bb m' ob rb B vx vf b b' X o s St D0 D:=
 ⟨h.old,h.row,h.box,h.res,h.bk.more hm hs,h.lnk,h.fils,h.told,h.out,h.went,h.dees,h.apart⟩
theorem lO1 {X:List Ord} {k:Nat} (h:k<X.length):X.drop k=oAt X k::X.drop (k+1):=by
 rw [List.drop_eq_getElem_cons h]
 congr 1
 simp [oAt,h]
set_option maxRecDepth 4000 in
set_option maxHeartbeats 8000000 in
theorem lP1 (bb m:Nat) (b:BkS) (L:List Ord) (o:Ord) (ga gt:Nat) (fa0 la ft0 lt:Array Value) (al:List Int→Int→Bool) (St:World→List Int→(Nat→Prop)→Prop) (D:Nat→Prop) (w:World) (h:Bk w bb m b) (hm:m≤800000) (hl:Lnk b.S L) (hok:LOk L) (hside:o.side=1∨o.side=2) (hqb:-9223372036854775808≤o.qty∧o.qty≤9223372036854775807) (hF:StE St) (hA:AskE ga fa0 la al St) (hT:TellE gt ft0 lt St) (hst:St w [] D) (hap:∀j,D j→¬b.foot bb j):
  Calls Tryz.prog 94 #[.pointer (some ⟨bb,0,none⟩),.agg #[.int .i64 o.id,.int .i64 o.side,.int .i64 o.kind,.int .i64 o.price,.int .i64 o.qty],.func (.func ga) fa0 la,.func (.func gt) ft0 lt] w
   fun e w'=>nK1 al o L bb m b St D w e w':=by
 obtain ⟨iF,hiF,hF0,hF1,hF2⟩:=info_parts Tryz.infoFp;have HA:Hid (Bk w bb m b):=h;have HL:Hid (Lnk b.S L):=hl;have HK:Hid (LOk L):=hok;have HFF0:Hid (StE St):=hF;have HAF:Hid (AskE ga fa0 la al St):=hA;have HTF:Hid (TellE gt ft0 lt St):=hT;have HST:Hid (St w [] D):=hst;have HAP:Hid (∀j,D j→¬b.foot bb j):=hap;have HS:Hid (o.side=1∨o.side=2):=hside
 obtain ⟨s0,hs0,hs1⟩:∃s0:Nat,s0<2∧3 - o.side=(s0:Int)+1:=by
  rcases hside with e | e
  ·exact ⟨1,by decide,by rw [e];rfl⟩
  ·exact ⟨0,by decide,by rw [e];rfl⟩
 have HS1:Hid (3 - o.side=(s0:Int)+1):=hs1;have hL100:L.length≤100:=sM0 h.ok hl;clear h hl hok hA hT hst hap hside hs1 hF;go_enter Tryz.func94,Tryz.ntmps94;go_wp2_with fail;have hB0:=bel2 w (.cells #[.int .i64 o.id,.int .i64 o.side,.int .i64 o.kind,.int .i64 o.price,.int .i64 o.qty] 41) (.cells #[.int .i64 0,.int .i64 0,.int .i64 0,.int .i64 0,.int .i64 0] 41);have hO0:=eV0 w (.cells #[.int .i64 o.id,.int .i64 o.side,.int .i64 o.kind,.int .i64 o.price,.int .i64 o.qty] 41) (.cells #[.int .i64 0,.int .i64 0,.int .i64 0,.int .i64 0,.int .i64 0] 41);have hR0:=dX0 w (.cells #[.int .i64 o.id,.int .i64 o.side,.int .i64 o.kind,.int .i64 o.price,.int .i64 o.qty] 41) (.cells #[.int .i64 0,.int .i64 0,.int .i64 0,.int .i64 0,.int .i64 0] 41);generalize (w.alloc (.cells #[.int .i64 o.id,.int .i64 o.side,.int .i64 o.kind,.int .i64 o.price,.int .i64 o.qty] 41)).alloc (.cells #[.int .i64 0,.int .i64 0,.int .i64 0,.int .i64 0,.int .i64 0] 41)=w1 at hB0 hO0 hR0 ⊢;refine (pM1 o.side HS.out w1).mono ?_;rintro e w1' ⟨rfl,hw⟩;subst hw;go_wp2_with fail;refine (fO1 bb m s0 b L w1' (HA.out.below hB0 lR7) HL.out hs0 (3 - o.side) HS1.out).mono ?_;rintro e w2 ⟨vx,rfl,hrx,hb2⟩;have hm0:=Mp.start HFF0.out HA.out HL.out HST.out HAP.out hB0 hO0 hR0 lR7 (by omega) (by omega) hrx hb2;have HM0:Hid _:=hm0;have HMO:Hid _:=MOk.start HK.out (3 - o.side) o.qty;obtain ⟨xa,xc,rfl,_,_⟩:=bB0 hrx;have hXl:(aJ0 (3 - o.side) L).length≤L.length:=hK0 _ _;generalize hX:aJ0 (3 - o.side) L=X at *;have HXE:Hid (aJ0 (3 - o.side) L=X):=hX;generalize w1'.heap.size=B at *;clear hX hrx hb2 hB0 hO0 hR0 hm0 HST HAP HS1 HA HL HK;go_wp2_with fail;go_loopw [11,13,14,21] (fun u11 _ _ u21 wr=>∃(k:Nat) (s:MS) (b':BkS) (D':Nat→Prop),u21=.int .i64 k∧k≤X.length∧bS0 al o (X.drop k) s=bS0 al o X ⟨[],L,o.qty,[]⟩∧MOk (X.drop k) s∧s.fs.length≤k∧(-9223372036854775808≤s.q∧s.q≤9223372036854775807)∧Mp w wr bb (m+k) w.heap.size (w.heap.size+1) B (.slice xa X.length xc) u11 b b' X o s St D D') (fun _ _ _ u21 _=>X.length - (intOf u21).toNat)
 case atStart=>exact ⟨0,_,b,D,rfl,Nat.zero_le _,rfl,HMO.out,lR7,hqb,HM0.out⟩
 case round=>
  obtain ⟨k,s,b',D',rfl,hk,hmt,hmo,hfl,hsq,hM⟩:=hrel;have HMT:Hid (bS0 al o (X.drop k) s=bS0 al o X ⟨[],L,o.qty,[]⟩):=hmt;have HM:Hid (Mp w wr bb (m+k) w.heap.size (w.heap.size+1) B (.slice xa X.length xc) u11 b b' X o s St D D'):=hM;have HMK:Hid (MOk (X.drop k) s):=hmo;obtain ⟨fa,fc,rfl,_,_⟩:=bB0 hM.fils;clear hmt hmo HM0 HMO
  by_cases hk1:k<X.length
  ·have hlt:(k:Int)<(X.length:Int):=by omega
   obtain ⟨g,cap,e,d0,d1,d2,d3,d4⟩:=cD0 hM.row hk1;injection e with e1 _ e2;subst e1 e2;have HD:Hid (X.drop k=oAt X k::X.drop (k+1)):=lO1 hk1;generalize oAt X k=x at d0 d1 d2 d3 d4 HD;clear hM;go_upto_region 5 with fail;have hbA:=bel1 wr (.cells #[.int .i64 x.id,.int .i64 x.side,.int .i64 x.kind,.int .i64 x.price,.int .i64 x.qty] 41);have hxA:=heap_alloc_new wr (.cells #[.int .i64 x.id,.int .i64 x.side,.int .i64 x.kind,.int .i64 x.price,.int .i64 x.qty] 41);have hMW:=HM.out.below HFF0.out hbA;generalize wr.alloc (.cells #[.int .i64 x.id,.int .i64 x.side,.int .i64 x.kind,.int .i64 x.price,.int .i64 x.qty] 41)=W at hbA hxA hMW ⊢;have hR:=HM.out.res;clear hbA HM d0 d1 d2 d3 d4;have hxb:w.heap.size+1<wr.heap.size:=lt_of_block hR;clear hR;generalize wr.heap.size=xb at hxA hxb ⊢;have HX:Hid (dD0 W xb x):=hxA;have HM:Hid (Mp w W bb (m+k) w.heap.size (w.heap.size+1) B (.slice (some ⟨g,0,none⟩) X.length xc) (.slice fa s.fs.length fc) b b' X o s St D D'):=hMW;have x0:=aA0 (j:=0) hxA rfl;have x1:=aA0 (j:=1) hxA rfl;have x2:=aA0 (j:=2) hxA rfl;have x3:=aA0 (j:=3) hxA rfl;have x4:=aA0 (j:=4) hxA rfl;have hoA:W.heap[w.heap.size]? = some (.cells #[.int .i64 o.id,.int .i64 o.side,.int .i64 o.kind,.int .i64 o.price,.int .i64 s.q] 41 (0,0)):=hMW.box;have o0:=aA0 (j:=0) hoA rfl;have o1:=aA0 (j:=1) hoA rfl;have o2:=aA0 (j:=2) hoA rfl;have o3:=aA0 (j:=3) hoA rfl;have o4:=aA0 (j:=4) hoA rfl;clear hxA hMW hoA
   by_cases hm2:x.kind=2
   ·have hmb:(x.kind == 2)=true:=beq_iff_eq.2 hm2;have HM2:Hid (bS0 al o (X.drop (k+1)) s=bS0 al o X ⟨[],L,o.qty,[]⟩):=by have:=HMT.out;rw [HD.out,lW0 hm2] at this;exact this
    have HK2:Hid (MOk (X.drop (k+1)) s):=by have h1:=HMK.out;rw [HD.out] at h1;exact h1.pass
    clear hm2;go_wp2_with fail;go_roundw
    case rel=>exact ⟨k+1,s,b',D',by go_num,hk1,HM2.out,HK2.out,by omega,hsq,HM.out.more (by omega) (by omega)⟩
    case measure=>first | (simp [intOf];omega) | (show X.length - (k+1)<X.length - k;omega) | omega
   ·have hmb:(x.kind == 2)=false:=beq_eq_false_iff_ne.2 hm2;have HMN:Hid (x.kind≠2):=hm2;clear hm2;obtain ⟨cc,hcc⟩:∃cc:Bool,(decide (s.q<1) || farB o x)=cc:=⟨_,rfl⟩;have HCC:Hid ((decide (s.q<1) || farB o x)=cc):=hcc;clear hcc;go_upto_region 6 with fail;go_cut [38] from 22 to 71 (fun u38 wc=>u38=.bool cc∧Below W.heap.size W wc)
    case first=>
     by_cases hq:s.q<1
     ·have hqd:decide (s.q<1)=true:=decide_eq_true hq;have HC2:Hid (cc=true):=by have:=HCC.out;rw [hqd,Bool.true_or] at this;exact this.symm
      go_region
      all_goals go_wp2_with fail
      all_goals go_meet
      all_goals exact ⟨by rw [HC2.out],by (repeat' first | assumption | exact Below.refl _ _ | exact lR7 | refine Below.drew ?_ | refine Below.alloc ?_ ?_ _ | (simp;done) | (simp;omega))⟩
     ·have hqd:decide (s.q<1)=false:=decide_eq_false hq
      have HC2:Hid (cc=!(wilP x.price (bJ0 o s.q))):=by
       have:=HCC.out;rw [hqd,Bool.false_or] at this;show cc=!(wilP x.price o);rw [pZ1 HS.out,Bool.not_not];exact this.symm
      have hbW:=bel1 W (.cells #[.int .i64 x.price] 3);have HBW:Hid (Below W.heap.size W (W.alloc (.cells #[.int .i64 x.price] 3)).drew):=by show Below _ _ _;(repeat' first | assumption | exact Below.refl _ _ | exact lR7 | refine Below.drew ?_ | refine Below.alloc ?_ ?_ _ | (simp;done) | (simp;omega))
      have HNW:Hid ((W.alloc (.cells #[.int .i64 x.price] 3)).drew.heap[W.heap.size]? = some (.cells #[.int .i64 x.price] 3)):=by show _=_;rw [iR0];exact heap_alloc_new _ _
      have hoD:=aC0 (B:=W.heap.size) HM.out.box hbW lR7;have p0:(W.alloc (.cells #[.int .i64 x.price] 3)).cell? ⟨w.heap.size,0,none⟩=some (.int .i64 o.id):=aA0 (j:=0) hoD rfl;have p1:(W.alloc (.cells #[.int .i64 x.price] 3)).cell? ⟨w.heap.size,1,none⟩=some (.int .i64 o.side):=aA0 (j:=1) hoD rfl;have p2:(W.alloc (.cells #[.int .i64 x.price] 3)).cell? ⟨w.heap.size,2,none⟩=some (.int .i64 o.kind):=aA0 (j:=2) hoD rfl;have p3:(W.alloc (.cells #[.int .i64 x.price] 3)).cell? ⟨w.heap.size,3,none⟩=some (.int .i64 o.price):=aA0 (j:=3) hoD rfl;have p4:(W.alloc (.cells #[.int .i64 x.price] 3)).cell? ⟨w.heap.size,4,none⟩=some (.int .i64 s.q):=aA0 (j:=4) hoD rfl;clear hoD hbW;go_region_with (first | (go_at_call 142;refine (pH0 x.price _).mono ?_;rintro e w5 ⟨rfl,rfl⟩) | (go_at_call 183;refine (rS1 x.price (bJ0 o s.q) _ _ HNW.out).mono ?_;rintro e w6 ⟨rfl,hb6⟩))
      all_goals go_wp2_with fail
      all_goals go_meet
      all_goals exact ⟨by rw [HC2.out],HBW.out.trans (hb6.mono HBW.out.size)⟩
    case rest=>
     obtain ⟨rfl,hbc⟩:=hcut;have hMc:=HM.out.below HFF0.out hbc;have hXc:dD0 wc xb x:=aC0 HX.out hbc lR7;clear hbc HM HX x0 x1 x2 x3 x4 o0 o1 o2 o3 o4;have HX:Hid (dD0 wc xb x):=hXc;have HM:Hid (Mp w wc bb (m+k) w.heap.size (w.heap.size+1) B (.slice (some ⟨g,0,none⟩) X.length xc) (.slice fa s.fs.length fc) b b' X o s St D D'):=hMc;have x0:=aA0 (j:=0) hXc rfl;have x1:=aA0 (j:=1) hXc rfl;have x2:=aA0 (j:=2) hXc rfl;have x3:=aA0 (j:=3) hXc rfl;have x4:=aA0 (j:=4) hXc rfl;have hoA:wc.heap[w.heap.size]? = some (.cells #[.int .i64 o.id,.int .i64 o.side,.int .i64 o.kind,.int .i64 o.price,.int .i64 s.q] 41 (0,0)):=hMc.box;have o0:=aA0 (j:=0) hoA rfl;have o1:=aA0 (j:=1) hoA rfl;have o2:=aA0 (j:=2) hoA rfl;have o3:=aA0 (j:=3) hoA rfl;have o4:=aA0 (j:=4) hoA rfl;clear hMc hXc hoA;cases cc with
     | true=>
      have HE0:Hid (bS0 al o X ⟨[],L,o.qty,[]⟩=(s,false)):=by
       have h1:=HMT.out;have h2:=HCC.out
       by_cases hq:s.q<1
       ·rw [eN0 (by omega)] at h1;exact h1.symm
       ·rw [decide_eq_false hq,Bool.false_or] at h2;rw [HD.out,iU0 (by omega) HMN.out h2] at h1;exact h1.symm
      go_wp2_with fail;have hz:=HM.out.res;have z0:=aA0 (j:=0) hz rfl;have z1:=aA0 (j:=1) hz rfl;have z2:=aA0 (j:=2) hz rfl;have z3:=aA0 (j:=3) hz rfl;have z4:=aA0 (j:=4) hz rfl;have f0:=aB0 (j:=0) hz;have f1:=aB0 (j:=1) hz;have f2:=aB0 (j:=2) hz;have f3:=aB0 (j:=3) hz;have f4:=aB0 (j:=4) hz;have HE:Hid (bS0 al o (aJ0 (3 - o.side) L) ⟨[],L,o.qty,[]⟩=(s,false)):=by show _=_;rw [HXE.out];exact HE0.out
      have hend:=HM.out.done HFF0.out;unfold boxed bJ0 DBox at hend;have HEND:Hid _:=hend;clear hz hend;go_region
      all_goals go_wp2_with fail
      all_goals generalize (((((wc.setCell ⟨w.heap.size+1,0,none⟩ (.int .i64 o.id)).setCell ⟨w.heap.size+1,1,none⟩ (.int .i64 o.side)).setCell ⟨w.heap.size+1,2,none⟩ (.int .i64 o.kind)).setCell ⟨w.heap.size+1,3,none⟩ (.int .i64 o.price)).setCell ⟨w.heap.size+1,4,none⟩ (.int .i64 s.q)).drew=wz at HEND ⊢
      all_goals have e0:=aA0 (j:=0) HEND.out.1 rfl
      all_goals have e1:=aA0 (j:=1) HEND.out.1 rfl
      all_goals have e2:=aA0 (j:=2) HEND.out.1 rfl
      all_goals have e3:=aA0 (j:=3) HEND.out.1 rfl
      all_goals have e4:=aA0 (j:=4) HEND.out.1 rfl
      all_goals refine bodyPost_ret (by simp [results,Tryz.results94,go_sem,e0,e1,e2,e3,e4];try rfl) rfl ?_
      all_goals exact yI0 HE.out (by omega) HEND.out.2
     | false=>
      have hq1:0<s.q:=by
       have h2:=HCC.out
       by_cases hq:s.q<1
       ·rw [decide_eq_true hq,Bool.true_or] at h2;cases h2
       ·omega
      have HFR:Hid (farB o x=false):=by
       have h2:=HCC.out;rw [Bool.or_eq_false_iff] at h2;exact h2.2
      have HMX:Hid (MOk (x::X.drop (k+1)) s):=by have h1:=HMK.out;rw [HD.out] at h1;exact h1
      have HPX:Hid (1≤x.price∧x.price≤1000000∧1≤x.qty∧x.qty≤1000000):=HMX.out.ok.ok x (HMX.out.here x (List.mem_cons_self ..));go_wp2_with fail;refine (sI1 ga fa0 la x.price (al s.ts x.price) wc HAF.out.enters (fun W'=>Below wc.heap.size wc W') (HAF.out.tells HM.out.told x.price HPX.out.1 HPX.out.2.1)).mono ?_;rintro e w4 ⟨rfl,hb4⟩;have hM4:=HM.out.below HFF0.out hb4;have hX4:dD0 w4 xb x:=aC0 HX.out hb4 lR7;clear hb4 x0 x1 x2 x3 x4 o0 o1 o2 o3 o4 HM HX;have HX:Hid (dD0 w4 xb x):=hX4;have HM:Hid (Mp w w4 bb (m+k) w.heap.size (w.heap.size+1) B (.slice (some ⟨g,0,none⟩) X.length xc) (.slice fa s.fs.length fc) b b' X o s St D D'):=hM4;have x0:=aA0 (j:=0) hX4 rfl;have x1:=aA0 (j:=1) hX4 rfl;have x2:=aA0 (j:=2) hX4 rfl;have x3:=aA0 (j:=3) hX4 rfl;have x4:=aA0 (j:=4) hX4 rfl;have hoA:w4.heap[w.heap.size]? = some (.cells #[.int .i64 o.id,.int .i64 o.side,.int .i64 o.kind,.int .i64 o.price,.int .i64 s.q] 41 (0,0)):=hM4.box;have o0:=aA0 (j:=0) hoA rfl;have o1:=aA0 (j:=1) hoA rfl;have o2:=aA0 (j:=2) hoA rfl;have o3:=aA0 (j:=3) hoA rfl;have o4:=aA0 (j:=4) hoA rfl;clear hM4 hX4 hoA;cases ha:al s.ts x.price with
      | false=>
       have HE0:Hid (bS0 al o X ⟨[],L,o.qty,[]⟩=(s,true)):=by have:=HMT.out;rw [HD.out,hM0 hq1 HMN.out HFR.out ha] at this;exact this.symm
       go_wp2_with fail;have hz:=HM.out.res;have z0:=aA0 (j:=0) hz rfl;have z1:=aA0 (j:=1) hz rfl;have z2:=aA0 (j:=2) hz rfl;have z3:=aA0 (j:=3) hz rfl;have z4:=aA0 (j:=4) hz rfl;have f0:=aB0 (j:=0) hz;have f1:=aB0 (j:=1) hz;have f2:=aB0 (j:=2) hz;have f3:=aB0 (j:=3) hz;have f4:=aB0 (j:=4) hz;have HE:Hid (bS0 al o (aJ0 (3 - o.side) L) ⟨[],L,o.qty,[]⟩=(s,true)):=by show _=_;rw [HXE.out];exact HE0.out
       have hend:=HM.out.done HFF0.out;unfold boxed bJ0 DBox at hend;have HEND:Hid _:=hend;clear hz hend;go_region
       all_goals go_wp2_with fail
       all_goals generalize (((((w4.setCell ⟨w.heap.size+1,0,none⟩ (.int .i64 o.id)).setCell ⟨w.heap.size+1,1,none⟩ (.int .i64 o.side)).setCell ⟨w.heap.size+1,2,none⟩ (.int .i64 o.kind)).setCell ⟨w.heap.size+1,3,none⟩ (.int .i64 o.price)).setCell ⟨w.heap.size+1,4,none⟩ (.int .i64 s.q)).drew=wz at HEND ⊢
       all_goals have e0:=aA0 (j:=0) HEND.out.1 rfl
       all_goals have e1:=aA0 (j:=1) HEND.out.1 rfl
       all_goals have e2:=aA0 (j:=2) HEND.out.1 rfl
       all_goals have e3:=aA0 (j:=3) HEND.out.1 rfl
       all_goals have e4:=aA0 (j:=4) HEND.out.1 rfl
       all_goals refine bodyPost_ret (by simp [results,Tryz.results94,go_sem,e0,e1,e2,e3,e4];try rfl) rfl ?_
       all_goals exact yI0 HE.out (by omega) HEND.out.2
      | true=>
       have HE0:Hid (bS0 al o (X.drop (k+1)) (gU0 o x s)=bS0 al o X ⟨[],L,o.qty,[]⟩):=by have:=HMT.out;rw [HD.out,gN0 hq1 HMN.out HFR.out ha] at this;exact this
       have hlots:=HMX.out.lots hq1;go_wp2_with fail;refine (hJ1 (bJ0 o s.q) x w4 HS.out).mono ?_;rintro e w5 ⟨rfl,hb5⟩;obtain ⟨f,hf⟩:∃f,iT0 o x (min s.q x.qty)=f:=⟨_,rfl⟩;have hff:iT0 (bJ0 o s.q) x (min (bJ0 o s.q).qty x.qty)=f:=hf;have hfq:f.qty=min s.q x.qty:=by rw [←hf];unfold iT0;split <;> rfl
       rw [hff];have HFF:Hid (iT0 o x (min s.q x.qty)=f):=hf;have HFQ:Hid (f.qty=min s.q x.qty):=hfq;rw [←hfq] at hlots;have hM5:=HM.out.below HFF0.out hb5;have hX5:dD0 w5 xb x:=aC0 HX.out hb5 lR7;have hz5:xb<w5.heap.size:=lt_of_block hX5;clear hb5 x0 x1 x2 x3 x4 o0 o1 o2 o3 o4 HM HX hf hff hfq;have HX:Hid (dD0 w5 xb x):=hX5;have HM:Hid (Mp w w5 bb (m+k) w.heap.size (w.heap.size+1) B (.slice (some ⟨g,0,none⟩) X.length xc) (.slice fa s.fs.length fc) b b' X o s St D D'):=hM5;have HNB:Hid (∀j,(Value.slice fa s.fs.length fc).ownBlock=some j→j<w5.heap.size):=fun j hj=>(hM5.fils.lt j hj).2
       clear hM5 hX5;go_upto_region 10 with fail;have hb6:=bel1 w5 (.cells #[.int .i64 f.buyer,.int .i64 f.seller,.int .i64 f.price,.int .i64 f.qty] 115);have hf6:=heap_alloc_new w5 (.cells #[.int .i64 f.buyer,.int .i64 f.seller,.int .i64 f.price,.int .i64 f.qty] 115);generalize w5.alloc (.cells #[.int .i64 f.buyer,.int .i64 f.seller,.int .i64 f.price,.int .i64 f.qty] 115)=w6 at hb6 hf6 ⊢;have HM6:Hid _:=HM.out.below HFF0.out hb6;have hX6:dD0 w6 xb x:=aC0 HX.out hb6 lR7;generalize w5.heap.size=fb at *;have HF6:Hid (FBox w6 fb f):=hf6;have HX6:Hid (dD0 w6 xb x):=hX6;have x0:w6.cell? ⟨xb,0,none⟩=some (.int .i64 x.id):=aA0 (j:=0) hX6 rfl;have f3:w6.cell? ⟨fb,3,none⟩=some (.int .i64 f.qty):=aA0 (j:=3) hf6 rfl;clear hb6 hf6 hX6 HM HX;go_wp2_with fail;refine (pI0 bb (m+k) b' s.L x f.qty w6 HM6.out.bk (by omega) HM6.out.lnk HMX.out.ok (HMX.out.here x (List.mem_cons_self ..)) ⟨hlots.1,hlots.2.1⟩).mono ?_;rintro e w7 ⟨err,rfl,b2,hl7,hg7⟩;have HM7:Hid _:=HM6.out.cut HFF0.out hg7 hl7;have hX7:dD0 w7 xb x:=aE0 HX6.out hg7.2.1 (HM6.out.bk.farBox HX6.out (by decide) (by decide) (by decide) (by decide) (by decide));have hF7:FBox w7 fb f:=aE0 HF6.out hg7.2.1 (HM6.out.bk.farBox HF6.out (by decide) (by decide) (by decide) (by decide) (by decide));have HX7:Hid (dD0 w7 xb x):=hX7;have HF7:Hid (FBox w7 fb f):=hF7;have hoB:w7.heap[w.heap.size]? = some (.cells #[.int .i64 o.id,.int .i64 o.side,.int .i64 o.kind,.int .i64 o.price,.int .i64 s.q] 41 (0,0)):=HM7.out.box;clear x0 f3 hl7 hg7 HM6 HX6 HF6;have f3:w7.cell? ⟨fb,3,none⟩=some (.int .i64 f.qty):=aA0 (j:=3) hF7 rfl;have o4:=aA0 (j:=4) hoB rfl;have of4:=aB0 (j:=4) hoB;have q4:IntKind.i64.wrap (s.q - f.qty)=s.q - f.qty:=IntWalk.i64_in _ (by omega);clear hoB hX7 hF7;go_upto_region 12 with fail;have hM8:=HM7.out.left HFF0.out (s.q - f.qty);have hX8:dD0 (w7.setCell ⟨w.heap.size,4,none⟩ (.int .i64 (s.q - f.qty))) xb x:=aE0 HX7.out (aQ0 w7 ⟨w.heap.size,4,none⟩ (.int .i64 (s.q - f.qty))) (by show ¬xb=w.heap.size;omega);have hF8:FBox (w7.setCell ⟨w.heap.size,4,none⟩ (.int .i64 (s.q - f.qty))) fb f:=aE0 HF7.out (aQ0 w7 ⟨w.heap.size,4,none⟩ (.int .i64 (s.q - f.qty))) (by show ¬fb=w.heap.size;omega);generalize w7.setCell ⟨w.heap.size,4,none⟩ (.int .i64 (s.q - f.qty))=w8 at hM8 hX8 hF8 ⊢;have HM8:Hid _:=hM8;have HX8:Hid (dD0 w8 xb x):=hX8;have g0:w8.cell? ⟨fb,0,none⟩=some (.int .i64 f.buyer):=aA0 (j:=0) hF8 rfl;have g1:w8.cell? ⟨fb,1,none⟩=some (.int .i64 f.seller):=aA0 (j:=1) hF8 rfl;have g2:w8.cell? ⟨fb,2,none⟩=some (.int .i64 f.price):=aA0 (j:=2) hF8 rfl;have g3:w8.cell? ⟨fb,3,none⟩=some (.int .i64 f.qty):=aA0 (j:=3) hF8 rfl;clear f3 o4 of4 hM8 hX8 hF8 HM7 HX7 HF7;have hln:s.fs.length≤100:=by omega
       have hwz:w.heap.size≤w8.heap.size:=HM8.out.out.size;go_wp2_with (at_builtin;refine wpList_append_own_at _ rfl _ _ 44 rfl w.heap.size 115 iF (.agg #[.int .i64 0,.int .i64 0,.int .i64 0,.int .i64 0]) 4 32 Tryz.underlying44 hiF hF0 hF1 hF2 rfl (by decide) _ s.fs.length (fV s.fs) rfl (HM8.out.fils.alloc _) ⟨w8.heap.size,0,none⟩ 1 1 [.int .i64 f.buyer,.int .i64 f.seller,.int .i64 f.price,.int .i64 f.qty] rfl rfl (World.news_of_block (cs:=#[.int .i64 f.buyer,.int .i64 f.seller,.int .i64 f.price,.int .i64 f.qty]) (t:=115) (fr:=(0,0)) (heap_alloc_new w8 _)) (by simp [Value.oneCell']) (by unfold maxLen;omega) (by omega) (by simp;omega) ?_;intro v9 w9 hown9 hgrow9 _ _;have hX9:dD0 w9 xb x:=aE0 HX8.out (HM8.out.pushed hgrow9) (aG0 HM8.out.fils HX8.out (by decide));have x9:w9.cell? ⟨xb,3,none⟩=some (.int .i64 x.price):=aA0 (j:=3) hX9 rfl;have HM9:Hid _:=HM8.out.push HFF0.out (f:=f) hgrow9 hown9;clear hX9 hown9 hgrow9 g0 g1 g2 g3);have hone:=HMX.out.one;refine (pY1 gt ft0 lt x.price w9 HTF.out.enters _ (HTF.out.tells HM9.out.told (by show s.ts.length≤1000;omega) x.price HPX.out.1 HPX.out.2.1)).mono ?_;rintro e w10 ⟨rfl,D2,ht,ho,hd⟩;have HM10:Hid _:=HM9.out.tell HFF0.out ht ho hd;have HK2:Hid (MOk (X.drop (k+1)) (gU0 o x s)):=HMX.out.step o hq1;have HSTP:Hid (gU0 o x s=⟨s.fs++[f],bH0 x.id f.qty s.L,s.q - f.qty,s.ts++[x.price]⟩):=by show _=_;unfold gU0;rw [HFF.out,HFQ.out]
       clear ht ho hd HM9 x9;go_wp2_with fail;go_roundw
       case rel=>
        refine ⟨k+1,gU0 o x s,b2,D2,by go_num,hk1,HE0.out,HK2.out,?_,?_,?_⟩
        ·rw [HSTP.out];show (s.fs++[f]).length≤k+1;rw [List.length_append,List.length_singleton];omega
        ·rw [HSTP.out];show -9223372036854775808≤s.q - f.qty∧s.q - f.qty≤9223372036854775807;omega
        ·rw [HSTP.out];exact HM10.out
       case measure=>first | (simp [intOf];omega) | (show X.length - (k+1)<X.length - k;omega) | omega
  ·have hkx:k=X.length:=by omega
   have hoA:wr.heap[w.heap.size]? = some (.cells #[.int .i64 o.id,.int .i64 o.side,.int .i64 o.kind,.int .i64 o.price,.int .i64 s.q] 41 (0,0)):=hM.box;have o0:=aA0 (j:=0) hoA rfl;have o1:=aA0 (j:=1) hoA rfl;have o2:=aA0 (j:=2) hoA rfl;have o3:=aA0 (j:=3) hoA rfl;have o4:=aA0 (j:=4) hoA rfl;have HE0:Hid (bS0 al o X ⟨[],L,o.qty,[]⟩=(s,false)):=by have:=HMT.out;rw [List.drop_eq_nil_of_le (by omega)] at this;exact this.symm
   clear hM hoA;go_wp2_with fail;have hz:=HM.out.res;have z0:=aA0 (j:=0) hz rfl;have z1:=aA0 (j:=1) hz rfl;have z2:=aA0 (j:=2) hz rfl;have z3:=aA0 (j:=3) hz rfl;have z4:=aA0 (j:=4) hz rfl;have f0:=aB0 (j:=0) hz;have f1:=aB0 (j:=1) hz;have f2:=aB0 (j:=2) hz;have f3:=aB0 (j:=3) hz;have f4:=aB0 (j:=4) hz;have HE:Hid (bS0 al o (aJ0 (3 - o.side) L) ⟨[],L,o.qty,[]⟩=(s,false)):=by show _=_;rw [HXE.out];exact HE0.out
   have hend:=HM.out.done HFF0.out;unfold boxed bJ0 DBox at hend;have HEND:Hid _:=hend;clear hz hend;go_region
   all_goals go_wp2_with fail
   all_goals generalize (((((wr.setCell ⟨w.heap.size+1,0,none⟩ (.int .i64 o.id)).setCell ⟨w.heap.size+1,1,none⟩ (.int .i64 o.side)).setCell ⟨w.heap.size+1,2,none⟩ (.int .i64 o.kind)).setCell ⟨w.heap.size+1,3,none⟩ (.int .i64 o.price)).setCell ⟨w.heap.size+1,4,none⟩ (.int .i64 s.q)).drew=wz at HEND ⊢
   all_goals have e0:=aA0 (j:=0) HEND.out.1 rfl
   all_goals have e1:=aA0 (j:=1) HEND.out.1 rfl
   all_goals have e2:=aA0 (j:=2) HEND.out.1 rfl
   all_goals have e3:=aA0 (j:=3) HEND.out.1 rfl
   all_goals have e4:=aA0 (j:=4) HEND.out.1 rfl
   all_goals refine bodyPost_ret (by simp [results,Tryz.results94,go_sem,e0,e1,e2,e3,e4];try rfl) rfl ?_
   all_goals exact yI0 HE.out (by omega) HEND.out.2
end Go.Proofs.YtjdkagafdnchhaaGreatDoor
