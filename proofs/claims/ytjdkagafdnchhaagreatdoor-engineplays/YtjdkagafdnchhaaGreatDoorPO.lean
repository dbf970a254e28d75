/- A part of the proof of EnginePlays. -/
import Derived.Test.YtjdkagafdnchhaaGreatDoorPA
import Derived.Test.YtjdkagafdnchhaaGreatDoorPN
import Derived.Test.YtjdkagafdnchhaaGreatDoorPK
import Derived.Deep.CutRange
import Derived.Test.YtjdkagafdnchhaaGreatDoorPC
namespace Go.Proofs.YtjdkagafdnchhaaGreatDoor
open Go.RowKit
set_option maxRecDepth 4000 in
set_option maxHeartbeats 2000000 in
theorem pB1 (F:Nat→Prop) (base mb bt ct:Nat) (m:Mkt) (vb vp vi:Value) (w:World) (h:MkIs w F base mb bt ct m vb vp vi) (hL:m.L.length≤100) (hok:LOk m.L) (hla:1≤m.la∧m.la≤1000000):
  Calls Tryz.prog 26 #[.pointer (some ⟨mb,0,none⟩)] w fun e w'=>e=.returned (qAgg (gQ0 m))∧Below w.heap.size w w':=by
 have H:Hid (MkIs w F base mb bt ct m vb vp vi):=h;have HK:Hid (LOk m.L):=hok;have hb0:=bel1 w (.cells #[.int .i64 0,.int .i64 0,.int .i64 0] 69);have hq0:=heap_alloc_new w (.cells #[.int .i64 0,.int .i64 0,.int .i64 0] 69);have hm0:=h.below hb0;clear h hok;go_enter Tryz.func26,Tryz.ntmps26;go_upto_region 1 with fail;generalize w.alloc (.cells #[.int .i64 0,.int .i64 0,.int .i64 0] 69)=w1 at hb0 hq0 hm0 ⊢;have c10:w1.cell? ⟨mb,10,none⟩=some (.int .i64 m.ph):=aA0 (j:=10) hm0.box rfl;have HB0:Hid (Below w.heap.size w w1):=hb0;have HQ0:Hid (w1.heap[w.heap.size]? = some (.cells #[.int .i64 0,.int .i64 0,.int .i64 0] 69 (0,0))):=hq0;have HM0:Hid _:=hm0;clear hb0 hq0 hm0;go_wp2_with fail;refine (xK0 m.ph w1).mono ?_;rintro e w2 ⟨rfl,hw⟩;subst hw;cases ha:eE0 m.ph with
 | false=>
  have HN:Hid (gQ0 m=⟨0,0,0⟩):=by show _=_;unfold gQ0;rw [ha,if_neg (by decide)]
  have z0:=aA0 (j:=0) HQ0.out rfl;have z1:=aA0 (j:=1) HQ0.out rfl;have z2:=aA0 (j:=2) HQ0.out rfl;have y0:=aB0 (j:=0) HQ0.out;have y1:=aB0 (j:=1) HQ0.out;have y2:=aB0 (j:=2) HQ0.out;clear c10;go_wp2_with fail;have hq3:=aK0 (j:=2) (.int .i64 0) (aK0 (j:=1) (.int .i64 0) (aK0 (j:=0) (.int .i64 0) HQ0.out));have HB3:Hid (Below w.heap.size w (((w2.setCell ⟨w.heap.size,0,none⟩ (.int .i64 0)).setCell ⟨w.heap.size,1,none⟩ (.int .i64 0)).setCell ⟨w.heap.size,2,none⟩ (.int .i64 0))):=((HB0.out.setCell (p:=⟨w.heap.size,0,none⟩) lR7 _).setCell (p:=⟨w.heap.size,1,none⟩) lR7 _).setCell (p:=⟨w.heap.size,2,none⟩) lR7 _;clear z0 z1 z2 y0 y1 y2;generalize ((w2.setCell ⟨w.heap.size,0,none⟩ (.int .i64 0)).setCell ⟨w.heap.size,1,none⟩ (.int .i64 0)).setCell ⟨w.heap.size,2,none⟩ (.int .i64 0)=w3 at hq3 HB3 ⊢;have q0:w3.cell? ⟨w.heap.size,0,none⟩=some (.int .i64 0):=aA0 (j:=0) hq3 rfl;have q1:w3.cell? ⟨w.heap.size,1,none⟩=some (.int .i64 0):=aA0 (j:=1) hq3 rfl;have q2:w3.cell? ⟨w.heap.size,2,none⟩=some (.int .i64 0):=aA0 (j:=2) hq3 rfl;refine bodyPost_ret (by simp [results,Tryz.results26,go_sem,q0,q1,q2];try rfl) rfl ?_;exact ⟨by rw [HN.out];rfl,HB3.out⟩
 | true=>
  have HN:Hid (gQ0 m=aH0 m):=by show _=_;unfold gQ0;rw [ha,if_pos rfl]
  clear c10;go_wp2_with fail;refine (xJ0 F base mb bt ct m vb vp vi w2 HM0.out hL HK.out hla).mono ?_;rintro e w3 ⟨rfl,hb3⟩;unfold qAgg;have hq3:=aC0 HQ0.out hb3 lR7;have HQ3:Hid _:=hq3;have HB3:Hid (Below w.heap.size w w3):=aD0 HB0.out hb3;have z0:=aA0 (j:=0) hq3 rfl;have z1:=aA0 (j:=1) hq3 rfl;have z2:=aA0 (j:=2) hq3 rfl;have y0:=aB0 (j:=0) hq3;have y1:=aB0 (j:=1) hq3;have y2:=aB0 (j:=2) hq3;generalize aH0 m=qq at HN ⊢;clear hb3 hq3;go_wp2_with fail;have hq4:=aK0 (j:=2) (.int .i64 qq.sur) (aK0 (j:=1) (.int .i64 qq.qty) (aK0 (j:=0) (.int .i64 qq.price) HQ3.out));have HB4:Hid (Below w.heap.size w (((w3.setCell ⟨w.heap.size,0,none⟩ (.int .i64 qq.price)).setCell ⟨w.heap.size,1,none⟩ (.int .i64 qq.qty)).setCell ⟨w.heap.size,2,none⟩ (.int .i64 qq.sur))):=((HB3.out.setCell (p:=⟨w.heap.size,0,none⟩) lR7 _).setCell (p:=⟨w.heap.size,1,none⟩) lR7 _).setCell (p:=⟨w.heap.size,2,none⟩) lR7 _;clear z0 z1 z2 y0 y1 y2;generalize ((w3.setCell ⟨w.heap.size,0,none⟩ (.int .i64 qq.price)).setCell ⟨w.heap.size,1,none⟩ (.int .i64 qq.qty)).setCell ⟨w.heap.size,2,none⟩ (.int .i64 qq.sur)=w4 at hq4 HB4 ⊢;have q0:w4.cell? ⟨w.heap.size,0,none⟩=some (.int .i64 qq.price):=aA0 (j:=0) hq4 rfl;have q1:w4.cell? ⟨w.heap.size,1,none⟩=some (.int .i64 qq.qty):=aA0 (j:=1) hq4 rfl;have q2:w4.cell? ⟨w.heap.size,2,none⟩=some (.int .i64 qq.sur):=aA0 (j:=2) hq4 rfl;refine bodyPost_ret (by simp [results,Tryz.results26,go_sem,q0,q1,q2];try rfl) rfl ?_;exact ⟨by rw [HN.out];rfl,HB4.out⟩
theorem kP1 {o:Ord} {L:List Ord} (h:L.length≤100):(addL o L).length≤100:=by
 unfold addL;split
 ·rename_i e;unfold addN at e;split at e
  ·omega
  ·split at e
   ·omega
   ·split at e
    ·omega
    ·split at e
     ·omega
     ·rw [List.length_append,List.length_singleton];omega
 ·exact h
theorem zW0:∀(P L:List Ord),L.length≤100→(P.foldl (fun L o=>addL o L) L).length≤100
 | [],_,h=>h
 | _::P,_,h=>zW0 P _ (kP1 h)
theorem fL1 {P:List Ord} {k:Nat} (L:List Ord) (h:k<P.length):(P.take (k+1)).foldl (fun L o=>addL o L) L=addL (oAt P k) ((P.take k).foldl (fun L o=>addL o L) L):=by
 rw [List.take_succ_eq_append_getElem h,List.foldl_append,dL0 h];rfl
theorem MkIs.parks {w:World} {F:Nat→Prop} {base mb bt ct:Nat} {m:Mkt} {vb vp vi v':Value} {P':List Ord} (h:MkIs w F base mb bt ct m vb vp vi) (hp:w.ownsRow base 41 5 v' P'.length (oV P')) (hf:∀j,v'.ownBlock=some j→¬F j):MkIs (w.setCell ⟨mb,8,none⟩ v') F base mb bt ct { m with P:=P' } vb v' vi:=by
 have ho:=aQ0 w ⟨mb,8,none⟩ v';exact ⟨aK0 (j:=8) v' h.box,eI0 h.tab ho h.tne,h.tne,aI0 h.bk ho (fun k hk e=>aG0 h.bk h.box (by decide) (hk.trans (congrArg some e))),aI0 hp ho (fun k hk e=>aG0 hp h.box (by decide) (hk.trans (congrArg some e))),aI0 h.ids ho (fun k hk e=>aG0 h.ids h.box (by decide) (hk.trans (congrArg some e))),fun j hj=>Nat.lt_of_lt_of_le (h.lim j hj) ho.size,h.farb,hf,h.fari⟩
theorem pC1 (F:Nat→Prop) (base mb bt ct:Nat) (m:Mkt) (vb vp vi:Value) (o:Ord) (w:World) (h:MkIs w F base mb bt ct m vb vp vi) (hL:m.L.length≤100) (hbs:base≤w.heap.size):
  Calls Tryz.prog 43 #[.pointer (some ⟨mb,7,none⟩),o.agg] w fun e w'=>e=.returned (.int .i64 (addN o m.L))∧∃v',MkIs w' F base mb bt ct { m with L:=addL o m.L } v' vp vi∧Out (fun j=>j=mb) w w':=by
 refine (tK1 base (spM F mb bt ct m vb vp vi) vb m.L o w h.book hL hbs).mono ?_;rintro e w' ⟨rfl,v',hb,ho⟩;exact ⟨rfl,v',h.ofBook hb ho,ho⟩
set_option maxRecDepth 4000 in
set_option maxHeartbeats 2000000 in
theorem zX0 (F:Nat→Prop) (base mb bt ct:Nat) (m:Mkt) (vb vp vi:Value) (w:World) (h:MkIs w F base mb bt ct m vb vp vi) (hL:m.L.length≤100) (hP:m.P.length≤100) (hbs:base≤w.heap.size):
  Calls Tryz.prog 58 #[.pointer (some ⟨mb,0,none⟩)] w fun e w'=>e=.returned (.tuple #[])∧∃v',MkIs w' F base mb bt ct (iG0 m) v' (.slice none 0 0) vi∧Out (fun j=>j=mb) w w':=by
 obtain ⟨ba,bc,hv,hin⟩:=cR0.of_row h.pk;subst hv;have c8:(w.setCell ⟨mb,10,none⟩ (.int .i64 5)).cell? ⟨mb,8,none⟩=some (.slice ba m.P.length bc):=aA0 (j:=8) (aK0 (j:=10) (.int .i64 5) h.box) rfl;have f10:=aB0 (j:=10) h.box;have c10:w.cell? ⟨mb,10,none⟩=some (.int .i64 m.ph):=aA0 (j:=10) h.box rfl;have H0:Hid (MkIs (w.setCell ⟨mb,10,none⟩ (.int .i64 5)) F base mb bt ct { m with ph:=5 } vb (.slice ba m.P.length bc) vi):=h.write (j:=10) (m':={ m with ph:=5 }) rfl rfl rfl rfl rfl;have O0:Hid (Out (fun j=>j=mb) w (w.setCell ⟨mb,10,none⟩ (.int .i64 5))):=aQ0 w ⟨mb,10,none⟩ (.int .i64 5);clear h hin;go_enter Tryz.func58,Tryz.ntmps58;go_wp2_with fail;generalize w.setCell ⟨mb,10,none⟩ (.int .i64 5)=w0 at c8 H0 O0 ⊢;clear f10 c10;go_loopw [12] (fun u12 wr=>∃(k:Nat) (v:Value),u12=.int .i64 k∧k≤m.P.length∧MkIs wr F base mb bt ct { m with ph:=5,L:=(m.P.take k).foldl (fun L o=>addL o L) m.L } v (.slice ba m.P.length bc) vi∧Out (fun j=>j=mb) w wr) (fun u12 _=>m.P.length - (intOf u12).toNat)
 case atStart=>exact ⟨0,vb,rfl,Nat.zero_le _,H0.out,O0.out⟩
 case round=>
  obtain ⟨k,v,rfl,hk,hm,ho⟩:=hrel;clear H0 O0;have HM:Hid _:=hm;have HO:Hid _:=ho;have HF:Hid (((m.P.take k).foldl (fun L o=>addL o L) m.L).length≤100):=zW0 _ _ hL
  by_cases hk1:k<m.P.length
  ·have hlt:(k:Int)<(m.P.length:Int):=by omega
   obtain ⟨g,cap,e1,d0,d1,d2,d3,d4⟩:=cD0 hm.pk hk1;injection e1 with e1 _ e2;subst e1 e2;have HS:Hid _:=fL1 m.L hk1;clear hm ho;go_wp2_with fail;have hx:=heap_alloc_new wr (.cells #[.int .i64 (oAt m.P k).id,.int .i64 (oAt m.P k).side,.int .i64 (oAt m.P k).kind,.int .i64 (oAt m.P k).price,.int .i64 (oAt m.P k).qty] 41);have HB1:=bel1 wr (.cells #[.int .i64 (oAt m.P k).id,.int .i64 (oAt m.P k).side,.int .i64 (oAt m.P k).kind,.int .i64 (oAt m.P k).price,.int .i64 (oAt m.P k).qty] 41);generalize wr.alloc (.cells #[.int .i64 (oAt m.P k).id,.int .i64 (oAt m.P k).side,.int .i64 (oAt m.P k).kind,.int .i64 (oAt m.P k).price,.int .i64 (oAt m.P k).qty] 41)=w1 at hx HB1 ⊢;have HM1:Hid _:=HM.out.below HB1;have HO1:Hid (Out (fun j=>j=mb) w w1):=HO.out.trans (Out.of_below HB1 lR7) (Went.refl _ _);have hlt1:=lt_of_block hx;have hne:wr.heap.size≠mb:=by have:=lt_of_block HM.out.box;omega
   have HSS:Hid (∀w',Out (fun j=>j=mb) w1 w'→w'.cell? ⟨wr.heap.size,0,none⟩=some (.int .i64 (oAt m.P k).id)∧w'.cell? ⟨wr.heap.size,1,none⟩=some (.int .i64 (oAt m.P k).side)∧w'.cell? ⟨wr.heap.size,2,none⟩=some (.int .i64 (oAt m.P k).kind)∧w'.cell? ⟨wr.heap.size,3,none⟩=some (.int .i64 (oAt m.P k).price)∧w'.cell? ⟨wr.heap.size,4,none⟩=some (.int .i64 (oAt m.P k).qty)∧Out (fun j=>j=mb) w1 w'):=fun w' ho=>by
    have hx':=(ho.block _ hlt1 hne).trans hx;exact ⟨aZ0 (j:=0) hx' rfl,aZ0 (j:=1) hx' rfl,aZ0 (j:=2) hx' rfl,aZ0 (j:=3) hx' rfl,aZ0 (j:=4) hx' rfl,ho⟩
   have hb1:base≤w1.heap.size:=Nat.le_trans hbs HO1.out.size;clear hx HB1 d0 d1 d2 d3 d4 HM HO c8 hlt1 hne
   go_region_held3 (fun w'=>w'.cell? ⟨wr.heap.size,0,none⟩=some (.int .i64 (oAt m.P k).id)∧w'.cell? ⟨wr.heap.size,1,none⟩=some (.int .i64 (oAt m.P k).side)∧w'.cell? ⟨wr.heap.size,2,none⟩=some (.int .i64 (oAt m.P k).kind)∧w'.cell? ⟨wr.heap.size,3,none⟩=some (.int .i64 (oAt m.P k).price)∧w'.cell? ⟨wr.heap.size,4,none⟩=some (.int .i64 (oAt m.P k).qty)∧Out (fun j=>j=mb) w1 w')
    ((refine HSS.out _ ?_;(first | exact HO2.out | exact Out.refl _ _ | exact aU0 (Out.refl _ _))))
    ((go_at_call 43;refine (pC1 F base mb bt ct _ v _ vi (oAt m.P k) w1.drew HM1.out.drew HF.out (by simpa using hb1)).mono ?_;rintro e w2 ⟨rfl,v2,hm2,ho2⟩;have HM2:Hid _:=hm2;have HO2:Hid (Out (fun j=>j=mb) w1 w2):=(aU0 (Out.refl _ _)).trans ho2 (Went.refl _ _);clear hm2 ho2))
   go_wp2_with fail;go_roundw
   case rel=>exact ⟨k+1,v2,by go_num,hk1,by rw [HS.out];exact HM2.out,HO1.out.trans HO2.out (Went.refl _ _)⟩
   case measure=>first | (simp [intOf];omega) | (show m.P.length - (k+1)<m.P.length - k;omega) | omega
  ·obtain rfl:k=m.P.length:=by omega
   rw [List.take_length] at HM HF;have f8:=aB0 (j:=8) HM.out.box;have c9:wr.cell? ⟨mb,8,none⟩=some (.slice ba m.P.length bc):=aA0 (j:=8) HM.out.box rfl;clear hm ho c8;go_wp2_with fail;refine bodyPost_end (results_none rfl _ _ _) rfl ?_;exact ⟨rfl,v,HM.out.parks (P':=[]) (World.ownsRow_nil _ _ _ _) (fun _ hj=>by cases hj),HO.out.trans (aQ0 _ ⟨mb,8,none⟩ _) (Went.refl _ _)⟩
def spP (F:Nat→Prop) (mb bt ct:Nat) (m:Mkt) (vb vp vi:Value):Spot:=⟨mb,8,67,mkV (.slice (some ⟨bt,0,none⟩) m.rs.length ct) m vb vp vi,F⟩
theorem MkIs.wait {w:World} {F:Nat→Prop} {base mb bt ct:Nat} {m:Mkt} {vb vp vi:Value} (h:MkIs w F base mb bt ct m vb vp vi):BookIs w base (spP F mb bt ct m vb vp vi) vp m.P:=⟨by show 8<14;decide,⟨by show (67:TypeId)≠41;decide,by show (67:TypeId)≠115;decide⟩,h.box,h.pk,h.lim,h.farp⟩
theorem MkIs.ofWait {w w':World} {F:Nat→Prop} {base mb bt ct:Nat} {m:Mkt} {vb vp vi v':Value} {P':List Ord} (h:MkIs w F base mb bt ct m vb vp vi) (hb:BookIs w' base (spP F mb bt ct m vb vp vi) v' P') (ho:Out (fun j=>j=mb) w w'):MkIs w' F base mb bt ct { m with P:=P' } vb v' vi:=
 ⟨hb.box,eI0 h.tab ho h.tne,h.tne,aI0 h.bk ho (fun k hk e=>aG0 h.bk h.box (by decide) (hk.trans (congrArg some e))),hb.all,aI0 h.ids ho (fun k hk e=>aG0 h.ids h.box (by decide) (hk.trans (congrArg some e))),hb.lim,h.farb,hb.far,h.fari⟩
theorem vB0 (F:Nat→Prop) (base mb bt ct:Nat) (m:Mkt) (vb vp vi:Value) (id:Int) (w:World) (h:MkIs w F base mb bt ct m vb vp vi) (hL:m.L.length≤100) (hbs:base≤w.heap.size):
  Calls Tryz.prog 55 #[.pointer (some ⟨mb,7,none⟩),.int .i64 id] w fun e w'=>∃o:Ord,e=.returned (.tuple #[o.agg,.int .i64 (canN id m.L)])∧∃v',MkIs w' F base mb bt ct { m with L:=canL id m.L } v' vp vi∧Out (fun j=>j=mb) w w':=by
 refine (kD1 base (spM F mb bt ct m vb vp vi) vb m.L id w h.book hL hbs).mono ?_;rintro e w' ⟨ho,v',⟨h1,rfl,hb⟩ | ⟨k,hk,h1,_,rfl,hb⟩⟩
 ·refine ⟨_,by unfold canN;rw [if_pos h1],v',?_,ho⟩;have:=h.ofBook hb ho;unfold canL;rw [if_pos h1];exact this
 ·have hne:¬idxO id m.L=-1:=by omega
  refine ⟨_,by unfold canN;rw [if_neg hne],v',?_,ho⟩;have:=h.ofBook hb ho;unfold canL;rw [if_neg hne,h1];exact this
set_option maxRecDepth 100000 in
set_option maxHeartbeats 4000000 in
theorem kQ1 (F:Nat→Prop) (base mb bt ct:Nat) (m:Mkt) (vb vp vi:Value) (id:Int) (w:World) (h:MkIs w F base mb bt ct m vb vp vi) (hL:m.L.length≤100) (hP:m.P.length≤100) (hbs:base≤w.heap.size):
  Calls Tryz.prog 14 #[.pointer (some ⟨mb,0,none⟩),.int .i64 id] w fun e w'=>e=.returned (.int .i64 (kF0 m id))∧∃vb' vp',MkIs w' F base mb bt ct (canM m id) vb' vp' vi∧Out (fun j=>j=mb) w w':=by
 have c10:w.cell? ⟨mb,10,none⟩=some (.int .i64 m.ph):=aA0 (j:=10) h.box rfl;have c8:w.cell? ⟨mb,8,none⟩=some vp:=aA0 (j:=8) h.box rfl;have H:Hid (MkIs w F base mb bt ct m vb vp vi):=h
 by_cases h7:m.ph=7
 ·have e7:(m.ph == 7)=true:=beq_iff_eq.2 h7;have HN:Hid (kF0 m id=6∧canM m id=m):=⟨by unfold kF0;rw [if_pos h7],by unfold canM;rw [if_pos h7]⟩;clear h7 h;go_enter Tryz.func14,Tryz.ntmps14;go_wp2_with fail;go_ret;exact ⟨by rw [HN.out.1];rfl,vb,vp,by rw [HN.out.2];exact H.out,Out.refl _ _⟩
 ·have e7:(m.ph == 7)=false:=beq_eq_false_iff_ne.2 h7;have HY:Hid (∀k:Nat,idxO id m.P=k→kF0 m id=0∧canM m id={ m with P:=dI0 k m.P }):=fun k hk=>⟨by unfold kF0;rw [if_neg h7,if_pos (by omega)],by unfold canM;rw [if_neg h7,if_pos (by omega),hk];rfl⟩
  have HZ:Hid (idxO id m.P=-1→kF0 m id=canN id m.L∧canM m id={ m with L:=canL id m.L }):=fun hk=>⟨by unfold kF0;rw [if_neg h7,if_neg (by omega)],by unfold canM;rw [if_neg h7,if_neg (by omega)]⟩
  obtain ⟨ao,cap,rfl,_,_⟩:=aW0 h.pk;clear h7 h;go_enter Tryz.func14,Tryz.ntmps14;go_wp2_with fail;go_loopw [19] (fun v wr=>∃k:Nat,k≤m.P.length∧v=.int .i64 k∧Below w.heap.size w wr∧idxF id k (m.P.drop k)=idxO id m.P) (fun v _=>m.P.length - (intOf v).toNat)
  case atStart=>exact ⟨0,Nat.zero_le _,rfl,Below.refl _ _,rfl⟩
  case round=>
   obtain ⟨k,hk,rfl,hb,hq⟩:=hrel;have HB:Hid (Below w.heap.size w wr):=hb;have HQ:Hid (idxF id k (m.P.drop k)=idxO id m.P):=hq;clear hb hq
   by_cases hk1:k<m.P.length
   ·obtain ⟨g,cap',hv,d0,d1,d2,d3,d4⟩:=cD0 (H.out.below HB.out).pk hk1;simp only [Value.slice.injEq,true_and] at hv;obtain ⟨rfl,rfl⟩:=hv
    by_cases hx:(oAt m.P k).id=id
    ·have HX:Hid (idxO id m.P=k):=by show _=_;rw [←HQ.out,rL0 hk1 hx]
     rw [hx] at d0;clear hx;obtain ⟨i0,hi0,hz0,hz1,hz2⟩:=info_parts Tryz.infoOrd;go_upto_region 7 with fail;generalize hW:wr.alloc (.cells #[.int .i64 id,.int .i64 (oAt m.P k).side,.int .i64 (oAt m.P k).kind,.int .i64 (oAt m.P k).price,.int .i64 (oAt m.P k).qty] 41)=w2;have hB2:Below wr.heap.size wr w2:=by rw [←hW];exact uO0 _ _
     have HB2:Hid (Below w.heap.size w w2):=aD0 HB.out hB2;have HM2:Hid (MkIs w2 F base mb bt ct m vb (.slice (some ⟨g,0,none⟩) m.P.length cap) vi):=H.out.below HB2.out;have HA2:Hid (BookIs w2 base (spP F mb bt ct m vb (.slice (some ⟨g,0,none⟩) m.P.length cap) vi) (.slice (some ⟨g,0,none⟩) m.P.length cap) m.P):=HM2.out.wait;have c2:w2.cell? ⟨mb,8,none⟩=some (.slice (some ⟨g,0,none⟩) m.P.length cap):=HA2.out.cell;have f2:w2.frozen? ⟨mb,8,none⟩=false:=HA2.out.free;have lb2:mb<w2.heap.size:=lt_of_block HM2.out.box;have hbs2:base≤w2.heap.size:=by have:=HB2.out.size;omega
     have q1:(0:Int)≤(k:Int):=by omega
     have q2:(k:Int)<m.P.length:=by omega
     clear hB2 hW d0 d1 d2 d3 d4 c8 c10 H HB HQ;go_cut [44] (fun _ wc=>∃g' n' c',BookIs wc base (spP F mb bt ct m vb (.slice (some ⟨g,0,none⟩) m.P.length cap) vi) (.slice (some ⟨g',0,none⟩) n' c') (dI0 k m.P)∧w2.heap.size≤g'∧Out (·=mb) w2 wc)
     case first=>
      have q3:(k:Int)≤(cap:Int):=by omega
      have q4:IntKind.i64.wrap ((k:Int)+1)=(k:Int)+1:=IntWalk.i64_in _ (by omega);have q5:(0:Int)≤(k:Int)+1:=by omega
      have q6:(k:Int)+1≤(m.P.length:Int):=by omega
      have q7:(m.P.length:Int)≤(cap:Int):=by omega
      have q8:((k:Int)+1).toNat=k+1:=by omega
      have q63:0+k≤maxLen:=by unfold maxLen;omega
      have q64:k+(m.P.length - (k+1))≤maxLen:=by unfold maxLen;omega
      have LA:Hid ((oV (m.P.take k)).length=k*5):=(bR0 _).trans (by rw [List.length_take,Nat.min_eq_left (by omega)]);have LB:Hid ((oV (m.P.drop (k+1))).length=(m.P.length - (k+1))*5):=(bR0 _).trans (by rw [List.length_drop])
      by_cases hce:cap=k+1
      ·subst hce;have q65:k+0≤maxLen:=by unfold maxLen;omega
       have q9:(k:Int)≤(k:Int)+1:=by omega
       go_region_law (first | (refine aV0 _ (by rfl) (.tmp 29) (.tmp 35) 59 (by rfl) base 41 i0 _ 5 40 Tryz.underlying59 hi0 hz0 hz1 hz2 (by rfl) (by omega) _ 0 0 [] (by rfl) (dN0 (heap_alloc_new _ _) hbs2) _ k _ (oV (m.P.take k)) (by rfl) LA.out (Lies.take HA2.out.all (by (repeat' first | assumption | exact Below.refl _ _ | exact lR7 | refine Below.drew ?_ | refine Below.alloc ?_ ?_ _ | (simp;done) | (simp;omega)))) (gV0 _) q63 (by omega) (gR0 (by (repeat' first | assumption | exact Below.refl _ _ | exact lR7 | refine Below.drew ?_ | refine Below.alloc ?_ ?_ _ | (simp;done) | (simp;omega))) hbs2) ?_;intro gA cA wA hoA hgA hatA hltA;have bA:Below w2.heap.size w2 wA:=cH0 (by (repeat' first | assumption | exact Below.refl _ _ | exact lR7 | refine Below.drew ?_ | refine Below.alloc ?_ ?_ _ | (simp;done) | (simp;omega))) hgA lR7;have kA:w2.heap.size≤gA:=gA0 (by (repeat' first | assumption | exact Below.refl _ _ | exact lR7 | refine Below.drew ?_ | refine Below.alloc ?_ ?_ _ | (simp;done) | (simp;omega))) hatA lR7;have lA:w2.heap.size≤wA.heap.size:=bA.size;have yA0:wA.cell? ⟨mb,8,none⟩=some (.slice (some ⟨g,0,none⟩) m.P.length _):=(HA2.out.below bA lR7).cell;rw [Nat.zero_add,List.nil_append] at hoA;have OA:Hid _:=hoA;have BA:Hid _:=bA;clear hoA hatA bA hgA) | (refine aV0 _ (by rfl) (.tmp 36) (.tmp 43) 59 (by rfl) base 41 i0 _ 5 40 Tryz.underlying59 hi0 hz0 hz1 hz2 (by rfl) (by omega) _ _ _ _ (by rfl) (cB0 (B:=wA.heap.size) OA.out (by (repeat' first | assumption | exact Below.refl _ _ | exact lR7 | refine Below.drew ?_ | refine Below.alloc ?_ ?_ _ | (simp;done) | (simp;omega))) lR7) _ 0 _ [] (by rfl) (by rfl) (Or.inl ⟨rfl,rfl⟩) (by simp) q65 (by omega) (gR0 (dO0 BA.out (by (repeat' first | assumption | exact Below.refl _ _ | exact lR7 | refine Below.drew ?_ | refine Below.alloc ?_ ?_ _ | (simp;done) | (simp;omega)))) hbs2) ?_;intro gB cB wB hoB hgB hatB hltB;have bB:Below w2.heap.size w2 wB:=cH0 (dO0 BA.out (by (repeat' first | assumption | exact Below.refl _ _ | exact lR7 | refine Below.drew ?_ | refine Below.alloc ?_ ?_ _ | (simp;done) | (simp;omega)))) hgB kA;have kB:w2.heap.size≤gB:=gA0 (dO0 BA.out (by (repeat' first | assumption | exact Below.refl _ _ | exact lR7 | refine Below.drew ?_ | refine Below.alloc ?_ ?_ _ | (simp;done) | (simp;omega)))) hatB kA;have xB:=HA2.out.below bB lR7;have yB0:wB.cell? ⟨mb,8,none⟩=some (.slice (some ⟨g,0,none⟩) m.P.length _):=xB.cell;have yB1:wB.frozen? ⟨mb,8,none⟩=false:=xB.free;have lB:mb<wB.heap.size:=Nat.lt_of_lt_of_le lb2 bB.size;have OB:Hid _:=hoB;have BB:Hid _:=bB;clear xB hoB hatB hltB hgB bB))
       all_goals go_wp2_with fail
       all_goals go_meet
       all_goals (have hd:=iL0 (l':=dI0 k m.P) HA2.out (Below.refl _ _) BB.out OB.out kB (by unfold dI0;simp;omega) (by unfold dI0;rw [cC0,List.drop_eq_nil_of_le (by omega)];rfl);exact ⟨_,_,_,hd.1,kB,hd.2⟩)
      ·go_region_law (first | (refine aV0 _ (by rfl) (.tmp 29) (.tmp 35) 59 (by rfl) base 41 i0 _ 5 40 Tryz.underlying59 hi0 hz0 hz1 hz2 (by rfl) (by omega) _ 0 0 [] (by rfl) (dN0 (heap_alloc_new _ _) hbs2) _ k _ (oV (m.P.take k)) (by rfl) LA.out (Lies.take HA2.out.all (by (repeat' first | assumption | exact Below.refl _ _ | exact lR7 | refine Below.drew ?_ | refine Below.alloc ?_ ?_ _ | (simp;done) | (simp;omega)))) (gV0 _) q63 (by omega) (gR0 (by (repeat' first | assumption | exact Below.refl _ _ | exact lR7 | refine Below.drew ?_ | refine Below.alloc ?_ ?_ _ | (simp;done) | (simp;omega))) hbs2) ?_;intro gA cA wA hoA hgA hatA hltA;have bA:Below w2.heap.size w2 wA:=cH0 (by (repeat' first | assumption | exact Below.refl _ _ | exact lR7 | refine Below.drew ?_ | refine Below.alloc ?_ ?_ _ | (simp;done) | (simp;omega))) hgA lR7;have kA:w2.heap.size≤gA:=gA0 (by (repeat' first | assumption | exact Below.refl _ _ | exact lR7 | refine Below.drew ?_ | refine Below.alloc ?_ ?_ _ | (simp;done) | (simp;omega))) hatA lR7;have lA:w2.heap.size≤wA.heap.size:=bA.size;have yA0:wA.cell? ⟨mb,8,none⟩=some (.slice (some ⟨g,0,none⟩) m.P.length _):=(HA2.out.below bA lR7).cell;rw [Nat.zero_add,List.nil_append] at hoA;have OA:Hid _:=hoA;have BA:Hid _:=bA;clear hoA hatA bA hgA) | (refine aV0 _ (by rfl) (.tmp 36) (.tmp 43) 59 (by rfl) base 41 i0 _ 5 40 Tryz.underlying59 hi0 hz0 hz1 hz2 (by rfl) (by omega) _ _ _ _ (by rfl) (cB0 (B:=wA.heap.size) OA.out (by (repeat' first | assumption | exact Below.refl _ _ | exact lR7 | refine Below.drew ?_ | refine Below.alloc ?_ ?_ _ | (simp;done) | (simp;omega))) lR7) _ (m.P.length - (k+1)) _ (oV (m.P.drop (k+1))) (by rfl) LB.out (by first | exact Lies.drop HA2.out.all (dO0 BA.out (by (repeat' first | assumption | exact Below.refl _ _ | exact lR7 | refine Below.drew ?_ | refine Below.alloc ?_ ?_ _ | (simp;done) | (simp;omega)))) | exact Or.inl ⟨by omega,by rw [List.drop_eq_nil_of_le (by omega)];rfl⟩) (gV0 _) q64 (by omega) (gR0 (dO0 BA.out (by (repeat' first | assumption | exact Below.refl _ _ | exact lR7 | refine Below.drew ?_ | refine Below.alloc ?_ ?_ _ | (simp;done) | (simp;omega)))) hbs2) ?_;intro gB cB wB hoB hgB hatB hltB;have bB:Below w2.heap.size w2 wB:=cH0 (dO0 BA.out (by (repeat' first | assumption | exact Below.refl _ _ | exact lR7 | refine Below.drew ?_ | refine Below.alloc ?_ ?_ _ | (simp;done) | (simp;omega)))) hgB kA;have kB:w2.heap.size≤gB:=gA0 (dO0 BA.out (by (repeat' first | assumption | exact Below.refl _ _ | exact lR7 | refine Below.drew ?_ | refine Below.alloc ?_ ?_ _ | (simp;done) | (simp;omega)))) hatB kA;have xB:=HA2.out.below bB lR7;have yB0:wB.cell? ⟨mb,8,none⟩=some (.slice (some ⟨g,0,none⟩) m.P.length _):=xB.cell;have yB1:wB.frozen? ⟨mb,8,none⟩=false:=xB.free;have lB:mb<wB.heap.size:=Nat.lt_of_lt_of_le lb2 bB.size;have OB:Hid _:=hoB;have BB:Hid _:=bB;clear xB hoB hatB hltB hgB bB))
       all_goals go_wp2_with fail
       all_goals go_meet
       all_goals (have hd:=iL0 (l':=dI0 k m.P) HA2.out (Below.refl _ _) BB.out OB.out kB (by unfold dI0;simp;omega) (by unfold dI0;rw [cC0]);exact ⟨_,_,_,hd.1,kB,hd.2⟩)
     case rest=>
      obtain ⟨g',n',c',h1,h2,h3⟩:=hcut;have HM3:Hid _:=HM2.out.ofWait h1 h3;have HO3:Hid (Out (fun j=>j=mb) w wc):=(Out.of_below HB2.out lR7).trans h3 (Went.refl _ _);clear h1 h2 h3;go_wp2_with fail;go_ret;exact ⟨by rw [(HY.out k HX.out).1];rfl,vb,_,by rw [(HY.out k HX.out).2];exact HM3.out,HO3.out⟩
    ·have hxb:((oAt m.P k).id == id)=false:=beq_eq_false_iff_ne.2 hx;have HX:Hid (¬(oAt m.P k).id=id):=hx;clear hx;go_wp2_with fail;go_roundw
     case rel=>exact ⟨k+1,hk1,by go_num,HB.out.alloc HB.out.size _,(nP0 hk1 HX.out).trans HQ.out⟩
     case measure=>first | (simp [intOf];omega) | (show m.P.length - (k+1)<m.P.length - k;omega) | omega
   ·have HI:Hid (idxO id m.P=-1):=by show _=_;rw [←HQ.out,rM0 (by omega)]
    have HM1:Hid _:=H.out.below HB.out;have hb1:base≤wr.heap.size:=Nat.le_trans hbs HB.out.size;go_wp2_with fail;refine (vB0 F base mb bt ct m vb _ vi id wr HM1.out hL hb1).mono ?_;rintro e w5 ⟨o,rfl,v5,hm5,ho5⟩;unfold Ord.agg;have HM5:Hid _:=hm5;have HO5:Hid _:=ho5;clear hm5 ho5;go_wp2_with fail;go_ret;exact ⟨by rw [(HZ.out HI.out).1];rfl,v5,_,by rw [(HZ.out HI.out).2];exact HM5.out.below (bel1 _ _),(Out.of_below HB.out lR7).trans (HO5.out.trans (Out.of_below (bel1 _ _) lR7) (Went.refl _ _)) (Went.refl _ _)⟩
section
variable {P:Program} {ops:Array Oper} {Q:Exit→Act→World→Prop} {md:Region.Mode} {S:Nat→World→Prop} {L:Nat→Nat→Bool}
def eZ0 (P:Program) (md:Region.Mode) (ops:Array Oper) (Q:Exit→Act→World→Prop) (S:Nat→World→Prop) (L:Nat→Nat→Bool):Nat→Array Bool→Act→World→Prop
 | 0,listed,a,w=>Region.ready md ops listed=[]∧Q .normal a w
 | fuel+1,listed,a,w=>(Region.ready md ops listed=[]→Q .normal a w)∧∀i∈Region.ready md ops listed,wpOp P ops Q i (fun a' w'=>(∀n,L n i=false→S n w→S n w')∧eZ0 P md ops Q S L fuel (listed.setIfInBounds i true) a' w') a w
theorem jY0:∀(fuel:Nat) (listed:Array Bool) (a:Act) (w:World),eZ0 P md ops Q S L fuel listed a w→wpAny P md ops Q fuel listed a w
 | 0,_,_,_,h=>h
 | fuel+1,_,_,_,h=>⟨h.1,fun i hi=>wpOp_mono (fun a' w' h'=>jY0 fuel _ a' w' h'.2) (h.2 i hi)⟩
theorem mT0 {i:Nat} {oi:Oper} {v:Value} {D:World→Prop} (hi:ops[i]? = some oi) (hsel:∀(j:Nat) (o:Oper) cs b,ops[j]? = some o→o.op≠.select cs b) (hQ:∀c a w,Q (.panic c) (a.put oi.dst v) w→Q (.panic c) a w)
  (hD:∀(listed:Array Bool) (j:Nat) (w w':World),Down md ops listed→listed.getD i true=false→j∈Region.ready md ops listed→(∀n,L n j=false→S n w→S n w')→D w→D w'):
  ∀(fuel:Nat) (listed:Array Bool) (a:Act) (w:World),
   (∀j oj,ops[j]? = some oj→j≠i→listed.getD j true=false→(∀e∈oj.after,Region.binds md e=true→e.on≠i)→oi.apart ops oj=true)→Down md ops listed→
   i∈Region.ready md ops listed→YieldsIf P ops D oi v a→D w→eZ0 P md ops Q S L fuel (listed.setIfInBounds i true) (a.put oi.dst v) w→eZ0 P md ops Q S L (fuel+1) listed a w:=by
 intro fuel
 induction fuel with
 | zero=>
  intro listed a w _ _ hr hy hS H;refine ⟨fun h=>(by rw [h] at hr;cases hr),fun j hj=>?_⟩
  by_cases hji:j=i
  ·subst hji;exact hy.wpOp hi hS ⟨fun _ _ h=>h,H⟩
  ·have:=ready_mono hj hji;rw [H.1] at this;cases this
 | succ fuel ih=>
  intro listed a w hfree hd hr hy hS H;refine ⟨fun h=>(by rw [h] at hr;cases hr),fun j hj=>?_⟩
  by_cases hji:j=i
  ·subst hji;exact hy.wpOp hi hS ⟨fun _ _ h=>h,H⟩
  obtain ⟨hjun,oj,hoj,hall⟩:=mem_ready.1 hj;have hun:listed.getD i true=false:=(mem_ready.1 hr).1
  have hnot:∀e∈oj.after,Region.binds md e=true→e.on≠i:=fun e he hb heq=>by
   have h1:=hall e he hb;rw [heq] at h1;rcases Nat.lt_or_ge i listed.size with h' | h'
   ·simp [h'] at hun h1;rw [hun] at h1;cases h1
   ·simp [Array.getElem?_eq_none h'] at h1
  have h2:=wpOp_putIf hoj (hfree j oj hoj hji hjun hnot) (fun cs b=>hsel i oi cs b hi) (fun cs b=>hsel j oj cs b hoj) hQ hy (H.2 j (ready_mono hj hji))
  refine wpOp_mono (fun a' w' h3=>⟨h3.2.1,ih (listed.setIfInBounds j true) a' w' (fun k ok hk hki hku hno=>hfree k ok hk hki (by
   by_cases hjk:j=k
   ·subst hjk;exact hjun
   ·rw [getD_set_ne true hjk] at hku;exact hku) hno) (hd.more hj) (ready_mono hr (Ne.symm hji)) h3.1 (hD listed j w w' hd hun hj h3.2.1 hS) ?_⟩) h2
  rw [Array.setIfInBounds_comm _ _ hji];exact h3.2.2
theorem xL0 (n:Nat) {i:Nat} {oi:Oper} {v:Value} {fuel:Nat} {listed:Array Bool} {a:Act} {w:World} (hi:ops[i]? = some oi) (hs:Region.noSelect ops=true) (hf:Region.free md ops listed i=true) (hr:(Region.ready md ops listed).contains i=true) (hl:bD1 md ops (L n) i=true) (hd:wI0 md ops listed=true)
  (hQ:∀c a w,Q (.panic c) (a.put oi.dst v) w→Q (.panic c) a w) (hw:Region.wanted oi (yielded ops a.tmps)=true) (hy:∀w,S n w→(execOp a.eval oi).run P w=.ok (.value v) w) (hS:S n w)
  (h:eZ0 P md ops Q S L fuel (listed.setIfInBounds i true) (a.put oi.dst v) w):eZ0 P md ops Q S L (fuel+1) listed a w:=
 mT0 (D:=S n) hi (Region.noSelect_spec hs) hQ (fun listed' j w w' hd' hun hj hk hS'=>hk n (yV0 hl hd' (by
   rcases Nat.lt_or_ge i listed'.size with h' | h'
   ·simpa [h'] using hun
   ·simp [Array.getElem?_eq_none h']) hj) hS') fuel listed a w (Region.free_spec hi hf) (oB0 hd) (by simpa using hr) (Or.inl ⟨hw,hy⟩) hS h
theorem tkM7 (n:Nat) {i:Nat} {oi:Oper} {v:Value} {fuel:Nat} {listed:Array Bool} {a:Act} {w:World} (hi:ops[i]? = some oi) (hk:(Region.noSelect ops&& Region.free md ops listed i&& (Region.ready md ops listed).contains i&& bD1 md ops (L n) i&& wI0 md ops listed)=true)
  (hQ:∀c a w,Q (.panic c) (a.put oi.dst v) w→Q (.panic c) a w) (hw:Region.wanted oi (yielded ops a.tmps)=true) (hy:∀w,S n w→(execOp a.eval oi).run P w=.ok (.value v) w) (hS:S n w)
  (h:eZ0 P md ops Q S L fuel (listed.setIfInBounds i true) (a.put oi.dst v) w):eZ0 P md ops Q S L (fuel+1) listed a w:=by
 simp only [Bool.and_eq_true] at hk;exact xL0 n hi hk.1.1.1.1 hk.1.1.1.2 hk.1.1.2 hk.1.2 hk.2 hQ hw hy hS h
theorem xM0 {i:Nat} {oi:Oper} {v:Value} {fuel:Nat} {listed:Array Bool} {a:Act} {w:World} (hi:ops[i]? = some oi) (hs:Region.noSelect ops=true) (hf:Region.free md ops listed i=true) (hr:(Region.ready md ops listed).contains i=true) (hd:wI0 md ops listed=true)
  (hQ:∀c a w,Q (.panic c) (a.put oi.dst v) w→Q (.panic c) a w) (hw:Region.wanted oi (yielded ops a.tmps)=true) (hy:∀w,(execOp a.eval oi).run P w=.ok (.value v) w)
  (h:eZ0 P md ops Q S L fuel (listed.setIfInBounds i true) (a.put oi.dst v) w):eZ0 P md ops Q S L (fuel+1) listed a w:=
 mT0 (D:=fun _=>True) hi (Region.noSelect_spec hs) hQ (fun _ _ _ _ _ _ _ _ _=>trivial) fuel listed a w (Region.free_spec hi hf) (oB0 hd) (by simpa using hr) (Or.inl ⟨hw,fun w _=>hy w⟩) trivial h
theorem puM7 {i:Nat} {oi:Oper} {v:Value} {fuel:Nat} {listed:Array Bool} {a:Act} {w:World} (hi:ops[i]? = some oi) (hk:(Region.noSelect ops&& Region.free md ops listed i&& (Region.ready md ops listed).contains i&& wI0 md ops listed)=true)
  (hQ:∀c a w,Q (.panic c) (a.put oi.dst v) w→Q (.panic c) a w) (hw:Region.wanted oi (yielded ops a.tmps)=true) (hy:∀w,(execOp a.eval oi).run P w=.ok (.value v) w)
  (h:eZ0 P md ops Q S L fuel (listed.setIfInBounds i true) (a.put oi.dst v) w):eZ0 P md ops Q S L (fuel+1) listed a w:=by
 simp only [Bool.and_eq_true] at hk;exact xM0 hi hk.1.1.1 hk.1.1.2 hk.1.2 hk.2 hQ hw hy h
theorem aM0 {i:Nat} {o:Oper} {fuel:Nat} {listed:Array Bool} {a:Act} {w:World} (hr:Region.ready md ops listed=[i]) (ho:ops[i]? = some o)
  (h:∀K':Act→World→Prop,Shut (∀a w',(∀n,L n i=false→S n w→S n w')→eZ0 P md ops Q S L fuel (listed.setIfInBounds i true) a w'→K' a w')→if Region.wanted o (yielded ops a.tmps)=true then Oper.wp P o a w K' Q else K' (a.put o.dst undef) w):eZ0 P md ops Q S L (fuel+1) listed a w:=
 ⟨fun h0=>(by rw [hr] at h0;cases h0),fun j hj=>by
  rw [hr] at hj;rcases List.mem_cons.1 hj with rfl | hj
  ·exact wpOp_step ho (fun K' hK=>h K' (fun a w' hS hW=>hK a w' ⟨hS,hW⟩))
  ·cases hj⟩
theorem bI0 {listed:Array Bool} {a:Act} {w:World} (hr:Region.ready md ops listed=[]) (h:Q .normal a w):∀fuel,eZ0 P md ops Q S L fuel listed a w
 | 0=>⟨hr,h⟩
 | _+1=>⟨fun _=>h,by rw [hr];simp⟩
theorem bX0 {id:Nat} {a:Act} {w:World} (S:Nat→World→Prop) (L:Nat→Nat→Bool) (hm:P.follows .mixedOrders=true) (hS:∀n,S n w.drew) (h:(∀n,S n w.drew)→eZ0 P .any ops Q S L ops.size (Array.replicate ops.size false) a w.drew):(Code.region id ops true).wp P Q a w:=
 wp_region_any hm (jY0 _ _ _ _ (h hS))
end
end Go.Proofs.YtjdkagafdnchhaaGreatDoor
