/- DeskPieces: a part of the proof, packed (the readable form: the templates). -/
import Derived.Test.YtaelphbianmckaaGreatDoorQA
import Derived.Test.YtaelphbianmckaaGreatDoorQO
import Derived.Test.YtaelphbianmckaaGreatDoorQI
import Derived.Deep.RegionHeld3
import Derived.Test.YtaelphbianmckaaGreatDoorQJ
import Derived.Test.YtaelphbianmckaaGreatDoorQD
import Derived.Test.YtaelphbianmckaaGreatDoorQL
namespace Go.Proofs.YtaelphbianmckaaGreatDoor
open Go.RowKit
def aZ0 (w w':World) (eb:Nat) (k:EgK) (r:List Fil×Mkt) (vf:Value):Prop:=∃k',w'.ownsRow w.heap.size 146 4 vf r.1.length (fV r.1)∧EgGo w w' eb k k' r.2∧k'.m≤k.m+302
theorem aZ0.mk' {w w':World} {eb:Nat} {k k':EgK} {r:List Fil×Mkt} {fs:List Fil} {M':Mkt} {vf:Value} (he:r=(fs,M')) (h1:w'.ownsRow w.heap.size 146 4 vf fs.length (fV fs)) (h2:EgGo w w' eb k k' M') (h3:k'.m≤k.m+302):aZ0 w w' eb k r vf:=by
 subst he;exact ⟨k',h1,h2,h3⟩
theorem aZ0.none_ {w w':World} {eb:Nat} {k k':EgK} {r:List Fil×Mkt} {M':Mkt} (he:r=([],M')) (h2:EgGo w w' eb k k' M') (h3:k'.m≤k.m+302):aZ0 w w' eb k r (.slice none 0 0):=aZ0.mk' he (World.ownsRow_nil _ _ _ _) h2 h3
theorem aZ0.from_ {w w1 w2:World} {eb:Nat} {k:EgK} {M1:Mkt} {r:List Fil×Mkt} {vf:Value} (h:EgGo w w1 eb k k M1) (h1:aZ0 w1 w2 eb k r vf):aZ0 w w2 eb k r vf:=by
 obtain ⟨k',a,b,c⟩:=h1;exact ⟨k',cB0 a h.2.1.size,h.trans b,c⟩
def resM (M:Mkt):List Fil×Mkt:=((uncM M).1,{ (uncM M).2 with ph:=3 })
set_option maxRecDepth 4000 in
set_option maxHeartbeats 2000000 in
theorem rY0 (eb:Nat) (k:EgK) (M:Mkt) (w:World) (h:Eg w eb k M) (ha:eD0 M.ph=true) (hla:1≤M.la∧M.la≤1000000) (hm:k.m≤700000):
  Calls Tryz.prog 176 #[.pointer (some ⟨eb,0,none⟩)] w fun e w'=>∃vf,e=.returned vf∧aZ0 w w' eb k (resM M) vf:=by
 have H:Hid (Eg w eb k M):=h;have HA:Hid (eD0 M.ph=true):=ha;have HRM:Hid (resM M=((uncM M).1,{ (uncM M).2 with ph:=3 })):=rfl;clear h ha;go_enter Tryz.func176,Tryz.ntmps176;go_wp2_with fail;refine (uR0 eb k M w H.out HA.out hla hm).mono ?_;rintro e w1 ⟨vf,k1,rfl,hr,hg,hk⟩;generalize (uncM M).1=fs at hr HRM;generalize (uncM M).2=M1 at hg HRM;have c5:w1.cell? ⟨eb,5,none⟩=some (.int .i64 M1.ph):=aA0 (j:=5) hg.1.box rfl;have f5:=aB0 (j:=5) hg.1.box;have h2:=hg.1.write (j:=5) (u:=.int .i64 3) (M':={ M1 with ph:=3 }) rfl rfl rfl rfl rfl ⟨rfl,rfl,rfl,rfl⟩;have HR2:Hid _:=aL0 hr h2.2.1 (hg.1.farFills hr);have HG2:Hid (EgGo w (w1.setCell ⟨eb,5,none⟩ (.int .i64 3)) eb k k1 { M1 with ph:=3 }):=hg.trans h2;clear hr hg h2;go_wp2_with fail;go_ret;exact ⟨vf,rfl,aZ0.mk' HRM.out HR2.out HG2.out hk⟩
def mN0 (p:Int) (M:Mkt):List Fil×Mkt:=if p=3 then resM M else if p=5 then ([],jE0 M) else ([],{ M with ph:=p })
set_option maxRecDepth 4000 in
set_option maxHeartbeats 2000000 in
theorem rY1 (eb:Nat) (k:EgK) (M:Mkt) (p:Int) (w:World) (h:Eg w eb k M) (ha:p=3→eD0 M.ph=true) (hla:1≤M.la∧M.la≤1000000) (hP:M.P.length≤100) (hw:∀o∈M.P,(Lit.int .i64 o.id).wf=true) (hm:k.m≤700000):
  Calls Tryz.prog 123 #[.pointer (some ⟨eb,0,none⟩),.int .i64 p] w fun e w'=>∃vf,e=.returned vf∧aZ0 w w' eb k (mN0 p M) vf:=by
 have H:Hid (Eg w eb k M):=h;have HA:Hid (p=3→eD0 M.ph=true):=ha;have HW:Hid (∀o∈M.P,(Lit.int .i64 o.id).wf=true):=hw;have c5:w.cell? ⟨eb,5,none⟩=some (.int .i64 M.ph):=aA0 (j:=5) h.box rfl;have f5:=aB0 (j:=5) h.box;clear h ha hw
 by_cases h3:p=3
 ·have HT:Hid (mN0 p M=resM M):=by show _=_;unfold mN0;rw [if_pos h3]
  have HA3:Hid (eD0 M.ph=true):=HA.out h3;have e3:(p == 3)=true:=beq_iff_eq.2 h3;clear h3;go_enter Tryz.func123,Tryz.ntmps123;go_wp2_with fail;refine (rY0 eb k M w H.out HA3.out hla hm).mono ?_;rintro e w1 ⟨vf,rfl,ht⟩;have HTE:Hid _:=ht;clear ht;go_wp2_with fail;go_ret;exact ⟨vf,rfl,by rw [HT.out];exact HTE.out⟩
 ·have e3:(p == 3)=false:=beq_eq_false_iff_ne.2 h3
  by_cases h5:p=5
  ·have HT:Hid (mN0 p M=([],jE0 M)):=by show _=_;unfold mN0;rw [if_neg h3,if_pos h5]
   have e5:(p == 5)=true:=beq_iff_eq.2 h5;clear h3 h5;go_enter Tryz.func123,Tryz.ntmps123;go_wp2_with fail;refine (gD1 eb k M w H.out hP HW.out hm).mono ?_;rintro e w1 ⟨k1,rfl,hg,hk⟩;have HG:Hid _:=hg;clear hg;go_wp2_with fail;go_ret;exact ⟨_,rfl,aZ0.none_ HT.out HG.out (Nat.le_trans hk (by omega))⟩
  ·have HT:Hid (mN0 p M=([],{ M with ph:=p })):=by show _=_;unfold mN0;rw [if_neg h3,if_neg h5]
   have e5:(p == 5)=false:=beq_eq_false_iff_ne.2 h5;clear h3 h5;go_enter Tryz.func123,Tryz.ntmps123;go_wp2_with fail;go_ret;exact ⟨_,rfl,aZ0.none_ HT.out (H.out.write (j:=5) (u:=.int .i64 p) (M':={ M with ph:=p }) rfl rfl rfl rfl rfl ⟨rfl,rfl,rfl,rfl⟩) (Nat.le_add_right _ _)⟩
def setM (M:Mkt):List Fil×Mkt:=if (aG0 M).qty=0∨eV0 M.st M.an (aG0 M).price=true then resM M else if M.lo<M.mo then ([],{ M with lo:=M.lo+1,en:=M.now+M.ti }) else ([],{ M with ph:=6 })
set_option maxRecDepth 4000 in
set_option maxHeartbeats 4000000 in
theorem lC1 (eb:Nat) (k:EgK) (M:Mkt) (w:World) (h:Eg w eb k M) (ha:eD0 M.ph=true) (hla:1≤M.la∧M.la≤1000000) (hn:0≤M.now∧M.now≤1000000000000) (ht:0≤M.ti∧M.ti≤1000000000000) (hlo:0≤M.lo∧M.lo≤1000000) (hm:k.m≤700000):
  Calls Tryz.prog 124 #[.pointer (some ⟨eb,0,none⟩)] w fun e w'=>∃vf,e=.returned vf∧aZ0 w w' eb k (setM M) vf:=by
 have H:Hid (Eg w eb k M):=h;have HA:Hid (eD0 M.ph=true):=ha;have HQE:Hid (dQ0 M=aG0 M):=by show _=_;unfold dQ0;rw [if_pos ha]
 have wr1:IntKind.i64.wrap (M.now+M.ti)=M.now+M.ti:=IntWalk.i64_in _ (by omega);clear h ha;go_enter Tryz.func124,Tryz.ntmps124;go_wp2_with fail;refine (wY0 eb k M w H.out hla).mono ?_;rintro e w1 ⟨rfl,hb1⟩;rw [HQE.out];unfold kZ1;have H1:Hid (Eg w1 eb k M):=H.out.below hb1;have HB1:Hid (Below w.heap.size w w1):=hb1;clear hb1;go_upto_region 3 with fail;have hx:=heap_alloc_new w1 (.cells #[.int .i64 (aG0 M).price,.int .i64 (aG0 M).qty,.int .i64 (aG0 M).sur] 107);have hb2:=bel1 w1 (.cells #[.int .i64 (aG0 M).price,.int .i64 (aG0 M).qty,.int .i64 (aG0 M).sur] 107);generalize w1.alloc (.cells #[.int .i64 (aG0 M).price,.int .i64 (aG0 M).qty,.int .i64 (aG0 M).sur] 107)=w2 at hx hb2 ⊢;have H2:Hid (Eg w2 eb k M):=H1.out.below hb2;have HB2:Hid (Below w.heap.size w w2):=aC0 HB1.out hb2;have x0:=cell_regrown (aA0 (j:=0) (v:=.int .i64 (aG0 M).price) hx rfl);have x1:=cell_regrown (aA0 (j:=1) (v:=.int .i64 (aG0 M).qty) hx rfl);have k1:=cell_regrown (aA0 (j:=1) (v:=.pointer (some ⟨k.nb,0,none⟩)) H2.out.box rfl);have cC:∀dq os,Calls Tryz.prog 177 #[.pointer (some ⟨k.nb,0,none⟩),.int .i64 (aG0 M).price] (Go.Sort.grow (redrawn w2 dq) os) fun e w''=>e=.returned (.bool (eV0 M.st M.an (aG0 M).price))∧∃p:Regrown,w''=Go.Sort.grow (redrawn w2 p.d) p.os:=fun dq os=>Calls.regrown_of (qX1 k.nb M.st M.dy M.an M.la (aG0 M).price _ (H2.out.bn.below (below_regrown w2 dq os)))
 clear hx hb2 H1 HB1;have HSM:Hid (setM M=if (aG0 M).qty=0∨eV0 M.st M.an (aG0 M).price=true then resM M else if M.lo<M.mo then ([],{ M with lo:=M.lo+1,en:=M.now+M.ti }) else ([],{ M with ph:=6 })):=rfl;generalize eV0 M.st M.an (aG0 M).price=cb at cC HSM;generalize (aG0 M).price=pp at x0 cC;generalize (aG0 M).qty=qq at x1 HSM
 by_cases hq:qq=0
 ·have eq:(qq == 0)=true:=beq_iff_eq.2 hq;have HS2:Hid (setM M=resM M):=by show _=_;rw [HSM.out,if_pos (Or.inl hq)]
  clear hq HSM;refine wp_region_quiet_below (by kernel_rfl) (by kernel_rfl) ?_
  repeat (go_big_quiet_step (exact cC _ _))
  refine wpQuiet_nil ?_;intro _ hw';obtain ⟨⟨dq,osq⟩,hw''⟩:=hw';subst hw'';have H3:Hid (Eg (Go.Sort.grow (redrawn w2 dq) osq) eb k M):=H2.out.below (below_regrown w2 dq osq);have HB3:Hid (Below w.heap.size w (Go.Sort.grow (redrawn w2 dq) osq)):=aC0 HB2.out (below_regrown w2 dq osq);generalize Go.Sort.grow (redrawn w2 dq) osq=w3 at H3 HB3 ⊢;clear x0 x1 k1 cC;go_wp2_with fail;refine (rY0 eb k M w3 H3.out HA.out hla hm).mono ?_;rintro e w4 ⟨vf,rfl,ht⟩;have HTE:Hid _:=ht;clear ht;go_wp2_with fail;go_ret;exact ⟨vf,rfl,by rw [HS2.out];exact aZ0.from_ (EgGo.stay H.out HB3.out) HTE.out⟩
 ·have eq:(qq == 0)=false:=beq_eq_false_iff_ne.2 hq;refine wp_region_quiet_below (by kernel_rfl) (by kernel_rfl) ?_
  repeat (go_big_quiet_step (exact cC _ _))
  refine wpQuiet_nil ?_;intro _ hw';obtain ⟨⟨dq,osq⟩,hw''⟩:=hw';subst hw'';have H3:Hid (Eg (Go.Sort.grow (redrawn w2 dq) osq) eb k M):=H2.out.below (below_regrown w2 dq osq);have HB3:Hid (Below w.heap.size w (Go.Sort.grow (redrawn w2 dq) osq)):=aC0 HB2.out (below_regrown w2 dq osq);generalize Go.Sort.grow (redrawn w2 dq) osq=w3 at H3 HB3 ⊢;clear x0 x1 k1 cC H2 HB2;cases cb with
  | true=>
   have HS2:Hid (setM M=resM M):=by show _=_;rw [HSM.out,if_pos (Or.inr rfl)]
   clear HSM hq;go_wp2_with fail;refine (rY0 eb k M w3 H3.out HA.out hla hm).mono ?_;rintro e w4 ⟨vf,rfl,ht⟩;have HTE:Hid _:=ht;clear ht;go_wp2_with fail;go_ret;exact ⟨vf,rfl,by rw [HS2.out];exact aZ0.from_ (EgGo.stay H.out HB3.out) HTE.out⟩
  | false=>
   have HS2:Hid (setM M=if M.lo<M.mo then ([],{ M with lo:=M.lo+1,en:=M.now+M.ti }) else ([],{ M with ph:=6 })):=by show _=_;rw [HSM.out,if_neg (by rintro (e | e);exact hq e;cases e)]
   clear HSM hq;go_upto_region 5 with fail;have c10:=cell_regrown (aA0 (j:=10) (v:=.int .i64 M.lo) H3.out.box rfl);have c8:=cell_regrown (aA0 (j:=8) (v:=.int .i64 M.mo) H3.out.box rfl);refine wp_region_quiet_below (by kernel_rfl) (by kernel_rfl) ?_
   repeat (go_big_quiet_step (fail))
   refine wpQuiet_nil ?_;intro _ hw';obtain ⟨⟨dq2,osq2⟩,hw''⟩:=hw';subst hw'';have H4:Hid (EgGo w (Go.Sort.grow (redrawn w3 dq2) osq2) eb k k M):=(EgGo.stay H.out HB3.out).bel (below_regrown w3 dq2 osq2);generalize Go.Sort.grow (redrawn w3 dq2) osq2=w4 at H4 ⊢;clear c10 c8 H3 HB3;have d10:w4.cell? ⟨eb,10,none⟩=some (.int .i64 M.lo):=aA0 (j:=10) H4.out.1.box rfl;have f10:=aB0 (j:=10) H4.out.1.box;have d5:w4.cell? ⟨eb,5,none⟩=some (.int .i64 M.ph):=aA0 (j:=5) H4.out.1.box rfl;have f5:=aB0 (j:=5) H4.out.1.box
   by_cases hl:M.lo<M.mo
   ·have HS3:Hid (setM M=([],{ M with lo:=M.lo+1,en:=M.now+M.ti })):=by show _=_;rw [HS2.out,if_pos hl]
    go_upto_region 7 with fail;have h5:=H4.out.1.write (j:=10) (u:=.int .i64 (M.lo+1)) (M':={ M with lo:=M.lo+1 }) rfl rfl rfl rfl rfl ⟨rfl,rfl,rfl,rfl⟩;generalize w4.setCell ⟨eb,10,none⟩ (.int .i64 (M.lo+1))=w5 at h5 ⊢;have e6:w5.cell? ⟨eb,6,none⟩=some (.int .i64 M.now):=aA0 (j:=6) h5.1.box rfl;have e7:w5.cell? ⟨eb,7,none⟩=some (.int .i64 M.ti):=aA0 (j:=7) h5.1.box rfl;have e9:w5.cell? ⟨eb,9,none⟩=some (.int .i64 M.en):=aA0 (j:=9) h5.1.box rfl;have g9:=aB0 (j:=9) h5.1.box;have H5:Hid (EgGo w w5 eb k k { M with lo:=M.lo+1 }):=H4.out.trans h5;clear h5 d10 f10 d5 f5;go_region
    all_goals go_wp2_with fail
    all_goals go_ret
    all_goals exact ⟨_,rfl,aZ0.none_ HS3.out ((H5.out.bel (Below.refl _ _).drew).trans (H5.out.1.drew.write (j:=9) (u:=.int .i64 (M.now+M.ti)) (M':={ M with lo:=M.lo+1,en:=M.now+M.ti }) rfl rfl rfl rfl rfl ⟨rfl,rfl,rfl,rfl⟩)) (Nat.le_add_right _ _)⟩
   ·have HS3:Hid (setM M=([],{ M with ph:=6 })):=by show _=_;rw [HS2.out,if_neg hl]
    go_wp2_with fail;go_ret;exact ⟨_,rfl,aZ0.none_ HS3.out (H4.out.trans (H4.out.1.write (j:=5) (u:=.int .i64 6) (M':={ M with ph:=6 }) rfl rfl rfl rfl rfl ⟨rfl,rfl,rfl,rfl⟩)) (Nat.le_add_right _ _)⟩
theorem rZ0 (was is:Int) (m:Mkt):wE0 was is m=if is=7 then finM m else if m.ph=6 then ([],m) else if is≠was then mN0 is m else if m.ph=4∧m.en≤m.now then setM m else ([],m):=by
 unfold wE0
 by_cases h7:is=7
 ·rw [if_pos h7,if_pos h7];rfl
 ·rw [if_neg h7,if_neg h7]
  by_cases h6:m.ph=6
  ·rw [if_pos h6,if_pos h6]
  ·rw [if_neg h6,if_neg h6]
   by_cases hw:is=was
   ·have a1:¬(was≠is∧is=3):=fun e=>e.1 hw.symm
    have a2:¬(was≠is∧is=5):=fun e=>e.1 hw.symm
    have a3:¬(was≠is):=fun e=>e hw.symm
    have a4:¬(is≠was):=fun e=>e hw
    rw [if_neg a1,if_neg a2,if_neg a3,if_neg a4];rfl
   ·have hw':was≠is:=fun e=>hw e.symm
    rw [if_pos (show is≠was from hw)];unfold mN0
    by_cases h3:is=3
    ·rw [if_pos ⟨hw',h3⟩,if_pos h3,h3];rfl
    ·rw [if_neg (fun e=>h3 e.2),if_neg h3]
     by_cases h5:is=5
     ·rw [if_pos ⟨hw',h5⟩,if_pos h5]
     ·rw [if_neg (fun e=>h5 e.2),if_neg h5,if_pos hw']
structure MNum (M:Mkt):Prop where
 la:1≤M.la∧M.la≤1000000
 pk:M.P.length≤100
 wf:∀o∈M.P,(Lit.int .i64 o.id).wf=true
 now:0≤M.now∧M.now≤1000000000
 ti:0≤M.ti∧M.ti≤1000000000
 lo:0≤M.lo∧M.lo≤1000000
 rs:0<M.rs.length∧M.rs.length≤60
set_option maxRecDepth 4000 in
set_option maxHeartbeats 4000000 in
theorem rZ1 (eb:Nat) (k:EgK) (M:Mkt) (w:World) (h:Eg w eb k M) (hN:MNum M) (h3:(phaseV M.rs (M.now+1)).1=3→(phaseV M.rs M.now).1≠3→M.ph≠6→eD0 M.ph=true) (hm:k.m≤700000):
  Calls Tryz.prog 69 #[.pointer (some ⟨eb,0,none⟩)] w fun e w'=>∃vf err,e=.returned (.tuple #[vf,err])∧ErrE err (rN0 M)∧aZ0 w w' eb k (bO0 M) vf:=by
 have c5:w.cell? ⟨eb,5,none⟩=some (.int .i64 M.ph):=aA0 (j:=5) h.box rfl;have H:Hid (Eg w eb k M):=h;have HN:Hid (MNum M):=hN;have H3:Hid ((phaseV M.rs (M.now+1)).1=3→(phaseV M.rs M.now).1≠3→M.ph≠6→eD0 M.ph=true):=h3;have hn1:=hN.now;clear h hN h3
 by_cases h7:M.ph=7
 ·have HT:Hid (rN0 M=6∧bO0 M=([],M)):=⟨by unfold rN0;rw [if_pos h7],by unfold bO0;rw [if_pos h7]⟩;have e7:(M.ph == 7)=true:=beq_iff_eq.2 h7;clear h7;go_enter Tryz.func69,Tryz.ntmps69;go_wp2_with fail;go_ret2;exact ⟨_,_,rfl,ErrE.no 6 HT.out.1 (by decide),aZ0.none_ HT.out.2 (EgGo.refl H.out) (Nat.le_add_right _ _)⟩
 ·have HT:Hid (rN0 M=0∧bO0 M=wE0 (phaseV M.rs M.now).1 (phaseV M.rs (M.now+1)).1 { M with now:=M.now+1 }):=⟨by unfold rN0;rw [if_neg h7],by unfold bO0;rw [if_neg h7]⟩;have e7:(M.ph == 7)=false:=beq_eq_false_iff_ne.2 h7;clear h7;go_enter Tryz.func69,Tryz.ntmps69;go_wp2_with fail;refine (oF0 eb k M w H.out HN.out.rs).mono ?_;rintro e w1 ⟨rfl,hb1⟩;have h1:=H.out.below hb1;have c6:w1.cell? ⟨eb,6,none⟩=some (.int .i64 M.now):=aA0 (j:=6) h1.box rfl;have f6:=aB0 (j:=6) h1.box;have h2:=h1.write (j:=6) (u:=.int .i64 (M.now+1)) (M':={ M with now:=M.now+1 }) rfl rfl rfl rfl rfl ⟨rfl,rfl,rfl,rfl⟩;have H2:Hid (EgGo w (w1.setCell ⟨eb,6,none⟩ (.int .i64 (M.now+1))) eb k k { M with now:=M.now+1 }):=(EgGo.stay H.out hb1).trans h2;clear hb1 h1 h2 c5;go_wp2_with fail;generalize w1.setCell ⟨eb,6,none⟩ (.int .i64 (M.now+1))=w2 at H2 ⊢;clear c6 f6;refine (oF0 eb k { M with now:=M.now+1 } w2 H2.out.1 HN.out.rs).mono ?_;rintro e w3 ⟨rfl,hb3⟩;have HG3:Hid (EgGo w w3 eb k k { M with now:=M.now+1 }):=H2.out.bel hb3;have c5:w3.cell? ⟨eb,5,none⟩=some (.int .i64 M.ph):=aA0 (j:=5) HG3.out.1.box rfl;clear hb3 H2;rw [show (phaseV ({ M with now:=M.now+1 }:Mkt).rs ({ M with now:=M.now+1 }:Mkt).now).1=(phaseV M.rs (M.now+1)).1 from rfl];generalize (phaseV M.rs (M.now+1)).1=is at HT H3;generalize (phaseV M.rs M.now).1=was at HT H3;rw [rZ0] at HT
  by_cases hi7:is=7
  ·have HT2:Hid (bO0 M=finM { M with now:=M.now+1 }):=by show _=_;rw [HT.out.2,if_pos hi7]
   have b7:(is == 7)=true:=beq_iff_eq.2 hi7;clear hi7 H3;go_wp2_with fail;refine (lB1 eb k { M with now:=M.now+1 } w3 HG3.out.1 HN.out.la hm).mono ?_;rintro e w4 ⟨vf,k4,rfl,hr,hg,hk⟩;have HTE:Hid (aZ0 w3 w4 eb k (finM { M with now:=M.now+1 }) vf):=⟨k4,hr,hg,hk⟩;clear hr hg hk;go_wp2_with fail;go_ret2;exact ⟨_,_,rfl,ErrE.yes HT.out.1,by rw [HT2.out];exact aZ0.from_ HG3.out HTE.out⟩
  ·have b7:(is == 7)=false:=beq_eq_false_iff_ne.2 hi7
   by_cases h6:M.ph=6
   ·have HT2:Hid (bO0 M=([],{ M with now:=M.now+1 })):=by show _=_;rw [HT.out.2,if_neg hi7,if_pos h6]
    have b6:(M.ph == 6)=true:=beq_iff_eq.2 h6;clear hi7 h6 H3;go_wp2_with fail;go_ret2;exact ⟨_,_,rfl,ErrE.yes HT.out.1,aZ0.none_ HT2.out HG3.out (Nat.le_add_right _ _)⟩
   ·have b6:(M.ph == 6)=false:=beq_eq_false_iff_ne.2 h6
    by_cases hw:is=was
    ·have HT2:Hid (bO0 M=if M.ph=4∧M.en≤M.now+1 then setM { M with now:=M.now+1 } else ([],{ M with now:=M.now+1 })):=by show _=_;rw [HT.out.2,if_neg hi7,if_neg h6,if_neg (fun e=>e hw)]
     have bw:(is != was)=false:=by simp [hw]
     clear hi7 h6 hw H3;go_upto_region 12 with fail;have k5:=cell_regrown (aA0 (j:=5) (v:=.int .i64 M.ph) HG3.out.1.box rfl);have k6:=cell_regrown (aA0 (j:=6) (v:=.int .i64 (M.now+1)) HG3.out.1.box rfl);have k9:=cell_regrown (aA0 (j:=9) (v:=.int .i64 M.en) HG3.out.1.box rfl)
     by_cases h4:M.ph=4
     ·have b4:(M.ph == 4)=true:=beq_iff_eq.2 h4;have HA4:Hid (eD0 M.ph=true):=by show _=_;rw [h4];rfl
      refine wp_region_quiet_below (by kernel_rfl) (by kernel_rfl) ?_
      repeat (go_big_quiet_step (fail))
      refine wpQuiet_nil ?_;intro _ hw';obtain ⟨⟨dq,osq⟩,hw''⟩:=hw';subst hw'';have HG4:Hid (EgGo w (Go.Sort.grow (redrawn w3 dq) osq) eb k k { M with now:=M.now+1 }):=HG3.out.bel (below_regrown w3 dq osq);generalize Go.Sort.grow (redrawn w3 dq) osq=w4 at HG4 ⊢;clear k5 k6 k9 c5 HG3
      by_cases he:M.en≤M.now+1
      ·have HT3:Hid (bO0 M=setM { M with now:=M.now+1 }):=by show _=_;rw [HT2.out,if_pos ⟨h4,he⟩]
       clear h4 HT2;go_wp2_with fail;refine (lC1 eb k { M with now:=M.now+1 } w4 HG4.out.1 HA4.out HN.out.la (by show 0≤M.now+1∧M.now+1≤1000000000000;omega) (by show 0≤M.ti∧M.ti≤1000000000000;have:=HN.out.ti;omega) HN.out.lo hm).mono ?_;rintro e w5 ⟨vf,rfl,ht⟩;have HTE:Hid _:=ht;clear ht;go_wp2_with fail;go_ret2;exact ⟨_,_,rfl,ErrE.yes HT.out.1,by rw [HT3.out];exact aZ0.from_ HG4.out HTE.out⟩
      ·have HT3:Hid (bO0 M=([],{ M with now:=M.now+1 })):=by show _=_;rw [HT2.out,if_neg (fun e=>he e.2)]
       clear h4 HT2;go_wp2_with fail;go_ret2;exact ⟨_,_,rfl,ErrE.yes HT.out.1,aZ0.none_ HT3.out HG4.out (Nat.le_add_right _ _)⟩
     ·have b4:(M.ph == 4)=false:=beq_eq_false_iff_ne.2 h4;have HT3:Hid (bO0 M=([],{ M with now:=M.now+1 })):=by show _=_;rw [HT2.out,if_neg (fun e=>h4 e.1)]
      clear h4 HT2;refine wp_region_quiet_below (by kernel_rfl) (by kernel_rfl) ?_
      repeat (go_big_quiet_step (fail))
      refine wpQuiet_nil ?_;intro _ hw';obtain ⟨⟨dq,osq⟩,hw''⟩:=hw';subst hw'';have HG4:Hid (EgGo w (Go.Sort.grow (redrawn w3 dq) osq) eb k k { M with now:=M.now+1 }):=HG3.out.bel (below_regrown w3 dq osq);generalize Go.Sort.grow (redrawn w3 dq) osq=w4 at HG4 ⊢;clear k5 k6 k9 c5 HG3;go_wp2_with fail;go_ret2;exact ⟨_,_,rfl,ErrE.yes HT.out.1,aZ0.none_ HT3.out HG4.out (Nat.le_add_right _ _)⟩
    ·have HT2:Hid (bO0 M=mN0 is { M with now:=M.now+1 }):=by show _=_;rw [HT.out.2,if_neg hi7,if_neg h6,if_pos hw]
     have HA3:Hid (is=3→eD0 M.ph=true):=fun e=>H3.out e (fun e2=>hw (e.trans e2.symm)) h6
     have bw:(is != was)=true:=by simpa using hw
     clear hi7 h6 hw H3;go_wp2_with fail;refine (rY1 eb k { M with now:=M.now+1 } is w3 HG3.out.1 HA3.out HN.out.la HN.out.pk HN.out.wf hm).mono ?_;rintro e w4 ⟨vf,rfl,ht⟩;have HTE:Hid _:=ht;clear ht;go_wp2_with fail;go_ret2;exact ⟨_,_,rfl,ErrE.yes HT.out.1,by rw [HT2.out];exact aZ0.from_ HG3.out HTE.out⟩
set_option maxRecDepth 4000 in
set_option maxHeartbeats 4000000 in
theorem sA1 (eb:Nat) (k:EgK) (M:Mkt) (w:World) (h:Eg w eb k M) (hN:MNum M) (hm:k.m≤700000):
  Calls Tryz.prog 74 #[.pointer (some ⟨eb,0,none⟩)] w fun e w'=>∃err k',e=.returned err∧ErrE err (kK0 M)∧EgGo w w' eb k k' (eK0 M)∧k'.m≤k.m+302:=by
 have c5:w.cell? ⟨eb,5,none⟩=some (.int .i64 M.ph):=aA0 (j:=5) h.box rfl;have H:Hid (Eg w eb k M):=h;have HN:Hid (MNum M):=hN;clear h hN
 by_cases h6:M.ph=6
 ·have n6:(M.ph != 6)=false:=by simp [h6]
  have HO:Hid (kK0 M=0∧eK0 M=if (phaseV M.rs M.now).1=3 then volM M else if (phaseV M.rs M.now).1=5 then jE0 M else { M with ph:=(phaseV M.rs M.now).1 }):=⟨by unfold kK0;rw [if_pos h6],by unfold eK0;rw [if_pos h6]⟩;clear h6;go_enter Tryz.func74,Tryz.ntmps74;go_wp2_with fail;refine (oF0 eb k M w H.out HN.out.rs).mono ?_;rintro e w1 ⟨rfl,hb1⟩;have H1:Hid (EgGo w w1 eb k k M):=EgGo.stay H.out hb1;clear hb1 c5;generalize (phaseV M.rs M.now).1=p at HO
  by_cases h3:p=3
  ·have HO2:Hid (eK0 M=volM M):=by show _=_;rw [HO.out.2,if_pos h3]
   have b3:(p == 3)=true:=beq_iff_eq.2 h3;clear h3;go_wp2_with fail;refine (mV0 eb k M w1 H1.out.1 (by have:=HN.out.now;omega) (by have:=HN.out.ti;omega)).mono ?_;rintro e w2 ⟨rfl,h2⟩;have H2:Hid (EgGo w w2 eb k k (volM M)):=H1.out.trans h2;clear h2;go_wp2_with fail;go_ret;exact ⟨_,k,rfl,ErrE.yes HO.out.1,by rw [HO2.out];exact H2.out,Nat.le_add_right _ _⟩
  ·have b3:(p == 3)=false:=beq_eq_false_iff_ne.2 h3
   by_cases h5:p=5
   ·have HO2:Hid (eK0 M=jE0 M):=by show _=_;rw [HO.out.2,if_neg h3,if_pos h5]
    have b5:(p == 5)=true:=beq_iff_eq.2 h5;clear h3 h5;go_wp2_with fail;refine (gD1 eb k M w1 H1.out.1 HN.out.pk HN.out.wf hm).mono ?_;rintro e w2 ⟨k2,rfl,h2,hk⟩;have H2:Hid (EgGo w w2 eb k k2 (jE0 M)):=H1.out.trans h2;clear h2;go_wp2_with fail;go_ret;exact ⟨_,k2,rfl,ErrE.yes HO.out.1,by rw [HO2.out];exact H2.out,Nat.le_trans hk (by omega)⟩
   ·have HO2:Hid (eK0 M={ M with ph:=p }):=by show _=_;rw [HO.out.2,if_neg h3,if_neg h5]
    have b5:(p == 5)=false:=beq_eq_false_iff_ne.2 h5;have d5:w1.cell? ⟨eb,5,none⟩=some (.int .i64 M.ph):=aA0 (j:=5) H1.out.1.box rfl;have f5:=aB0 (j:=5) H1.out.1.box;clear h3 h5;go_wp2_with fail;go_ret;exact ⟨_,k,rfl,ErrE.yes HO.out.1,by rw [HO2.out];exact H1.out.trans (H1.out.1.write (j:=5) (u:=.int .i64 p) (M':={ M with ph:=p }) rfl rfl rfl rfl rfl ⟨rfl,rfl,rfl,rfl⟩),Nat.le_add_right _ _⟩
 ·have n6:(M.ph != 6)=true:=by simpa using h6
  have HO:Hid (kK0 M=6∧eK0 M=M):=⟨by unfold kK0;rw [if_neg h6],by unfold eK0;rw [if_neg h6]⟩;clear h6;go_enter Tryz.func74,Tryz.ntmps74;go_wp2_with fail;go_ret;exact ⟨_,k,rfl,ErrE.no 6 HO.out.1 (by decide),by rw [HO.out.2];exact EgGo.refl H.out,Nat.le_add_right _ _⟩
def refN (M:Mkt) (o:Ord):Int:=if kL0 o=false then 1 else if cG0 o.price o.qty=false then 2 else if gR0 M.ph o.kind=false then 6 else if decide (o.id∈M.I)=true then 9 else if 100≤M.L.length+M.P.length then 12 else 0
theorem bH1 (p q:Int):cG0 p q=sY0 p q:=rfl
theorem mX0 (M:Mkt) (o:Ord):ordN M o=refN M (lieO o):=by
 have e1:(lieO o).kind=o.kind:=by unfold lieO;split <;> rfl
 have e2:(lieO o).qty=o.qty:=by unfold lieO;split <;> rfl
 unfold ordN refN kL0;rw [nQ0,hI0,e1,e2,bH1]
 by_cases h1:(decide (1≤o.side)&& decide (o.side≤2))=false
 ·rw [if_pos (Or.inl h1),h1];rfl
 ·have h1':(decide (1≤o.side)&& decide (o.side≤2))=true:=by simpa using h1
  by_cases h2:(decide (1≤o.kind)&& decide (o.kind≤4))=false
  ·rw [if_pos (Or.inr (Or.inl h2)),h1',h2];rfl
  ·have h2':(decide (1≤o.kind)&& decide (o.kind≤4))=true:=by simpa using h2
   by_cases h3:o.id<1
   ·rw [if_pos (Or.inr (Or.inr h3)),h1',h2',decide_eq_false (by omega)];rfl
   ·rw [if_neg (by rintro (h | h | h) <;> contradiction),h1',h2',decide_eq_true (by omega)];simp only [decide_eq_true_eq];rfl
set_option maxRecDepth 4000 in
set_option maxHeartbeats 4000000 in
theorem gE1 (eb:Nat) (k:EgK) (M:Mkt) (o:Ord) (w:World) (h:Eg w eb k M) (hw:(Lit.int .i64 o.id).wf=true) (hP:M.P.length≤1000):
  Calls Tryz.prog 167 #[.pointer (some ⟨eb,0,none⟩),o.agg] w fun e w'=>e=.returned (.int .i64 (refN M o))∧Below w.heap.size w w':=by
 have hL:=h.few100;have hlen:((k.b.S 0).length+(k.b.S 1).length:Nat)=M.L.length:=h.lnk.len.symm;have HLEN:Hid (((k.b.S 0).length+(k.b.S 1).length:Nat)=M.L.length):=hlen;have HW:Hid ((Lit.int .i64 o.id).wf=true):=hw;have H:Hid (Eg w eb k M):=h;obtain ⟨pa,pc,hvp,_,_⟩:=aY0 h.pk;have HVP:Hid (k.vp=.slice pa M.P.length pc):=hvp;clear h hw hlen hvp;unfold Ord.agg;go_enter Tryz.func167,Tryz.ntmps167;go_upto_region 1 with fail;have hx:=heap_alloc_new w (.cells #[.int .i64 o.id,.int .i64 o.side,.int .i64 o.kind,.int .i64 o.price,.int .i64 o.qty] 92);have hb1:=bel1 w (.cells #[.int .i64 o.id,.int .i64 o.side,.int .i64 o.kind,.int .i64 o.price,.int .i64 o.qty] 92);generalize w.alloc (.cells #[.int .i64 o.id,.int .i64 o.side,.int .i64 o.kind,.int .i64 o.price,.int .i64 o.qty] 92)=w1 at hx hb1 ⊢;have h1:=H.out.below hb1;have c4:w1.cell? ⟨eb,4,none⟩=some (.map (some k.tk)):=aA0 (j:=4) h1.box rfl;have x0:w1.cell? ⟨w.heap.size,0,none⟩=some (.int .i64 o.id):=aA0 (j:=0) hx rfl;have c4b:(w1.alloc (.cells #[] 236)).cell? ⟨eb,4,none⟩=some (.map (some k.tk)):=aA0 (j:=4) (h1.below (bel1 _ _)).box rfl;have x0b:(w1.alloc (.cells #[] 236)).cell? ⟨w.heap.size,0,none⟩=some (.int .i64 o.id):=aA0 (j:=0) (aD0 hx (bel1 _ _) lR7) rfl;have la:=(h1.below (Below.refl _ _).drew).tkn.look HW.out;have lb:∀obj,(Instr.lookup 163 (.map (some k.tk)) (.int .i64 o.id) true).run Tryz.prog (w1.drew.alloc obj)=.ok (.tuple #[.agg #[],.bool (decide (o.id∈M.I))]) (w1.drew.alloc obj):=fun obj=>((h1.below (Below.refl _ _).drew).below (bel1 _ obj)).tkn.look HW.out
 have lc:∀obj,(Instr.lookup 163 (.map (some k.tk)) (.int .i64 o.id) true).run Tryz.prog (w1.alloc obj).drew=.ok (.tuple #[.agg #[],.bool (decide (o.id∈M.I))]) (w1.alloc obj).drew:=fun obj=>((h1.below (bel1 _ obj)).below (Below.refl _ _).drew).tkn.look HW.out
 have HX:Hid _:=hx;have HB1:Hid (Below w.heap.size w w1):=hb1;have H1:Hid (Eg w1 eb k M):=h1;clear hx hb1 h1;generalize hd:decide (o.id∈M.I)=d at la lb lc;have HD:Hid (decide (o.id∈M.I)=d):=hd;clear hd;go_region;have h2:=(H1.out.below (bel1 _ (.cells #[] 236))).drew;have hx2:=aD0 (aD0 HX.out (bel1 _ (.cells #[] 236)) lR7) ((Below.refl (w1.alloc (.cells #[] 236)).heap.size _).drew) lR7;have HB2:Hid (Below w.heap.size w (w1.alloc (.cells #[] 236)).drew):=(aC0 HB1.out (bel1 _ _)).drew;generalize (w1.alloc (.cells #[] 236)).drew=w2 at h2 hx2 HB2 ⊢;have y0:w2.cell? ⟨w.heap.size,0,none⟩=some (.int .i64 o.id):=aA0 (j:=0) hx2 rfl;have y1:w2.cell? ⟨w.heap.size,1,none⟩=some (.int .i64 o.side):=aA0 (j:=1) hx2 rfl;have y2:w2.cell? ⟨w.heap.size,2,none⟩=some (.int .i64 o.kind):=aA0 (j:=2) hx2 rfl;have y3:w2.cell? ⟨w.heap.size,3,none⟩=some (.int .i64 o.price):=aA0 (j:=3) hx2 rfl;have y4:w2.cell? ⟨w.heap.size,4,none⟩=some (.int .i64 o.qty):=aA0 (j:=4) hx2 rfl;have H2:Hid (Eg w2 eb k M):=h2;have HX2:Hid _:=hx2;clear h2 hx2 c4 x0 c4b x0b la lb lc HX HB1 H1;go_wp2_with fail;refine (oL1 o w2).mono ?_;rintro e w3 ⟨rfl,hb3⟩;have H3:Hid (Eg w3 eb k M):=H2.out.below hb3;have hx3:=aD0 HX2.out hb3 lR7;have HB3:Hid (Below w.heap.size w w3):=aC0 HB2.out hb3;have z3:w3.cell? ⟨w.heap.size,3,none⟩=some (.int .i64 o.price):=aA0 (j:=3) hx3 rfl;have z4:w3.cell? ⟨w.heap.size,4,none⟩=some (.int .i64 o.qty):=aA0 (j:=4) hx3 rfl;have HX3:Hid _:=hx3;clear hb3 hx3 y0 y1 y2 y3 y4 HX2;cases hk:kL0 o with
 | false=>
  have HR:Hid (refN M o=1):=by show _=_;unfold refN;rw [if_pos hk]
  clear hk;go_wp2_with fail;go_ret;exact ⟨by rw [HR.out];rfl,HB3.out⟩
 | true=>
  have HK:Hid (¬kL0 o=false):=by show ¬_;rw [hk];decide
  clear hk;go_wp2_with fail;refine (jX0 o.price o.qty w3).mono ?_;rintro e w4 ⟨rfl,hb4⟩;have H4:Hid (Eg w4 eb k M):=H3.out.below hb4;have HX4:Hid _:=aD0 HX3.out hb4 lR7;have HB4:Hid (Below w.heap.size w w4):=aC0 HB3.out hb4;clear hb4 z3 z4 HX3;cases hr:cG0 o.price o.qty with
  | false=>
   have HR:Hid (refN M o=2):=by show _=_;unfold refN;rw [if_neg HK.out,if_pos hr]
   clear hr;go_wp2_with fail;go_ret;exact ⟨by rw [HR.out];rfl,HB4.out⟩
  | true=>
   have HRT:Hid (¬cG0 o.price o.qty=false):=by show ¬_;rw [hr];decide
   clear hr;go_upto_region 6 with fail;have k5:=cell_regrown (aA0 (j:=5) (v:=.int .i64 M.ph) H4.out.box rfl);have k2:=cell_regrown (aA0 (j:=2) (v:=.int .i64 o.kind) HX4.out rfl);have cT:∀dq os,Calls Tryz.prog 236 #[.int .i64 M.ph,.int .i64 o.kind] (Go.Sort.grow (redrawn w4 dq) os) fun e w''=>e=.returned (.bool (gR0 M.ph o.kind))∧∃p:Regrown,w''=Go.Sort.grow (redrawn w4 p.d) p.os:=fun dq os=>(nZ1 M.ph o.kind _).mono (fun _ _ ⟨he,hw⟩=>⟨he,⟨dq,os⟩,hw⟩)
   refine wp_region_quiet_below (by kernel_rfl) (by kernel_rfl) ?_
   repeat (go_big_quiet_step (exact cT _ _))
   refine wpQuiet_nil ?_;intro _ hw';obtain ⟨⟨dq,osq⟩,hw''⟩:=hw';subst hw'';have H5:Hid (Eg (Go.Sort.grow (redrawn w4 dq) osq) eb k M):=H4.out.below (below_regrown w4 dq osq);have HB5:Hid (Below w.heap.size w (Go.Sort.grow (redrawn w4 dq) osq)):=aC0 HB4.out (below_regrown w4 dq osq);generalize Go.Sort.grow (redrawn w4 dq) osq=w5 at H5 HB5 ⊢;clear k5 k2 cT HX4 H4;cases ht:gR0 M.ph o.kind with
   | false=>
    have HR:Hid (refN M o=6):=by show _=_;unfold refN;rw [if_neg HK.out,if_neg HRT.out,if_pos ht]
    clear ht;go_wp2_with fail;go_ret;exact ⟨by rw [HR.out];rfl,HB5.out⟩
   | true=>
    have HTT:Hid (¬gR0 M.ph o.kind=false):=by show ¬_;rw [ht];decide
    clear ht;cases d with
    | true=>
     have HR:Hid (refN M o=9):=by show _=_;unfold refN;rw [if_neg HK.out,if_neg HRT.out,if_neg HTT.out,if_pos HD.out]
     go_wp2_with fail;go_ret;exact ⟨by rw [HR.out];rfl,HB5.out⟩
    | false=>
     have HR:Hid (refN M o=if 100≤M.L.length+M.P.length then 12 else 0):=by show _=_;unfold refN;rw [if_neg HK.out,if_neg HRT.out,if_neg HTT.out,if_neg (by rw [HD.out];decide)]
     go_upto_region 10 with fail;have k2:=cell_regrown (aA0 (j:=2) (v:=.pointer (some ⟨k.bb,0,none⟩)) H5.out.box rfl);have k3':w5.cell? ⟨eb,3,none⟩=some (.slice pa M.P.length pc):=(aA0 (j:=3) (v:=k.vp) H5.out.box rfl).trans (by rw [HVP.out]);have k3:=cell_regrown k3';clear k3'
     have cM:∀dq os,Calls Tryz.prog 237 #[.pointer (some ⟨k.bb,0,none⟩)] (Go.Sort.grow (redrawn w5 dq) os) fun e w''=>e=.returned (.int .i64 (M.L.length:Int))∧∃p:Regrown,w''=Go.Sort.grow (redrawn w5 p.d) p.os:=fun dq os=>by
      have:=Calls.regrown_of (qR1 k.bb k.m k.b (Go.Sort.grow (redrawn w5 dq) os) (H5.out.bk.below (below_regrown w5 dq os) lR7));rw [HLEN.out] at this;exact this
     refine wp_region_quiet_below (by kernel_rfl) (by kernel_rfl) ?_
     repeat (go_big_quiet_step (exact cM _ _))
     refine wpQuiet_nil ?_;intro _ hw';obtain ⟨⟨dq,osq⟩,hw''⟩:=hw';subst hw'';have HB6:Hid (Below w.heap.size w (Go.Sort.grow (redrawn w5 dq) osq)):=aC0 HB5.out (below_regrown w5 dq osq);generalize Go.Sort.grow (redrawn w5 dq) osq=w6 at HB6 ⊢;clear k2 k3 cM
     by_cases h100:100≤M.L.length+M.P.length
     ·have HR2:Hid (refN M o=12):=by show _=_;rw [HR.out,if_pos h100]
      go_wp2_with fail;go_ret;exact ⟨by rw [HR2.out];rfl,HB6.out⟩
     ·have HR2:Hid (refN M o=0):=by show _=_;rw [HR.out,if_neg h100]
      go_wp2_with fail;go_ret;exact ⟨by rw [HR2.out];rfl,HB6.out⟩
structure RefOk (M:Mkt) (p:Ord):Prop where
 side:p.side=1∨p.side=2
 kind:1≤p.kind∧p.kind≤4
 id:1≤p.id
 right:1≤p.price∧p.price≤1000000∧1≤p.qty∧p.qty≤1000000
 takes:gR0 M.ph p.kind=true
 new:p.id ∉ M.I
 room:M.L.length+M.P.length<100
theorem pB0 {M:Mkt} {p:Ord} (h:refN M p=0):RefOk M p:=by
 unfold refN at h
 by_cases h1:kL0 p=false
 ·rw [if_pos h1] at h;cases h
 rw [if_neg h1] at h
 by_cases h2:cG0 p.price p.qty=false
 ·rw [if_pos h2] at h;cases h
 rw [if_neg h2] at h
 by_cases h3:gR0 M.ph p.kind=false
 ·rw [if_pos h3] at h;cases h
 rw [if_neg h3] at h
 by_cases h4:decide (p.id∈M.I)=true
 ·rw [if_pos h4] at h;cases h
 rw [if_neg h4] at h
 by_cases h5:100≤M.L.length+M.P.length
 ·rw [if_pos h5] at h;cases h
 have k1:kL0 p=true:=by simpa using h1
 have k2:cG0 p.price p.qty=true:=by simpa using h2
 unfold kL0 at k1;simp only [Bool.and_eq_true,decide_eq_true_eq] at k1;unfold cG0 at k2;rw [Bool.and_eq_true] at k2;have r1:=dW0 k2.1;have r2:=dW0 k2.2;exact ⟨by omega,by omega,by omega,⟨r1.1,r1.2,r2.1,r2.2⟩,by simpa using h3,by simpa using h4,by omega⟩
theorem bI1 {w w1 w2:World} {eb:Nat} {k k1:EgK} {M1:Mkt} {r:List Fil×Mkt} {vf:Value} {n:Nat} (h:EgGo w w1 eb k k1 M1) (h1:∃k',w2.ownsRow w1.heap.size 146 4 vf r.1.length (fV r.1)∧EgGo w1 w2 eb k1 k' r.2∧k'.m≤k1.m+n) (hn:k1.m+n≤k.m+302):aZ0 w w2 eb k r vf:=by
 obtain ⟨k',a,b,c⟩:=h1;exact ⟨k',cB0 a h.2.1.size,h.trans b,Nat.le_trans c hn⟩
theorem lU0 {wc:World} {b:Nat} {p:Ord} (h:cP0 wc b p):wc.cell? ⟨b,0,none⟩=some (.int .i64 p.id)∧wc.cell? ⟨b,1,none⟩=some (.int .i64 p.side)∧wc.cell? ⟨b,2,none⟩=some (.int .i64 p.kind)∧wc.cell? ⟨b,3,none⟩=some (.int .i64 p.price)∧wc.cell? ⟨b,4,none⟩=some (.int .i64 p.qty):=⟨aA0 (j:=0) h rfl,aA0 (j:=1) h rfl,aA0 (j:=2) h rfl,aA0 (j:=3) h rfl,aA0 (j:=4) h rfl⟩
set_option maxRecDepth 8000 in
set_option maxHeartbeats 8000000 in
theorem pH1 (eb:Nat) (k:EgK) (M:Mkt) (o:Ord) (w:World) (h:Eg w eb k M) (hN:MNum M) (hw:(Lit.int .i64 o.id).wf=true) (hm:k.m≤600000):
  Calls Tryz.prog 116 #[.pointer (some ⟨eb,0,none⟩),o.agg] w fun e w'=>∃vf err,e=.returned (.tuple #[vf,err])∧ErrE err (ordN M o)∧aZ0 w w' eb k (ordM M o) vf:=by
 have H:Hid (Eg w eb k M):=h;have HN:Hid (MNum M):=hN;have HORD:Hid (ordN M o=refN M (lieO o)∧ordM M o=if refN M (lieO o)=0 then gU0 { M with I:=M.I++[(lieO o).id] } (lieO o) else ([],M)):=⟨mX0 M o,by unfold ordM;rw [mX0,hI0]⟩;have HWF:Hid ((Lit.int .i64 (lieO o).id).wf=true):=by show _=_;rw [hI0];exact hw
 have hpk:=hN.pk;clear h hN hw;unfold Ord.agg;go_enter Tryz.func116,Tryz.ntmps116;go_upto_region 1 with fail;have hx:=heap_alloc_new w (.cells #[.int .i64 o.id,.int .i64 o.side,.int .i64 o.kind,.int .i64 o.price,.int .i64 o.qty] 92);have hb:=bel1 w (.cells #[.int .i64 o.id,.int .i64 o.side,.int .i64 o.kind,.int .i64 o.price,.int .i64 o.qty] 92);generalize w.alloc (.cells #[.int .i64 o.id,.int .i64 o.side,.int .i64 o.kind,.int .i64 o.price,.int .i64 o.qty] 92)=w1 at hx hb ⊢;have y2:w1.cell? ⟨w.heap.size,2,none⟩=some (.int .i64 o.kind):=aA0 (j:=2) hx rfl;have y3:w1.cell? ⟨w.heap.size,3,none⟩=some (.int .i64 o.price):=aA0 (j:=3) hx rfl;have g3:=aB0 (j:=3) hx;have HX:Hid _:=hx;have HB:Hid (Below w.heap.size w w1):=hb;clear hx hb;go_upto_if 9 with fail;go_cut [9] (fun _ wc=>cP0 wc w.heap.size (lieO o)∧Below w.heap.size w wc)
 case first=>
  by_cases hk:o.kind=2
  ·have HE:Hid (lieO o={ o with price:=1 }):=if_pos hk;have bk:(o.kind == 2)=true:=beq_iff_eq.2 hk;clear hk;go_wp2_with fail;go_meet;exact ⟨by rw [HE.out];exact aH0 (j:=3) (.int .i64 1) HX.out,HB.out.setCell (p:=⟨w.heap.size,3,none⟩) lR7 _⟩
  ·have HE:Hid (lieO o=o):=if_neg hk;have bk:(o.kind == 2)=false:=beq_eq_false_iff_ne.2 hk;clear hk;go_wp2_with fail;go_meet;exact ⟨by rw [HE.out];exact HX.out,HB.out⟩
 case rest=>
  obtain ⟨hx,hb⟩:=hcut;clear HX HB y2 y3 g3;generalize lieO o=p at hx HORD HWF;obtain ⟨x0,x1,x2,x3,x4⟩:=lU0 hx;have HX:Hid (cP0 wc w.heap.size p):=hx;have HB:Hid (Below w.heap.size w wc):=hb;have HC:Hid (Eg wc eb k M):=H.out.below hb;clear hx hb;go_wp2_with fail;refine (gE1 eb k M p wc HC.out HWF.out (by omega)).mono ?_;rintro e w2 ⟨rfl,hb2⟩;have HB2:Hid (Below w.heap.size w w2):=aC0 HB.out hb2;have H2:Hid (Eg w2 eb k M):=HC.out.below hb2;have HX2:Hid (cP0 w2 w.heap.size p):=aD0 HX.out hb2 lR7;clear hb2 x0 x1 x2 x3 x4 HB HX HC
  by_cases h0:refN M p=0
  ·have HR:Hid (RefOk M p):=pB0 h0;have HO2:Hid (ordN M o=0∧ordM M o=gU0 { M with I:=M.I++[p.id] } p):=⟨by rw [HORD.out.1,h0],by rw [HORD.out.2,if_pos h0]⟩;rw [h0];clear h0 HORD;go_upto_region 6 with fail;obtain ⟨w3,hrun,hm3,ho3⟩:=H2.out.drew.tkn.put HWF.out (by have:=H2.out.few;omega);have h3:=H2.out.drew.ofTaken hm3 ho3 (by omega);have hebt:eb≠k.tk:=H2.out.ebtk;have hobt:w.heap.size≠k.tk:=H2.out.tkn.ne HX2.out;have HS6:Hid (∀w',Out (fun j=>j=k.tk) w2 w'→w'.cell? ⟨eb,4,none⟩=some (.map (some k.tk))∧w'.cell? ⟨w.heap.size,0,none⟩=some (.int .i64 p.id)∧Out (fun j=>j=k.tk) w2 w'):=fun w' ho=>⟨aA0 (j:=4) (aE0 H2.out.box ho hebt) rfl,aA0 (j:=0) (aE0 HX2.out ho hobt) rfl,ho⟩
   have HO3:Hid (Out (fun j=>j=k.tk) w2 w3):=bA0 (aT0 (Out.refl _ _)) ho3;have HX3:Hid (cP0 w3 w.heap.size p):=aE0 HX2.out HO3.out hobt;have H3:Hid (EgGo w w3 eb k { k with m:=k.m+1,n:=k.n+1 } { M with I:=M.I++[p.id] }):=((EgGo.stay H.out HB2.out).bel (Below.refl _ _).drew).trans h3;clear hm3 ho3 h3 hebt hobt
   go_region_held3 (fun w'=>w'.cell? ⟨eb,4,none⟩=some (.map (some k.tk))∧w'.cell? ⟨w.heap.size,0,none⟩=some (.int .i64 p.id)∧Out (fun j=>j=k.tk) w2 w')
    ((refine HS6.out _ ?_;first | exact HO3.out | exact aT0 (Out.refl _ _) | exact Out.refl _ _)) (fail)
   obtain ⟨y0,y1,y2,y3,y4⟩:=lU0 HX3.out;have c5:w3.cell? ⟨eb,5,none⟩=some (.int .i64 M.ph):=aA0 (j:=5) H3.out.1.box rfl;clear hrun HS6 HO3 H2 HX2 HB2
   by_cases hpark:p.kind=4∧M.ph≠5
   ·have HT:Hid (gU0 { M with I:=M.I++[p.id] } p=([],{ M with I:=M.I++[p.id],P:=M.P++[p] })):=by show _=_;unfold gU0;rw [if_pos hpark]
    have b4:(p.kind == 4)=true:=beq_iff_eq.2 hpark.1;have b5:(M.ph != 5)=true:=by simpa using hpark.2
    clear hpark;go_upto_region 9 with fail;obtain ⟨i0,hi0,hz0,hz1,hz2⟩:=info_parts Tryz.infoOrdE;have hvx:k.vp.ownBlock≠some w.heap.size:=fun e=>by have:=(H.out.pk.lt _ e).2;omega
    have HS9:Hid (∀w',Out (fun j=>k.vp.ownBlock=some j) w3 w'→w'.cell? ⟨eb,3,none⟩=some k.vp∧w'.cell? ⟨w.heap.size,0,none⟩=some (.int .i64 p.id)∧w'.cell? ⟨w.heap.size,1,none⟩=some (.int .i64 p.side)∧w'.cell? ⟨w.heap.size,2,none⟩=some (.int .i64 p.kind)∧w'.cell? ⟨w.heap.size,3,none⟩=some (.int .i64 p.price)∧w'.cell? ⟨w.heap.size,4,none⟩=some (.int .i64 p.qty)∧Out (fun j=>k.vp.ownBlock=some j) w3 w'):=fun w' ho=>by
     obtain ⟨z0,z1,z2,z3,z4⟩:=lU0 (aE0 HX3.out ho hvx);exact ⟨aA0 (j:=3) (v:=k.vp) (aE0 H3.out.1.box ho H3.out.1.ebpk) rfl,z0,z1,z2,z3,z4,ho⟩
    have hlen:M.P.length+1≤maxLen:=by unfold maxLen;omega
    clear hvx y0 y1 y2 y3 y4 c5;refine eP0 (fun w'=>w'.cell? ⟨eb,3,none⟩=some k.vp∧w'.cell? ⟨w.heap.size,0,none⟩=some (.int .i64 p.id)∧w'.cell? ⟨w.heap.size,1,none⟩=some (.int .i64 p.side)∧w'.cell? ⟨w.heap.size,2,none⟩=some (.int .i64 p.kind)∧w'.cell? ⟨w.heap.size,3,none⟩=some (.int .i64 p.price)∧w'.cell? ⟨w.heap.size,4,none⟩=some (.int .i64 p.qty)∧Out (fun j=>k.vp.ownBlock=some j) w3 w') (fun i=>i == 10) (by kernel_rfl) (HS9.out _ (aT0 (Out.refl _ _))) (fun hHeld=>?_);refine tkL7 (i:=0) (v:=?_) rfl (by kernel_rfl) (fun _ _ _ h=>h) (by rfl) ?_ (by assumption) ?_;rotate_left
    ·intro w hSw;try dsimp only at hSw
     go_simp;try rfl
    refine tkL7 (i:=1) (v:=?_) rfl (by kernel_rfl) (fun _ _ _ h=>h) (by rfl) ?_ (by assumption) ?_;rotate_left
    ·intro w hSw;try dsimp only at hSw
     go_simp;try rfl
    refine tkL7 (i:=2) (v:=?_) rfl (by kernel_rfl) (fun _ _ _ h=>h) (by rfl) ?_ (by assumption) ?_;rotate_left
    ·intro w hSw;try dsimp only at hSw
     go_simp;try rfl
    refine tkL7 (i:=3) (v:=?_) rfl (by kernel_rfl) (fun _ _ _ h=>h) (by rfl) ?_ (by assumption) ?_;rotate_left
    ·intro w hSw;try dsimp only at hSw
     go_simp;try rfl
    refine tkL7 (i:=4) (v:=?_) rfl (by kernel_rfl) (fun _ _ _ h=>h) (by rfl) ?_ (by assumption) ?_;rotate_left
    ·intro w hSw;try dsimp only at hSw
     go_simp;try rfl
    refine tkL7 (i:=5) (v:=?_) rfl (by kernel_rfl) (fun _ _ _ h=>h) (by rfl) ?_ (by assumption) ?_;rotate_left
    ·intro w hSw;try dsimp only at hSw
     go_simp;try rfl
    refine aU0 (rs:=[6]) (by kernel_rfl) (by simp) ?_;refine aI0.cons rfl (fun K hK=>?_) aI0.nil;go_simp;refine hK.out _ _ (fun _=>HS9.out _ (cU0 (aT0 (Out.refl _ _)) _)) (fun hHeld=>?_);replace hHeld:=hHeld rfl;clear hK K;refine aU0 (rs:=[7]) (by kernel_rfl) (by simp) ?_;refine aI0.cons rfl (fun K hK=>?_) aI0.nil;refine oS0 _ rfl (.tmp 44) (.tmp 46) 99 rfl 0 92 i0 _ 5 40 Tryz.underlying99 hi0 hz0 hz1 hz2 (by rfl) (by omega) k.vp M.P.length (oV M.P) (by rfl) (aS0 (H3.out.1.drew).pk (bel1 _ _) lR7) (some ⟨w3.heap.size,0,none⟩) 1 1 [.int .i64 p.id,.int .i64 p.side,.int .i64 p.kind,.int .i64 p.price,.int .i64 p.qty] (by rfl) (by rfl) (Or.inr ⟨_,rfl,World.news_of_block (cs:=#[.int .i64 p.id,.int .i64 p.side,.int .i64 p.kind,.int .i64 p.price,.int .i64 p.qty]) (t:=92) (fr:=(0,0)) (heap_alloc_new w3.drew _)⟩) (by simp [Value.oneCell']) hlen (by omega) (Nat.zero_le _) ?_;intro v5 w5 h5 hg5 hk5;obtain ⟨a5,n5,hv5,_,_⟩:=aY0 h5;subst hv5;have HO5:Hid (Out (fun j=>k.vp.ownBlock=some j) w3 w5):=bA0 (cU0 (aT0 (Out.refl _ _)) _) (Out.of_grown hg5 (fun _ e=>e));have hfin:=H3.out.1.ofParked (P':=M.P++[p]) HO5.out (by rw [List.length_append,gM0];exact h5) (fun j hj=>(hk5 j hj).imp id (fun e=>Nat.le_trans (Nat.le_succ _) (by simpa using e)));have d3:w5.cell? ⟨eb,3,none⟩=some k.vp:=(HS9.out _ HO5.out).1;have g3:=aB0 (j:=3) (aE0 H3.out.1.box HO5.out H3.out.1.ebpk);have H5:Hid (EgGo w (w5.setCell ⟨eb,3,none⟩ (.slice a5 (M.P.length+1) n5)) eb k { k with m:=k.m+1,n:=k.n+1,vp:=.slice a5 (M.P.length+1) n5 } { M with I:=M.I++[p.id],P:=M.P++[p] }):=H3.out.trans hfin;clear h5 hg5 hk5 hfin;refine hK.out _ _ (fun _=>HS9.out _ HO5.out) (fun hHeld=>?_);replace hHeld:=hHeld rfl;clear hK K;refine tkL7 (i:=8) (v:=?_) rfl (by kernel_rfl) (fun _ _ _ h=>h) (by rfl) ?_ (by assumption) ?_;rotate_left
    ·intro w hSw;try dsimp only at hSw
     go_simp;try rfl
    refine tkL7 (i:=9) (v:=?_) rfl (by kernel_rfl) (fun _ _ _ h=>h) (by rfl) ?_ (by assumption) ?_;rotate_left
    ·intro w hSw;try dsimp only at hSw
     go_simp;try rfl
    refine aU0 (rs:=[10]) (by kernel_rfl) (by simp) ?_;refine aI0.cons rfl (fun K hK=>?_) aI0.nil;go_simp;refine hK.out _ _ (fun h=>by cases h) (fun _=>?_);refine fT0 (by kernel_rfl) ?_ _;go_wp2_with fail;go_ret2;exact ⟨_,_,rfl,ErrE.yes HO2.out.1,aZ0.none_ (HO2.out.2.trans HT.out) H5.out (by show k.m+1≤k.m+302;omega)⟩
   ·by_cases h3:M.ph=3
    ·have HT:Hid (gU0 { M with I:=M.I++[p.id] } p=dY0 { M with I:=M.I++[p.id] } p):=by show _=_;unfold gU0;rw [if_neg hpark,if_neg (fun e=>e h3)]
     have b4:(p.kind == 4)=false:=beq_eq_false_iff_ne.2 (fun e=>hpark ⟨e,by rw [h3];decide⟩);have b3:(M.ph == 3)=true:=beq_iff_eq.2 h3;clear hpark h3;go_wp2_with fail;refine (oR1 eb { k with m:=k.m+1,n:=k.n+1 } { M with I:=M.I++[p.id] } p w3 H3.out.1 (by show k.m+1≤700000;omega) HR.out.side (by have:=HR.out.right;omega) HWF.out (by have:=HN.out.now;show 0≤M.now∧M.now≤1000000000000;omega) (by have:=HN.out.ti;show 0≤M.ti∧M.ti≤1000000000000;omega)).mono ?_;rintro e w4 ⟨vf,k4,rfl,hr4,hg4,hk4⟩;have HTE:Hid (aZ0 w w4 eb k (dY0 { M with I:=M.I++[p.id] } p) vf):=bI1 H3.out ⟨k4,hr4,hg4,hk4⟩ (by show k.m+1+101≤k.m+302;omega);clear hr4 hg4 hk4;go_wp2_with fail;go_ret2;exact ⟨_,_,rfl,ErrE.yes HO2.out.1,by rw [HO2.out.2,HT.out];exact HTE.out⟩
    ·have HT:Hid (gU0 { M with I:=M.I++[p.id] } p=([],{ M with I:=M.I++[p.id],L:=addL p M.L })):=by show _=_;unfold gU0;rw [if_neg hpark,if_pos h3]
     have b3:(M.ph == 3)=false:=beq_eq_false_iff_ne.2 h3
     by_cases h4:p.kind=4
     ·have b4:(p.kind == 4)=true:=beq_iff_eq.2 h4
      have b5:(M.ph != 5)=false:=by
       have:M.ph=5:=Classical.byContradiction (fun e=>hpark ⟨h4,e⟩);simp [this]
      clear hpark h3 h4;have hxl:=heap_alloc_new w3 (.cells #[.int .i64 p.id,.int .i64 p.side,.int .i64 p.kind,.int .i64 p.price,.int .i64 p.qty] 92);have hbl:=bel1 w3 (.cells #[.int .i64 p.id,.int .i64 p.side,.int .i64 p.kind,.int .i64 p.price,.int .i64 p.qty] 92);go_wp2_with fail;generalize w3.alloc (.cells #[.int .i64 p.id,.int .i64 p.side,.int .i64 p.kind,.int .i64 p.price,.int .i64 p.qty] 92)=w4 at hxl hbl ⊢;have h4:=H3.out.1.below hbl
      have hfar:∀b off,some (⟨w3.heap.size,0,none⟩:Addr)=some ⟨b,off,none⟩→¬k.b.foot k.bb b:=fun b off e=>by
       injection e with e;injection e with e _ _;rw [←e];exact h4.bk.farBox hxl (by decide) (by decide) (by decide) (by decide) (by decide)
      have hin:bX0 w4 (some ⟨w3.heap.size,0,none⟩) [p]:=fun i hi=>by
       have e:i=0:=by simp at hi;omega
       subst e;exact ⟨w3.heap.size,0,rfl,aA0 (j:=0) hxl rfl,aA0 (j:=1) hxl rfl,aA0 (j:=2) hxl rfl,aA0 (j:=3) hxl rfl,aA0 (j:=4) hxl rfl⟩
      have HG4:Hid (EgGo w w4 eb k { k with m:=k.m+1,n:=k.n+1 } { M with I:=M.I++[p.id] }):=H3.out.bel hbl;clear hxl hbl h4;refine (jS1 eb { k with m:=k.m+1,n:=k.n+1 } { M with I:=M.I++[p.id] } (some ⟨w3.heap.size,0,none⟩) 1 [p] w4 HG4.out.1 hin (fun x hx=>by rw [List.mem_singleton.1 hx];exact HWF.out) hfar (by show k.m+1+1≤900000;omega)).mono ?_;rintro e w5 ⟨rfl,b5,hl5,hg5⟩;have H5:Hid (EgGo w w5 eb k { k with m:=k.m+1+1,n:=k.n+1,b:=b5 } { M with I:=M.I++[p.id],L:=addL p M.L }):=HG4.out.trans (HG4.out.1.ofBook hg5 hl5 (Nat.le_add_right _ _));clear hl5 hg5 hin hfar;go_wp2_with fail;go_ret2;exact ⟨_,_,rfl,ErrE.yes HO2.out.1,aZ0.none_ (HO2.out.2.trans HT.out) H5.out (by show k.m+1+1≤k.m+302;omega)⟩
     ·have b4:(p.kind == 4)=false:=beq_eq_false_iff_ne.2 h4;clear hpark h3 h4;have hxl:=heap_alloc_new w3 (.cells #[.int .i64 p.id,.int .i64 p.side,.int .i64 p.kind,.int .i64 p.price,.int .i64 p.qty] 92);have hbl:=bel1 w3 (.cells #[.int .i64 p.id,.int .i64 p.side,.int .i64 p.kind,.int .i64 p.price,.int .i64 p.qty] 92);go_wp2_with fail;generalize w3.alloc (.cells #[.int .i64 p.id,.int .i64 p.side,.int .i64 p.kind,.int .i64 p.price,.int .i64 p.qty] 92)=w4 at hxl hbl ⊢;have h4:=H3.out.1.below hbl
      have hfar:∀b off,some (⟨w3.heap.size,0,none⟩:Addr)=some ⟨b,off,none⟩→¬k.b.foot k.bb b:=fun b off e=>by
       injection e with e;injection e with e _ _;rw [←e];exact h4.bk.farBox hxl (by decide) (by decide) (by decide) (by decide) (by decide)
      have hin:bX0 w4 (some ⟨w3.heap.size,0,none⟩) [p]:=fun i hi=>by
       have e:i=0:=by simp at hi;omega
       subst e;exact ⟨w3.heap.size,0,rfl,aA0 (j:=0) hxl rfl,aA0 (j:=1) hxl rfl,aA0 (j:=2) hxl rfl,aA0 (j:=3) hxl rfl,aA0 (j:=4) hxl rfl⟩
      have HG4:Hid (EgGo w w4 eb k { k with m:=k.m+1,n:=k.n+1 } { M with I:=M.I++[p.id] }):=H3.out.bel hbl;clear hxl hbl h4;refine (jS1 eb { k with m:=k.m+1,n:=k.n+1 } { M with I:=M.I++[p.id] } (some ⟨w3.heap.size,0,none⟩) 1 [p] w4 HG4.out.1 hin (fun x hx=>by rw [List.mem_singleton.1 hx];exact HWF.out) hfar (by show k.m+1+1≤900000;omega)).mono ?_;rintro e w5 ⟨rfl,b5,hl5,hg5⟩;have H5:Hid (EgGo w w5 eb k { k with m:=k.m+1+1,n:=k.n+1,b:=b5 } { M with I:=M.I++[p.id],L:=addL p M.L }):=HG4.out.trans (HG4.out.1.ofBook hg5 hl5 (Nat.le_add_right _ _));clear hl5 hg5 hin hfar;go_wp2_with fail;go_ret2;exact ⟨_,_,rfl,ErrE.yes HO2.out.1,aZ0.none_ (HO2.out.2.trans HT.out) H5.out (by show k.m+1+1≤k.m+302;omega)⟩
  ·have HO2:Hid (ordN M o=refN M p∧ordM M o=([],M)):=⟨HORD.out.1,by rw [HORD.out.2,if_neg h0]⟩;have b0:(refN M p != 0)=true:=by simpa using h0
   generalize refN M p=r at h0 b0 HO2;have HR0:Hid (r≠0):=h0;clear h0 HORD;go_wp2_with fail;go_ret2;exact ⟨_,_,rfl,ErrE.no r HO2.out.1 HR0.out,aZ0.none_ HO2.out.2 (EgGo.stay H.out HB2.out) (Nat.le_add_right _ _)⟩
structure DayA (M:Mkt) (lots side:Int→Int):Prop where
 tab:tabE M.rs=(0,-1)
 rl:M.rs.length≤60
 an:1≤M.an∧M.an≤1000000
 la:1≤M.la∧M.la≤1000000
 sh:(0≤M.st∧M.st≤10000)∧(0≤M.dy∧M.dy≤10000)
 ti:1≤M.ti∧M.ti≤1000000
 mo:0≤M.mo∧M.mo≤10
 lo:0≤M.lo∧M.lo≤M.mo
 now:0≤M.now
 kp:cX0 lots side (M.L++M.P)
 idI:∀x∈M.L++M.P,x.id∈M.I
 dis:∀x∈M.L,∀y∈M.P,y.id≠x.id
 pP:∀x∈M.P,x.kind=4∧(Lit.int .i64 x.id).wf=true
 few:M.L.length+M.P.length≤100
 lb:∀id,0≤lots id∧lots id≤1000000
structure DayInv (M:Mkt) (lots side:Int→Int) (since:Int) (hands:Bool):Prop extends DayA M lots side where
 ph:M.ph=6∨(M.ph=4∧(phaseV M.rs M.now).1=3)∨M.ph=(phaseV M.rs M.now).1
 fin:(phaseV M.rs M.now).1=7→M.ph=7
 none:M.ph=7→M.L=[]∧M.P=[]
 tr:M.ph=3→(∀x∈M.L,x.kind=1)∧oY1 M.L
 vol:hands=false→M.ph=4→since+(M.en - M.now)=(M.lo+1)*M.ti∧1≤M.en - M.now
 sn:0≤since∧(M.ph≠4→since=0)
def dJ0 (M':Mkt) (since:Int):Int:=if M'.ph=4 then since else 0
section
variable {M:Mkt} {lots side:Int→Int} {since:Int} {hands:Bool}
theorem DayInv.num (h:DayInv M lots side since hands) (hn:M.now≤1000000000):MNum M:=
 ⟨h.la,by have:=h.few;omega,fun o ho=>(h.pP o ho).2,⟨h.now,hn⟩,by have:=h.ti;omega,by have:=h.lo;have:=h.mo;omega,⟨by
  have:=(yS0 h.tab).1;exact this,h.rl⟩⟩
theorem DayInv.auct (h:DayInv M lots side since hands) (h3:(phaseV M.rs (M.now+1)).1=3) (hw:(phaseV M.rs M.now).1≠3) (h6:M.ph≠6):eD0 M.ph=true:=by
 rcases qJ0 h.tab h.now with e | e
 ·exact absurd (e.symm.trans h3) hw
 ·rw [h3] at e;rcases fB1 e with ⟨e1,e2⟩ | ⟨e1,_⟩ | ⟨e1,e2 | e2⟩ | ⟨e1,e2⟩
  ·omega
  ·rcases h.ph with e3 | ⟨_,e3⟩ | e3
   ·exact absurd e3 h6
   ·omega
   ·rw [e3,e1];rfl
  ·omega
  ·omega
  ·omega
theorem mY0 {B:Int} {side:Int→Int}:∀{fs:List Fil} {lots:Int→Int},dN0 side lots fs→(∀id,0≤lots id∧lots id≤B)→∀id,0≤bF0 lots fs id∧bF0 lots fs id≤B
 | [],_,_,h=>h
 | f::fs,lots,⟨hf,hfs⟩,h=>by
  intro id0;refine mY0 (fs:=fs) (lots:=kV0 lots f) hfs (fun id=>?_) id0;obtain ⟨h1,h2,h3,h4,h5⟩:=hf;have hne:f.seller≠f.buyer:=fun e=>by rw [e] at h3;omega
  have hb:=h f.buyer;have hs:=h f.seller;unfold kV0
  by_cases e1:id=f.seller
  ·subst e1;rw [dC0,cC0 hne];omega
  ·rw [cC0 e1]
   by_cases e2:id=f.buyer
   ·subst e2;rw [dC0];omega
   ·rw [cC0 e2];exact h id
theorem jT0 {side:Int→Int} {P:List Ord}:∀{fs:List Fil} {lots:Int→Int},(∀f∈fs,∀x∈P,x.id≠f.buyer∧x.id≠f.seller)→cX0 lots side P→cX0 (bF0 lots fs) side P
 | [],_,_,h=>h
 | f::fs,lots,hn,h=>jT0 (fs:=fs) (lots:=kV0 lots f) (fun g hg=>hn g (List.mem_cons_of_mem _ hg)) ((h.up (fun x hx=>(hn f (List.mem_cons_self ..) x hx).1)).up (fun x hx=>(hn f (List.mem_cons_self ..) x hx).2))
theorem kW0 {lots side:Int→Int} {A B:List Ord} (h1:cX0 lots side A) (h2:cX0 lots side B):cX0 lots side (A++B):=fun x hx=>(List.mem_append.1 hx).elim (h1 x) (h2 x)
end
end Go.Proofs.YtaelphbianmckaaGreatDoor
