/- A part of the proof of EnginePlays. -/
import Derived.Test.YtjdkagafdnchhaaGreatDoorPA
import Derived.Test.YtjdkagafdnchhaaGreatDoorPV
import Derived.Deep.CutRange
import Derived.Test.YtjdkagafdnchhaaGreatDoorPR
import Derived.Deep.RegionHeld3
import Derived.Test.YtjdkagafdnchhaaGreatDoorPC
namespace Go.Proofs.YtjdkagafdnchhaaGreatDoor
open Go.RowKit
theorem Eg.farFill {w:World} {eb base n size:Nat} {k:EgK} {M:Mkt} {v:Value} {xs:List Value} (h:Eg w eb k M) (hr:w.ownsRow base 115 size v n xs):∀j,v.ownBlock=some j→¬k.foot eb j:=fun j hj e=>by
 rcases e with e | e | e | e | e
 ·exact aG0 hr h.box (by decide) (by rw [hj,e])
 ·exact aG0 hr h.bn (by decide) (by rw [hj,e])
 ·exact h.bk.farAny hr (by decide) (by decide) (by decide) (by decide) (by decide) j hj e
 ·exact bG0 hr h.pk (by decide) hj e
 ·rcases hr.2 with ⟨e',_⟩ | ⟨g,cap,cur,e',_,hh,_⟩
  ·rw [e'] at hj;cases hj
  ·rw [e'] at hj;have e2:g=j:=by simpa [Value.ownBlock] using hj
   exact h.tkn.ne hh (e2.trans e)
def metM (M:Mkt) (o:Ord):Mkt:={ M with L:=(bM0 M o).1.L,la:=bW0 M.la (bM0 M o).1.ts }
theorem hN1 (eb pb:Nat) (k:EgK) (M:Mkt) (o:Ord) (W:World) (h:Eg W eb k M) (hpb:W.heap[pb]? = some (.cells #[.pointer (some ⟨eb,0,none⟩)] 26 (0,0))) (hpt:pb≠k.tb∧pb≠k.cb) (hm:k.m≤700000) (hs:o.side=1∨o.side=2) (hq:-9223372036854775808≤o.qty∧o.qty≤9223372036854775807):
  Calls Tryz.prog 94 #[.pointer (some ⟨k.bb,0,none⟩),.agg #[.int .i64 o.id,.int .i64 o.side,.int .i64 o.kind,.int .i64 o.price,.int .i64 o.qty],.func (.func 95) #[.pointer (some ⟨k.nb,0,none⟩)] #[],.func (.func 96) #[] #[.pointer (some ⟨pb,0,none⟩)]] W
   fun e W'=>∃(vf:Value) (b':BkS),e=.returned (.tuple #[vf,.agg #[.int .i64 o.id,.int .i64 o.side,.int .i64 o.kind,.int .i64 o.price,.int .i64 (bM0 M o).1.q],.bool (bM0 M o).2])∧W'.ownsRow W.heap.size 115 4 vf (bM0 M o).1.fs.length (fV (bM0 M o).1.fs)
    ∧Eg W' eb { k with m:=k.m+100,b:=b' } (metM M o)∧Out (fun j=>k.foot eb j∨j=pb) W W'∧Went W (k.foot eb) ({ k with m:=k.m+100,b:=b':EgK }.foot eb)
    ∧W'.heap[pb]? = some (.cells #[.pointer (some ⟨eb,0,none⟩)] 26 (0,0))
    ∧∀(j:Nat) (vs:Array Value),k.vp.ownBlock≠some j→W.heap[j]? = some (.cells vs 41 (0,0))→W'.heap[j]? = some (.cells vs 41 (0,0)):=by
 have hst:EgSt eb pb k.nb (egV k M) M W [] (fun j=>j=k.nb∨j=pb∨j=eb):=⟨h.bn,hpb,h.box,rfl,rfl⟩;have hpf:¬k.b.foot k.bb pb:=h.bk.farBox hpb (by decide) (by decide) (by decide) (by decide) (by decide);refine (lP1 k.bb k.m k.b M.L o _ _ _ _ _ _ (alM M) _ _ W h.bk (by omega) h.lnk h.lok hs hq (sJ1 eb pb k.nb (egV k M) M) (lQ1 eb pb k.nb (egV k M) M) (hK1 eb pb k.nb (egV k M) M) hst (fun j hj e=>?_)).mono ?_
 ·rcases hj with rfl | rfl | rfl
  ·exact h.nbbk e
  ·exact hpf e
  ·exact h.ebbk e
 ·rintro e W' ⟨s,t,vf,b',m',D',hmt,hm',rfl,hrow,hbk,hl,hst',ho,hwt,_⟩;have e1:bM0 M o=(s,t):=hmt;unfold metM;rw [e1];obtain ⟨g1,g2,g3⟩:=h.ofMeets hpb hpt ho hwt (hbk.more hm' (by omega)) hl (Nat.le_add_right _ _) hst';refine ⟨vf,b',rfl,hrow,g1,g2,g3,hst'.ptr,fun j vs hv hj=>aE0 hj ho (fun e=>?_)⟩;rcases e with e | e | e | e
  ·exact h.bk.farBox hj (by decide) (by decide) (by decide) (by decide) (by decide) e
  ·exact cV0 hj h.bn (by decide) e
  ·exact cV0 hj hpb (by decide) e
  ·exact cV0 hj h.box (by decide) e
structure TrS (eb pb ob:Nat) (k:EgK) (o:Ord) (w:World):Prop where
 p0:w.cell? ⟨pb,0,none⟩=some (.pointer (some ⟨eb,0,none⟩))
 e2:w.cell? ⟨eb,2,none⟩=some (.pointer (some ⟨k.bb,0,none⟩))
 e1:w.cell? ⟨eb,1,none⟩=some (.pointer (some ⟨k.nb,0,none⟩))
 o0:w.cell? ⟨ob,0,none⟩=some (.int .i64 o.id)
 o1:w.cell? ⟨ob,1,none⟩=some (.int .i64 o.side)
 o2:w.cell? ⟨ob,2,none⟩=some (.int .i64 o.kind)
 o3:w.cell? ⟨ob,3,none⟩=some (.int .i64 o.price)
 o4:w.cell? ⟨ob,4,none⟩=some (.int .i64 o.qty)
theorem gK0 {w w':World} {a:Addr} {v:Value} (h:w.cell? a=some v) (hb:Below w.heap.size w w'):w'.cell? a=some v:=(hb.cell (World.block_lt_of_cell? w _ h)).trans h
theorem TrS.bel {eb pb ob:Nat} {k:EgK} {o:Ord} {w w':World} (h:TrS eb pb ob k o w) (hb:Below w.heap.size w w'):TrS eb pb ob k o w':=
 ⟨gK0 h.p0 hb,gK0 h.e2 hb,gK0 h.e1 hb,gK0 h.o0 hb,gK0 h.o1 hb,gK0 h.o2 hb,gK0 h.o3 hb,gK0 h.o4 hb⟩
theorem dQ0 {w:World} {a:Addr} {v:Value} {lb i:Nat} (h:w.cell? a=some v) (hn:lb≠a.block) (u:Value):(w.setCell ⟨lb,i,none⟩ u).cell? a=some v:=cQ0 h (aQ0 w ⟨lb,i,none⟩ u) (fun e=>hn e.symm)
theorem TrS.set {eb pb ob lb:Nat} {k:EgK} {o:Ord} {w:World} (h:TrS eb pb ob k o w) (hn:lb≠pb∧lb≠eb∧lb≠ob) (i:Nat) (u:Value):TrS eb pb ob k o (w.setCell ⟨lb,i,none⟩ u):=
 ⟨dQ0 h.p0 hn.1 u,dQ0 h.e2 hn.2.1 u,dQ0 h.e1 hn.2.1 u,dQ0 h.o0 hn.2.2 u,dQ0 h.o1 hn.2.2 u,dQ0 h.o2 hn.2.2 u,dQ0 h.o3 hn.2.2 u,dQ0 h.o4 hn.2.2 u⟩
theorem TrS.open {eb pb ob:Nat} {k:EgK} {o:Ord} {w:World} (h:TrS eb pb ob k o w):w.cell? ⟨pb,0,none⟩=some (.pointer (some ⟨eb,0,none⟩))∧w.cell? ⟨eb,2,none⟩=some (.pointer (some ⟨k.bb,0,none⟩))∧w.cell? ⟨eb,1,none⟩=some (.pointer (some ⟨k.nb,0,none⟩))∧w.cell? ⟨ob,0,none⟩=some (.int .i64 o.id)∧w.cell? ⟨ob,1,none⟩=some (.int .i64 o.side)∧w.cell? ⟨ob,2,none⟩=some (.int .i64 o.kind)∧w.cell? ⟨ob,3,none⟩=some (.int .i64 o.price)∧w.cell? ⟨ob,4,none⟩=some (.int .i64 o.qty):=⟨h.p0,h.e2,h.e1,h.o0,h.o1,h.o2,h.o3,h.o4⟩
theorem Eg.farOrd {w:World} {eb j:Nat} {k:EgK} {M:Mkt} {vs:Array Value} (h:Eg w eb k M) (hj:w.heap[j]? = some (.cells vs 41 (0,0))) (hv:k.vp.ownBlock≠some j):¬k.foot eb j:=fun e=>by
 rcases e with e | e | e | e | e
 ·exact cV0 hj h.box (by decide) e
 ·exact cV0 hj h.bn (by decide) e
 ·exact h.bk.farBox hj (by decide) (by decide) (by decide) (by decide) (by decide) e
 ·exact hv e
 ·exact h.tkn.ne hj e
theorem EgGo.boxed {w w2:World} {eb lb:Nat} {k k2:EgK} {M2:Mkt} {vs:Array Value} (hg:EgGo w w2 eb k k2 M2) (hz:w2.heap[lb]? = some (.cells vs 41 (0,0))) (hlb:w.heap.size≤lb) (ht:k2.tb≠lb∧k2.cb≠lb) (hv:k2.vp.ownBlock≠some lb) (x:Ord):EgGo w (boxed w2 lb x) eb k k2 M2:=by
 have ho:=fW0 w2 lb x;have hf:=hg.1.farOrd hz hv;refine ⟨hg.1.out ho (fun j hj e=>?_),hg.2.1.trans ho (fun j hj=>Or.inr (by rw [show j=lb from hj];exact hlb)),hg.2.2⟩;have e':j=lb:=e;subst e';rcases hj with hj | hj | hj
 ·exact hf hj
 ·exact ht.1 hj.symm
 ·exact ht.2 hj.symm
def lT1 (w:World) (eb:Nat) (k:EgK) (M:Mkt) (o:Ord) (u5 u6 u7:Value) (wc:World):Prop:=
 ∃(lb:Nat) (b':BkS),u6=.pointer (some ⟨lb,0,none⟩)∧u7=.bool (bM0 M o).2∧wc.ownsRow w.heap.size 115 4 u5 (bM0 M o).1.fs.length (fV (bM0 M o).1.fs)∧dD0 wc lb (bJ0 o (bM0 M o).1.q)∧w.heap.size≤lb∧EgGo w wc eb k { k with m:=k.m+100,b:=b' } (metM M o)∧wc.heap[w.heap.size]? = some (.cells #[.pointer (some ⟨eb,0,none⟩)] 26 (0,0))
theorem qB1 {w w2:World} {eb:Nat} {k:EgK} {M:Mkt} {o:Ord} {vf:Value} {b':BkS} (hr:w2.ownsRow w.heap.size 115 4 vf (bM0 M o).1.fs.length (fV (bM0 M o).1.fs)) (hg:EgGo w w2 eb k { k with m:=k.m+100,b:=b' } (metM M o)) (hp:w2.heap[w.heap.size]? = some (.cells #[.pointer (some ⟨eb,0,none⟩)] 26 (0,0))):
  lT1 w eb k M o vf (.pointer (some ⟨w2.heap.size,0,none⟩)) (.bool (bM0 M o).2) (w2.alloc (.cells #[.int .i64 o.id,.int .i64 o.side,.int .i64 o.kind,.int .i64 o.price,.int .i64 (bM0 M o).1.q] 41)):=
 ⟨w2.heap.size,b',rfl,rfl,aO0 hr (bel1 _ _) lR7,heap_alloc_new w2 _,hg.2.1.size,hg.bel (bel1 _ _),aC0 hp (bel1 _ _) lR7⟩
theorem qC1 {w w2:World} {eb lb:Nat} {k:EgK} {M:Mkt} {o:Ord} {vf:Value} {b':BkS} (hr:w2.ownsRow w.heap.size 115 4 vf (bM0 M o).1.fs.length (fV (bM0 M o).1.fs)) (hg:EgGo w w2 eb k { k with m:=k.m+100,b:=b' } (metM M o)) (hp:w2.heap[w.heap.size]? = some (.cells #[.pointer (some ⟨eb,0,none⟩)] 26 (0,0)))
  (hz:ZBox w2 lb) (hlb:w.heap.size≤lb) (ht:k.tb≠lb∧k.cb≠lb) (hv:k.vp.ownBlock≠some lb):
  lT1 w eb k M o vf (.pointer (some ⟨lb,0,none⟩)) (.bool (bM0 M o).2) (((((w2.setCell ⟨lb,0,none⟩ (.int .i64 o.id)).setCell ⟨lb,1,none⟩ (.int .i64 o.side)).setCell ⟨lb,2,none⟩ (.int .i64 o.kind)).setCell ⟨lb,3,none⟩ (.int .i64 o.price)).setCell ⟨lb,4,none⟩ (.int .i64 (bM0 M o).1.q)):=
 show lT1 w eb k M o vf _ _ (boxed w2 lb (bJ0 o (bM0 M o).1.q)) from ⟨lb,b',rfl,rfl,aI0 hr (fW0 _ _ _) (fun j hj e=>aG0 hr hz (by decide) (by rw [hj];exact congrArg some e)),jJ0 _ hz,hlb,hg.boxed hz hlb ht hv _,aE0 hp (fW0 _ _ _) (fun e=>cV0 hp hz (by decide) e)⟩
set_option maxRecDepth 8000 in
set_option maxHeartbeats 8000000 in
theorem qD1 (eb:Nat) (k:EgK) (M:Mkt) (o:Ord) (w:World) (h:Eg w eb k M) (hm:k.m≤700000) (hs:o.side=1∨o.side=2) (hq:-9223372036854775808≤o.qty∧o.qty≤9223372036854775807) (hid:(Lit.int .i64 o.id).wf=true) (hn:0≤M.now∧M.now≤1000000000000) (ht:0≤M.ti∧M.ti≤1000000000000):
  Calls Tryz.prog 49 #[.pointer (some ⟨eb,0,none⟩),o.agg] w fun e w'=>∃vf k',e=.returned vf∧w'.ownsRow w.heap.size 115 4 vf (dW0 M o).1.length (fV (dW0 M o).1)∧EgGo w w' eb k k' (dW0 M o).2∧k'.m≤k.m+101:=by
 have H:Hid (Eg w eb k M):=h;have HS:Hid (o.side=1∨o.side=2):=hs;have HID:Hid ((Lit.int .i64 o.id).wf=true):=hid;have hpt:w.heap.size≠k.tb∧w.heap.size≠k.cb:=⟨by have:=h.tlt';omega,by have:=h.tlt;omega⟩;have HPT:Hid (w.heap.size≠k.tb∧w.heap.size≠k.cb):=hpt;clear h hs hid hpt;unfold Ord.agg;go_enter Tryz.func49,Tryz.ntmps49;go_upto_region 1 with fail;have hb1:=bel2 w (.cells #[.pointer (some ⟨eb,0,none⟩)] 26) (.cells #[.int .i64 o.id,.int .i64 o.side,.int .i64 o.kind,.int .i64 o.price,.int .i64 o.qty] 41);have hp1:=eV0 w (.cells #[.pointer (some ⟨eb,0,none⟩)] 26) (.cells #[.int .i64 o.id,.int .i64 o.side,.int .i64 o.kind,.int .i64 o.price,.int .i64 o.qty] 41);have ho1:=dX0 w (.cells #[.pointer (some ⟨eb,0,none⟩)] 26) (.cells #[.int .i64 o.id,.int .i64 o.side,.int .i64 o.kind,.int .i64 o.price,.int .i64 o.qty] 41);generalize (w.alloc (.cells #[.pointer (some ⟨eb,0,none⟩)] 26)).alloc (.cells #[.int .i64 o.id,.int .i64 o.side,.int .i64 o.kind,.int .i64 o.price,.int .i64 o.qty] 41)=w1 at hb1 hp1 ho1 ⊢;have HB1:Hid (Below w.heap.size w w1):=hb1;have HP1:Hid _:=hp1;have HO1:Hid _:=ho1;have H1:Hid (Eg w1 eb k M):=H.out.below hb1;have HT1:Hid (TrS eb w.heap.size (w.heap.size+1) k o w1):=⟨aA0 (j:=0) hp1 rfl,aA0 (j:=2) H1.out.box rfl,aA0 (j:=1) H1.out.box rfl,aA0 (j:=0) ho1 rfl,aA0 (j:=1) ho1 rfl,aA0 (j:=2) ho1 rfl,aA0 (j:=3) ho1 rfl,aA0 (j:=4) ho1 rfl⟩;have hvp:∀j,w.heap.size≤j→k.vp.ownBlock≠some j:=fun j hj e=>by have:=(H.out.pk.lt j e).2;omega
 have HVP:Hid (∀j,w.heap.size≤j→k.vp.ownBlock≠some j):=hvp;have HNE:Hid (w1.heap.size≠w.heap.size∧w1.heap.size≠eb∧w1.heap.size≠w.heap.size+1):=by have a1:=lt_of_block ho1;have a2:=lt_of_block H.out.box;exact ⟨by omega,by omega,by omega⟩
 have HLB:Hid (k.tb≠w1.heap.size∧k.cb≠w1.heap.size):=by have a1:=HB1.out.size;have a2:=H.out.tlt;have a3:=H.out.tlt';exact ⟨by omega,by omega⟩
 clear hb1 hp1 ho1 hvp;go_cut [5,6,7] from 8 to 23 (fun u5 u6 u7 wc=>lT1 w eb k M o u5 u6 u7 wc)
 case first=>
  go_region_held3 (fun w'=>w'.cell? ⟨w.heap.size,0,none⟩=some (.pointer (some ⟨eb,0,none⟩))∧w'.cell? ⟨eb,2,none⟩=some (.pointer (some ⟨k.bb,0,none⟩))∧w'.cell? ⟨eb,1,none⟩=some (.pointer (some ⟨k.nb,0,none⟩))∧w'.cell? ⟨w.heap.size+1,0,none⟩=some (.int .i64 o.id)∧w'.cell? ⟨w.heap.size+1,1,none⟩=some (.int .i64 o.side)∧w'.cell? ⟨w.heap.size+1,2,none⟩=some (.int .i64 o.kind)∧w'.cell? ⟨w.heap.size+1,3,none⟩=some (.int .i64 o.price)∧w'.cell? ⟨w.heap.size+1,4,none⟩=some (.int .i64 o.qty))
   ((refine TrS.open ?_;first | exact ((((HT2.out.set HNE.out 0 _).set HNE.out 1 _).set HNE.out 2 _).set HNE.out 3 _).set HNE.out 4 _ | (refine HT2.out.bel ?_;(repeat' first | assumption | exact Below.refl _ _ | exact lR7 | refine Below.drew ?_ | refine Below.alloc ?_ ?_ _ | (simp;done) | (simp;omega))) | (refine HT1.out.bel ?_;(repeat' first | assumption | exact Below.refl _ _ | exact lR7 | refine Below.drew ?_ | refine Below.alloc ?_ ?_ _ | (simp;done) | (simp;omega)))))
   ((go_at_call 94;refine (hN1 eb w.heap.size k M o _ (H1.out.below ?_) (aC0 HP1.out ?_ lR7) HPT.out hm HS.out hq).mono ?_;((repeat' first | assumption | exact Below.refl _ _ | exact lR7 | refine Below.drew ?_ | refine Below.alloc ?_ ?_ _ | (simp;done) | (simp;omega)));((repeat' first | assumption | exact Below.refl _ _ | exact lR7 | refine Below.drew ?_ | refine Below.alloc ?_ ?_ _ | (simp;done) | (simp;omega)));rintro e w2 ⟨vf,b',rfl,hr2,he2,ho2,hw2,hp2,hk2⟩;have hob:=hk2 (w.heap.size+1) _ (HVP.out _ (by omega)) (aC0 HO1.out (by (repeat' first | assumption | exact Below.refl _ _ | exact lR7 | refine Below.drew ?_ | refine Below.alloc ?_ ?_ _ | (simp;done) | (simp;omega))) lR7);have HT2:Hid (TrS eb w.heap.size (w.heap.size+1) k o w2):=⟨aA0 (j:=0) hp2 rfl,aA0 (j:=2) he2.box rfl,aA0 (j:=1) he2.box rfl,aA0 (j:=0) hob rfl,aA0 (j:=1) hob rfl,aA0 (j:=2) hob rfl,aA0 (j:=3) hob rfl,aA0 (j:=4) hob rfl⟩;have HG2:Hid (EgGo w w2 eb k { k with m:=k.m+100,b:=b' } (metM M o)):=⟨he2,(Out.of_below (aD0 HB1.out (by (repeat' first | assumption | exact Below.refl _ _ | exact lR7 | refine Below.drew ?_ | refine Below.alloc ?_ ?_ _ | (simp;done) | (simp;omega)))) lR7).trans ho2 (fun j hj=>hj.imp id (fun e=>by rw [e];exact lR7)),fun j hj=>(hw2 j hj).imp id (fun e=>Nat.le_trans (aD0 HB1.out (by (repeat' first | assumption | exact Below.refl _ _ | exact lR7 | refine Below.drew ?_ | refine Below.alloc ?_ ?_ _ | (simp;done) | (simp;omega)))).size e),rfl,rfl⟩;have HR2:Hid _:=bP0 hr2 (aD0 HB1.out (by (repeat' first | assumption | exact Below.refl _ _ | exact lR7 | refine Below.drew ?_ | refine Below.alloc ?_ ?_ _ | (simp;done) | (simp;omega)))).size;have HP2:Hid _:=hp2;(try (have hz2:=hk2 w1.heap.size #[.int .i64 0,.int .i64 0,.int .i64 0,.int .i64 0,.int .i64 0] (HVP.out _ HB1.out.size) (heap_alloc_new _ _);have z0:=aA0 (j:=0) hz2 rfl;have z1:=aA0 (j:=1) hz2 rfl;have z2:=aA0 (j:=2) hz2 rfl;have z3:=aA0 (j:=3) hz2 rfl;have z4:=aA0 (j:=4) hz2 rfl;have y0:=aB0 (j:=0) hz2;have y1:=aB0 (j:=1) hz2;have y2:=aB0 (j:=2) hz2;have y3:=aB0 (j:=3) hz2;have y4:=aB0 (j:=4) hz2;have HZ2:Hid _:=hz2;clear hz2));clear hr2 he2 ho2 hw2 hp2 hk2 hob))
  all_goals go_wp2_with fail
  all_goals go_meet
  all_goals first | exact qC1 (lb:=w1.heap.size) HR2.out HG2.out HP2.out HZ2.out HB1.out.size HLB.out (HVP.out _ HB1.out.size) | exact qB1 HR2.out HG2.out HP2.out
 case rest=>
  clear HT1 HP1 HO1 HB1 H1 HNE HLB HPT;obtain ⟨lb,b',rfl,rfl,hr,hx,hlb,hg,hp⟩:=hcut;have HT0:Hid (dW0 M o=((bM0 M o).1.fs,if (bM0 M o).2=true then volM { M with L:=if 0<(bM0 M o).1.q∧o.kind≠2 then addL (bJ0 o (bM0 M o).1.q) (bM0 M o).1.L else (bM0 M o).1.L,la:=bW0 M.la (bM0 M o).1.ts } else { M with L:=if 0<(bM0 M o).1.q∧o.kind≠2 then addL (bJ0 o (bM0 M o).1.q) (bM0 M o).1.L else (bM0 M o).1.L,la:=bW0 M.la (bM0 M o).1.ts })):=rfl;unfold metM at hg;generalize bM0 M o=mt at hr hx hg HT0 ⊢;obtain ⟨s,t⟩:=mt;dsimp only at hr hx hg HT0 ⊢;have HR:Hid (wc.ownsRow w.heap.size 115 4 u5 s.fs.length (fV s.fs)):=hr;have HX:Hid (dD0 wc lb (bJ0 o s.q)):=hx;have HG:Hid (EgGo w wc eb k { k with m:=k.m+100,b:=b' } { M with L:=s.L,la:=bW0 M.la s.ts }):=hg;have HP:Hid (wc.heap[w.heap.size]? = some (.cells #[.pointer (some ⟨eb,0,none⟩)] 26 (0,0))):=hp;have x0:wc.cell? ⟨lb,0,none⟩=some (.int .i64 o.id):=aA0 (j:=0) hx rfl;have x1:wc.cell? ⟨lb,1,none⟩=some (.int .i64 o.side):=aA0 (j:=1) hx rfl;have x2:wc.cell? ⟨lb,2,none⟩=some (.int .i64 o.kind):=aA0 (j:=2) hx rfl;have x3:wc.cell? ⟨lb,3,none⟩=some (.int .i64 o.price):=aA0 (j:=3) hx rfl;have x4:wc.cell? ⟨lb,4,none⟩=some (.int .i64 s.q):=aA0 (j:=4) hx rfl;have p0:wc.cell? ⟨w.heap.size,0,none⟩=some (.pointer (some ⟨eb,0,none⟩)):=aA0 (j:=0) hp rfl;clear hr hx hg hp
  by_cases hl:0<s.q∧o.kind≠2
  ·have HT:Hid (dW0 M o=(s.fs,if t=true then volM { M with L:=addL (bJ0 o s.q) s.L,la:=bW0 M.la s.ts } else { M with L:=addL (bJ0 o s.q) s.L,la:=bW0 M.la s.ts })):=by show _=_;rw [HT0.out,if_pos hl]
   obtain ⟨hq0,hk2⟩:=hl;have kb:(o.kind != 2)=true:=by simpa using hk2
   clear hk2 HT0;go_wp2_with fail;have hx4:=heap_alloc_new wc (.cells #[.int .i64 o.id,.int .i64 o.side,.int .i64 o.kind,.int .i64 o.price,.int .i64 s.q] 41);have hb4:=bel1 wc (.cells #[.int .i64 o.id,.int .i64 o.side,.int .i64 o.kind,.int .i64 o.price,.int .i64 s.q] 41);generalize wc.alloc (.cells #[.int .i64 o.id,.int .i64 o.side,.int .i64 o.kind,.int .i64 o.price,.int .i64 s.q] 41)=w3 at hx4 hb4 ⊢;have h3:=HG.out.1.below hb4
   have hfar:∀b off,some (⟨wc.heap.size,0,none⟩:Addr)=some ⟨b,off,none⟩→¬b'.foot k.bb b:=fun b off e=>by
    injection e with e;injection e with e _ _;rw [←e];exact h3.bk.farBox hx4 (by decide) (by decide) (by decide) (by decide) (by decide)
   have hin:cR0 w3 (some ⟨wc.heap.size,0,none⟩) [bJ0 o s.q]:=fun i hi=>by
    have e:i=0:=by simp at hi;omega
    subst e;exact ⟨wc.heap.size,0,rfl,aA0 (j:=0) hx4 rfl,aA0 (j:=1) hx4 rfl,aA0 (j:=2) hx4 rfl,aA0 (j:=3) hx4 rfl,aA0 (j:=4) hx4 rfl⟩
   have HG3:Hid (EgGo w w3 eb k { k with m:=k.m+100,b:=b' } { M with L:=s.L,la:=bW0 M.la s.ts }):=HG.out.bel hb4;have HR3:Hid (w3.ownsRow w.heap.size 115 4 u5 s.fs.length (fV s.fs)):=aO0 HR.out hb4 lR7;have HP3:Hid _:=aC0 HP.out hb4 lR7;clear hx4 hb4 h3 x0 x1 x2 x3 x4 p0 HG HR HP HX;refine (lM1 eb { k with m:=k.m+100,b:=b' } { M with L:=s.L,la:=bW0 M.la s.ts } (some ⟨wc.heap.size,0,none⟩) 1 [bJ0 o s.q] w3 HG3.out.1 hin (fun x hx=>by rw [List.mem_singleton.1 hx];exact HID.out) hfar (by show k.m+100+1≤900000;omega)).mono ?_;rintro e w4 ⟨rfl,b4,hl4,hg4⟩;have h4:=HG3.out.1.ofBook hg4 hl4 (Nat.le_add_right _ _);have HG4:Hid (EgGo w w4 eb k { k with m:=k.m+100+1,b:=b4 } { M with L:=addL (bJ0 o s.q) s.L,la:=bW0 M.la s.ts }):=HG3.out.trans h4;have HR4:Hid (w4.ownsRow w.heap.size 115 4 u5 s.fs.length (fV s.fs)):=aI0 HR3.out h4.2.1 (HG3.out.1.farFill HR3.out);have HP4:Hid (w4.heap[w.heap.size]? = some (.cells #[.pointer (some ⟨eb,0,none⟩)] 26 (0,0))):=aE0 HP3.out hg4.2.1 (HG3.out.1.bk.farBox HP3.out (by decide) (by decide) (by decide) (by decide) (by decide));clear hl4 hg4 h4 HG3 HR3 HP3 hin hfar;cases t with
   | true=>
    have HTT:Hid (dW0 M o=(s.fs,volM { M with L:=addL (bJ0 o s.q) s.L,la:=bW0 M.la s.ts })):=by show _=_;rw [HT.out];rfl
    have p4:w4.cell? ⟨w.heap.size,0,none⟩=some (.pointer (some ⟨eb,0,none⟩)):=aA0 (j:=0) HP4.out rfl;go_wp2_with fail;refine (nM0 eb { k with m:=k.m+100+1,b:=b4 } { M with L:=addL (bJ0 o s.q) s.L,la:=bW0 M.la s.ts } w4 HG4.out.1 hn ht).mono ?_;rintro e w5 ⟨rfl,h5⟩;have H5:Hid (EgGo w4 w5 eb { k with m:=k.m+100+1,b:=b4 } { k with m:=k.m+100+1,b:=b4 } (volM { M with L:=addL (bJ0 o s.q) s.L,la:=bW0 M.la s.ts })):=h5;have HR5:Hid (w5.ownsRow w.heap.size 115 4 u5 s.fs.length (fV s.fs)):=aI0 HR4.out h5.2.1 (HG4.out.1.farFill HR4.out);clear h5;go_wp2_with fail;go_ret;rw [HTT.out]
    first | exact ⟨u5,_,rfl,HR5.out,HG4.out.trans H5.out,(by show k.m+100+1≤k.m+101;omega)⟩ | exact ⟨u5,rfl,HR5.out,_,HG4.out.trans H5.out,(by show k.m+100+1≤k.m+101;omega)⟩
   | false=>
    have HTT:Hid (dW0 M o=(s.fs,{ M with L:=addL (bJ0 o s.q) s.L,la:=bW0 M.la s.ts })):=by show _=_;rw [HT.out];rfl
    go_wp2_with fail;go_ret;rw [HTT.out]
    first | exact ⟨u5,_,rfl,HR4.out,HG4.out,(by show k.m+100+1≤k.m+101;omega)⟩ | exact ⟨u5,rfl,HR4.out,_,HG4.out,(by show k.m+100+1≤k.m+101;omega)⟩
  ·have HT:Hid (dW0 M o=(s.fs,if t=true then volM { M with L:=s.L,la:=bW0 M.la s.ts } else { M with L:=s.L,la:=bW0 M.la s.ts })):=by show _=_;rw [HT0.out,if_neg hl]
   clear HT0 HX;generalize wc=w4 at HG HR HP x0 x1 x2 x3 x4 p0 ⊢;have HG4:Hid (EgGo w w4 eb k { k with m:=k.m+100,b:=b' } { M with L:=s.L,la:=bW0 M.la s.ts }):=HG.out;have HR4:Hid (w4.ownsRow w.heap.size 115 4 u5 s.fs.length (fV s.fs)):=HR.out;have HP4:Hid (w4.heap[w.heap.size]? = some (.cells #[.pointer (some ⟨eb,0,none⟩)] 26 (0,0))):=HP.out;clear HG HR HP
   by_cases hq0:0<s.q
   ·have hk2:o.kind=2:=Classical.byContradiction (fun e=>hl ⟨hq0,e⟩);have kb:(o.kind != 2)=false:=by simp [hk2]
    clear hk2 hl;cases t with
    | true=>
     have HTT:Hid (dW0 M o=(s.fs,volM { M with L:=s.L,la:=bW0 M.la s.ts })):=by show _=_;rw [HT.out];rfl
     have p4:w4.cell? ⟨w.heap.size,0,none⟩=some (.pointer (some ⟨eb,0,none⟩)):=aA0 (j:=0) HP4.out rfl;go_wp2_with fail;refine (nM0 eb { k with m:=k.m+100,b:=b' } { M with L:=s.L,la:=bW0 M.la s.ts } w4 HG4.out.1 hn ht).mono ?_;rintro e w5 ⟨rfl,h5⟩;have H5:Hid (EgGo w4 w5 eb { k with m:=k.m+100,b:=b' } { k with m:=k.m+100,b:=b' } (volM { M with L:=s.L,la:=bW0 M.la s.ts })):=h5;have HR5:Hid (w5.ownsRow w.heap.size 115 4 u5 s.fs.length (fV s.fs)):=aI0 HR4.out h5.2.1 (HG4.out.1.farFill HR4.out);clear h5;go_wp2_with fail;go_ret;rw [HTT.out]
     first | exact ⟨u5,_,rfl,HR5.out,HG4.out.trans H5.out,(by show k.m+100≤k.m+101;omega)⟩ | exact ⟨u5,rfl,HR5.out,_,HG4.out.trans H5.out,(by show k.m+100≤k.m+101;omega)⟩
    | false=>
     have HTT:Hid (dW0 M o=(s.fs,{ M with L:=s.L,la:=bW0 M.la s.ts })):=by show _=_;rw [HT.out];rfl
     go_wp2_with fail;go_ret;rw [HTT.out]
     first | exact ⟨u5,_,rfl,HR4.out,HG4.out,(by show k.m+100≤k.m+101;omega)⟩ | exact ⟨u5,rfl,HR4.out,_,HG4.out,(by show k.m+100≤k.m+101;omega)⟩
   ·clear hl;cases t with
    | true=>
     have HTT:Hid (dW0 M o=(s.fs,volM { M with L:=s.L,la:=bW0 M.la s.ts })):=by show _=_;rw [HT.out];rfl
     have p4:w4.cell? ⟨w.heap.size,0,none⟩=some (.pointer (some ⟨eb,0,none⟩)):=aA0 (j:=0) HP4.out rfl;go_wp2_with fail;refine (nM0 eb { k with m:=k.m+100,b:=b' } { M with L:=s.L,la:=bW0 M.la s.ts } w4 HG4.out.1 hn ht).mono ?_;rintro e w5 ⟨rfl,h5⟩;have H5:Hid (EgGo w4 w5 eb { k with m:=k.m+100,b:=b' } { k with m:=k.m+100,b:=b' } (volM { M with L:=s.L,la:=bW0 M.la s.ts })):=h5;have HR5:Hid (w5.ownsRow w.heap.size 115 4 u5 s.fs.length (fV s.fs)):=aI0 HR4.out h5.2.1 (HG4.out.1.farFill HR4.out);clear h5;go_wp2_with fail;go_ret;rw [HTT.out]
     first | exact ⟨u5,_,rfl,HR5.out,HG4.out.trans H5.out,(by show k.m+100≤k.m+101;omega)⟩ | exact ⟨u5,rfl,HR5.out,_,HG4.out.trans H5.out,(by show k.m+100≤k.m+101;omega)⟩
    | false=>
     have HTT:Hid (dW0 M o=(s.fs,{ M with L:=s.L,la:=bW0 M.la s.ts })):=by show _=_;rw [HT.out];rfl
     go_wp2_with fail;go_ret;rw [HTT.out]
     first | exact ⟨u5,_,rfl,HR4.out,HG4.out,(by show k.m+100≤k.m+101;omega)⟩ | exact ⟨u5,rfl,HR4.out,_,HG4.out,(by show k.m+100≤k.m+101;omega)⟩
def refN (M:Mkt) (o:Ord):Int:=if lI0 o=false then 1 else if cI0 o.price o.qty=false then 2 else if dV0 M.ph o.kind=false then 6 else if decide (o.id∈M.I)=true then 9 else if 100≤M.L.length+M.P.length then 12 else 0
theorem cO1 (p q:Int):cI0 p q=eW0 p q:=rfl
theorem sY0 (M:Mkt) (o:Ord):ordN M o=refN M (lieO o):=by
 have e1:(lieO o).kind=o.kind:=by unfold lieO;split <;> rfl
 have e2:(lieO o).qty=o.qty:=by unfold lieO;split <;> rfl
 unfold ordN refN lI0;rw [oD0,hC0,e1,e2,cO1]
 by_cases h1:(decide (1≤o.side)&& decide (o.side≤2))=false
 ·rw [if_pos (Or.inl h1),h1];rfl
 ·have h1':(decide (1≤o.side)&& decide (o.side≤2))=true:=by simpa using h1
  by_cases h2:(decide (1≤o.kind)&& decide (o.kind≤4))=false
  ·rw [if_pos (Or.inr (Or.inl h2)),h1',h2];rfl
  ·have h2':(decide (1≤o.kind)&& decide (o.kind≤4))=true:=by simpa using h2
   by_cases h3:o.id<1
   ·rw [if_pos (Or.inr (Or.inr h3)),h1',h2',decide_eq_false (by omega)];rfl
   ·rw [if_neg (by rintro (h | h | h) <;> contradiction),h1',h2',decide_eq_true (by omega)];simp only [decide_eq_true_eq];rfl
set_option maxRecDepth 4000 in
set_option maxHeartbeats 4000000 in
theorem hQ1 (eb:Nat) (k:EgK) (M:Mkt) (o:Ord) (w:World) (h:Eg w eb k M) (hw:(Lit.int .i64 o.id).wf=true) (hP:M.P.length≤1000):
  Calls Tryz.prog 48 #[.pointer (some ⟨eb,0,none⟩),o.agg] w fun e w'=>e=.returned (.int .i64 (refN M o))∧Below w.heap.size w w':=by
 have hL:=h.few100;have hlen:((k.b.S 0).length+(k.b.S 1).length:Nat)=M.L.length:=h.lnk.len.symm;have HLEN:Hid (((k.b.S 0).length+(k.b.S 1).length:Nat)=M.L.length):=hlen;have HW:Hid ((Lit.int .i64 o.id).wf=true):=hw;have H:Hid (Eg w eb k M):=h;obtain ⟨pa,pc,hvp,_,_⟩:=bB0 h.pk;have HVP:Hid (k.vp=.slice pa M.P.length pc):=hvp;clear h hw hlen hvp;unfold Ord.agg;go_enter Tryz.func48,Tryz.ntmps48;go_upto_region 1 with fail;have hx:=heap_alloc_new w (.cells #[.int .i64 o.id,.int .i64 o.side,.int .i64 o.kind,.int .i64 o.price,.int .i64 o.qty] 41);have hb1:=bel1 w (.cells #[.int .i64 o.id,.int .i64 o.side,.int .i64 o.kind,.int .i64 o.price,.int .i64 o.qty] 41);generalize w.alloc (.cells #[.int .i64 o.id,.int .i64 o.side,.int .i64 o.kind,.int .i64 o.price,.int .i64 o.qty] 41)=w1 at hx hb1 ⊢;have h1:=H.out.below hb1;have c4:w1.cell? ⟨eb,4,none⟩=some (.map (some k.tk)):=aA0 (j:=4) h1.box rfl;have x0:w1.cell? ⟨w.heap.size,0,none⟩=some (.int .i64 o.id):=aA0 (j:=0) hx rfl;have c4b:(w1.alloc (.cells #[] 111)).cell? ⟨eb,4,none⟩=some (.map (some k.tk)):=aA0 (j:=4) (h1.below (bel1 _ _)).box rfl;have x0b:(w1.alloc (.cells #[] 111)).cell? ⟨w.heap.size,0,none⟩=some (.int .i64 o.id):=aA0 (j:=0) (aC0 hx (bel1 _ _) lR7) rfl;have la:=(h1.below (Below.refl _ _).drew).tkn.look HW.out;have lb:∀obj,(Instr.lookup 96 (.map (some k.tk)) (.int .i64 o.id) true).run Tryz.prog (w1.drew.alloc obj)=.ok (.tuple #[.agg #[],.bool (decide (o.id∈M.I))]) (w1.drew.alloc obj):=fun obj=>((h1.below (Below.refl _ _).drew).below (bel1 _ obj)).tkn.look HW.out
 have lc:∀obj,(Instr.lookup 96 (.map (some k.tk)) (.int .i64 o.id) true).run Tryz.prog (w1.alloc obj).drew=.ok (.tuple #[.agg #[],.bool (decide (o.id∈M.I))]) (w1.alloc obj).drew:=fun obj=>((h1.below (bel1 _ obj)).below (Below.refl _ _).drew).tkn.look HW.out
 have HX:Hid _:=hx;have HB1:Hid (Below w.heap.size w w1):=hb1;have H1:Hid (Eg w1 eb k M):=h1;clear hx hb1 h1;generalize hd:decide (o.id∈M.I)=d at la lb lc;have HD:Hid (decide (o.id∈M.I)=d):=hd;clear hd;go_region;have h2:=(H1.out.below (bel1 _ (.cells #[] 111))).drew;have hx2:=aC0 (aC0 HX.out (bel1 _ (.cells #[] 111)) lR7) ((Below.refl (w1.alloc (.cells #[] 111)).heap.size _).drew) lR7;have HB2:Hid (Below w.heap.size w (w1.alloc (.cells #[] 111)).drew):=(aD0 HB1.out (bel1 _ _)).drew;generalize (w1.alloc (.cells #[] 111)).drew=w2 at h2 hx2 HB2 ⊢;have y0:w2.cell? ⟨w.heap.size,0,none⟩=some (.int .i64 o.id):=aA0 (j:=0) hx2 rfl;have y1:w2.cell? ⟨w.heap.size,1,none⟩=some (.int .i64 o.side):=aA0 (j:=1) hx2 rfl;have y2:w2.cell? ⟨w.heap.size,2,none⟩=some (.int .i64 o.kind):=aA0 (j:=2) hx2 rfl;have y3:w2.cell? ⟨w.heap.size,3,none⟩=some (.int .i64 o.price):=aA0 (j:=3) hx2 rfl;have y4:w2.cell? ⟨w.heap.size,4,none⟩=some (.int .i64 o.qty):=aA0 (j:=4) hx2 rfl;have H2:Hid (Eg w2 eb k M):=h2;have HX2:Hid _:=hx2;clear h2 hx2 c4 x0 c4b x0b la lb lc HX HB1 H1;go_wp2_with fail;refine (pQ1 o w2).mono ?_;rintro e w3 ⟨rfl,hb3⟩;have H3:Hid (Eg w3 eb k M):=H2.out.below hb3;have hx3:=aC0 HX2.out hb3 lR7;have HB3:Hid (Below w.heap.size w w3):=aD0 HB2.out hb3;have z3:w3.cell? ⟨w.heap.size,3,none⟩=some (.int .i64 o.price):=aA0 (j:=3) hx3 rfl;have z4:w3.cell? ⟨w.heap.size,4,none⟩=some (.int .i64 o.qty):=aA0 (j:=4) hx3 rfl;have HX3:Hid _:=hx3;clear hb3 hx3 y0 y1 y2 y3 y4 HX2;cases hk:lI0 o with
 | false=>
  have HR:Hid (refN M o=1):=by show _=_;unfold refN;rw [if_pos hk]
  clear hk;go_wp2_with fail;go_ret;exact ⟨by rw [HR.out];rfl,HB3.out⟩
 | true=>
  have HK:Hid (¬lI0 o=false):=by show ¬_;rw [hk];decide
  clear hk;go_wp2_with fail;refine (kK0 o.price o.qty w3).mono ?_;rintro e w4 ⟨rfl,hb4⟩;have H4:Hid (Eg w4 eb k M):=H3.out.below hb4;have HX4:Hid _:=aC0 HX3.out hb4 lR7;have HB4:Hid (Below w.heap.size w w4):=aD0 HB3.out hb4;clear hb4 z3 z4 HX3;cases hr:cI0 o.price o.qty with
  | false=>
   have HR:Hid (refN M o=2):=by show _=_;unfold refN;rw [if_neg HK.out,if_pos hr]
   clear hr;go_wp2_with fail;go_ret;exact ⟨by rw [HR.out];rfl,HB4.out⟩
  | true=>
   have HRT:Hid (¬cI0 o.price o.qty=false):=by show ¬_;rw [hr];decide
   clear hr;go_upto_region 6 with fail;have k5:=cell_regrown (aA0 (j:=5) (v:=.int .i64 M.ph) H4.out.box rfl);have k2:=cell_regrown (aA0 (j:=2) (v:=.int .i64 o.kind) HX4.out rfl);have cT:∀dq os,Calls Tryz.prog 92 #[.int .i64 M.ph,.int .i64 o.kind] (Go.Sort.grow (redrawn w4 dq) os) fun e w''=>e=.returned (.bool (dV0 M.ph o.kind))∧∃p:Regrown,w''=Go.Sort.grow (redrawn w4 p.d) p.os:=fun dq os=>(oH1 M.ph o.kind _).mono (fun _ _ ⟨he,hw⟩=>⟨he,⟨dq,os⟩,hw⟩)
   refine wp_region_quiet_below (by kernel_rfl) (by kernel_rfl) ?_
   repeat (go_big_quiet_step (exact cT _ _))
   refine wpQuiet_nil ?_;intro _ hw';obtain ⟨⟨dq,osq⟩,hw''⟩:=hw';subst hw'';have H5:Hid (Eg (Go.Sort.grow (redrawn w4 dq) osq) eb k M):=H4.out.below (below_regrown w4 dq osq);have HB5:Hid (Below w.heap.size w (Go.Sort.grow (redrawn w4 dq) osq)):=aD0 HB4.out (below_regrown w4 dq osq);generalize Go.Sort.grow (redrawn w4 dq) osq=w5 at H5 HB5 ⊢;clear k5 k2 cT HX4 H4;cases ht:dV0 M.ph o.kind with
   | false=>
    have HR:Hid (refN M o=6):=by show _=_;unfold refN;rw [if_neg HK.out,if_neg HRT.out,if_pos ht]
    clear ht;go_wp2_with fail;go_ret;exact ⟨by rw [HR.out];rfl,HB5.out⟩
   | true=>
    have HTT:Hid (¬dV0 M.ph o.kind=false):=by show ¬_;rw [ht];decide
    clear ht;cases d with
    | true=>
     have HR:Hid (refN M o=9):=by show _=_;unfold refN;rw [if_neg HK.out,if_neg HRT.out,if_neg HTT.out,if_pos HD.out]
     go_wp2_with fail;go_ret;exact ⟨by rw [HR.out];rfl,HB5.out⟩
    | false=>
     have HR:Hid (refN M o=if 100≤M.L.length+M.P.length then 12 else 0):=by show _=_;unfold refN;rw [if_neg HK.out,if_neg HRT.out,if_neg HTT.out,if_neg (by rw [HD.out];decide)]
     go_upto_region 10 with fail;have k2:=cell_regrown (aA0 (j:=2) (v:=.pointer (some ⟨k.bb,0,none⟩)) H5.out.box rfl);have k3':w5.cell? ⟨eb,3,none⟩=some (.slice pa M.P.length pc):=(aA0 (j:=3) (v:=k.vp) H5.out.box rfl).trans (by rw [HVP.out]);have k3:=cell_regrown k3';clear k3'
     have cM:∀dq os,Calls Tryz.prog 93 #[.pointer (some ⟨k.bb,0,none⟩)] (Go.Sort.grow (redrawn w5 dq) os) fun e w''=>e=.returned (.int .i64 (M.L.length:Int))∧∃p:Regrown,w''=Go.Sort.grow (redrawn w5 p.d) p.os:=fun dq os=>by
      have:=Calls.regrown_of (qZ1 k.bb k.m k.b (Go.Sort.grow (redrawn w5 dq) os) (H5.out.bk.below (below_regrown w5 dq os) lR7));rw [HLEN.out] at this;exact this
     refine wp_region_quiet_below (by kernel_rfl) (by kernel_rfl) ?_
     repeat (go_big_quiet_step (exact cM _ _))
     refine wpQuiet_nil ?_;intro _ hw';obtain ⟨⟨dq,osq⟩,hw''⟩:=hw';subst hw'';have HB6:Hid (Below w.heap.size w (Go.Sort.grow (redrawn w5 dq) osq)):=aD0 HB5.out (below_regrown w5 dq osq);generalize Go.Sort.grow (redrawn w5 dq) osq=w6 at HB6 ⊢;clear k2 k3 cM
     by_cases h100:100≤M.L.length+M.P.length
     ·have HR2:Hid (refN M o=12):=by show _=_;rw [HR.out,if_pos h100]
      go_wp2_with fail;go_ret;exact ⟨by rw [HR2.out];rfl,HB6.out⟩
     ·have HR2:Hid (refN M o=0):=by show _=_;rw [HR.out,if_neg h100]
      go_wp2_with fail;go_ret;exact ⟨by rw [HR2.out];rfl,HB6.out⟩
structure RefOk (M:Mkt) (p:Ord):Prop where
 side:p.side=1∨p.side=2
 kind:1≤p.kind∧p.kind≤4
 id:1≤p.id
 right:1≤p.price∧p.price≤1000000∧1≤p.qty∧p.qty≤1000000
 takes:dV0 M.ph p.kind=true
 new:p.id ∉ M.I
 room:M.L.length+M.P.length<100
theorem vR0 {M:Mkt} {p:Ord} (h:refN M p=0):RefOk M p:=by
 unfold refN at h
 by_cases h1:lI0 p=false
 ·rw [if_pos h1] at h;cases h
 rw [if_neg h1] at h
 by_cases h2:cI0 p.price p.qty=false
 ·rw [if_pos h2] at h;cases h
 rw [if_neg h2] at h
 by_cases h3:dV0 M.ph p.kind=false
 ·rw [if_pos h3] at h;cases h
 rw [if_neg h3] at h
 by_cases h4:decide (p.id∈M.I)=true
 ·rw [if_pos h4] at h;cases h
 rw [if_neg h4] at h
 by_cases h5:100≤M.L.length+M.P.length
 ·rw [if_pos h5] at h;cases h
 have k1:lI0 p=true:=by simpa using h1
 have k2:cI0 p.price p.qty=true:=by simpa using h2
 unfold lI0 at k1;simp only [Bool.and_eq_true,decide_eq_true_eq] at k1;unfold cI0 at k2;rw [Bool.and_eq_true] at k2;have r1:=dS0 k2.1;have r2:=dS0 k2.2;exact ⟨by omega,by omega,by omega,⟨r1.1,r1.2,r2.1,r2.2⟩,by simpa using h3,by simpa using h4,by omega⟩
theorem cP1 {w w1 w2:World} {eb:Nat} {k k1:EgK} {M1:Mkt} {r:List Fil×Mkt} {vf:Value} {n:Nat} (h:EgGo w w1 eb k k1 M1) (h1:∃k',w2.ownsRow w1.heap.size 115 4 vf r.1.length (fV r.1)∧EgGo w1 w2 eb k1 k' r.2∧k'.m≤k1.m+n) (hn:k1.m+n≤k.m+302):bO0 w w2 eb k r vf:=by
 obtain ⟨k',a,b,c⟩:=h1;exact ⟨k',bP0 a h.2.1.size,h.trans b,Nat.le_trans c hn⟩
theorem mM0 {wc:World} {b:Nat} {p:Ord} (h:dD0 wc b p):wc.cell? ⟨b,0,none⟩=some (.int .i64 p.id)∧wc.cell? ⟨b,1,none⟩=some (.int .i64 p.side)∧wc.cell? ⟨b,2,none⟩=some (.int .i64 p.kind)∧wc.cell? ⟨b,3,none⟩=some (.int .i64 p.price)∧wc.cell? ⟨b,4,none⟩=some (.int .i64 p.qty):=⟨aA0 (j:=0) h rfl,aA0 (j:=1) h rfl,aA0 (j:=2) h rfl,aA0 (j:=3) h rfl,aA0 (j:=4) h rfl⟩
set_option maxRecDepth 8000 in
set_option maxHeartbeats 8000000 in
theorem qE1 (eb:Nat) (k:EgK) (M:Mkt) (o:Ord) (w:World) (h:Eg w eb k M) (hN:MNum M) (hw:(Lit.int .i64 o.id).wf=true) (hm:k.m≤600000):
  Calls Tryz.prog 10 #[.pointer (some ⟨eb,0,none⟩),o.agg] w fun e w'=>∃vf err,e=.returned (.tuple #[vf,err])∧ErrE err (ordN M o)∧bO0 w w' eb k (ordM M o) vf:=by
 have H:Hid (Eg w eb k M):=h;have HN:Hid (MNum M):=hN;have HORD:Hid (ordN M o=refN M (lieO o)∧ordM M o=if refN M (lieO o)=0 then eO0 { M with I:=M.I++[(lieO o).id] } (lieO o) else ([],M)):=⟨sY0 M o,by unfold ordM;rw [sY0,hC0]⟩;have HWF:Hid ((Lit.int .i64 (lieO o).id).wf=true):=by show _=_;rw [hC0];exact hw
 have hpk:=hN.pk;clear h hN hw;unfold Ord.agg;go_enter Tryz.func10,Tryz.ntmps10;go_upto_region 1 with fail;have hx:=heap_alloc_new w (.cells #[.int .i64 o.id,.int .i64 o.side,.int .i64 o.kind,.int .i64 o.price,.int .i64 o.qty] 41);have hb:=bel1 w (.cells #[.int .i64 o.id,.int .i64 o.side,.int .i64 o.kind,.int .i64 o.price,.int .i64 o.qty] 41);generalize w.alloc (.cells #[.int .i64 o.id,.int .i64 o.side,.int .i64 o.kind,.int .i64 o.price,.int .i64 o.qty] 41)=w1 at hx hb ⊢;have y2:w1.cell? ⟨w.heap.size,2,none⟩=some (.int .i64 o.kind):=aA0 (j:=2) hx rfl;have y3:w1.cell? ⟨w.heap.size,3,none⟩=some (.int .i64 o.price):=aA0 (j:=3) hx rfl;have g3:=aB0 (j:=3) hx;have HX:Hid _:=hx;have HB:Hid (Below w.heap.size w w1):=hb;clear hx hb;go_upto_if 9 with fail;go_cut [9] (fun _ wc=>dD0 wc w.heap.size (lieO o)∧Below w.heap.size w wc)
 case first=>
  by_cases hk:o.kind=2
  ·have HE:Hid (lieO o={ o with price:=1 }):=if_pos hk;have bk:(o.kind == 2)=true:=beq_iff_eq.2 hk;clear hk;go_wp2_with fail;go_meet;exact ⟨by rw [HE.out];exact aK0 (j:=3) (.int .i64 1) HX.out,HB.out.setCell (p:=⟨w.heap.size,3,none⟩) lR7 _⟩
  ·have HE:Hid (lieO o=o):=if_neg hk;have bk:(o.kind == 2)=false:=beq_eq_false_iff_ne.2 hk;clear hk;go_wp2_with fail;go_meet;exact ⟨by rw [HE.out];exact HX.out,HB.out⟩
 case rest=>
  obtain ⟨hx,hb⟩:=hcut;clear HX HB y2 y3 g3;generalize lieO o=p at hx HORD HWF;obtain ⟨x0,x1,x2,x3,x4⟩:=mM0 hx;have HX:Hid (dD0 wc w.heap.size p):=hx;have HB:Hid (Below w.heap.size w wc):=hb;have HC:Hid (Eg wc eb k M):=H.out.below hb;clear hx hb;go_wp2_with fail;refine (hQ1 eb k M p wc HC.out HWF.out (by omega)).mono ?_;rintro e w2 ⟨rfl,hb2⟩;have HB2:Hid (Below w.heap.size w w2):=aD0 HB.out hb2;have H2:Hid (Eg w2 eb k M):=HC.out.below hb2;have HX2:Hid (dD0 w2 w.heap.size p):=aC0 HX.out hb2 lR7;clear hb2 x0 x1 x2 x3 x4 HB HX HC
  by_cases h0:refN M p=0
  ·have HR:Hid (RefOk M p):=vR0 h0;have HO2:Hid (ordN M o=0∧ordM M o=eO0 { M with I:=M.I++[p.id] } p):=⟨by rw [HORD.out.1,h0],by rw [HORD.out.2,if_pos h0]⟩;rw [h0];clear h0 HORD;go_upto_region 6 with fail;obtain ⟨w3,hrun,hm3,ho3⟩:=H2.out.drew.tkn.put HWF.out (by have:=H2.out.few;omega);have h3:=H2.out.drew.ofTaken hm3 ho3 (by omega);have hebt:eb≠k.tk:=H2.out.ebtk;have hobt:w.heap.size≠k.tk:=H2.out.tkn.ne HX2.out;have HS6:Hid (∀w',Out (fun j=>j=k.tk) w2 w'→w'.cell? ⟨eb,4,none⟩=some (.map (some k.tk))∧w'.cell? ⟨w.heap.size,0,none⟩=some (.int .i64 p.id)∧Out (fun j=>j=k.tk) w2 w'):=fun w' ho=>⟨aA0 (j:=4) (aE0 H2.out.box ho hebt) rfl,aA0 (j:=0) (aE0 HX2.out ho hobt) rfl,ho⟩
   have HO3:Hid (Out (fun j=>j=k.tk) w2 w3):=bE0 (aU0 (Out.refl _ _)) ho3;have HX3:Hid (dD0 w3 w.heap.size p):=aE0 HX2.out HO3.out hobt;have H3:Hid (EgGo w w3 eb k { k with m:=k.m+1,n:=k.n+1 } { M with I:=M.I++[p.id] }):=((EgGo.stay H.out HB2.out).bel (Below.refl _ _).drew).trans h3;clear hm3 ho3 h3 hebt hobt
   go_region_held3 (fun w'=>w'.cell? ⟨eb,4,none⟩=some (.map (some k.tk))∧w'.cell? ⟨w.heap.size,0,none⟩=some (.int .i64 p.id)∧Out (fun j=>j=k.tk) w2 w')
    ((refine HS6.out _ ?_;first | exact HO3.out | exact aU0 (Out.refl _ _) | exact Out.refl _ _)) (fail)
   obtain ⟨y0,y1,y2,y3,y4⟩:=mM0 HX3.out;have c5:w3.cell? ⟨eb,5,none⟩=some (.int .i64 M.ph):=aA0 (j:=5) H3.out.1.box rfl;clear hrun HS6 HO3 H2 HX2 HB2
   by_cases hpark:p.kind=4∧M.ph≠5
   ·have HT:Hid (eO0 { M with I:=M.I++[p.id] } p=([],{ M with I:=M.I++[p.id],P:=M.P++[p] })):=by show _=_;unfold eO0;rw [if_pos hpark]
    have b4:(p.kind == 4)=true:=beq_iff_eq.2 hpark.1;have b5:(M.ph != 5)=true:=by simpa using hpark.2
    clear hpark;go_upto_region 9 with fail;obtain ⟨i0,hi0,hz0,hz1,hz2⟩:=info_parts Tryz.infoOrdE;have hvx:k.vp.ownBlock≠some w.heap.size:=fun e=>by have:=(H.out.pk.lt _ e).2;omega
    have HS9:Hid (∀w',Out (fun j=>k.vp.ownBlock=some j) w3 w'→w'.cell? ⟨eb,3,none⟩=some k.vp∧w'.cell? ⟨w.heap.size,0,none⟩=some (.int .i64 p.id)∧w'.cell? ⟨w.heap.size,1,none⟩=some (.int .i64 p.side)∧w'.cell? ⟨w.heap.size,2,none⟩=some (.int .i64 p.kind)∧w'.cell? ⟨w.heap.size,3,none⟩=some (.int .i64 p.price)∧w'.cell? ⟨w.heap.size,4,none⟩=some (.int .i64 p.qty)∧Out (fun j=>k.vp.ownBlock=some j) w3 w'):=fun w' ho=>by
     obtain ⟨z0,z1,z2,z3,z4⟩:=mM0 (aE0 HX3.out ho hvx);exact ⟨aA0 (j:=3) (v:=k.vp) (aE0 H3.out.1.box ho H3.out.1.ebpk) rfl,z0,z1,z2,z3,z4,ho⟩
    have hlen:M.P.length+1≤maxLen:=by unfold maxLen;omega
    clear hvx y0 y1 y2 y3 y4 c5;refine eC0 (fun w'=>w'.cell? ⟨eb,3,none⟩=some k.vp∧w'.cell? ⟨w.heap.size,0,none⟩=some (.int .i64 p.id)∧w'.cell? ⟨w.heap.size,1,none⟩=some (.int .i64 p.side)∧w'.cell? ⟨w.heap.size,2,none⟩=some (.int .i64 p.kind)∧w'.cell? ⟨w.heap.size,3,none⟩=some (.int .i64 p.price)∧w'.cell? ⟨w.heap.size,4,none⟩=some (.int .i64 p.qty)∧Out (fun j=>k.vp.ownBlock=some j) w3 w') (fun i=>i == 10) (by kernel_rfl) (HS9.out _ (aU0 (Out.refl _ _))) (fun hHeld=>?_);refine tkL7 (i:=0) (v:=?_) rfl (by kernel_rfl) (fun _ _ _ h=>h) (by rfl) ?_ (by assumption) ?_;rotate_left
    ·intro w hSw;try dsimp only at hSw
     go_simp;try rfl
    refine tkL7 (i:=1) (v:=?_) rfl (by kernel_rfl) (fun _ _ _ h=>h) (by rfl) ?_ (by assumption) ?_;rotate_left
    ·intro w hSw;try dsimp only at hSw
     go_simp;try rfl
    refine tkL7 (i:=2) (v:=?_) rfl (by kernel_rfl) (fun _ _ _ h=>h) (by rfl) ?_ (by assumption) ?_;rotate_left
    ·intro w hSw;try dsimp only at hSw
     go_simp;try rfl
    refine tkL7 (i:=3) (v:=?_) rfl (by kernel_rfl) (fun _ _ _ h=>h) (by rfl) ?_ (by assumption) ?_;rotate_left
    ·intro w hSw;try dsimp only at hSw
     go_simp;try rfl
    refine tkL7 (i:=4) (v:=?_) rfl (by kernel_rfl) (fun _ _ _ h=>h) (by rfl) ?_ (by assumption) ?_;rotate_left
    ·intro w hSw;try dsimp only at hSw
     go_simp;try rfl
    refine tkL7 (i:=5) (v:=?_) rfl (by kernel_rfl) (fun _ _ _ h=>h) (by rfl) ?_ (by assumption) ?_;rotate_left
    ·intro w hSw;try dsimp only at hSw
     go_simp;try rfl
    refine aL0 (rs:=[6]) (by kernel_rfl) (by simp) ?_;refine aF0.cons rfl (fun K hK=>?_) aF0.nil;go_simp;refine hK.out _ _ (fun _=>HS9.out _ (cP0 (aU0 (Out.refl _ _)) _)) (fun hHeld=>?_);replace hHeld:=hHeld rfl;clear hK K;refine aL0 (rs:=[7]) (by kernel_rfl) (by simp) ?_;refine aF0.cons rfl (fun K hK=>?_) aF0.nil;refine pP0 _ rfl (.tmp 44) (.tmp 46) 59 rfl 0 41 i0 _ 5 40 Tryz.underlying59 hi0 hz0 hz1 hz2 (by rfl) (by omega) k.vp M.P.length (oV M.P) (by rfl) (aO0 (H3.out.1.drew).pk (bel1 _ _) lR7) (some ⟨w3.heap.size,0,none⟩) 1 1 [.int .i64 p.id,.int .i64 p.side,.int .i64 p.kind,.int .i64 p.price,.int .i64 p.qty] (by rfl) (by rfl) (Or.inr ⟨_,rfl,World.news_of_block (cs:=#[.int .i64 p.id,.int .i64 p.side,.int .i64 p.kind,.int .i64 p.price,.int .i64 p.qty]) (t:=41) (fr:=(0,0)) (heap_alloc_new w3.drew _)⟩) (by simp [Value.oneCell']) hlen (by omega) (Nat.zero_le _) ?_;intro v5 w5 h5 hg5 hk5;obtain ⟨a5,n5,hv5,_,_⟩:=bB0 h5;subst hv5;have HO5:Hid (Out (fun j=>k.vp.ownBlock=some j) w3 w5):=bE0 (cP0 (aU0 (Out.refl _ _)) _) (Out.of_grown hg5 (fun _ e=>e));have hfin:=H3.out.1.ofParked (P':=M.P++[p]) HO5.out (by rw [List.length_append,cC0];exact h5) (fun j hj=>(hk5 j hj).imp id (fun e=>Nat.le_trans (Nat.le_succ _) (by simpa using e)));have d3:w5.cell? ⟨eb,3,none⟩=some k.vp:=(HS9.out _ HO5.out).1;have g3:=aB0 (j:=3) (aE0 H3.out.1.box HO5.out H3.out.1.ebpk);have H5:Hid (EgGo w (w5.setCell ⟨eb,3,none⟩ (.slice a5 (M.P.length+1) n5)) eb k { k with m:=k.m+1,n:=k.n+1,vp:=.slice a5 (M.P.length+1) n5 } { M with I:=M.I++[p.id],P:=M.P++[p] }):=H3.out.trans hfin;clear h5 hg5 hk5 hfin;refine hK.out _ _ (fun _=>HS9.out _ HO5.out) (fun hHeld=>?_);replace hHeld:=hHeld rfl;clear hK K;refine tkL7 (i:=8) (v:=?_) rfl (by kernel_rfl) (fun _ _ _ h=>h) (by rfl) ?_ (by assumption) ?_;rotate_left
    ·intro w hSw;try dsimp only at hSw
     go_simp;try rfl
    refine tkL7 (i:=9) (v:=?_) rfl (by kernel_rfl) (fun _ _ _ h=>h) (by rfl) ?_ (by assumption) ?_;rotate_left
    ·intro w hSw;try dsimp only at hSw
     go_simp;try rfl
    refine aL0 (rs:=[10]) (by kernel_rfl) (by simp) ?_;refine aF0.cons rfl (fun K hK=>?_) aF0.nil;go_simp;refine hK.out _ _ (fun h=>by cases h) (fun _=>?_);refine fF0 (by kernel_rfl) ?_ _;go_wp2_with fail;go_ret2;exact ⟨_,_,rfl,ErrE.yes HO2.out.1,bO0.none_ (HO2.out.2.trans HT.out) H5.out (by show k.m+1≤k.m+302;omega)⟩
   ·by_cases h3:M.ph=3
    ·have HT:Hid (eO0 { M with I:=M.I++[p.id] } p=dW0 { M with I:=M.I++[p.id] } p):=by show _=_;unfold eO0;rw [if_neg hpark,if_neg (fun e=>e h3)]
     have b4:(p.kind == 4)=false:=beq_eq_false_iff_ne.2 (fun e=>hpark ⟨e,by rw [h3];decide⟩);have b3:(M.ph == 3)=true:=beq_iff_eq.2 h3;clear hpark h3;go_wp2_with fail;refine (qD1 eb { k with m:=k.m+1,n:=k.n+1 } { M with I:=M.I++[p.id] } p w3 H3.out.1 (by show k.m+1≤700000;omega) HR.out.side (by have:=HR.out.right;omega) HWF.out (by have:=HN.out.now;show 0≤M.now∧M.now≤1000000000000;omega) (by have:=HN.out.ti;show 0≤M.ti∧M.ti≤1000000000000;omega)).mono ?_;rintro e w4 ⟨vf,k4,rfl,hr4,hg4,hk4⟩;have HTE:Hid (bO0 w w4 eb k (dW0 { M with I:=M.I++[p.id] } p) vf):=cP1 H3.out ⟨k4,hr4,hg4,hk4⟩ (by show k.m+1+101≤k.m+302;omega);clear hr4 hg4 hk4;go_wp2_with fail;go_ret2;exact ⟨_,_,rfl,ErrE.yes HO2.out.1,by rw [HO2.out.2,HT.out];exact HTE.out⟩
    ·have HT:Hid (eO0 { M with I:=M.I++[p.id] } p=([],{ M with I:=M.I++[p.id],L:=addL p M.L })):=by show _=_;unfold eO0;rw [if_neg hpark,if_pos h3]
     have b3:(M.ph == 3)=false:=beq_eq_false_iff_ne.2 h3
     by_cases h4:p.kind=4
     ·have b4:(p.kind == 4)=true:=beq_iff_eq.2 h4
      have b5:(M.ph != 5)=false:=by
       have:M.ph=5:=Classical.byContradiction (fun e=>hpark ⟨h4,e⟩);simp [this]
      clear hpark h3 h4;have hxl:=heap_alloc_new w3 (.cells #[.int .i64 p.id,.int .i64 p.side,.int .i64 p.kind,.int .i64 p.price,.int .i64 p.qty] 41);have hbl:=bel1 w3 (.cells #[.int .i64 p.id,.int .i64 p.side,.int .i64 p.kind,.int .i64 p.price,.int .i64 p.qty] 41);go_wp2_with fail;generalize w3.alloc (.cells #[.int .i64 p.id,.int .i64 p.side,.int .i64 p.kind,.int .i64 p.price,.int .i64 p.qty] 41)=w4 at hxl hbl ⊢;have h4:=H3.out.1.below hbl
      have hfar:∀b off,some (⟨w3.heap.size,0,none⟩:Addr)=some ⟨b,off,none⟩→¬k.b.foot k.bb b:=fun b off e=>by
       injection e with e;injection e with e _ _;rw [←e];exact h4.bk.farBox hxl (by decide) (by decide) (by decide) (by decide) (by decide)
      have hin:cR0 w4 (some ⟨w3.heap.size,0,none⟩) [p]:=fun i hi=>by
       have e:i=0:=by simp at hi;omega
       subst e;exact ⟨w3.heap.size,0,rfl,aA0 (j:=0) hxl rfl,aA0 (j:=1) hxl rfl,aA0 (j:=2) hxl rfl,aA0 (j:=3) hxl rfl,aA0 (j:=4) hxl rfl⟩
      have HG4:Hid (EgGo w w4 eb k { k with m:=k.m+1,n:=k.n+1 } { M with I:=M.I++[p.id] }):=H3.out.bel hbl;clear hxl hbl h4;refine (lM1 eb { k with m:=k.m+1,n:=k.n+1 } { M with I:=M.I++[p.id] } (some ⟨w3.heap.size,0,none⟩) 1 [p] w4 HG4.out.1 hin (fun x hx=>by rw [List.mem_singleton.1 hx];exact HWF.out) hfar (by show k.m+1+1≤900000;omega)).mono ?_;rintro e w5 ⟨rfl,b5,hl5,hg5⟩;have H5:Hid (EgGo w w5 eb k { k with m:=k.m+1+1,n:=k.n+1,b:=b5 } { M with I:=M.I++[p.id],L:=addL p M.L }):=HG4.out.trans (HG4.out.1.ofBook hg5 hl5 (Nat.le_add_right _ _));clear hl5 hg5 hin hfar;go_wp2_with fail;go_ret2;exact ⟨_,_,rfl,ErrE.yes HO2.out.1,bO0.none_ (HO2.out.2.trans HT.out) H5.out (by show k.m+1+1≤k.m+302;omega)⟩
     ·have b4:(p.kind == 4)=false:=beq_eq_false_iff_ne.2 h4;clear hpark h3 h4;have hxl:=heap_alloc_new w3 (.cells #[.int .i64 p.id,.int .i64 p.side,.int .i64 p.kind,.int .i64 p.price,.int .i64 p.qty] 41);have hbl:=bel1 w3 (.cells #[.int .i64 p.id,.int .i64 p.side,.int .i64 p.kind,.int .i64 p.price,.int .i64 p.qty] 41);go_wp2_with fail;generalize w3.alloc (.cells #[.int .i64 p.id,.int .i64 p.side,.int .i64 p.kind,.int .i64 p.price,.int .i64 p.qty] 41)=w4 at hxl hbl ⊢;have h4:=H3.out.1.below hbl
      have hfar:∀b off,some (⟨w3.heap.size,0,none⟩:Addr)=some ⟨b,off,none⟩→¬k.b.foot k.bb b:=fun b off e=>by
       injection e with e;injection e with e _ _;rw [←e];exact h4.bk.farBox hxl (by decide) (by decide) (by decide) (by decide) (by decide)
      have hin:cR0 w4 (some ⟨w3.heap.size,0,none⟩) [p]:=fun i hi=>by
       have e:i=0:=by simp at hi;omega
       subst e;exact ⟨w3.heap.size,0,rfl,aA0 (j:=0) hxl rfl,aA0 (j:=1) hxl rfl,aA0 (j:=2) hxl rfl,aA0 (j:=3) hxl rfl,aA0 (j:=4) hxl rfl⟩
      have HG4:Hid (EgGo w w4 eb k { k with m:=k.m+1,n:=k.n+1 } { M with I:=M.I++[p.id] }):=H3.out.bel hbl;clear hxl hbl h4;refine (lM1 eb { k with m:=k.m+1,n:=k.n+1 } { M with I:=M.I++[p.id] } (some ⟨w3.heap.size,0,none⟩) 1 [p] w4 HG4.out.1 hin (fun x hx=>by rw [List.mem_singleton.1 hx];exact HWF.out) hfar (by show k.m+1+1≤900000;omega)).mono ?_;rintro e w5 ⟨rfl,b5,hl5,hg5⟩;have H5:Hid (EgGo w w5 eb k { k with m:=k.m+1+1,n:=k.n+1,b:=b5 } { M with I:=M.I++[p.id],L:=addL p M.L }):=HG4.out.trans (HG4.out.1.ofBook hg5 hl5 (Nat.le_add_right _ _));clear hl5 hg5 hin hfar;go_wp2_with fail;go_ret2;exact ⟨_,_,rfl,ErrE.yes HO2.out.1,bO0.none_ (HO2.out.2.trans HT.out) H5.out (by show k.m+1+1≤k.m+302;omega)⟩
  ·have HO2:Hid (ordN M o=refN M p∧ordM M o=([],M)):=⟨HORD.out.1,by rw [HORD.out.2,if_neg h0]⟩;have b0:(refN M p != 0)=true:=by simpa using h0
   generalize refN M p=r at h0 b0 HO2;have HR0:Hid (r≠0):=h0;clear h0 HORD;go_wp2_with fail;go_ret2;exact ⟨_,_,rfl,ErrE.no r HO2.out.1 HR0.out,bO0.none_ HO2.out.2 (EgGo.stay H.out HB2.out) (Nat.le_add_right _ _)⟩
structure DayA (M:Mkt) (lots side:Int→Int):Prop where
 tab:tabE M.rs=(0,-1)
 rl:M.rs.length≤60
 an:1≤M.an∧M.an≤1000000
 la:1≤M.la∧M.la≤1000000
 sh:(0≤M.st∧M.st≤10000)∧(0≤M.dy∧M.dy≤10000)
 ti:1≤M.ti∧M.ti≤1000000
 mo:0≤M.mo∧M.mo≤10
 lo:0≤M.lo∧M.lo≤M.mo
 now:0≤M.now
 kp:dP0 lots side (M.L++M.P)
 idI:∀x∈M.L++M.P,x.id∈M.I
 dis:∀x∈M.L,∀y∈M.P,y.id≠x.id
 pP:∀x∈M.P,x.kind=4∧(Lit.int .i64 x.id).wf=true
 few:M.L.length+M.P.length≤100
 lb:∀id,0≤lots id∧lots id≤1000000
structure DayInv (M:Mkt) (lots side:Int→Int) (since:Int) (hands:Bool):Prop extends DayA M lots side where
 ph:M.ph=6∨(M.ph=4∧(phaseV M.rs M.now).1=3)∨M.ph=(phaseV M.rs M.now).1
 fin:(phaseV M.rs M.now).1=7→M.ph=7
 none:M.ph=7→M.L=[]∧M.P=[]
 tr:M.ph=3→(∀x∈M.L,x.kind=1)∧pO1 M.L
 vol:hands=false→M.ph=4→since+(M.en - M.now)=(M.lo+1)*M.ti∧1≤M.en - M.now
 sn:0≤since∧(M.ph≠4→since=0)
def eH0 (M':Mkt) (since:Int):Int:=if M'.ph=4 then since else 0
section
variable {M:Mkt} {lots side:Int→Int} {since:Int} {hands:Bool}
theorem DayInv.num (h:DayInv M lots side since hands) (hn:M.now≤1000000000):MNum M:=
 ⟨h.la,by have:=h.few;omega,fun o ho=>(h.pP o ho).2,⟨h.now,hn⟩,by have:=h.ti;omega,by have:=h.lo;have:=h.mo;omega,⟨by
  have:=(aB1 h.tab).1;exact this,h.rl⟩⟩
theorem DayInv.auct (h:DayInv M lots side since hands) (h3:(phaseV M.rs (M.now+1)).1=3) (hw:(phaseV M.rs M.now).1≠3) (h6:M.ph≠6):eE0 M.ph=true:=by
 rcases rA0 h.tab h.now with e | e
 ·exact absurd (e.symm.trans h3) hw
 ·rw [h3] at e;rcases gC1 e with ⟨e1,e2⟩ | ⟨e1,_⟩ | ⟨e1,e2 | e2⟩ | ⟨e1,e2⟩
  ·omega
  ·rcases h.ph with e3 | ⟨_,e3⟩ | e3
   ·exact absurd e3 h6
   ·omega
   ·rw [e3,e1];rfl
  ·omega
  ·omega
  ·omega
theorem nN0 {B:Int} {side:Int→Int}:∀{fs:List Fil} {lots:Int→Int},fC0 side lots fs→(∀id,0≤lots id∧lots id≤B)→∀id,0≤bU0 lots fs id∧bU0 lots fs id≤B
 | [],_,_,h=>h
 | f::fs,lots,⟨hf,hfs⟩,h=>by
  intro id0;refine nN0 (fs:=fs) (lots:=pM0 lots f) hfs (fun id=>?_) id0;obtain ⟨h1,h2,h3,h4,h5⟩:=hf;have hne:f.seller≠f.buyer:=fun e=>by rw [e] at h3;omega
  have hb:=h f.buyer;have hs:=h f.seller;unfold pM0
  by_cases e1:id=f.seller
  ·subst e1;rw [fS0,fB0 hne];omega
  ·rw [fB0 e1]
   by_cases e2:id=f.buyer
   ·subst e2;rw [fS0];omega
   ·rw [fB0 e2];exact h id
theorem kI0 {side:Int→Int} {P:List Ord}:∀{fs:List Fil} {lots:Int→Int},(∀f∈fs,∀x∈P,x.id≠f.buyer∧x.id≠f.seller)→dP0 lots side P→dP0 (bU0 lots fs) side P
 | [],_,_,h=>h
 | f::fs,lots,hn,h=>kI0 (fs:=fs) (lots:=pM0 lots f) (fun g hg=>hn g (List.mem_cons_of_mem _ hg)) ((h.up (fun x hx=>(hn f (List.mem_cons_self ..) x hx).1)).up (fun x hx=>(hn f (List.mem_cons_self ..) x hx).2))
theorem lK0 {lots side:Int→Int} {A B:List Ord} (h1:dP0 lots side A) (h2:dP0 lots side B):dP0 lots side (A++B):=fun x hx=>(List.mem_append.1 hx).elim (h1 x) (h2 x)
end
end Go.Proofs.YtjdkagafdnchhaaGreatDoor
