/- A part of the proof of EnginePlays. -/
import Derived.Test.YtjdkagafdnchhaaGreatDoorPA
import Derived.Test.YtjdkagafdnchhaaGreatDoorPU
import Derived.Deep.RegionWith
import Derived.Deep.RegionHeld3
namespace Go.Proofs.YtjdkagafdnchhaaGreatDoor
open Go.RowKit
structure EgSt (eb pb nb:Nat) (vs:Array Value) (M:Mkt) (W:World) (ts:List Int) (D:Nat→Prop):Prop where
 bn:BnAt W nb M.st M.dy M.an (bW0 M.la ts)
 ptr:W.heap[pb]? = some (.cells #[.pointer (some ⟨eb,0,none⟩)] 26 (0,0))
 box:W.heap[eb]? = some (.cells vs 98 (0,0))
 at1:vs[1]? = some (.pointer (some ⟨nb,0,none⟩))
 dees:D=fun j=>j=nb∨j=pb∨j=eb
theorem sJ1 (eb pb nb:Nat) (vs:Array Value) (M:Mkt):StE (EgSt eb pb nb vs M) where
 keep:=fun {w w' ts D S} h ho hS=>by
  have e:=h.dees;subst e;exact ⟨aE0 h.bn ho (hS _ (Or.inl rfl)),aE0 h.ptr ho (hS _ (Or.inr (Or.inl rfl))),aE0 h.box ho (hS _ (Or.inr (Or.inr rfl))),h.at1,rfl⟩
 far:=fun {w ts D} h j hj=>by
  have e:=h.dees;subst e
  have go:∀{j:Nat} {us:Array Value} {t:TypeId},w.heap[j]? = some (.cells us t (0,0))→t≠41→t≠115→j<w.heap.size∧∀vs t fr,w.heap[j]? = some (.cells vs t fr)→t≠41∧t≠115:=fun h0 h1 h2=>⟨lt_of_block h0,fun vs t' fr h3=>by
   rw [h0] at h3;injection h3 with h3;injection h3 with _ h3 _;rw [←h3];exact ⟨h1,h2⟩⟩
  rcases hj with rfl | rfl | rfl
  ·exact go h.bn (by decide) (by decide)
  ·exact go h.ptr (by decide) (by decide)
  ·exact go h.box (by decide) (by decide)
set_option maxRecDepth 100000 in
theorem lQ1 (eb pb nb:Nat) (vs:Array Value) (M:Mkt):AskE 95 #[.pointer (some ⟨nb,0,none⟩)] #[] (alM M) (EgSt eb pb nb vs M) where
 enters:=fun args w=>by rfl
 tells:=fun {W ts D} h p _ _=>jI1 nb M.st M.dy M.an (bW0 M.la ts) p W h.bn
set_option maxRecDepth 4000 in
set_option maxHeartbeats 1000000 in
theorem sK1 (eb pb nb:Nat) (vs:Array Value) (M:Mkt) (W:World) (ts:List Int) (D:Nat→Prop) (p:Int) (h:EgSt eb pb nb vs M W ts D) (hp:1≤p∧p≤1000000):
  Calls Tryz.prog 96 #[.int .i64 p,.pointer (some ⟨pb,0,none⟩)] W fun e W'=>e=.returned (.tuple #[])∧EgSt eb pb nb vs M W' (ts++[p]) D∧Out D W W':=by
 have c0:W.cell? ⟨pb,0,none⟩=some (.pointer (some ⟨eb,0,none⟩)):=aA0 (j:=0) h.ptr rfl;have c1:W.cell? ⟨eb,1,none⟩=some (.pointer (some ⟨nb,0,none⟩)):=aA0 (j:=1) h.box h.at1;have H:Hid (EgSt eb pb nb vs M W ts D):=h;clear h;go_enter Tryz.func96,Tryz.ntmps96;go_wp2_with fail;refine (pK1 nb M.st M.dy M.an (bW0 M.la ts) p W H.out.bn (oA0 hp)).mono ?_;rintro e w1 ⟨rfl,ho,hb⟩;have HO:Hid (Out (fun j=>j=nb) W w1):=ho;have HB:Hid _:=hb;clear ho hb;go_wp2_with fail;refine bodyPost_end (results_none rfl _ _ _) rfl ?_;have e:=H.out.dees;subst e;refine ⟨rfl,⟨by rw [mE0];exact HB.out,aE0 H.out.ptr HO.out (cV0 H.out.ptr H.out.bn (by decide)),aE0 H.out.box HO.out (cV0 H.out.box H.out.bn (by decide)),H.out.at1,rfl⟩,?_⟩;exact ⟨HO.out.os,HO.out.tape,HO.out.output,HO.out.size,fun j hj hn=>HO.out.block j hj (fun e=>hn (Or.inl e))⟩
set_option maxRecDepth 100000 in
theorem hK1 (eb pb nb:Nat) (vs:Array Value) (M:Mkt):TellE 96 #[] #[.pointer (some ⟨pb,0,none⟩)] (EgSt eb pb nb vs M) where
 enters:=fun args w=>by rfl
 tells:=fun {W ts D} h _ p h1 h2=>(sK1 eb pb nb vs M W ts D p h ⟨h1,h2⟩).mono fun _ _ ⟨he,hs,ho⟩=>⟨he,D,hs,ho,fun _ hj=>Or.inl hj⟩
theorem Eg.ofMeets {w w':World} {eb pb m':Nat} {k:EgK} {M:Mkt} {b':BkS} {L':List Ord} {ts:List Int} {D':Nat→Prop} (h:Eg w eb k M) (hpb:w.heap[pb]? = some (.cells #[.pointer (some ⟨eb,0,none⟩)] 26 (0,0))) (hpt:pb≠k.tb∧pb≠k.cb)
  (ho:Out (fun j=>k.b.foot k.bb j∨(j=k.nb∨j=pb∨j=eb)) w w') (hwt:Went w (k.b.foot k.bb) (b'.foot k.bb)) (hbk:Bk w' k.bb m' b') (hl:Lnk b'.S L') (hm:k.m≤m') (hst:EgSt eb pb k.nb (egV k M) M w' ts D'):
  Eg w' eb { k with m:=m',b:=b' } { M with L:=L',la:=bW0 M.la ts }∧Out (fun j=>k.foot eb j∨j=pb) w w'∧Went w (k.foot eb) ({ k with m:=m',b:=b':EgK }.foot eb):=by
 have hpk:k.vp.ownBlock≠some pb:=aG0 h.pk hpb (by decide);have hptk:pb≠k.tk:=h.tkn.ne hpb;refine ⟨⟨hst.box,⟨cQ0 h.tab.1 ho (fun e=>?_),fA0 h.tab.2 ho (fun e=>?_)⟩,Nat.lt_of_lt_of_le h.tlt ho.size,hst.bn,hbk,hl,aI0 h.pk ho (fun j hj e=>?_),h.tkn.same (ho.block _ h.tkn.lt (fun e=>?_)),fun e=>?_,Nat.le_trans h.few hm,fun j hj e=>?_⟩,?_,?_⟩
 ·rcases e with e | e | e | e
  ·exact h.far _ (Or.inl rfl) (Or.inr (Or.inr (Or.inl e)))
  ·exact h.far _ (Or.inl rfl) (Or.inr (Or.inl e))
  ·exact hpt.1 e.symm
  ·exact h.far _ (Or.inl rfl) (Or.inl e)
 ·rcases e with e | e | e | e
  ·exact h.far _ (Or.inr rfl) (Or.inr (Or.inr (Or.inl e)))
  ·exact h.far _ (Or.inr rfl) (Or.inr (Or.inl e))
  ·exact hpt.2 e.symm
  ·exact h.far _ (Or.inr rfl) (Or.inl e)
 ·rcases e with e | e | e | e
  ·exact h.pkbk hj e
  ·exact h.nbpk (by rw [←e];exact hj)
  ·exact hpk (by rw [←e];exact hj)
  ·exact h.ebpk (by rw [←e];exact hj)
 ·rcases e with e | e | e | e
  ·exact h.tkf e
  ·exact h.nbtk e.symm
  ·exact hptk e.symm
  ·exact h.ebtk e.symm
 ·rcases hwt _ e with e | e
  ·exact h.tkf e
  ·have e':w.heap.size≤k.tk:=e;have:=h.tkn.lt;omega
 ·have hlt:j<w.heap.size:=by
   rcases hj with rfl | rfl
   ·exact h.tlt'
   ·exact h.tlt
  rcases e with e | e | e | e | e
  ·exact h.far j hj (Or.inl e)
  ·exact h.far j hj (Or.inr (Or.inl e))
  ·rcases hwt j e with e | e
   ·exact h.far j hj (Or.inr (Or.inr (Or.inl e)))
   ·omega
  ·exact h.far j hj (Or.inr (Or.inr (Or.inr (Or.inl e))))
  ·exact h.far j hj (Or.inr (Or.inr (Or.inr (Or.inr e))))
 ·refine ⟨ho.os,ho.tape,ho.output,ho.size,fun i hi hn=>ho.block i hi (fun e=>hn ?_)⟩;rcases e with e | e | e | e
  ·exact Or.inl (Or.inr (Or.inr (Or.inl e)))
  ·exact Or.inl (Or.inr (Or.inl e))
  ·exact Or.inr e
  ·exact Or.inl (Or.inl e)
 ·intro j hj;rcases hj with e | e | e | e | e
  ·exact Or.inl (Or.inl e)
  ·exact Or.inl (Or.inr (Or.inl e))
  ·exact (hwt j e).imp (fun e=>Or.inr (Or.inr (Or.inl e))) id
  ·exact Or.inl (Or.inr (Or.inr (Or.inr (Or.inl e))))
  ·exact Or.inl (Or.inr (Or.inr (Or.inr (Or.inr e))))
theorem jF0 {L:List Ord} {la:Int} (hok:LOk L) (hla:1≤la∧la≤1000000) (hq:0<(aN0 (aR0 L la) la).qty):1≤(aN0 (aR0 L la) la).price∧(aN0 (aR0 L la) la).price≤1000000:=by
 unfold aN0 at hq ⊢
 by_cases hm:cG0 (aR0 L la)<1
 ·rw [if_pos hm] at hq;exact absurd hq (by decide)
 ·rw [if_neg hm];obtain ⟨h1,_⟩:=mD0 la (by omega:1≤cG0 (aR0 L la));show 1≤(hG0 (aR0 L la) la).price∧(hG0 (aR0 L la) la).price≤1000000;obtain ⟨p,hp,e⟩:=List.mem_map.1 h1;rw [←e];show 1≤p∧p≤1000000;rw [iY0 (dA0 _),gP0,cU0] at hp;rcases hp with ⟨_,rfl⟩ | ⟨o,ho,_,rfl⟩
  ·exact hla
  ·have:=hok.ok o ho;omega
theorem cN1 {w W:World} {bb m:Nat} {b b':BkS} (hb:Bk W bb m b') (hs:oC0 w W bb b b'):Goes w W bb m b b':=⟨hb,hs.1,hs.2⟩
theorem Eg.farFills {w:World} {eb base n size:Nat} {k:EgK} {M:Mkt} {v:Value} {xs:List Value} (h:Eg w eb k M) (hr:w.ownsRow base 115 size v n xs):∀j,v.ownBlock=some j→¬k.foot eb j:=fun j hj e=>by
 rcases e with e | e | e | e | e
 ·exact aG0 hr h.box (by decide) (by rw [hj,e])
 ·exact aG0 hr h.bn (by decide) (by rw [hj,e])
 ·exact h.bk.farAny hr (by decide) (by decide) (by decide) (by decide) (by decide) j hj e
 ·exact bG0 hr h.pk (by decide) hj e
 ·rcases hr.2 with ⟨e',_⟩ | ⟨g,cap,cur,e',_,hh,_⟩
  ·rw [e'] at hj;cases hj
  ·rw [e'] at hj;have e2:g=j:=by simpa [Value.ownBlock] using hj
   exact h.tkn.ne hh (e2.trans e)
theorem qA1 (eb:Nat) (k:EgK) (M:Mkt) (W:World) (h:Eg W eb k M) (hm:k.m≤700000) (hq:0<(aH0 M).qty):
  Calls Tryz.prog 159 #[.pointer (some ⟨k.bb,0,none⟩),.int .i64 (aH0 M).price,.int .i64 (aH0 M).qty] W
   fun e W'=>∃(vf:Value) (b':BkS),e=.returned (.tuple #[vf,.nilIface])∧W'.ownsRow W.heap.size 115 4 vf (uncA M).1.length (fV (uncA M).1)∧Goes W W' k.bb (k.m+202) k.b b'∧Lnk b'.S (uncA M).2.L:=by
 have hok:=h.lok;have hF:FOk (aH0 M).price ⟨[],M.L,(aH0 M).qty⟩:=eP0 M.la hok hq;have h1:(aH0 M).qty≤wilL 1 (aH0 M).price M.L:=hF.buy;have h2:(aH0 M).qty≤wilL 2 (aH0 M).price M.L:=hF.sell;refine (pN1 k.bb k.m k.b M.L (aH0 M).price (aH0 M).qty W h.bk (by omega) h.lnk hok ⟨by omega,by omega⟩).mono ?_;rintro e W' ⟨K,vf,rfl,h0,hj,b',hc⟩;have e1:=uN0 hF h0 hj
 have e2:uncA M=((aT0 (aH0 M).price ⟨[],M.L,(aH0 M).qty⟩ K).fs,{ M with L:=(aT0 (aH0 M).price ⟨[],M.L,(aH0 M).qty⟩ K).L,an:=(aH0 M).price,la:=(aH0 M).price }):=by
  unfold uncA;rw [if_pos hq,e1]
 have hK:K≤101:=by
  cases K with
  | zero=>omega
  | succ K=>
   have:=hN0 hF K hj;have e:(⟨[],M.L,(aH0 M).qty⟩:FS).L.length=M.L.length:=rfl;have:=h.few100;omega
 rw [e2];refine ⟨vf,b',rfl,hc.fils,cN1 (hc.bk.more (by omega) (by omega)) hc.since,hc.lnk⟩
def sL1 (w:World) (eb:Nat) (k:EgK) (M:Mkt) (u3:Value) (wc:World):Prop:=
 ∃k1:EgK,wc.ownsRow w.heap.size 115 4 u3 (uncA M).1.length (fV (uncA M).1)∧EgGo w wc eb k k1 (uncA M).2∧k1.m≤k.m+202
theorem nL1 {w wc:World} {eb:Nat} {k k1:EgK} {M:Mkt} {u3:Value} (h1:wc.ownsRow w.heap.size 115 4 u3 (uncA M).1.length (fV (uncA M).1)) (h2:EgGo w wc eb k k1 (uncA M).2) (h3:k1.m≤k.m+202):sL1 w eb k M u3 wc:=⟨k1,h1,h2,h3⟩
set_option maxRecDepth 8000 in
set_option maxHeartbeats 8000000 in
theorem vQ0 (eb:Nat) (k:EgK) (M:Mkt) (w:World) (h:Eg w eb k M) (ha:eE0 M.ph=true) (hla:1≤M.la∧M.la≤1000000) (hm:k.m≤700000):
  Calls Tryz.prog 107 #[.pointer (some ⟨eb,0,none⟩)] w fun e w'=>∃vf k',e=.returned vf∧w'.ownsRow w.heap.size 115 4 vf (uncM M).1.length (fV (uncM M).1)∧EgGo w w' eb k k' (uncM M).2∧k'.m≤k.m+302:=by
 have H:Hid (Eg w eb k M):=h;have HK:Hid (LOk M.L):=h.lok;have HQE:Hid (gQ0 M=aH0 M):=by show _=_;unfold gQ0;rw [if_pos ha]
 clear h ha;go_enter Tryz.func107,Tryz.ntmps107;go_wp2_with fail;refine (yF0 eb k M w H.out hla).mono ?_;rintro e w1 ⟨rfl,hb1⟩;rw [HQE.out];unfold lL1;have H1:Hid (Eg w1 eb k M):=H.out.below hb1;have HB1:Hid (Below w.heap.size w w1):=hb1;clear hb1;go_upto_if 11 with fail;have hx:=heap_alloc_new w1 (.cells #[.int .i64 (aH0 M).price,.int .i64 (aH0 M).qty,.int .i64 (aH0 M).sur] 69);have hb2:=bel1 w1 (.cells #[.int .i64 (aH0 M).price,.int .i64 (aH0 M).qty,.int .i64 (aH0 M).sur] 69);generalize w1.alloc (.cells #[.int .i64 (aH0 M).price,.int .i64 (aH0 M).qty,.int .i64 (aH0 M).sur] 69)=w2 at hx hb2 ⊢;have H2:Hid (Eg w2 eb k M):=H1.out.below hb2;have HB2:Hid (Below w.heap.size w w2):=aD0 HB1.out hb2;have HX:Hid _:=hx;have hne:¬k.b.foot k.bb w1.heap.size:=H2.out.bk.farBox hx (by decide) (by decide) (by decide) (by decide) (by decide);have HNE:Hid (¬k.b.foot k.bb w1.heap.size):=hne
 have HSS:Hid (∀w',Out (k.b.foot k.bb) w2 w'→w'.cell? ⟨eb,2,none⟩=some (.pointer (some ⟨k.bb,0,none⟩))∧w'.cell? ⟨w1.heap.size,0,none⟩=some (.int .i64 (aH0 M).price)∧w'.cell? ⟨w1.heap.size,1,none⟩=some (.int .i64 (aH0 M).qty)∧Out (k.b.foot k.bb) w2 w'):=fun w' ho=>by
  have hx':=aE0 hx ho hne;exact ⟨aA0 (j:=2) (aE0 H2.out.box ho H2.out.ebbk) rfl,aA0 (j:=0) hx' rfl,aA0 (j:=1) hx' rfl,ho⟩
 clear hx hb2 H1 HB1 hne;go_cut [3] (fun u3 wc=>sL1 w eb k M u3 wc)
 case first=>
  by_cases hq:0<(aH0 M).qty
  ·have HQ:Hid (0<(aH0 M).qty):=hq;have HPR:Hid (1≤(aH0 M).price∧(aH0 M).price≤1000000):=jF0 HK.out hla hq;have HE:Hid ((uncA M).2={ M with L:=(uncA M).2.L,an:=(aH0 M).price,la:=(aH0 M).price }):=by show _=_;unfold uncA;rw [if_pos hq]
   have gq:decide (0<(aH0 M).qty)=true:=decide_eq_true hq;generalize hpp:(aH0 M).price=pp at HE HSS HX HPR;generalize hqq:(aH0 M).qty=qq at hq gq HSS HX;go_wp2_with fail;rw [gq];go_cut [3] from 12 to 23 (fun u3 wc=>∃b',wc.ownsRow w.heap.size 115 4 u3 (uncA M).1.length (fV (uncA M).1)∧Goes w2 wc k.bb (k.m+202) k.b b'∧Lnk b'.S (uncA M).2.L)
   case first=>
    go_region_held3 (fun w'=>w'.cell? ⟨eb,2,none⟩=some (.pointer (some ⟨k.bb,0,none⟩))∧w'.cell? ⟨w1.heap.size,0,none⟩=some (.int .i64 pp)∧w'.cell? ⟨w1.heap.size,1,none⟩=some (.int .i64 qq)∧Out (k.b.foot k.bb) w2 w')
     ((refine HSS.out _ ?_;(first | exact HG3.out.2.1 | exact Out.refl _ _ | exact aU0 (Out.refl _ _))))
     ((go_at_call 159;subst hpp hqq;refine (qA1 eb k M w2.drew H2.out.drew hm HQ.out).mono ?_;rintro e w3 ⟨vf,b3,rfl,hr3,hg3,hl3⟩;have HR3:Hid _:=hr3;have HL3:Hid _:=hl3;have HG3:Hid (Goes w2 w3 k.bb (k.m+202) k.b b3):=lJ0 H2.out.bk (Below.refl _ _).drew hg3;clear hr3 hg3 hl3))
    all_goals go_wp2_with fail
    all_goals go_meet
    all_goals exact ⟨b3,bP0 HR3.out HB2.out.size,HG3.out,HL3.out⟩
   case rest=>
    obtain ⟨b3,hr3,hg3,hl3⟩:=hcut;have HR3:Hid (wc.ownsRow w.heap.size 115 4 u3 (uncA M).1.length (fV (uncA M).1)):=hr3;have hE3:=H2.out.ofBook hg3 hl3 (Nat.le_add_right _ _);have HE3:Hid (EgGo w2 wc eb k { k with m:=k.m+202,b:=b3 } { M with L:=(uncA M).2.L }):=hE3;have hx3:=aE0 HX.out hg3.2.1 HNE.out;have hnx:w1.heap.size≠k.nb:=cV0 HX.out H2.out.bn (by decide);have HS5:Hid (∀w',Out (fun j=>j=k.nb) wc w'→w'.cell? ⟨eb,1,none⟩=some (.pointer (some ⟨k.nb,0,none⟩))∧w'.cell? ⟨w1.heap.size,0,none⟩=some (.int .i64 pp)∧Out (fun j=>j=k.nb) wc w'):=fun w' ho=>⟨aA0 (j:=1) (aE0 hE3.1.box ho H2.out.ebnb) rfl,aA0 (j:=0) (aE0 hx3 ho hnx) rfl,ho⟩
    clear hr3 hg3 hl3 hE3 hx3 hnx;go_upto_region 5 with fail
    go_region_held3 (fun w'=>w'.cell? ⟨eb,1,none⟩=some (.pointer (some ⟨k.nb,0,none⟩))∧w'.cell? ⟨w1.heap.size,0,none⟩=some (.int .i64 pp)∧Out (fun j=>j=k.nb) wc w')
     ((refine HS5.out _ ?_;(first | exact HO4.out | exact Out.refl _ _ | exact aU0 (Out.refl _ _))))
     ((go_at_call 160;refine (tM1 k.nb M.st M.dy M.an M.la pp wc.drew HE3.out.1.drew.bn (oA0 HPR.out)).mono ?_;rintro e w4 ⟨rfl,ho4,hb4⟩;have HB4:Hid _:=hb4;have HO4:Hid (Out (fun j=>j=k.nb) wc w4):=(aU0 (Out.refl _ _)).trans ho4 (Went.refl _ _);clear ho4 hb4))
    all_goals go_wp2_with fail
    all_goals go_meet
    all_goals refine nL1 (k1:={ k with m:=k.m+202,b:=b3 }) (aI0 HR3.out HO4.out (fun j hj e=>?_)) ?_ lR7
    all_goals first | exact aG0 HR3.out HE3.out.1.bn (by decide) (hj.trans (congrArg some e)) | (rw [HE.out];exact ((EgGo.stay H.out HB2.out).trans HE3.out).trans (HE3.out.1.ofBands HB4.out HO4.out))
  ·have HE:Hid (uncA M=([],M)):=by show _=_;unfold uncA;rw [if_neg hq]
   have gq:decide (0<(aH0 M).qty)=false:=decide_eq_false hq;go_wp2_with fail;go_meet;exact nL1 (k1:=k) (by rw [HE.out];exact World.ownsRow_nil _ _ _ _) (by rw [HE.out];exact EgGo.stay H.out HB2.out) (Nat.le_add_right _ _)
 case rest=>
  obtain ⟨k1,hr,hg,hk1⟩:=hcut;have HU:Hid (uncM M=((uncA M).1,{ (uncA M).2 with L:=limL (uncA M).2.L })):=xR0 M;clear HX HSS H2 HB2 HNE;generalize uncA M=um at hr hg HU;obtain ⟨fs,M3⟩:=um;dsimp only at hr hg HU;have HR:Hid (wc.ownsRow w.heap.size 115 4 u3 fs.length (fV fs)):=hr;have HG:Hid (EgGo w wc eb k k1 M3):=hg;have HG3:Hid (goL (jD0 M3.L) M3.L=limL M3.L):=pX1 hg.1.lok;have hl3:(jD0 M3.L).length≤100:=by rw [pX0 hg.1.lok];exact hg.1.few100
  clear hr hg;go_wp2_with fail;refine (hG1 eb k1 M3 wc HG.out.1).mono ?_;rintro e w5 ⟨v5,rfl,hr5,hb5⟩;obtain ⟨a5,n5,rfl,_,_⟩:=bB0 hr5;generalize hX:jD0 M3.L=X at *;have HR5:Hid (w5.ownsRow wc.heap.size 41 5 (.slice a5 X.length n5) X.length (oV X)):=hr5
  have HW5:Hid (∀i,i<X.length→(Lit.int .i64 (oAt X i).id).wf=true):=fun i hi=>by
   have h1:oAt X i∈jD0 M3.L:=by rw [hX,dL0 hi];exact List.getElem_mem hi
   exact nD1 HG.out.1.bk HG.out.1.lnk ((hZ0 HG.out.1.lok).mem_iff.1 h1)
  have HE5:Hid (Eg w5 eb k1 M3):=HG.out.1.below hb5;have HG5:Hid (EgGo w w5 eb k k1 M3):=HG.out.bel hb5;have HRF:Hid (w5.ownsRow w.heap.size 115 4 u3 fs.length (fV fs)):=aO0 HR.out hb5 lR7;clear hX hr5 hb5 HR HG;go_wp2_with fail;go_loopw [34] (fun u wr=>∃(i:Nat) (b1:BkS),u=.int .i64 i∧i≤X.length∧Lnk b1.S (goL (X.take i) M3.L)∧Goes w5 wr k1.bb (k1.m+i) k1.b b1) (fun u _=>X.length - (intOf u).toNat)
  case atStart=>exact ⟨0,k1.b,rfl,Nat.zero_le _,HE5.out.lnk,HE5.out.bk,Out.refl _ _,Went.refl _ _⟩
  case round=>
   obtain ⟨i,b1,rfl,hi,hln,hg⟩:=hrel;have HLN:Hid (Lnk b1.S (goL (X.take i) M3.L)):=hln;have HGO:Hid (Goes w5 wr k1.bb (k1.m+i) k1.b b1):=hg
   by_cases hi1:i<X.length
   ·have hlt:(i:Int)<(X.length:Int):=by omega
    have hrX:wr.ownsRow wc.heap.size 41 5 (.slice a5 X.length n5) X.length (oV X):=aI0 HR5.out hg.2.1 (HE5.out.bk.farAny HR5.out (by decide) (by decide) (by decide) (by decide) (by decide));obtain ⟨g,cap,e1,d0,d1,d2,d3,d4⟩:=cD0 hrX hi1;injection e1 with e1 _ e2;subst e1 e2;have HWI:Hid ((Lit.int .i64 (oAt X i).id).wf=true):=HW5.out i hi1;have HS:Hid _:=lN1 M3.L hi1;have HE:Hid (Eg wr eb { k1 with m:=k1.m+i,b:=b1 } { M3 with L:=goL (X.take i) M3.L }):=(HE5.out.ofBook hg hln (Nat.le_add_right _ _)).1;generalize oAt X i=o at d0 d1 d2 d3 d4 HWI HS;clear hg hln hrX
    by_cases hk:o.kind=1
    ·have HS1:Hid (goL (X.take (i+1)) M3.L=goL (X.take i) M3.L):=by show _=_;rw [HS.out,if_pos hk]
     have kb:(o.kind != 1)=false:=by simp [hk]
     clear hk HS;go_wp2_with fail;go_roundw
     case rel=>exact ⟨i+1,b1,by go_num,hi1,by rw [HS1.out];exact HLN.out,jE0 (sV0 HGO.out (bel1 _ _)) ⟨(HE.out.below (bel1 _ _)).bk.more (Nat.le_succ _) (by omega),Out.refl _ _,Went.refl _ _⟩⟩
     case measure=>first | (simp [intOf];omega) | (show X.length - (i+1)<X.length - i;omega) | omega
    ·have HS1:Hid (goL (X.take (i+1)) M3.L=canL o.id (goL (X.take i) M3.L)):=by show _=_;rw [HS.out,if_neg hk]
     have kb:(o.kind != 1)=true:=by simpa using hk
     clear hk HS;go_upto_region 10 with fail;have hx:=heap_alloc_new wr (.cells #[.int .i64 o.id,.int .i64 o.side,.int .i64 o.kind,.int .i64 o.price,.int .i64 o.qty] 41);have hbx:=bel1 wr (.cells #[.int .i64 o.id,.int .i64 o.side,.int .i64 o.kind,.int .i64 o.price,.int .i64 o.qty] 41);generalize wr.alloc (.cells #[.int .i64 o.id,.int .i64 o.side,.int .i64 o.kind,.int .i64 o.price,.int .i64 o.qty] 41)=w6 at hx hbx ⊢;have h6:=HE.out.below hbx;have HG6:Hid (Goes w5 w6 k1.bb (k1.m+i) k1.b b1):=sV0 HGO.out hbx;have hne:¬b1.foot k1.bb wr.heap.size:=h6.bk.farBox hx (by decide) (by decide) (by decide) (by decide) (by decide);have HSS:Hid (∀w',Out (b1.foot k1.bb) w6 w'→w'.cell? ⟨eb,2,none⟩=some (.pointer (some ⟨k1.bb,0,none⟩))∧w'.cell? ⟨wr.heap.size,0,none⟩=some (.int .i64 o.id)∧Out (b1.foot k1.bb) w6 w'):=fun w' ho=>⟨aA0 (j:=2) (aE0 h6.box ho h6.ebbk) rfl,aA0 (j:=0) (aE0 hx ho hne) rfl,ho⟩
     have HBK:Hid (Bk w6 k1.bb (k1.m+i) b1):=h6.bk;clear hx hbx d0 d1 d2 d3 d4 hne h6 HE HGO;have hm1:k1.m+i+1≤900000:=by omega
     go_region_held3 (fun w'=>w'.cell? ⟨eb,2,none⟩=some (.pointer (some ⟨k1.bb,0,none⟩))∧w'.cell? ⟨wr.heap.size,0,none⟩=some (.int .i64 o.id)∧Out (b1.foot k1.bb) w6 w')
      ((refine HSS.out _ ?_;(first | exact HG7.out.2.1 | exact Out.refl _ _ | exact aU0 (Out.refl _ _))))
      ((go_at_call 54;refine (xO0 (HBK.out.below (Below.refl _ _).drew lR7) hm1 HLN.out o.id HWI.out).mono ?_;rintro e w7 ⟨err,rfl,_,b2,hl2,hg2⟩;have HL2:Hid _:=hl2;have HG7:Hid (Goes w6 w7 k1.bb (k1.m+i+1) b1 b2):=lJ0 HBK.out (Below.refl _ _).drew hg2;clear hl2 hg2))
     go_wp2_with fail;go_roundw
     case rel=>exact ⟨i+1,b2,by go_num,hi1,by rw [HS1.out];exact HL2.out,jE0 HG6.out HG7.out⟩
     case measure=>first | (simp [intOf];omega) | (show X.length - (i+1)<X.length - i;omega) | omega
   ·obtain rfl:i=X.length:=by omega
    rw [List.take_length,HG3.out] at HLN;clear hg hln;go_wp2_with fail;go_ret;have hfin:=HE5.out.ofBook HGO.out HLN.out (Nat.le_add_right _ _);refine ⟨u3,{ k1 with m:=k1.m+X.length,b:=b1 },rfl,?_,?_,?_⟩
    ·rw [HU.out];exact aI0 HRF.out hfin.2.1 (HE5.out.farFills HRF.out)
    ·rw [HU.out];exact HG5.out.trans hfin
    ·show k1.m+X.length≤k.m+302;omega
section
variable {w w1 w':World} {eb:Nat} {k:EgK} {M:Mkt}
theorem Eg.ofParked (h:Eg w eb k M) {v':Value} {P':List Ord} (ho:Out (fun j=>k.vp.ownBlock=some j) w w1) (hr:w1.ownsRow 0 41 5 v' P'.length (oV P')) (hn:∀j,v'.ownBlock=some j→k.vp.ownBlock=some j∨w.heap.size≤j):
  EgGo w (w1.setCell ⟨eb,3,none⟩ v') eb k { k with vp:=v' } { M with P:=P' }:=by
 have hbox:=aE0 h.box ho h.ebpk;have ho2:=aQ0 w1 ⟨eb,3,none⟩ v';have hb2:=aK0 (j:=3) v' hbox;have far:∀j,j=k.tb∨j=k.cb→k.vp.ownBlock≠some j∧j≠eb:=fun j hj=>⟨fun e=>h.far j hj (Or.inr (Or.inr (Or.inr (Or.inl e)))),fun e=>h.far j hj (Or.inl e)⟩
 have hl:=ho.size;refine ⟨⟨hb2,⟨cQ0 (cQ0 h.tab.1 ho (far _ (Or.inl rfl)).1) ho2 (far _ (Or.inl rfl)).2,fA0 (fA0 h.tab.2 ho (far _ (Or.inr rfl)).1) ho2 (far _ (Or.inr rfl)).2⟩,Nat.lt_of_lt_of_le h.tlt (Nat.le_trans hl ho2.size),aE0 (aE0 h.bn ho h.nbpk) ho2 (fun e=>h.ebnb e.symm),(h.bk.out ho (fun j hj e=>h.pkbk e hj)).out ho2 (fun j hj e=>h.ebbk (by rw [←show j=eb from e];exact hj)),h.lnk,aI0 hr ho2 (fun j hj e=>aG0 hr hbox (by decide) (hj.trans (congrArg some e))),(h.tkn.same (ho.block _ h.tkn.lt h.pktk)).same (ho2.block _ (Nat.lt_of_lt_of_le h.tkn.lt hl) (fun e=>h.ebtk e.symm)),h.tkf,h.few,fun j hj e=>?_⟩,?_,?_,rfl,rfl⟩
 ·have hlt:j<w.heap.size:=by
   rcases hj with rfl | rfl
   ·exact h.tlt'
   ·exact h.tlt
  rcases e with e | e | e | e | e
  ·exact h.far j hj (Or.inl e)
  ·exact h.far j hj (Or.inr (Or.inl e))
  ·exact h.far j hj (Or.inr (Or.inr (Or.inl e)))
  ·rcases hn j e with e | e
   ·exact h.far j hj (Or.inr (Or.inr (Or.inr (Or.inl e))))
   ·omega
  ·exact h.far j hj (Or.inr (Or.inr (Or.inr (Or.inr e))))
 ·have h1:Out (k.foot eb) w w1:=⟨ho.os,ho.tape,ho.output,ho.size,fun i hi hn=>ho.block i hi (fun e=>hn (Or.inr (Or.inr (Or.inr (Or.inl e)))))⟩;have h2:Out (k.foot eb) w1 (w1.setCell ⟨eb,3,none⟩ v'):=⟨ho2.os,ho2.tape,ho2.output,ho2.size,fun i hi hn=>ho2.block i hi (fun e=>hn (Or.inl e))⟩;exact bE0 h1 h2
 ·intro j hj;rcases hj with e | e | e | e | e
  ·exact Or.inl (Or.inl e)
  ·exact Or.inl (Or.inr (Or.inl e))
  ·exact Or.inl (Or.inr (Or.inr (Or.inl e)))
  ·exact (hn j e).imp (fun e=>Or.inr (Or.inr (Or.inr (Or.inl e)))) id
  ·exact Or.inl (Or.inr (Or.inr (Or.inr (Or.inr e))))
theorem Eg.noParked (h:Eg w eb k M):EgGo w (w.setCell ⟨eb,3,none⟩ (.slice none 0 0)) eb k { k with vp:=.slice none 0 0 } { M with P:=[] }:=
 h.ofParked (P':=[]) (Out.refl _ _) (World.ownsRow_nil _ _ _ _) (fun j hj=>by cases hj)
theorem Eg.ofNew (h:Eg w eb k M) {bb':Nat} {b':BkS} (hb:Below w.heap.size w w1) (hbk:Bk w1 bb' 0 b') (hl:Lnk b'.S []) (hf:∀j,b'.foot bb' j→w.heap.size≤j):
  EgGo w (w1.setCell ⟨eb,2,none⟩ (.pointer (some ⟨bb',0,none⟩))) eb k { k with bb:=bb',b:=b' } { M with L:=[] }:=by
 have h1:=h.below hb;have ho2:=aQ0 w1 ⟨eb,2,none⟩ (.pointer (some ⟨bb',0,none⟩));have hb2:=aK0 (j:=2) (.pointer (some ⟨bb',0,none⟩)) h1.box;have hebl:=lt_of_block h.box;refine ⟨⟨hb2,⟨cQ0 h1.tab.1 ho2 (fun e=>h.far _ (Or.inl rfl) (Or.inl e)),fA0 h1.tab.2 ho2 (fun e=>h.far _ (Or.inr rfl) (Or.inl e))⟩,Nat.lt_of_lt_of_le h1.tlt ho2.size,aE0 h1.bn ho2 (fun e=>h.ebnb e.symm),(hbk.out ho2 (fun j hj e=>by have:=hf j hj;have e':j=eb:=e;omega)).more (Nat.zero_le _) h.bk.steps,hl,aI0 h1.pk ho2 (fun j hj e=>h.ebpk (by rw [←show j=eb from e];exact hj)),h1.tkn.same (ho2.block _ h1.tkn.lt (fun e=>h.ebtk e.symm)),fun e=>?_,h.few,fun j hj e=>?_⟩,?_,?_,rfl,rfl⟩
 ·have:=hf _ e;have h2:=h.tkn.lt;have e':w.heap.size≤k.tk:=this;omega
 ·have hlt:j<w.heap.size:=by
   rcases hj with rfl | rfl
   ·exact h.tlt'
   ·exact h.tlt
  rcases e with e | e | e | e | e
  ·exact h.far j hj (Or.inl e)
  ·exact h.far j hj (Or.inr (Or.inl e))
  ·have:=hf j e;omega
  ·exact h.far j hj (Or.inr (Or.inr (Or.inr (Or.inl e))))
  ·exact h.far j hj (Or.inr (Or.inr (Or.inr (Or.inr e))))
 ·have h2:Out (k.foot eb) w1 (w1.setCell ⟨eb,2,none⟩ (.pointer (some ⟨bb',0,none⟩))):=⟨ho2.os,ho2.tape,ho2.output,ho2.size,fun i hi hn=>ho2.block i hi (fun e=>hn (Or.inl e))⟩;exact bE0 (Out.of_below hb lR7) h2
 ·intro j hj;rcases hj with e | e | e | e | e
  ·exact Or.inl (Or.inl e)
  ·exact Or.inl (Or.inr (Or.inl e))
  ·exact Or.inr (hf j e)
  ·exact Or.inl (Or.inr (Or.inr (Or.inr (Or.inl e))))
  ·exact Or.inl (Or.inr (Or.inr (Or.inr (Or.inr e))))
end
set_option maxRecDepth 4000 in
set_option maxHeartbeats 2000000 in
theorem hM1 (eb:Nat) (k:EgK) (M:Mkt) (w:World) (h:Eg w eb k M) (hP:M.P.length≤100) (hw:∀o∈M.P,(Lit.int .i64 o.id).wf=true) (hm:k.m≤700000):
  Calls Tryz.prog 66 #[.pointer (some ⟨eb,0,none⟩)] w fun e w'=>∃k',e=.returned (.tuple #[])∧EgGo w w' eb k k' (iG0 M)∧k'.m≤k.m+100:=by
 have c5:w.cell? ⟨eb,5,none⟩=some (.int .i64 M.ph):=aA0 (j:=5) h.box rfl;have f5:=aB0 (j:=5) h.box;have h1:=h.write (j:=5) (u:=.int .i64 5) (M':={ M with ph:=5 }) rfl rfl rfl rfl rfl ⟨rfl,rfl,rfl,rfl⟩;have HW:Hid (∀o∈M.P,(Lit.int .i64 o.id).wf=true):=hw;clear h hw;go_enter Tryz.func66,Tryz.ntmps66;go_upto_region 1 with fail;generalize w.setCell ⟨eb,5,none⟩ (.int .i64 5)=w1 at h1 ⊢;obtain ⟨pa,pc,hvp,hin⟩:=cR0.of_row h1.1.pk;have c3:w1.cell? ⟨eb,3,none⟩=some (.slice pa M.P.length pc):=(aA0 (j:=3) (v:=k.vp) h1.1.box rfl).trans (by rw [hvp])
 have hfar:∀b off,pa=some ⟨b,off,none⟩→¬k.b.foot k.bb b:=fun b off e=>by
  rcases h1.1.pk.2 with ⟨e1,_⟩ | ⟨g,cap,cur,e1,_,hh,_⟩
  ·rw [hvp,e] at e1;cases e1
  ·rw [hvp,e] at e1;injection e1 with e1 _ _;injection e1 with e1;injection e1 with e1 _ _;subst e1;exact h1.1.bk.farBox hh (by decide) (by decide) (by decide) (by decide) (by decide)
 have H1:Hid (EgGo w w1 eb k k { M with ph:=5 }):=h1;have HIN:Hid (cR0 w1 pa M.P):=hin;have HF:Hid (∀b off,pa=some ⟨b,off,none⟩→¬k.b.foot k.bb b):=hfar;have hm2:k.m+M.P.length≤900000:=by omega
 clear h1 c5 f5 hvp hin hfar;go_wp2_with fail;refine (lM1 eb k { M with ph:=5 } pa pc M.P w1 H1.out.1 HIN.out HW.out HF.out hm2).mono ?_;rintro e w2 ⟨rfl,b2,hl2,hg2⟩;have h2:=H1.out.1.ofBook hg2 hl2 (Nat.le_add_right _ _);have d3:w2.cell? ⟨eb,3,none⟩=some k.vp:=aA0 (j:=3) h2.1.box rfl;have g3:=aB0 (j:=3) h2.1.box;have H2:Hid (EgGo w w2 eb k { k with m:=k.m+M.P.length,b:=b2 } { M with ph:=5,L:=layL M.P M.L }):=H1.out.trans h2;clear h2 hl2 hg2 c3;go_wp2_with fail;refine bodyPost_end (results_none rfl _ _ _) rfl ?_;refine ⟨_,rfl,H2.out.trans H2.out.1.noParked,?_⟩;show k.m+M.P.length≤k.m+100;omega
def finM (M:Mkt):List Fil×Mkt:=((if M.ph=5 then (uncM M).1 else []),{ (if M.ph=5 then (uncM M).2 else M) with L:=[],P:=[],ph:=7 })
def sM1 (w:World) (eb:Nat) (k:EgK) (M:Mkt) (u3:Value) (wc:World):Prop:=
 ∃k1:EgK,wc.ownsRow w.heap.size 115 4 u3 (finM M).1.length (fV (finM M).1)∧EgGo w wc eb k k1 (if M.ph=5 then (uncM M).2 else M)∧k1.m≤k.m+302
theorem nM1 {w wc:World} {eb:Nat} {k k1:EgK} {M:Mkt} {u3:Value} (h1:wc.ownsRow w.heap.size 115 4 u3 (finM M).1.length (fV (finM M).1)) (h2:EgGo w wc eb k k1 (if M.ph=5 then (uncM M).2 else M)) (h3:k1.m≤k.m+302):sM1 w eb k M u3 wc:=⟨k1,h1,h2,h3⟩
set_option maxRecDepth 4000 in
set_option maxHeartbeats 4000000 in
theorem lR1 (eb:Nat) (k:EgK) (M:Mkt) (w:World) (h:Eg w eb k M) (hla:1≤M.la∧M.la≤1000000) (hm:k.m≤700000):
  Calls Tryz.prog 62 #[.pointer (some ⟨eb,0,none⟩)] w fun e w'=>∃vf k',e=.returned vf∧w'.ownsRow w.heap.size 115 4 vf (finM M).1.length (fV (finM M).1)∧EgGo w w' eb k k' (finM M).2∧k'.m≤k.m+302:=by
 have c5:w.cell? ⟨eb,5,none⟩=some (.int .i64 M.ph):=aA0 (j:=5) h.box rfl;have H:Hid (Eg w eb k M):=h;clear h;go_enter Tryz.func62,Tryz.ntmps62;go_upto_if 8 with fail;go_cut [3] (fun u3 wc=>sM1 w eb k M u3 wc)
 case first=>
  by_cases h5:M.ph=5
  ·have HA:Hid (eE0 M.ph=true):=by show _=_;rw [h5];rfl
   have HE:Hid ((finM M).1=(uncM M).1∧(if M.ph=5 then (uncM M).2 else M)=(uncM M).2):=⟨by unfold finM;rw [if_pos h5],if_pos h5⟩;have e5:(M.ph == 5)=true:=beq_iff_eq.2 h5;clear h5;go_wp2_with fail;rw [e5];go_wp2_with fail;refine (vQ0 eb k M w H.out HA.out hla hm).mono ?_;rintro e w1 ⟨vf,k1,rfl,hr,hg,hk⟩;have HR:Hid _:=hr;have HG:Hid _:=hg;clear hr hg;go_wp2_with fail;go_meet;exact nM1 (k1:=k1) (by rw [HE.out.1];exact HR.out) (by rw [HE.out.2];exact HG.out) hk
  ·have HE:Hid ((finM M).1=[]∧(if M.ph=5 then (uncM M).2 else M)=M):=⟨by unfold finM;rw [if_neg h5],if_neg h5⟩;have e5:(M.ph == 5)=false:=beq_eq_false_iff_ne.2 h5;clear h5;go_wp2_with fail;go_meet;exact nM1 (k1:=k) (by rw [HE.out.1];exact World.ownsRow_nil _ _ _ _) (by rw [HE.out.2];exact EgGo.refl H.out) (Nat.le_add_right _ _)
 case rest=>
  obtain ⟨k1,hr,hg,hk⟩:=hcut;have HFM:Hid (finM M=((finM M).1,{ (if M.ph=5 then (uncM M).2 else M) with L:=[],P:=[],ph:=7 })):=rfl;generalize (if M.ph=5 then (uncM M).2 else M)=M1 at hg HFM;generalize (finM M).1=fs at hr HFM;have HR:Hid (wc.ownsRow w.heap.size 115 4 u3 fs.length (fV fs)):=hr;have HG:Hid (EgGo w wc eb k k1 M1):=hg;clear hr hg c5;go_wp2_with fail;refine (qY1 wc).mono ?_;rintro e w2 ⟨rfl,hbk,hb2⟩;have h2:=HG.out.1.ofNew hb2 hbk Lnk.start (fun j hj=>wG0 wc hj);have c2:w2.cell? ⟨eb,2,none⟩=some (.pointer (some ⟨k1.bb,0,none⟩)):=aA0 (j:=2) (HG.out.1.below hb2).box rfl;have f2:=aB0 (j:=2) (HG.out.1.below hb2).box;have h3:=h2.1.noParked;have c3:(w2.setCell ⟨eb,2,none⟩ (.pointer (some ⟨wc.heap.size+2,0,none⟩))).cell? ⟨eb,3,none⟩=some k1.vp:=aA0 (j:=3) h2.1.box rfl;have f3:=aB0 (j:=3) h2.1.box;have h23:=h2.trans h3;have H3:Hid (EgGo wc ((w2.setCell ⟨eb,2,none⟩ (.pointer (some ⟨wc.heap.size+2,0,none⟩))).setCell ⟨eb,3,none⟩ (.slice none 0 0)) eb k1 { k1 with bb:=wc.heap.size+2,b:=BkS.none_ wc.heap.size,vp:=.slice none 0 0 } { M1 with L:=[],P:=[] }):=h23;clear h23;have HR3:Hid _:=aI0 HR.out (h2.trans h3).2.1 (HG.out.1.farFills HR.out);clear hbk hb2 h2;go_upto_region 5 with fail;generalize (w2.setCell ⟨eb,2,none⟩ (.pointer (some ⟨wc.heap.size+2,0,none⟩))).setCell ⟨eb,3,none⟩ (.slice none 0 0)=w3 at h3 H3 HR3 ⊢;have c5:w3.cell? ⟨eb,5,none⟩=some (.int .i64 M1.ph):=aA0 (j:=5) h3.1.box rfl;have f5:=aB0 (j:=5) h3.1.box;have h4:=h3.1.write (j:=5) (u:=.int .i64 7) (M':={ M1 with L:=[],P:=[],ph:=7 }) rfl rfl rfl rfl rfl ⟨rfl,rfl,rfl,rfl⟩;have H4:Hid (EgGo w (w3.setCell ⟨eb,5,none⟩ (.int .i64 7)) eb k { k1 with bb:=wc.heap.size+2,b:=BkS.none_ wc.heap.size,vp:=.slice none 0 0 } { M1 with L:=[],P:=[],ph:=7 }):=(HG.out.trans H3.out).trans h4;have HR4:Hid _:=aI0 HR3.out h4.2.1 (H3.out.1.farFills HR3.out);clear h3 h4 c2 f2 c3 f3;go_wp2_with fail;go_ret;rw [HFM.out];exact ⟨u3,_,rfl,HR4.out,H4.out,hk⟩
def bO0 (w w':World) (eb:Nat) (k:EgK) (r:List Fil×Mkt) (vf:Value):Prop:=∃k',w'.ownsRow w.heap.size 115 4 vf r.1.length (fV r.1)∧EgGo w w' eb k k' r.2∧k'.m≤k.m+302
theorem bO0.mk' {w w':World} {eb:Nat} {k k':EgK} {r:List Fil×Mkt} {fs:List Fil} {M':Mkt} {vf:Value} (he:r=(fs,M')) (h1:w'.ownsRow w.heap.size 115 4 vf fs.length (fV fs)) (h2:EgGo w w' eb k k' M') (h3:k'.m≤k.m+302):bO0 w w' eb k r vf:=by
 subst he;exact ⟨k',h1,h2,h3⟩
theorem bO0.none_ {w w':World} {eb:Nat} {k k':EgK} {r:List Fil×Mkt} {M':Mkt} (he:r=([],M')) (h2:EgGo w w' eb k k' M') (h3:k'.m≤k.m+302):bO0 w w' eb k r (.slice none 0 0):=bO0.mk' he (World.ownsRow_nil _ _ _ _) h2 h3
theorem bO0.from_ {w w1 w2:World} {eb:Nat} {k:EgK} {M1:Mkt} {r:List Fil×Mkt} {vf:Value} (h:EgGo w w1 eb k k M1) (h1:bO0 w1 w2 eb k r vf):bO0 w w2 eb k r vf:=by
 obtain ⟨k',a,b,c⟩:=h1;exact ⟨k',bP0 a h.2.1.size,h.trans b,c⟩
def resM (M:Mkt):List Fil×Mkt:=((uncM M).1,{ (uncM M).2 with ph:=3 })
set_option maxRecDepth 4000 in
set_option maxHeartbeats 2000000 in
theorem sW0 (eb:Nat) (k:EgK) (M:Mkt) (w:World) (h:Eg w eb k M) (ha:eE0 M.ph=true) (hla:1≤M.la∧M.la≤1000000) (hm:k.m≤700000):
  Calls Tryz.prog 108 #[.pointer (some ⟨eb,0,none⟩)] w fun e w'=>∃vf,e=.returned vf∧bO0 w w' eb k (resM M) vf:=by
 have H:Hid (Eg w eb k M):=h;have HA:Hid (eE0 M.ph=true):=ha;have HRM:Hid (resM M=((uncM M).1,{ (uncM M).2 with ph:=3 })):=rfl;clear h ha;go_enter Tryz.func108,Tryz.ntmps108;go_wp2_with fail;refine (vQ0 eb k M w H.out HA.out hla hm).mono ?_;rintro e w1 ⟨vf,k1,rfl,hr,hg,hk⟩;generalize (uncM M).1=fs at hr HRM;generalize (uncM M).2=M1 at hg HRM;have c5:w1.cell? ⟨eb,5,none⟩=some (.int .i64 M1.ph):=aA0 (j:=5) hg.1.box rfl;have f5:=aB0 (j:=5) hg.1.box;have h2:=hg.1.write (j:=5) (u:=.int .i64 3) (M':={ M1 with ph:=3 }) rfl rfl rfl rfl rfl ⟨rfl,rfl,rfl,rfl⟩;have HR2:Hid _:=aI0 hr h2.2.1 (hg.1.farFills hr);have HG2:Hid (EgGo w (w1.setCell ⟨eb,5,none⟩ (.int .i64 3)) eb k k1 { M1 with ph:=3 }):=hg.trans h2;clear hr hg h2;go_wp2_with fail;go_ret;exact ⟨vf,rfl,bO0.mk' HRM.out HR2.out HG2.out hk⟩
def mZ0 (p:Int) (M:Mkt):List Fil×Mkt:=if p=3 then resM M else if p=5 then ([],iG0 M) else ([],{ M with ph:=p })
set_option maxRecDepth 4000 in
set_option maxHeartbeats 2000000 in
theorem sN1 (eb:Nat) (k:EgK) (M:Mkt) (p:Int) (w:World) (h:Eg w eb k M) (ha:p=3→eE0 M.ph=true) (hla:1≤M.la∧M.la≤1000000) (hP:M.P.length≤100) (hw:∀o∈M.P,(Lit.int .i64 o.id).wf=true) (hm:k.m≤700000):
  Calls Tryz.prog 63 #[.pointer (some ⟨eb,0,none⟩),.int .i64 p] w fun e w'=>∃vf,e=.returned vf∧bO0 w w' eb k (mZ0 p M) vf:=by
 have H:Hid (Eg w eb k M):=h;have HA:Hid (p=3→eE0 M.ph=true):=ha;have HW:Hid (∀o∈M.P,(Lit.int .i64 o.id).wf=true):=hw;have c5:w.cell? ⟨eb,5,none⟩=some (.int .i64 M.ph):=aA0 (j:=5) h.box rfl;have f5:=aB0 (j:=5) h.box;clear h ha hw
 by_cases h3:p=3
 ·have HT:Hid (mZ0 p M=resM M):=by show _=_;unfold mZ0;rw [if_pos h3]
  have HA3:Hid (eE0 M.ph=true):=HA.out h3;have e3:(p == 3)=true:=beq_iff_eq.2 h3;clear h3;go_enter Tryz.func63,Tryz.ntmps63;go_wp2_with fail;refine (sW0 eb k M w H.out HA3.out hla hm).mono ?_;rintro e w1 ⟨vf,rfl,ht⟩;have HTE:Hid _:=ht;clear ht;go_wp2_with fail;go_ret;exact ⟨vf,rfl,by rw [HT.out];exact HTE.out⟩
 ·have e3:(p == 3)=false:=beq_eq_false_iff_ne.2 h3
  by_cases h5:p=5
  ·have HT:Hid (mZ0 p M=([],iG0 M)):=by show _=_;unfold mZ0;rw [if_neg h3,if_pos h5]
   have e5:(p == 5)=true:=beq_iff_eq.2 h5;clear h3 h5;go_enter Tryz.func63,Tryz.ntmps63;go_wp2_with fail;refine (hM1 eb k M w H.out hP HW.out hm).mono ?_;rintro e w1 ⟨k1,rfl,hg,hk⟩;have HG:Hid _:=hg;clear hg;go_wp2_with fail;go_ret;exact ⟨_,rfl,bO0.none_ HT.out HG.out (Nat.le_trans hk (by omega))⟩
  ·have HT:Hid (mZ0 p M=([],{ M with ph:=p })):=by show _=_;unfold mZ0;rw [if_neg h3,if_neg h5]
   have e5:(p == 5)=false:=beq_eq_false_iff_ne.2 h5;clear h3 h5;go_enter Tryz.func63,Tryz.ntmps63;go_wp2_with fail;go_ret;exact ⟨_,rfl,bO0.none_ HT.out (H.out.write (j:=5) (u:=.int .i64 p) (M':={ M with ph:=p }) rfl rfl rfl rfl rfl ⟨rfl,rfl,rfl,rfl⟩) (Nat.le_add_right _ _)⟩
def setM (M:Mkt):List Fil×Mkt:=if (aH0 M).qty=0∨dY0 M.st M.an (aH0 M).price=true then resM M else if M.lo<M.mo then ([],{ M with lo:=M.lo+1,en:=M.now+M.ti }) else ([],{ M with ph:=6 })
set_option maxRecDepth 4000 in
set_option maxHeartbeats 4000000 in
theorem lS1 (eb:Nat) (k:EgK) (M:Mkt) (w:World) (h:Eg w eb k M) (ha:eE0 M.ph=true) (hla:1≤M.la∧M.la≤1000000) (hn:0≤M.now∧M.now≤1000000000000) (ht:0≤M.ti∧M.ti≤1000000000000) (hlo:0≤M.lo∧M.lo≤1000000) (hm:k.m≤700000):
  Calls Tryz.prog 64 #[.pointer (some ⟨eb,0,none⟩)] w fun e w'=>∃vf,e=.returned vf∧bO0 w w' eb k (setM M) vf:=by
 have H:Hid (Eg w eb k M):=h;have HA:Hid (eE0 M.ph=true):=ha;have HQE:Hid (gQ0 M=aH0 M):=by show _=_;unfold gQ0;rw [if_pos ha]
 have wr1:IntKind.i64.wrap (M.now+M.ti)=M.now+M.ti:=IntWalk.i64_in _ (by omega);clear h ha;go_enter Tryz.func64,Tryz.ntmps64;go_wp2_with fail;refine (yF0 eb k M w H.out hla).mono ?_;rintro e w1 ⟨rfl,hb1⟩;rw [HQE.out];unfold lL1;have H1:Hid (Eg w1 eb k M):=H.out.below hb1;have HB1:Hid (Below w.heap.size w w1):=hb1;clear hb1;go_upto_region 3 with fail;have hx:=heap_alloc_new w1 (.cells #[.int .i64 (aH0 M).price,.int .i64 (aH0 M).qty,.int .i64 (aH0 M).sur] 69);have hb2:=bel1 w1 (.cells #[.int .i64 (aH0 M).price,.int .i64 (aH0 M).qty,.int .i64 (aH0 M).sur] 69);generalize w1.alloc (.cells #[.int .i64 (aH0 M).price,.int .i64 (aH0 M).qty,.int .i64 (aH0 M).sur] 69)=w2 at hx hb2 ⊢;have H2:Hid (Eg w2 eb k M):=H1.out.below hb2;have HB2:Hid (Below w.heap.size w w2):=aD0 HB1.out hb2;have x0:=cell_regrown (aA0 (j:=0) (v:=.int .i64 (aH0 M).price) hx rfl);have x1:=cell_regrown (aA0 (j:=1) (v:=.int .i64 (aH0 M).qty) hx rfl);have k1:=cell_regrown (aA0 (j:=1) (v:=.pointer (some ⟨k.nb,0,none⟩)) H2.out.box rfl);have cC:∀dq os,Calls Tryz.prog 109 #[.pointer (some ⟨k.nb,0,none⟩),.int .i64 (aH0 M).price] (Go.Sort.grow (redrawn w2 dq) os) fun e w''=>e=.returned (.bool (dY0 M.st M.an (aH0 M).price))∧∃p:Regrown,w''=Go.Sort.grow (redrawn w2 p.d) p.os:=fun dq os=>Calls.regrown_of (rE1 k.nb M.st M.dy M.an M.la (aH0 M).price _ (H2.out.bn.below (below_regrown w2 dq os)))
 clear hx hb2 H1 HB1;have HSM:Hid (setM M=if (aH0 M).qty=0∨dY0 M.st M.an (aH0 M).price=true then resM M else if M.lo<M.mo then ([],{ M with lo:=M.lo+1,en:=M.now+M.ti }) else ([],{ M with ph:=6 })):=rfl;generalize dY0 M.st M.an (aH0 M).price=cb at cC HSM;generalize (aH0 M).price=pp at x0 cC;generalize (aH0 M).qty=qq at x1 HSM
 by_cases hq:qq=0
 ·have eq:(qq == 0)=true:=beq_iff_eq.2 hq;have HS2:Hid (setM M=resM M):=by show _=_;rw [HSM.out,if_pos (Or.inl hq)]
  clear hq HSM;refine wp_region_quiet_below (by kernel_rfl) (by kernel_rfl) ?_
  repeat (go_big_quiet_step (exact cC _ _))
  refine wpQuiet_nil ?_;intro _ hw';obtain ⟨⟨dq,osq⟩,hw''⟩:=hw';subst hw'';have H3:Hid (Eg (Go.Sort.grow (redrawn w2 dq) osq) eb k M):=H2.out.below (below_regrown w2 dq osq);have HB3:Hid (Below w.heap.size w (Go.Sort.grow (redrawn w2 dq) osq)):=aD0 HB2.out (below_regrown w2 dq osq);generalize Go.Sort.grow (redrawn w2 dq) osq=w3 at H3 HB3 ⊢;clear x0 x1 k1 cC;go_wp2_with fail;refine (sW0 eb k M w3 H3.out HA.out hla hm).mono ?_;rintro e w4 ⟨vf,rfl,ht⟩;have HTE:Hid _:=ht;clear ht;go_wp2_with fail;go_ret;exact ⟨vf,rfl,by rw [HS2.out];exact bO0.from_ (EgGo.stay H.out HB3.out) HTE.out⟩
 ·have eq:(qq == 0)=false:=beq_eq_false_iff_ne.2 hq;refine wp_region_quiet_below (by kernel_rfl) (by kernel_rfl) ?_
  repeat (go_big_quiet_step (exact cC _ _))
  refine wpQuiet_nil ?_;intro _ hw';obtain ⟨⟨dq,osq⟩,hw''⟩:=hw';subst hw'';have H3:Hid (Eg (Go.Sort.grow (redrawn w2 dq) osq) eb k M):=H2.out.below (below_regrown w2 dq osq);have HB3:Hid (Below w.heap.size w (Go.Sort.grow (redrawn w2 dq) osq)):=aD0 HB2.out (below_regrown w2 dq osq);generalize Go.Sort.grow (redrawn w2 dq) osq=w3 at H3 HB3 ⊢;clear x0 x1 k1 cC H2 HB2;cases cb with
  | true=>
   have HS2:Hid (setM M=resM M):=by show _=_;rw [HSM.out,if_pos (Or.inr rfl)]
   clear HSM hq;go_wp2_with fail;refine (sW0 eb k M w3 H3.out HA.out hla hm).mono ?_;rintro e w4 ⟨vf,rfl,ht⟩;have HTE:Hid _:=ht;clear ht;go_wp2_with fail;go_ret;exact ⟨vf,rfl,by rw [HS2.out];exact bO0.from_ (EgGo.stay H.out HB3.out) HTE.out⟩
  | false=>
   have HS2:Hid (setM M=if M.lo<M.mo then ([],{ M with lo:=M.lo+1,en:=M.now+M.ti }) else ([],{ M with ph:=6 })):=by show _=_;rw [HSM.out,if_neg (by rintro (e | e);exact hq e;cases e)]
   clear HSM hq;go_upto_region 5 with fail;have c10:=cell_regrown (aA0 (j:=10) (v:=.int .i64 M.lo) H3.out.box rfl);have c8:=cell_regrown (aA0 (j:=8) (v:=.int .i64 M.mo) H3.out.box rfl);refine wp_region_quiet_below (by kernel_rfl) (by kernel_rfl) ?_
   repeat (go_big_quiet_step (fail))
   refine wpQuiet_nil ?_;intro _ hw';obtain ⟨⟨dq2,osq2⟩,hw''⟩:=hw';subst hw'';have H4:Hid (EgGo w (Go.Sort.grow (redrawn w3 dq2) osq2) eb k k M):=(EgGo.stay H.out HB3.out).bel (below_regrown w3 dq2 osq2);generalize Go.Sort.grow (redrawn w3 dq2) osq2=w4 at H4 ⊢;clear c10 c8 H3 HB3;have d10:w4.cell? ⟨eb,10,none⟩=some (.int .i64 M.lo):=aA0 (j:=10) H4.out.1.box rfl;have f10:=aB0 (j:=10) H4.out.1.box;have d5:w4.cell? ⟨eb,5,none⟩=some (.int .i64 M.ph):=aA0 (j:=5) H4.out.1.box rfl;have f5:=aB0 (j:=5) H4.out.1.box
   by_cases hl:M.lo<M.mo
   ·have HS3:Hid (setM M=([],{ M with lo:=M.lo+1,en:=M.now+M.ti })):=by show _=_;rw [HS2.out,if_pos hl]
    go_upto_region 7 with fail;have h5:=H4.out.1.write (j:=10) (u:=.int .i64 (M.lo+1)) (M':={ M with lo:=M.lo+1 }) rfl rfl rfl rfl rfl ⟨rfl,rfl,rfl,rfl⟩;generalize w4.setCell ⟨eb,10,none⟩ (.int .i64 (M.lo+1))=w5 at h5 ⊢;have e6:w5.cell? ⟨eb,6,none⟩=some (.int .i64 M.now):=aA0 (j:=6) h5.1.box rfl;have e7:w5.cell? ⟨eb,7,none⟩=some (.int .i64 M.ti):=aA0 (j:=7) h5.1.box rfl;have e9:w5.cell? ⟨eb,9,none⟩=some (.int .i64 M.en):=aA0 (j:=9) h5.1.box rfl;have g9:=aB0 (j:=9) h5.1.box;have H5:Hid (EgGo w w5 eb k k { M with lo:=M.lo+1 }):=H4.out.trans h5;clear h5 d10 f10 d5 f5;go_region
    all_goals go_wp2_with fail
    all_goals go_ret
    all_goals exact ⟨_,rfl,bO0.none_ HS3.out ((H5.out.bel (Below.refl _ _).drew).trans (H5.out.1.drew.write (j:=9) (u:=.int .i64 (M.now+M.ti)) (M':={ M with lo:=M.lo+1,en:=M.now+M.ti }) rfl rfl rfl rfl rfl ⟨rfl,rfl,rfl,rfl⟩)) (Nat.le_add_right _ _)⟩
   ·have HS3:Hid (setM M=([],{ M with ph:=6 })):=by show _=_;rw [HS2.out,if_neg hl]
    go_wp2_with fail;go_ret;exact ⟨_,rfl,bO0.none_ HS3.out (H4.out.trans (H4.out.1.write (j:=5) (u:=.int .i64 6) (M':={ M with ph:=6 }) rfl rfl rfl rfl rfl ⟨rfl,rfl,rfl,rfl⟩)) (Nat.le_add_right _ _)⟩
theorem sX0 (was is:Int) (m:Mkt):jT0 was is m=if is=7 then finM m else if m.ph=6 then ([],m) else if is≠was then mZ0 is m else if m.ph=4∧m.en≤m.now then setM m else ([],m):=by
 unfold jT0
 by_cases h7:is=7
 ·rw [if_pos h7,if_pos h7];rfl
 ·rw [if_neg h7,if_neg h7]
  by_cases h6:m.ph=6
  ·rw [if_pos h6,if_pos h6]
  ·rw [if_neg h6,if_neg h6]
   by_cases hw:is=was
   ·have a1:¬(was≠is∧is=3):=fun e=>e.1 hw.symm
    have a2:¬(was≠is∧is=5):=fun e=>e.1 hw.symm
    have a3:¬(was≠is):=fun e=>e hw.symm
    have a4:¬(is≠was):=fun e=>e hw
    rw [if_neg a1,if_neg a2,if_neg a3,if_neg a4];rfl
   ·have hw':was≠is:=fun e=>hw e.symm
    rw [if_pos (show is≠was from hw)];unfold mZ0
    by_cases h3:is=3
    ·rw [if_pos ⟨hw',h3⟩,if_pos h3,h3];rfl
    ·rw [if_neg (fun e=>h3 e.2),if_neg h3]
     by_cases h5:is=5
     ·rw [if_pos ⟨hw',h5⟩,if_pos h5]
     ·rw [if_neg (fun e=>h5 e.2),if_neg h5,if_pos hw']
structure MNum (M:Mkt):Prop where
 la:1≤M.la∧M.la≤1000000
 pk:M.P.length≤100
 wf:∀o∈M.P,(Lit.int .i64 o.id).wf=true
 now:0≤M.now∧M.now≤1000000000
 ti:0≤M.ti∧M.ti≤1000000000
 lo:0≤M.lo∧M.lo≤1000000
 rs:0<M.rs.length∧M.rs.length≤60
set_option maxRecDepth 4000 in
set_option maxHeartbeats 4000000 in
theorem sO1 (eb:Nat) (k:EgK) (M:Mkt) (w:World) (h:Eg w eb k M) (hN:MNum M) (h3:(phaseV M.rs (M.now+1)).1=3→(phaseV M.rs M.now).1≠3→M.ph≠6→eE0 M.ph=true) (hm:k.m≤700000):
  Calls Tryz.prog 16 #[.pointer (some ⟨eb,0,none⟩)] w fun e w'=>∃vf err,e=.returned (.tuple #[vf,err])∧ErrE err (mF0 M)∧bO0 w w' eb k (cL0 M) vf:=by
 have c5:w.cell? ⟨eb,5,none⟩=some (.int .i64 M.ph):=aA0 (j:=5) h.box rfl;have H:Hid (Eg w eb k M):=h;have HN:Hid (MNum M):=hN;have H3:Hid ((phaseV M.rs (M.now+1)).1=3→(phaseV M.rs M.now).1≠3→M.ph≠6→eE0 M.ph=true):=h3;have hn1:=hN.now;clear h hN h3
 by_cases h7:M.ph=7
 ·have HT:Hid (mF0 M=6∧cL0 M=([],M)):=⟨by unfold mF0;rw [if_pos h7],by unfold cL0;rw [if_pos h7]⟩;have e7:(M.ph == 7)=true:=beq_iff_eq.2 h7;clear h7;go_enter Tryz.func16,Tryz.ntmps16;go_wp2_with fail;go_ret2;exact ⟨_,_,rfl,ErrE.no 6 HT.out.1 (by decide),bO0.none_ HT.out.2 (EgGo.refl H.out) (Nat.le_add_right _ _)⟩
 ·have HT:Hid (mF0 M=0∧cL0 M=jT0 (phaseV M.rs M.now).1 (phaseV M.rs (M.now+1)).1 { M with now:=M.now+1 }):=⟨by unfold mF0;rw [if_neg h7],by unfold cL0;rw [if_neg h7]⟩;have e7:(M.ph == 7)=false:=beq_eq_false_iff_ne.2 h7;clear h7;go_enter Tryz.func16,Tryz.ntmps16;go_wp2_with fail;refine (pO0 eb k M w H.out HN.out.rs).mono ?_;rintro e w1 ⟨rfl,hb1⟩;have h1:=H.out.below hb1;have c6:w1.cell? ⟨eb,6,none⟩=some (.int .i64 M.now):=aA0 (j:=6) h1.box rfl;have f6:=aB0 (j:=6) h1.box;have h2:=h1.write (j:=6) (u:=.int .i64 (M.now+1)) (M':={ M with now:=M.now+1 }) rfl rfl rfl rfl rfl ⟨rfl,rfl,rfl,rfl⟩;have H2:Hid (EgGo w (w1.setCell ⟨eb,6,none⟩ (.int .i64 (M.now+1))) eb k k { M with now:=M.now+1 }):=(EgGo.stay H.out hb1).trans h2;clear hb1 h1 h2 c5;go_wp2_with fail;generalize w1.setCell ⟨eb,6,none⟩ (.int .i64 (M.now+1))=w2 at H2 ⊢;clear c6 f6;refine (pO0 eb k { M with now:=M.now+1 } w2 H2.out.1 HN.out.rs).mono ?_;rintro e w3 ⟨rfl,hb3⟩;have HG3:Hid (EgGo w w3 eb k k { M with now:=M.now+1 }):=H2.out.bel hb3;have c5:w3.cell? ⟨eb,5,none⟩=some (.int .i64 M.ph):=aA0 (j:=5) HG3.out.1.box rfl;clear hb3 H2;rw [show (phaseV ({ M with now:=M.now+1 }:Mkt).rs ({ M with now:=M.now+1 }:Mkt).now).1=(phaseV M.rs (M.now+1)).1 from rfl];generalize (phaseV M.rs (M.now+1)).1=is at HT H3;generalize (phaseV M.rs M.now).1=was at HT H3;rw [sX0] at HT
  by_cases hi7:is=7
  ·have HT2:Hid (cL0 M=finM { M with now:=M.now+1 }):=by show _=_;rw [HT.out.2,if_pos hi7]
   have b7:(is == 7)=true:=beq_iff_eq.2 hi7;clear hi7 H3;go_wp2_with fail;refine (lR1 eb k { M with now:=M.now+1 } w3 HG3.out.1 HN.out.la hm).mono ?_;rintro e w4 ⟨vf,k4,rfl,hr,hg,hk⟩;have HTE:Hid (bO0 w3 w4 eb k (finM { M with now:=M.now+1 }) vf):=⟨k4,hr,hg,hk⟩;clear hr hg hk;go_wp2_with fail;go_ret2;exact ⟨_,_,rfl,ErrE.yes HT.out.1,by rw [HT2.out];exact bO0.from_ HG3.out HTE.out⟩
  ·have b7:(is == 7)=false:=beq_eq_false_iff_ne.2 hi7
   by_cases h6:M.ph=6
   ·have HT2:Hid (cL0 M=([],{ M with now:=M.now+1 })):=by show _=_;rw [HT.out.2,if_neg hi7,if_pos h6]
    have b6:(M.ph == 6)=true:=beq_iff_eq.2 h6;clear hi7 h6 H3;go_wp2_with fail;go_ret2;exact ⟨_,_,rfl,ErrE.yes HT.out.1,bO0.none_ HT2.out HG3.out (Nat.le_add_right _ _)⟩
   ·have b6:(M.ph == 6)=false:=beq_eq_false_iff_ne.2 h6
    by_cases hw:is=was
    ·have HT2:Hid (cL0 M=if M.ph=4∧M.en≤M.now+1 then setM { M with now:=M.now+1 } else ([],{ M with now:=M.now+1 })):=by show _=_;rw [HT.out.2,if_neg hi7,if_neg h6,if_neg (fun e=>e hw)]
     have bw:(is != was)=false:=by simp [hw]
     clear hi7 h6 hw H3;go_upto_region 12 with fail;have k5:=cell_regrown (aA0 (j:=5) (v:=.int .i64 M.ph) HG3.out.1.box rfl);have k6:=cell_regrown (aA0 (j:=6) (v:=.int .i64 (M.now+1)) HG3.out.1.box rfl);have k9:=cell_regrown (aA0 (j:=9) (v:=.int .i64 M.en) HG3.out.1.box rfl)
     by_cases h4:M.ph=4
     ·have b4:(M.ph == 4)=true:=beq_iff_eq.2 h4;have HA4:Hid (eE0 M.ph=true):=by show _=_;rw [h4];rfl
      refine wp_region_quiet_below (by kernel_rfl) (by kernel_rfl) ?_
      repeat (go_big_quiet_step (fail))
      refine wpQuiet_nil ?_;intro _ hw';obtain ⟨⟨dq,osq⟩,hw''⟩:=hw';subst hw'';have HG4:Hid (EgGo w (Go.Sort.grow (redrawn w3 dq) osq) eb k k { M with now:=M.now+1 }):=HG3.out.bel (below_regrown w3 dq osq);generalize Go.Sort.grow (redrawn w3 dq) osq=w4 at HG4 ⊢;clear k5 k6 k9 c5 HG3
      by_cases he:M.en≤M.now+1
      ·have HT3:Hid (cL0 M=setM { M with now:=M.now+1 }):=by show _=_;rw [HT2.out,if_pos ⟨h4,he⟩]
       clear h4 HT2;go_wp2_with fail;refine (lS1 eb k { M with now:=M.now+1 } w4 HG4.out.1 HA4.out HN.out.la (by show 0≤M.now+1∧M.now+1≤1000000000000;omega) (by show 0≤M.ti∧M.ti≤1000000000000;have:=HN.out.ti;omega) HN.out.lo hm).mono ?_;rintro e w5 ⟨vf,rfl,ht⟩;have HTE:Hid _:=ht;clear ht;go_wp2_with fail;go_ret2;exact ⟨_,_,rfl,ErrE.yes HT.out.1,by rw [HT3.out];exact bO0.from_ HG4.out HTE.out⟩
      ·have HT3:Hid (cL0 M=([],{ M with now:=M.now+1 })):=by show _=_;rw [HT2.out,if_neg (fun e=>he e.2)]
       clear h4 HT2;go_wp2_with fail;go_ret2;exact ⟨_,_,rfl,ErrE.yes HT.out.1,bO0.none_ HT3.out HG4.out (Nat.le_add_right _ _)⟩
     ·have b4:(M.ph == 4)=false:=beq_eq_false_iff_ne.2 h4;have HT3:Hid (cL0 M=([],{ M with now:=M.now+1 })):=by show _=_;rw [HT2.out,if_neg (fun e=>h4 e.1)]
      clear h4 HT2;refine wp_region_quiet_below (by kernel_rfl) (by kernel_rfl) ?_
      repeat (go_big_quiet_step (fail))
      refine wpQuiet_nil ?_;intro _ hw';obtain ⟨⟨dq,osq⟩,hw''⟩:=hw';subst hw'';have HG4:Hid (EgGo w (Go.Sort.grow (redrawn w3 dq) osq) eb k k { M with now:=M.now+1 }):=HG3.out.bel (below_regrown w3 dq osq);generalize Go.Sort.grow (redrawn w3 dq) osq=w4 at HG4 ⊢;clear k5 k6 k9 c5 HG3;go_wp2_with fail;go_ret2;exact ⟨_,_,rfl,ErrE.yes HT.out.1,bO0.none_ HT3.out HG4.out (Nat.le_add_right _ _)⟩
    ·have HT2:Hid (cL0 M=mZ0 is { M with now:=M.now+1 }):=by show _=_;rw [HT.out.2,if_neg hi7,if_neg h6,if_pos hw]
     have HA3:Hid (is=3→eE0 M.ph=true):=fun e=>H3.out e (fun e2=>hw (e.trans e2.symm)) h6
     have bw:(is != was)=true:=by simpa using hw
     clear hi7 h6 hw H3;go_wp2_with fail;refine (sN1 eb k { M with now:=M.now+1 } is w3 HG3.out.1 HA3.out HN.out.la HN.out.pk HN.out.wf hm).mono ?_;rintro e w4 ⟨vf,rfl,ht⟩;have HTE:Hid _:=ht;clear ht;go_wp2_with fail;go_ret2;exact ⟨_,_,rfl,ErrE.yes HT.out.1,by rw [HT2.out];exact bO0.from_ HG3.out HTE.out⟩
set_option maxRecDepth 4000 in
set_option maxHeartbeats 4000000 in
theorem sP1 (eb:Nat) (k:EgK) (M:Mkt) (w:World) (h:Eg w eb k M) (hN:MNum M) (hm:k.m≤700000):
  Calls Tryz.prog 19 #[.pointer (some ⟨eb,0,none⟩)] w fun e w'=>∃err k',e=.returned err∧ErrE err (iZ0 M)∧EgGo w w' eb k k' (dZ0 M)∧k'.m≤k.m+302:=by
 have c5:w.cell? ⟨eb,5,none⟩=some (.int .i64 M.ph):=aA0 (j:=5) h.box rfl;have H:Hid (Eg w eb k M):=h;have HN:Hid (MNum M):=hN;clear h hN
 by_cases h6:M.ph=6
 ·have n6:(M.ph != 6)=false:=by simp [h6]
  have HO:Hid (iZ0 M=0∧dZ0 M=if (phaseV M.rs M.now).1=3 then volM M else if (phaseV M.rs M.now).1=5 then iG0 M else { M with ph:=(phaseV M.rs M.now).1 }):=⟨by unfold iZ0;rw [if_pos h6],by unfold dZ0;rw [if_pos h6]⟩;clear h6;go_enter Tryz.func19,Tryz.ntmps19;go_wp2_with fail;refine (pO0 eb k M w H.out HN.out.rs).mono ?_;rintro e w1 ⟨rfl,hb1⟩;have H1:Hid (EgGo w w1 eb k k M):=EgGo.stay H.out hb1;clear hb1 c5;generalize (phaseV M.rs M.now).1=p at HO
  by_cases h3:p=3
  ·have HO2:Hid (dZ0 M=volM M):=by show _=_;rw [HO.out.2,if_pos h3]
   have b3:(p == 3)=true:=beq_iff_eq.2 h3;clear h3;go_wp2_with fail;refine (nM0 eb k M w1 H1.out.1 (by have:=HN.out.now;omega) (by have:=HN.out.ti;omega)).mono ?_;rintro e w2 ⟨rfl,h2⟩;have H2:Hid (EgGo w w2 eb k k (volM M)):=H1.out.trans h2;clear h2;go_wp2_with fail;go_ret;exact ⟨_,k,rfl,ErrE.yes HO.out.1,by rw [HO2.out];exact H2.out,Nat.le_add_right _ _⟩
  ·have b3:(p == 3)=false:=beq_eq_false_iff_ne.2 h3
   by_cases h5:p=5
   ·have HO2:Hid (dZ0 M=iG0 M):=by show _=_;rw [HO.out.2,if_neg h3,if_pos h5]
    have b5:(p == 5)=true:=beq_iff_eq.2 h5;clear h3 h5;go_wp2_with fail;refine (hM1 eb k M w1 H1.out.1 HN.out.pk HN.out.wf hm).mono ?_;rintro e w2 ⟨k2,rfl,h2,hk⟩;have H2:Hid (EgGo w w2 eb k k2 (iG0 M)):=H1.out.trans h2;clear h2;go_wp2_with fail;go_ret;exact ⟨_,k2,rfl,ErrE.yes HO.out.1,by rw [HO2.out];exact H2.out,Nat.le_trans hk (by omega)⟩
   ·have HO2:Hid (dZ0 M={ M with ph:=p }):=by show _=_;rw [HO.out.2,if_neg h3,if_neg h5]
    have b5:(p == 5)=false:=beq_eq_false_iff_ne.2 h5;have d5:w1.cell? ⟨eb,5,none⟩=some (.int .i64 M.ph):=aA0 (j:=5) H1.out.1.box rfl;have f5:=aB0 (j:=5) H1.out.1.box;clear h3 h5;go_wp2_with fail;go_ret;exact ⟨_,k,rfl,ErrE.yes HO.out.1,by rw [HO2.out];exact H1.out.trans (H1.out.1.write (j:=5) (u:=.int .i64 p) (M':={ M with ph:=p }) rfl rfl rfl rfl rfl ⟨rfl,rfl,rfl,rfl⟩),Nat.le_add_right _ _⟩
 ·have n6:(M.ph != 6)=true:=by simpa using h6
  have HO:Hid (iZ0 M=6∧dZ0 M=M):=⟨by unfold iZ0;rw [if_neg h6],by unfold dZ0;rw [if_neg h6]⟩;clear h6;go_enter Tryz.func19,Tryz.ntmps19;go_wp2_with fail;go_ret;exact ⟨_,k,rfl,ErrE.no 6 HO.out.1 (by decide),by rw [HO.out.2];exact EgGo.refl H.out,Nat.le_add_right _ _⟩
end Go.Proofs.YtjdkagafdnchhaaGreatDoor
