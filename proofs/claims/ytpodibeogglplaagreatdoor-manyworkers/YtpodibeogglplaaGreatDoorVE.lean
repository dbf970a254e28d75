/- ManyWorkers -/
import Derived.Test.YtpodibeogglplaaGreatDoorVD
import Derived.Sort.OwnSortedInts
import Derived.Deep.Onto
open Go.RowKit Go.Shelf
open Go.Value renaming int->U, pointer->E, slice->J
open Go.IntKind renaming i64->G
open Go.Obj renaming cells->R
open Go.Ending renaming returned->Y
open Go.Proofs.Tryz
open Bool renaming true->G_, false->E_, false_or->XU
open Go renaming TypeId->RZ, Value->D_, World->C_, Calls->Sj, heap_alloc_new->RU, wpList_append_own_at->Xy, Addr->J_, cell_regrown->TJ, redrawn->Vl, Regrown->V_, below_regrown->Uh, wp_region_quiet_below->TU, results_none->ZP, lt_of_block->SK, callFunc->YK, bodyPost_ret->UA
open Go.Calls renaming regrown_of->VA
open Go.Lit renaming int->Tv
open Go.Proofs.YtpodibeogglplaaGreatDoor.Out renaming refl->Tz, of_below->Sz
open Go.RowKit renaming Below->Sd
open Go.RowKit.Below renaming refl->RS, drew->Um, alloc->TR
open Go.Sort renaming grow->Tg
open Go.Value renaming slice->f_, oneCell'->Vk, ownBlock->Uf
open Go.World renaming ownsRow_nil->Uo, news_of_block->UL, block_lt_of_cell?->SN, cell?->SS
open List renaming length_append->Sl, length_singleton->TG, mem_cons_self->SG
open Nat renaming lt_of_lt_of_le->Sn, le_trans->RV, zero_le->Sv, le_add_right->Tk
open Option renaming some->A_, none->B_
open Or renaming inr->RN, inl->RP
set_option linter.all false
set_option maxHeartbeats 8000000
set_option maxRecDepth 100000
namespace Go.Proofs.YtpodibeogglplaaGreatDoor
def aDe:(prog.info? 164).map (λi=>(i.zero,i.size,i.bytes))=A_ (A_ (.agg #[U G 0,U G 0,U G 0,U G 0]),4,32):=k7
variable {bb m c n:Nat} {e:RZ} {b:aU} {v:D_} {xs:List D_} {W':C_} {b':aU} {L:List Ord} {vf:D_} {m':Nat} {b2:aU} {L':List Ord} {obj:Obj} {v':D_} {f:dx} {x:Ord} {mb:Nat} {I:List Int} {S:Nat->Prop} {eb j:Nat} {w1 w2:C_} {l:List Ord} {a i:Nat} {b1:aU} {o:Ord} {ob rb B:Nat} {vx:D_} {s:MS} {St:C_->List Int->(Nat->Prop)->Prop} {D0:Nat->Prop} {lb:Nat}
def Bk.wI{w:C_}{size:Nat}(h:Bk w bb m b)(a:w.ownsRow c e size v n xs)(h1:e≠199)(h2:e≠246)(h3:e≠266)(g:e≠3)(d:e≠206):∀k,v.ownBlock=A_ k->¬b.foot bb k:=λk hk f=>by
 rcases f with f|f|f|f|f
 ·exact bM a h.at_.box h1.symm (by rw[hk,f])
 ·rcases f with f|f|f
  ·exact bM a h.at_.ar.box h2.symm (by rw[hk,f])
  ·exact nX a h.at_.ar.slots h3 hk f
  ·exact nX a h.at_.ar.free g hk f
 ·exact vo a h.at_.map (by rw[hk,f])
 ·exact nX a h.at_.row0 d hk f
 ·exact nX a h.at_.kr d hk f
def Bk.kL{w:C_}{k:Nat}{vs:Array D_}{t:RZ}(h:Bk w bb m b)(hk:eB w k vs t)(h1:t≠199)(h2:t≠246)(h3:t≠266)(c:t≠3)(a:t≠206):¬b.foot bb k:=λe=>by
 rcases e with e|e|e|e|e
 ·exact kY hk h.at_.box h1 e
 ·rcases e with e|e|e
  ·exact kY hk h.at_.ar.box h2 e
  ·exact bM h.at_.ar.slots hk h3 e
  ·exact bM h.at_.ar.free hk c e
 ·exact h.at_.map.ne hk e
 ·exact bM h.at_.row0 hk a e
 ·exact bM h.at_.kr hk a e
def bJg(bb m:Nat)(b:aU)(L:List Ord)(p q:Int)(w:C_)(h:Bk w bb m b)(s:bD b.S L)(k:dZ L)(t:¬(1<=q/\q<=min (dw 1 p L) (dw 2 p L))):
  Sj prog 195 #[E (A_ ⟨bb,0,B_⟩),U G p,U G q] w λe w'=>e=Y (.tuple #[J B_ 0 0,.iface 30 (U G 2)])/\bW w w':=by
 have H:=ah h;have r:=ah s;have o:=ah k;clear h s k;go_enter func195,ntmps195;go_wp2_with fail;refine(KN p w).mono ?_;rintro e w1 ⟨rfl,rfl⟩;have c:=aM w (R #[U G p] 3);have f:=RU w (R #[U G p] 3);generalize w.alloc (R #[U G p] 3)=w1 at c f⊢;have a:=ah c;have i:Hid _:=f;clear c f
 by_cases v:q<1
 ·go_wp2_with fail;go_ret2;exact⟨rfl,a⟩
 ·have u:decide (q>min (dw 1 p L) (dw 2 p L))=G_:=RI o7;go_wp2_with fail;refine(FN bb m 0 b L p w.heap.size w1 (H.below a au) r o d7 1 rfl i).mono ?_;rintro e w2 ⟨rfl,d⟩;have g:=ah (aJ a d);have n:Hid _:=aL i d au;clear d;go_wp2_with fail;refine(FN bb m 1 b L p w.heap.size w2 (H.below g au) r o d7 2 rfl n).mono ?_;rintro e w3 ⟨rfl,j⟩;have l:=ah (aJ g j);clear j;go_wp2_with fail;go_ret2;exact⟨rfl,l⟩
def Cz(w:C_)(b:Nat)(f:dx):Prop:=w.heap[b]? = A_ (R #[U G f.iC,U G f.iK,U G f.price,U G f.ak] 164 (0,0))
structure oH(w W:C_)(bb m:Nat)(b b':aU)(L:List Ord)(fs:List dx)(vf:D_):Prop where
 bk:Bk W bb m b'
 bU:bD b'.S L
 since:sU w W bb b b'
 gI:W.ownsRow w.heap.size 164 4 vf fs.length (fV fs)
variable {fs:List dx}
def oH.below{w W:C_}(h:oH w W bb m b b' L fs vf)(a:bW W W'):oH w W' bb m b b' L fs vf:=⟨h.bk.below a au,h.bU,h.since.below a,jw h.gI a au⟩
def oH.goes{w W:C_}(h:oH w W bb m b b' L fs vf)(a:Goes W W' bb m' b' b2)(c:bD b2.S L'):oH w W' bb m' b b2 L' fs vf:=
 ⟨a.1,c,h.since.goes a,cu h.gI a.2.1 (h.bk.wI h.gI d7 d7 d7 d7 d7)⟩
def oH.pushed{w W:C_}(_:oH w W bb m b b' L fs vf)(a:(W.alloc obj).grownBy W' vf.ownBlock):Out (λj=>vf.ownBlock=A_ j) W W':=iU (ug (Tz _ _) _) (Out.uf a (λ_ hk=>hk))
def oH.push{w W:C_}(h:oH w W bb m b b' L fs vf)(c:(W.alloc obj).grownBy W' vf.ownBlock)(hn:W'.ownsRow w.heap.size 164 4 v' (fs.length+1) (fV fs++[U G f.iC,U G f.iK,U G f.price,U G f.ak])):oH w W' bb m b b' L (fs++[f]) v':=by
 have a:=h.pushed c;refine⟨h.bk.out a (λk hk e=>h.bk.wI h.gI d7 d7 d7 d7 d7 k e hk),h.bU,⟨h.since.1.trans a (λk hk=>RN (h.gI.lt k hk).1),h.since.2⟩,?_⟩;rw[aBv,Sl,TG];exact hn
def oH.Ri{w W:C_}{k:Nat}(h:oH w W bb m b b' L fs vf)(c:Goes W W' bb m' b' b2)(a:Cz W k f):Cz W' k f:=aH a c.2.1 (h.bk.kL a d7 d7 d7 d7 d7)
def QN(a:bD b.S L){s:Nat}(c:s<2){T:List Ord}(h:aP ((s:Int)+1) L=x::T):zx ((b.S s).map Ly.o)=.tuple #[.agg #[U G x.id,U G x.side,U G x.kind,U G x.price,U G x.ak],.nilIface]:=by
 rw[a.side s c,h];rfl
def aEk{w:C_}(h:Bk w bb m b)(a:bD b.S L)(d:x∈L):(Tv .i64 x.id).wf=G_:=by
 obtain⟨s,c,y,e,rfl⟩:=a.mem.1 d;exact(h.ok.ok s c y e).2.1
def KM(bb m:Nat)(b:aU)(L:List Ord)(o:Ord)(n:Int)(w:C_)(h:Bk w bb m b)(f:m+1<=900000)(d:bD b.S L)(c:dZ L)(ho:o∈L)(hn:1<=n/\n<=o.ak):
  Sj prog 224 #[E (A_ ⟨bb,0,B_⟩),U G o.id,U G n] w λe w'=>∃a,e=Y a/\∃b',bD b'.S (bR o.id n L)/\Goes w w' bb (m+1) b b':=by
 refine(bCg h f d o.id n (aEk h d ho)).mono ?_;rintro e w' ⟨a,rfl,_,b',h1,h2⟩;rw[(KR c ho hn).1]at h1;exact⟨a,rfl,b',h1,h2⟩
def aOr(bb m:Nat)(b:aU)(L:List Ord)(p q:Int)(w:C_)(h:Bk w bb m b)(hm:m<=800000)(hl:bD b.S L)(G:dZ L)(hq:1<=q/\q<=min (dw 1 p L) (dw 2 p L)):
  Sj prog 195 #[.pointer (A_ ⟨bb,0,B_⟩),.int .i64 p,.int .i64 q] w λe w'=>∃(K:Nat) (vf:D_),e=.returned (.tuple #[vf,.nilIface])/\(fB p ⟨[],L,q⟩ K).q=0/\(∀j,j<K->0<(fB p ⟨[],L,q⟩ j).q)/\∃b',oH w w' bb (m+2*K) b b' (fB p ⟨[],L,q⟩ K).L (fB p ⟨[],L,q⟩ K).fs vf:=by
 obtain⟨iF,f8,f4,f5,f6⟩:=info_parts aDe;have H:=ah h;have HL:=ah hl;have HK:=ah G;have b9:Hid (pV p ⟨[],L,q⟩):=⟨G,by show 0<=q;omega,by show q<=dw 1 p L;omega,by show q<=dw 2 p L;omega⟩;have f7:=Ho h.ok hl;have h6:q<=100000000:=by have:=aJ8 1 p G;omega
 have I:¬q<1:=o7;have g4:decide (q>min (dw 1 p L) (dw 2 p L))=E_:=RH o7;clear h hl G hq;go_enter func195,ntmps195;go_wp2_with fail;refine(KN p w).mono ?_;rintro e w1 ⟨rfl,rfl⟩;have V:=aM w (.cells #[.int .i64 p] 3);have a5:=RU w (.cells #[.int .i64 p] 3);generalize w.alloc (.cells #[.int .i64 p] 3)=w1 at V a5⊢;have a9:=ah V;have c8:Hid _:=a5;clear V a5;go_wp2_with fail;refine(FN bb m 0 b L p w.heap.size w1 (H.below a9 au) HL HK d7 1 rfl c8).mono ?_;rintro e w2 ⟨rfl,W⟩;have b0:=ah (aJ a9 W);have e9:Hid _:=aL c8 W au;clear W;go_wp2_with fail;refine(FN bb m 1 b L p w.heap.size w2 (H.below b0 au) HL HK d7 2 rfl e9).mono ?_;rintro e w3 ⟨rfl,d3⟩;have b3:=ah (aJ b0 d3);clear d3;go_wp2_with fail;clear g4 I;go_loopw [2,9,10,11,12,13,14] (λu2 u9 _ _ _ _ _ wr=>∃(k:Nat) (b':aU),u2=.int .i64 (fB p ⟨[],L,q⟩ k).q/\(∀j,j<k->0<(fB p ⟨[],L,q⟩ j).q)/\(fB p ⟨[],L,q⟩ k).fs.length=k/\(k:Int)+(fB p ⟨[],L,q⟩ k).q<=q/\oH w wr bb (m+2*k) b b' (fB p ⟨[],L,q⟩ k).L (fB p ⟨[],L,q⟩ k).fs u9) (λu2 _ _ _ _ _ _ _=>(intOf u2).toNat)
 case atStart=>exact⟨0,b,rfl,λj N=>absurd N o7,rfl,by show(0:Int)+q<=q;omega,H.below b3 au,HL,(sU.refl _ _ _).below b3,Uo _ _ _ _⟩
 case round=>
  obtain⟨k,b',rfl,N,d5,h3,hC⟩:=hrel;have HJ:=ah N;have A:Hid (pV p (fB p ⟨[],L,q⟩ k)):=Ls b9 k N;have h5:=A.out.nn;have HC:=ah hC;obtain⟨fa,fc,rfl,_,_⟩:=lJ hC.gI;have c5:=ah d5;clear N d5
  by_cases I:0<(fB p ⟨[],L,q⟩ k).q
  ·have F:Hid (fB p ⟨[],L,q⟩ (k+1)=jX p (fB p ⟨[],L,q⟩ k)):=rfl
   have c6:Hid (∀j,j<k+1->0<(fB p ⟨[],L,q⟩ j).q):=λj N=>by
    by_cases e:j=k
    ·subst e;exact I
    ·exact HJ j o7
   have h1:=Gm b9 k c6;obtain⟨⟨x,T,y,U,R,d2,a1,a2,a7,e3,e2,n1,n2,n3,n4,c1,d1,c2,c4,e4⟩,h0⟩:=Dv A I;generalize fB p ⟨[],L,q⟩ k=s at *;have e7:Hid (dD s=min x.ak (min y.ak s.q)):=by show dD s=_;unfold dD;rw[a1,a2];omega
   have B:Hid ((jX p s).fs=s.fs++[⟨x.id,y.id,p,dD s⟩]/\(jX p s).q=s.q - dD s):=⟨by show s.fs++[_]=_;rw[a1,a2],rfl⟩;have e5:Hid (zx ((b'.S 0).map Ly.o)=.tuple #[.agg #[.int .i64 x.id,.int .i64 x.side,.int .i64 x.kind,.int .i64 x.price,.int .i64 x.ak],.nilIface]):=QN hC.bU d7 R;have e6:Hid (zx ((b'.S 1).map Ly.o)=.tuple #[.agg #[.int .i64 y.id,.int .i64 y.side,.int .i64 y.kind,.int .i64 y.price,.int .i64 y.ak],.nilIface]):=QN hC.bU d7 d2;have Q:Hid (x∈s.L/\y∈bR x.id (dD s) s.L/\dZ (bR x.id (dD s) s.L)/\(jX p s).L=bR y.id (dD s) (bR x.id (dD s) s.L)/\dD s<=x.ak/\dD s<=y.ak):=⟨a7,e2,e4,d1,n3,n4⟩;have px:=A.ok.ok x a7;have py:=A.ok.ok y e3
   have hxs:(x.side == 2)=E_:=by
    have:x∈aP 1 s.L:=by rw[R];exact SG ..
    rw[(oo.1 this).2];rfl
   clear R d2 a1 a2 a7 e3 e2 c1 d1 c2 c4 e4 n3 n4 HJ hC;go_wp2_with fail;refine(aGk bb (m+2*k) 0 b' wr HC.bk d7 1 rfl).mono ?_;rintro e w4 ⟨rfl,d4⟩;rw[e5.out];have b6:Hid _:=HC.below d4;clear d4 HC;go_wp2_with fail;have X:=aM w4 (.cells #[.int .i64 x.id,.int .i64 x.side,.int .i64 x.kind,.int .i64 x.price,.int .i64 x.ak] 155);have a6:=RU w4 (.cells #[.int .i64 x.id,.int .i64 x.side,.int .i64 x.kind,.int .i64 x.price,.int .i64 x.ak] 155);generalize w4.alloc (.cells #[.int .i64 x.id,.int .i64 x.side,.int .i64 x.kind,.int .i64 x.price,.int .i64 x.ak] 155)=w5 at X a6⊢;have O:Hid _:=b6.below X;clear X b6;refine(aGk bb (m+2*k) 1 b' w5 O.bk d7 2 rfl).mono ?_;rintro e w6 ⟨rfl,Y⟩;rw[e6.out];have P:Hid _:=O.below Y;have e1:=aL a6 Y au;clear Y O a6;have c9:Hid _:=e1;clear e1;have e0:∀j,(f_ fa s.fs.length fc).ownBlock=A_ j->j<w6.heap.size:=λj N=>(P.gI.lt j N).2
   have c7:Hid _:=e0;clear e0;go_upto_region 8 with fail;have D:=aM w6 (.cells #[.int .i64 y.id,.int .i64 y.side,.int .i64 y.kind,.int .i64 y.price,.int .i64 y.ak] 155);have l:=RU w6 (.cells #[.int .i64 y.id,.int .i64 y.side,.int .i64 y.kind,.int .i64 y.price,.int .i64 y.ak] 155);generalize w6.alloc (.cells #[.int .i64 y.id,.int .i64 y.side,.int .i64 y.kind,.int .i64 y.price,.int .i64 y.ak] 155)=w7 at D l⊢;have b7:Hid _:=P.below D;have z:=aL c9 D au;have g5:=D.size;have x0:=aj (j:=0) z rfl;have x1:=aj (j:=1) z rfl;have x2:=aj (j:=2) z rfl;have x3:=aj (j:=3) z rfl;have x4:=aj (j:=4) z rfl;have y0:=aj (j:=0) l rfl;have y1:=aj (j:=1) l rfl;have y2:=aj (j:=2) l rfl;have y3:=aj (j:=3) l rfl;have y4:=aj (j:=4) l rfl;clear D z l c9 P;generalize w4.heap.size=xb at *;generalize w6.heap.size=yb at *;go_wp2_with fail;refine(aAh x y p w7 hxs).mono ?_;rintro e w8 ⟨rfl,Z⟩;have b8:Hid _:=b7.below Z;have g6:=Z.size;clear Z b7 x0 x1 x2 x3 x4 y0 y1 y2 y3 y4;go_upto_region 9 with fail;have a0:=aM w8 (.cells #[.int .i64 x.id,.int .i64 y.id,.int .i64 p,.int .i64 (min x.ak y.ak)] 164);have E:=RU w8 (.cells #[.int .i64 x.id,.int .i64 y.id,.int .i64 p,.int .i64 (min x.ak y.ak)] 164);generalize w8.alloc (.cells #[.int .i64 x.id,.int .i64 y.id,.int .i64 p,.int .i64 (min x.ak y.ak)] 164)=w9 at a0 E⊢;have f3:=aj (j:=3) E rfl;have f2:=aI (j:=3) E;have c3:Hid _:=E;have b4:Hid _:=a0;clear E a0;go_upto_region 10 with fail;have C:=b4.setCell (p:=⟨w8.heap.size,3,B_⟩) au (.int .i64 (min x.ak (min y.ak s.q)));have i:=bg (j:=3) (.int .i64 (min x.ak (min y.ak s.q))) c3;generalize w9.setCell ⟨w8.heap.size,3,B_⟩ (.int .i64 (min x.ak (min y.ak s.q)))=w10 at C i⊢;have d:Hid _:=b8.below C;have d9:(f_ fa s.fs.length fc).ownBlock≠A_ w8.heap.size:=λe=>by have:=c7 _ e;omega
   have e8:Hid _:=d9;clear C b8 b4 c3 f3 f2 d9 c7 g5 g6;generalize w8.heap.size=fb at *;have J:Hid (Cz w10 fb ⟨x.id,y.id,p,min x.ak (min y.ak s.q)⟩):=i;have f0:aF w10 fb 0 (.int .i64 x.id):=aj (j:=0) i rfl;have f3:aF w10 fb 3 (.int .i64 (min x.ak (min y.ak s.q))):=aj (j:=3) i rfl;rw[e7.out]at B Q n1 n2;clear i;go_wp2_with fail;refine(KM bb (m+2*k) b' s.L x (min x.ak (min y.ak s.q)) w10 d.bk o7 d.bU A.ok Q.out.1 ⟨n1,Q.out.2.2.2.2.1⟩).mono ?_;rintro e a8 ⟨g8,rfl,b1,d6,a3⟩;have u:=d.Ri a3 J;have g:Hid _:=d.goes a3 d6;have M:=ah u;clear f0 f3 d6 a3 d J;have f1:aF a8 fb 1 (.int .i64 y.id):=aj (j:=1) u rfl;have f3:aF a8 fb 3 (.int .i64 (min x.ak (min y.ak s.q))):=aj (j:=3) u rfl;clear u;go_wp2_with fail;refine(KM bb (m+2*k+1) b1 (bR x.id (min x.ak (min y.ak s.q)) s.L) y (min x.ak (min y.ak s.q)) a8 g.bk o7 g.bU Q.out.2.2.1 Q.out.2.1 ⟨n1,Q.out.2.2.2.2.2⟩).mono ?_;rintro e n ⟨g9,rfl,b2,d8,a4⟩;have c:=g.Ri a4 M;have r:Hid _:=g.goes a4 d8;have c0:=ah c;clear f1 f3 d8 a4 g M;have g0:aF n fb 0 (.int .i64 x.id):=aj (j:=0) c rfl;have g1:aF n fb 1 (.int .i64 y.id):=aj (j:=1) c rfl;have g2:aF n fb 2 (.int .i64 p):=aj (j:=2) c rfl;have g3:aF n fb 3 (.int .i64 (min x.ak (min y.ak s.q))):=aj (j:=3) c rfl;clear c;have h4:s.fs.length<=100:=by have:=c5.out;omega
   have h7:w.heap.size<=n.heap.size:=r.since.1.size;go_wp2_with (at_builtin;refine Xy _ rfl _ _ 115 rfl w.heap.size 164 iF (.agg #[.int .i64 0,.int .i64 0,.int .i64 0,.int .i64 0]) 4 32 underlying115 f8 f4 f5 f6 rfl d7 _ s.fs.length (fV s.fs) rfl (r.out.gI.alloc _) ⟨n.heap.size,0,B_⟩ 1 1 [.int .i64 x.id,.int .i64 y.id,.int .i64 p,.int .i64 (min x.ak (min y.ak s.q))] rfl rfl (UL (cs:=#[.int .i64 x.id,.int .i64 y.id,.int .i64 p,.int .i64 (min x.ak (min y.ak s.q))]) (t:=164) (fr:=(0,0)) (RU n _)) (by simp[Vk]) (by unfold maxLen;omega) o7 (by simp;omega) ?_;intro h8 g7 v a _ _;have d0:=aH c0.out (r.out.pushed a) e8.out;have h2:aF g7 fb 3 (.int .i64 (min x.ak (min y.ak s.q))):=aj (j:=3) d0 rfl;have b5:Hid _:=r.out.push (f:=⟨x.id,y.id,p,min x.ak (min y.ak s.q)⟩) a v;clear d0 v a g0 g1 g2 g3);go_roundw
   case rel=>
    have f9:=c5.out;refine⟨k+1,b2,?_,c6,?_,?_,?_⟩
    ·rw[F.out,B.out.2];try go_num
    ·rw[F.out,B.out.1,Sl,TG,f9]
    ·rw[F.out,B.out.2];omega
    ·rw[F.out,B.out.1,Q.out.2.2.2.1];exact b5.out
   case measure=>simp[intOf];omega
  ·go_wp2_with fail;go_ret2;exact⟨k,_,rfl,o7,HJ,b',HC⟩
variable {M:aG}
section
open Go.Maps
def EO(v:D_):Option (DataW Unit×List MemPlace):=
 match v with
 | .agg ⟨[]⟩=>A_ (.agg [],[])
 |_=>B_
def bH1{d:DataW Unit}{ps:List MemPlace}(h:EO v=A_ (d,ps)):v=.agg #[]:=by
 unfold EO at h;split at h
 ·rfl
 ·cases h
def bJe(w:C_):(zeroValue 32).run prog w=.ok (.agg #[]) w:=k7
def mQ(w:C_)(mb n:Nat)(I:List Int):Prop:=∃D:DataW Unit,w.ownsMap prog 3 EO mb n D/\∀id:Int,Maps.has D (.int .i64 id)=decide (id∈I)
def mQ.same{w w':C_}(h:mQ w mb n I)(a:w'.heap[mb]? = w.heap[mb]?):mQ w' mb n I:=by
 obtain⟨D,h1,r⟩:=h;exact⟨D,NC h1 a,r⟩
def mQ.lt{w:C_}(h:mQ w mb n I):mb<w.heap.size:=by
 obtain⟨D,h1,r⟩:=h;exact h1.lt
def mQ.ne{w:C_}{b:Nat}{vs:Array D_}{t:RZ}{f:Nat×Nat}(h:mQ w mb n I)(c:w.heap[b]? = A_ (.cells vs t f)):b≠mb:=λe=>by
 obtain⟨D,⟨es,a,h1,_⟩,_⟩:=h;rw[e,h1]at c;cases c
def mQ.look{w:C_}(h:mQ w mb n I){id:Int}(b:(Tv .i64 id).wf=G_):
  (Instr.lookup 149 (.map (A_ mb)) (.int .i64 id) G_).run prog w=.ok (.tuple #[.agg #[],.bool (decide (id∈I))]) w:=by
 obtain⟨D,h1,h2⟩:=h;obtain⟨v,ps,a,hv⟩:=h1.look_ok BF underlying149 (bJe w) (zd:=.agg []) (zp:=[]) rfl (BD b);rw[a,bH1 hv,h2 id]
def mQ.put{w:C_}(h:mQ w mb n I){id:Int}(g:(Tv .i64 id).wf=G_)(hn:n<1000000):
  ∃w',(Instr.mapUpdate 149 (.map (A_ mb)) (.int .i64 id) (.agg #[])).run prog w=.ok () w'/\mQ w' mb (n+1) (I++[id])/\Out (λj=>j=mb) w w':=by
 obtain⟨D,h1,h2⟩:=h;obtain⟨w',f,c,d⟩:=h1.store BF underlying149 (by unfold maxLen;omega) (BD g) (show EO (.agg #[])=A_ (.agg [],[]) from rfl);refine⟨w',f,⟨_,c,λx=>?_⟩,Pk d⟩
 by_cases e:x=id
 ·subst e;rw[Maps.has_put_same h1.isMap (Mj _) _];simp
 ·have a:Tv .i64 x≠Tv .i64 id:=λb=>e (DX b)
  rw[Maps.has_put_other a,h2 x];simp[e]
structure bC where
 tb:Nat
 cb:Nat
 ct:Nat
 nb:Nat
 bb:Nat
 m:Nat
 b:aU
 vp:D_
 tk:Nat
 n:Nat
def bC.foot(eb:Nat)(k:bC)(j:Nat):Prop:=j=eb\/j=k.nb\/k.b.foot k.bb j\/k.vp.ownBlock=A_ j\/j=k.tk
def yt(k:bC)(M:aG):Array D_:=#[E (A_ ⟨k.tb,0,B_⟩),E (A_ ⟨k.nb,0,B_⟩),E (A_ ⟨k.bb,0,B_⟩),k.vp,.map (A_ k.tk),U G M.ph,U G M.now,U G M.ti,U G M.mo,U G M.en,U G M.lo]
structure Eg(w:C_)(eb:Nat)(k:bC)(M:aG):Prop where
 box:w.heap[eb]? = A_ (R (yt k M) 151 (0,0))
 tab:w.cell? ⟨k.tb,0,B_⟩=A_ (J (A_ ⟨k.cb,0,B_⟩) M.rs.length k.ct)/\jW w k.cb 0 M.rs
 oD:k.cb<w.heap.size
 bn:dU w k.nb M.st M.dy M.an M.la
 bk:Bk w k.bb k.m k.b
 bU:bD k.b.S M.L
 pk:w.ownsRow 0 155 5 k.vp M.P.length (oV M.P)
 tkn:mQ w k.tk k.n M.I
 uF:¬k.b.foot k.bb k.tk
 few:k.n<=k.m
 far:∀j,j=k.tb\/j=k.cb->¬k.foot eb j
def og{w w':C_}{b off:Nat}{rs:List (Int×Int)}(h:jW w b off rs)(ho:Out S w w')(c:¬S b):jW w' b off rs:=λj u d=>by
 have h1:=h j u d;have a:b<w.heap.size:=SN w _ h1;have e:=ho.block b a c;rw[<-h1];simp only[SS,e]
def kZ{w w':C_}{a:J_}(h:w.cell? a=A_ v)(ho:Out S w w')(b:¬S a.block):w'.cell? a=A_ v:=by
 have e:=ho.block a.block (SN w _ h) b;rw[<-h];simp only[SS,e]
variable {k:bC}
def Eg.Aq{w:C_}(h:Eg w eb k M):k.tb<w.heap.size:=SN w _ h.tab.1
def Eg.table{w:C_}(h:Eg w eb k M):AV w k.tb M.rs:=⟨k.cb,k.ct,h.tab.1,h.tab.2⟩
def Eg.out{w w':C_}(h:Eg w eb k M)(ho:Out S w w')(a:∀j,k.foot eb j\/j=k.tb\/j=k.cb->¬S j):Eg w' eb k M:=
 ⟨aH h.box ho (a _ (RP (RP rfl))),⟨kZ h.tab.1 ho (a _ (RN (RP rfl))),og h.tab.2 ho (a _ (RN (RN rfl)))⟩,Sn h.oD ho.size,
  aH h.bn ho (a _ (RP (RN (RP rfl)))),h.bk.out ho (λ_ b=>a _ (RP (RN (RN (RP b))))),h.bU,cu h.pk ho (λ_ b=>a _ (RP (RN (RN (RN (RP b)))))),
  h.tkn.same (ho.block _ h.tkn.lt (a _ (RP (RN (RN (RN (RN rfl))))))),h.uF,h.few,h.far⟩
def Eg.below{w w':C_}(h:Eg w eb k M)(a:Sd w.heap.size w w'):Eg w' eb k M:=h.out (S:=λ_=>False) (Sz a au) (λ_ _ e=>e)
def Eg.drew{w:C_}(h:Eg w eb k M):Eg w.drew eb k M:=h.below (RS _ _).drew
def Eg.wK{w:C_}(h:Eg w eb k M):M.L.length<=100:=Ho h.bk.ok h.bU
def Eg.qV{w:C_}(h:Eg w eb k M):dZ M.L:=by
 refine⟨λo ho=>?_,h.bU.ids,λo ho=>h.bU.ok h.bk.ok o ho⟩;obtain⟨s,a,x,b,rfl⟩:=h.bU.mem.1 ho;have:=h.bk.ok.side s a x b;omega
def Eg.Dm{w:C_}(h:Eg w eb k M):eb≠k.nb:=kY h.box h.bn d7
def Eg.yh{w:C_}(h:Eg w eb k M):¬k.b.foot k.bb eb:=h.bk.kL h.box d7 d7 d7 d7 d7
def Eg.MW{w:C_}(h:Eg w eb k M):¬k.b.foot k.bb k.nb:=h.bk.kL h.bn d7 d7 d7 d7 d7
def Eg.yj{w:C_}(h:Eg w eb k M):k.vp.ownBlock≠A_ eb:=bM h.pk h.box d7
def Eg.MX{w:C_}(h:Eg w eb k M):k.vp.ownBlock≠A_ k.nb:=bM h.pk h.bn d7
def Eg.NI{w:C_}(h:Eg w eb k M)(a:k.vp.ownBlock=A_ j):¬k.b.foot k.bb j:=λe=>h.bk.wI h.pk d7 d7 d7 d7 d7 j a e
def Eg.Bq{w:C_}(h:Eg w eb k M):eb≠k.tk:=h.tkn.ne h.box
def Eg.MZ{w:C_}(h:Eg w eb k M):k.nb≠k.tk:=h.tkn.ne h.bn
def Eg.aGt{w:C_}(h:Eg w eb k M):k.vp.ownBlock≠A_ k.tk:=λhv=>by
 rcases h.pk.2 with⟨e,_⟩|⟨g,cap,a,e,_,c,_⟩
 ·rw[e]at hv;cases hv
 ·rw[e]at hv;have b:g=k.tk:=by simpa[Uf]using hv
  exact h.tkn.ne c b
def aZ(w w':C_)(eb:Nat)(k k':bC)(M':aG):Prop:=Eg w' eb k' M'/\Out (k.foot eb) w w'/\aK w (k.foot eb) (k'.foot eb)/\k'.tb=k.tb/\k'.cb=k.cb
def aZ.stay{w w':C_}(h:Eg w eb k M)(a:Sd w.heap.size w w'):aZ w w' eb k k M:=⟨h.below a,Sz a au,aK.refl _ _,rfl,rfl⟩
def aZ.refl{w:C_}(h:Eg w eb k M):aZ w w eb k k M:=⟨h,Tz _ _,aK.refl _ _,rfl,rfl⟩
variable {k1:bC}
def aZ.trans{w:C_}{k2:bC}{a M2:aG}(h:aZ w w1 eb k k1 a)(h1:aZ w1 w2 eb k1 k2 M2):aZ w w2 eb k k2 M2:=⟨h1.1,h.2.1.trans h1.2.1 h.2.2.1,h.2.2.1.trans h1.2.2.1 h.2.1.size,h1.2.2.2.1.trans h.2.2.2.1,h1.2.2.2.2.trans h.2.2.2.2⟩
def aZ.oN{w:C_}{M1:aG}(h:aZ w w1 eb k k1 M1)(h1:Sd w1.heap.size w1 w2):aZ w w2 eb k k1 M1:=h.trans (aZ.stay h.1 h1)
def Eg.write{w:C_}(h:Eg w eb k M){M':aG}{u:D_}(g:(yt k M).setIfInBounds j u=yt k M')(h1:M'.rs=M.rs)(h2:M'.L=M.L)(h3:M'.P=M.P)(d:M'.I=M.I)(f:M'.st=M.st/\M'.dy=M.dy/\M'.an=M.an/\M'.la=M.la):
  aZ w (w.setCell ⟨eb,j,B_⟩ u) eb k k M':=by
 have ho:=bL w ⟨eb,j,B_⟩ u;have a:=bg (j:=j) u h.box;rw[g]at a;obtain⟨e1,e2,b,c⟩:=f;refine⟨⟨a,?_,Sn h.oD ho.size,?_,h.bk.out ho (λi hi e=>h.yh (by rw[<-show i=eb from e];exact hi)),by rw[h2];exact h.bU,?_,?_,h.uF,h.few,h.far⟩,?_,aK.refl _ _,rfl,rfl⟩
 ·rw[h1];exact⟨kZ h.tab.1 ho (λe=>h.far _ (RP rfl) (RP e)),og h.tab.2 ho (λe=>h.far _ (RN rfl) (RP e))⟩
 ·rw[e1,e2,b,c];exact aH h.bn ho (λe=>h.Dm e.symm)
 ·rw[h3];exact cu h.pk ho (λi hi e=>h.yj (by rw[<-show i=eb from e];exact hi))
 ·rw[d];exact h.tkn.same (ho.block _ h.tkn.lt (λe=>h.Bq e.symm))
 ·exact⟨ho.os,ho.tape,ho.output,ho.size,λi hi hn=>ho.block i hi (λe=>hn (RP e))⟩
def Eg.wW{w w':C_}(h:Eg w eb k M){f:Nat}{g:List Ord}(n:Goes w w' k.bb f k.b b')(o:bD b'.S g)(q:k.m<=f):aZ w w' eb k { k with m:=f,b:=b' } { M with L:=g }:=by
 obtain⟨l,a,d⟩:=n;refine⟨⟨aH h.box a h.yh,⟨kZ h.tab.1 a (λe=>h.far _ (RP rfl) (RN (RN (RP e)))),og h.tab.2 a (λe=>h.far _ (RN rfl) (RN (RN (RP e))))⟩,Sn h.oD a.size,aH h.bn a h.MW,l,o,cu h.pk a (λj c=>h.NI c),h.tkn.same (a.block _ h.tkn.lt h.uF),λe=>?_,RV h.few q,λj c e=>?_⟩,?_,?_,rfl,rfl⟩
 ·rcases d _ e with e|e
  ·exact h.uF e
  ·have r:w.heap.size<=k.tk:=e;have:=h.tkn.lt;omega
 ·have p:j<w.heap.size:=by
   rcases c with rfl|rfl
   ·exact h.Aq
   ·exact h.oD
  rcases e with e|e|e|e|e
  ·exact h.far j c (RP e)
  ·exact h.far j c (RN (RP e))
  ·rcases d j e with e|e
   ·exact h.far j c (RN (RN (RP e)))
   ·omega
  ·exact h.far j c (RN (RN (RN (RP e))))
  ·exact h.far j c (RN (RN (RN (RN e))))
 ·exact⟨a.os,a.tape,a.output,a.size,λi hi hn=>a.block i hi (λe=>hn (RN (RN (RP e))))⟩
 ·intro j c;rcases c with e|e|e|e|e
  ·exact RP (RP e)
  ·exact RP (RN (RP e))
  ·exact(d j e).imp (λe=>RN (RN (RP e))) id
  ·exact RP (RN (RN (RN (RP e))))
  ·exact RP (RN (RN (RN (RN e))))
def Eg.bAr{w w':C_}(h:Eg w eb k M){a b:Int}(d:dU w' k.nb M.st M.dy a b)(ho:Out (λj=>j=k.nb) w w'):aZ w w' eb k k { M with an:=a,la:=b }:=by
 refine⟨⟨aH h.box ho h.Dm,⟨kZ h.tab.1 ho (λe=>h.far _ (RP rfl) (RN (RP e))),og h.tab.2 ho (λe=>h.far _ (RN rfl) (RN (RP e)))⟩,Sn h.oD ho.size,d,h.bk.out ho (λj c e=>h.MW (by rw[<-show j=k.nb from e];exact c)),h.bU,cu h.pk ho (λj c e=>h.MX (by rw[<-show j=k.nb from e];exact c)),h.tkn.same (ho.block _ h.tkn.lt (λe=>h.MZ e.symm)),h.uF,h.few,h.far⟩,?_,aK.refl _ _,rfl,rfl⟩;exact⟨ho.os,ho.tape,ho.output,ho.size,λi hi hn=>ho.block i hi (λe=>hn (RN (RP e)))⟩
def Eg.bAu{w w':C_}(h:Eg w eb k M){id:Int}(c:mQ w' k.tk (k.n+1) (M.I++[id]))(ho:Out (λj=>j=k.tk) w w')(b:k.m+1<=900000):aZ w w' eb k { k with m:=k.m+1,n:=k.n+1 } { M with I:=M.I++[id] }:=by
 refine⟨⟨aH h.box ho h.Bq,⟨kZ h.tab.1 ho (λe=>h.far _ (RP rfl) (RN (RN (RN (RN e))))),og h.tab.2 ho (λe=>h.far _ (RN rfl) (RN (RN (RN (RN e)))))⟩,Sn h.oD ho.size,aH h.bn ho h.MZ,(h.bk.out ho (λj a e=>h.uF (by rw[<-show j=k.tk from e];exact a))).more (Nat.le_succ _) b,h.bU,cu h.pk ho (λj a e=>h.aGt (by rw[<-show j=k.tk from e];exact a)),c,h.uF,Nat.succ_le_succ h.few,h.far⟩,?_,aK.refl _ _,rfl,rfl⟩;exact⟨ho.os,ho.tape,ho.output,ho.size,λi hi hn=>ho.block i hi (λe=>hn (RN (RN (RN (RN e)))))⟩
end
section
set_option linter.unusedSimpArgs false
def dQ(err:D_)(n:Int):Prop:=(err=.nilIface/\n=0)\/(err=.iface 30 (U G n)/\n≠0)
def dQ.yes{n:Int}(h:n=0):dQ .nilIface n:=RP ⟨rfl,h⟩
def dQ.no{n:Int}(v:Int)(h:n=v)(hv:v≠0):dQ (.iface 30 (U G v)) n:=RN ⟨by rw[h],by rw[h];exact hv⟩
def aR7(eb:Nat)(k:bC)(M:aG)(w:C_)(h:Eg w eb k M):
  Sj prog 82 #[E (A_ ⟨eb,0,B_⟩)] w λe w'=>e=Y (U G M.ph)/\w'=w:=by
 have a:w.cell? ⟨eb,5,B_⟩=A_ (U G M.ph):=aj (j:=5) h.box rfl;clear h;go_enter func82,ntmps82;go_wp2;go_ret;exact⟨rfl,rfl⟩
def aR3(eb:Nat)(k:bC)(M:aG)(w:C_)(h:Eg w eb k M):
  Sj prog 79 #[E (A_ ⟨eb,0,B_⟩)] w λe w'=>e=Y (U G M.now)/\w'=w:=by
 have a:w.cell? ⟨eb,6,B_⟩=A_ (U G M.now):=aj (j:=6) h.box rfl;clear h;go_enter func79,ntmps79;go_wp2;go_ret;exact⟨rfl,rfl⟩
def aR8(eb:Nat)(k:bC)(M:aG)(w:C_)(h:Eg w eb k M):
  Sj prog 84 #[E (A_ ⟨eb,0,B_⟩)] w λe w'=>e=Y (.tuple #[U G M.an,U G M.la])/\Sd w.heap.size w w':=by
 have k1:=TJ (aj (j:=1) (v:=E (A_ ⟨k.nb,0,B_⟩)) h.box rfl);have i:∀a os,Sj prog 116 #[E (A_ ⟨k.nb,0,B_⟩)] (Tg (Vl w a) os) λe b=>e=Y (U G M.an)/\∃p:V_,b=Tg (Vl w p.d) p.os:=λa os=>VA (aM0 k.nb M.st M.dy M.an M.la _ (h.bn.below (Uh w a os)))
 have l:∀a os,Sj prog 112 #[E (A_ ⟨k.nb,0,B_⟩)] (Tg (Vl w a) os) λe b=>e=Y (U G M.la)/\∃p:V_,b=Tg (Vl w p.d) p.os:=λa os=>VA (Ra k.nb M.st M.dy M.an M.la _ (h.bn.below (Uh w a os)))
 clear h;go_enter func84,ntmps84;go_wp2_with fail;refine TU k7 k7 ?_
 repeat(go_big_quiet_step (first|exact i _ _|exact l _ _))
 refine wpQuiet_nil ?_;intro _ f;obtain⟨⟨a,g⟩,c⟩:=f;subst c;go_wp2;go_ret2;exact⟨rfl,Uh w a g⟩
def aRw(eb:Nat)(k:bC)(M:aG)(w:C_)(h:Eg w eb k M):
  Sj prog 80 #[E (A_ ⟨eb,0,B_⟩)] w λe w'=>∃err,e=Y err/\dQ err (uW M)/\aZ w w' eb k k (oZ M):=by
 have i:w.cell? ⟨eb,5,B_⟩=A_ (U G M.ph):=aj (j:=5) h.box rfl;have l:=aI (j:=5) h.box;have H:=ah h;clear h
 by_cases b:M.ph=6
 ·have f:=beq_iff_eq.2 b;have a:Hid (uW M=6/\oZ M=M):=⟨by unfold uW;rw[RF (RP b)],by unfold oZ;rw[RF (RP b)]⟩;clear b;go_enter func80,ntmps80;go_wp2_with fail;go_ret;exact⟨_,rfl,dQ.no 6 a.out.1 d7,by rw[a.out.2];exact aZ.refl H.out⟩
 ·have f:=RG.2 b
  by_cases c:M.ph=7
  ·have g:=beq_iff_eq.2 c;have a:Hid (uW M=6/\oZ M=M):=⟨by unfold uW;rw[RF (RN c)],by unfold oZ;rw[RF (RN c)]⟩;clear b c;go_enter func80,ntmps80;go_wp2_with fail;go_ret;exact⟨_,rfl,dQ.no 6 a.out.1 d7,by rw[a.out.2];exact aZ.refl H.out⟩
  ·have g:=RG.2 c;have d:¬(M.ph=6\/M.ph=7):=λe=>e.elim b c
   have a:Hid (uW M=0/\oZ M={ M with ph:=6 }):=⟨by unfold uW;rw[RD d],by unfold oZ;rw[RD d]⟩;clear b c d;go_enter func80,ntmps80;go_wp2_with fail;go_ret;exact⟨_,rfl,dQ.yes a.out.1,by rw[a.out.2];exact H.out.write (j:=5) (M':={ M with ph:=6 }) rfl rfl rfl rfl rfl ⟨rfl,rfl,rfl,rfl⟩⟩
def Gb(eb:Nat)(k:bC)(M:aG)(w:C_)(h:Eg w eb k M)(hn:0<=M.now/\M.now<=1000000000000)(n:0<=M.ti/\M.ti<=1000000000000):
  Sj prog 109 #[E (A_ ⟨eb,0,B_⟩)] w λe w'=>e=Y (.tuple #[])/\aZ w w' eb k k (sM M):=by
 have b:w.cell? ⟨eb,5,B_⟩=A_ (U G M.ph):=aj (j:=5) h.box rfl;have d:=aI (j:=5) h.box;have h1:=h.write (j:=5) (u:=U G 4) (M':={ M with ph:=4 }) rfl rfl rfl rfl rfl ⟨rfl,rfl,rfl,rfl⟩;have wr:IntKind.i64.wrap (M.now+M.ti)=M.now+M.ti:=IntWalk.i64_in _ o7;clear h;go_enter func109,ntmps109;go_upto_region 1 with fail;generalize w.setCell ⟨eb,5,B_⟩ (U G 4)=w1 at h1⊢;have g:w1.cell? ⟨eb,6,B_⟩=A_ (U G M.now):=aj (j:=6) h1.1.box rfl;have i:w1.cell? ⟨eb,7,B_⟩=A_ (U G M.ti):=aj (j:=7) h1.1.box rfl;have l:w1.cell? ⟨eb,9,B_⟩=A_ (U G M.en):=aj (j:=9) h1.1.box rfl;have c:w1.cell? ⟨eb,10,B_⟩=A_ (U G M.lo):=aj (j:=10) h1.1.box rfl;have m:=aI (j:=9) h1.1.box;have f:=aI (j:=10) h1.1.box;have a:=ah h1;clear h1 b d;go_region
 all_goals go_wp2_with fail
 all_goals refine bodyPost_end (ZP rfl _ _ _) rfl ?_
 all_goals refine⟨rfl,a.out.trans ?_⟩
 all_goals have h2:=a.out.1.drew.write (j:=9) (u:=U G (M.now+M.ti)) (M':={ M with ph:=4,en:=M.now+M.ti }) rfl rfl rfl rfl rfl ⟨rfl,rfl,rfl,rfl⟩
 all_goals have h3:=h2.trans (h2.1.write (j:=10) (u:=U G 0) (M':=sM M) rfl rfl rfl rfl rfl ⟨rfl,rfl,rfl,rfl⟩)
 all_goals exact(aZ.stay a.out.1 (RS _ _).drew).trans h3
def KZ(eb:Nat)(k:bC)(M:aG)(w:C_)(h:Eg w eb k M)(i:0<M.rs.length/\M.rs.length<=60):
  Sj prog 104 #[E (A_ ⟨eb,0,B_⟩)] w λe w'=>e=Y (U G (bY M.rs M.now).1)/\Sd w.heap.size w w':=by
 have m:=TJ (aj (j:=0) (v:=E (A_ ⟨k.tb,0,B_⟩)) h.box rfl);have n:=TJ (aj (j:=6) (v:=U G M.now) h.box rfl);have l:∀a os,Sj prog 141 #[E (A_ ⟨k.tb,0,B_⟩),U G M.now] (Tg (Vl w a) os) λe g=>e=Y (.tuple #[U G (bY M.rs M.now).1,U G (bY M.rs M.now).2])/\∃p:V_,g=Tg (Vl w p.d) p.os:=λa os=>VA (bBz k.tb M.now M.rs _ (h.table.below (Uh w a os) au) i.1 i.2)
 clear h;go_enter func104,ntmps104;go_wp2_with fail;refine TU k7 k7 ?_
 repeat(go_big_quiet_step (exact l _ _))
 refine wpQuiet_nil ?_;intro _ c;obtain⟨⟨a,f⟩,b⟩:=c;subst b;go_wp2;go_ret;exact⟨rfl,Uh w a f⟩
def wT(o:Ord):Bool:=(decide (1<=o.side)&& decide (o.side<=2))&& (decide (1<=o.kind)&& decide (o.kind<=4))&& decide (0<o.id)
def aRx(o:Ord)(w:C_):
  Sj prog 184 #[o.agg] w λe w'=>e=Y (.bool (wT o))/\Sd w.heap.size w w':=by
 unfold Ord.agg;go_enter func184,ntmps184;go_wp2
 all_goals(go_ret;refine⟨Jz ?_,aM _ _⟩;(first|rfl|(rw[Bool.eq_iff_iff];simp only[wT,Bool.or_eq_true,Bool.and_eq_true,beq_iff_eq,RG,ne_eq,decide_eq_true_eq,decide_eq_false_iff_not,true_iff,Bool.false_eq_true,false_iff,iff_true,iff_false]at *;omega)))
end
def jV(w:C_)(a:Option J_)(l:List Ord):Prop:=∀k,k<l.length->∃b off,a=A_ ⟨b,off,B_⟩/\w.cell? ⟨b,off+k*5,B_⟩=A_ (U G (aO l k).id)/\w.cell? ⟨b,off+k*5+1,B_⟩=A_ (U G (aO l k).side)/\w.cell? ⟨b,off+k*5+2,B_⟩=A_ (U G (aO l k).kind)/\w.cell? ⟨b,off+k*5+3,B_⟩=A_ (U G (aO l k).price)/\w.cell? ⟨b,off+k*5+4,B_⟩=A_ (U G (aO l k).ak)
def iN{w w':C_}{p:J_}(a:Sd w.heap.size w w')(h:w.cell? p=A_ v):w'.cell? p=A_ v:=(a.cell (SN w _ h)).trans h
def jV.below{w w':C_}{a:Option J_}(h:jV w a l)(c:Sd w.heap.size w w'):jV w' a l:=λk hk=>by
 obtain⟨b,off,e,h0,h1,h2,h3,d⟩:=h k hk;exact⟨b,off,e,iN c h0,iN c h1,iN c h2,iN c h3,iN c d⟩
def jV.pI{w:C_}{b:Nat}(h:w.ownsRow b 155 5 v l.length (oV l)):∃a cap,v=J a l.length cap/\jV w a l:=by
 obtain⟨a,cap,rfl,_,_⟩:=wo h;refine⟨a,cap,rfl,λk hk=>?_⟩;obtain⟨g,c,e,h0,h1,h2,h3,d⟩:=EB h hk;simp only[Value.slice.injEq,true_and]at e;exact⟨g,0,e.1,by simpa using h0,by simpa using h1,by simpa using h2,by simpa using h3,by simpa using d⟩
def gW(w:C_)(o:Obj):Sd w.heap.size w (w.alloc o):=(RS _ _).alloc au o
def cZ{w:C_}(h:Sd w.heap.size w w1)(h1:Sd w1.heap.size w1 w2):Sd w.heap.size w w2:=h.trans (h1.mono h.size)
def bT{w:C_}{b:Nat}{vs:Array D_}{t:RZ}(h:w.heap[b]? = A_ (R vs t (0,0)))(a:vs[j]? = A_ v):w.cell? ⟨b,j,B_⟩=A_ v:=(cell_of_row w b j vs t (0,0) h).trans a
def qO{w:C_}{b:Nat}{vs:Array D_}{t:RZ}(h:w.heap[b]? = A_ (R vs t (0,0))):w.frozen? ⟨b,j,B_⟩=E_:=frozen_of_row w b j vs t h
def qc{w:C_}{b:Nat}{vs:Array D_}{t:RZ}(u:D_)(h:w.heap[b]? = A_ (R vs t (0,0))):(w.setCell ⟨b,j,B_⟩ u).heap[b]? = A_ (R (vs.setIfInBounds j u) t (0,0)):=heap_setCell_same w b j vs t u h
def rR{w w':C_}{b:Nat}{o:Obj}(h:w.heap[b]? = A_ o)(a:Sd w.heap.size w w'):w'.heap[b]? = A_ o:=(a.block b (SK h)).trans h
def ints(l:List Int):List D_:=l.map (Value.int .i64)
def aWe{l:List Int}{k:Nat}(h:k<l.length):(ints l)[k]? = A_ (U G (l.getD k 0)):=by simp[ints,h]
def qB{w:C_}{b:Nat}{size:Nat}(h:w.ownsRow b e size v n xs)(c:a<=b):w.ownsRow a e size v n xs:=
 ⟨h.1,h.2.imp id (λ⟨g,cap,cur,e,hg,r⟩=>⟨g,cap,cur,e,RV c hg,r⟩)⟩
def oK(w:C_)(a:Option J_)(l:List Pt):Prop:=∀k,k<l.length->∃b off,a=A_ ⟨b,off,B_⟩/\w.cell? ⟨b,off+k*3,B_⟩=A_ (U G (aR l k).price)/\w.cell? ⟨b,off+k*3+1,B_⟩=A_ (U G (aR l k).bQ)/\w.cell? ⟨b,off+k*3+2,B_⟩=A_ (U G (aR l k).sup)
def oK.below{w w':C_}{a:Option J_}{l:List Pt}(h:oK w a l)(c:Sd w.heap.size w w'):oK w' a l:=λk hk=>by
 obtain⟨b,off,e,h0,h1,h2⟩:=h k hk;exact⟨b,off,e,iN c h0,iN c h1,iN c h2⟩
def oK.pI{w:C_}{b:Nat}{t:RZ}{l:List Pt}(h:w.ownsRow b t 3 v l.length (eX l)):∃a cap,v=J a l.length cap/\oK w a l:=by
 obtain⟨a,cap,rfl,_,_⟩:=wo h;refine⟨a,cap,rfl,λk hk=>?_⟩;obtain⟨g,c,e,h0,h1,h2⟩:=aHn h hk;simp only[Value.slice.injEq,true_and]at e;exact⟨g,0,e.1,by simpa using h0,by simpa using h1,by simpa using h2⟩
def rM(w:C_)(qb:Nat):Prop:=w.heap[qb]? = A_ (R #[U G 0,U G 0,U G 0] 123 (0,0))
def rM.below{w w':C_}{qb:Nat}(h:rM w qb)(a:Sd w.heap.size w w'):rM w' qb:=rR h a
def BH(l:List Ord)(L:List Ord):List Ord:=l.foldl (λL o=>fF o L) L
def aW8(L:List Ord)(h:i<l.length):BH (l.take (i+1)) L=fF (aO l i) (BH (l.take i) L):=by
 unfold BH;rw[List.take_succ_eq_append_getElem h,List.foldl_append,<-pG h];rfl
def jV.out{w w':C_}{a:Option J_}(h:jV w a l)(ho:Out S w w')(d:∀b off,a=A_ ⟨b,off,B_⟩->¬S b):jV w' a l:=λk hk=>by
 obtain⟨b,off,e,h0,h1,h2,h3,c⟩:=h k hk;have hn:=d b off e;exact⟨b,off,e,kZ h0 ho hn,kZ h1 ho hn,kZ h2 ho hn,kZ h3 ho hn,kZ c ho hn⟩
def Dz{w:C_}{a:aU}(h:Goes w w1 bb m b a)(h1:Goes w1 w2 bb c a b2):Goes w w2 bb c b b2:=⟨h1.1,h.2.1.trans h1.2.1 h.2.2,h.2.2.trans h1.2.2 h.2.1.size⟩
def LW{w:C_}(h:Goes w w1 bb m b b1)(h1:Sd w1.heap.size w1 w2):Goes w w2 bb m b b1:=Dz h ⟨h.1.below h1 au,Sz h1 au,aK.refl _ _⟩
def Gz{w:C_}(h:Bk w bb m b)(a:Sd w.heap.size w w1)(h1:Goes w1 w2 bb c b b1):Goes w w2 bb c b b1:=Dz ⟨h.below a au,Sz a au,aK.refl _ _⟩ h1
def Gc(eb:Nat)(k:bC)(M:aG)(a:Option J_)(cap:Nat)(l:List Ord)(w:C_)(h:Eg w eb k M)(y:jV w a l)(hw:∀o∈l,(Tv .i64 o.id).wf=G_)(Z:∀b off,a=A_ ⟨b,off,B_⟩->¬k.b.foot k.bb b)(hm:k.m+l.length<=900000):
  Sj prog 136 #[E (A_ ⟨eb,0,B_⟩),J a l.length cap] w λe w'=>e=Y (.tuple #[])/\∃b',bD b'.S (BH l M.L)/\Goes w w' k.bb (k.m+l.length) k.b b':=by
 have H:=ah h;have F:=ah y;have HW:=ah hw;have HF:=ah Z;clear h y hw Z;go_enter func136,ntmps136;go_wp2_with fail;go_loopw [8] (λu wr=>∃(i:Nat) (c:aU),u=U G i/\i<=l.length/\bD c.S (BH (l.take i) M.L)/\Goes w wr k.bb (k.m+i) k.b c) (λu _=>l.length - (intOf u).toNat)
 case atStart=>exact⟨0,k.b,rfl,Sv _,H.out.bU,H.out.bk,Tz _ _,aK.refl _ _⟩
 case round=>
  obtain⟨i,c,rfl,hi,p,v⟩:=hrel;have q:=ah p;have C:=ah v
  by_cases d:i<l.length
  ·have a1:(i:Int)<(l.length:Int):=o7;obtain⟨g,off,e1,d0,T,V,W,X⟩:=(F.out.out v.2.1 HF.out) i d;subst e1;have t:Hid ((Tv .i64 (aO l i).id).wf=G_):=HW.out _ (by rw[pG d];exact List.getElem_mem d);have P:=ah (aW8 M.L d);have HE:Hid (Eg wr eb { k with m:=k.m+i,b:=c } { M with L:=BH (l.take i) M.L }):=(H.out.wW v p (Tk _ _)).1;generalize aO l i=o at d0 T V W X t P;clear v p;go_upto_region 3 with fail;have B:=RU wr (R #[U G o.id,U G o.side,U G o.kind,U G o.price,U G o.ak] 155);have n:=aM wr (R #[U G o.id,U G o.side,U G o.kind,U G o.price,U G o.ak] 155);generalize wr.alloc (R #[U G o.id,U G o.side,U G o.kind,U G o.price,U G o.ak] 155)=w1 at B n⊢;have h1:=HE.out.below n;have D:=ah (LW C.out n);have A:¬c.foot k.bb wr.heap.size:=h1.bk.kL B d7 d7 d7 d7 d7
   have N:Hid (∀w',Out (c.foot k.bb) w1 w'->w'.cell? ⟨eb,2,B_⟩=A_ (E (A_ ⟨k.bb,0,B_⟩))/\w'.cell? ⟨wr.heap.size,0,B_⟩=A_ (U G o.id)/\w'.cell? ⟨wr.heap.size,1,B_⟩=A_ (U G o.side)/\w'.cell? ⟨wr.heap.size,2,B_⟩=A_ (U G o.kind)/\w'.cell? ⟨wr.heap.size,3,B_⟩=A_ (U G o.price)/\w'.cell? ⟨wr.heap.size,4,B_⟩=A_ (U G o.ak)/\Out (c.foot k.bb) w1 w'):=λw' ho=>by
    have f:=aH B ho A;exact⟨aj (j:=2) (aH h1.box ho h1.yh) rfl,aj (j:=0) f rfl,aj (j:=1) f rfl,aj (j:=2) f rfl,aj (j:=3) f rfl,aj (j:=4) f rfl,ho⟩
   have r:=ah h1.bk;clear B n d0 T V W X A h1 HE C;have O:k.m+i+1<=900000:=o7
   go_region_held3 (λw'=>w'.cell? ⟨eb,2,B_⟩=A_ (E (A_ ⟨k.bb,0,B_⟩))/\w'.cell? ⟨wr.heap.size,0,B_⟩=A_ (U G o.id)/\w'.cell? ⟨wr.heap.size,1,B_⟩=A_ (U G o.side)/\w'.cell? ⟨wr.heap.size,2,B_⟩=A_ (U G o.kind)/\w'.cell? ⟨wr.heap.size,3,B_⟩=A_ (U G o.price)/\w'.cell? ⟨wr.heap.size,4,B_⟩=A_ (U G o.ak)/\Out (c.foot k.bb) w1 w')
    ((refine N.out _ ?_;(first|exact K.out|exact Tz _ _|exact fI (Tz _ _))))
    ((go_at_call 192;refine(bCe (r.out.below (RS _ _).drew au) O q.out o t.out).mono ?_;rintro e w2 ⟨a0,rfl,_,Q,z,x⟩;have I:Hid _:=z;have s:Hid (Goes w1 w2 k.bb (k.m+i+1) c Q):=Gz r.out (RS _ _).drew x;have K:Hid (Out (c.foot k.bb) w1 w2):=s.out.2.1;clear z x))
   go_wp2_with fail;go_roundw
   case rel=>exact⟨i+1,Q,by go_num,d,by rw[P.out];exact I.out,Dz D.out s.out⟩
   case measure=>first|(simp[intOf];omega)|(show l.length - (i+1)<l.length - i;omega)|omega
  ·obtain rfl:i=l.length:=o7;rw[List.take_length]at q;clear v p;go_wp2_with fail;refine bodyPost_end (ZP rfl _ _ _) rfl ?_;exact⟨rfl,c,q.out,C.out⟩
def aLx(w:C_):CallsD prog 239 #[] .returning w λe c w'=>e=Y (.tuple #[])/\c=.returning/\w'=w:=by
 refine callsD_of_wpS func239 rfl λa cs b=>?_
 apply wpS_region;simp[wpOpsS,go_sem,recoverD,b,ntmps239,bodyPostS,results,results239];cases a
 simp_all
def bHe(w:C_):CallsD prog 241 #[] .returning w λe c w'=>e=Y (.tuple #[])/\c=.returning/\w'=w:=by
 refine callsD_of_wpS func241 rfl λa cs b=>?_
 apply wpS_region;simp[wpOpsS,go_sem,recoverD,b,ntmps241,bodyPostS,results,results241];cases a
 simp_all
def aOo(g:Nat)(a la:Array D_)(p:Int)(v:Bool)(W:C_)(i:∀args w,(YK g args).run prog w=.ok (.enter g args) w)(Q:C_->Prop)(d:Sj prog g (a++#[U G p]++la) W λe W'=>e=Y (.bool v)/\Q W'):
  Sj prog 222 #[.func (.func g) a la,U G p] W λe W'=>e=Y (.bool v)/\Q W':=by
 go_enter_defers func222,ntmps222;go_wp2_with fail;refine d.mono ?_;rintro e w1 ⟨rfl,b⟩;have c:=ah b;clear b;go_wp2_with fail;refine leaves_cons (f:=239) (args:=#[]) s7 (by simp[go_sem]) ?_;refine(aLx _).mono ?_;rintro e k j ⟨rfl,rfl,rfl⟩;exact⟨_,results_tmp rfl _ _ _,rfl,c.out⟩
def aOu(g:Nat)(a la:Array D_)(p:Int)(W:C_)(i:∀args w,(YK g args).run prog w=.ok (.enter g args) w)(Q:C_->Prop)(d:Sj prog g (a++#[U G p]++la) W λe W'=>e=Y (.tuple #[])/\Q W'):
  Sj prog 225 #[.func (.func g) a la,U G p] W λe W'=>e=Y (.tuple #[])/\Q W':=by
 go_enter_defers func225,ntmps225;go_wp2_with fail;refine d.mono ?_;rintro e w1 ⟨rfl,b⟩;have c:=ah b;clear b;go_wp2_with fail;refine leaves_cons (f:=241) (args:=#[]) s7 (by simp[go_sem]) ?_;refine(bHe _).mono ?_;rintro e k j ⟨rfl,rfl,rfl⟩;exact⟨_,ZP rfl _ _ _,rfl,c.out⟩
structure vM(St:C_->List Int->(Nat->Prop)->Prop):Prop where
 keep:∀{w w' ts D} {S:Nat->Prop},St w ts D->Out S w w'->(∀j,D j->¬S j)->St w' ts D
 far:∀{w ts D},St w ts D->∀j,D j->j<w.heap.size/\∀vs t fr,w.heap[j]? = A_ (R vs t fr)->t≠155/\t≠164
structure PS(g:Nat)(fa la:Array D_)(al:List Int->Int->Bool)(St:C_->List Int->(Nat->Prop)->Prop):Prop where
 enters:∀args w,(YK g args).run prog w=.ok (.enter g args) w
 tells:∀{W ts D},St W ts D->∀p:Int,1<=p->p<=1000000->Sj prog g (fa++#[U G p]++la) W λe W'=>e=Y (.bool (al ts p))/\Sd W.heap.size W W'
structure Qi(g:Nat)(fa la:Array D_)(St:C_->List Int->(Nat->Prop)->Prop):Prop where
 enters:∀args w,(YK g args).run prog w=.ok (.enter g args) w
 tells:∀{W ts D},St W ts D->ts.length<=1000->∀p:Int,1<=p->p<=1000000->Sj prog g (fa++#[U G p]++la) W λe W'=>e=Y (.tuple #[])/\∃D',St W' (ts++[p]) D'/\Out D W W'/\∀j,D' j->D j\/W.heap.size<=j
def bIr(a:o.side=1\/o.side=2):uJ x.price o=!wJ o x:=by
 unfold uJ wJ;rcases a with h|h
 ·rw[h]
  by_cases hk:o.kind=2
  ·simp[hk]
  ·simp[hk];rw[<-decide_not];exact decide_eq_decide.2 o7
 ·rw[h]
  by_cases hk:o.kind=2
  ·simp[hk]
  ·simp[hk];rw[<-decide_not];exact decide_eq_decide.2 o7
def aOp(o x:Ord)(w:C_)(a:o.side=1\/o.side=2):
  Sj prog 223 #[.agg #[U G o.id,U G o.side,U G o.kind,U G o.price,U G o.ak],.agg #[U G x.id,U G x.side,U G x.kind,U G x.price,U G x.ak],U G x.price] w
   λe w'=>e=Y (.agg #[U G (sj o x (min o.ak x.ak)).iC,U G (sj o x (min o.ak x.ak)).iK,U G (sj o x (min o.ak x.ak)).price,U G (sj o x (min o.ak x.ak)).ak])/\Sd w.heap.size w w':=by
 rcases a with h|h
 ·have e:sj o x (min o.ak x.ak)=⟨o.id,x.id,x.price,min o.ak x.ak⟩:=RF h;rw[e];exact aAh o x x.price w (by rw[h];rfl)
 ·have e:sj o x (min o.ak x.ak)=⟨x.id,o.id,x.price,min x.ak o.ak⟩:=by unfold sj;rw[RD o7,Int.min_comm]
  rw[e];exact aOq o x x.price w (by rw[h];rfl)
structure Mp(w W:C_)(bb m ob rb B:Nat)(vx vf:D_)(b b':aU)(X:List Ord)(o:Ord)(s:MS)(St:C_->List Int->(Nat->Prop)->Prop)(D0 D:Nat->Prop):Prop where
 old:w.heap.size<=ob/\w.heap.size<=rb/\ob≠rb/\ob<B/\rb<B
 row:W.ownsRow B 155 5 vx X.length (oV X)
 box:iM W ob (eD o s.q)
 res:CP W rb
 bk:Bk W bb m b'
 bU:bD b'.S s.L
 gI:W.ownsRow w.heap.size 164 4 vf s.fs.length (fV s.fs)
 told:St W s.ts D
 out:Out (λj=>b.foot bb j\/D0 j) w W
 went:aK w (b.foot bb) (b'.foot bb)
 rU:∀j,D j->D0 j\/w.heap.size<=j
 apart:∀j,D j->¬b'.foot bb j
variable {w W:C_} {X:List Ord} {D:Nat->Prop} {w':C_} {k:bC} {vs:Array D_}
def Mp.below(c:vM St)(h:Mp w W bb m ob rb B vx vf b b' X o s St D0 D)(a:Sd W.heap.size W W'):Mp w W' bb m ob rb B vx vf b b' X o s St D0 D:=
 ⟨h.old,jw h.row a au,aL h.box a au,aL h.res a au,h.bk.below a au,h.bU,jw h.gI a au,c.keep h.told (Sz (S:=λ_=>False) a au) (λ_ _ e=>e),iU h.out (Sz a au),h.went,h.rU,h.apart⟩
def Mp.pushed(_:Mp w W bb m ob rb B vx vf b b' X o s St D0 D)(a:(W.alloc obj).grownBy W' vf.ownBlock):Out (λj=>vf.ownBlock=A_ j) W W':=iU (ug (Tz _ _) _) (Out.uf a (λ_ hk=>hk))
def Mp.push(c:vM St)(h:Mp w W bb m ob rb B vx vf b b' X o s St D0 D)(l:(W.alloc obj).grownBy W' vf.ownBlock)(hn:W'.ownsRow w.heap.size 164 4 v' (s.fs.length+1) (fV s.fs++[U G f.iC,U G f.iK,U G f.price,U G f.ak])):
  Mp w W' bb m ob rb B vx v' b b' X o ⟨s.fs++[f],s.L,s.q,s.ts⟩ St D0 D:=by
 have a:=h.pushed l;refine⟨h.old,cu h.row a (λk hk=>nX h.row h.gI d7 hk),aH h.box a (bM h.gI h.box d7),aH h.res a (bM h.gI h.res d7),h.bk.out a (λk hk e=>h.bk.wI h.gI d7 d7 d7 d7 d7 k e hk),h.bU,?_,c.keep h.told a (λj p e=>?_),h.out.trans a (λk hk=>RN (h.gI.lt k hk).1),h.went,h.rU,h.apart⟩
 ·rw[aBv,Sl,TG];exact hn
 ·rcases h.gI.2 with⟨rfl,_⟩|⟨g,cap,d,rfl,_,n,_⟩
  ·cases e
  ·have i:g=j:=by simpa[Uf]using e
   subst i;exact((c.far h.told _ p).2 _ _ _ n).2 rfl
def Mp.cut(f:vM St)(h:Mp w W bb m ob rb B vx vf b b' X o s St D0 D){c:List Ord}(l:Goes W W' bb m' b' b2)(n:bD b2.S c):
  Mp w W' bb m' ob rb B vx vf b b2 X o ⟨s.fs,c,s.q,s.ts⟩ St D0 D:=by
 obtain⟨i,a,d⟩:=l;refine⟨h.old,cu h.row a (h.bk.wI h.row d7 d7 d7 d7 d7),aH h.box a (h.bk.kL h.box d7 d7 d7 d7 d7),aH h.res a (h.bk.kL h.res d7 d7 d7 d7 d7),i,n,cu h.gI a (h.bk.wI h.gI d7 d7 d7 d7 d7),f.keep h.told a h.apart,h.out.trans a (λk hk=>(h.went k hk).elim (λe=>RP (RP e)) RN),λk hk=>?_,h.rU,λj g e=>?_⟩
 ·exact(d k hk).elim (h.went k) (λe=>RN (RV h.out.size e))
 ·rcases d j e with e|e
  ·exact h.apart j g e
  ·have:=(f.far h.told _ g).1;omega
def Mp.left(c:vM St)(h:Mp w W bb m ob rb B vx vf b b' X o s St D0 D)(q:Int):
  Mp w (W.setCell ⟨ob,4,B_⟩ (U G q)) bb m ob rb B vx vf b b' X o ⟨s.fs,s.L,q,s.ts⟩ St D0 D:=by
 have ho:Out (λj=>j=ob) W (W.setCell ⟨ob,4,B_⟩ (U G q)):=bL W ⟨ob,4,B_⟩ _;obtain⟨o1,o2,o3,o4,g⟩:=h.old;have d:¬b'.foot bb ob:=h.bk.kL h.box d7 d7 d7 d7 d7;refine⟨h.old,cu h.row ho (λk hk e=>?_),bg (j:=4) (U G q) h.box,aH h.res ho (λe=>o3 e.symm),h.bk.out ho (λk hk e=>d (by rw[<-show k=ob from e];exact hk)),h.bU,cu h.gI ho (λk hk e=>bM h.gI h.box d7 (hk.trans (RJ A_ e))),c.keep h.told ho (λj f e=>?_),h.out.trans ho (λk hk=>RN (by rw[show k=ob from hk];exact o1)),h.went,h.rU,h.apart⟩
 ·have:=(h.row.lt k hk).1;have a:k=ob:=e;omega
 ·have a:j=ob:=e;subst a;exact((c.far h.told _ f).2 _ _ _ h.box).1 rfl
def Mp.tell(u:vM St)(h:Mp w W bb m ob rb B vx vf b b' X o s St D0 D){D':Nat->Prop}{p:Int}(f:St W' (s.ts++[p]) D')(ho:Out D W W')(i:∀j,D' j->D j\/W.heap.size<=j):
  Mp w W' bb m ob rb B vx vf b b' X o ⟨s.fs,s.L,s.q,s.ts++[p]⟩ St D0 D':=by
 have C:=h.out.size
 have no:∀{k:Nat} {vs:Array D_} {t:RZ} {fr:Nat×Nat},W.heap[k]? = A_ (R vs t fr)->(t=155\/t=164)->¬D k:=λx f r=>by
  have:=(u.far h.told _ r).2 _ _ _ x;rcases f with e|e
  ·exact this.1 e
  ·exact this.2 e
 have nr:∀{a:Nat} {e:RZ} {size n:Nat} {v:D_} {xs:List D_},W.ownsRow a e size v n xs->(e=155\/e=164)->∀k,v.ownBlock=A_ k->¬D k:=λA y k hk=>by
  rcases A.2 with⟨rfl,_⟩|⟨g,cap,l,rfl,_,z,_⟩
  ·cases hk
  ·have c:g=k:=by simpa[Uf]using hk
   subst c;exact no z y
 refine⟨h.old,cu h.row ho (nr h.row (RP rfl)),aH h.box ho (no h.box (RP rfl)),aH h.res ho (no h.res (RP rfl)),h.bk.out ho (λk hk e=>h.apart k e hk),h.bU,cu h.gI ho (nr h.gI (RN rfl)),f,h.out.trans ho (λk hk=>(h.rU k hk).elim (λe=>RP (RN e)) RN),h.went,λj d=>?_,λj d e=>?_⟩
 ·rcases i j d with e|e
  ·exact h.rU j e
  ·exact RN (RV C e)
 ·rcases i j d with c|c
  ·exact h.apart j c e
  ·have:=h.bk.lt e;omega
def Mp.start(i:vM St){V:C_}(h:Bk w bb m b)(n:bD b.S L)(f:St w [] D)(d:∀j,D j->¬b.foot bb j)(k:Sd w.heap.size w V)(ho:iM V ob o)(g:CP V rb)(h1:w.heap.size<=ob)(h2:w.heap.size<=rb)(h3:ob≠rb)(p:W.ownsRow V.heap.size 155 5 vx X.length (oV X))(a:Sd V.heap.size V W):
  Mp w W bb m ob rb V.heap.size vx (J B_ 0 0) b b X o ⟨[],L,o.ak,[]⟩ St D D:=by
 have c:=aJ k a;exact⟨⟨h1,h2,h3,SK ho,SK g⟩,p,aL ho a au,aL g a au,h.below c au,n,Uo _ _ _ _,i.keep f (Sz (S:=λ_=>False) c au) (λ_ _ e=>e),Sz c au,aK.refl _ _,λj l=>RP l,d⟩
def Mp.done(a:vM St)(h:Mp w W bb m ob rb B vx vf b b' X o s St D0 D):
  ze (boxed W rb (eD o s.q)).drew rb (eD o s.q)/\(boxed W rb (eD o s.q)).drew.ownsRow w.heap.size 164 4 vf s.fs.length (fV s.fs)/\Bk (boxed W rb (eD o s.q)).drew bb m b'/\bD b'.S s.L/\St (boxed W rb (eD o s.q)).drew s.ts D/\Out (λj=>b.foot bb j\/D0 j) w (boxed W rb (eD o s.q)).drew/\aK w (b.foot bb) (b'.foot bb)/\(∀j,D j->D0 j\/w.heap.size<=j):=by
 have ho:=fI (FJ W rb (eD o s.q))
 have c:ze (boxed W rb (eD o s.q)).drew rb (eD o s.q):=by
  unfold ze;rw[FY];exact Rj (eD o s.q) h.res
 generalize(boxed W rb (eD o s.q)).drew=W' at ho c⊢;obtain⟨o1,o2,o3,o4,i⟩:=h.old;have f:¬b'.foot bb rb:=h.bk.kL h.res d7 d7 d7 d7 d7;refine⟨c,cu h.gI ho (λk hk e=>bM h.gI h.res d7 (hk.trans (RJ A_ e))),h.bk.out ho (λk hk e=>f (by rw[<-show k=rb from e];exact hk)),h.bU,a.keep h.told ho (λj g e=>?_),h.out.trans ho (λk hk=>RN (by rw[show k=rb from hk];exact o2)),h.went,h.rU⟩;have d:j=rb:=e;subst d;exact((a.far h.told _ g).2 _ _ _ h.res).1 rfl
def Qb(al:List Int->Int->Bool)(o:Ord)(L:List Ord)(bb m:Nat)(b:aU)(St:C_->List Int->(Nat->Prop)->Prop)(D:Nat->Prop)(w:C_)(e:Ending)(w':C_):Prop:=
 ∃(s:MS) (t:Bool) (vf:D_) (b':aU) (m':Nat) (D':Nat->Prop),dH al o (aP (3 - o.side) L) ⟨[],L,o.ak,[]⟩=(s,t)/\m'<=m+100/\e=Y (.tuple #[vf,.agg #[U G o.id,U G o.side,U G o.kind,U G o.price,U G s.q],.bool t])/\w'.ownsRow w.heap.size 164 4 vf s.fs.length (fV s.fs)/\Bk w' bb m' b'/\bD b'.S s.L/\St w' s.ts D'/\Out (λj=>b.foot bb j\/D j) w w'/\aK w (b.foot bb) (b'.foot bb)/\∀j,D' j->D j\/w.heap.size<=j
def MO{al:List Int->Int->Bool}{a:Nat->Prop}{t:Bool}(h:dH al o (aP (3 - o.side) L) ⟨[],L,o.ak,[]⟩=(s,t))(d:c<=m+100)(h2:w'.ownsRow w.heap.size 164 4 vf s.fs.length (fV s.fs)/\Bk w' bb c b'/\bD b'.S s.L/\St w' s.ts a/\Out (λj=>b.foot bb j\/D j) w w'/\aK w (b.foot bb) (b'.foot bb)/\∀j,a j->D j\/w.heap.size<=j):
  Qb al o L bb m b St D w (Y (.tuple #[vf,.agg #[U G o.id,U G o.side,U G o.kind,U G o.price,U G s.q],.bool t])) w':=⟨s,t,vf,b',c,a,h,d,rfl,h2⟩
def Mp.more{d:Nat}(h:Mp w W bb m c d B vx vf b b' X o s St D0 D)(e:m<=a)(f:a<=900000):Mp w W bb a c d B vx vf b b' X o s St D0 D:=
 ⟨h.old,h.row,h.box,h.res,h.bk.more e f,h.bU,h.gI,h.told,h.out,h.went,h.rU,h.apart⟩
def bI6{k:Nat}(h:k<X.length):X.drop k=aO X k::X.drop (k+1):=by
 rw[List.drop_eq_getElem_cons h]
 congr 1
 simp[aO,h]
def aOs(bb m:Nat)(b:aU)(L:List Ord)(o:Ord)(ga gt:Nat)(b4 la b5 lt:Array D_)(al:List Int->Int->Bool)(St:C_->List Int->(Nat->Prop)->Prop)(D:Nat->Prop)(w:C_)(h:Bk w bb m b)(hm:m<=800000)(hl:bD b.S L)(i1:dZ L)(C:o.side=1\/o.side=2)(j5:-9223372036854775808<=o.ak/\o.ak<=9223372036854775807)(hF:vM St)(hA:PS ga b4 la al St)(hT:Qi gt b5 lt St)(i3:St w [] D)(h0:∀j,D j->¬b.foot bb j):
  Sj prog 188 #[E (A_ ⟨bb,0,B_⟩),.agg #[U G o.id,U G o.side,U G o.kind,U G o.price,U G o.ak],.func (.func ga) b4 la,.func (.func gt) b5 lt] w
   λe w'=>Qb al o L bb m b St D w e w':=by
 obtain⟨iF,j3,i9,j0,j1⟩:=info_parts aDe;have HA:=ah h;have HL:=ah hl;have HK:=ah i1;have d:=ah hF;have e5:=ah hA;have g5:=ah hT;have g4:=ah i3;have e6:=ah h0;have HS:=ah C
 obtain⟨s0,j6,i2⟩:∃s0:Nat,s0<2/\3 - o.side=(s0:Int)+1:=by
  rcases C with e|e
  ·exact⟨1,d7,by rw[e];rfl⟩
  ·exact⟨0,d7,by rw[e];rfl⟩
 have f9:=ah i2;have j2:L.length<=100:=Ho h.ok hl;clear h hl i1 hA hT i3 h0 C i2 hF;go_enter func188,ntmps188;go_wp2_with fail;have Z:=gu w (R #[U G o.id,U G o.side,U G o.kind,U G o.price,U G o.ak] 155) (R #[U G 0,U G 0,U G 0,U G 0,U G 0] 155);have c1:=rz w (R #[U G o.id,U G o.side,U G o.kind,U G o.price,U G o.ak] 155) (R #[U G 0,U G 0,U G 0,U G 0,U G 0] 155);have c2:=pR w (R #[U G o.id,U G o.side,U G o.kind,U G o.price,U G o.ak] 155) (R #[U G 0,U G 0,U G 0,U G 0,U G 0] 155);generalize(w.alloc (R #[U G o.id,U G o.side,U G o.kind,U G o.price,U G o.ak] 155)).alloc (R #[U G 0,U G 0,U G 0,U G 0,U G 0] 155)=w1 at Z c1 c2⊢;refine(aOt o.side HS w1).mono ?_;rintro e i4 ⟨rfl,hw⟩;subst hw;go_wp2_with fail;refine(aAi bb m s0 b L i4 (HA.below Z au) HL j6 (3 - o.side) f9).mono ?_;rintro e w2 ⟨vx,rfl,d9,h3⟩;have h8:=Mp.start d HA HL g4 e6 Z c1 c2 au o7 o7 d9 h3;have f5:Hid _:=h8;have f8:Hid _:=oJ.start HK (3 - o.side) o.ak;obtain⟨xa,xc,rfl,_,_⟩:=lJ d9;have k3:(aP (3 - o.side) L).length<=L.length:=ED _ _;generalize hX:aP (3 - o.side) L=X at *;have b3:=ah hX;generalize i4.heap.size=B at *;clear hX d9 h3 Z c1 c2 h8 g4 e6 f9 HA HL HK;go_wp2_with fail;go_loopw [11,13,14,21] (λu11 _ _ u21 wr=>∃(k:Nat) (s:MS) (b':aU) (D':Nat->Prop),u21=U G k/\k<=X.length/\dH al o (X.drop k) s=dH al o X ⟨[],L,o.ak,[]⟩/\oJ (X.drop k) s/\s.fs.length<=k/\(-9223372036854775808<=s.q/\s.q<=9223372036854775807)/\Mp w wr bb (m+k) w.heap.size (w.heap.size+1) B (J xa X.length xc) u11 b b' X o s St D D') (λ_ _ _ u21 _=>X.length - (intOf u21).toNat)
 case atStart=>exact⟨0,_,b,D,rfl,Sv _,rfl,f8,au,j5,f5⟩
 case round=>
  obtain⟨k,s,b',D',rfl,hk,i0,h9,k4,j7,hM⟩:=hrel;have P:=ah i0;have n:=ah hM;have f7:=ah h9;obtain⟨fa,fc,rfl,_,_⟩:=lJ hM.gI;clear i0 h9 f5 f8
  by_cases a3:k<X.length
  ·have k7:(k:Int)<(X.length:Int):=o7;obtain⟨g,cap,e,d0,d1,d2,d3,d4⟩:=EB hM.row a3;injection e with e1 _ e2;subst e1 e2;have HD:Hid (X.drop k=aO X k::X.drop (k+1)):=bI6 a3;generalize aO X k=x at d0 d1 d2 d3 d4 HD;clear hM;go_upto_region 5 with fail;have c8:=aM wr (R #[U G x.id,U G x.side,U G x.kind,U G x.price,U G x.ak] 155);have r:=RU wr (R #[U G x.id,U G x.side,U G x.kind,U G x.price,U G x.ak] 155);have a0:=n.below d c8;generalize wr.alloc (R #[U G x.id,U G x.side,U G x.kind,U G x.price,U G x.ak] 155)=W at c8 r a0⊢;have hR:=n.out.res;clear c8 n d0 d1 d2 d3 d4;have j8:w.heap.size+1<wr.heap.size:=SK hR;clear hR;generalize wr.heap.size=xb at r j8⊢;have T:=ah r;have n:=ah a0;have x0:=aj (j:=0) r rfl;have x1:=aj (j:=1) r rfl;have x2:=aj (j:=2) r rfl;have x3:=aj (j:=3) r rfl;have x4:=aj (j:=4) r rfl;have c:eB W w.heap.size #[U G o.id,U G o.side,U G o.kind,U G o.price,U G s.q] 155:=a0.box;have o0:=aj (j:=0) c rfl;have o1:=aj (j:=1) c rfl;have o2:=aj (j:=2) c rfl;have o3:=aj (j:=3) c rfl;have o4:=aj (j:=4) c rfl;clear r a0 c
   by_cases K:x.kind=2
   ·have j4:(x.kind == 2)=G_:=beq_iff_eq.2 K;have i7:Hid (dH al o (X.drop (k+1)) s=dH al o X ⟨[],L,o.ak,[]⟩):=by have:=P;rw[HD.out,aYm K]at this;exact this
    have a7:Hid (oJ (X.drop (k+1)) s):=by have h1:=f7;rw[HD.out]at h1;exact h1.pass
    clear K;go_wp2_with fail;go_roundw
    case rel=>exact⟨k+1,s,b',D',by go_num,a3,i7,a7,o7,j7,n.more o7 o7⟩
    case measure=>first|(simp[intOf];omega)|(show X.length - (k+1)<X.length - k;omega)|omega
   ·have j4:(x.kind == 2)=E_:=RG.2 K;have b0:=ah K;clear K;obtain⟨cc,h5⟩:∃cc:Bool,(decide (s.q<1) || wJ o x)=cc:=⟨_,rfl⟩;have N:Hid ((decide (s.q<1) || wJ o x)=cc):=h5;clear h5;go_upto_region 6 with fail;go_cut [38] from 22 to 71 (λu38 wc=>u38=.bool cc/\bW W wc)
    case first=>
     by_cases hq:s.q<1
     ·have d8:decide (s.q<1)=G_:=RI hq;have a5:Hid (cc=G_):=by have:=N;rw[d8,Bool.true_or]at this;exact this.symm
      go_region
      all_goals go_wp2_with fail
      all_goals go_meet
      all_goals exact⟨by rw[a5.out],by(repeat' first|assumption|exact RS _ _|exact au|refine Um ?_|refine TR ?_ ?_ _|(simp;done)|(simp;omega))⟩
     ·have d8:decide (s.q<1)=E_:=RH hq
      have a5:Hid (cc=!(uJ x.price (eD o s.q))):=by
       have:=N;rw[d8,XU]at this;show cc=!(uJ x.price o);rw[bIr HS.out,Bool.not_not];exact this.symm
      have h4:=aM W (R #[U G x.price] 3);have e7:Hid (bW W (W.alloc (R #[U G x.price] 3)).drew):=by show Sd _ _ _;(repeat' first|assumption|exact RS _ _|exact au|refine Um ?_|refine TR ?_ ?_ _|(simp;done)|(simp;omega))
      have i8:Hid ((W.alloc (R #[U G x.price] 3)).drew.heap[W.heap.size]? = A_ (R #[U G x.price] 3)):=by show _=_;rw[FY];exact RU _ _
      have M:=aL (B:=W.heap.size) n.box h4 au;have p0:aF (W.alloc (R #[U G x.price] 3)) w.heap.size 0 (U G o.id):=aj (j:=0) M rfl;have p1:aF (W.alloc (R #[U G x.price] 3)) w.heap.size 1 (U G o.side):=aj (j:=1) M rfl;have p2:aF (W.alloc (R #[U G x.price] 3)) w.heap.size 2 (U G o.kind):=aj (j:=2) M rfl;have p3:aF (W.alloc (R #[U G x.price] 3)) w.heap.size 3 (U G o.price):=aj (j:=3) M rfl;have p4:aF (W.alloc (R #[U G x.price] 3)) w.heap.size 4 (U G s.q):=aj (j:=4) M rfl;clear M h4;go_region_with (first|(go_at_call 221;refine(KN x.price _).mono ?_;rintro e w5 ⟨rfl,rfl⟩)|(go_at_call 238;refine(aAj x.price (eD o s.q) _ _ i8.out).mono ?_;rintro e w6 ⟨rfl,I⟩))
      all_goals go_wp2_with fail
      all_goals go_meet
      all_goals exact⟨by rw[a5.out],e7.trans (I.mono e7.size)⟩
    case rest=>
     obtain⟨rfl,c9⟩:=hcut;have c0:=n.below d c9;have z:iM wc xb x:=aL T c9 au;clear c9 n T x0 x1 x2 x3 x4 o0 o1 o2 o3 o4;have T:=ah z;have n:=ah c0;have x0:=aj (j:=0) z rfl;have x1:=aj (j:=1) z rfl;have x2:=aj (j:=2) z rfl;have x3:=aj (j:=3) z rfl;have x4:=aj (j:=4) z rfl;have c:eB wc w.heap.size #[U G o.id,U G o.side,U G o.kind,U G o.price,U G s.q] 155:=c0.box;have o0:=aj (j:=0) c rfl;have o1:=aj (j:=1) c rfl;have o2:=aj (j:=2) c rfl;have o3:=aj (j:=3) c rfl;have o4:=aj (j:=4) c rfl;clear c0 z c;cases cc with
     |true=>
      have u:Hid (dH al o X ⟨[],L,o.ak,[]⟩=(s,E_)):=by
       have h1:=P.out;have h2:=N.out
       by_cases hq:s.q<1
       ·rw[ML o7]at h1;exact h1.symm
       ·rw[RH hq,XU]at h2;rw[HD.out,aYl o7 b0.out h2]at h1;exact h1.symm
      go_wp2_with fail;have l:=n.out.res;have z0:=aj (j:=0) l rfl;have z1:=aj (j:=1) l rfl;have z2:=aj (j:=2) l rfl;have z3:=aj (j:=3) l rfl;have z4:=aj (j:=4) l rfl;have f0:=aI (j:=0) l;have f1:=aI (j:=1) l;have f2:=aI (j:=2) l;have f3:=aI (j:=3) l;have f4:=aI (j:=4) l;have HE:Hid (dH al o (aP (3 - o.side) L) ⟨[],L,o.ak,[]⟩=(s,E_)):=by show _=_;rw[b3.out];exact u
      have i:=n.done d;unfold boxed eD ze at i;have a:Hid _:=i;clear l i;go_region
      all_goals go_wp2_with fail
      all_goals generalize(((((wc.setCell ⟨w.heap.size+1,0,B_⟩ (U G o.id)).setCell ⟨w.heap.size+1,1,B_⟩ (U G o.side)).setCell ⟨w.heap.size+1,2,B_⟩ (U G o.kind)).setCell ⟨w.heap.size+1,3,B_⟩ (U G o.price)).setCell ⟨w.heap.size+1,4,B_⟩ (U G s.q)).drew=wz at a⊢
      all_goals have e0:=aj (j:=0) a.out.1 rfl
      all_goals have e1:=aj (j:=1) a.out.1 rfl
      all_goals have e2:=aj (j:=2) a.out.1 rfl
      all_goals have e3:=aj (j:=3) a.out.1 rfl
      all_goals have e4:=aj (j:=4) a.out.1 rfl
      all_goals refine UA (by simp[results,results188,go_sem,e0,e1,e2,e3,e4];try rfl) rfl ?_
      all_goals exact MO HE o7 a.out.2
     |false=>
      have a4:0<s.q:=by
       have h2:=N.out
       by_cases hq:s.q<1
       ·rw[RI hq,Bool.true_or]at h2;cases h2
       ·omega
      have e9:Hid (wJ o x=E_):=by
       have h2:=N.out;rw[Bool.or_eq_false_iff]at h2;exact h2.2
      have v:Hid (oJ (x::X.drop (k+1)) s):=by have h1:=f7;rw[HD.out]at h1;exact h1
      have Y:Hid (1<=x.price/\x.price<=1000000/\1<=x.ak/\x.ak<=1000000):=v.ok.ok x (v.here x (SG ..));go_wp2_with fail;refine(aOo ga b4 la x.price (al s.ts x.price) wc e5.enters (λW'=>bW wc W') (e5.tells n.told x.price Y.out.1 Y.out.2.1)).mono ?_;rintro e w4 ⟨rfl,c6⟩;have b7:=n.below d c6;have y:iM w4 xb x:=aL T c6 au;clear c6 x0 x1 x2 x3 x4 o0 o1 o2 o3 o4 n T;have T:=ah y;have n:=ah b7;have x0:=aj (j:=0) y rfl;have x1:=aj (j:=1) y rfl;have x2:=aj (j:=2) y rfl;have x3:=aj (j:=3) y rfl;have x4:=aj (j:=4) y rfl;have c:eB w4 w.heap.size #[U G o.id,U G o.side,U G o.kind,U G o.price,U G s.q] 155:=b7.box;have o0:=aj (j:=0) c rfl;have o1:=aj (j:=1) c rfl;have o2:=aj (j:=2) c rfl;have o3:=aj (j:=3) c rfl;have o4:=aj (j:=4) c rfl;clear b7 y c;cases ha:al s.ts x.price with
      |false=>
       have u:Hid (dH al o X ⟨[],L,o.ak,[]⟩=(s,G_)):=by have:=P;rw[HD.out,aYo a4 b0.out e9.out ha]at this;exact this.symm
       go_wp2_with fail;have l:=n.out.res;have z0:=aj (j:=0) l rfl;have z1:=aj (j:=1) l rfl;have z2:=aj (j:=2) l rfl;have z3:=aj (j:=3) l rfl;have z4:=aj (j:=4) l rfl;have f0:=aI (j:=0) l;have f1:=aI (j:=1) l;have f2:=aI (j:=2) l;have f3:=aI (j:=3) l;have f4:=aI (j:=4) l;have HE:Hid (dH al o (aP (3 - o.side) L) ⟨[],L,o.ak,[]⟩=(s,G_)):=by show _=_;rw[b3.out];exact u
       have i:=n.done d;unfold boxed eD ze at i;have a:Hid _:=i;clear l i;go_region
       all_goals go_wp2_with fail
       all_goals generalize(((((w4.setCell ⟨w.heap.size+1,0,B_⟩ (U G o.id)).setCell ⟨w.heap.size+1,1,B_⟩ (U G o.side)).setCell ⟨w.heap.size+1,2,B_⟩ (U G o.kind)).setCell ⟨w.heap.size+1,3,B_⟩ (U G o.price)).setCell ⟨w.heap.size+1,4,B_⟩ (U G s.q)).drew=wz at a⊢
       all_goals have e0:=aj (j:=0) a.out.1 rfl
       all_goals have e1:=aj (j:=1) a.out.1 rfl
       all_goals have e2:=aj (j:=2) a.out.1 rfl
       all_goals have e3:=aj (j:=3) a.out.1 rfl
       all_goals have e4:=aj (j:=4) a.out.1 rfl
       all_goals refine UA (by simp[results,results188,go_sem,e0,e1,e2,e3,e4];try rfl) rfl ?_
       all_goals exact MO HE o7 a.out.2
      |true=>
       have u:Hid (dH al o (X.drop (k+1)) (pF o x s)=dH al o X ⟨[],L,o.ak,[]⟩):=by have:=P;rw[HD.out,aYp a4 b0.out e9.out ha]at this;exact this
       have A:=v.lots a4;go_wp2_with fail;refine(aOp (eD o s.q) x w4 HS).mono ?_;rintro e w5 ⟨rfl,c7⟩;obtain⟨f,hf⟩:∃f,sj o x (min s.q x.ak)=f:=⟨_,rfl⟩;have h6:sj (eD o s.q) x (min (eD o s.q).ak x.ak)=f:=hf;have d5:f.ak=min s.q x.ak:=by rw[<-hf];unfold sj;split<;>rfl
       rw[h6];have i5:=ah hf;have i6:=ah d5;rw[<-d5]at A;have b8:=n.below d c7;have c3:iM w5 xb x:=aL T c7 au;have k9:xb<w5.heap.size:=SK c3;clear c7 x0 x1 x2 x3 x4 o0 o1 o2 o3 o4 n T hf h6 d5;have T:=ah c3;have n:=ah b8;have k1:Hid (∀j,(f_ fa s.fs.length fc).ownBlock=A_ j->j<w5.heap.size):=λj hj=>(b8.gI.lt j hj).2
       clear b8 c3;go_upto_region 10 with fail;have I:=aM w5 (R #[U G f.iC,U G f.iK,U G f.price,U G f.ak] 164);have a1:=RU w5 (R #[U G f.iC,U G f.iK,U G f.price,U G f.ak] 164);generalize w5.alloc (R #[U G f.iC,U G f.iK,U G f.price,U G f.ak] 164)=w6 at I a1⊢;have F:Hid _:=n.below d I;have c4:iM w6 xb x:=aL T I au;generalize w5.heap.size=fb at *;have a6:=ah a1;have b1:=ah c4;have x0:aF w6 xb 0 (U G x.id):=aj (j:=0) c4 rfl;have f3:aF w6 fb 3 (U G f.ak):=aj (j:=3) a1 rfl;clear I a1 c4 n T;go_wp2_with fail;refine(KM bb (m+k) b' s.L x f.ak w6 F.bk o7 F.bU v.ok (v.here x (SG ..)) ⟨A.1,A.2.1⟩).mono ?_;rintro e w7 ⟨k2,rfl,b2,h7,a2⟩;have a8:Hid _:=F.cut d a2 h7;have g8:iM w7 xb x:=aH b1 a2.2.1 (F.bk.kL b1 d7 d7 d7 d7 d7);have b6:Cz w7 fb f:=aH a6 a2.2.1 (F.bk.kL a6 d7 d7 d7 d7 d7);have g6:=ah g8;have e8:=ah b6;have d6:eB w7 w.heap.size #[U G o.id,U G o.side,U G o.kind,U G o.price,U G s.q] 155:=a8.box;clear x0 f3 h7 a2 F b1 a6;have f3:aF w7 fb 3 (U G f.ak):=aj (j:=3) b6 rfl;have o4:=aj (j:=4) d6 rfl;have j9:=aI (j:=4) d6;have q4:IntKind.i64.wrap (s.q - f.ak)=s.q - f.ak:=IntWalk.i64_in _ o7;clear d6 g8 b6;go_upto_region 12 with fail;have b9:=a8.left d (s.q - f.ak);have c5:iM (w7.setCell ⟨w.heap.size,4,B_⟩ (U G (s.q - f.ak))) xb x:=aH g6 (bL w7 ⟨w.heap.size,4,B_⟩ (U G (s.q - f.ak))) (by show¬xb=w.heap.size;omega);have H:Cz (w7.setCell ⟨w.heap.size,4,B_⟩ (U G (s.q - f.ak))) fb f:=aH e8 (bL w7 ⟨w.heap.size,4,B_⟩ (U G (s.q - f.ak))) (by show¬fb=w.heap.size;omega);generalize w7.setCell ⟨w.heap.size,4,B_⟩ (U G (s.q - f.ak))=w8 at b9 c5 H⊢;have O:Hid _:=b9;have g7:=ah c5;have g0:aF w8 fb 0 (U G f.iC):=aj (j:=0) H rfl;have g1:aF w8 fb 1 (U G f.iK):=aj (j:=1) H rfl;have g2:aF w8 fb 2 (U G f.price):=aj (j:=2) H rfl;have g3:aF w8 fb 3 (U G f.ak):=aj (j:=3) H rfl;clear f3 o4 j9 b9 c5 H a8 g6 e8;have k6:s.fs.length<=100:=o7;have k8:w.heap.size<=w8.heap.size:=O.out.out.size;go_wp2_with (at_builtin;refine Xy _ rfl _ _ 115 rfl w.heap.size 164 iF (.agg #[U G 0,U G 0,U G 0,U G 0]) 4 32 underlying115 j3 i9 j0 j1 rfl d7 _ s.fs.length (fV s.fs) rfl (O.out.gI.alloc _) ⟨w8.heap.size,0,B_⟩ 1 1 [U G f.iC,U G f.iK,U G f.price,U G f.ak] rfl rfl (UL (cs:=#[U G f.iC,U G f.iK,U G f.price,U G f.ak]) (t:=164) (fr:=(0,0)) (RU w8 _)) (by simp[Vk]) (by unfold maxLen;omega) o7 (by simp;omega) ?_;intro v9 w9 V p _ _;have g9:iM w9 xb x:=aH g7.out (O.out.pushed p) (bM O.out.gI g7.out d7);have x9:aF w9 xb 3 (U G x.price):=aj (j:=3) g9 rfl;have a9:Hid _:=O.out.push d.out (f:=f) p V;clear g9 V p g0 g1 g2 g3);have k0:=v.out.one;refine(aOu gt b5 lt x.price w9 g5.enters _ (g5.tells a9.told (by show s.ts.length<=1000;omega) x.price Y.out.1 Y.out.2.1)).mono ?_;rintro e l0 ⟨rfl,D2,ht,ho,hd⟩;have f6:Hid _:=a9.tell d ht ho hd;have a7:Hid (oJ (X.drop (k+1)) (pF o x s)):=v.step o a4;have Q:Hid (pF o x s=⟨s.fs++[f],bR x.id f.ak s.L,s.q - f.ak,s.ts++[x.price]⟩):=by show _=_;unfold pF;rw[i5.out,i6.out]
       clear ht ho hd a9 x9;go_wp2_with fail;go_roundw
       case rel=>
        refine⟨k+1,pF o x s,b2,D2,by go_num,a3,u,a7,?_,?_,?_⟩
        ·rw[Q.out];show(s.fs++[f]).length<=k+1;rw[Sl,TG];omega
        ·rw[Q.out];show -9223372036854775808<=s.q - f.ak/\s.q - f.ak<=9223372036854775807;omega
        ·rw[Q.out];exact f6.out
       case measure=>first|(simp[intOf];omega)|(show X.length - (k+1)<X.length - k;omega)|omega
  ·have k5:k=X.length:=o7;have c:eB wr w.heap.size #[U G o.id,U G o.side,U G o.kind,U G o.price,U G s.q] 155:=hM.box;have o0:=aj (j:=0) c rfl;have o1:=aj (j:=1) c rfl;have o2:=aj (j:=2) c rfl;have o3:=aj (j:=3) c rfl;have o4:=aj (j:=4) c rfl;have u:Hid (dH al o X ⟨[],L,o.ak,[]⟩=(s,E_)):=by have:=P;rw[List.drop_eq_nil_of_le o7]at this;exact this.symm
   clear hM c;go_wp2_with fail;have l:=n.out.res;have z0:=aj (j:=0) l rfl;have z1:=aj (j:=1) l rfl;have z2:=aj (j:=2) l rfl;have z3:=aj (j:=3) l rfl;have z4:=aj (j:=4) l rfl;have f0:=aI (j:=0) l;have f1:=aI (j:=1) l;have f2:=aI (j:=2) l;have f3:=aI (j:=3) l;have f4:=aI (j:=4) l;have HE:Hid (dH al o (aP (3 - o.side) L) ⟨[],L,o.ak,[]⟩=(s,E_)):=by show _=_;rw[b3.out];exact u
   have i:=n.done d;unfold boxed eD ze at i;have a:Hid _:=i;clear l i;go_region
   all_goals go_wp2_with fail
   all_goals generalize(((((wr.setCell ⟨w.heap.size+1,0,B_⟩ (U G o.id)).setCell ⟨w.heap.size+1,1,B_⟩ (U G o.side)).setCell ⟨w.heap.size+1,2,B_⟩ (U G o.kind)).setCell ⟨w.heap.size+1,3,B_⟩ (U G o.price)).setCell ⟨w.heap.size+1,4,B_⟩ (U G s.q)).drew=wz at a⊢
   all_goals have e0:=aj (j:=0) a.out.1 rfl
   all_goals have e1:=aj (j:=1) a.out.1 rfl
   all_goals have e2:=aj (j:=2) a.out.1 rfl
   all_goals have e3:=aj (j:=3) a.out.1 rfl
   all_goals have e4:=aj (j:=4) a.out.1 rfl
   all_goals refine UA (by simp[results,results188,go_sem,e0,e1,e2,e3,e4];try rfl) rfl ?_
   all_goals exact MO HE o7 a.out.2
structure zf(eb pb nb:Nat)(vs:Array D_)(M:aG)(W:C_)(ts:List Int)(D:Nat->Prop):Prop where
 bn:dU W nb M.st M.dy M.an (iG M.la ts)
 ptr:W.heap[pb]? = A_ (R #[E (A_ ⟨eb,0,B_⟩)] 51 (0,0))
 box:W.heap[eb]? = A_ (R vs 151 (0,0))
 Kj:vs[1]? = A_ (E (A_ ⟨nb,0,B_⟩))
 rU:D=λj=>j=nb\/j=pb\/j=eb
def aSd(eb a nb:Nat)(vs:Array D_)(M:aG):vM (zf eb a nb vs M) where
 keep:=fun {w w' ts D S} h ho hS=>by
  have e:=h.rU;subst e;exact⟨aH h.bn ho (hS _ (RP rfl)),aH h.ptr ho (hS _ (RN (RP rfl))),aH h.box ho (hS _ (RN (RN rfl))),h.Kj,rfl⟩
 far:=fun {w ts D} h j hj=>by
  have e:=h.rU;subst e
  have go:∀{j:Nat} {us:Array D_} {t:RZ},w.heap[j]? = A_ (R us t (0,0))->t≠155->t≠164->j<w.heap.size/\∀vs t fr,w.heap[j]? = A_ (R vs t fr)->t≠155/\t≠164:=λh0 h1 h2=>⟨SK h0,λvs b fr h3=>by
   rw[h0]at h3;injection h3 with h3;injection h3 with _ h3 _;rw[<-h3];exact⟨h1,h2⟩⟩
  rcases hj with rfl|rfl|rfl
  ·exact go h.bn d7 d7
  ·exact go h.ptr d7 d7
  ·exact go h.box d7 d7
def aSc(eb a nb:Nat)(vs:Array D_)(M:aG):PS 189 #[E (A_ ⟨nb,0,B_⟩)] #[] (vT M) (zf eb a nb vs M) where
 enters:=λargs w=>by rfl
 tells:=fun {W ts D} h p _ _=>aMz nb M.st M.dy M.an (iG M.la ts) p W h.bn
def aSh(eb b nb:Nat)(vs:Array D_)(M:aG)(W:C_)(ts:List Int)(D:Nat->Prop)(p:Int)(h:zf eb b nb vs M W ts D)(hp:1<=p/\p<=1000000):
  Sj prog 190 #[U G p,E (A_ ⟨b,0,B_⟩)] W λe W'=>e=Y (.tuple #[])/\zf eb b nb vs M W' (ts++[p]) D/\Out D W W':=by
 have g:W.cell? ⟨b,0,B_⟩=A_ (E (A_ ⟨eb,0,B_⟩)):=aj (j:=0) h.ptr rfl;have i:=aj (j:=1) h.box h.Kj;have H:=ah h;clear h;go_enter func190,ntmps190;go_wp2_with fail;refine(aM7 nb M.st M.dy M.an (iG M.la ts) p W H.out.bn (DL hp)).mono ?_;rintro e w1 ⟨rfl,ho,c⟩;have a:=ah ho;have d:Hid _:=c;clear ho c;go_wp2_with fail;refine bodyPost_end (ZP rfl _ _ _) rfl ?_;have e:=H.out.rU;subst e;refine⟨rfl,⟨by rw[aD0];exact d.out,aH H.out.ptr a.out (kY H.out.ptr H.out.bn d7),aH H.out.box a.out (kY H.out.box H.out.bn d7),H.out.Kj,rfl⟩,?_⟩;exact⟨a.out.os,a.out.tape,a.out.output,a.out.size,λj f hn=>a.out.block j f (λe=>hn (RP e))⟩
def aSe(eb a nb:Nat)(vs:Array D_)(M:aG):Qi 190 #[] #[E (A_ ⟨a,0,B_⟩)] (zf eb a nb vs M) where
 enters:=λargs w=>by rfl
 tells:=fun {W ts D} h _ p h1 h2=>(aSh eb a nb vs M W ts D p h ⟨h1,h2⟩).mono λ_ _ ⟨he,hs,ho⟩=>⟨he,D,hs,ho,λ_ b=>RP b⟩
def Eg.bAs{pb:Nat}{q:List Ord}{ts:List Int}{r:Nat->Prop}(h:Eg w eb k M)(d:w.heap[pb]? = A_ (R #[E (A_ ⟨eb,0,B_⟩)] 51 (0,0)))(f:pb≠k.tb/\pb≠k.cb)(ho:Out (λj=>k.b.foot k.bb j\/(j=k.nb\/j=pb\/j=eb)) w w')(c:aK w (k.b.foot k.bb) (b'.foot k.bb))(o:Bk w' k.bb n b')(s:bD b'.S q)(u:k.m<=n)(l:zf eb pb k.nb (yt k M) M w' ts r):
  Eg w' eb { k with m:=n,b:=b' } { M with L:=q,la:=iG M.la ts }/\Out (λj=>k.foot eb j\/j=pb) w w'/\aK w (k.foot eb) ({ k with m:=n,b:=b':bC }.foot eb):=by
 have p:k.vp.ownBlock≠A_ pb:=bM h.pk d d7;have g:=h.tkn.ne d;refine⟨⟨l.box,⟨kZ h.tab.1 ho (λe=>?_),og h.tab.2 ho (λe=>?_)⟩,Sn h.oD ho.size,l.bn,o,s,cu h.pk ho (λj a e=>?_),h.tkn.same (ho.block _ h.tkn.lt (λe=>?_)),λe=>?_,RV h.few u,λj a e=>?_⟩,?_,?_⟩
 ·rcases e with e|e|e|e
  ·exact h.far _ (RP rfl) (RN (RN (RP e)))
  ·exact h.far _ (RP rfl) (RN (RP e))
  ·exact f.1 e.symm
  ·exact h.far _ (RP rfl) (RP e)
 ·rcases e with e|e|e|e
  ·exact h.far _ (RN rfl) (RN (RN (RP e)))
  ·exact h.far _ (RN rfl) (RN (RP e))
  ·exact f.2 e.symm
  ·exact h.far _ (RN rfl) (RP e)
 ·rcases e with e|e|e|e
  ·exact h.NI a e
  ·exact h.MX (by rw[<-e];exact a)
  ·exact p (by rw[<-e];exact a)
  ·exact h.yj (by rw[<-e];exact a)
 ·rcases e with e|e|e|e
  ·exact h.uF e
  ·exact h.MZ e.symm
  ·exact g e.symm
  ·exact h.Bq e.symm
 ·rcases c _ e with e|e
  ·exact h.uF e
  ·have v:w.heap.size<=k.tk:=e;have:=h.tkn.lt;omega
 ·have t:j<w.heap.size:=by
   rcases a with rfl|rfl
   ·exact h.Aq
   ·exact h.oD
  rcases e with e|e|e|e|e
  ·exact h.far j a (RP e)
  ·exact h.far j a (RN (RP e))
  ·rcases c j e with e|e
   ·exact h.far j a (RN (RN (RP e)))
   ·omega
  ·exact h.far j a (RN (RN (RN (RP e))))
  ·exact h.far j a (RN (RN (RN (RN e))))
 ·refine⟨ho.os,ho.tape,ho.output,ho.size,λi hi hn=>ho.block i hi (λe=>hn ?_)⟩;rcases e with e|e|e|e
  ·exact RP (RN (RN (RP e)))
  ·exact RP (RN (RP e))
  ·exact RN e
  ·exact RP (RP e)
 ·intro j a;rcases a with e|e|e|e|e
  ·exact RP (RP e)
  ·exact RP (RN (RP e))
  ·exact(c j e).imp (λe=>RN (RN (RP e))) id
  ·exact RP (RN (RN (RN (RP e))))
  ·exact RP (RN (RN (RN (RN e))))
def Eg.Gh{b size:Nat}(h:Eg w eb k M)(c:w.ownsRow b 164 size v n xs):∀j,v.ownBlock=A_ j->¬k.foot eb j:=λj a e=>by
 rcases e with e|e|e|e|e
 ·exact bM c h.box d7 (by rw[a,e])
 ·exact bM c h.bn d7 (by rw[a,e])
 ·exact h.bk.wI c d7 d7 d7 d7 d7 j a e
 ·exact nX c h.pk d7 a e
 ·rcases c.2 with⟨d,_⟩|⟨g,cap,f,d,_,i,_⟩
  ·rw[d]at a;cases a
  ·rw[d]at a;have e2:g=j:=by simpa[Uf]using a
   exact h.tkn.ne i (e2.trans e)
def zY(M:aG)(o:Ord):aG:={ M with L:=(bZ M o).1.L,la:=iG M.la (bZ M o).1.ts }
def aRy(eb pb:Nat)(k:bC)(M:aG)(o:Ord)(W:C_)(h:Eg W eb k M)(a:eB W pb #[E (A_ ⟨eb,0,B_⟩)] 51)(r:pb≠k.tb/\pb≠k.cb)(D:k.m<=700000)(B:o.side=1\/o.side=2)(A:-9223372036854775808<=o.ak/\o.ak<=9223372036854775807):
  Sj prog 188 #[E (A_ ⟨k.bb,0,B_⟩),.agg #[U G o.id,U G o.side,U G o.kind,U G o.price,U G o.ak],.func (.func 189) #[E (A_ ⟨k.nb,0,B_⟩)] #[],.func (.func 190) #[] #[E (A_ ⟨pb,0,B_⟩)]] W
   λe f=>∃(vf:D_) (b':aU),e=Y (.tuple #[vf,.agg #[U G o.id,U G o.side,U G o.kind,U G o.price,U G (bZ M o).1.q],.bool (bZ M o).2])/\f.ownsRow W.heap.size 164 4 vf (bZ M o).1.fs.length (fV (bZ M o).1.fs)
    /\Eg f eb { k with m:=k.m+100,b:=b' } (zY M o)/\Out (λj=>k.foot eb j\/j=pb) W f/\aK W (k.foot eb) ({ k with m:=k.m+100,b:=b':bC }.foot eb)
    /\eB f pb #[E (A_ ⟨eb,0,B_⟩)] 51
    /\∀(j:Nat) (vs:Array D_),k.vp.ownBlock≠A_ j->eB W j vs 155->eB f j vs 155:=by
 have u:zf eb pb k.nb (yt k M) M W [] (λj=>j=k.nb\/j=pb\/j=eb):=⟨h.bn,a,h.box,rfl,rfl⟩;have p:¬k.b.foot k.bb pb:=h.bk.kL a d7 d7 d7 d7 d7;refine(aOs k.bb k.m k.b M.L o _ _ _ _ _ _ (vT M) _ _ W h.bk o7 h.bU h.qV B A (aSd eb pb k.nb (yt k M) M) (aSc eb pb k.nb (yt k M) M) (aSe eb pb k.nb (yt k M) M) u (λj d e=>?_)).mono ?_
 ·rcases d with rfl|rfl|rfl
  ·exact h.MW e
  ·exact p e
  ·exact h.yh e
 ·rintro e f ⟨s,t,vf,b',F,C,n,l,rfl,g,i,z,c,ho,v,_⟩;have e1:bZ M o=(s,t):=n;unfold zY;rw[e1];obtain⟨w,x,y⟩:=h.bAs a r ho v (i.more l o7) z (Tk _ _) c;refine⟨vf,b',rfl,g,w,x,y,c.ptr,λj vs hv d=>aH d ho (λe=>?_)⟩;rcases e with e|e|e|e
  ·exact h.bk.kL d d7 d7 d7 d7 d7 e
  ·exact kY d h.bn d7 e
  ·exact kY d a d7 e
  ·exact kY d h.box d7 e
structure sV(eb pb ob:Nat)(k:bC)(o:Ord)(w:C_):Prop where
 p0:aF w pb 0 (E (A_ ⟨eb,0,B_⟩))
 e2:aF w eb 2 (E (A_ ⟨k.bb,0,B_⟩))
 e1:aF w eb 1 (E (A_ ⟨k.nb,0,B_⟩))
 o0:aF w ob 0 (U G o.id)
 o1:aF w ob 1 (U G o.side)
 o2:aF w ob 2 (U G o.kind)
 o3:aF w ob 3 (U G o.price)
 o4:aF w ob 4 (U G o.ak)
def vY{a:J_}(h:w.cell? a=A_ v)(b:bW w w'):w'.cell? a=A_ v:=(b.cell (SN w _ h)).trans h
def sV.oN{b:Nat}(h:sV eb c b k o w)(a:bW w w'):sV eb c b k o w':=
 ⟨vY h.p0 a,vY h.e2 a,vY h.e1 a,vY h.o0 a,vY h.o1 a,vY h.o2 a,vY h.o3 a,vY h.o4 a⟩
def xV{a:J_}(h:w.cell? a=A_ v)(hn:lb≠a.block)(u:D_):(w.setCell ⟨lb,i,B_⟩ u).cell? a=A_ v:=kZ h (bL w ⟨lb,i,B_⟩ u) (λe=>hn e.symm)
def sV.set{b:Nat}(h:sV eb b a k o w)(hn:lb≠b/\lb≠eb/\lb≠a)(i:Nat)(u:D_):sV eb b a k o (w.setCell ⟨lb,i,B_⟩ u):=
 ⟨xV h.p0 hn.1 u,xV h.e2 hn.2.1 u,xV h.e1 hn.2.1 u,xV h.o0 hn.2.2 u,xV h.o1 hn.2.2 u,xV h.o2 hn.2.2 u,xV h.o3 hn.2.2 u,xV h.o4 hn.2.2 u⟩
def sV.open{b:Nat}(h:sV eb b a k o w):aF w b 0 (E (A_ ⟨eb,0,B_⟩))/\aF w eb 2 (E (A_ ⟨k.bb,0,B_⟩))/\aF w eb 1 (E (A_ ⟨k.nb,0,B_⟩))/\aF w a 0 (U G o.id)/\aF w a 1 (U G o.side)/\aF w a 2 (U G o.kind)/\aF w a 3 (U G o.price)/\aF w a 4 (U G o.ak):=⟨h.p0,h.e2,h.e1,h.o0,h.o1,h.o2,h.o3,h.o4⟩
def Eg.aTl(h:Eg w eb k M)(a:eB w j vs 155)(hv:k.vp.ownBlock≠A_ j):¬k.foot eb j:=λe=>by
 rcases e with e|e|e|e|e
 ·exact kY a h.box d7 e
 ·exact kY a h.bn d7 e
 ·exact h.bk.kL a d7 d7 d7 d7 d7 e
 ·exact hv e
 ·exact h.tkn.ne a e
def aZ.boxed{w w2:C_}{eb lb:Nat}{k k2:bC}{M2:aG}{vs:Array D_}(b:aZ w w2 eb k k2 M2)(i:eB w2 lb vs 155)(c:w.heap.size<=lb)(d:k2.tb≠lb/\k2.cb≠lb)(hv:k2.vp.ownBlock≠A_ lb)(x:Ord):aZ w (boxed w2 lb x) eb k k2 M2:=by
 have ho:=FJ w2 lb x;have g:=b.1.aTl i hv;refine⟨b.1.out ho (λj a e=>?_),b.2.1.trans ho (λj a=>RN (by rw[show j=lb from a];exact c)),b.2.2⟩;have f:j=lb:=e;subst f;rcases a with a|a|a
 ·exact g a
 ·exact d.1 a.symm
 ·exact d.2 a.symm
def Fv(w:C_)(eb:Nat)(k:bC)(M:aG)(o:Ord)(u5 u6 u7:D_)(wc:C_):Prop:=
 ∃(lb:Nat) (b':aU),u6=E (A_ ⟨lb,0,B_⟩)/\u7=.bool (bZ M o).2/\wc.ownsRow w.heap.size 164 4 u5 (bZ M o).1.fs.length (fV (bZ M o).1.fs)/\iM wc lb (eD o (bZ M o).1.q)/\w.heap.size<=lb/\aZ w wc eb k { k with m:=k.m+100,b:=b' } (zY M o)/\eB wc w.heap.size #[E (A_ ⟨eb,0,B_⟩)] 51
def bHo(c:w2.ownsRow w.heap.size 164 4 vf (bZ M o).1.fs.length (fV (bZ M o).1.fs))(a:aZ w w2 eb k { k with m:=k.m+100,b:=b' } (zY M o))(hp:eB w2 w.heap.size #[E (A_ ⟨eb,0,B_⟩)] 51):
  Fv w eb k M o vf (E (A_ ⟨w2.heap.size,0,B_⟩)) (.bool (bZ M o).2) (w2.alloc (R #[U G o.id,U G o.side,U G o.kind,U G o.price,U G (bZ M o).1.q] 155)):=
 ⟨w2.heap.size,b',rfl,rfl,jw c (aM _ _) au,RU w2 _,a.2.1.size,a.oN (aM _ _),aL hp (aM _ _) au⟩
def bHp(d:w2.ownsRow w.heap.size 164 4 vf (bZ M o).1.fs.length (fV (bZ M o).1.fs))(f:aZ w w2 eb k { k with m:=k.m+100,b:=b' } (zY M o))(hp:eB w2 w.heap.size #[E (A_ ⟨eb,0,B_⟩)] 51)(c:CP w2 lb)(a:w.heap.size<=lb)(i:k.tb≠lb/\k.cb≠lb)(hv:k.vp.ownBlock≠A_ lb):
  Fv w eb k M o vf (E (A_ ⟨lb,0,B_⟩)) (.bool (bZ M o).2) (((((w2.setCell ⟨lb,0,B_⟩ (U G o.id)).setCell ⟨lb,1,B_⟩ (U G o.side)).setCell ⟨lb,2,B_⟩ (U G o.kind)).setCell ⟨lb,3,B_⟩ (U G o.price)).setCell ⟨lb,4,B_⟩ (U G (bZ M o).1.q)):=
 show Fv w eb k M o vf _ _ (boxed w2 lb (eD o (bZ M o).1.q)) from⟨lb,b',rfl,rfl,cu d (FJ _ _ _) (λj g e=>bM d c d7 (by rw[g];exact RJ A_ e)),Rj _ c,a,f.boxed c a i hv _,aH hp (FJ _ _ _) (λe=>kY hp c d7 e)⟩
def aSi(eb:Nat)(k:bC)(M:aG)(o:Ord)(w:C_)(h:Eg w eb k M)(hm:k.m<=700000)(hs:o.side=1\/o.side=2)(hq:-9223372036854775808<=o.ak/\o.ak<=9223372036854775807)(b1:(Tv .i64 o.id).wf=G_)(hn:0<=M.now/\M.now<=1000000000000)(ht:0<=M.ti/\M.ti<=1000000000000):
  Sj prog 135 #[E (A_ ⟨eb,0,B_⟩),o.agg] w λe w'=>∃vf k',e=Y vf/\w'.ownsRow w.heap.size 164 4 vf (nC M o).1.length (fV (nC M o).1)/\aZ w w' eb k k' (nC M o).2/\k'.m<=k.m+101:=by
 have H:=ah h;have HS:=ah hs;have c1:=ah b1;have b6:w.heap.size≠k.tb/\w.heap.size≠k.cb:=⟨by have:=h.Aq;omega,by have:=h.oD;omega⟩;have a7:=ah b6;clear h hs b1 b6;unfold Ord.agg;go_enter func135,ntmps135;go_upto_region 1 with fail;have F:=gu w (R #[E (A_ ⟨eb,0,B_⟩)] 51) (R #[U G o.id,U G o.side,U G o.kind,U G o.price,U G o.ak] 155);have J:=rz w (R #[E (A_ ⟨eb,0,B_⟩)] 51) (R #[U G o.id,U G o.side,U G o.kind,U G o.price,U G o.ak] 155);have l:=pR w (R #[E (A_ ⟨eb,0,B_⟩)] 51) (R #[U G o.id,U G o.side,U G o.kind,U G o.price,U G o.ak] 155);generalize(w.alloc (R #[E (A_ ⟨eb,0,B_⟩)] 51)).alloc (R #[U G o.id,U G o.side,U G o.kind,U G o.price,U G o.ak] 155)=w1 at F J l⊢;have n:=ah F;have a5:Hid _:=J;have a4:Hid _:=l;have H1:=ah (H.below F);have a9:Hid (sV eb w.heap.size (w.heap.size+1) k o w1):=⟨aj (j:=0) J rfl,aj (j:=2) H1.box rfl,aj (j:=1) H1.box rfl,aj (j:=0) l rfl,aj (j:=1) l rfl,aj (j:=2) l rfl,aj (j:=3) l rfl,aj (j:=4) l rfl⟩;have b9:∀j,w.heap.size<=j->k.vp.ownBlock≠A_ j:=λj hj e=>by have:=(H.pk.lt j e).2;omega
 have S:=ah b9;have v:Hid (w1.heap.size≠w.heap.size/\w1.heap.size≠eb/\w1.heap.size≠w.heap.size+1):=by have a1:=SK l;have a2:=SK H.box;exact⟨o7,o7,o7⟩
 have a0:Hid (k.tb≠w1.heap.size/\k.cb≠w1.heap.size):=by have a1:=n.size;have a2:=H.oD;have a3:=H.Aq;exact⟨o7,o7⟩
 clear F J l b9;go_cut [5,6,7] from 8 to 23 (λu5 u6 u7 wc=>Fv w eb k M o u5 u6 u7 wc)
 case first=>
  go_region_held3 (λw'=>aF w' w.heap.size 0 (E (A_ ⟨eb,0,B_⟩))/\aF w' eb 2 (E (A_ ⟨k.bb,0,B_⟩))/\aF w' eb 1 (E (A_ ⟨k.nb,0,B_⟩))/\aF w' (w.heap.size+1) 0 (U G o.id)/\aF w' (w.heap.size+1) 1 (U G o.side)/\aF w' (w.heap.size+1) 2 (U G o.kind)/\aF w' (w.heap.size+1) 3 (U G o.price)/\aF w' (w.heap.size+1) 4 (U G o.ak))
   ((refine sV.open ?_;first|exact((((b0.set v 0 _).set v 1 _).set v 2 _).set v 3 _).set v 4 _|(refine b0.oN ?_;(repeat' first|assumption|exact RS _ _|exact au|refine Um ?_|refine TR ?_ ?_ _|(simp;done)|(simp;omega)))|(refine a9.oN ?_;(repeat' first|assumption|exact RS _ _|exact au|refine Um ?_|refine TR ?_ ?_ _|(simp;done)|(simp;omega)))))
   ((go_at_call 188;refine(aRy eb w.heap.size k M o _ (H1.below ?_) (aL a5 ?_ au) a7 hm HS hq).mono ?_;((repeat' first|assumption|exact RS _ _|exact au|refine Um ?_|refine TR ?_ ?_ _|(simp;done)|(simp;omega)));((repeat' first|assumption|exact RS _ _|exact au|refine Um ?_|refine TR ?_ ?_ _|(simp;done)|(simp;omega)));rintro e w2 ⟨vf,b',rfl,b8,I,b5,c0,V,g⟩;have A:=g (w.heap.size+1) _ (S _ o7) (aL a4 (by(repeat' first|assumption|exact RS _ _|exact au|refine Um ?_|refine TR ?_ ?_ _|(simp;done)|(simp;omega))) au);have b0:Hid (sV eb w.heap.size (w.heap.size+1) k o w2):=⟨aj (j:=0) V rfl,aj (j:=2) I.box rfl,aj (j:=1) I.box rfl,aj (j:=0) A rfl,aj (j:=1) A rfl,aj (j:=2) A rfl,aj (j:=3) A rfl,aj (j:=4) A rfl⟩;have Z:Hid (aZ w w2 eb k { k with m:=k.m+100,b:=b' } (zY M o)):=⟨I,(Sz (aJ n (by(repeat' first|assumption|exact RS _ _|exact au|refine Um ?_|refine TR ?_ ?_ _|(simp;done)|(simp;omega)))) au).trans b5 (λj hj=>hj.imp id (λe=>by rw[e];exact au)),λj hj=>(c0 j hj).imp id (λe=>RV (aJ n (by(repeat' first|assumption|exact RS _ _|exact au|refine Um ?_|refine TR ?_ ?_ _|(simp;done)|(simp;omega)))).size e),rfl,rfl⟩;have a8:Hid _:=qB b8 (aJ n (by(repeat' first|assumption|exact RS _ _|exact au|refine Um ?_|refine TR ?_ ?_ _|(simp;done)|(simp;omega)))).size;have a6:Hid _:=V;(try(have d:=g w1.heap.size #[U G 0,U G 0,U G 0,U G 0,U G 0] (S _ n.size) (RU _ _);have z0:=aj (j:=0) d rfl;have z1:=aj (j:=1) d rfl;have z2:=aj (j:=2) d rfl;have z3:=aj (j:=3) d rfl;have z4:=aj (j:=4) d rfl;have y0:=aI (j:=0) d;have y1:=aI (j:=1) d;have y2:=aI (j:=2) d;have y3:=aI (j:=3) d;have y4:=aI (j:=4) d;have c2:Hid _:=d;clear d));clear b8 I b5 c0 V g A))
  all_goals go_wp2_with fail
  all_goals go_meet
  all_goals first|exact bHp (lb:=w1.heap.size) a8 Z a6 c2 n.size a0 (S _ n.size)|exact bHo a8 Z a6
 case rest=>
  clear a9 a5 a4 n H1 v a0 a7;obtain⟨lb,b',rfl,rfl,hr,C,c3,hg,hp⟩:=hcut;have y:Hid (nC M o=((bZ M o).1.fs,if(bZ M o).2=G_ then sM { M with L:=if 0<(bZ M o).1.q/\o.kind≠2 then fF (eD o (bZ M o).1.q) (bZ M o).1.L else(bZ M o).1.L,la:=iG M.la (bZ M o).1.ts }else { M with L:=if 0<(bZ M o).1.q/\o.kind≠2 then fF (eD o (bZ M o).1.q) (bZ M o).1.L else(bZ M o).1.L,la:=iG M.la (bZ M o).1.ts })):=rfl;unfold zY at hg;generalize bZ M o=mt at hr C hg y⊢;obtain⟨s,t⟩:=mt;dsimp only at hr C hg y⊢;have HR:=ah hr;have HX:=ah C;have W:=ah hg;have HP:=ah hp;have x0:aF wc lb 0 (U G o.id):=aj (j:=0) C rfl;have x1:aF wc lb 1 (U G o.side):=aj (j:=1) C rfl;have x2:aF wc lb 2 (U G o.kind):=aj (j:=2) C rfl;have x3:aF wc lb 3 (U G o.price):=aj (j:=3) C rfl;have x4:aF wc lb 4 (U G s.q):=aj (j:=4) C rfl;have p0:aF wc w.heap.size 0 (E (A_ ⟨eb,0,B_⟩)):=aj (j:=0) hp rfl;clear hr C hg hp
  by_cases X:0<s.q/\o.kind≠2
  ·have Q:Hid (nC M o=(s.fs,if t=G_ then sM { M with L:=fF (eD o s.q) s.L,la:=iG M.la s.ts }else { M with L:=fF (eD o s.q) s.L,la:=iG M.la s.ts })):=by show _=_;rw[y.out,RF X]
   obtain⟨b7,g⟩:=X;have kb:(o.kind != 2)=G_:=by simpa using g
   clear g y;go_wp2_with fail;have r:=RU wc (R #[U G o.id,U G o.side,U G o.kind,U G o.price,U G s.q] 155);have z:=aM wc (R #[U G o.id,U G o.side,U G o.kind,U G o.price,U G s.q] 155);generalize wc.alloc (R #[U G o.id,U G o.side,U G o.kind,U G o.price,U G s.q] 155)=w3 at r z⊢;have h3:=W.out.1.below z
   have N:∀b off,A_ (⟨wc.heap.size,0,B_⟩:J_)=A_ ⟨b,off,B_⟩->¬b'.foot k.bb b:=λb off e=>by
    injection e with e;injection e with e _ _;rw[<-e];exact h3.bk.kL r d7 d7 d7 d7 d7
   have b2:jV w3 (A_ ⟨wc.heap.size,0,B_⟩) [eD o s.q]:=λi hi=>by
    have e:i=0:=by simp at hi;omega
    subst e;exact⟨wc.heap.size,0,rfl,aj (j:=0) r rfl,aj (j:=1) r rfl,aj (j:=2) r rfl,aj (j:=3) r rfl,aj (j:=4) r rfl⟩
   have u:=ah (W.oN z);have P:Hid (w3.ownsRow w.heap.size 164 4 u5 s.fs.length (fV s.fs)):=jw HR z au;have O:Hid _:=aL HP z au;clear r z h3 x0 x1 x2 x3 x4 p0 W HR HP HX;refine(Gc eb { k with m:=k.m+100,b:=b' } { M with L:=s.L,la:=iG M.la s.ts } (A_ ⟨wc.heap.size,0,B_⟩) 1 [eD o s.q] w3 u.out.1 b2 (λx C=>by rw[List.mem_singleton.1 C];exact c1) N (by show k.m+100+1<=900000;omega)).mono ?_;rintro e w4 ⟨rfl,b4,b3,T⟩;have h4:=u.out.1.wW T b3 (Tk _ _);have a:=ah (u.trans h4);have c:=ah (cu P h4.2.1 (u.out.1.Gh P));have D:Hid (eB w4 w.heap.size #[E (A_ ⟨eb,0,B_⟩)] 51):=aH O T.2.1 (u.out.1.bk.kL O d7 d7 d7 d7 d7);clear b3 T h4 u P O b2 N;cases t with
   |true=>
    have f:Hid (nC M o=(s.fs,sM { M with L:=fF (eD o s.q) s.L,la:=iG M.la s.ts })):=by show _=_;rw[Q.out];rfl
    have p4:aF w4 w.heap.size 0 (E (A_ ⟨eb,0,B_⟩)):=aj (j:=0) D rfl;go_wp2_with fail;refine(Gb eb { k with m:=k.m+100+1,b:=b4 } { M with L:=fF (eD o s.q) s.L,la:=iG M.la s.ts } w4 a.out.1 hn ht).mono ?_;rintro e w5 ⟨rfl,B⟩;have K:=ah B;have p:=ah (cu c B.2.1 (a.out.1.Gh c));clear B;go_wp2_with fail;go_ret;rw[f.out]
    first|exact⟨u5,_,rfl,p,a.trans K,(by show k.m+100+1<=k.m+101;omega)⟩|exact⟨u5,rfl,p,_,a.trans K,(by show k.m+100+1<=k.m+101;omega)⟩
   |false=>
    have f:Hid (nC M o=(s.fs,{ M with L:=fF (eD o s.q) s.L,la:=iG M.la s.ts })):=by show _=_;rw[Q.out];rfl
    go_wp2_with fail;go_ret;rw[f.out]
    first|exact⟨u5,_,rfl,c,a,(by show k.m+100+1<=k.m+101;omega)⟩|exact⟨u5,rfl,c,_,a,(by show k.m+100+1<=k.m+101;omega)⟩
  ·have Q:Hid (nC M o=(s.fs,if t=G_ then sM { M with L:=s.L,la:=iG M.la s.ts }else { M with L:=s.L,la:=iG M.la s.ts })):=by show _=_;rw[y.out,RD X]
   clear y HX;generalize wc=w4 at W HR HP x0 x1 x2 x3 x4 p0⊢;have a:=ah W;have c:=ah HR;have D:=ah HP;clear W HR HP
   by_cases b7:0<s.q
   ·have g:o.kind=2:=Classical.byContradiction (λe=>X ⟨b7,e⟩);have kb:(o.kind != 2)=E_:=by simp[g]
    clear g X;cases t with
    |true=>
     have f:Hid (nC M o=(s.fs,sM { M with L:=s.L,la:=iG M.la s.ts })):=by show _=_;rw[Q.out];rfl
     have p4:aF w4 w.heap.size 0 (E (A_ ⟨eb,0,B_⟩)):=aj (j:=0) D rfl;go_wp2_with fail;refine(Gb eb { k with m:=k.m+100,b:=b' } { M with L:=s.L,la:=iG M.la s.ts } w4 a.out.1 hn ht).mono ?_;rintro e w5 ⟨rfl,B⟩;have K:=ah B;have p:=ah (cu c B.2.1 (a.out.1.Gh c));clear B;go_wp2_with fail;go_ret;rw[f.out]
     first|exact⟨u5,_,rfl,p,a.trans K,(by show k.m+100<=k.m+101;omega)⟩|exact⟨u5,rfl,p,_,a.trans K,(by show k.m+100<=k.m+101;omega)⟩
    |false=>
     have f:Hid (nC M o=(s.fs,{ M with L:=s.L,la:=iG M.la s.ts })):=by show _=_;rw[Q.out];rfl
     go_wp2_with fail;go_ret;rw[f.out]
     first|exact⟨u5,_,rfl,c,a,(by show k.m+100<=k.m+101;omega)⟩|exact⟨u5,rfl,c,_,a,(by show k.m+100<=k.m+101;omega)⟩
   ·clear X;cases t with
    |true=>
     have f:Hid (nC M o=(s.fs,sM { M with L:=s.L,la:=iG M.la s.ts })):=by show _=_;rw[Q.out];rfl
     have p4:aF w4 w.heap.size 0 (E (A_ ⟨eb,0,B_⟩)):=aj (j:=0) D rfl;go_wp2_with fail;refine(Gb eb { k with m:=k.m+100,b:=b' } { M with L:=s.L,la:=iG M.la s.ts } w4 a.out.1 hn ht).mono ?_;rintro e w5 ⟨rfl,B⟩;have K:=ah B;have p:=ah (cu c B.2.1 (a.out.1.Gh c));clear B;go_wp2_with fail;go_ret;rw[f.out]
     first|exact⟨u5,_,rfl,p,a.trans K,(by show k.m+100<=k.m+101;omega)⟩|exact⟨u5,rfl,p,_,a.trans K,(by show k.m+100<=k.m+101;omega)⟩
    |false=>
     have f:Hid (nC M o=(s.fs,{ M with L:=s.L,la:=iG M.la s.ts })):=by show _=_;rw[Q.out];rfl
     go_wp2_with fail;go_ret;rw[f.out]
     first|exact⟨u5,_,rfl,c,a,(by show k.m+100<=k.m+101;omega)⟩|exact⟨u5,rfl,c,_,a,(by show k.m+100<=k.m+101;omega)⟩
end Go.Proofs.YtpodibeogglplaaGreatDoor
