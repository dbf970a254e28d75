/- DeskAnswers -/
import Derived.Test.YtaelphbianmckaaGreatDoorSL
import Derived.Test.YtaelphbianmckaaGreatDoorSK
open Go.Value renaming int->U, pointer->E, slice->J
open Go.IntKind renaming i64->G
open Go.Obj renaming cells->R
open Go.Ending renaming returned->Y
open Go.Proofs.Tryz
open Go.RowKit.Below renaming refl->aF
open List renaming mem_cons->aR, length_append->aN, length_singleton->bD, nil_append->bX, mem_map_of_mem->dM
open Nat renaming lt_of_lt_of_le->aT, le_trans->aI, zero_add->bT
open Or renaming inr->aG, inl->aH
open Go.Proofs.YtaelphbianmckaaGreatDoor.Out renaming of_below->aL, refl->bL
open Go.Value.slice renaming injEq->aY
open Go.Proofs.YtaelphbianmckaaGreatDoor.Went renaming refl->aJ
open Go.World renaming ownsRow_nil->aU, news_of_block->bJ
set_option maxHeartbeats 4000000
set_option maxRecDepth 4000
namespace Go.Proofs.YtaelphbianmckaaGreatDoor
variable {I:List Int} {k:Nat} {w:World}
section
open Go.RowKit
def oBox (p:Ord):Obj:=R #[U G p.id,U G p.side,U G p.kind,U G p.price,U G p.qty] 92 (0,0)
structure OrdBx (w W:World) (mb:Nat) (p:Ord):Prop where
 ptr:bJ0 W w.heap.size #[E (some ⟨mb,0,none⟩)] 55
 box:W.heap[w.heap.size+1]? = some (oBox p)
theorem OrdBx.below {w W a:World} {mb:Nat} {p:Ord} (h:OrdBx w W mb p) (b:aL0 W a):OrdBx w a mb p:=⟨aE0 h.ptr b lR7,aE0 h.box b lR7⟩
theorem OrdBx.out {w W a:World} {mb:Nat} {p:Ord} (h:OrdBx w W mb p) (b:Out (fun j=>j=mb) W a) (c:mb<w.heap.size):OrdBx w a mb p:=⟨aF0 h.ptr b (fun e=>by have:w.heap.size=mb:=e;omega),aF0 h.box b (fun e=>by have:w.heap.size+1=mb:=e;omega)⟩
def inM (mb:Nat) (vi:Value):Nat->Prop:=fun j=>j=mb\/vi.ownBlock=some j
theorem cF2 {P:Program} {D:Array Oper} {o:Oper} {a:Act} {K:Act->World->Prop} {Q:Exit->Act->World->Prop} {E:Prop}
  (Z:o.guard=none) (s x:Operand) (t:TypeId) (A:o.op=Op.call { callee:=Callee.builtin Builtin.append,args:=#[s,x],argTypes:=#[t,t] })
  (base:Nat) (e:TypeId) (i:TypeInfo) (z:Value) (b bytes:Nat) (S:P.underlying t=some (.slice e)) (hi:P.info? e=some i) (U:i.zero=some z)
  (p:i.size=b) (y:i.bytes=bytes) (C:z.cells.size=b) (B:0<b)
  (v:Value) (n:Nat) (xs:List Value) (R:a.eval s=v) (l:w.ownsRow base e b v n xs)
  (q:Addr) (m c:Nat) (news:List Value) (T:a.eval x=.slice (some q) m c) (O:news.length=m*b) (k:∀j u,news[j]? = some u->w.cell? (q.add j)=some u) (h1:∀u∈news,u.oneCell'=true)
  (r:n+m<=maxLen) (d:(n+m)*bytes<=140737488355328) (f:base<=w.heap.size)
  (h:∀v' w',w'.ownsRow base e b v' (n+m) (xs++news)->w.grownBy w' v.ownBlock->(∀j,v'.ownBlock=some j->v.ownBlock=some j\/w.heap.size<=j)->K (a.put o.dst v') w'):
  if Region.wanted o (yielded D a.tmps)=true then Oper.wp P o a w K Q else E:=by
 have hw:Region.wanted o (yielded D a.tmps)=true:=by simp [Region.wanted,Z]
 rw [aB hw];have L:=l.2;rcases L with ⟨M,hn⟩ | ⟨g,H,V,M,_⟩
 ·subst hn;subst M;have J:xs=[]:=by have:=l.1;simpa using this
  subst J;exact wp_append_own w s x t A w.heap.size e i z b bytes S hi U p y C B (.slice none 0 0) 0 [] R (aU _ _ _ _) q m c news T O k h1 r d lR7 (fun v' w' F I _=>h v' w' (bW0 F f) I (fun j G=>aG (F.lt j G).1))
 ·subst M
  exact kR0 w s x t A base e i z b bytes S hi U p y C B g n H xs R l (some q) m c news T O (aG ⟨q,rfl,k⟩) h1 r d f (fun X N w' F I Y _=>h _ w' F I (fun j G=>by
   have W:X=j:=by simpa [Value.ownBlock] using G
   subst W;rcases Y with rfl | rfl
   ·exact aH G
   ·exact aG lR7))
theorem mF0 {P:Program} {c:Array Oper} {Q:Exit->Act->World->Prop} {f:Region.Mode} {S:Nat->World->Prop} {L:Nat->Nat->Bool} {i j:Nat} {g l:Oper} {e:Nat} {b:Array Bool} {a:Act} (q:Region.ready f c b=[i,j]) (hi:c[i]? = some g) (s:c[j]? = some l)
  (h1:∀d:Act->World->Prop,Shut (∀a w',(∀n,L n i=false->S n w->S n w')->eP0 P f c Q S L e (b.setIfInBounds i true) a w'->d a w')->if Region.wanted g (yielded c a.tmps)=true then Oper.wp P g a w d Q else d (a.put g.dst undef) w)
  (r:∀d:Act->World->Prop,Shut (∀a w',(∀n,L n j=false->S n w->S n w')->eP0 P f c Q S L e (b.setIfInBounds j true) a w'->d a w')->if Region.wanted l (yielded c a.tmps)=true then Oper.wp P l a w d Q else d (a.put l.dst undef) w):eP0 P f c Q S L (e+1) b a w:=
 ⟨fun h0=>(by rw [q] at h0;cases h0),fun k hk=>by
  rw [q] at hk;rcases aR.1 hk with rfl | hk
  ·exact wpOp_step hi (fun d m=>h1 d (fun a w' o p=>m a w' ⟨o,p⟩))
  ·rcases aR.1 hk with rfl | hk
   ·exact wpOp_step s (fun d m=>r d (fun a w' o p=>m a w' ⟨o,p⟩))
   ·cases hk⟩
theorem MkIs.grew {W V w1:World} {F:Nat->Prop} {base mb b c:Nat} {m:Mkt} {f g a:Value} (h:MkIs W F base mb b c m f g a) (d:aL0 W V) (i:V.grownBy w1 a.ownBlock):
  bJ0 w1 mb (mkV (J (some ⟨b,0,none⟩) m.rs.length c) m f g a) 103/\Out (fun j=>a.ownBlock=some j) W w1:=by
 have hV:=h.below d;have e:Out (fun j=>a.ownBlock=some j) V w1:=Out.of_grown i (fun k hk=>hk);exact ⟨aF0 hV.box e (aH0 hV.ids hV.box d7),(aL d lR7).trans e (fun k hk=>aH hk)⟩
theorem MkIs.took {W w1:World} {F:Nat->Prop} {base mb f l:Nat} {m:Mkt} {o p g v1:Value} {id:Int} (h:MkIs W F base mb f l m o p g) (b:Out (fun j=>g.ownBlock=some j) W w1) (h1:w1.ownsRow base 3 1 v1 (m.I.length+1) (nV m.I++[U G id])) (r:f<base) (i:∀j,v1.ownBlock=some j->¬F j):
  MkIs (w1.setCell ⟨mb,9,none⟩ v1) F base mb f l { m with I:=m.I++[id] } o p v1/\Out (inM mb g) W (w1.setCell ⟨mb,9,none⟩ v1):=by
 have a:=aF0 h.box b (aH0 h.ids h.box d7);have s:=eG0 h.tab b (fun e=>by have:=(h.ids.lt f e).1;omega);have hk:=aK0 h.bk b (fun k hk=>bP0 h.bk h.ids d7 hk);have n:=aK0 h.pk b (fun k hk=>bP0 h.pk h.ids d7 hk)
 have hi:w1.ownsRow base 3 1 v1 (m.I++[id]).length (nV (m.I++[id])):=by
  rw [aN,bD,show nV (m.I++[id])=nV m.I++[U G id] by simp [nV]];exact h1
 have d:=aM0 w1 ⟨mb,9,none⟩ v1;refine ⟨⟨aJ0 (j:=9) v1 a,eG0 s d h.tne,h.tne,aK0 hk d (fun k c e=>aH0 hk a d7 (c.trans (congrArg some e))),aK0 n d (fun k c e=>aH0 n a d7 (c.trans (congrArg some e))),aK0 hi d (fun k c e=>aH0 hi a d7 (c.trans (congrArg some e))),fun j c=>aT (h.lim j c) (aI b.size d.size),h.farb,h.farp,i⟩,?_⟩;refine Out.trans (S:=inM mb g) ⟨b.os,b.tape,b.output,b.size,fun j c q=>b.block j c (fun e=>q (aG e))⟩ d (fun k hk=>aH (aH hk))
theorem cF1 {W W':World} {mb:Nat} {c:Value} (h:Out (fun j=>j=mb) W W'):Out (inM mb c) W W':=⟨h.os,h.tape,h.output,h.size,fun j b a=>h.block j b (fun e=>a (aH e))⟩
theorem OrdBx.outI {w W a:World} {mb:Nat} {p:Ord} {d:Value} (h:OrdBx w W mb p) (b:Out (fun j=>d.ownBlock=some j) W a) (c:∀j,d.ownBlock=some j->j<w.heap.size):OrdBx w a mb p:=⟨aF0 h.ptr b (fun e=>by have:=c _ e;omega),aF0 h.box b (fun e=>by have:=c _ e;omega)⟩
def iAt (I:List Int) (k:Nat):Int:=I.getD k 0
theorem fZ2 {base:Nat} {v:Value} (h:w.ownsRow base 3 1 v I.length (nV I)) (hk:k<I.length):∃g a,v=J (some ⟨g,0,none⟩) I.length a/\aC0 w g k (U G (iAt I k)):=by
 obtain ⟨g,a,rfl,_,_⟩:=h.form o7;refine ⟨g,a,rfl,?_⟩;have h1:=h.cellAt k o7;rw [show (nV I)[k]? = some (U G (iAt I k)) by simp [nV,iAt,hk]] at h1;exact h1
theorem cG2 (h:k<I.length):I.drop k=iAt I k::I.drop (k+1):=by
 rw [List.drop_eq_getElem_cons h];simp [iAt,h]
theorem cH2 (h:k<I.length):iAt I k∈I:=by
 simp [iAt,h]
theorem MkIs.ban {W c:World} {F:Nat->Prop} {base mb d f lb:Nat} {m:Mkt} {g i vi:Value} (h:MkIs W F base mb d f m g i vi) (l:aL0 W c) (h1:W.heap.size<=lb) (k:lb<c.heap.size):MkIs c (fun j=>F j\/j=lb) base mb d f m g i vi:=by
 have b:=h.below l;refine ⟨b.box,b.tab,b.tne,b.bk,b.pk,b.ids,fun j a=>a.elim (b.lim j) (fun e=>by rw [e];exact k),fun j a e=>e.elim (h.farb j a) (fun e=>?_),fun j a e=>e.elim (h.farp j a) (fun e=>?_),fun j a e=>e.elim (h.fari j a) (fun e=>?_)⟩
 ·have:=(h.bk.lt j a).2;omega
 ·have:=(h.pk.lt j a).2;omega
 ·have:=(h.ids.lt j a).2;omega
theorem MkIs.unban {W d:World} {F:Nat->Prop} {base mb c f lb:Nat} {m:Mkt} {g i vi:Value} (h:MkIs W (fun j=>F j\/j=lb) base mb c f m g i vi) (b:Out (fun j=>j=lb) W d) (h1:mb≠lb) (k:c≠lb):MkIs d F base mb c f m g i vi:=
 ⟨aF0 h.box b h1,eG0 h.tab b k,h.tne,aK0 h.bk b (fun j a e=>h.farb j a (aG e)),aK0 h.pk b (fun j a e=>h.farp j a (aG e)),aK0 h.ids b (fun j a e=>h.fari j a (aG e)),fun j a=>aT (h.lim j (aH a)) b.size,fun j a e=>h.farb j a (aH e),fun j a e=>h.farp j a (aH e),fun j a e=>h.fari j a (aH e)⟩
theorem eX1 (a:List Int->Int->Bool) (o:Ord):∀(X:List Ord) (s:MS),(cC0 a o X s).1.L.length<=s.L.length
 | [],s=>by unfold cC0;exact lR7
 | x::T,s=>by
  by_cases h0:s.q<=0
  ·rw [eC0 h0];exact lR7
  by_cases hk:x.kind=2
  ·rw [jZ0 hk];exact eX1 a o T s
  cases hf:farB o x with
  | true=>rw [jB0 o7 hk hf];exact lR7
  | false=>
   cases ha:a s.ts x.price with
   | false=>rw [gT0 o7 hk hf ha];exact lR7
   | true=>
    rw [fK0 o7 hk hf ha];refine aI (eX1 a o T (iN0 o x s)) ?_;unfold iN0;exact pI0 _ _ _
def cI2 (F:Nat->Prop) (w wd:World) (base mb bt ct:Nat) (m:Mkt) (vp vi:Value) (p:Ord) (u8 u9 u10:Value) (wc:World):Prop:=
 ∃(lb:Nat) (v':Value),u9=E (some ⟨lb,0,none⟩)/\u10=.bool (bN0 m p).2/\wc.ownsRow w.heap.size 146 4 u8 (bN0 m p).1.fs.length (fV (bN0 m p).1.fs)/\wc.heap[lb]? = some (oBox (bX0 p (bN0 m p).1.q))/\wd.heap.size<=lb
  /\MkIs wc F base mb bt ct { m with L:=(bN0 m p).1.L,la:=dE0 m.la (bN0 m p).1.ts } v' vp vi/\OrdBx w wc mb p/\Out (fun j=>j=mb) wd wc
theorem qU1 (F:Nat->Prop) (base mb bt ct:Nat) (m:Mkt) (vb z vi:Value) (o:Ord) (w:World) (h:MkIs w F base mb bt ct m vb z vi) (hL:m.L.length<=100) (l5:LOk m.L) (hP:m.P.length<=100) (hI:m.I.length<=100000) (l0:base<=w.heap.size) (m8:bt<base) (hr:0<m.rs.length) (hn:0<=m.now/\m.now<=1000000000000) (ht:0<=m.ti/\m.ti<=1000000000000):
  Calls prog 52 #[E (some ⟨mb,0,none⟩),o.agg] w fun e w'=>∃vf vb' vp' vi',e=Y (.tuple #[vf,U G (ordN m o)])/\w'.ownsRow w.heap.size 146 4 vf (ordM m o).1.length (fV (ordM m o).1)/\MkIs w' F base mb bt ct (ordM m o).2 vb' vp' vi'/\Out (inM mb vi) w w':=by
 have H:=hid7 h;have HK:=hid7 l5;have e7:mb<w.heap.size:=lt_of_block h.box;have k4:Hid (∀j,vi.ownBlock=some j->j<w.heap.size):=fun j hj=>(h.ids.lt j hj).2
 have C:Hid (∀w',Below w.heap.size w w'->ordN m o≠0->w'.ownsRow w.heap.size 146 4 (J none 0 0) (ordM m o).1.length (fV (ordM m o).1)/\MkIs w' F base mb bt ct (ordM m o).2 vb z vi/\Out (inM mb vi) w w'):=fun w' hb hn=>by
  have e:ordM m o=([],m):=by unfold ordM;rw [aA hn]
  rw [e];exact ⟨aU _ _ _ _,H.out.below hb,aL hb lR7⟩
 clear h l5;unfold Ord.agg;go_enter func52,ntmps52;go_upto_if 13 with fail;have d1:((w.alloc (R #[E (some ⟨mb,0,none⟩)] 55)).alloc (R #[U G o.id,U G o.side,U G o.kind,U G o.price,U G o.qty] 92)).heap[w.heap.size]? = some (R #[E (some ⟨mb,0,none⟩)] 55 (0,0)):=(Below.heap_alloc _ _ _ s7).trans (heap_alloc_new w _)
 have Q:((w.alloc (R #[E (some ⟨mb,0,none⟩)] 55)).alloc (R #[U G o.id,U G o.side,U G o.kind,U G o.price,U G o.qty] 92)).heap[w.heap.size+1]? = some (oBox o):=by
  have:=heap_alloc_new (w.alloc (R #[E (some ⟨mb,0,none⟩)] 55)) (R #[U G o.id,U G o.side,U G o.kind,U G o.price,U G o.qty] 92)
  rwa [show (w.alloc (R #[E (some ⟨mb,0,none⟩)] 55)).heap.size=w.heap.size+1 by simp] at this
 have b9:=bel2 w (R #[E (some ⟨mb,0,none⟩)] 55) (R #[U G o.id,U G o.side,U G o.kind,U G o.price,U G o.qty] 92);generalize (w.alloc (R #[E (some ⟨mb,0,none⟩)] 55)).alloc (R #[U G o.id,U G o.side,U G o.kind,U G o.price,U G o.qty] 92)=w0 at d1 Q b9 ⊢;go_cut [14] (fun _ wc=>Below w.heap.size w wc/\OrdBx w wc mb (lieO o))
 case first=>
  by_cases hk:o.kind=2
  ·have m9:(o.kind == 2)=true:=beq_iff_eq.2 hk;have i1:Hid (lieO o={ o with price:=1 }):=by show lieO o=_;unfold lieO;rw [aB hk]
   have y3:w0.cell? ⟨w.heap.size+1,3,none⟩=some (U G o.price):=aA0 (j:=3) Q rfl;have f3:w0.frozen? ⟨w.heap.size+1,3,none⟩=false:=aB0 (j:=3) (vs:=#[U G o.id,U G o.side,U G o.kind,U G o.price,U G o.qty]) (t:=92) Q;have HZ:Hid (Below w.heap.size w (w0.setCell ⟨w.heap.size+1,3,none⟩ (U G 1))/\OrdBx w (w0.setCell ⟨w.heap.size+1,3,none⟩ (U G 1)) mb { o with price:=1 }):=⟨b9.setCell s7 _,⟨(Below.heap_setCell _ _ _ _ s7).trans d1,aJ0 (j:=3) (U G 1) Q⟩⟩;clear hk d1 Q b9;go_wp2_with fail;go_meet;rw [i1.out];exact HZ.out
  ·have m9:(o.kind == 2)=false:=aC.2 hk;have i1:Hid (lieO o=o):=by show lieO o=_;unfold lieO;rw [aA hk]
   have HZ:Hid _:=And.intro b9 (OrdBx.mk (mb:=mb) (p:=o) d1 Q);clear hk d1 Q b9;go_wp2_with fail;go_meet;rw [i1.out];exact HZ.out
 case rest=>
  obtain ⟨hb,hx⟩:=hcut;have HB:=hid7 hb;have HX:=hid7 hx;clear d1 Q b9;have HF:Hid ((lieO o).id=o.id/\(lieO o).side=o.side/\(lieO o).kind=o.kind/\(lieO o).qty=o.qty):=by unfold lieO;split <;> exact ⟨rfl,rfl,rfl,rfl⟩
  have HD:Hid (ordN m o=(if (decide (1<=o.side)&& decide (o.side<=2))=false\/(decide (1<=o.kind)&& decide (o.kind<=4))=false\/o.id<1 then 1 else if fA0 (lieO o).price o.qty=false then 2 else if eV0 m.ph o.kind=false then 6 else if o.id∈m.I then 9 else if 100<=m.L.length+m.P.length then 12 else 0)):=rfl;have HE:Hid (ordN m o=0->ordM m o=eW0 { m with I:=m.I++[o.id] } (lieO o)):=fun e=>by unfold ordM;rw [aB e]
  generalize lieO o=p at hx HX HF HD HE;have y0:wc.cell? ⟨w.heap.size+1,0,none⟩=some (U G p.id):=aA0 (j:=0) hx.box rfl;have y1:wc.cell? ⟨w.heap.size+1,1,none⟩=some (U G p.side):=aA0 (j:=1) hx.box rfl;have y2:wc.cell? ⟨w.heap.size+1,2,none⟩=some (U G p.kind):=aA0 (j:=2) hx.box rfl;have y3:wc.cell? ⟨w.heap.size+1,3,none⟩=some (U G p.price):=aA0 (j:=3) hx.box rfl;have y4:wc.cell? ⟨w.heap.size+1,4,none⟩=some (U G p.qty):=aA0 (j:=4) hx.box rfl;have X:wc.cell? ⟨w.heap.size,0,none⟩=some (E (some ⟨mb,0,none⟩)):=aA0 (j:=0) hx.ptr rfl;clear hb hx;obtain ⟨f1,f2,f3,f4⟩:=HF.out;rw [<-f1,<-f2,<-f3,<-f4] at HD;rw [<-f1] at HE;clear f1 f2 f3 f4;go_wp2_with fail;refine (bkIn p.side 1 2 _).mono ?_;rintro e w1 ⟨rfl,hw⟩;subst hw;cases hs:(decide (1<=p.side)&& decide (p.side<=2)) with
  | false=>
   have Z:Hid (ordN m o=1):=by show _=_;rw [HD.out,aB (aH hs)]
   clear hs;go_wp2_with fail;go_ret2;obtain ⟨r1,r2,r3⟩:=C.out _ HB.out (by rw [Z.out];decide);exact ⟨J none 0 0,vb,z,vi,by rw [Z.out];rfl,r1,r2,r3⟩
  | true=>
   go_wp2_with fail;refine (bkIn p.kind 1 4 _).mono ?_;rintro e w1 ⟨rfl,hw⟩;subst hw;cases hk:(decide (1<=p.kind)&& decide (p.kind<=4)) with
   | false=>
    have Z:Hid (ordN m o=1):=by show _=_;rw [HD.out,aB (aG (aH hk))]
    clear hk;go_wp2_with fail;go_ret2;obtain ⟨r1,r2,r3⟩:=C.out _ HB.out (by rw [Z.out];decide);exact ⟨J none 0 0,vb,z,vi,by rw [Z.out];rfl,r1,r2,r3⟩
   | true=>
    by_cases g4:p.id<1
    ·have n8:decide (p.id<1)=true:=aE g4;have Z:Hid (ordN m o=1):=by show _=_;rw [HD.out,aB (aG (aG g4))]
     go_wp2_with fail;go_ret2;obtain ⟨r1,r2,r3⟩:=C.out _ HB.out (by rw [Z.out];decide);exact ⟨J none 0 0,vb,z,vi,by rw [Z.out];rfl,r1,r2,r3⟩
    ·have h6:Hid (ordN m o=(if fA0 p.price p.qty=false then 2 else if eV0 m.ph p.kind=false then 6 else if p.id∈m.I then 9 else if 100<=m.L.length+m.P.length then 12 else 0)):=by
      show _=_
      rw [HD.out,aA (by rw [hs,hk];rintro (e | e | e);cases e;cases e;exact g4 e)]
     have k1:Hid ((p.side=1\/p.side=2)/\1<=p.id):=by
      have:=hs;simp at this;show (p.side=1\/p.side=2)/\1<=p.id;omega
     clear HD hs hk;go_wp2_with fail;refine (eC1 p.price p.qty _).mono ?_;rintro e w1 ⟨rfl,hw⟩;subst hw;cases hrt:fA0 p.price p.qty with
     | false=>
      have Z:Hid (ordN m o=2):=by show _=_;rw [h6.out,aB hrt]
      clear hrt;go_wp2_with fail;go_ret2;obtain ⟨r1,r2,r3⟩:=C.out _ HB.out (by rw [Z.out];decide);exact ⟨J none 0 0,vb,z,vi,by rw [Z.out];rfl,r1,r2,r3⟩
     | true=>
      have h7:Hid (ordN m o=(if eV0 m.ph p.kind=false then 6 else if p.id∈m.I then 9 else if 100<=m.L.length+m.P.length then 12 else 0)):=by
       show _=_;rw [h6.out,aA (by rw [hrt];decide)]
      have k0:Hid (1<=p.price/\p.price<=1000000/\1<=p.qty/\p.qty<=1000000):=by
       have:=hrt;unfold fA0 at this;simp at this;show 1<=p.price/\p.price<=1000000/\1<=p.qty/\p.qty<=1000000;omega
      clear h6 hrt;go_upto_region 7 with fail;have i2:Hid (MkIs w1 F base mb bt ct m vb z vi):=H.out.below HB.out;have f:Hid (∀w',Below w1.heap.size w1 w'->w'.cell? ⟨w.heap.size,0,none⟩=some (E (some ⟨mb,0,none⟩))/\w'.cell? ⟨mb,10,none⟩=some (U G m.ph)/\w'.cell? ⟨w.heap.size+1,2,none⟩=some (U G p.kind)/\Below w1.heap.size w1 w'):=fun w' hb=>⟨aA0 (j:=0) (HX.out.below hb).ptr rfl,aA0 (j:=10) (i2.out.below hb).box rfl,aA0 (j:=2) (HX.out.below hb).box rfl,hb⟩
      clear y0 y1 y2 y3 y4 X HF g4 H;go_cut [43] from 36 to 43 (fun u wc=>u=.bool (!eV0 m.ph p.kind)/\aL0 w1 wc)
      case first=>
       go_region_held3 (fun w'=>aC0 w' w.heap.size 0 (E (some ⟨mb,0,none⟩))/\aC0 w' mb 10 (U G m.ph)/\aC0 w' (w.heap.size+1) 2 (U G p.kind)/\aL0 w1 w')
        ((refine f _ ?_;(first | exact b0 | exact aF _ _ | exact (aF _ _).drew | (go_split_ands;assumption))))
        ((go_at_call 94;refine (bA1 m.ph p.kind _).mono ?_;rintro e w2 ⟨rfl,n2⟩;subst n2;have b0:Hid (aL0 w1 w1.drew):=(aF _ _).drew))
       all_goals go_wp2_with fail
       all_goals go_meet
       all_goals exact ⟨rfl,(aF _ _).drew⟩
      case rest=>
       obtain ⟨rfl,hb⟩:=hcut;have HM:Hid (MkIs wc F base mb bt ct m vb z vi):=i2.below hb;have b7:Hid (OrdBx w wc mb p):=HX.below hb;have b0:Hid (aL0 w wc):=aD0 HB hb;clear hb HX HB i2 f;cases hta:eV0 m.ph p.kind with
       | false=>
        have Z:Hid (ordN m o=6):=by show _=_;rw [h7.out,aB hta]
        clear hta;go_wp2_with fail;go_ret2;obtain ⟨r1,r2,r3⟩:=C _ b0 (by rw [Z.out];decide);exact ⟨J none 0 0,vb,z,vi,by rw [Z.out];rfl,r1,r2,r3⟩
       | true=>
        have h8:Hid (ordN m o=(if p.id∈m.I then 9 else if 100<=m.L.length+m.P.length then 12 else 0)):=by
         show _=_;rw [h7.out,aA (by rw [hta];decide)]
        clear h7 hta;have X:aC0 wc w.heap.size 0 (E (some ⟨mb,0,none⟩)):=aA0 (j:=0) b7.ptr rfl;have y0:aC0 wc (w.heap.size+1) 0 (U G p.id):=aA0 (j:=0) b7.box rfl;have c9:aC0 wc mb 9 vi:=aA0 (j:=9) HM.box rfl;obtain ⟨ai,ci,rfl,_,_⟩:=bO0 HM.ids;go_wp2_with fail;go_loop [49] (fun u=>∃k:Nat,k<=m.I.length/\u=U G k/\(p.id∈m.I->p.id∈m.I.drop k)) (fun u=>m.I.length - (intOf u).toNat)
        case atStart=>exact ⟨0,Nat.zero_le _,rfl,fun e=>e⟩
        case round=>
         obtain ⟨k,hk,rfl,h4⟩:=hrel;have d8:=hid7 h4;clear h4
         by_cases e6:k<m.I.length
         ·obtain ⟨g,n4,hv,d0⟩:=fZ2 HM.ids e6;simp only [aY,true_and] at hv;obtain ⟨rfl,rfl⟩:=hv
          by_cases hx:iAt m.I k=p.id
          ·have Z:Hid (ordN m o=9):=by show _=_;rw [h8.out,aB (by rw [<-hx];exact cH2 e6)]
           rw [hx] at d0;clear hx;go_wp2_with fail;go_ret2;obtain ⟨r1,r2,r3⟩:=C _ b0 (by rw [Z.out];decide);exact ⟨J none 0 0,by rw [Z.out];rfl,r1,⟨vb,z,_,r2⟩,r3⟩
          ·have o1:(iAt m.I k == p.id)=false:=aC.2 hx
           have m6:Hid (p.id∈m.I->p.id∈m.I.drop (k+1)):=fun e=>by
            have:=d8 e;rw [cG2 e6] at this;rcases aR.1 this with e1 | e1
            ·exact absurd e1.symm hx
            ·exact e1
           clear hx;go_wp2_with fail;go_round
           case rel=>exact ⟨k+1,e6,by go_num,m6⟩
           case measure=>first | (simp [intOf];omega) | (show m.I.length - (k+1)<m.I.length - k;omega) | omega
         ·have h9:Hid (ordN m o=(if 100<=m.L.length+m.P.length then 12 else 0)):=by
           show _=_;rw [h8.out,aA (fun e=>by have:=d8.out e;rw [List.drop_eq_nil_of_le o7] at this;cases this)]
          clear h8 d8 c9 X y0;go_upto_region 15 with fail;have X:aC0 wc w.heap.size 0 (E (some ⟨mb,0,none⟩)):=aA0 (j:=0) b7.ptr rfl;obtain ⟨ab,cb,l7,_,_⟩:=bO0 HM.bk;obtain ⟨ap,cp,g6,_,_⟩:=bO0 HM.pk;have c7:aC0 wc mb 7 (J ab m.L.length cb):=by rw [<-l7];exact aA0 (j:=7) HM.box rfl
          have c8:aC0 wc mb 8 (J ap m.P.length cp):=by rw [<-g6];exact aA0 (j:=8) HM.box rfl
          have wl:IntKind.i64.wrap ((m.L.length:Int)+(m.P.length:Int))=(m.L.length:Int)+(m.P.length:Int):=IntWalk.i64_in _ o7;clear l7 g6;generalize wc=wd at b7 b0 HM X c7 c8 ⊢;go_cut [70] from 58 to 70 (fun u wc=>u=.bool (decide (100<=(m.L.length:Int)+(m.P.length:Int)))/\aL0 wd wc)
          case first=>
           go_region
           all_goals go_wp2_with fail
           all_goals go_meet
           all_goals exact ⟨rfl,(aF _ _).drew⟩
          case rest=>
           obtain ⟨rfl,hb⟩:=hcut;have a3:Hid (MkIs wc F base mb bt ct m vb z (J ai m.I.length ci)):=HM.below hb;have b2:Hid (OrdBx w wc mb p):=b7.below hb;have f5:Hid (aL0 w wc):=aD0 b0 hb;clear hb X c7 c8 wl HM b7 b0
           by_cases hf:100<=m.L.length+m.P.length
           ·rw [show decide (100<=(m.L.length:Int)+(m.P.length:Int))=true from aE o7];have Z:Hid (ordN m o=12):=by show _=_;rw [h9.out,aB hf]
            clear hf;go_wp2_with fail;go_ret2;obtain ⟨r1,r2,r3⟩:=C _ f5 (by rw [Z.out];decide)
            first
             | exact ⟨J none 0 0,by rw [Z.out];rfl,r1,⟨vb,z,_,r2⟩,r3⟩
             | exact ⟨J none 0 0,vb,z,_,by rw [Z.out];rfl,r1,r2,r3⟩
           ·rw [show decide (100<=(m.L.length:Int)+(m.P.length:Int))=false from aD o7];have E0:Hid (ordN m o=0):=by show _=_;rw [h9.out,aA hf]
            have d6:Hid _:=HE E0;go_upto_region 17 with fail;obtain ⟨iI,l2,k5,k6,k8⟩:=info_parts infoInt;generalize wc=we at a3 b2 f5 ⊢;have X:aC0 we w.heap.size 0 (E (some ⟨mb,0,none⟩)):=aA0 (j:=0) b2.ptr rfl;have y0:aC0 we (w.heap.size+1) 0 (U G p.id):=aA0 (j:=0) b2.box rfl;have c9:aC0 we mb 9 (J ai m.I.length ci):=aA0 (j:=9) a3.box rfl;have l8:w.heap.size<we.heap.size:=lt_of_block b2.ptr;have l9:w.heap.size+1<we.heap.size:=lt_of_block b2.box;have m0:mb<we.heap.size:=o7;have k9:base<=we.heap.size:=o7;have i4:Hid (∀V,aL0 we V->aC0 V w.heap.size 0 (E (some ⟨mb,0,none⟩))/\aC0 V (w.heap.size+1) 0 (U G p.id)/\aC0 V mb 9 (J ai m.I.length ci)):=fun V hV=>⟨(hV.cell (p:=⟨w.heap.size,0,none⟩) l8).trans X,(hV.cell (p:=⟨w.heap.size+1,0,none⟩) l9).trans y0,(hV.cell (p:=⟨mb,9,none⟩) m0).trans c9⟩
            clear X y0 c9;refine bB0 (fun _ w'=>aC0 w' w.heap.size 0 (E (some ⟨mb,0,none⟩))/\aC0 w' (w.heap.size+1) 0 (U G p.id)/\aC0 w' mb 9 (J ai m.I.length ci)) (fun _ i=>i == 11) k7 (fun _=>i4 _ (aF _ _).drew) (fun hHeld=>?_);refine tkM9 0 0 (hHeld 0) ?_;refine tkM9 0 1 (hHeld 0) ?_;refine tkM9 0 2 (hHeld 0) ?_;refine tkM9 0 3 (hHeld 0) ?_;refine tkM9 0 4 (hHeld 0) ?_;refine tkM9 0 5 (hHeld 0) ?_;refine tkM9 0 6 (hHeld 0) ?_;refine aT0 (i:=7) k7 rfl (fun K b=>?_);go_simp;refine b.out _ _ (fun _ _ _=>i4 _ (bel1 _ _).drew) ?_;clear b K;have b5:Hid (aL0 we (we.alloc (R #[U G p.id] 3)).drew):=(bel1 _ _).drew;have j1:bJ0 ((we.alloc (R #[U G p.id] 3)).drew) we.heap.size #[U G p.id] 3:=aE0 (heap_alloc_new we _) (aF _ _).drew lR7;generalize (we.alloc (R #[U G p.id] 3)).drew=wa at b5 j1 ⊢;refine aT0 (i:=8) k7 rfl (fun K b=>?_);refine cF2 rfl (.tmp 75) (.tmp 78) 59 rfl base 3 iI (U G 0) 1 8 underlying59 l2 k5 k6 k8 rfl d7 (J ai m.I.length ci) m.I.length (nV m.I) rfl (aU0 a3.ids b5 lR7) ⟨we.heap.size,0,none⟩ 1 1 [U G p.id] rfl rfl (bJ (cs:=#[U G p.id]) (t:=3) (fr:=(0,0)) j1) (by simp [Value.oneCell']) (by unfold maxLen;omega) o7 (aI k9 b5.size) ?_;intro v1 w1 i7 l1 l4;obtain ⟨a1,c1,rfl,_,_⟩:=bO0 i7;obtain ⟨Q,j0⟩:=a3.grew b5 l1;have g7:=b2.outI j0 k4;have z9:aC0 w1 mb 9 (J ai m.I.length ci):=aA0 (j:=9) Q rfl;have zf:=aB0 (j:=9) Q
            have j7:Hid (∀j,(Value.slice a1 (m.I.length+1) c1).ownBlock=some j->¬F j):=fun j hj e=>by
             have n9:=a3.lim j e;rcases l4 j hj with e1 | e1
             ·exact a3.fari j e1 e
             ·have:=b5.size;omega
            refine b.out _ _ (fun _ _ _=>⟨aA0 (j:=0) g7.ptr rfl,aA0 (j:=0) g7.box rfl,z9⟩) ?_;clear b K;have i5:Hid _:=a3.took j0 i7 m8 j7;have k3:=hid7 g7;refine puM9 9 ?_;refine puM9 10 ?_;refine aT0 (i:=11) k7 rfl (fun K b=>?_);go_simp;refine b.out _ _ (fun _ h=>by cases h) ?_;clear b K;refine bI0 k7 ?_ _;have x:=hid7 i5.out.1;have n:Hid (OrdBx w (w1.setCell ⟨mb,9,none⟩ (J a1 (m.I.length+1) c1)) mb p):=k3.out.out (aM0 _ ⟨mb,9,none⟩ _) e7;have T:Hid (Out (inM mb (J ai m.I.length ci)) w (w1.setCell ⟨mb,9,none⟩ (J a1 (m.I.length+1) c1))):=aX0 (aL f5 lR7) i5.out.2;generalize w1.setCell ⟨mb,9,none⟩ (J a1 (m.I.length+1) c1)=wc at x n T ⊢;clear i5 k3 j7 z9 zf Q j0 g7 l1 i7 l4 b5 j1 i4 hHeld l8 l9 m0 k9 l2 k5 k6 k8 a3 b2 f5 h9 HE C;generalize (Value.slice a1 (m.I.length+1) c1)=vi4 at x ⊢;generalize l:({ m with I:=m.I++[p.id] }:Mkt)=m4 at x d6;have g3:m4.L.length<=100:=by rw [<-l];exact hL
            have j5:Hid (LOk m4.L):=by rw [<-l];exact HK
            have n7:m4.P.length<=100:=by rw [<-l];exact hP
            have l6:0<m4.rs.length:=by rw [<-l];exact hr
            have n0:0<=m4.now/\m4.now<=1000000000000:=by rw [<-l];exact hn
            have n1:0<=m4.ti/\m4.ti<=1000000000000:=by rw [<-l];exact ht
            have a6:base<=wc.heap.size:=aI l0 T.size;have a0:aC0 wc mb 10 (U G m4.ph):=aA0 (j:=10) x.box rfl;have X:aC0 wc w.heap.size 0 (E (some ⟨mb,0,none⟩)):=aA0 (j:=0) n.ptr rfl;have y0:aC0 wc (w.heap.size+1) 0 (U G p.id):=aA0 (j:=0) n.box rfl;have y1:aC0 wc (w.heap.size+1) 1 (U G p.side):=aA0 (j:=1) n.box rfl;have y2:aC0 wc (w.heap.size+1) 2 (U G p.kind):=aA0 (j:=2) n.box rfl;have y3:aC0 wc (w.heap.size+1) 3 (U G p.price):=aA0 (j:=3) n.box rfl;have y4:aC0 wc (w.heap.size+1) 4 (U G p.qty):=aA0 (j:=4) n.box rfl;clear l hL HK hP hr hn ht k4 hf hk e6 hI;generalize wc=wf at x n T a6 a0 X y0 y1 y2 y3 y4 ⊢
            by_cases g5:p.kind=4/\m4.ph≠5
            ·obtain ⟨a2,h5⟩:=g5;have HN:Hid (eW0 m4 p=([],{ m4 with P:=m4.P++[p] })):=by show _=_;unfold eW0;rw [aB ⟨a2,h5⟩]
             have e4:(p.kind == 4)=true:=beq_iff_eq.2 a2;have e5:(m4.ph == 5)=false:=aC.2 h5;have n5:(m4.ph != 5)=true:=by simpa [bne] using e5
             clear a2 h5;obtain ⟨i0,c2,d3,d4,d5⟩:=info_parts infoOrd;obtain ⟨ap,cp,g6,_,_⟩:=bO0 x.pk;subst g6;go_upto_region 19 with fail;have D:=hid7 x.wait;have c8:aC0 wf mb 8 (J ap m4.P.length cp):=D.cell;have f8:wf.frozen? ⟨mb,8,none⟩=false:=D.free;have lb:mb<wf.heap.size:=lt_of_block x.box;have lx:w.heap.size+1<wf.heap.size:=lt_of_block n.box;have v:base<=wf.heap.size:=a6;have m1:w.heap.size<wf.heap.size:=o7;have j2:0+m4.P.length<=maxLen:=by unfold maxLen;omega
             have j3:m4.P.length+1<=maxLen:=by unfold maxLen;omega
             generalize wf=wd at D x n T c8 f8 lb lx m1 v a6 a0 X y0 y1 y2 y3 y4 ⊢;go_cut [101] from 92 to 103 (fun _ wc=>∃v',BookIs wc base (spP F mb bt ct m4 vb (J ap m4.P.length cp) vi4) v' (m4.P++[p])/\Out (·=mb) wd wc)
             case first=>
              have f:Hid (∀V,aL0 wd V->(fun w'=>aC0 w' w.heap.size 0 (E (some ⟨mb,0,none⟩))/\aC0 w' (w.heap.size+1) 0 (U G p.id)/\aC0 w' (w.heap.size+1) 1 (U G p.side)/\aC0 w' (w.heap.size+1) 2 (U G p.kind)/\aC0 w' (w.heap.size+1) 3 (U G p.price)/\aC0 w' (w.heap.size+1) 4 (U G p.qty)/\aC0 w' mb 8 (J ap m4.P.length cp)) V):=fun V hV=>⟨(hV.cell (p:=⟨w.heap.size,0,none⟩) m1).trans X,(hV.cell (p:=⟨w.heap.size+1,0,none⟩) lx).trans y0,(hV.cell (p:=⟨w.heap.size+1,1,none⟩) lx).trans y1,(hV.cell (p:=⟨w.heap.size+1,2,none⟩) lx).trans y2,(hV.cell (p:=⟨w.heap.size+1,3,none⟩) lx).trans y3,(hV.cell (p:=⟨w.heap.size+1,4,none⟩) lx).trans y4,(hV.cell (p:=⟨mb,8,none⟩) lb).trans c8⟩
              clear X y0 y1 y2 y3 y4 c8 f8 a0;refine bB0 (fun _=>fun w'=>aC0 w' w.heap.size 0 (E (some ⟨mb,0,none⟩))/\aC0 w' (w.heap.size+1) 0 (U G p.id)/\aC0 w' (w.heap.size+1) 1 (U G p.side)/\aC0 w' (w.heap.size+1) 2 (U G p.kind)/\aC0 w' (w.heap.size+1) 3 (U G p.price)/\aC0 w' (w.heap.size+1) 4 (U G p.qty)/\aC0 w' mb 8 (J ap m4.P.length cp)) (fun _ i=>i == 12) k7 (fun _=>f _ (aF _ _).drew) (fun hHeld=>?_);have y:aL0 wd wd.drew:=(aF _ _).drew;generalize wd.drew=wz at y hHeld ⊢;refine tkM9 0 0 (hHeld 0) ?_;refine tkM9 0 2 (hHeld 0) ?_;refine tkM9 0 3 (hHeld 0) ?_;refine tkM9 0 4 (hHeld 0) ?_;refine tkM9 0 5 (hHeld 0) ?_;refine tkM9 0 7 (hHeld 0) ?_;refine mF0 (i:=1) (j:=8) k7 rfl rfl (fun K b=>?_) (fun K b=>?_)
              ·go_simp;refine b.out _ _ (fun _ _ _=>f _ (y.alloc y.size _)) ?_;clear b K;have S:aL0 wd (wz.alloc (R #[] 92)):=y.alloc y.size _;have hE:=heap_alloc_new wz (R #[] 92);have sE:wd.heap.size<=wz.heap.size:=y.size;have gE:=bel1 wz (R #[] 92);generalize wz.alloc (R #[] 92)=wE at S hE gE ⊢;refine mF0 (i:=6) (j:=8) k7 rfl rfl (fun K b=>?_) (fun K b=>?_)
               ·refine bA0 _ r7 (.tmp 93) (.tmp 97) 99 r7 base 92 i0 _ 5 40 underlying99 c2 d3 d4 d5 r7 o7 _ 0 0 [] r7 (eK0 hE (aI v sE)) ap m4.P.length cp (oV m4.P) r7 (cB0 m4.P) (Lies.of_row D.all S) (jH0 m4.P) j2 o7 (aI v S.size) ?_;intro gA cA wA a8 b3 a4 g9;have bA:aL0 wd wA:=cQ0 S b3 sE;have kA:wd.heap.size<=gA:=iB0 S a4 sE;rw [bT,bX] at a8;refine b.out _ _ (fun _ _ _=>f _ bA) ?_;clear b K;simp only [bT];refine aT0 (i:=8) k7 rfl (fun K b=>?_);go_simp;refine b.out _ _ (fun _ _ _=>f _ (bA.alloc bA.size _)) ?_;clear b K;have bN:aL0 wd (wA.alloc (R #[U G p.id,U G p.side,U G p.kind,U G p.price,U G p.qty] 92)):=bA.alloc bA.size _;have hN:=heap_alloc_new wA (R #[U G p.id,U G p.side,U G p.kind,U G p.price,U G p.qty] 92);have sN:wd.heap.size<=wA.heap.size:=bA.size;have gN:=bel1 wA (R #[U G p.id,U G p.side,U G p.kind,U G p.price,U G p.qty] 92);generalize wA.alloc (R #[U G p.id,U G p.side,U G p.kind,U G p.price,U G p.qty] 92)=wN at bN hN gN ⊢;refine aT0 (i:=9) k7 rfl (fun K b=>?_);refine bA0 _ r7 (.tmp 98) (.tmp 100) 99 r7 base 92 i0 _ 5 40 underlying99 c2 d3 d4 d5 r7 o7 _ _ _ _ r7 (cR0 (B:=wA.heap.size) a8 gN lR7) _ 1 1 p.vals r7 r7 (Lies.of_one hN) (by simp [Ord.vals,Value.oneCell']) j3 o7 (aI v bN.size) ?_;intro gB cB wB e9 e0 a5 h0;have BB:Hid (aL0 wd wB):=cQ0 bN e0 kA;have kB:wd.heap.size<=gB:=iB0 bN a5 kA;have OB:Hid _:=e9;refine b.out _ _ (fun _ _ _=>f _ BB) ?_;clear b K;have xB:=D.below BB lR7;have m2:aC0 wB mb 8 (J ap m4.P.length cp):=xB.cell;have m3:wB.frozen? ⟨mb,8,none⟩=false:=xB.free;clear xB;refine puM9 10 ?_;refine puM9 11 ?_;refine aT0 (i:=12) k7 rfl (fun K b=>?_);go_simp;refine b.out _ _ (fun _ h=>by cases h) ?_;clear b K;refine bI0 k7 ?_ _;go_wp2_with fail;go_meet;exact ⟨_,kS0 D (aF _ _) BB OB kB s7 (by rw [cL0];rfl)⟩
               ·go_simp;refine b.out _ _ (fun _ _ _=>f _ (S.alloc S.size _)) ?_;clear b K;have bN:aL0 wd (wE.alloc (R #[U G p.id,U G p.side,U G p.kind,U G p.price,U G p.qty] 92)):=S.alloc S.size _;have hN:=heap_alloc_new wE (R #[U G p.id,U G p.side,U G p.kind,U G p.price,U G p.qty] 92);have sN:wd.heap.size<=wE.heap.size:=S.size;have gN:=bel1 wE (R #[U G p.id,U G p.side,U G p.kind,U G p.price,U G p.qty] 92);generalize wE.alloc (R #[U G p.id,U G p.side,U G p.kind,U G p.price,U G p.qty] 92)=wN at bN hN gN ⊢;refine aT0 (i:=6) k7 rfl (fun K b=>?_);refine bA0 _ r7 (.tmp 93) (.tmp 97) 99 r7 base 92 i0 _ 5 40 underlying99 c2 d3 d4 d5 r7 o7 _ 0 0 [] r7 (eK0 ((gN.block _ (lt_of_block hE)).trans hE) (aI v sE)) ap m4.P.length cp (oV m4.P) r7 (cB0 m4.P) (Lies.of_row D.all bN) (jH0 m4.P) j2 o7 (aI v bN.size) ?_;intro gA cA wA a8 b3 a4 g9;have bA:aL0 wd wA:=cQ0 bN b3 sE;have kA:wd.heap.size<=gA:=iB0 bN a4 sE;rw [bT,bX] at a8;refine b.out _ _ (fun _ _ _=>f _ bA) ?_;clear b K;simp only [bT];refine aT0 (i:=9) k7 rfl (fun K b=>?_);refine bA0 _ r7 (.tmp 98) (.tmp 100) 99 r7 base 92 i0 _ 5 40 underlying99 c2 d3 d4 d5 r7 o7 _ _ _ _ r7 a8 _ 1 1 p.vals r7 r7 (Lies.of_one ((b3.block _ (lt_of_block hN) (by have:=lt_of_block hE;intro e;injection e with e;omega)).trans hN)) (by simp [Ord.vals,Value.oneCell']) j3 o7 (aI v bA.size) ?_;intro gB cB wB e9 e0 a5 h0;have BB:Hid (aL0 wd wB):=cQ0 bA e0 kA;have kB:wd.heap.size<=gB:=iB0 bA a5 kA;have OB:Hid _:=e9;refine b.out _ _ (fun _ _ _=>f _ BB) ?_;clear b K;have xB:=D.below BB lR7;have m2:aC0 wB mb 8 (J ap m4.P.length cp):=xB.cell;have m3:wB.frozen? ⟨mb,8,none⟩=false:=xB.free;clear xB;refine puM9 10 ?_;refine puM9 11 ?_;refine aT0 (i:=12) k7 rfl (fun K b=>?_);go_simp;refine b.out _ _ (fun _ h=>by cases h) ?_;clear b K;refine bI0 k7 ?_ _;go_wp2_with fail;go_meet;exact ⟨_,kS0 D (aF _ _) BB OB kB s7 (by rw [cL0];rfl)⟩
              ·go_simp;refine b.out _ _ (fun _ _ _=>f _ (y.alloc y.size _)) ?_;clear b K;have bN:aL0 wd (wz.alloc (R #[U G p.id,U G p.side,U G p.kind,U G p.price,U G p.qty] 92)):=y.alloc y.size _;have hN:=heap_alloc_new wz (R #[U G p.id,U G p.side,U G p.kind,U G p.price,U G p.qty] 92);have sN:wd.heap.size<=wz.heap.size:=y.size;have gN:=bel1 wz (R #[U G p.id,U G p.side,U G p.kind,U G p.price,U G p.qty] 92);generalize wz.alloc (R #[U G p.id,U G p.side,U G p.kind,U G p.price,U G p.qty] 92)=wN at bN hN gN ⊢;refine aT0 (i:=1) k7 rfl (fun K b=>?_);go_simp;refine b.out _ _ (fun _ _ _=>f _ (bN.alloc bN.size _)) ?_;clear b K;have S:aL0 wd (wN.alloc (R #[] 92)):=bN.alloc bN.size _;have hE:=heap_alloc_new wN (R #[] 92);have sE:wd.heap.size<=wN.heap.size:=bN.size;have gE:=bel1 wN (R #[] 92);generalize wN.alloc (R #[] 92)=wE at S hE gE ⊢;refine aT0 (i:=6) k7 rfl (fun K b=>?_);refine bA0 _ r7 (.tmp 93) (.tmp 97) 99 r7 base 92 i0 _ 5 40 underlying99 c2 d3 d4 d5 r7 o7 _ 0 0 [] r7 (eK0 hE (aI v sE)) ap m4.P.length cp (oV m4.P) r7 (cB0 m4.P) (Lies.of_row D.all S) (jH0 m4.P) j2 o7 (aI v S.size) ?_;intro gA cA wA a8 b3 a4 g9;have bA:aL0 wd wA:=cQ0 S b3 sE;have kA:wd.heap.size<=gA:=iB0 S a4 sE;rw [bT,bX] at a8;refine b.out _ _ (fun _ _ _=>f _ bA) ?_;clear b K;simp only [bT];refine aT0 (i:=9) k7 rfl (fun K b=>?_);refine bA0 _ r7 (.tmp 98) (.tmp 100) 99 r7 base 92 i0 _ 5 40 underlying99 c2 d3 d4 d5 r7 o7 _ _ _ _ r7 a8 _ 1 1 p.vals r7 r7 (Lies.of_one ((b3.block _ (aT (lt_of_block hN) gE.size) (by have:=lt_of_block hN;intro e;injection e with e;omega)).trans ((gE.block _ (lt_of_block hN)).trans hN))) (by simp [Ord.vals,Value.oneCell']) j3 o7 (aI v bA.size) ?_;intro gB cB wB e9 e0 a5 h0;have BB:Hid (aL0 wd wB):=cQ0 bA e0 kA;have kB:wd.heap.size<=gB:=iB0 bA a5 kA;have OB:Hid _:=e9;refine b.out _ _ (fun _ _ _=>f _ BB) ?_;clear b K;have xB:=D.below BB lR7;have m2:aC0 wB mb 8 (J ap m4.P.length cp):=xB.cell;have m3:wB.frozen? ⟨mb,8,none⟩=false:=xB.free;clear xB;refine puM9 10 ?_;refine puM9 11 ?_;refine aT0 (i:=12) k7 rfl (fun K b=>?_);go_simp;refine b.out _ _ (fun _ h=>by cases h) ?_;clear b K;refine bI0 k7 ?_ _;go_wp2_with fail;go_meet;exact ⟨_,kS0 D (aF _ _) BB OB kB s7 (by rw [cL0];rfl)⟩
             case rest=>
              obtain ⟨v5,h1,h2⟩:=hcut;have M:Hid _:=x.ofWait h1 h2;have N:=hid7 (aX0 T (cF1 h2));clear h1 h2 a0 X y0 y1 y2 y3 y4;go_wp2_with fail;go_ret2;have d:=d6.trans HN
              first
               | exact ⟨J none 0 0,by rw [E0.out];rfl,by rw [d];exact aU _ _ _ _,⟨vb,v5,vi4,by rw [d];exact M⟩,N⟩
               | exact ⟨J none 0 0,vb,v5,vi4,by rw [E0.out];rfl,by rw [d];exact aU _ _ _ _,by rw [d];exact M,N⟩
            ·have HN:Hid (eW0 m4 p=if m4.ph≠3 then ([],{ m4 with L:=addL p m4.L }) else eB0 m4 p):=by show _=_;unfold eW0;rw [aA g5]
             have HG:Hid (p.kind=4->(m4.ph != 5)=false/\(m4.ph == 5)=true):=fun e=>by
              have:m4.ph=5:=Classical.byContradiction fun e2=>g5 ⟨e,e2⟩
              rw [this];exact ⟨rfl,rfl⟩
             clear g5;go_upto_region 18 with fail;go_cut [91] from 82 to 91 (fun u wc=>u=.bool false/\wc=wf)
             case first=>
              by_cases a2:p.kind=4
              ·obtain ⟨g1,g2⟩:=HG a2;have e4:=beq_iff_eq.2 a2;clear a2;go_wp2_with fail;go_meet;exact ⟨rfl,rfl⟩
              ·have e4:=aC.2 a2;clear a2;go_wp2_with fail;go_meet;exact ⟨rfl,rfl⟩
             case rest=>
              obtain ⟨rfl,hw⟩:=hcut;subst hw
              by_cases h3:m4.ph=3
              ·have e3:=beq_iff_eq.2 h3;have n3:(m4.ph != 3)=false:=by rw [h3];rfl
               have f6:Hid (eW0 m4 p=eB0 m4 p):=by show _=_;rw [HN.out,aA (by rw [h3];decide)]
               clear h3;go_upto_region 24 with fail;generalize wc=wd at x n T a6 a0 X y0 y1 y2 y3 y4 ⊢;go_cut [8,9,10] from 114 to 125 (fun u8 u9 u10 wc=>cI2 F w wd base mb bt ct m4 z vi4 p u8 u9 u10 wc)
               case first=>
                have f:Hid (∀V,OrdBx w V mb p->(fun w'=>aC0 w' w.heap.size 0 (E (some ⟨mb,0,none⟩))/\aC0 w' (w.heap.size+1) 0 (U G p.id)/\aC0 w' (w.heap.size+1) 1 (U G p.side)/\aC0 w' (w.heap.size+1) 2 (U G p.kind)/\aC0 w' (w.heap.size+1) 3 (U G p.price)/\aC0 w' (w.heap.size+1) 4 (U G p.qty)) V):=fun V hV=>⟨aA0 (j:=0) hV.ptr rfl,aA0 (j:=0) hV.box rfl,aA0 (j:=1) hV.box rfl,aA0 (j:=2) hV.box rfl,aA0 (j:=3) hV.box rfl,aA0 (j:=4) hV.box rfl⟩
                clear X y0 y1 y2 y3 y4 a0;refine bB0 (fun _=>fun w'=>aC0 w' w.heap.size 0 (E (some ⟨mb,0,none⟩))/\aC0 w' (w.heap.size+1) 0 (U G p.id)/\aC0 w' (w.heap.size+1) 1 (U G p.side)/\aC0 w' (w.heap.size+1) 2 (U G p.kind)/\aC0 w' (w.heap.size+1) 3 (U G p.price)/\aC0 w' (w.heap.size+1) 4 (U G p.qty)) (fun _ _=>false) k7 (fun _=>f _ (n.below (aF _ _).drew)) (fun hHeld=>?_);have y:aL0 wd wd.drew:=(aF _ _).drew;generalize wd.drew=wz at y hHeld ⊢;refine tkM9 0 0 (hHeld 0) ?_;refine tkM9 0 1 (hHeld 0) ?_;refine tkM9 0 2 (hHeld 0) ?_;refine tkM9 0 3 (hHeld 0) ?_;refine tkM9 0 4 (hHeld 0) ?_;refine puM9 5 ?_;refine puM9 6 ?_;refine mF0 (i:=7) (j:=12) k7 rfl rfl (fun K b=>?_) (fun K b=>?_)
                ·go_simp;refine (pY1 F base mb bt ct w.heap.size m4 vb z vi4 p wz (x.below y) (n.below y).ptr g3 j5 (aI a6 y.size) l6 k1.out.1 k0.out.2.2).mono ?_;rintro e w5 ⟨vf,v5,rfl,W,l,r⟩;have A:=(n.below y).out r e7;refine b.out _ _ (fun _ _ _=>f _ A) ?_;clear b K;refine puM9 8 ?_;refine puM9 9 ?_;refine puM9 10 ?_;refine puM9 11 ?_;refine aT0 (i:=12) k7 rfl (fun K b=>?_);go_simp;refine b.out _ _ (fun _ _ _=>f _ (A.below (bel1 _ _))) ?_;clear b K;refine puM9 13 ?_;refine aT0 (i:=14) k7 rfl (fun K b=>?_);go_simp;refine b.out _ _ (fun _ _ _=>f _ (A.below (bel1 _ _))) ?_;clear b K;have d9:Hid (cI2 F w wd base mb bt ct m4 z vi4 p vf (E (some ⟨w5.heap.size,0,none⟩)) (.bool (bN0 m4 p).2) (w5.alloc (R #[U G p.id,U G p.side,U G p.kind,U G p.price,U G (bN0 m4 p).1.q] 92))):=⟨w5.heap.size,v5,rfl,rfl,aU0 (bW0 W (aI T.size y.size)) (bel1 _ _) lR7,heap_alloc_new w5 _,aI y.size r.size,l.below (bel1 _ _),A.below (bel1 _ _),dD0 (aX0 (aL y lR7) r) _⟩;clear W l r A;refine puM9 15 ?_;refine bI0 k7 ?_ _;go_wp2_with fail;go_meet;exact d9
                ·go_simp;refine b.out _ _ (fun _ _ _=>f _ ((n.below y).below (bel1 _ _))) ?_;clear b K;have S:aL0 wd (wz.alloc (R #[U G 0,U G 0,U G 0,U G 0,U G 0] 92)):=y.alloc y.size _;have hE:=heap_alloc_new wz (R #[U G 0,U G 0,U G 0,U G 0,U G 0] 92);have sE:=y.size;generalize wz.alloc (R #[U G 0,U G 0,U G 0,U G 0,U G 0] 92)=wE at S hE ⊢;have j4:=hid7 (x.ban S sE (lt_of_block hE));refine aT0 (i:=7) k7 rfl (fun K b=>?_);go_simp;refine (pY1 (fun j=>F j\/j=wz.heap.size) base mb bt ct w.heap.size m4 vb z vi4 p wE j4 (n.below S).ptr g3 j5 (aI a6 S.size) l6 k1.out.1 k0.out.2.2).mono ?_;rintro e w5 ⟨vf,v5,rfl,W,l,r⟩;have A:=(n.below S).out r e7;refine b.out _ _ (fun _ _ _=>f _ A) ?_;clear b K;refine puM9 8 ?_;refine puM9 9 ?_;refine puM9 10 ?_;refine puM9 11 ?_;refine puM9 13 ?_;have o0:=lt_of_block n.box;have O:=aF0 hE r (fun e=>by have e':wz.heap.size=mb:=e;omega);have z0:=aA0 (j:=0) O rfl;have z1:=aA0 (j:=1) O rfl;have z2:=aA0 (j:=2) O rfl;have z3:=aA0 (j:=3) O rfl;have z4:=aA0 (j:=4) O rfl;have x0:=aB0 (j:=0) O;have x1:=aB0 (j:=1) O;have x2:=aB0 (j:=2) O;have x3:=aB0 (j:=3) O;have x4:=aB0 (j:=4) O;have c0:=hY0 w5 wz.heap.size (bX0 p (bN0 m4 p).1.q);have d2:OrdBx w (boxed w5 wz.heap.size (bX0 p (bN0 m4 p).1.q)) mb p:=⟨aF0 A.ptr c0 (fun e=>by have e':w.heap.size=wz.heap.size:=e;omega),aF0 A.box c0 (fun e=>by have e':w.heap.size+1=wz.heap.size:=e;omega)⟩;have d9:Hid (cI2 F w wd base mb bt ct m4 z vi4 p vf (E (some ⟨wz.heap.size,0,none⟩)) (.bool (bN0 m4 p).2) (boxed w5 wz.heap.size (bX0 p (bN0 m4 p).1.q))):=⟨wz.heap.size,v5,rfl,rfl,aK0 (bW0 W (aI T.size S.size)) c0 (fun j hj e=>aH0 W O d7 (by rw [hj];exact congrArg some e)),lX0 _ O,sE,l.unban c0 o7 o7,d2,(aX0 (aL S lR7) r).trans c0 (fun j hj=>aG (by rw [show j=wz.heap.size from hj];exact sE))⟩;have m7:=hid7 d2;clear W l r A d2 c0;refine aT0 (i:=14) k7 rfl (fun K b=>?_);go_simp;refine b.out _ _ (fun _ _ _=>f _ m7) ?_;clear b K;refine puM9 15 ?_;refine bI0 k7 ?_ _;go_wp2_with fail;go_meet;exact d9
               case rest=>
                obtain ⟨lb,v5,rfl,rfl,W,a7,g8,l,A,r⟩:=hcut;obtain ⟨s,sb,e8⟩:∃s sb,bN0 m4 p=(s,sb):=⟨_,_,rfl⟩;have i6:Hid (eB0 m4 p=(s.fs,if sb=true then volM { m4 with L:=if 0<s.q/\p.kind≠2 then addL (bX0 p s.q) s.L else s.L,la:=dE0 m4.la s.ts } else { m4 with L:=if 0<s.q/\p.kind≠2 then addL (bX0 p s.q) s.L else s.L,la:=dE0 m4.la s.ts })):=by show _=_;unfold eB0;rw [e8]
                have m5:Hid (s.L.length<=100):=by
                 have h:=eX1 (alM m4) p (aR0 (3 - p.side) m4.L) ⟨[],m4.L,p.qty,[]⟩;have e:cC0 (alM m4) p (aR0 (3 - p.side) m4.L) ⟨[],m4.L,p.qty,[]⟩=(s,sb):=e8;rw [e] at h;exact aI h g3
                rw [e8] at W a7 l;rw [e8];dsimp only at W a7 l;dsimp only;have f7:=hid7 W;have b6:=hid7 a7;have M:=hid7 l;have g0:=hid7 A;have N:=hid7 (aX0 T (cF1 r));have n6:Hid (w.heap.size+1<lb):=aT (lt_of_block n.box) g8;have z4:aC0 wc lb 4 (U G s.q):=aA0 (j:=4) a7 rfl;have y2:aC0 wc (w.heap.size+1) 2 (U G p.kind):=aA0 (j:=2) A.box rfl;clear e8 W a7 l A r g8 X y0 y1 y3 y4 a0;obtain ⟨a9,i9⟩:∃a9 c5,u8=J a9 s.fs.length c5:=by obtain ⟨a,c,e,_,_⟩:=bO0 f7;exact ⟨a,c,e⟩
                obtain ⟨b8,i9⟩:=i9;subst i9;go_upto_region 25 with fail;go_cut [133] from 126 to 133 (fun u f0=>u=.bool (decide (0<s.q)&& decide (p.kind≠2))/\f0=wc)
                case first=>
                 by_cases hq:0<s.q
                 ·have q1:=hq
                  by_cases c3:p.kind=2
                  ·have k2:(p.kind != 2)=false:=by rw [c3];rfl
                   have HB:Hid ((decide (0<s.q)&& decide (p.kind≠2))=false):=by show _=_;rw [c3];simp
                   clear c3;go_wp2_with fail;go_meet;exact ⟨by rw [HB.out],rfl⟩
                  ·have k2:=bne_iff_ne.2 c3;have HB:Hid ((decide (0<s.q)&& decide (p.kind≠2))=true):=by show _=_;rw [aE hq,aE c3];rfl
                   clear c3;go_wp2_with fail;go_meet;exact ⟨by rw [HB.out],rfl⟩
                 ·have q1:=hq;have HB:Hid ((decide (0<s.q)&& decide (p.kind≠2))=false):=by show _=_;rw [aD hq];rfl
                  go_wp2_with fail;go_meet;exact ⟨by rw [HB.out],rfl⟩
                case rest=>
                 obtain ⟨rfl,hw⟩:=hcut;subst hw;clear z4 y2;go_upto_if 133 with fail;go_cut [133] from 134 to 138 (fun _ f0=>∃v',MkIs f0 F base mb bt ct { m4 with L:=if 0<s.q/\p.kind≠2 then addL (bX0 p s.q) s.L else s.L,la:=dE0 m4.la s.ts } v' z vi4/\OrdBx w f0 mb p/\Out (fun j=>j=mb) wc f0)
                 case first=>
                  by_cases hc:0<s.q/\p.kind≠2
                  ·rw [show (decide (0<s.q)&& decide (p.kind≠2))=true by rw [aE hc.1,aE hc.2];rfl];have HC:=hid7 hc;clear hc;go_upto_region 26 with fail;have f:Hid (∀V,aL0 wc V->(fun w'=>aC0 w' w.heap.size 0 (E (some ⟨mb,0,none⟩))/\aC0 w' lb 0 (U G p.id)/\aC0 w' lb 1 (U G p.side)/\aC0 w' lb 2 (U G p.kind)/\aC0 w' lb 3 (U G p.price)/\aC0 w' lb 4 (U G s.q)) V):=fun V hV=>⟨aA0 (j:=0) (g0.below hV).ptr rfl,aA0 (j:=0) (aE0 b6 hV lR7) rfl,aA0 (j:=1) (aE0 b6 hV lR7) rfl,aA0 (j:=2) (aE0 b6 hV lR7) rfl,aA0 (j:=3) (aE0 b6 hV lR7) rfl,aA0 (j:=4) (aE0 b6 hV lR7) rfl⟩
                   refine bB0 (fun _=>fun w'=>aC0 w' w.heap.size 0 (E (some ⟨mb,0,none⟩))/\aC0 w' lb 0 (U G p.id)/\aC0 w' lb 1 (U G p.side)/\aC0 w' lb 2 (U G p.kind)/\aC0 w' lb 3 (U G p.price)/\aC0 w' lb 4 (U G s.q)) (fun _ i=>i == 4) k7 (fun _=>f _ (aF _ _).drew) (fun hHeld=>?_);have y:aL0 wc wc.drew:=(aF _ _).drew;generalize wc.drew=wz at y hHeld ⊢;refine tkM9 0 0 (hHeld 0) ?_;refine tkM9 0 1 (hHeld 0) ?_;refine tkM9 0 2 (hHeld 0) ?_;refine tkM9 0 3 (hHeld 0) ?_;refine aT0 (i:=4) k7 rfl (fun K b=>?_);go_simp;refine (bN2 F base mb bt ct { m4 with L:=s.L,la:=dE0 m4.la s.ts } v5 z vi4 (bX0 p s.q) wz (M.below y) m5 (aI l0 (aI N.size y.size))).mono ?_;rintro e w6 ⟨rfl,v6,c4,b4⟩;refine b.out _ _ (fun _ h=>by cases h) ?_;clear b K;have b1:Hid (MkIs w6 F base mb bt ct { m4 with L:=addL (bX0 p s.q) s.L,la:=dE0 m4.la s.ts } v6 z vi4/\OrdBx w w6 mb p/\Out (fun j=>j=mb) wc w6):=⟨c4,(g0.below y).out b4 e7,aX0 (aL y lR7) b4⟩;clear c4 b4;refine bI0 k7 ?_ _;go_wp2_with fail;go_meet;exact ⟨v6,by rw [aB HC.out];exact b1.out.1,b1.out.2⟩
                  ·rw [show (decide (0<s.q)&& decide (p.kind≠2))=false by
                    by_cases h1:0<s.q
                    ·rw [aE h1,aD (fun e=>hc ⟨h1,e⟩)];rfl
                    ·rw [aD h1];rfl]
                   have HC:=hid7 hc;clear hc;go_wp2_with fail;go_meet;exact ⟨v5,by rw [aA HC.out];exact M,g0,bL _ _⟩
                 case rest=>
                  obtain ⟨v6,c4,d2,b4⟩:=hcut;generalize (if 0<s.q/\p.kind≠2 then addL (bX0 p s.q) s.L else s.L)=LL at i6 c4;have b1:=hid7 c4;have i3:=hid7 (aX0 N (cF1 b4));have f9:Hid (wc.ownsRow w.heap.size 146 4 (J a9 s.fs.length b8) s.fs.length (fV s.fs)):=aK0 f7 b4 (fun j hj e=>aH0 f7 M.box d7 (hj.trans (congrArg some e)));have X:aC0 wc w.heap.size 0 (E (some ⟨mb,0,none⟩)):=aA0 (j:=0) d2.ptr rfl;clear c4 d2 b4 f7 b6 M g0 N;cases sb with
                  | true=>
                   go_wp2_with fail;refine (vR0 F base mb bt ct { m4 with L:=LL,la:=dE0 m4.la s.ts } v6 z vi4 _ b1 n0 n1).mono ?_;rintro e w7 ⟨rfl,l3,i8⟩;have j6:=hid7 l3;have j8:=hid7 (aX0 i3 (cF1 i8));have j9:Hid (w7.ownsRow w.heap.size 146 4 (J a9 s.fs.length b8) s.fs.length (fV s.fs)):=aK0 f9 i8 (fun j hj e=>aH0 f9 b1.box d7 (hj.trans (congrArg some e)));clear l3 i8 X;go_wp2_with fail;go_ret2;have d:=d6.trans (f6.trans i6)
                   first
                    | exact ⟨J a9 s.fs.length b8,by rw [E0.out];rfl,by rw [d];exact j9,⟨v6,z,vi4,by rw [d];exact j6⟩,j8⟩
                    | exact ⟨J a9 s.fs.length b8,v6,z,vi4,by rw [E0.out];rfl,by rw [d];exact j9,by rw [d];exact j6,j8⟩
                  | false=>
                   clear X;go_wp2_with fail;go_ret2;have d:=d6.trans (f6.trans i6)
                   first
                    | exact ⟨J a9 s.fs.length b8,by rw [E0.out];rfl,by rw [d];exact f9,⟨v6,z,vi4,by rw [d];exact b1⟩,i3⟩
                    | exact ⟨J a9 s.fs.length b8,v6,z,vi4,by rw [E0.out];rfl,by rw [d];exact f9,by rw [d];exact b1,i3⟩
              ·have e3:=aC.2 h3;have n3:(m4.ph != 3)=true:=by simpa [bne] using e3
               have f6:Hid (eW0 m4 p=([],{ m4 with L:=addL p m4.L })):=by show _=_;rw [HN.out,aB h3]
               clear h3;go_upto_region 22 with fail;generalize wc=wd at x n T a6 a0 X y0 y1 y2 y3 y4 ⊢
               have f:Hid (∀w',Out (fun j=>j=mb) wd w'->aC0 w' w.heap.size 0 (E (some ⟨mb,0,none⟩))/\aC0 w' (w.heap.size+1) 0 (U G p.id)/\aC0 w' (w.heap.size+1) 1 (U G p.side)/\aC0 w' (w.heap.size+1) 2 (U G p.kind)/\aC0 w' (w.heap.size+1) 3 (U G p.price)/\aC0 w' (w.heap.size+1) 4 (U G p.qty)/\Out (fun j=>j=mb) wd w'):=fun w' ho=>by
                have c6:=n.out.out ho e7;exact ⟨aA0 (j:=0) c6.ptr rfl,aA0 (j:=0) c6.box rfl,aA0 (j:=1) c6.box rfl,aA0 (j:=2) c6.box rfl,aA0 (j:=3) c6.box rfl,aA0 (j:=4) c6.box rfl,ho⟩
               clear X y0 y1 y2 y3 y4;go_cut [113] from 109 to 113 (fun _ wc=>∃v',MkIs wc F base mb bt ct { m4 with L:=addL p m4.L } v' z vi4/\Out (fun j=>j=mb) wd wc)
               case first=>
                go_region_held3 (fun w'=>aC0 w' w.heap.size 0 (E (some ⟨mb,0,none⟩))/\aC0 w' (w.heap.size+1) 0 (U G p.id)/\aC0 w' (w.heap.size+1) 1 (U G p.side)/\aC0 w' (w.heap.size+1) 2 (U G p.kind)/\aC0 w' (w.heap.size+1) 3 (U G p.price)/\aC0 w' (w.heap.size+1) 4 (U G p.qty)/\Out (fun j=>j=mb) wd w')
                 ((refine f _ ?_;(first | exact N | exact bL _ _ | exact aW0 (bL _ _) | (go_split_ands;assumption))))
                 ((go_at_call 95;refine (bN2 F base mb bt ct m4 vb z vi4 p wd.drew x.drew g3 (by simpa using a6)).mono ?_;rintro e w5 ⟨rfl,v5,l,r⟩;have M:Hid _:=l;have N:Hid (Out (fun j=>j=mb) wd w5):=(aW0 (bL _ _)).trans r (aJ _ _);clear l r))
                all_goals go_wp2_with fail
                all_goals go_meet
                all_goals exact ⟨v5,M,N⟩
               case rest=>
                obtain ⟨v5,l,r⟩:=hcut;have M:Hid _:=l;have N:=hid7 (aX0 T (cF1 r));clear l r a0;go_wp2_with fail;go_ret2;have d:=d6.trans f6
                first
                 | exact ⟨J none 0 0,by rw [E0.out];rfl,by rw [d];exact aU _ _ _ _,⟨v5,z,vi4,by rw [d];exact M⟩,N⟩
                 | exact ⟨J none 0 0,v5,z,vi4,by rw [E0.out];rfl,by rw [d];exact aU _ _ _ _,by rw [d];exact M,N⟩
theorem cG1 {l:List Ord} (h:k<l.length):limL (l.take (k+1))=limL (l.take k)++(if (oAt l k).kind == 1 then [oAt l k] else []):=by
 unfold limL;rw [List.take_succ_eq_append_getElem h,List.filter_append,<-eJ0 h]
 by_cases e:((oAt l k).kind == 1)=true
 ·rw [aB e];simp [e]
 ·rw [aA e];simp [e]
theorem wM1 (l:List Ord) (k:Nat):(limL (l.take k)).length<=l.length:=by
 unfold limL;have h1:=List.length_filter_le (fun o:Ord=>o.kind == 1) (l.take k);have a:=List.length_take_le' k l;omega
theorem cJ2 (F:Nat->Prop) (base mb c d:Nat) (m:Mkt) (i l k:Value) (w:World) (h:MkIs w F base mb c d m i l k) (r:m.L.length<=100) (a:LOk m.L) (g:base<=w.heap.size) (o:0<(aI0 m).qty):
  Calls prog 153 #[E (some ⟨mb,7,none⟩),U G (aI0 m).price,U G (aI0 m).qty] w fun e w'=>∃b v',e=Y (.tuple #[b,U G 0])/\w'.ownsRow w.heap.size 146 4 b (uncA m).1.length (fV (uncA m).1)
   /\MkIs w' F base mb c d { m with L:=(uncA m).2.L } v' l k/\Out (fun j=>j=mb) w w':=by
 have f:FOk (aI0 m).price ⟨[],m.L,(aI0 m).qty⟩:=fS0 m.la a o;have h1:(aI0 m).qty<=wilL 1 (aI0 m).price m.L:=f.buy;have v:(aI0 m).qty<=wilL 2 (aI0 m).price m.L:=f.sell;refine (bB2 base (spM F mb c d m i l k) i m.L (aI0 m).price (aI0 m).qty w h.book g r a ⟨by omega,by omega⟩).mono ?_;rintro e w' ⟨K,b,v',rfl,h0,t,u,s,n⟩;have p:=aV1 f h0 t
 have q:uncA m=((aY0 (aI0 m).price ⟨[],m.L,(aI0 m).qty⟩ K).fs,{ m with L:=(aY0 (aI0 m).price ⟨[],m.L,(aI0 m).qty⟩ K).L,an:=(aI0 m).price,la:=(aI0 m).price }):=by
  unfold uncA;rw [aB o,p]
 rw [q];exact ⟨b,v',rfl,u,h.ofBook s n,n⟩
theorem uH0 (F:Nat->Prop) (base mb M N:Nat) (m:Mkt) (vb S Q:Value) (w:World) (h:MkIs w F base mb M N m vb S Q) (hL:m.L.length<=100) (a2:LOk m.L) (a8:1<=m.la/\m.la<=1000000) (a7:base<=w.heap.size):
  Calls prog 102 #[E (some ⟨mb,0,none⟩)] w fun e w'=>∃vf v',e=Y vf/\w'.ownsRow w.heap.size 146 4 vf (uncM m).1.length (fV (uncM m).1)/\MkIs w' F base mb M N (uncM m).2 v' S Q/\Out (fun j=>j=mb) w w':=by
 obtain ⟨i0,hi,b2,b3,b4⟩:=info_parts infoOrd;have H:=hid7 h;have HK:=hid7 a2;clear h a2;go_enter func102,ntmps102;go_wp2_with fail;refine (eL1 F base mb M N m vb S Q w H.out hL HK.out a8).mono ?_;rintro e w1 ⟨rfl,z⟩;unfold qAgg;have H1:=hid7 (H.out.below z);have O1:Hid (Out (fun j=>j=mb) w w1):=aL z lR7;have l1:=z.size;clear z H;go_upto_if 12 with fail;have f:=heap_alloc_new w1 (R #[U G (aI0 m).price,U G (aI0 m).qty,U G (aI0 m).sur] 107);have s:=bel1 w1 (R #[U G (aI0 m).price,U G (aI0 m).qty,U G (aI0 m).sur] 107);generalize w1.alloc (R #[U G (aI0 m).price,U G (aI0 m).qty,U G (aI0 m).sur] 107)=w2 at f s ⊢;have D:w1.heap.size≠mb:=by have:=lt_of_block H1.out.box;omega
 have T:=hid7 (H1.out.below s);have O2:Hid (Out (fun j=>j=mb) w w2):=O1.out.trans (aL s lR7) (aJ _ _);have l2:w.heap.size<=w2.heap.size:=O2.out.size;have X:Hid _:=f
 have n:Hid (∀w',Out (fun j=>j=mb) w2 w'->w'.cell? ⟨w1.heap.size,0,none⟩=some (U G (aI0 m).price)/\w'.cell? ⟨w1.heap.size,1,none⟩=some (U G (aI0 m).qty)/\Out (fun j=>j=mb) w2 w'):=fun w' P=>by
  have a3:=(P.block _ (lt_of_block f) D).trans f;exact ⟨aA0 (j:=0) a3 rfl,aA0 (j:=1) a3 rfl,P⟩
 clear f s D H1 O1;go_cut [3] (fun u3 wc=>∃v',wc.ownsRow w.heap.size 146 4 u3 (uncA m).1.length (fV (uncA m).1)/\MkIs wc F base mb M N (uncA m).2 v' S Q/\Out (fun j=>j=mb) w wc)
 case first=>
  by_cases A:0<(aI0 m).qty
  ·have HQ:=hid7 A;have V:Hid ((uncA m).2={ m with L:=(uncA m).2.L,an:=(aI0 m).price,la:=(aI0 m).price }):=by show _=_;unfold uncA;rw [aB A]
   have gq:=aE A;have a5:base<=w2.heap.size:=o7;generalize a9:(aI0 m).price=pp at V n X;generalize b0:(aI0 m).qty=qq at A gq n X;go_wp2_with fail;rw [gq];go_cut [3] from 14 to 23 (fun u3 wc=>∃v',wc.ownsRow w.heap.size 146 4 u3 (uncA m).1.length (fV (uncA m).1)/\MkIs wc F base mb M N { m with L:=(uncA m).2.L } v' S Q/\Out (fun j=>j=mb) w2 wc)
   case first=>
    go_region_held3 (fun w'=>w'.cell? ⟨w1.heap.size,0,none⟩=some (U G pp)/\w'.cell? ⟨w1.heap.size,1,none⟩=some (U G qq)/\Out (fun j=>j=mb) w2 w')
     ((refine n.out _ ?_;(first | exact x.out | exact bL _ _ | exact aW0 (bL _ _))))
     ((go_at_call 153;subst a9 b0;refine (cJ2 F base mb M N m vb S Q w2.drew T.out.drew hL HK.out (by simpa using a5) HQ.out).mono ?_;rintro e w3 ⟨vf,v3,rfl,p,b,d⟩;have y:Hid _:=p;have v:Hid _:=b;have x:Hid (Out (fun j=>j=mb) w2 w3):=(aW0 (bL _ _)).trans d (aJ _ _);clear p b d))
    all_goals go_wp2_with fail
    all_goals go_meet
    all_goals exact ⟨v3,bW0 y.out (by simpa using l2),v.out,x.out⟩
   case rest=>
    obtain ⟨v3,p,b,d⟩:=hcut;obtain ⟨z0,_,_⟩:=n.out _ d;have c3:wc.cell? ⟨mb,3,none⟩=some (U G m.an):=aA0 (j:=3) b.box rfl;have c4:wc.cell? ⟨mb,4,none⟩=some (U G m.la):=aA0 (j:=4) b.box rfl;have f3:=aB0 (j:=3) b.box;have f4:=aB0 (j:=4) b.box;have v:Hid _:=b;have y:=hid7 p;have x:Hid _:=d;have D:w1.heap.size≠mb:=by have:=lt_of_block T.out.box;have:=lt_of_block X.out;have h9:=X.out;have h8:=T.out.box;intro e;rw [e] at h9;have:=h9.symm.trans h8;simp at this
    clear b p d;go_upto_region 5 with fail;go_region
    all_goals go_wp2_with fail
    all_goals go_meet
    all_goals have O:Out (fun j=>j=mb) wc ((wc.setCell ⟨mb,3,none⟩ (U G pp)).setCell ⟨mb,4,none⟩ (U G pp)).drew:=aW0 ((aM0 wc ⟨mb,3,none⟩ _).trans (aM0 _ ⟨mb,4,none⟩ _) (aJ _ _))
    all_goals exact ⟨v3,aK0 y.out O (fun k hk e=>aH0 y.out v.out.box d7 (hk.trans (congrArg some e))),by rw [V.out];exact ((v.out.write (j:=3) (u:=U G pp) (m':={ m with L:=(uncA m).2.L,an:=pp }) rfl rfl rfl rfl rfl).write (j:=4) (u:=U G pp) (m':={ m with L:=(uncA m).2.L,an:=pp,la:=pp }) rfl rfl rfl rfl rfl).drew,O2.out.trans (x.out.trans O (aJ _ _)) (aJ _ _)⟩
  ·have V:Hid (uncA m=([],m)):=by show _=_;unfold uncA;rw [aA A]
   have gq:=aD A;go_wp2_with fail;go_meet;exact ⟨vb,by rw [V.out];exact aU _ _ _ _,by rw [V.out];exact T.out,O2.out⟩
 case rest=>
  obtain ⟨v3,hr,C,P⟩:=hcut;have HU:=hid7 (xT0 m);have a0:=vM1 HK.out hL;clear X n T O2 l2;generalize uncA m=um at hr C a0 HU;obtain ⟨fs,a⟩:=um;dsimp only at hr C a0 HU;have HR:=hid7 hr;have HM:=hid7 C;have W:=hid7 C.lim;have HO:=hid7 P;obtain ⟨ao,Z,rfl,_,_⟩:=bO0 C.bk;have c7:wc.cell? ⟨mb,7,none⟩=some (J ao a.L.length Z):=aA0 (j:=7) C.box rfl;have a6:base<=wc.heap.size:=aI a7 P.size;clear hr C P;go_wp2_with fail;go_loopw [5,40] (fun u5 u40 wr=>∃k:Nat,k<=a.L.length/\u40=U G k/\Below wc.heap.size wc wr/\wr.ownsRow wc.heap.size 92 5 u5 (limL (a.L.take k)).length (oV (limL (a.L.take k)))) (fun _ u40 _=>a.L.length - (intOf u40).toNat)
  case atStart=>exact ⟨0,Nat.zero_le _,rfl,aF _ _,aU _ _ _ _⟩
  case round=>
   obtain ⟨k,hk,rfl,hb,c⟩:=hrel;have i:=hid7 hb;have K:=hid7 c;have a1:=wM1 a.L k;obtain ⟨I,r,rfl,_,_⟩:=bO0 c;clear hb c
   by_cases o:k<a.L.length
   ·obtain ⟨g,b5,hv,d0,d1,d2,d3,d4⟩:=cT0 (HM.out.below i.out).bk o;simp only [aY,true_and] at hv;obtain ⟨rfl,rfl⟩:=hv
    by_cases f:(oAt a.L k).kind=1
    ·have HT:Hid (limL (a.L.take (k+1))=limL (a.L.take k)++[oAt a.L k]):=by
      have:=cG1 o;rw [aB (by simpa using f)] at this;exact this
     have b1:((oAt a.L k).kind == 1)=true:=by simpa using f
     clear f;go_wp2_with (at_builtin;go_loud (refine wpList_append_lies _ rfl _ _ 99 rfl wc.heap.size 92 i0 (.agg #[U G 0,U G 0,U G 0,U G 0,U G 0]) 5 40 underlying99 hi b2 b3 b4 rfl d7 (J I (limL (a.L.take k)).length r) (limL (a.L.take k)).length (oV (limL (a.L.take k))) rfl ((K.out.alloc _).alloc _) ⟨wr.heap.size+1,0,none⟩ 1 1 [U G (oAt a.L k).id,U G (oAt a.L k).side,U G (oAt a.L k).kind,U G (oAt a.L k).price,U G (oAt a.L k).qty] rfl rfl (bJ (cs:=#[U G (oAt a.L k).id,U G (oAt a.L k).side,U G (oAt a.L k).kind,U G (oAt a.L k).price,U G (oAt a.L k).qty]) (t:=92) (fr:=(0,0)) (yH1 wr _ _)) (by simp [Value.oneCell']) d7 (by unfold maxLen;omega) o7 (aI i.out.size (by simp;omega)) (wr.heap.size+2) s7 ?_);intro g2 cg w1 c B b6 b7);go_roundw
     case rel=>
      have a4:Below wc.heap.size wc w1:=((i.out.alloc i.out.size _).alloc (by have:=i.out.size;simp;omega) _).grown B (by have:=i.out.size;simp;omega) (fun q A=>(K.out.lt q A).1);refine ⟨k+1,o,by go_num,a4,?_⟩;rw [HT.out,aN,bD,cL0];exact c
     case measure=>first | (simp [intOf];omega) | (show a.L.length - (k+1)<a.L.length - k;omega) | omega
    ·have HT:Hid (limL (a.L.take (k+1))=limL (a.L.take k)):=by
      have:=cG1 o;rw [aA (by simpa using f),List.append_nil] at this;exact this
     have b1:=aC.2 f;clear f;go_wp2_with fail;go_roundw
     case rel=>exact ⟨k+1,o,by go_num,i.out.alloc i.out.size _,by rw [HT.out];exact K.out.alloc _⟩
     case measure=>first | (simp [intOf];omega) | (show a.L.length - (k+1)<a.L.length - k;omega) | omega
   ·obtain rfl:k=a.L.length:=o7;rw [List.take_length] at K a1 ⊢;have l:Hid _:=HM.out.below i.out;have f7:=aB0 (j:=7) l.out.box;have c7:wr.cell? ⟨mb,7,none⟩=some (J ao a.L.length Z):=aA0 (j:=7) l.out.box rfl;go_wp2_with fail;go_ret;have O:Out (fun j=>j=mb) wr (wr.setCell ⟨mb,7,none⟩ (J I (limL a.L).length r)):=aM0 wr ⟨mb,7,none⟩ _;have hR:=aU0 HR.out i.out lR7;refine ⟨u3,J I (limL a.L).length r,rfl,?_,?_,HO.out.trans ((aL i.out lR7).trans O (aJ _ _)) (aJ _ _)⟩
    ·rw [HU.out];exact aK0 hR O (fun k hk e=>aH0 hR l.out.box d7 (hk.trans (congrArg some e)))
    ·rw [HU.out];exact l.out.ofBook (l.out.book.put (bW0 K.out a6) (fun j hj e=>by
      have h1:=(K.out.lt j hj).1;have h2:=W.out j e;omega)) O
structure Ticked (w:World) (F:Nat->Prop) (base mb bt ct:Nat) (vi:Value) (r:List Fil×Mkt) (vf:Value) (w':World):Prop where
 row:w'.ownsRow w.heap.size 146 4 vf r.1.length (fV r.1)
 is:∃vb vp,MkIs w' F base mb bt ct r.2 vb vp vi
 out:Out (fun j=>j=mb) w w'
section
variable {w W w':World} {F:Nat->Prop} {base mb bt ct:Nat} {m:Mkt} {vb vp vi vf:Value}
theorem fO0 (a:MkIs w' F base mb bt ct m vb vp vi) (b:Out (fun j=>j=mb) w w'):Ticked w F base mb bt ct vi ([],m) (J none 0 0) w':=⟨aU _ _ _ _,⟨vb,vp,a⟩,b⟩
theorem cH1 (p:Int) (a:Out (fun j=>j=mb) w W) (c:w'.ownsRow W.heap.size 146 4 vf (uncM m).1.length (fV (uncM m).1)) (b:MkIs w' F base mb bt ct (uncM m).2 vb vp vi) (d:Out (fun j=>j=mb) W w'):Ticked w F base mb bt ct vi ((uncM m).1,{ (uncM m).2 with ph:=p }) vf (w'.setCell ⟨mb,10,none⟩ (U G p)):=
 have h1:=aM0 w' ⟨mb,10,none⟩ (U G p)
 ⟨aK0 (bW0 c a.size) h1 (fun _ hk e=>aH0 c b.box d7 (hk.trans (congrArg some e))),⟨vb,vp,b.write (j:=10) (m':={ (uncM m).2 with ph:=p }) rfl rfl rfl rfl rfl⟩,a.trans (d.trans h1 (aJ _ _)) (aJ _ _)⟩
theorem qV1 (b:MkIs w' F base mb bt ct m vb vp vi):MkIs (((w'.setCell ⟨mb,7,none⟩ (J none 0 0)).setCell ⟨mb,8,none⟩ (J none 0 0)).setCell ⟨mb,10,none⟩ (U G 7)) F base mb bt ct { m with L:=[],P:=[],ph:=7 } (J none 0 0) (J none 0 0) vi:=
 ((b.ofBook (L':=[]) (b.book.put (aU _ _ _ _) (fun _ a=>by cases a)) (aM0 w' ⟨mb,7,none⟩ _)).parks (P':=[]) (aU _ _ _ _) (fun _ a=>by cases a)).write (j:=10) (m':={ m with L:=[],P:=[],ph:=7 }) rfl rfl rfl rfl rfl
theorem hT1 (w':World) (mb:Nat):Out (fun j=>j=mb) w' (((w'.setCell ⟨mb,7,none⟩ (J none 0 0)).setCell ⟨mb,8,none⟩ (J none 0 0)).setCell ⟨mb,10,none⟩ (U G 7)):=
 ((aM0 w' ⟨mb,7,none⟩ _).trans (aM0 _ ⟨mb,8,none⟩ _) (aJ _ _)).trans (aM0 _ ⟨mb,10,none⟩ _) (aJ _ _)
end
theorem gA2 (F:Nat->Prop) (base mb bt ct:Nat) (m:Mkt) (vb vp vi:Value) (w:World) (h:MkIs w F base mb bt ct m vb vp vi) (hL:m.L.length<=100) (c4:LOk m.L) (c2:1<=m.la/\m.la<=1000000) (hP:m.P.length<=100) (b0:base<=w.heap.size) (hr:0<m.rs.length/\m.rs.length<=60)
  (hn:0<=m.now/\m.now<=1000000000000) (ht:0<=m.ti/\m.ti<=1000000000000) (c3:0<=m.lo/\m.lo<=1000000000000):
  Calls prog 55 #[E (some ⟨mb,0,none⟩)] w fun e w'=>∃vf,e=Y (.tuple #[vf,U G (pK0 m)])/\Ticked w F base mb bt ct vi (bT0 m) vf w':=by
 have q:aC0 w mb 10 (U G m.ph):=aA0 (j:=10) h.box rfl;have H:=hid7 h;have HK:=hid7 c4;clear h c4
 by_cases h7:m.ph=7
 ·have e7:=beq_iff_eq.2 h7;have HN:Hid (pK0 m=6/\bT0 m=([],m)):=⟨by unfold pK0;rw [aB h7],by unfold bT0;rw [aB h7]⟩;clear h7;go_enter func55,ntmps55;go_wp2_with fail;go_ret2;exact ⟨J none 0 0,by rw [HN.out.1];rfl,by rw [HN.out.2];exact ⟨aU _ _ _ _,⟨vb,vp,H⟩,bL _ _⟩⟩
 ·have e7:=aC.2 h7;have HN:Hid (pK0 m=0/\bT0 m=kP0 (phaseV m.rs m.now).1 (phaseV m.rs (m.now+1)).1 { m with now:=m.now+1 }):=⟨by unfold pK0;rw [aA h7],by unfold bT0;rw [aA h7]⟩;have K:Hid (∀w',aL0 w w'->aC0 w' mb 0 (J (some ⟨bt,0,none⟩) m.rs.length ct)/\aC0 w' mb 11 (U G m.now)/\aL0 w w'):=fun w' c=>⟨aA0 (j:=0) (H.below c).box rfl,aA0 (j:=11) (H.below c).box rfl,c⟩
  clear h7;go_enter func55,ntmps55;go_upto_region 3 with fail;clear q;go_cut [4] from 16 to 26 (fun u4 wc=>u4=U G (phaseV m.rs m.now).1/\aL0 w wc)
  case first=>
   go_region_held3 (fun w'=>aC0 w' mb 0 (J (some ⟨bt,0,none⟩) m.rs.length ct)/\aC0 w' mb 11 (U G m.now)/\aL0 w w')
    ((refine K _ ?_;(first | exact b5 | exact aF _ _ | exact (aF _ _).drew | (go_split_ands;assumption))))
    ((go_at_call 101;refine (lI0 bt ct m.now m.rs w.drew H.drew.tab hr.1 hr.2).mono ?_;rintro e w2 ⟨rfl,c1⟩;have b5:Hid (aL0 w w2):=(aF _ _).drew.trans (c1.mono s7);clear c1))
   all_goals go_wp2_with fail
   all_goals go_meet
   all_goals exact ⟨rfl,b5⟩
  case rest=>
   obtain ⟨rfl,c⟩:=hcut;have V:=hid7 (H.below c);have b7:Hid (Out (fun j=>j=mb) w wc):=aL c lR7;have M:aC0 wc mb 11 (U G m.now):=aA0 (j:=11) V.box rfl;have d1:=aB0 (j:=11) V.box;have wn:IntKind.i64.wrap (m.now+1)=m.now+1:=IntWalk.i64_in _ o7;clear c K H;go_upto_region 5 with fail;have z:=V.write (j:=11) (u:=U G (m.now+1)) (m':={ m with now:=m.now+1 }) rfl rfl rfl rfl rfl;have b2:Out (fun j=>j=mb) w (wc.setCell ⟨mb,11,none⟩ (U G (m.now+1))):=b7.trans (aM0 _ ⟨mb,11,none⟩ _) (aJ _ _);generalize wc.setCell ⟨mb,11,none⟩ (U G (m.now+1))=w2 at z b2 ⊢;clear M d1 V b7;generalize l:({ m with now:=m.now+1 }:Mkt)=m2 at z HN;have d:Hid (bT0 m=kP0 (phaseV m.rs m.now).1 (phaseV m2.rs m2.now).1 m2):=by show _=_;rw [HN.out.2,<-l]
   have k:=hid7 HN.out.1;have T:Hid (LOk m2.L):=by show LOk m2.L;rw [<-l];exact HK
   have e0:0<=m2.now/\m2.now<=1000000000001:=by rw [<-l];exact ⟨by show 0<=m.now+1;omega,by show m.now+1<=1000000000001;omega⟩
   have e1:0<=m2.ti/\m2.ti<=1000000000000:=by rw [<-l];exact ht
   have d6:0<=m2.lo/\m2.lo<=1000000000000:=by rw [<-l];exact c3
   have t:1<=m2.la/\m2.la<=1000000:=by rw [<-l];exact c2
   have N:m2.L.length<=100:=by rw [<-l];exact hL
   have d3:m2.P.length<=100:=by rw [<-l];exact hP
   have b4:0<m2.rs.length/\m2.rs.length<=60:=by rw [<-l];exact hr
   have a5:=hid7 z;have b8:=hid7 b2;have K:Hid (∀w',aL0 w2 w'->aC0 w' mb 0 (J (some ⟨bt,0,none⟩) m2.rs.length ct)/\aC0 w' mb 11 (U G m2.now)/\aL0 w2 w'):=fun w' c=>⟨aA0 (j:=0) (z.below c).box rfl,aA0 (j:=11) (z.below c).box rfl,c⟩
   generalize (phaseV m.rs m.now).1=was at d ⊢;clear l HN HK z b2 wn hL c2 hP hr hn ht c3;go_cut [6] from 35 to 45 (fun u6 wc=>u6=U G (phaseV m2.rs m2.now).1/\aL0 w2 wc)
   case first=>
    go_region_held3 (fun w'=>aC0 w' mb 0 (J (some ⟨bt,0,none⟩) m2.rs.length ct)/\aC0 w' mb 11 (U G m2.now)/\aL0 w2 w')
     ((refine K _ ?_;(first | exact b6 | exact aF _ _ | exact (aF _ _).drew | (go_split_ands;assumption))))
     ((go_at_call 101;refine (lI0 bt ct m2.now m2.rs w2.drew a5.drew.tab b4.1 b4.2).mono ?_;rintro e w3 ⟨rfl,a2⟩;have b6:Hid (aL0 w2 w3):=(aF _ _).drew.trans (a2.mono s7);clear a2))
    all_goals go_wp2_with fail
    all_goals go_meet
    all_goals exact ⟨rfl,b6⟩
   case rest=>
    obtain ⟨rfl,c⟩:=hcut;have p:=hid7 (a5.below c);have D:Hid (Out (fun j=>j=mb) w wc):=b8.trans (aL c lR7) (aJ _ _);have Q:base<=wc.heap.size:=aI b0 D.size;have q:aC0 wc mb 10 (U G m2.ph):=aA0 (j:=10) p.box rfl;have o:=aB0 (j:=10) p.box;generalize (phaseV m2.rs m2.now).1=is at d ⊢;clear c K a5 b8 e7 b4
    by_cases f:is=7
    ·subst f;have c7:aC0 wc mb 7 vb:=aA0 (j:=7) p.box rfl;have f7:=aB0 (j:=7) p.box;have c8:aC0 wc mb 8 vp:=aA0 (j:=8) p.box rfl;have f8:=aB0 (j:=8) p.box
     by_cases y:m2.ph=5
     ·have e5:=beq_iff_eq.2 y;have i:Hid (bT0 m=((uncM m2).1,{ (uncM m2).2 with L:=[],P:=[],ph:=7 })):=by show _=_;rw [d.out];unfold kP0;rw [aB rfl,aB y,aB y]
      clear y c7 f7 c8 f8 o;go_wp2_with fail;refine (uH0 F base mb bt ct m2 vb vp vi wc p N T t Q).mono ?_;rintro e v ⟨vf,v4,rfl,r,a,g⟩;have c7:aC0 v mb 7 v4:=aA0 (j:=7) a.box rfl;have f7:=aB0 (j:=7) a.box;have c8:aC0 v mb 8 vp:=aA0 (j:=8) a.box rfl;have f8:=aB0 (j:=8) a.box;have o:=aB0 (j:=10) a.box;have c0:aC0 v mb 10 (U G (uncM m2).2.ph):=aA0 (j:=10) a.box rfl;have b9:=hid7 r;have B:=hid7 a;have a0:=hid7 g;clear r a g q;go_wp2_with fail;go_ret2;have hO:=hT1 v mb;exact ⟨vf,by rw [k.out];rfl,by rw [i.out];exact ⟨aK0 (bW0 b9 D.size) hO (fun _ hk e=>aH0 b9 B.box d7 (hk.trans (congrArg some e))),⟨_,_,qV1 B⟩,D.trans (a0.trans hO (aJ _ _)) (aJ _ _)⟩⟩
     ·have e5:=aC.2 y;have i:Hid (bT0 m=([],{ m2 with L:=[],P:=[],ph:=7 })):=by show _=_;rw [d.out];unfold kP0;rw [aB rfl,aA y,aA y]
      clear y;go_wp2_with fail;go_ret2;exact ⟨J none 0 0,by rw [k.out];rfl,by rw [i.out];exact fO0 (qV1 p) (D.trans (hT1 wc mb) (aJ _ _))⟩
    ·have d8:=aC.2 f
     by_cases A:m2.ph=6
     ·have e6:=beq_iff_eq.2 A;have i:Hid (bT0 m=([],m2)):=by show _=_;rw [d.out];unfold kP0;rw [aA f,aB A]
      clear A f;go_wp2_with fail;go_ret2;exact ⟨J none 0 0,by rw [k.out];rfl,by rw [i.out];exact fO0 p D⟩
     ·have e6:=aC.2 A
      by_cases hw:was=is
      ·subst hw;have nw:(was != was)=false:=by simp [bne]
       have d5:(was == was)=true:=beq_iff_eq.2 rfl;have i:Hid (bT0 m=if m2.ph=4/\m2.en<=m2.now then
  (if (aI0 m2).qty=0\/gI0 m2.st m2.an (aI0 m2).price=true then ((uncM m2).1,{ (uncM m2).2 with ph:=3 })
   else if m2.lo<m2.mo then ([],{ m2 with lo:=m2.lo+1,en:=m2.now+m2.ti })
   else ([],{ m2 with ph:=6 }))
 else ([],m2)):=by
        show _=_;rw [d.out];unfold kP0;rw [aA f,aA A,aA (fun e=>e.1 rfl),aA (fun e=>e.1 rfl),aA (fun e=>e rfl)]
       clear f A d;have M:aC0 wc mb 11 (U G m2.now):=aA0 (j:=11) p.box rfl;have a8:aC0 wc mb 12 (U G m2.en):=aA0 (j:=12) p.box rfl;generalize wc=wd at p D Q q o M a8 ⊢;go_upto_region 19 with fail;go_cut [104] from 105 to 120 (fun u w3=>u=.bool (decide (m2.ph=4/\m2.en<=m2.now))/\aL0 wd w3)
       case first=>
        by_cases h4:m2.ph=4
        ·have e4:=beq_iff_eq.2 h4
         by_cases a4:m2.en<=m2.now
         ·have S:Hid (decide (m2.ph=4/\m2.en<=m2.now)=true):=aE ⟨h4,a4⟩;have d4:=aE a4;clear h4;go_region
          all_goals go_wp2_with fail
          all_goals go_meet
          all_goals exact ⟨by rw [S.out],(aF _ _).drew⟩
         ·have S:Hid (decide (m2.ph=4/\m2.en<=m2.now)=false):=aD (fun e=>a4 e.2);have d4:=aD a4;clear h4;go_region
          all_goals go_wp2_with fail
          all_goals go_meet
          all_goals exact ⟨by rw [S.out],(aF _ _).drew⟩
        ·have e4:=aC.2 h4;have S:Hid (decide (m2.ph=4/\m2.en<=m2.now)=false):=aD (fun e=>h4 e.1);go_region
         all_goals go_wp2_with fail
         all_goals go_meet
         all_goals exact ⟨by rw [S.out],(aF _ _).drew⟩
       case rest=>
        obtain ⟨rfl,c⟩:=hcut;have W:=hid7 (p.below c);have Z:Hid (Out (fun j=>j=mb) w wc):=D.trans (aL c lR7) (aJ _ _);have a2:base<=wc.heap.size:=aI b0 Z.size;clear c q M a8 o p D Q
        by_cases n:m2.ph=4/\m2.en<=m2.now
        ·rw [aE n];rw [aB n] at i;clear n;go_wp2_with fail;refine (eL1 F base mb bt ct m2 vb vp vi wc W N T t).mono ?_;rintro e v ⟨rfl,a9⟩;unfold qAgg;have B:=hid7 (W.below a9);have a0:Hid (Out (fun j=>j=mb) w v):=Z.trans (aL a9 lR7) (aJ _ _);clear a9 W Z a2;go_upto_region 22 with fail;have hx:=heap_alloc_new v (R #[U G (aI0 m2).price,U G (aI0 m2).qty,U G (aI0 m2).sur] 107);have a3:=bel1 v (R #[U G (aI0 m2).price,U G (aI0 m2).qty,U G (aI0 m2).sur] 107);generalize v.alloc (R #[U G (aI0 m2).price,U G (aI0 m2).qty,U G (aI0 m2).sur] 107)=w5 at hx a3 ⊢;have X:=hid7 (B.below a3);have a6:Hid (Out (fun j=>j=mb) w w5):=a0.trans (aL a3 lR7) (aJ _ _);have q0:aC0 w5 v.heap.size 0 (U G (aI0 m2).price):=aA0 (j:=0) hx rfl;have q1:aC0 w5 v.heap.size 1 (U G (aI0 m2).qty):=aA0 (j:=1) hx rfl;clear hx a3 B a0;go_cut [126] from 127 to 135 (fun u w3=>u=.bool (decide ((aI0 m2).qty=0\/gI0 m2.st m2.an (aI0 m2).price=true))/\aL0 w5 w3)
         case first=>
          by_cases hq:(aI0 m2).qty=0
          ·have d0:=beq_iff_eq.2 hq;have S:Hid (decide ((aI0 m2).qty=0\/gI0 m2.st m2.an (aI0 m2).price=true)=true):=aE (aH hq);clear hq;go_wp2_with fail;go_meet;exact ⟨by rw [S.out],aF _ _⟩
          ·have d0:=aC.2 hq;have S:Hid (∀b,gI0 m2.st m2.an (aI0 m2).price=b->decide ((aI0 m2).qty=0\/b=true)=b):=fun b _=>by cases b <;> simp [hq]
           clear hq;go_wp2_with fail;refine (bO2 F base mb bt ct m2 vb vp vi (aI0 m2).price w5 X).mono ?_;rintro e w6 ⟨rfl,O⟩;go_wp2_with fail;go_meet;exact ⟨by rw [S.out _ rfl],O⟩
         case rest=>
          obtain ⟨rfl,c⟩:=hcut;clear q0 q1;generalize w5=wd at X a6 c;have x:=hid7 (X.below c);have I:Hid (Out (fun j=>j=mb) w wc):=a6.trans (aL c lR7) (aJ _ _);have O:base<=wc.heap.size:=aI b0 I.size;clear c X a6
          by_cases n:(aI0 m2).qty=0\/gI0 m2.st m2.an (aI0 m2).price=true
          ·rw [aE n];rw [aB n] at i;clear n;go_wp2_with fail;refine (uH0 F base mb bt ct m2 vb vp vi wc x N T t O).mono ?_;rintro e w7 ⟨vf,v4,rfl,r,a,g⟩;have o:=aB0 (j:=10) a.box;have c0:aC0 w7 mb 10 (U G (uncM m2).2.ph):=aA0 (j:=10) a.box rfl;have HT:Hid _:=cH1 3 I r a g;clear r a g;go_wp2_with fail;go_ret2;exact ⟨vf,by rw [k.out];rfl,by rw [i.out];exact HT⟩
          ·rw [aD n];rw [aA n] at i;clear n;have a1:aC0 wc mb 13 (U G m2.lo):=aA0 (j:=13) x.box rfl;have c6:aC0 wc mb 6 (U G m2.mo):=aA0 (j:=6) x.box rfl;generalize wc=we at x I O a1 c6 ⊢;go_upto_region 25 with fail;go_cut [141] from 142 to 150 (fun u w3=>u=.bool (decide (m2.lo<m2.mo))/\aL0 we w3)
           case first=>
            go_region
            all_goals go_wp2_with fail
            all_goals go_meet
            all_goals exact ⟨rfl,(aF _ _).drew⟩
           case rest=>
            obtain ⟨rfl,c⟩:=hcut;have s:=hid7 (x.below c);have a7:Hid (Out (fun j=>j=mb) w wc):=I.trans (aL c lR7) (aJ _ _);clear c x I a1 c6 O
            by_cases n:m2.lo<m2.mo
            ·rw [aE n];rw [aB n] at i;clear n;have a1:aC0 wc mb 13 (U G m2.lo):=aA0 (j:=13) s.box rfl;have d2:=aB0 (j:=13) s.box;have wl:IntKind.i64.wrap (m2.lo+1)=m2.lo+1:=IntWalk.i64_in _ o7;have e2:IntKind.i64.wrap (m2.now+m2.ti)=m2.now+m2.ti:=IntWalk.i64_in _ o7;go_upto_region 27 with fail;have b1:=s.write (j:=13) (u:=U G (m2.lo+1)) (m':={ m2 with lo:=m2.lo+1 }) rfl rfl rfl rfl rfl;have b3:Out (fun j=>j=mb) w (wc.setCell ⟨mb,13,none⟩ (U G (m2.lo+1))):=a7.trans (aM0 _ ⟨mb,13,none⟩ _) (aJ _ _);generalize wc.setCell ⟨mb,13,none⟩ (U G (m2.lo+1))=w8 at b1 b3 ⊢;have C:=hid7 b1;have c9:=hid7 b3;clear a1 d2 s a7 b1 b3;have M:aC0 w8 mb 11 (U G m2.now):=aA0 (j:=11) C.box rfl;have c5:aC0 w8 mb 5 (U G m2.ti):=aA0 (j:=5) C.box rfl;have a8:aC0 w8 mb 12 (U G m2.en):=aA0 (j:=12) C.box rfl;have d9:=aB0 (j:=12) C.box;go_region
             all_goals go_wp2_with fail
             all_goals go_ret2
             all_goals exact ⟨J none 0 0,by rw [k.out];rfl,by rw [i.out];exact fO0 (C.write (j:=12) (u:=U G (m2.now+m2.ti)) (m':={ m2 with lo:=m2.lo+1,en:=m2.now+m2.ti }) rfl rfl rfl rfl rfl).drew (aW0 (c9.trans (aM0 _ ⟨mb,12,none⟩ _) (aJ _ _)))⟩
            ·rw [aD n];rw [aA n] at i;clear n;have q:aC0 wc mb 10 (U G m2.ph):=aA0 (j:=10) s.box rfl;have o:=aB0 (j:=10) s.box;go_wp2_with fail;go_ret2;exact ⟨J none 0 0,by rw [k.out];rfl,by rw [i.out];exact fO0 (s.write (j:=10) (m':={ m2 with ph:=6 }) rfl rfl rfl rfl rfl) (a7.trans (aM0 _ ⟨mb,10,none⟩ _) (aJ _ _))⟩
        ·rw [aD n];rw [aA n] at i;clear n;go_wp2_with fail;go_ret2;exact ⟨J none 0 0,by rw [k.out];rfl,by rw [i.out];exact fO0 W Z⟩
      ·have nw:(was != is)=true:=by simpa [bne] using hw
       have d5:=aC.2 hw
       by_cases h3:is=3
       ·subst h3;have i:Hid (bT0 m=((uncM m2).1,{ (uncM m2).2 with ph:=3 })):=by show _=_;rw [d.out];unfold kP0;rw [aA f,aA A,aB ⟨hw,rfl⟩]
        clear f A hw d o;go_wp2_with fail;refine (uH0 F base mb bt ct m2 vb vp vi wc p N T t Q).mono ?_;rintro e v ⟨vf,v4,rfl,r,a,g⟩;have o:=aB0 (j:=10) a.box;have c0:aC0 v mb 10 (U G (uncM m2).2.ph):=aA0 (j:=10) a.box rfl;have HT:Hid _:=cH1 3 D r a g;clear r a g q;go_wp2_with fail;go_ret2;exact ⟨vf,by rw [k.out];rfl,by rw [i.out];exact HT⟩
       ·have e3:=aC.2 h3
        by_cases y:is=5
        ·subst y;have i:Hid (bT0 m=([],kC0 m2)):=by show _=_;rw [d.out];unfold kP0;rw [aA f,aA A,aA (fun e=>h3 e.2),aB ⟨hw,rfl⟩]
         clear f A hw d o h3;go_wp2_with fail;refine (hH1 F base mb bt ct m2 vb vp vi wc p N d3 Q).mono ?_;rintro e v ⟨rfl,v4,a,g⟩;have HT:Hid _:=fO0 a (D.trans g (aJ _ _));clear a g q;go_wp2_with fail;go_ret2;exact ⟨J none 0 0,by rw [k.out];rfl,by rw [i.out];exact HT⟩
        ·have e5:=aC.2 y;have i:Hid (bT0 m=([],{ m2 with ph:=is })):=by show _=_;rw [d.out];unfold kP0;rw [aA f,aA A,aA (fun e=>h3 e.2),aA (fun e=>y e.2),aB hw]
         clear f A hw d h3 y;go_wp2_with fail;go_ret2;exact ⟨J none 0 0,by rw [k.out];rfl,by rw [i.out];exact fO0 (p.write (j:=10) (m':={ m2 with ph:=is }) rfl rfl rfl rfl rfl) (D.trans (aM0 _ ⟨mb,10,none⟩ _) (aJ _ _))⟩
theorem zeroMany (w:World):(zeroValue 3).run prog w=.ok (U G 0) w:=k7
def eY1 (v:Value):Option (DataW Unit×List MemPlace):=
 match v with
 | .int .i64 a=>some (.lit (.int .i64 a),[])
 | _=>none
theorem cI1 {v:Value} {a:Int} {b:List MemPlace} (h:eY1 v=some (.lit (.int .i64 a),b)):v=.int .i64 a:=by
 unfold eY1 at h;split at h
 ·simp only [Option.some.injEq,Prod.mk.injEq,DataW.lit.injEq,Lit.int.injEq,true_and] at h;rw [h.1]
 ·cases h
def uQ0:List (List UInt8×DataW Unit):=[([97,117,99,116,105,111,110],.lit (.int .i64 (2))),
  ([98,97,110,100],.lit (.int .i64 (2))),
  ([98,97,110,100,115],.lit (.int .i64 (3))),
  ([98,117,121],.lit (.int .i64 (4))),
  ([99,97,110,99,101,108],.lit (.int .i64 (1))),
  ([99,108,101,97,114],.lit (.int .i64 (0))),
  ([104,97,108,116],.lit (.int .i64 (0))),
  ([104,101,108,112],.lit (.int .i64 (0))),
  ([111,112,101,110],.lit (.int .i64 (0))),
  ([111,114,100,101,114,115],.lit (.int .i64 (1))),
  ([112,97,114,107,101,100],.lit (.int .i64 (0))),
  ([112,104,97,115,101],.lit (.int .i64 (0))),
  ([113,117,111,116,101],.lit (.int .i64 (0))),
  ([114,101,102,115],.lit (.int .i64 (0))),
  ([115,101,108,108],.lit (.int .i64 (4))),
  ([115,116,97,114,116],.lit (.int .i64 (0))),
  ([116,97,98,108,101],.lit (.int .i64 (-1))),
  ([116,105,99,107],.lit (.int .i64 (0)))]
def lN0 (w:World) (mb:Nat):Prop:=w.ownsMap prog 9 eY1 mb 18 (jD0 (.map []) uQ0)
theorem wN1 {k:List UInt8} (h:jS0 k=none):∀x∈uQ0,x.1≠k:=fun x c e=>by
 have h1:∀y∈uQ0.map Prod.fst,y∈mQ0.map Prod.fst:=d7;have b:=h1 _ (dM c);obtain ⟨y,d,a⟩:=List.mem_map.1 b;exact bP1 h y d (a.trans e)
def cK2:List Nat:=[16,2,0,15,3,14,4,17,6,8,11,12,13,9,10,1,5,7]
theorem wO1:∀d,d<18->(jD0 (.map []) uQ0).atKey (.string (eZ0 d)) (.lit (.int .i64 0))=.lit (.int .i64 (cE0 d))/\Maps.has (jD0 (.map []) uQ0) (.string (eZ0 d))=true:=by
 intro d a;have b:∀n,n<18->¬(eZ0 n∈(uQ0.map Prod.fst).drop (cK2.getD n 0+1)):=d7
 have split:uQ0=uQ0.take (cK2.getD d 0)++(eZ0 d,.lit (.int .i64 (cE0 d)))::uQ0.drop (cK2.getD d 0+1):=by
  match d,a with
  | 0,_=>rfl
  | 1,_=>rfl
  | 2,_=>rfl
  | 3,_=>rfl
  | 4,_=>rfl
  | 5,_=>rfl
  | 6,_=>rfl
  | 7,_=>rfl
  | 8,_=>rfl
  | 9,_=>rfl
  | 10,_=>rfl
  | 11,_=>rfl
  | 12,_=>rfl
  | 13,_=>rfl
  | 14,_=>rfl
  | 15,_=>rfl
  | 16,_=>rfl
  | 17,_=>rfl
  | n+18,h=>exact absurd h o7
 rw [split];refine vX0 _ _ _ _ _ ⟨[],rfl⟩ (fun x c e=>b d a ?_);rw [<-e,<-List.map_drop];exact dM c
section
variable {w w':World} {mb:Nat}
theorem lN0.same (h:lN0 w mb) (a:w'.heap[mb]? = w.heap[mb]?):lN0 w' mb:=qS0 h a
theorem lN0.lt (h:lN0 w mb):mb<w.heap.size:=World.ownsMap.lt h
theorem lN0.look_yes (h:lN0 w mb) {s:ByteArray} (g:s.size<=maxLen) {d:Nat} (e:jS0 s.data.toList=some d):
  (Instr.lookup 51 (.map (some mb)) (.string s) true).run prog w=.ok (.tuple #[U G (cE0 d),.bool true]) w:=by
 obtain ⟨a,hk⟩:=fH0 e;obtain ⟨v,i,f,b⟩:=World.ownsMap.look_ok h keyStr underlying51 (zeroMany w) (zd:=.lit (.int .i64 0)) (zp:=[]) rfl (keyStrAt g);obtain ⟨h1,c⟩:=wO1 d a;rw [hk,h1] at b;rw [f,hk,c,cI1 b]
theorem lN0.look_no (h:lN0 w mb) {s:ByteArray} (g:s.size<=maxLen) (d:jS0 s.data.toList=none):
  (Instr.lookup 51 (.map (some mb)) (.string s) true).run prog w=.ok (.tuple #[U G 0,.bool false]) w:=by
 obtain ⟨v,i,f,a⟩:=World.ownsMap.look_ok h keyStr underlying51 (zeroMany w) (zd:=.lit (.int .i64 0)) (zp:=[]) rfl (keyStrAt g);obtain ⟨h1,c⟩:=oN0 s.data.toList (.lit (.int .i64 0)) uQ0 (D:=.map []) ⟨[],rfl⟩ (wN1 d);rw [h1] at a;have e:(DataW.map (H:=Unit) []).atKey (.string s.data.toList) (.lit (.int .i64 0))=.lit (.int .i64 0):=rfl;have b:Maps.has (DataW.map (H:=Unit) []) (.string s.data.toList)=false:=rfl;rw [e] at a;rw [f,c,b,cI1 a]
end
theorem dH0 {mb n:Nat} {D:DataW Unit} (b:w.ownsMap prog 9 eY1 mb n D) (d:n<100) (s:ByteArray) (c:s.size<=maxLen) (a:Int):
  ∃w',(Instr.mapUpdate 51 (.map (some mb)) (.string s) (U G a)).run prog w=.ok () w'
   /\w'.ownsMap prog 9 eY1 mb (n+1) (D.put (.string s.data.toList) (.lit (.int .i64 a)))/\w.grownBy w' (some mb):=
 b.update keyStr underlying51 (by unfold maxLen;omega) (keyStrAt c) (show eY1 (.int .i64 a)=some (.lit (.int .i64 a),[]) from rfl)
theorem wP1 (w:World):∃w1 p q r s t u v x d f i j l m n o w18:World,lN0 w18 w.heap.size/\Below w.heap.size w w18
  /\(Instr.mapUpdate 51 (.map (some w.heap.size)) (.string ⟨#[97,117,99,116,105,111,110]⟩) (.int .i64 (2))).run prog (w.alloc (.map #[] 0))=.ok () w1
  /\(Instr.mapUpdate 51 (.map (some w.heap.size)) (.string ⟨#[98,97,110,100]⟩) (.int .i64 (2))).run prog w1=.ok () p
  /\(Instr.mapUpdate 51 (.map (some w.heap.size)) (.string ⟨#[98,97,110,100,115]⟩) (.int .i64 (3))).run prog p=.ok () q
  /\(Instr.mapUpdate 51 (.map (some w.heap.size)) (.string ⟨#[98,117,121]⟩) (.int .i64 (4))).run prog q=.ok () r
  /\(Instr.mapUpdate 51 (.map (some w.heap.size)) (.string ⟨#[99,97,110,99,101,108]⟩) (.int .i64 (1))).run prog r=.ok () s
  /\(Instr.mapUpdate 51 (.map (some w.heap.size)) (.string ⟨#[99,108,101,97,114]⟩) (.int .i64 (0))).run prog s=.ok () t
  /\(Instr.mapUpdate 51 (.map (some w.heap.size)) (.string ⟨#[104,97,108,116]⟩) (.int .i64 (0))).run prog t=.ok () u
  /\(Instr.mapUpdate 51 (.map (some w.heap.size)) (.string ⟨#[104,101,108,112]⟩) (.int .i64 (0))).run prog u=.ok () v
  /\(Instr.mapUpdate 51 (.map (some w.heap.size)) (.string ⟨#[111,112,101,110]⟩) (.int .i64 (0))).run prog v=.ok () x
  /\(Instr.mapUpdate 51 (.map (some w.heap.size)) (.string ⟨#[111,114,100,101,114,115]⟩) (.int .i64 (1))).run prog x=.ok () d
  /\(Instr.mapUpdate 51 (.map (some w.heap.size)) (.string ⟨#[112,97,114,107,101,100]⟩) (.int .i64 (0))).run prog d=.ok () f
  /\(Instr.mapUpdate 51 (.map (some w.heap.size)) (.string ⟨#[112,104,97,115,101]⟩) (.int .i64 (0))).run prog f=.ok () i
  /\(Instr.mapUpdate 51 (.map (some w.heap.size)) (.string ⟨#[113,117,111,116,101]⟩) (.int .i64 (0))).run prog i=.ok () j
  /\(Instr.mapUpdate 51 (.map (some w.heap.size)) (.string ⟨#[114,101,102,115]⟩) (.int .i64 (0))).run prog j=.ok () l
  /\(Instr.mapUpdate 51 (.map (some w.heap.size)) (.string ⟨#[115,101,108,108]⟩) (.int .i64 (4))).run prog l=.ok () m
  /\(Instr.mapUpdate 51 (.map (some w.heap.size)) (.string ⟨#[115,116,97,114,116]⟩) (.int .i64 (0))).run prog m=.ok () n
  /\(Instr.mapUpdate 51 (.map (some w.heap.size)) (.string ⟨#[116,97,98,108,101]⟩) (.int .i64 (-1))).run prog n=.ok () o
  /\(Instr.mapUpdate 51 (.map (some w.heap.size)) (.string ⟨#[116,105,99,107]⟩) (.int .i64 (0))).run prog o=.ok () w18:=by
 have h0:=World.ownsMap_made w prog 9 eY1;obtain ⟨w1,r1,o1,g1⟩:=dH0 h0 (by omega) ⟨#[97,117,99,116,105,111,110]⟩ (by decide) (2);obtain ⟨p,r2,o2,g2⟩:=dH0 o1 (by omega) ⟨#[98,97,110,100]⟩ (by decide) (2);obtain ⟨q,r3,o3,g3⟩:=dH0 o2 (by omega) ⟨#[98,97,110,100,115]⟩ (by decide) (3);obtain ⟨r,r4,o4,g4⟩:=dH0 o3 (by omega) ⟨#[98,117,121]⟩ (by decide) (4);obtain ⟨s,r5,o5,g5⟩:=dH0 o4 (by omega) ⟨#[99,97,110,99,101,108]⟩ (by decide) (1);obtain ⟨t,r6,o6,g6⟩:=dH0 o5 (by omega) ⟨#[99,108,101,97,114]⟩ (by decide) (0);obtain ⟨u,r7,o7,g7⟩:=dH0 o6 (by omega) ⟨#[104,97,108,116]⟩ (by decide) (0);obtain ⟨v,r8,o8,g8⟩:=dH0 o7 (by omega) ⟨#[104,101,108,112]⟩ (by decide) (0);obtain ⟨x,r9,o9,g9⟩:=dH0 o8 (by omega) ⟨#[111,112,101,110]⟩ (by decide) (0);obtain ⟨d,Q,H,y⟩:=dH0 o9 (by omega) ⟨#[111,114,100,101,114,115]⟩ (by decide) (1);obtain ⟨f,R,I,z⟩:=dH0 H (by omega) ⟨#[112,97,114,107,101,100]⟩ (by decide) (0);obtain ⟨i,S,J,A⟩:=dH0 I (by omega) ⟨#[112,104,97,115,101]⟩ (by decide) (0);obtain ⟨j,T,K,B⟩:=dH0 J (by omega) ⟨#[113,117,111,116,101]⟩ (by decide) (0);obtain ⟨l,U,L,C⟩:=dH0 K (by omega) ⟨#[114,101,102,115]⟩ (by decide) (0);obtain ⟨m,V,M,D⟩:=dH0 L (by omega) ⟨#[115,101,108,108]⟩ (by decide) (4);obtain ⟨n,W,N,E⟩:=dH0 M (by omega) ⟨#[115,116,97,114,116]⟩ (by decide) (0);obtain ⟨o,X,O,F⟩:=dH0 N (by omega) ⟨#[116,97,98,108,101]⟩ (by decide) (-1);obtain ⟨w18,Y,P,G⟩:=dH0 O (by omega) ⟨#[116,105,99,107]⟩ (by decide) (0);have c:∀{a b:World},a.grownBy b (some w.heap.size)->Below w.heap.size w a->Below w.heap.size w b:=fun {a b} g hb=>hb.grown g hb.size (fun k hk=>by injection hk with e;omega)
 have Z:Below w.heap.size w (w.alloc (.map #[] 0)):=(aF _ w).alloc lR7 _;exact ⟨w1,p,q,r,s,t,u,v,x,d,f,i,j,l,m,n,o,w18,P,c G (c F (c E (c D (c C (c B (c A (c z (c y (c g9 (c g8 (c g7 (c g6 (c g5 (c g4 (c g3 (c g2 (c g1 Z))))))))))))))))),r1,r2,r3,r4,r5,r6,r7,r8,r9,Q,R,S,T,U,V,W,X,Y⟩
end
end Go.Proofs.YtaelphbianmckaaGreatDoor
