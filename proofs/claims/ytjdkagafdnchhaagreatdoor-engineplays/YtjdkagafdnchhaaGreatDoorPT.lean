/- A part of the proof of EnginePlays. -/
import Derived.Test.YtjdkagafdnchhaaGreatDoorPA
import Derived.Test.YtjdkagafdnchhaaGreatDoorPG
import Derived.Test.YtjdkagafdnchhaaGreatDoorPM
import Derived.Deep.RegionWith
import Derived.Deep.CutRange
import Derived.Deep.RegionHeld3
import Derived.Lib.QuietBelow
import Derived.Lib.MinMax
import Derived.Shelf.Abstract
import Derived.Deep.DeepCutAuto
import Derived.Deep.CutBlock
namespace Go.Proofs.YtjdkagafdnchhaaGreatDoor
open Go.RowKit
def topF (f:Pt→Int) (a:Int) (l:List Pt):Int:=l.foldl (fun m x=>max m (f x)) a
def eT0 (f:Pt→Int) (l:List Pt):List Pt:=l.filter fun x=>f x == topF f (f (ptAt l 0)) l
def bY0 (f:Pt→Int) (l:List Pt):List Pt:=eT0 (fun x=>-f x) l
def surB (x:Pt):Int:=x.dem - x.sup
def apB (a b:Int):Int:=max a b - min a b
def lfP (x:Pt):Int:=apB x.dem x.sup
def gJ0 (around:Int) (x:Pt):Int:=apB x.price around
def upB (x:Pt):Bool:=decide (surB x>0)
def jC0 (x:Pt):Bool:=decide (surB x<0)
def allP (q:Pt→Bool) (l:List Pt):Bool:=(((l.filter q).length:Int) == (l.length:Int))
def gC0 (around:Int) (l:List Pt):List Pt:=
 if allP upB l=true then eT0 Pt.price l else if allP jC0 l=true then bY0 Pt.price l else bY0 Pt.price (bY0 (gJ0 around) l)
def pS0 (l:List Pt):Bool:=((l.length:Int) == 0) || decide (trB (ptAt l 0)<1)
def xZ0 (l:List Pt) (around:Int):Quo:=
 if pS0 (eT0 trB l)=true then ⟨0,0,0⟩ else quoP (ptAt (gC0 around (bY0 lfP (eT0 trB l))) 0)
theorem gU1 (a b:Int):apB a b=absI (a - b):=by unfold apB absI;split <;> omega
theorem nG1 (x:Pt):lfP x=lfB x:=gU1 _ _
theorem gV1 {f:Pt→Int} {a:Int} {l:List Pt} {k:Nat} (h:k<l.length):topF f a (l.take (k+1))=max (topF f a (l.take k)) (f (ptAt l k)):=jL0 _ _ h
theorem gW1 (f:Pt→Int):∀(l:List Pt) (a:Int),a≤topF f a l
 | [],a=>Int.le_refl _
 | x::l,a=>Int.le_trans (by omega) (gW1 f l (max a (f x)))
theorem aH1 (f:Pt→Int):∀(l:List Pt) (a:Int) {x:Pt},x∈l→f x≤topF f a l
 | y::l,a,x,h=>by
  rw [List.mem_cons] at h;rcases h with rfl | h
  ·exact Int.le_trans (by omega) (gW1 f l (max a (f x)))
  ·exact aH1 f l _ h
theorem gX1 (f:Pt→Int):∀(l:List Pt) (a:Int),topF f a l=a∨∃x∈l,f x=topF f a l
 | [],a=>Or.inl rfl
 | y::l,a=>by
  have e:topF f a (y::l)=topF f (max a (f y)) l:=rfl;rw [e];rcases gX1 f l (max a (f y)) with h | ⟨x,hx,h⟩
  ·rw [h]
   by_cases hm:f y≤a
   ·exact Or.inl (by omega)
   ·exact Or.inr ⟨y,List.mem_cons_self ..,by omega⟩
  ·exact Or.inr ⟨x,List.mem_cons_of_mem _ hx,h⟩
theorem eR0 (f:Pt→Int) {l:List Pt} (h:0<l.length):∃top,eT0 f l=l.filter (fun x=>f x == top)∧(∀x∈l,f x≤top)∧∃x∈l,f x=top:=by
 refine ⟨topF f (f (ptAt l 0)) l,rfl,fun x hx=>aH1 f l _ hx,?_⟩;rcases gX1 f l (f (ptAt l 0)) with e | e
 ·exact ⟨ptAt l 0,cJ0 h,e.symm⟩
 ·exact e
theorem pT0 (f:Pt→Int) (l:List Pt):(eT0 f l).length≤l.length:=List.length_filter_le _ _
theorem rH0 (f:Pt→Int) (l:List Pt):(bY0 f l).length≤l.length:=pT0 _ _
theorem pU0 {f:Pt→Int} {l:List Pt} {x:Pt} (h:x∈eT0 f l):x∈l:=(List.mem_filter.1 h).1
theorem iD0 {f:Pt→Int} {l:List Pt} {x:Pt} (h:x∈bY0 f l):x∈l:=pU0 h
theorem gD0 (f:Pt→Int) {l:List Pt} (h:0<l.length):0<(eT0 f l).length:=by
 obtain ⟨t,e,_,x,hx,h1⟩:=eR0 f h;rw [e];exact List.length_pos_of_mem (a:=x) (List.mem_filter.2 ⟨hx,by simp [h1]⟩)
theorem vP0 (around:Int) {l:List Pt} (h:0<l.length):0<(gC0 around l).length:=by
 unfold gC0;split
 ·exact gD0 _ h
 ·split
  ·exact gD0 _ h
  ·exact gD0 _ (gD0 _ h)
theorem gY1 {around:Int} {l:List Pt} {x:Pt} (h:x∈gC0 around l):x∈l:=by
 unfold gC0 at h;split at h
 ·exact pU0 h
 ·split at h
  ·exact iD0 h
  ·exact iD0 (iD0 h)
theorem gZ1 (q:Pt→Bool) (l:List Pt):allP q l=l.all q:=by
 induction l with
 | nil=>rfl
 | cons x l ih=>
  have hl:=List.length_filter_le q l
  by_cases h:q x=true
  ·have e:allP q (x::l)=allP q l:=by
    unfold allP;simp only [List.filter_cons,h,if_true,List.length_cons];rw [Bool.eq_iff_iff];simp
   rw [e,ih];simp [h]
  ·have e:allP q (x::l)=false:=by
    unfold allP;simp only [List.filter_cons,h,List.length_cons];simp;omega
   rw [e];simp [h]
theorem iM0 {q:Pt→Bool}:∀{l:List Pt},(∃x∈l,q x=true)→∃i,i<l.length∧ptAt (l.filter q) 0=ptAt l i∧q (ptAt l i)=true∧∀j,j<i→q (ptAt l j)=false
 | [],h=>by obtain ⟨x,hx,_⟩:=h;cases hx
 | y::l,h=>by
  by_cases hy:q y=true
  ·refine ⟨0,by simp,?_,?_,fun j hj=>by omega⟩
   ·simp [ptAt,hy]
   ·simpa [ptAt] using hy
  ·obtain ⟨x,hx,hq⟩:=h;rw [List.mem_cons] at hx;rcases hx with rfl | hx
   ·exact absurd hq hy
   ·obtain ⟨i,h1,h2,h3,h4⟩:=iM0 (l:=l) ⟨x,hx,hq⟩;refine ⟨i+1,by simpa using h1,?_,?_,fun j hj=>?_⟩
    ·rw [List.filter_cons,if_neg hy,h2];simp [ptAt]
    ·simpa [ptAt] using h3
    ·cases j with
     | zero=>simpa [ptAt] using hy
     | succ j=>have:=h4 j (by omega);simpa [ptAt] using this
def k1P (b s:Bool) (around:Int) (x:Pt):Int:=if b=true then 0 else if s=true then 0 else absI (x.price - around)
def k2P (b:Bool) (x:Pt):Int:=if b=true then -x.price else x.price
theorem cX0 (b s:Bool) (around:Int) (p x:Pt):fI0 b s around p x=true↔(k1P b s around p<k1P b s around x∨(k1P b s around p=k1P b s around x∧k2P b p<k2P b x)):=by
 unfold fI0 k1P k2P;cases b <;> cases s <;> simp
def sS0 (b s:Bool) (around:Int) (l:List Pt) (k i:Nat):Prop:=
 (∀j,j<k→fI0 b s around (ptAt l j) (ptAt l i)=false)∧∀j,j<i→fI0 b s around (ptAt l i) (ptAt l j)=true
theorem pV0 (b s:Bool) (around:Int) {l:List Pt} (h:0<l.length):∀k,k≤l.length→∃i,i<l.length∧fJ0 b s around l k=ptAt l i∧sS0 b s around l k i∧(i<k∨i=0)
 | 0,_=>⟨0,h,rfl,⟨fun j hj=>by omega,fun j hj=>by omega⟩,Or.inr rfl⟩
 | k+1,hk=>by
  obtain ⟨i,h1,h2,⟨h3,h4⟩,h5⟩:=pV0 b s around h k (by omega);rw [mC0 (by omega),h2];unfold sH0
  by_cases hb:fI0 b s around (ptAt l k) (ptAt l i)=true
  ·rw [if_pos hb];have hb':=(cX0 ..).1 hb;refine ⟨k,by omega,rfl,⟨fun j hj=>?_,fun j hj=>?_⟩,Or.inl (by omega)⟩
   ·rw [Bool.eq_false_iff];intro hc;have hc':=(cX0 ..).1 hc
    by_cases e:j=k
    ·subst e;omega
    ·have:=h3 j (by omega);rw [Bool.eq_false_iff] at this;exact this ((cX0 ..).2 (by omega))
   ·have:=h3 j hj;rw [Bool.eq_false_iff] at this;have h6:¬_:=fun e=>this ((cX0 ..).2 e)
    exact (cX0 ..).2 (by omega)
  ·rw [if_neg hb];refine ⟨i,h1,rfl,⟨fun j hj=>?_,h4⟩,h5.imp (fun e=>by omega) id⟩
   by_cases e:j=k
   ·subst e;simpa using hb
   ·exact h3 j (by omega)
theorem hC1 {b s:Bool} {around:Int} {l:List Pt} {i i':Nat} (hi:i<l.length) (hi':i'<l.length) (h:sS0 b s around l l.length i) (h':sS0 b s around l l.length i'):i=i':=by
 rcases Nat.lt_trichotomy i i' with e | e | e
 ·have h1:=h'.2 i e;rw [h.1 i' hi'] at h1;cases h1
 ·exact e
 ·have h1:=h.2 i' e;rw [h'.1 i hi] at h1;cases h1
theorem yC0 {around:Int} {l:List Pt} (h:0<l.length):∃i,i<l.length∧ptAt (gC0 around l) 0=ptAt l i∧sS0 (fY0 l) (dB0 l) around l l.length i:=by
 have eu:allP upB l=fY0 l:=by
  rw [gZ1];unfold fY0 upB surB;congr 1;funext x;first | (simp;done) | (simp;omega)
 have ed:allP jC0 l=dB0 l:=by
  rw [gZ1];unfold dB0 jC0 surB;congr 1;funext x;first | (simp;done) | (simp;omega)
 unfold gC0;rw [eu,ed];cases hb:fY0 l with
 | true=>
  rw [if_pos rfl];obtain ⟨t,e,ht,z,hz,hz1⟩:=eR0 Pt.price h;rw [e];obtain ⟨i,h1,h2,h3,h4⟩:=iM0 (q:=fun x=>x.price == t) ⟨z,hz,by simp [hz1]⟩;refine ⟨i,h1,h2,fun j hj=>?_,fun j hj=>?_⟩
  ·rw [Bool.eq_false_iff];intro hc;have hc':=(cX0 ..).1 hc;have:=ht _ (cJ0 hj);have h3':(ptAt l i).price=t:=by simpa using h3
   simp [k1P,k2P] at hc';omega
  ·have h5:=h4 j hj;have h5':(ptAt l j).price≠t:=by simpa using h5
   have:=ht _ (cJ0 (Nat.lt_trans hj h1));have h3':(ptAt l i).price=t:=by simpa using h3
   exact (cX0 ..).2 (by simp [k1P,k2P];omega)
 | false=>
  rw [if_neg (by decide)];cases hs:dB0 l with
  | true=>
   rw [if_pos rfl];obtain ⟨t,e,ht,z,hz,hz1⟩:=eR0 (fun x=>-x.price) h;rw [bY0,e];obtain ⟨i,h1,h2,h3,h4⟩:=iM0 (q:=fun x=>-x.price == t) ⟨z,hz,by simp [hz1]⟩;refine ⟨i,h1,h2,fun j hj=>?_,fun j hj=>?_⟩
   ·rw [Bool.eq_false_iff];intro hc;have hc':=(cX0 ..).1 hc;have:=ht _ (cJ0 hj);have h3':-(ptAt l i).price=t:=by simpa using h3
    simp [k1P,k2P] at hc';omega
   ·have h5:=h4 j hj;have h5':-(ptAt l j).price≠t:=by simpa using h5
    have:=ht _ (cJ0 (Nat.lt_trans hj h1));have h3':-(ptAt l i).price=t:=by simpa using h3
    exact (cX0 ..).2 (by simp [k1P,k2P];omega)
  | false=>
   rw [if_neg (by decide)];obtain ⟨t,e,ht,z,hz,hz1⟩:=eR0 (fun x=>-gJ0 around x) h;have e':bY0 (gJ0 around) l=l.filter (fun x=>-gJ0 around x == t):=e;have hp:0<(bY0 (gJ0 around) l).length:=gD0 _ h;obtain ⟨t2,e2,ht2,z2,hz2,hz3⟩:=eR0 (fun x=>-x.price) hp;rw [show bY0 Pt.price (bY0 (gJ0 around) l)=(bY0 (gJ0 around) l).filter (fun x=>-x.price == t2) from e2];rw [e'] at hz2 ht2 ⊢;rw [List.filter_filter];have hz2':=List.mem_filter.1 hz2;obtain ⟨i,h1,h2,h3,h4⟩:=iM0 (l:=l) (q:=fun x=>(-x.price == t2)&& (-gJ0 around x == t)) ⟨z2,hz2'.1,by rw [hz2'.2];simp [hz3]⟩;have h3':-(ptAt l i).price=t2∧-gJ0 around (ptAt l i)=t:=by simpa using h3
   have hn:∀x:Pt,gJ0 around x=absI (x.price - around):=fun x=>gU1 _ _
   refine ⟨i,h1,h2,fun j hj=>?_,fun j hj=>?_⟩
   ·rw [Bool.eq_false_iff];intro hc;have hc':=(cX0 ..).1 hc;simp only [k1P,k2P,Bool.false_eq_true,if_false,←hn] at hc';have h6:=ht _ (cJ0 hj)
    by_cases e:-gJ0 around (ptAt l j)=t
    ·have:=ht2 _ (List.mem_filter.2 ⟨cJ0 hj,by simp [e]⟩);omega
    ·omega
   ·have h5:=h4 j hj;have h6:=ht _ (cJ0 (Nat.lt_trans hj h1));refine (cX0 ..).2 ?_;simp only [k1P,k2P,Bool.false_eq_true,if_false,←hn]
    by_cases e:-gJ0 around (ptAt l j)=t
    ·have h7:=ht2 _ (List.mem_filter.2 ⟨cJ0 (Nat.lt_trans hj h1),by simp [e]⟩);have h8:¬-(ptAt l j).price=t2:=by simpa [e] using h5
     omega
    ·omega
theorem cJ1 {around:Int} {l:List Pt} (h:0<l.length):ptAt (gC0 around l) 0=bK1 (fY0 l) (dB0 l) around l:=by
 obtain ⟨i,h1,h2,h3⟩:=yC0 (around:=around) h;obtain ⟨i',h1',h2',h3',_⟩:=pV0 (fY0 l) (dB0 l) around h l.length lR7;rw [oS0] at h2';rw [h2,h2',hC1 h1 h1' h3 h3']
theorem cK1 (l:List Pt) (around:Int):xZ0 l around=aN0 l around:=by
 unfold xZ0 aN0
 by_cases hm:cG0 l<1
 ·rw [if_pos hm]
  have hn:pS0 (eT0 trB l)=true:=by
   by_cases hl:0<l.length
   ·obtain ⟨t,e,_,z,hz,hz1⟩:=eR0 trB hl;have h2:=cJ0 (gD0 trB hl);rw [e] at h2;have h3:=List.mem_filter.1 h2;have h4:=oT0 h3.1;rw [←e] at h4;unfold pS0;rw [Bool.or_eq_true];exact Or.inr (decide_eq_true (by omega))
   ·have:(eT0 trB l).length=0:=by have:=pT0 trB l;omega
    unfold pS0;simp [this]
  rw [if_pos hn]
 ·rw [if_neg hm]
  have hl:0<l.length:=by
   rcases nI0 l with h | ⟨x,hx,_⟩
   ·omega
   ·exact List.length_pos_of_mem hx
  obtain ⟨t,e,ht,z,hz,hz1⟩:=eR0 trB hl;have hp1:=gD0 trB hl
  have et:t=cG0 l:=by
   rcases nI0 l with h | ⟨x,hx,h⟩
   ·omega
   ·have h1:=ht x hx;have h2:=oT0 hz;omega
  subst et;have h3:=List.mem_filter.1 (e ▸ cJ0 hp1)
  have hn:pS0 (eT0 trB l)=false:=by
   unfold pS0;rw [Bool.or_eq_false_iff];refine ⟨by simp;intro h0;rw [h0] at hp1;simp at hp1,decide_eq_false ?_⟩;have:trB (ptAt (eT0 trB l) 0)=cG0 l:=by rw [←e] at h3;simpa using h3.2
   omega
  rw [if_neg (by rw [hn];decide)]
  have eb:bY0 lfP (eT0 trB l)=dK0 (cG0 l) (cW0 (cG0 l) l).1 l:=by
   obtain ⟨t2,e2,ht2,z2,hz2,hz3⟩:=eR0 (fun x=>-lfP x) hp1;rw [show bY0 lfP (eT0 trB l)=(eT0 trB l).filter (fun x=>-lfP x == t2) from e2];rcases oU0 (cG0 l) l with ⟨_,h4⟩ | ⟨_,⟨y,hy,hy1,hy2⟩,h5⟩
   ·exact absurd hz1 (h4 z hz)
   ·have e3:t2=-(cW0 (cG0 l) l).1:=by
     rw [e] at hz2 ht2;have a1:=ht2 y (List.mem_filter.2 ⟨hy,by simp [hy1]⟩);have b1:=List.mem_filter.1 hz2;have a2:=h5 z2 b1.1 (by simpa using b1.2);rw [nG1] at a1 hz3;omega
    rw [e,List.filter_filter,dK0]
    congr 1
    funext x
    unfold kY0;rw [e3,nG1,Bool.and_comm]
    congr 1
    rw [Bool.eq_iff_iff];first | (simp;done) | (simp;omega)
  rw [eb,cJ1 (oV0 (by omega))];rfl
theorem sC1 {l:List Pt} {around:Int} (h:0<l.length):ptAt (gC0 around l) 0∈l:=gY1 (cJ0 (vP0 around h))
structure NumFn (g:Nat) (lb:Array Value) (f:Pt→Int) (l:List Pt) (w0:World):Prop where
 enters:∀args w,(callFunc g args).run Tryz.prog w=.ok (.enter g args) w
 tells:∀W,Below w0.heap.size w0 W→∀x∈l,Calls Tryz.prog g (#[.agg #[.int .i64 x.price,.int .i64 x.dem,.int .i64 x.sup]]++lb) W fun e W'=>e=.returned (.int .i64 (f x))∧Below W.heap.size W W'
structure BoolFn (g:Nat) (lb:Array Value) (q:Pt→Bool) (l:List Pt) (w0:World):Prop where
 enters:∀args w,(callFunc g args).run Tryz.prog w=.ok (.enter g args) w
 tells:∀W,Below w0.heap.size w0 W→∀x∈l,Calls Tryz.prog g (#[.agg #[.int .i64 x.price,.int .i64 x.dem,.int .i64 x.sup]]++lb) W fun e W'=>e=.returned (.bool (q x))∧Below W.heap.size W W'
theorem NumFn.later {g:Nat} {lb:Array Value} {f:Pt→Int} {l:List Pt} {w0 w1:World} (h:NumFn g lb f l w0) (hb:Below w0.heap.size w0 w1):NumFn g lb f l w1:=
 ⟨h.enters,fun W hW x hx=>h.tells W (aS0 hb hW) x hx⟩
theorem yD0 {α:Type} (q:α→Bool) {l:List α} {k:Nat} (h:k<l.length):(l.take (k+1)).filter q=if q l[k]=true then (l.take k).filter q++[l[k]] else (l.take k).filter q:=by
 rw [List.take_succ_eq_append_getElem h,List.filter_append]
 by_cases hq:q l[k]=true
 ·rw [if_pos hq];simp [hq]
 ·rw [if_neg hq];simp [hq]
theorem Tryz.infoCp:(Tryz.prog.info? 189).map (fun i=>(i.zero,i.size,i.bytes))=some (some (.agg #[.int .i64 0,.int .i64 0,.int .i64 0]),3,24):=by kernel_rfl
def cL1 (w:World) (b:Nat) (x:Pt):Prop:=w.heap[b]? = some (.cells #[.int .i64 x.price,.int .i64 x.dem,.int .i64 x.sup] 189 (0,0))
theorem cL1.below {w w':World} {b:Nat} {x:Pt} (h:cL1 w b x) (hb:Below w.heap.size w w'):cL1 w' b x:=eA0 h hb
set_option maxRecDepth 4000 in
set_option maxHeartbeats 4000000 in
theorem nH1 (a:Option Addr) (cap:Nat) (l:List Pt) (g:Nat) (lb:Array Value) (q:Pt→Bool) (w:World) (h:gS0 w a l) (hl:l.length≤1000) (hf:BoolFn g lb q l w):
  Calls Tryz.prog 163 #[.slice a l.length cap,.func (.func g) #[] lb] w fun e w'=>∃v',e=.returned v'∧w'.ownsRow w.heap.size 189 3 v' (l.filter q).length (ptV (l.filter q))∧Below w.heap.size w w':=by
 obtain ⟨iP,hiP,hP0,hP1,hP2⟩:=info_parts Tryz.infoCp;have HA:Hid (gS0 w a l):=h;have HF:Hid (BoolFn g lb q l w):=hf;have eg:=hf.enters;clear h hf;go_enter Tryz.func163,Tryz.ntmps163;go_wp2_with fail;go_loopw [5,10] (fun v i wr=>∃k:Nat,k≤l.length∧i=.int .i64 k∧wr.ownsRow w.heap.size 189 3 v ((l.take k).filter q).length (ptV ((l.take k).filter q))∧Below w.heap.size w wr) (fun _ i _=>l.length - (intOf i).toNat)
 case atStart=>exact ⟨0,Nat.zero_le _,rfl,World.ownsRow_nil _ _ _ _,Below.refl _ _⟩
 case round=>
  obtain ⟨k,hk,rfl,hown,hb⟩:=hrel;have HW:Hid (wr.ownsRow w.heap.size 189 3 u5 ((l.take k).filter q).length (ptV ((l.take k).filter q))):=hown;have HB:Hid (Below w.heap.size w wr):=hb
  have hbl:((l.take k).filter q).length≤1000:=by
   have:=List.length_filter_le q (l.take k);rw [List.length_take] at this;omega
  obtain ⟨vao,vcap,rfl,_,_⟩:=aW0 hown;clear hown
  by_cases hk1:k<l.length
  ·have hlt:(k:Int)<(l.length:Int):=by omega
   obtain ⟨b,off,rfl,d0,d1,d2⟩:=HA.out.below hb k hk1;have HC:Hid (∀W,Below w.heap.size w W→Calls Tryz.prog g (#[.agg #[.int .i64 (ptAt l k).price,.int .i64 (ptAt l k).dem,.int .i64 (ptAt l k).sup]]++lb) W fun e W'=>e=.returned (.bool (q (ptAt l k)))∧Below W.heap.size W W'):=fun W hW=>HF.out.tells W hW _ (cJ0 hk1)
   have HT:Hid ((l.take (k+1)).filter q=if q (ptAt l k)=true then (l.take k).filter q++[ptAt l k] else (l.take k).filter q):=by rw [sF0 hk1];exact yD0 q hk1
   clear hb;generalize ptAt l k=x at d0 d1 d2 HC HT;generalize (l.take k).filter q=acc at HT HW hbl;go_wp2_with fail;have hX:cL1 (wr.alloc (.cells #[.int .i64 x.price,.int .i64 x.dem,.int .i64 x.sup] 189)) wr.heap.size x:=heap_alloc_new wr _;have hbA:=bD0 wr (.cells #[.int .i64 x.price,.int .i64 x.dem,.int .i64 x.sup] 189);generalize wr.alloc (.cells #[.int .i64 x.price,.int .i64 x.dem,.int .i64 x.sup] 189)=W at hX hbA ⊢;generalize wr.heap.size=xb at hX ⊢;refine (HC.out W (aS0 HB.out hbA)).mono ?_;rintro e w4 ⟨rfl,hb4⟩;have hX4:=hX.below hb4;have HW4:Hid (w4.ownsRow w.heap.size 189 3 (.slice vao acc.length vcap) acc.length (ptV acc)):=cB0 HW.out (aS0 hbA hb4) lR7;have HB4:Hid (Below w.heap.size w w4):=aS0 HB.out (aS0 hbA hb4);clear hX hbA hb4 HW HB d0 d1 d2 HC;cases hq:q x with
   | true=>
    have HT2:Hid ((l.take (k+1)).filter q=acc++[x]):=by rw [HT.out,if_pos hq];rfl
    have y0:=aP0 (j:=0) hX4 rfl;have y1:=aP0 (j:=1) hX4 rfl;have y2:=aP0 (j:=2) hX4 rfl;clear HT hq hX4;go_wp2_with (at_builtin;refine wpList_append_own_at _ rfl _ _ 127 rfl w.heap.size 189 iP (.agg #[.int .i64 0,.int .i64 0,.int .i64 0]) 3 24 Tryz.underlying127 hiP hP0 hP1 hP2 rfl (by decide) _ acc.length (ptV acc) rfl (HW4.out.alloc _) ⟨w4.heap.size,0,none⟩ 1 1 [.int .i64 x.price,.int .i64 x.dem,.int .i64 x.sup] rfl rfl (World.news_of_block (cs:=#[.int .i64 x.price,.int .i64 x.dem,.int .i64 x.sup]) (t:=189) (fr:=(0,0)) (heap_alloc_new w4 _)) (by simp [Value.oneCell']) (by unfold maxLen;omega) (by omega) (by have:=HB4.out.size;simp;omega) ?_;intro v' w6 hown6 hgrow6 _ _);go_roundw
    case rel=>
     refine ⟨k+1,hk1,by go_num,?_,(HB4.out.alloc HB4.out.size _).grown hgrow6 (by have:=HB4.out.size;simp;omega) (fun q hq=>(HW4.out.lt q hq).1)⟩;rw [HT2.out,nH0,List.length_append,List.length_singleton];exact hown6
    case measure=>simp [intOf];omega
   | false=>
    have HT2:Hid ((l.take (k+1)).filter q=acc):=by rw [HT.out,if_neg (by rw [hq];decide)];rfl
    clear HT hq hX4;go_wp2_with fail;go_roundw
    case rel=>exact ⟨k+1,hk1,by go_num,by rw [HT2.out];exact HW4.out,HB4.out⟩
    case measure=>simp [intOf];omega
  ·obtain rfl:k=l.length:=by omega
   rw [List.take_length] at HW hbl ⊢;clear hb;go_wp2_with fail;go_ret;exact ⟨_,rfl,HW.out,HB.out⟩
set_option maxRecDepth 4000 in
set_option maxHeartbeats 1000000 in
theorem sD1 {g:Nat} {lb:Array Value} {f:Pt→Int} {l:List Pt} {w:World} (hN:NumFn g lb f l w) {nb tb:Nat} {top:Int} (h1:w.cell? ⟨nb,0,none⟩=some (.func (.func g) #[] lb)) (h2:w.cell? ⟨tb,0,none⟩=some (.int .i64 top)):
  BoolFn 164 #[.pointer (some ⟨nb,0,none⟩),.pointer (some ⟨tb,0,none⟩)] (fun x=>f x == top) l w:=by
 refine ⟨enters_of Tryz.func164 (by kernel_rfl) rfl,fun W hW x hx=>?_⟩;show Calls Tryz.prog 164 #[.agg #[.int .i64 x.price,.int .i64 x.dem,.int .i64 x.sup],.pointer (some ⟨nb,0,none⟩),.pointer (some ⟨tb,0,none⟩)] W _;have eg:=hN.enters;have hX:cL1 (W.alloc (.cells #[.int .i64 x.price,.int .i64 x.dem,.int .i64 x.sup] 189)) W.heap.size x:=heap_alloc_new W _;have hb1:=bD0 W (.cells #[.int .i64 x.price,.int .i64 x.dem,.int .i64 x.sup] 189);have c1:=cE0 hb1 (cE0 hW h1);have c2:=cE0 hb1 (cE0 hW h2);have HB1:Hid (Below W.heap.size W (W.alloc (.cells #[.int .i64 x.price,.int .i64 x.dem,.int .i64 x.sup] 189))):=hb1
 have cN:∀dq os,Calls Tryz.prog g (#[.agg #[.int .i64 x.price,.int .i64 x.dem,.int .i64 x.sup]]++lb) (Go.Sort.grow (redrawn (W.alloc (.cells #[.int .i64 x.price,.int .i64 x.dem,.int .i64 x.sup] 189)) dq) os) fun e w''=>e=.returned (.int .i64 (f x))∧∃q:Regrown,w''=Go.Sort.grow (redrawn (W.alloc (.cells #[.int .i64 x.price,.int .i64 x.dem,.int .i64 x.sup] 189)) q.d) q.os:=fun dq os=>
  Calls.regrown_of (hN.tells _ (aS0 (aS0 hW hb1) (below_regrown ..)) x hx)
 clear hN hW h1 h2 hb1;go_enter Tryz.func164,Tryz.ntmps164;go_wp2_with fail;generalize W.alloc (.cells #[.int .i64 x.price,.int .i64 x.dem,.int .i64 x.sup] 189)=V at hX HB1 c1 c2 cN ⊢;generalize hsz:W.heap.size=xb at hX HB1 ⊢;have k0:=cell_regrown (aP0 (j:=0) hX rfl);have k1:=cell_regrown (aP0 (j:=1) hX rfl);have k2:=cell_regrown (aP0 (j:=2) hX rfl);have k3:=cell_regrown c1;have k4:=cell_regrown c2;clear hX c1 c2;refine wp_region_quiet_below (by kernel_rfl) (by kernel_rfl) ?_
 repeat (go_big_quiet_step (exact cN _ _))
 refine wpQuiet_nil ?_;intro _ hw';obtain ⟨⟨dq,osq⟩,hw''⟩:=hw';subst hw'';go_wp2;go_ret;subst hsz;exact ⟨rfl,aS0 HB1.out (below_regrown ..)⟩
set_option maxHeartbeats 1000000 in
theorem pV1 {g:Nat} {lb:Array Value} {f:Pt→Int} {l:List Pt} {w:World} (hN:NumFn g lb f l w) {nb:Nat} (h1:w.cell? ⟨nb,0,none⟩=some (.func (.func g) #[] lb)) (hf:∀x∈l,-9000000000000000000≤f x∧f x≤9000000000000000000):
  NumFn 165 #[.pointer (some ⟨nb,0,none⟩)] (fun x=>-f x) l w:=by
 refine ⟨enters_of Tryz.func165 (by kernel_rfl) rfl,fun W hW x hx=>?_⟩;show Calls Tryz.prog 165 #[.agg #[.int .i64 x.price,.int .i64 x.dem,.int .i64 x.sup],.pointer (some ⟨nb,0,none⟩)] W _;have eg:=hN.enters;have c1:=cE0 (bD0 W (.cells #[.int .i64 x.price,.int .i64 x.dem,.int .i64 x.sup] 189)) (cE0 hW h1);obtain ⟨f1,f2⟩:=hf x hx;have HC:Hid (∀V,Below W.heap.size W V→Calls Tryz.prog g (#[.agg #[.int .i64 x.price,.int .i64 x.dem,.int .i64 x.sup]]++lb) V fun e W'=>e=.returned (.int .i64 (f x))∧Below V.heap.size V W'):=fun V hV=>hN.tells V (aS0 hW hV) x hx
 clear hN hW h1 hf;generalize f x=z at f1 f2 HC ⊢;go_enter Tryz.func165,Tryz.ntmps165;go_wp2_with fail;refine (HC.out _ (bD0 W _)).mono ?_;rintro e w3 ⟨rfl,hb3⟩;have HB3:Hid (Below W.heap.size W w3):=aS0 (bD0 W _) hb3;clear hb3;go_wp2_with fail;go_ret;exact ⟨rfl,HB3.out⟩
set_option maxRecDepth 4000 in
set_option maxHeartbeats 4000000 in
theorem hD1 (a:Option Addr) (cap:Nat) (l:List Pt) (g:Nat) (lb:Array Value) (f:Pt→Int) (w:World) (h:gS0 w a l) (hl:l.length≤1000) (hf:NumFn g lb f l w):
  Calls Tryz.prog 114 #[.slice a l.length cap,.func (.func g) #[] lb] w fun e w'=>∃v',e=.returned v'∧w'.ownsRow w.heap.size 189 3 v' (eT0 f l).length (ptV (eT0 f l))∧Below w.heap.size w w':=by
 have HA:Hid (gS0 w a l):=h;have HF:Hid (NumFn g lb f l w):=hf;have eg:=hf.enters;have hbA:=bD0 w (.cells #[.func (.func g) #[] lb] 187);have hN:(w.alloc (.cells #[.func (.func g) #[] lb] 187)).heap[w.heap.size]? = _:=heap_alloc_new w _;clear h hf
 by_cases h0:0<l.length
 ·obtain ⟨b,off,rfl,d0,d1,d2⟩:=HA.out.below hbA 0 h0;have hlen:((l.length:Int) == 0)=false:=beq_eq_false_iff_ne.2 (by omega);have hlt:(0:Int)<(l.length:Int):=by omega
  go_enter Tryz.func114,Tryz.ntmps114;go_upto_region 3 with fail;have HBA:Hid (Below w.heap.size w (w.alloc (.cells #[.func (.func g) #[] lb] 187))):=hbA;have HC:Hid (∀W,Below w.heap.size w W→Calls Tryz.prog g (#[.agg #[.int .i64 (ptAt l 0).price,.int .i64 (ptAt l 0).dem,.int .i64 (ptAt l 0).sup]]++lb) W fun e W'=>e=.returned (.int .i64 (f (ptAt l 0)))∧Below W.heap.size W W'):=fun W hW=>HF.out.tells W hW _ (cJ0 h0)
  have HN:Hid ((w.alloc (.cells #[.func (.func g) #[] lb] 187)).heap[w.heap.size]? = some (.cells #[.func (.func g) #[] lb] 187 (0,0))):=hN;have n0:=aP0 (j:=0) hN rfl;have HTOP:Hid (f (ptAt l 0)=topF f (f (ptAt l 0)) (l.take 0)):=rfl;have HZ0:Hid (eT0 f l=l.filter fun x=>f x == topF f (f (ptAt l 0)) l):=rfl;generalize f (ptAt l 0)=z0 at HC HTOP HZ0;generalize ptAt l 0=x0 at d0 d1 d2 HC;generalize w.alloc (.cells #[.func (.func g) #[] lb] 187)=V at d0 d1 d2 HBA HN n0 ⊢;clear hbA hN hlen;rw [Nat.zero_mul,Nat.add_zero] at d0 d1 d2;go_cut [5] from 11 to 15 (fun v wc=>∃tb:Nat,v=.pointer (some ⟨tb,0,none⟩)∧V.heap.size≤tb∧wc.heap[tb]? = some (.cells #[.int .i64 z0] 3 (0,0))∧Below V.heap.size V wc)
  case first=>
   have HS:Hid (∀w',Below V.heap.size V w'→w'.cell? ⟨w.heap.size,0,none⟩=some (.func (.func g) #[] lb)∧w'.cell? ⟨b,off,none⟩=some (.int .i64 x0.price)∧w'.cell? ⟨b,off+1,none⟩=some (.int .i64 x0.dem)∧w'.cell? ⟨b,off+2,none⟩=some (.int .i64 x0.sup)∧Below V.heap.size V w'):=fun w' hb=>⟨cE0 hb n0,cE0 hb d0,cE0 hb d1,cE0 hb d2,hb⟩
   go_region_held3 (fun w'=>w'.cell? ⟨w.heap.size,0,none⟩=some (.func (.func g) #[] lb)∧w'.cell? ⟨b,off,none⟩=some (.int .i64 x0.price)∧w'.cell? ⟨b,off+1,none⟩=some (.int .i64 x0.dem)∧w'.cell? ⟨b,off+2,none⟩=some (.int .i64 x0.sup)∧Below V.heap.size V w')
    ((refine HS.out _ ?_;(repeat' first | assumption | exact Below.refl _ _ | exact lR7 | refine Below.drew ?_ | refine Below.alloc ?_ ?_ _ | refine aS0 ?_ hb1 | refine Below.setCell ?_ ?_ _ | (simp;done) | (simp;omega) | (have h9:=hb1.size;simp at h9 ⊢;omega))))
    (first | (go_at_fn g;refine (HC.out _ ?_).mono ?_;(refine aS0 HBA.out ?_;go_split_ands;assumption);rintro e w5 ⟨rfl,hb1⟩;first | (have t5:w5.heap[V.heap.size]? = some (.cells #[.int .i64 0] 3 (0,0)):=eA0 (heap_alloc_new V.drew _) hb1;have c5:=aP0 (j:=0) t5 rfl;have f5:=bT0 (j:=0) t5) | skip))
   ·have HR:Hid (Below V.heap.size V (w5.alloc (.cells #[.int .i64 z0] 3))):=by go_split_ands;assumption
    have HZ:Hid (V.heap.size≤w5.heap.size):=hb1.size;go_wp2_with fail;go_meet;exact ⟨_,rfl,HZ.out,heap_alloc_new w5 _,HR.out⟩
   ·have HR:Hid (Below V.heap.size V (w5.setCell ⟨V.heap.size,0,none⟩ (.int .i64 z0))):=by go_split_ands;assumption
    have HZ:Hid _:=t5;go_wp2_with fail;go_meet;exact ⟨_,rfl,lR7,dF0 (j:=0) _ HZ.out,HR.out⟩
  case rest=>
   obtain ⟨tb,rfl,htb,hT,hBV⟩:=hcut;have HT0:Hid (wc.heap[tb]? = some (.cells #[.int .i64 (topF f z0 (l.take 0))] 3 (0,0))):=by rw [←HTOP.out];exact hT
   have HN0:Hid (wc.heap[w.heap.size]? = some (.cells #[.func (.func g) #[] lb] 187 (0,0))):=eA0 HN.out hBV;have HB0:Hid (Below w.heap.size w wc):=aS0 HBA.out hBV;have htb':w.heap.size<tb:=Nat.lt_of_lt_of_le (lt_of_block HN.out) htb;clear hT hBV HBA HN htb HC d0 d1 d2 n0 HTOP;go_wp2_with fail;go_loopw [18] (fun i wr=>∃k:Nat,k≤l.length∧i=.int .i64 k∧wr.heap[tb]? = some (.cells #[.int .i64 (topF f z0 (l.take k))] 3 (0,0))∧wr.heap[w.heap.size]? = some (.cells #[.func (.func g) #[] lb] 187 (0,0))∧Below w.heap.size w wr) (fun i _=>l.length - (intOf i).toNat)
   case atStart=>exact ⟨0,Nat.zero_le _,rfl,HT0.out,HN0.out,HB0.out⟩
   case round=>
    obtain ⟨k,hk,rfl,hT,hN,hb⟩:=hrel;clear HT0 HN0 HB0;have HB:Hid (Below w.heap.size w wr):=hb
    by_cases hk1:k<l.length
    ·have hklt:(k:Int)<(l.length:Int):=by omega
     obtain ⟨b',off',he,d0,d1,d2⟩:=HA.out.below hb k hk1;obtain ⟨rfl,rfl⟩:b=b'∧off=off':=by simpa using he
     have HTK:Hid (topF f z0 (l.take (k+1))=max (topF f z0 (l.take k)) (f (ptAt l k))):=gV1 hk1;have HC:Hid (∀W,Below w.heap.size w W→Calls Tryz.prog g (#[.agg #[.int .i64 (ptAt l k).price,.int .i64 (ptAt l k).dem,.int .i64 (ptAt l k).sup]]++lb) W fun e W'=>e=.returned (.int .i64 (f (ptAt l k)))∧Below W.heap.size W W'):=fun W hW=>HF.out.tells W hW _ (cJ0 hk1)
     generalize f (ptAt l k)=z at HTK HC;generalize ptAt l k=x at d0 d1 d2 HC;generalize topF f z0 (l.take k)=m at HTK hT;clear hb he;go_upto_region 7 with fail;have hX:cL1 (wr.alloc (.cells #[.int .i64 x.price,.int .i64 x.dem,.int .i64 x.sup] 189)) wr.heap.size x:=heap_alloc_new wr _;have hbA:=bD0 wr (.cells #[.int .i64 x.price,.int .i64 x.dem,.int .i64 x.sup] 189);have hxt:wr.heap.size≠tb:=fun e=>by have:=lt_of_block hT;omega
     generalize wr.alloc (.cells #[.int .i64 x.price,.int .i64 x.dem,.int .i64 x.sup] 189)=V2 at hX hbA ⊢;generalize wr.heap.size=xb at hX hxt ⊢;have HB2:Hid (Below w.heap.size w V2):=aS0 HB.out hbA;have hT2:=eA0 hT hbA;have hN2:=eA0 hN hbA;have HN2:Hid (V2.heap[w.heap.size]? = some (.cells #[.func (.func g) #[] lb] 187 (0,0))):=hN2;have t2:=aP0 (j:=0) hT2 rfl;clear hT hN hbA HB d0 d1 d2;have n2:=aP0 (j:=0) hN2 rfl;have x0:=aP0 (j:=0) hX rfl;have x1:=aP0 (j:=1) hX rfl;have x2:=aP0 (j:=2) hX rfl;have HT2:Hid (V2.heap[tb]? = some (.cells #[.int .i64 m] 3 (0,0))):=hT2;clear hT2 hN2 hX;go_region_with (go_at_fn g;refine (HC.out _ ?_).mono ?_;(refine aS0 HB2.out ?_;(repeat' first | assumption | exact Below.refl _ _ | exact lR7 | refine Below.drew ?_ | refine Below.alloc ?_ ?_ _ | (simp;done) | (simp;omega)));rintro e w5 ⟨rfl,hb1⟩;(have t5:w5.heap[tb]? = some (.cells #[.int .i64 m] 3 (0,0)):=eA0 (w:=V2.drew) HT2.out hb1;have c5:=aP0 (j:=0) t5 rfl;have f5:=bT0 (j:=0) t5))
     all_goals
      have HT5:Hid (w5.heap[tb]? = some (.cells #[.int .i64 m] 3 (0,0))):=t5;have HB5:Hid (Below w.heap.size w w5):=aS0 (w1:=V2.drew) HB2.out.drew hb1;have HN5:Hid (w5.heap[w.heap.size]? = some (.cells #[.func (.func g) #[] lb] 187 (0,0))):=eA0 (w:=V2.drew) HN2.out hb1;clear hb1 t5 c5 f5 t2 n2 x0 x1 x2;go_wp2_with fail;go_roundw
      case rel=>exact ⟨k+1,hk1,by go_num,by rw [HTK.out];exact dF0 (j:=0) _ HT5.out,(Below.heap_setCell _ _ _ _ (Nat.ne_of_lt htb')).trans HN5.out,HB5.out.setCell (Nat.le_of_lt htb') _⟩
      case measure=>simp [intOf];omega
    ·obtain rfl:k=l.length:=by omega
     rw [List.take_length] at hT
     have HK:Hid (∀ca,Calls Tryz.prog 163 #[.slice (some ⟨b,off,none⟩) l.length ca,.func (.func 164) #[] #[.pointer (some ⟨w.heap.size,0,none⟩),.pointer (some ⟨tb,0,none⟩)]] wr fun e w'=>∃v',e=.returned v'∧w'.ownsRow wr.heap.size 189 3 v' (l.filter fun x=>f x == topF f z0 l).length (ptV (l.filter fun x=>f x == topF f z0 l))∧Below wr.heap.size wr w'):=fun ca=>
      nH1 _ ca l _ _ _ wr (HA.out.below hb) hl (sD1 (HF.out.later hb) (aP0 (j:=0) hN rfl) (aP0 (j:=0) hT rfl))
     clear hb hT hN;go_wp2_with fail;refine (HK.out _).mono ?_;rintro e w9 ⟨v',rfl,hown,hb9⟩;have HO:Hid (w9.ownsRow w.heap.size 189 3 v' (eT0 f l).length (ptV (eT0 f l))):=by rw [HZ0.out];exact bP0 hown HB.out.size
     have HB9:Hid (Below w.heap.size w w9):=aS0 HB.out hb9;clear hown hb9;go_wp2_with fail;go_ret;exact ⟨_,rfl,HO.out,HB9.out⟩
 ·have hlen:((l.length:Int) == 0)=true:=beq_iff_eq.2 (by omega)
  have HE:Hid (eT0 f l=[]):=by
   obtain rfl:l=[]:=List.length_eq_zero_iff.1 (by omega);rfl
  go_enter Tryz.func114,Tryz.ntmps114;go_wp2_with fail;go_ret;refine ⟨_,rfl,?_,hbA⟩;rw [HE.out];exact World.ownsRow_nil _ _ _ _
set_option maxHeartbeats 1000000 in
theorem sT0 (a:Option Addr) (cap:Nat) (l:List Pt) (g:Nat) (lb:Array Value) (f:Pt→Int) (w:World) (h:gS0 w a l) (hl:l.length≤1000) (hf:NumFn g lb f l w) (hfb:∀x∈l,-9000000000000000000≤f x∧f x≤9000000000000000000):
  Calls Tryz.prog 116 #[.slice a l.length cap,.func (.func g) #[] lb] w fun e w'=>∃v',e=.returned v'∧w'.ownsRow w.heap.size 189 3 v' (bY0 f l).length (ptV (bY0 f l))∧Below w.heap.size w w':=by
 have hbA:=bD0 w (.cells #[.func (.func g) #[] lb] 187);have hN:(w.alloc (.cells #[.func (.func g) #[] lb] 187)).heap[w.heap.size]? = _:=heap_alloc_new w _
 have HM:Hid (∀ca,Calls Tryz.prog 114 #[.slice a l.length ca,.func (.func 165) #[] #[.pointer (some ⟨w.heap.size,0,none⟩)]] (w.alloc (.cells #[.func (.func g) #[] lb] 187)) fun e w'=>∃v',e=.returned v'∧w'.ownsRow (w.alloc (.cells #[.func (.func g) #[] lb] 187)).heap.size 189 3 v' (bY0 f l).length (ptV (bY0 f l))∧Below (w.alloc (.cells #[.func (.func g) #[] lb] 187)).heap.size (w.alloc (.cells #[.func (.func g) #[] lb] 187)) w'):=fun ca=>
  hD1 a ca l _ _ (fun x=>-f x) _ (h.below hbA) hl (pV1 (hf.later hbA) (aP0 (j:=0) hN rfl) hfb)
 clear hN h hf;go_enter Tryz.func116,Tryz.ntmps116;go_wp2_with fail;refine (HM.out _).mono ?_;rintro e w9 ⟨v',rfl,hown,hb9⟩;have HO:Hid (w9.ownsRow w.heap.size 189 3 v' (bY0 f l).length (ptV (bY0 f l))):=bP0 hown hbA.size;have HB9:Hid (Below w.heap.size w w9):=aS0 hbA hb9;clear hown hb9 hbA;go_wp2_with fail;go_ret;exact ⟨_,rfl,HO.out,HB9.out⟩
set_option maxHeartbeats 1000000 in
theorem sE1 (a:Option Addr) (cap:Nat) (l:List Pt) (g:Nat) (lb:Array Value) (q:Pt→Bool) (w:World) (h:gS0 w a l) (hl:l.length≤1000) (hf:BoolFn g lb q l w):
  Calls Tryz.prog 120 #[.slice a l.length cap,.func (.func g) #[] lb] w fun e w'=>e=.returned (.bool (allP q l))∧Below w.heap.size w w':=by
 have HK:Hid (∀ca,Calls Tryz.prog 163 #[.slice a l.length ca,.func (.func g) #[] lb] w fun e w'=>∃v',e=.returned v'∧w'.ownsRow w.heap.size 189 3 v' (l.filter q).length (ptV (l.filter q))∧Below w.heap.size w w'):=fun ca=>nH1 a ca l g lb q w h hl hf
 have HP:Hid (allP q l=(((l.filter q).length:Int) == (l.length:Int))):=rfl;clear h hf;go_enter Tryz.func120,Tryz.ntmps120;go_wp2_with fail;refine (HK.out _).mono ?_;rintro e w9 ⟨v',rfl,hown,hb9⟩;obtain ⟨ao,vcap,rfl,_,_⟩:=aW0 hown;clear hown;go_wp2_with fail;go_ret;exact ⟨by rw [HP.out];rfl,hb9⟩
set_option maxHeartbeats 1000000 in
theorem sU0 (x:Pt) (w:World):
  Calls Tryz.prog 115 #[.agg #[.int .i64 x.price,.int .i64 x.dem,.int .i64 x.sup]] w fun e w'=>e=.returned (.int .i64 (trB x))∧Below w.heap.size w w':=by
 have HT:Hid (trB x=min x.dem x.sup):=rfl;go_enter Tryz.func115,Tryz.ntmps115;go_wp2;go_ret;exact ⟨by rw [HT.out];first | rfl | (congr 2;omega),bD0 w _⟩
set_option maxHeartbeats 1000000 in
theorem pW0 (x:Pt) (hx:x.Small) (w:World):
  Calls Tryz.prog 122 #[.agg #[.int .i64 x.price,.int .i64 x.dem,.int .i64 x.sup]] w fun e w'=>e=.returned (.int .i64 (surB x))∧Below w.heap.size w w':=by
 have HT:Hid (surB x=x.dem - x.sup):=rfl;obtain ⟨_,⟨hd1,hd2⟩,⟨hs1,hs2⟩⟩:=hx;go_enter Tryz.func122,Tryz.ntmps122;go_wp2;go_ret;exact ⟨by rw [HT.out];rfl,bD0 w _⟩
set_option maxHeartbeats 1000000 in
theorem hE1 (a b:Int) (ha:-1099511627776≤a∧a≤1099511627776) (hb:-1099511627776≤b∧b≤1099511627776) (w:World):
  Calls Tryz.prog 118 #[.int .i64 a,.int .i64 b] w fun e w'=>e=.returned (.int .i64 (apB a b))∧w'=w:=by
 have HT:Hid (apB a b=max a b - min a b):=rfl;obtain ⟨ha1,ha2⟩:=ha;obtain ⟨hb1,hb2⟩:=hb;go_enter Tryz.func118,Tryz.ntmps118;go_wp2;go_ret;exact ⟨by rw [HT.out];rfl,rfl⟩
theorem lJ1 (l:List Pt) (w:World):NumFn 115 #[] trB l w:=
 ⟨enters_of Tryz.func115 (by kernel_rfl) rfl,fun W _ x _=>sU0 x W⟩
set_option maxHeartbeats 1000000 in
theorem sF1 {l:List Pt} (hs:∀x∈l,x.Small) (w:World):NumFn 117 #[] lfP l w:=by
 refine ⟨enters_of Tryz.func117 (by kernel_rfl) rfl,fun W _ x hx=>?_⟩;show Calls Tryz.prog 117 #[.agg #[.int .i64 x.price,.int .i64 x.dem,.int .i64 x.sup]] W _;have HT:Hid (lfP x=apB x.dem x.sup):=rfl;have HX:Hid x.Small:=hs x hx;clear hs hx;go_enter Tryz.func117,Tryz.ntmps117;go_wp2_with fail;refine (hE1 _ _ HX.out.d HX.out.s _).mono ?_;rintro e w5 ⟨rfl,hw⟩;subst hw;go_wp2_with fail;go_ret;exact ⟨by rw [HT.out];rfl,bD0 W _⟩
set_option maxHeartbeats 1000000 in
theorem yE0 (l:List Pt) (w:World):NumFn 119 #[] Pt.price l w:=by
 refine ⟨enters_of Tryz.func119 (by kernel_rfl) rfl,fun W _ x hx=>?_⟩;show Calls Tryz.prog 119 #[.agg #[.int .i64 x.price,.int .i64 x.dem,.int .i64 x.sup]] W _;go_enter Tryz.func119,Tryz.ntmps119;go_wp2_with fail;go_ret;exact ⟨rfl,bD0 W _⟩
set_option maxHeartbeats 1000000 in
theorem fnUp {l:List Pt} (hs:∀x∈l,x.Small) (w:World):BoolFn 121 #[] upB l w:=by
 refine ⟨enters_of Tryz.func121 (by kernel_rfl) rfl,fun W _ x hx=>?_⟩;show Calls Tryz.prog 121 #[.agg #[.int .i64 x.price,.int .i64 x.dem,.int .i64 x.sup]] W _;have HT:Hid (upB x=decide (surB x>0)):=rfl;have HX:Hid x.Small:=hs x hx;clear hs hx;go_enter Tryz.func121,Tryz.ntmps121;go_wp2_with fail;refine (pW0 x HX.out _).mono ?_;rintro e w5 ⟨rfl,hb⟩;have HB:Hid (Below W.heap.size W w5):=aS0 (bD0 W _) hb;clear hb;go_wp2_with fail;go_ret;exact ⟨by rw [HT.out];rfl,HB.out⟩
set_option maxHeartbeats 1000000 in
theorem sG1 {l:List Pt} (hs:∀x∈l,x.Small) (w:World):BoolFn 123 #[] jC0 l w:=by
 refine ⟨enters_of Tryz.func123 (by kernel_rfl) rfl,fun W _ x hx=>?_⟩;show Calls Tryz.prog 123 #[.agg #[.int .i64 x.price,.int .i64 x.dem,.int .i64 x.sup]] W _;have HT:Hid (jC0 x=decide (surB x<0)):=rfl;have HX:Hid x.Small:=hs x hx;clear hs hx;go_enter Tryz.func123,Tryz.ntmps123;go_wp2_with fail;refine (pW0 x HX.out _).mono ?_;rintro e w5 ⟨rfl,hb⟩;have HB:Hid (Below W.heap.size W w5):=aS0 (bD0 W _) hb;clear hb;go_wp2_with fail;go_ret;exact ⟨by rw [HT.out];rfl,HB.out⟩
set_option maxHeartbeats 1000000 in
theorem sH1 {l:List Pt} (hs:∀x∈l,x.Small) {w:World} {ab:Nat} {around:Int} (ha:-1099511627776≤around∧around≤1099511627776) (hc:w.cell? ⟨ab,0,none⟩=some (.int .i64 around)):NumFn 124 #[.pointer (some ⟨ab,0,none⟩)] (gJ0 around) l w:=by
 refine ⟨enters_of Tryz.func124 (by kernel_rfl) rfl,fun W hW x hx=>?_⟩;show Calls Tryz.prog 124 #[.agg #[.int .i64 x.price,.int .i64 x.dem,.int .i64 x.sup],.pointer (some ⟨ab,0,none⟩)] W _;have HT:Hid (gJ0 around x=apB x.price around):=rfl;have HX:Hid x.Small:=hs x hx;have c1:=cE0 (bD0 W (.cells #[.int .i64 x.price,.int .i64 x.dem,.int .i64 x.sup] 189)) (cE0 hW hc);clear hs hx hW hc;go_enter Tryz.func124,Tryz.ntmps124;go_wp2_with fail;refine (hE1 _ _ HX.out.p ha _).mono ?_;rintro e w5 ⟨rfl,hw⟩;subst hw;go_wp2_with fail;go_ret;exact ⟨by rw [HT.out];rfl,bD0 W _⟩
theorem nI1 {a b:Int} (ha:-1099511627776≤a∧a≤1099511627776) (hb:-1099511627776≤b∧b≤1099511627776):-9000000000000000000≤apB a b∧apB a b≤9000000000000000000:=by
 unfold apB;omega
theorem pW1 {w:World} {base:Nat} {t:TypeId} {v:Value} {l:List Pt} (h:w.ownsRow base t 3 v l.length (ptV l)) {k:Nat} (hk:k<l.length):
  ∃g cap,v=.slice (some ⟨g,0,none⟩) l.length cap∧base≤g∧w.cell? ⟨g,k*3,none⟩=some (.int .i64 (ptAt l k).price)∧w.cell? ⟨g,k*3+1,none⟩=some (.int .i64 (ptAt l k).dem)∧w.cell? ⟨g,k*3+2,none⟩=some (.int .i64 (ptAt l k).sup):=by
 obtain ⟨g,cap,rfl,hg,_⟩:=h.form (by omega);obtain ⟨h1,h2,h3⟩:=mR1 hk;exact ⟨g,cap,rfl,hg,(h.cellAt _ (by omega)).trans h1,(h.cellAt _ (by omega)).trans h2,(h.cellAt _ (by omega)).trans h3⟩
set_option maxRecDepth 4000 in
set_option maxHeartbeats 4000000 in
theorem lK1 (a:Option Addr) (cap:Nat) (l:List Pt) (around:Int) (w:World) (h:gS0 w a l) (hl:l.length≤1000) (hs:∀x∈l,x.Small) (ha:-1099511627776≤around∧around≤1099511627776):
  Calls Tryz.prog 71 #[.slice a l.length cap,.int .i64 around] w fun e w'=>e=.returned (.agg #[.int .i64 (aN0 l around).price,.int .i64 (aN0 l around).qty,.int .i64 (aN0 l around).sur])∧Below w.heap.size w w':=by
 have HA:Hid (gS0 w a l):=h;have HS:Hid (∀x∈l,x.Small):=hs;have HR:Hid (-1099511627776≤around∧around≤1099511627776):=ha;have HC:Hid (aN0 l around=xZ0 l around):=(cK1 l around).symm;clear h hs ha;go_enter Tryz.func71,Tryz.ntmps71;go_wp2_with fail
 have hq0:gI0 ((w.alloc (.cells #[.int .i64 around] 3)).alloc (.cells #[.int .i64 0,.int .i64 0,.int .i64 0] 69)) (w.heap.size+1):=by
  have:=heap_alloc_new (w.alloc (.cells #[.int .i64 around] 3)) (.cells #[.int .i64 0,.int .i64 0,.int .i64 0] 69);unfold gI0
  simpa using this
 have ha0:((w.alloc (.cells #[.int .i64 around] 3)).alloc (.cells #[.int .i64 0,.int .i64 0,.int .i64 0] 69)).cell? ⟨w.heap.size,0,none⟩=some (.int .i64 around):=cE0 (bD0 _ _) (aP0 (j:=0) (heap_alloc_new w _) rfl);have hb0:Below w.heap.size w ((w.alloc (.cells #[.int .i64 around] 3)).alloc (.cells #[.int .i64 0,.int .i64 0,.int .i64 0] 69)):=aS0 (bD0 w _) (bD0 _ _);generalize (w.alloc (.cells #[.int .i64 around] 3)).alloc (.cells #[.int .i64 0,.int .i64 0,.int .i64 0] 69)=W0 at hq0 ha0 hb0 ⊢;refine (hD1 a _ l _ _ trB W0 (HA.out.below hb0) hl (lJ1 l W0)).mono ?_;rintro e w1 ⟨v1,rfl,hown,hb1⟩;have HQ1:Hid (gI0 w1 (w.heap.size+1)):=hq0.below hb1;have HA1:Hid (w1.cell? ⟨w.heap.size,0,none⟩=some (.int .i64 around)):=cE0 hb1 ha0;have HB1:Hid (Below w.heap.size w w1):=aS0 hb0 hb1;have HC1:Hid (aN0 l around=if pS0 (eT0 trB l)=true then ⟨0,0,0⟩ else quoP (ptAt (gC0 around (bY0 lfP (eT0 trB l))) 0)):=HC.out;have HS1:Hid (∀x∈eT0 trB l,x.Small):=fun x hx=>HS.out x (pU0 hx)
 have hl1:(eT0 trB l).length≤1000:=Nat.le_trans (pT0 trB l) hl;have HW1:Hid (w1.ownsRow w.heap.size 189 3 v1 (eT0 trB l).length (ptV (eT0 trB l))):=bP0 hown hb0.size;obtain ⟨ao,c1,rfl,_,_⟩:=aW0 hown;clear hq0 ha0 hb0 hown hb1 HS HC HA hl;generalize eT0 trB l=l1 at HC1 HS1 hl1 HW1 ⊢
 by_cases h0:0<l1.length
 ·have hlen:((l1.length:Int) == 0)=false:=beq_eq_false_iff_ne.2 (by omega);have hlt:(0:Int)<(l1.length:Int):=by omega
  obtain ⟨g,cap1,hv,d0,d1,d2⟩:=zL0 HW1.out h0;simp only [Value.slice.injEq,true_and] at hv;obtain ⟨rfl,rfl⟩:=hv
  have HNO:Hid (pS0 l1=decide (trB (ptAt l1 0)<1)):=by
   show pS0 l1=_;unfold pS0;rw [hlen];rfl
  rw [Nat.zero_mul] at d0;rw [Nat.zero_mul,Nat.zero_add] at d1 d2;generalize ptAt l1 0=x0 at d0 d1 d2 HNO;go_wp2_with fail;refine (sU0 x0 _).mono ?_;rintro e w2 ⟨rfl,hb2⟩;have HQ2:Hid (gI0 w2 (w.heap.size+1)):=HQ1.out.below hb2;have HA2:Hid (w2.cell? ⟨w.heap.size,0,none⟩=some (.int .i64 around)):=cE0 hb2 HA1.out;have HB2:Hid (Below w.heap.size w w2):=aS0 HB1.out hb2;have HW2:Hid (w2.ownsRow w.heap.size 189 3 (.slice (some ⟨g,0,none⟩) l1.length c1) l1.length (ptV l1)):=cB0 HW1.out hb2 lR7;clear hb2 HQ1 HA1 HB1 HW1 d0 d1 d2
  by_cases ht:trB x0<1
  ·have HC2:Hid (aN0 l around=⟨0,0,0⟩):=by rw [HC1.out,HNO.out,decide_eq_true ht];rfl
   have q0:=aP0 (j:=0) HQ2.out rfl;have q1:=aP0 (j:=1) HQ2.out rfl;have q2:=aP0 (j:=2) HQ2.out rfl;have f0:=bT0 (j:=0) HQ2.out;have f1:=bT0 (j:=1) HQ2.out;have f2:=bT0 (j:=2) HQ2.out;have hF:=dF0 (j:=2) (.int .i64 0) (dF0 (j:=1) (.int .i64 0) (dF0 (j:=0) (.int .i64 0) HQ2.out));have HB9:Hid (Below w.heap.size w (((w2.setCell ⟨w.heap.size+1,0,none⟩ (.int .i64 0)).setCell ⟨w.heap.size+1,1,none⟩ (.int .i64 0)).setCell ⟨w.heap.size+1,2,none⟩ (.int .i64 0))):=((HB2.out.setCell (Nat.le_succ _) _).setCell (Nat.le_succ _) _).setCell (Nat.le_succ _) _;go_wp2_with fail;generalize ((w2.setCell ⟨w.heap.size+1,0,none⟩ (.int .i64 0)).setCell ⟨w.heap.size+1,1,none⟩ (.int .i64 0)).setCell ⟨w.heap.size+1,2,none⟩ (.int .i64 0)=V at hF HB9 ⊢;have z0:=aP0 (j:=0) hF rfl;have z1:=aP0 (j:=1) hF rfl;have z2:=aP0 (j:=2) hF rfl;refine bodyPost_ret (by simp [results,Tryz.results71,go_sem,z0,z1,z2];try rfl) rfl ?_;exact ⟨by rw [HC2.out],HB9.out⟩
  ·have HC2:Hid (aN0 l around=quoP (ptAt (gC0 around (bY0 lfP l1)) 0)):=by rw [HC1.out,HNO.out,decide_eq_false ht];rfl
   clear HC1 HNO;have HLF:Hid (∀x∈l1,-9000000000000000000≤lfP x∧lfP x≤9000000000000000000):=fun x hx=>nI1 (HS1.out x hx).d (HS1.out x hx).s
   have HP2:Hid (0<(bY0 lfP l1).length):=gD0 _ h0;have HS2:Hid (∀x∈bY0 lfP l1,x.Small):=fun x hx=>HS1.out x (iD0 hx)
   have hl2:(bY0 lfP l1).length≤1000:=Nat.le_trans (rH0 lfP l1) hl1;obtain ⟨aw,cw,hvw,hpts⟩:=gS0.of_row HW2.out;simp only [Value.slice.injEq,true_and] at hvw;obtain ⟨rfl,rfl⟩:=hvw;have HL2:Hid (∀ca,Calls Tryz.prog 116 #[.slice (some ⟨g,0,none⟩) l1.length ca,.func (.func 117) #[] #[]] w2 fun e w'=>∃v',e=.returned v'∧w'.ownsRow w2.heap.size 189 3 v' (bY0 lfP l1).length (ptV (bY0 lfP l1))∧Below w2.heap.size w2 w'):=fun ca=>sT0 _ ca l1 _ _ lfP w2 hpts hl1 (sF1 HS1.out w2) HLF.out
   clear hpts HLF HS1;go_wp2_with fail;refine (HL2.out _).mono ?_;rintro e w3 ⟨v2,rfl,hown2,hb3⟩;have HQ3:Hid (gI0 w3 (w.heap.size+1)):=HQ2.out.below hb3;have HA3:Hid (w3.cell? ⟨w.heap.size,0,none⟩=some (.int .i64 around)):=cE0 hb3 HA2.out;have HB3:Hid (Below w.heap.size w w3):=aS0 HB2.out hb3;obtain ⟨a2,c2,rfl,hpts⟩:=gS0.of_row hown2;have HI:Hid (gS0 w3 a2 (bY0 lfP l1)):=hpts;clear hown2 hb3 hpts HQ2 HA2 HB2 HW2 HL2 hl1 h0 hlen hlt ht;generalize bY0 lfP l1=l2 at HP2 HS2 hl2 HI HC2 ⊢;have HLA:Hid (gC0 around l2=if allP upB l2=true then eT0 Pt.price l2 else if allP jC0 l2=true then bY0 Pt.price l2 else bY0 Pt.price (bY0 (gJ0 around) l2)):=rfl;have HPR:Hid (∀x∈l2,-9000000000000000000≤Pt.price x∧Pt.price x≤9000000000000000000):=fun x hx=>by have:=(HS2.out x hx).p;omega
   have HNR:Hid (∀x∈l2,-9000000000000000000≤gJ0 around x∧gJ0 around x≤9000000000000000000):=fun x hx=>nI1 (HS2.out x hx).p HR.out
   go_upto_block 0 with fail;go_cut [0] from 21 to 38 (fun v wc=>wc.ownsRow w3.heap.size 189 3 v (gC0 around l2).length (ptV (gC0 around l2))∧Below w3.heap.size w3 wc)
   case first=>
    go_wp2_with fail;refine (sE1 a2 _ l2 _ _ upB w3 HI.out hl2 (fnUp HS2.out w3)).mono ?_;rintro e w4 ⟨rfl,hb4⟩;have HB4:Hid (Below w3.heap.size w3 w4):=hb4;clear hb4;cases hup:allP upB l2 with
    | true=>
     have HL:Hid (gC0 around l2=eT0 Pt.price l2):=by rw [HLA.out,hup];rfl
     go_wp2_with fail;refine (hD1 a2 _ l2 _ _ Pt.price w4 (HI.out.below HB4.out) hl2 (yE0 l2 w4)).mono ?_;rintro e w5 ⟨v5,rfl,hown5,hb5⟩;have HO5:Hid (w5.ownsRow w3.heap.size 189 3 v5 (gC0 around l2).length (ptV (gC0 around l2))):=by rw [HL.out];exact bP0 hown5 HB4.out.size
     have HB5:Hid (Below w3.heap.size w3 w5):=aS0 HB4.out hb5;clear hown5 hb5;go_wp2_with fail;go_meet;exact ⟨HO5.out,HB5.out⟩
    | false=>
     go_wp2_with fail;refine (sE1 a2 _ l2 _ _ jC0 w4 (HI.out.below HB4.out) hl2 (sG1 HS2.out w4)).mono ?_;rintro e w5 ⟨rfl,hb5⟩;have HB5:Hid (Below w3.heap.size w3 w5):=aS0 HB4.out hb5;clear hb5;cases hdn:allP jC0 l2 with
     | true=>
      have HL:Hid (gC0 around l2=bY0 Pt.price l2):=by rw [HLA.out,hup,hdn];rfl
      go_wp2_with fail;refine (sT0 a2 _ l2 _ _ Pt.price w5 (HI.out.below HB5.out) hl2 (yE0 l2 w5) HPR.out).mono ?_;rintro e w6 ⟨v6,rfl,hown6,hb6⟩;have HO6:Hid (w6.ownsRow w3.heap.size 189 3 v6 (gC0 around l2).length (ptV (gC0 around l2))):=by rw [HL.out];exact bP0 hown6 HB5.out.size
      have HB6:Hid (Below w3.heap.size w3 w6):=aS0 HB5.out hb6;clear hown6 hb6;go_wp2_with fail;go_meet;exact ⟨HO6.out,HB6.out⟩
     | false=>
      have HL:Hid (gC0 around l2=bY0 Pt.price (bY0 (gJ0 around) l2)):=by rw [HLA.out,hup,hdn];rfl
      go_wp2_with fail;refine (sT0 a2 _ l2 _ _ (gJ0 around) w5 (HI.out.below HB5.out) hl2 (sH1 HS2.out HR.out (cE0 HB5.out HA3.out)) HNR.out).mono ?_;rintro e w6 ⟨v6,rfl,hown6,hb6⟩;have HB6:Hid (Below w3.heap.size w3 w6):=aS0 HB5.out hb6;obtain ⟨a6,c6,rfl,hpts⟩:=gS0.of_row hown6;have HI6:Hid (gS0 w6 a6 (bY0 (gJ0 around) l2)):=hpts;have hl6:(bY0 (gJ0 around) l2).length≤1000:=Nat.le_trans (rH0 (gJ0 around) l2) hl2;have HPR6:Hid (∀x∈bY0 (gJ0 around) l2,-9000000000000000000≤Pt.price x∧Pt.price x≤9000000000000000000):=fun x hx=>HPR.out x (iD0 hx)
      clear hown6 hb6 hpts;generalize bY0 (gJ0 around) l2=l6 at HI6 hl6 HPR6 HL ⊢;go_wp2_with fail;refine (sT0 a6 _ l6 _ _ Pt.price w6 HI6.out hl6 (yE0 l6 w6) HPR6.out).mono ?_;rintro e w7 ⟨v7,rfl,hown7,hb7⟩;have HO7:Hid (w7.ownsRow w3.heap.size 189 3 v7 (gC0 around l2).length (ptV (gC0 around l2))):=by rw [HL.out];exact bP0 hown7 HB6.out.size
      have HB7:Hid (Below w3.heap.size w3 w7):=aS0 HB6.out hb7;clear hown7 hb7;go_wp2_with fail;go_meet;exact ⟨HO7.out,HB7.out⟩
   case rest=>
    obtain ⟨ho,hbc⟩:=hcut;have hpos:=vP0 around HP2.out;have hsm:=HS2.out _ (sC1 (around:=around) HP2.out);obtain ⟨g3,cap3,rfl,hg3,d0,d1,d2⟩:=pW1 ho hpos;have hlt:(0:Int)<((gC0 around l2).length:Int):=by omega
    have HQd:Hid (gI0 wc.drew (w.heap.size+1)):=(HQ3.out.below hbc:gI0 wc (w.heap.size+1));have hng:¬w.heap.size+1=g3:=fun e=>by have:=lt_of_block HQ3.out;omega
    have hng':¬g3=w.heap.size+1:=fun e=>hng e.symm
    have HBd:Hid (Below w.heap.size w wc.drew):=(aS0 HB3.out hbc).drew;rw [Nat.zero_mul] at d0;rw [Nat.zero_mul,Nat.zero_add] at d1 d2;generalize (gC0 around l2).length=n3 at hlt hpos ⊢;generalize ptAt (gC0 around l2) 0=x at d0 d1 d2 HC2 hsm;have HX:Hid x.Small:=hsm;have HC3:Hid ((aN0 l around).price=x.price∧(aN0 l around).qty=trB x∧(aN0 l around).sur=surB x):=by rw [HC2.out];exact ⟨rfl,rfl,rfl⟩
    clear ho hbc hsm HLA HPR HNR HI HS2 HP2 HQ3 HA3 HB3 HC2;go_wp2_with fail
    go_region_held3 (fun w'=>w'.cell? ⟨g3,0,none⟩=some (.int .i64 x.price)∧w'.cell? ⟨g3,1,none⟩=some (.int .i64 x.dem)∧w'.cell? ⟨g3,2,none⟩=some (.int .i64 x.sup))
     (first | go_keep | (go_split_ands;refine ⟨?_,?_,?_⟩ <;> (refine cE0 hbk ?_;assumption)))
     (first | (go_at_call 115;refine (sU0 x _).mono ?_;rintro e w5 ⟨rfl,hbk⟩;have HQ5:Hid (gI0 w5 (w.heap.size+1)):=HQd.out.below hbk;have HB5:Hid (Below w.heap.size w w5):=aS0 HBd.out hbk) | (go_at_call 122;refine (pW0 x HX.out _).mono ?_;rintro e w6 ⟨rfl,hbk⟩;have hq6:=HQ5.out.below hbk;have q0:=aP0 (j:=0) hq6 rfl;have q1:=aP0 (j:=1) hq6 rfl;have q2:=aP0 (j:=2) hq6 rfl;have f0:=bT0 (j:=0) hq6;have f1:=bT0 (j:=1) hq6;have f2:=bT0 (j:=2) hq6;have HB6:Hid (Below w.heap.size w w6):=aS0 HB5.out hbk;have HQ6:Hid (gI0 w6 (w.heap.size+1)):=hq6;clear hq6))
    have hF:=dF0 (j:=2) (.int .i64 (surB x)) (dF0 (j:=1) (.int .i64 (trB x)) (dF0 (j:=0) (.int .i64 x.price) HQ6.out));have HB9:Hid (Below w.heap.size w (((w6.setCell ⟨w.heap.size+1,0,none⟩ (.int .i64 x.price)).setCell ⟨w.heap.size+1,1,none⟩ (.int .i64 (trB x))).setCell ⟨w.heap.size+1,2,none⟩ (.int .i64 (surB x)))):=((HB6.out.setCell (Nat.le_succ _) _).setCell (Nat.le_succ _) _).setCell (Nat.le_succ _) _;rename_i hHeld9;clear hHeld9 q0 q1 q2 f0 f1 f2 d0 d1 d2;generalize ((w6.setCell ⟨w.heap.size+1,0,none⟩ (.int .i64 x.price)).setCell ⟨w.heap.size+1,1,none⟩ (.int .i64 (trB x))).setCell ⟨w.heap.size+1,2,none⟩ (.int .i64 (surB x))=V at hF HB9 ⊢;have z0:=aP0 (j:=0) hF rfl;have z1:=aP0 (j:=1) hF rfl;have z2:=aP0 (j:=2) hF rfl;clear hF;go_wp2_with fail;refine bodyPost_ret (by simp [results,Tryz.results71,go_sem,z0,z1,z2];try rfl) rfl ?_;exact ⟨by rw [HC3.out.1,HC3.out.2.1,HC3.out.2.2],HB9.out⟩
 ·have hlen:((l1.length:Int) == 0)=true:=beq_iff_eq.2 (by omega)
  have HC2:Hid (aN0 l around=⟨0,0,0⟩):=by
   show aN0 l around=_;rw [HC1.out];exact if_pos (by unfold pS0;rw [hlen];rfl)
  have q0:=aP0 (j:=0) HQ1.out rfl;have q1:=aP0 (j:=1) HQ1.out rfl;have q2:=aP0 (j:=2) HQ1.out rfl;have f0:=bT0 (j:=0) HQ1.out;have f1:=bT0 (j:=1) HQ1.out;have f2:=bT0 (j:=2) HQ1.out;have hF:=dF0 (j:=2) (.int .i64 0) (dF0 (j:=1) (.int .i64 0) (dF0 (j:=0) (.int .i64 0) HQ1.out));have HB9:Hid (Below w.heap.size w (((w1.setCell ⟨w.heap.size+1,0,none⟩ (.int .i64 0)).setCell ⟨w.heap.size+1,1,none⟩ (.int .i64 0)).setCell ⟨w.heap.size+1,2,none⟩ (.int .i64 0))):=((HB1.out.setCell (Nat.le_succ _) _).setCell (Nat.le_succ _) _).setCell (Nat.le_succ _) _;go_wp2_with fail;generalize ((w1.setCell ⟨w.heap.size+1,0,none⟩ (.int .i64 0)).setCell ⟨w.heap.size+1,1,none⟩ (.int .i64 0)).setCell ⟨w.heap.size+1,2,none⟩ (.int .i64 0)=V at hF HB9 ⊢;have z0:=aP0 (j:=0) hF rfl;have z1:=aP0 (j:=1) hF rfl;have z2:=aP0 (j:=2) hF rfl;refine bodyPost_ret (by simp [results,Tryz.results71,go_sem,z0,z1,z2];try rfl) rfl ?_;exact ⟨by rw [HC2.out],HB9.out⟩
end Go.Proofs.YtjdkagafdnchhaaGreatDoor
