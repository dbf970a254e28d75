/- DeskPieces: a part of the proof, packed (the readable form: the templates). -/
import Derived.Test.YtaelphbianmckaaGreatDoorQA
import Derived.Test.YtaelphbianmckaaGreatDoorQF
import Derived.Test.YtaelphbianmckaaGreatDoorQG
import Derived.Deep.Upon
import Derived.Test.YtaelphbianmckaaGreatDoorQI
import Derived.Maps.OwnSet
import Derived.Maps.RangeWalk
import Derived.Lib.SlKeysI
import Derived.Shelf.Sort.Plain
import Derived.Shelf.Slices.In.SortNone2
import Derived.Test.YtaelphbianmckaaGreatDoorRows
import Derived.Shelf.SlIterI.Sorted
import Derived.ProofKit
import Derived.OpenShut
import Derived.Deep.Fields
namespace Go.Proofs.YtaelphbianmckaaGreatDoor
open Go.RowKit
def wO0 (w:World) (ao:Option Addr) (m:Nat) (news:List Value):Prop:=(m=0∧news=[])∨∃ad,ao=some ad∧∀j u,news[j]? = some u→w.cell? (ad.add j)=some u
theorem jH0 {P:Program} (w:World) (t ty:TypeId) (base:Nat) (e:TypeId) (i:TypeInfo) (z:Value) (size bytes:Nat) (ht:P.underlying t=some (.slice e)) (hi:P.info? e=some i) (hz:i.zero=some z)
  (hsize:i.size=size) (hby:i.bytes=bytes) (hzs:z.cells.size=size) (hsz:0<size)
  (v:Value) (n:Nat) (xs:List Value) (hown:w.ownsRow base e size v n xs)
  (ao:Option Addr) (m c:Nat) (news:List Value) (hl:news.length=m*size) (hx:wO0 w ao m news) (h1:∀u∈news,u.oneCell'=true)
  (h63:n+m≤maxLen) (hbytes:(n+m)*bytes≤140737488355328) (hbase:base≤w.heap.size):
  ∃v' w',(Builtin.append_ #[t,t] ty #[v,.slice ao m c]).run P w=.ok v' w'∧
   w'.ownsRow base e size v' (n+m) (xs++news)∧w.grownBy w' v.ownBlock∧∀k,v'.ownBlock=some k→v.ownBlock=some k∨w.heap.size≤k:=by
 by_cases hm:0<m
 ·rcases hx with ⟨h0,_⟩ | ⟨ad,rfl,hc⟩
  ·omega
  ·obtain ⟨g,cap,w',hr,h2,h3,h4,h5⟩:=run_append_lies (P:=P) w t ty base e i z size bytes ht hi hz hsize hby hzs hsz v n xs hown ad m c news hl hc h1 hm h63 hbytes hbase _ rfl;refine ⟨_,w',hr,h2,h3,fun k hk=>?_⟩;have e':g=k:=by simpa [Value.ownBlock] using hk
   subst e';rcases h4 with h4 | h4
   ·exact Or.inl h4
   ·exact Or.inr (by omega)
 ·obtain rfl:m=0:=by omega
  obtain rfl:news=[]:=List.eq_nil_of_length_eq_zero (by omega);obtain ⟨ao',cap',rfl,hle,_⟩:=aY0 hown;refine ⟨.slice ao' n cap',w,?_,by rw [Nat.add_zero,List.append_nil];exact hown,World.grownBy.refl _ _,fun k hk=>Or.inl hk⟩
  exact run_append_nothing w t t ty e i ht hi _ n cap' hle _ (by
    rw [hsize];cases ao with
    | none=>exact Src.ofNil (w:=w) (hk:=ht) (c:=c)
    | some ad=>exact Src.ofSlice (w:=w) (hk:=ht) (a:=ad) (n:=0) (c:=c) (news:=[]) (by simp) (by simp) (by simp))
theorem lR0 {P:Program} (w:World) {ops:Array Oper} {rest:List Oper} {o:Oper} {a:Act} {Q:Exit→Act→World→Prop} (hgd:o.guard=none) (s x:Operand) (t:TypeId)
  (ho:o.op=.call { callee:=.builtin .append,args:=#[s,x],argTypes:=#[t,t] })
  (base:Nat) (e:TypeId) (i:TypeInfo) (z:Value) (size bytes:Nat) (ht:P.underlying t=some (.slice e)) (hi:P.info? e=some i) (hz:i.zero=some z)
  (hsize:i.size=size) (hby:i.bytes=bytes) (hzs:z.cells.size=size) (hsz:0<size)
  (v:Value) (n:Nat) (xs:List Value) (hs:a.eval s=v) (hown:w.ownsRow base e size v n xs)
  (ao:Option Addr) (m c:Nat) (news:List Value) (hv:a.eval x=.slice ao m c) (hl:news.length=m*size) (hx:wO0 w ao m news) (h1:∀u∈news,u.oneCell'=true)
  (h63:n+m≤maxLen) (hbytes:(n+m)*bytes≤140737488355328) (hbase:base≤w.heap.size)
  (h:∀v' w',w'.ownsRow base e size v' (n+m) (xs++news)→w.grownBy w' v.ownBlock→(∀k,v'.ownBlock=some k→v.ownBlock=some k∨w.heap.size≤k)→wpList P ops Q rest (a.put o.dst v') w'):wpList P ops Q (o::rest) a w:=by
 refine wpList_plain hgd fun K hK=>?_
 obtain ⟨v',w',hr,h2,h3,h4⟩:=jH0 (P:=P) w t o.type base e i z size bytes ht hi hz hsize hby hzs hsz v n xs hown ao m c news hl hx h1 h63 hbytes hbase;unfold Oper.wp execOp;simp only [ho,resolve,invoke,builtin,Sem.run_bind,Sem.run_pure,Result.andThen_ok,List.map_toArray,List.map_cons,List.map_nil,hs,hv,hr];exact hK _ _ (h v' w' h2 h3 h4)
theorem oS0 {P:Program} (w:World) {ops:Array Oper} {o:Oper} {a:Act} {K:Act→World→Prop} {Q:Exit→Act→World→Prop} {E:Prop} (hgd:o.guard=none) (s x:Operand) (t:TypeId)
  (ho:o.op=.call { callee:=.builtin .append,args:=#[s,x],argTypes:=#[t,t] })
  (base:Nat) (e:TypeId) (i:TypeInfo) (z:Value) (size bytes:Nat) (ht:P.underlying t=some (.slice e)) (hi:P.info? e=some i) (hz:i.zero=some z)
  (hsize:i.size=size) (hby:i.bytes=bytes) (hzs:z.cells.size=size) (hsz:0<size)
  (v:Value) (n:Nat) (xs:List Value) (hs:a.eval s=v) (hown:w.ownsRow base e size v n xs)
  (ao:Option Addr) (m c:Nat) (news:List Value) (hv:a.eval x=.slice ao m c) (hl:news.length=m*size) (hx:wO0 w ao m news) (h1:∀u∈news,u.oneCell'=true)
  (h63:n+m≤maxLen) (hbytes:(n+m)*bytes≤140737488355328) (hbase:base≤w.heap.size)
  (h:∀v' w',w'.ownsRow base e size v' (n+m) (xs++news)→w.grownBy w' v.ownBlock→(∀k,v'.ownBlock=some k→v.ownBlock=some k∨w.heap.size≤k)→K (a.put o.dst v') w'):
  if Region.wanted o (yielded ops a.tmps)=true then Oper.wp P o a w K Q else E:=by
 have hw:Region.wanted o (yielded ops a.tmps)=true:=by simp [Region.wanted,hgd]
 rw [if_pos hw];obtain ⟨v',w',hr,h2,h3,h4⟩:=jH0 (P:=P) w t o.type base e i z size bytes ht hi hz hsize hby hzs hsz v n xs hown ao m c news hl hx h1 h63 hbytes hbase;unfold Oper.wp execOp;simp only [ho,resolve,invoke,builtin,Sem.run_bind,Sem.run_pure,Result.andThen_ok,List.map_toArray,List.map_cons,List.map_nil,hs,hv,hr];exact h v' w' h2 h3 h4
theorem wO0.of_row {w W:World} {base:Nat} {ao:Option Addr} {cap:Nat} {l:List Ord} (h:w.ownsRow base 92 5 (.slice ao l.length cap) l.length (oV l)) (hb:Below w.heap.size w W):wO0 W ao l.length (oV l):=by
 cases l with
 | nil=>exact Or.inl ⟨rfl,rfl⟩
 | cons o l=>
  have h':=aS0 h hb lR7;obtain ⟨g,cap',hv,_,_⟩:=h'.form (by simp);simp only [Value.slice.injEq,true_and] at hv;obtain ⟨rfl,rfl⟩:=hv;refine Or.inr ⟨_,rfl,fun j u hj=>?_⟩
  have hlt:j<(oV (o::l)).length:=by
   rcases Nat.lt_or_ge j (oV (o::l)).length with h2 | h2
   ·exact h2
   ·rw [List.getElem?_eq_none h2] at hj;cases hj
  have h2:=(h'.cellAt j (by rw [eR0] at hlt;exact hlt)).trans hj;rw [←h2]
  by_cases e:j=0
  ·subst e;rfl
  ·simp [Addr.add,e]
theorem lS0 {α:Type} (p:α→Bool):∀l:List α,(l.filter p++l.filter fun x=>!p x).Perm l
 | []=>List.Perm.refl _
 | x::l=>by
  cases h:p x with
  | true=>simpa [h] using (lS0 p l).cons x
  | false=>
   have h1:((x::l).filter p)=l.filter p:=by simp [h]
   have h2:((x::l).filter fun x=>!p x)=x::l.filter fun x=>!p x:=by simp [h]
   rw [h1,h2];exact List.perm_middle.trans ((lS0 p l).cons x)
theorem gX0 {L:List Ord} (h:LOk L):(aK0 1 L++aK0 2 L).Perm L:=by
 have e:cR0 2 L=L.filter fun o=>!(o.side == 1):=by
  unfold cR0;refine List.filter_congr (fun o ho=>?_);rcases h.side o ho with e | e <;> rw [e] <;> rfl
 have h1:(aK0 1 L).Perm (L.filter fun o=>o.side == 1):=dO0 _ _
 have h2:(aK0 2 L).Perm (L.filter fun o=>!(o.side == 1)):=by
  rw [←e];exact dO0 _ _
 exact (h1.append h2).trans (lS0 _ L)
theorem gY0 (p:Int) (o:Ord) (l:List Ord):demO p (o::l)=(if iG0 p o=true then o.qty else 0)+demO p l:=by simp [demO]
theorem gZ0 (p:Int) (o:Ord) (l:List Ord):supO p (o::l)=(if eX0 p o=true then o.qty else 0)+supO p l:=by simp [supO]
theorem fE1 (p:Int) {l l':List Ord} (h:l.Perm l'):demO p l=demO p l':=by
 induction h with
 | nil=>rfl
 | cons x _ ih=>rw [gY0,gY0,ih]
 | swap x y l=>rw [gY0,gY0,gY0,gY0];omega
 | trans _ _ h1 h2=>exact h1.trans h2
theorem fF1 (p:Int) {l l':List Ord} (h:l.Perm l'):supO p l=supO p l':=by
 induction h with
 | nil=>rfl
 | cons x _ ih=>rw [gZ0,gZ0,ih]
 | swap x y l=>rw [gZ0,gZ0,gZ0,gZ0];omega
 | trans _ _ h1 h2=>exact h1.trans h2
theorem aW1 {l l':List Ord} (h:l.Perm l') (more:Int):aM0 l more=aM0 l' more:=by
 have e:tO0 (fO0 (aW0 l more))=tO0 (fO0 (aW0 l' more)):=by
  refine mE0 (nZ0 (cN0 _)) (fun p=>?_);rw [iI0 (cN0 _),fX0,cF0,cF0];constructor
  ·rintro (h1 | ⟨o,ho,h1⟩)
   ·exact Or.inl h1
   ·exact Or.inr ⟨o,h.mem_iff.2 ho,h1⟩
  ·rintro (h1 | ⟨o,ho,h1⟩)
   ·exact Or.inl h1
   ·exact Or.inr ⟨o,h.mem_iff.1 ho,h1⟩
 unfold aM0;rw [e];refine List.map_congr_left (fun p _=>?_);rw [fE1 p h,fF1 p h]
def sumQ (q:Ord→Bool) (l:List Ord):Int:=(l.map fun o=>if q o=true then o.qty else 0).sum
def mkBB (o:Ord):Bool:=(o.kind == 2)&& (o.side == 1)
def mkSB (o:Ord):Bool:=(o.kind == 2)&& !(o.side == 1)
def cM0 (p:Int) (o:Ord):Bool:=!(o.kind == 2)&& ((o.price == p)&& (o.side == 1))
def dF0 (p:Int) (o:Ord):Bool:=!(o.kind == 2)&& ((o.price == p)&& !(o.side == 1))
def sumX (q:Int→Ord→Bool) (xs:List Int) (l:List Ord):Int:=(xs.map fun p=>sumQ (q p) l).sum
theorem fC0 (q:Ord→Bool) (o:Ord) (l:List Ord):sumQ q (o::l)=(if q o=true then o.qty else 0)+sumQ q l:=by simp [sumQ]
theorem oT0 {l:List Ord} {k:Nat} (q:Ord→Bool) (h:k<l.length):sumQ q (l.take (k+1))=sumQ q (l.take k)+(if q (oAt l k)=true then (oAt l k).qty else 0):=by
 unfold sumQ;rw [List.take_succ_eq_append_getElem h,List.map_append,List.map_singleton,rL0,fS0 h]
theorem fG1 {l:List Ord} {k:Nat} {q:Ord→Bool} (h:k<l.length) (hq:q (oAt l k)=false):sumQ q (l.take (k+1))=sumQ q (l.take k):=by rw [oT0 q h,if_neg (by rw [hq];decide)];omega
theorem iZ0 {q q':Ord→Bool}:∀{l:List Ord},(∀o∈l,q o=q' o)→sumQ q l=sumQ q' l
 | [],_=>rfl
 | o::l,h=>by
  rw [fC0,fC0,h o (List.mem_cons_self ..),iZ0 (fun x hx=>h x (List.mem_cons_of_mem _ hx))]
theorem rS0 {q q':Ord→Bool}:∀{l:List Ord},(∀o∈l,q o=true→q' o=false)→sumQ q l+sumQ q' l=sumQ (fun o=>q o || q' o) l
 | [],_=>rfl
 | o::l,h=>by
  have ih:=rS0 (l:=l) (fun x hx=>h x (List.mem_cons_of_mem _ hx));have ho:=h o (List.mem_cons_self ..);rw [fC0,fC0,fC0,←ih];cases h1:q o with
  | true=>rw [ho h1];simp;omega
  | false=>cases h2:q' o <;> simp <;> omega
theorem fH1 {q:Ord→Bool}:∀{l:List Ord},(∀o∈l,okO o=true)→0≤sumQ q l∧sumQ q l≤1000000*(l.length:Int)
 | [],_=>by simp [sumQ]
 | o::l,h=>by
  have ih:=fH1 (q:=q) (l:=l) (fun x hx=>h x (List.mem_cons_of_mem _ hx));have ho:=(jP0 (h o (List.mem_cons_self ..))).2;rw [fC0,List.length_cons];split <;> omega
theorem bV0 {q:Ord→Bool} {l:List Ord} (h:∀o∈l,okO o=true) (hl:l.length≤1000):0≤sumQ q l∧sumQ q l≤1000000000:=by
 have:=fH1 (q:=q) h;omega
theorem wP0 {l:List Ord} (h:∀o∈l,okO o=true) (k:Nat):∀o∈l.take k,okO o=true:=fun o ho=>h o (List.mem_of_mem_take ho)
theorem yU0 (q:Int→Ord→Bool) (l:List Ord):sumX q [] l=0:=rfl
theorem uJ0 (q:Int→Ord→Bool):∀xs:List Int,sumX q xs []=0
 | []=>rfl
 | x::xs=>by
  have e:sumX q (x::xs) []=sumQ (q x) []+sumX q xs []:=by simp [sumX]
  rw [e,uJ0 q xs];rfl
theorem rT0 (q:Int→Ord→Bool) (x:Int) (xs:List Int) (l:List Ord):sumX q (x::xs) l=sumQ (q x) l+sumX q xs l:=by simp [sumX]
theorem uK0 (q:Int→Ord→Bool) (xs:List Int) (x:Int) (l:List Ord):sumX q (xs++[x]) l=sumX q xs l+sumQ (q x) l:=by
 unfold sumX;rw [List.map_append,List.map_singleton,rL0]
theorem fI1 {q:Int→Ord→Bool} {xs:List Int} {k:Nat} (l:List Ord) (h:k<xs.length):sumX q (xs.drop k) l=sumQ (q (xs.getD k 0)) l+sumX q (xs.drop (k+1)) l:=by
 rw [List.drop_eq_getElem_cons h,rT0];simp [h]
theorem fJ1 {q:Int→Ord→Bool} {xs:List Int} {k:Nat} (l:List Ord) (h:k<xs.length):sumX q (xs.take (k+1)) l=sumX q (xs.take k) l+sumQ (q (xs.getD k 0)) l:=by
 rw [List.take_succ_eq_append_getElem h,uK0];simp [h]
theorem uL0 (c:Bool) (p v:Int):∀{xs:List Int},xs.Nodup→(xs.map fun x=>if ((p == x)&& c)=true then v else 0).sum=if (c&& decide (p∈xs))=true then v else 0
 | [],_=>by simp
 | x::xs,h=>by
  rw [List.nodup_cons] at h;rw [List.map_cons,List.sum_cons,uL0 c p v h.2];cases c with
  | false=>simp
  | true=>
   by_cases e:p=x
   ·subst e;simp [h.1]
   ·simp [e]
theorem uM0 (q:Int→Ord→Bool) (o:Ord) (l:List Ord):∀xs:List Int,sumX q xs (o::l)=(xs.map fun p=>if q p o=true then o.qty else 0).sum+sumX q xs l
 | []=>rfl
 | x::xs=>by
  rw [rT0,rT0,uM0 q o l xs,fC0,List.map_cons,List.sum_cons];omega
theorem wQ0 (c:Ord→Bool) {q:Int→Ord→Bool} (hq:∀p o,q p o=(!(o.kind == 2)&& ((o.price == p)&& c o))) {xs:List Int} (h:xs.Nodup):∀l:List Ord,sumX q xs l=sumQ (fun o=>!(o.kind == 2)&& (c o&& decide (o.price∈xs))) l
 | []=>uJ0 _ _
 | o::l=>by
  rw [uM0,wQ0 c hq h l,fC0]
  congr 1
  have e:=uL0 (c o) o.price o.qty h;cases hk:(o.kind == 2) with
  | true=>
   have:(xs.map fun p=>if q p o=true then o.qty else 0)=xs.map fun _=>0:=by
    congr 1;funext p;rw [hq,hk];simp
   rw [this]
   have z:∀ys:List Int,(ys.map fun _=>(0:Int)).sum=0:=fun ys=>by induction ys with
    | nil=>rfl
    | cons y ys ih=>rw [List.map_cons,List.sum_cons,ih];rfl
   rw [z];simp
  | false=>
   have:(xs.map fun p=>if q p o=true then o.qty else 0)=xs.map fun p=>if ((o.price == p)&& c o)=true then o.qty else 0:=by
    congr 1;funext p;rw [hq,hk];simp
   rw [this,e];simp
theorem oU0 {xs:List Int} (h:xs.Nodup) (l:List Ord):sumX cM0 xs l=sumQ (fun o=>!(o.kind == 2)&& ((o.side == 1)&& decide (o.price∈xs))) l:=wQ0 (fun o=>o.side == 1) (fun _ _=>rfl) h l
theorem fK1 {xs:List Int} (h:xs.Nodup) (l:List Ord):sumX dF0 xs l=sumQ (fun o=>!(o.kind == 2)&& (!(o.side == 1)&& decide (o.price∈xs))) l:=wQ0 (fun o=>!(o.side == 1)) (fun _ _=>rfl) h l
theorem fL1 {xs ys:List Int} (h:xs.Nodup) (h':ys.Nodup) (hm:∀p,p∈xs↔p∈ys) (l:List Ord):sumX cM0 xs l=sumX cM0 ys l:=by
 rw [oU0 h,oU0 h'];exact iZ0 (fun o _=>by simp [hm])
theorem gA0 {xs:List Int} (h:xs.Pairwise (· < ·)):xs.Nodup:=h.imp (fun e=>by omega)
theorem jA0 {xs:List Int} (h:xs.Pairwise (· < ·)) {i j:Nat} (hij:i<j) (hj:j<xs.length):xs.getD i 0<xs.getD j 0:=by
 rw [List.getD_eq_getElem?_getD,List.getD_eq_getElem?_getD,List.getElem?_eq_getElem (by omega),List.getElem?_eq_getElem hj,Option.getD_some,Option.getD_some];exact List.pairwise_iff_getElem.1 h i j (by omega) hj hij
theorem yV0 {xs:List Int} {q:Int} (h:q∈xs):∃i,i<xs.length∧xs.getD i 0=q:=by
 obtain ⟨i,hi,e⟩:=List.mem_iff_getElem.1 h;exact ⟨i,hi,by simpa [hi] using e⟩
theorem kN1 {xs:List Int} {k:Nat} {q:Int}:q∈xs.drop k↔∃i,k≤i∧i<xs.length∧xs.getD i 0=q:=by
 rw [List.mem_iff_getElem];constructor
 ·rintro ⟨i,hi,e⟩;rw [List.length_drop] at hi;refine ⟨k+i,by omega,by omega,?_⟩;rw [List.getElem_drop] at e
  simpa [List.getD_eq_getElem?_getD,show k+i<xs.length by omega] using e
 ·rintro ⟨i,h1,h2,e⟩;refine ⟨i - k,by rw [List.length_drop];omega,?_⟩;rw [List.getElem_drop];simp only [show k+(i - k)=i by omega]
  simpa [List.getD_eq_getElem?_getD,h2] using e
theorem kO1 {xs:List Int} {k:Nat} {q:Int}:q∈xs.take k↔∃i,i<k∧i<xs.length∧xs.getD i 0=q:=by
 rw [List.mem_iff_getElem];constructor
 ·rintro ⟨i,hi,e⟩;rw [List.length_take] at hi;rw [List.getElem_take] at e;exact ⟨i,by omega,by omega,by simpa [List.getD_eq_getElem?_getD,show i<xs.length by omega] using e⟩
 ·rintro ⟨i,h1,h2,e⟩;refine ⟨i,by rw [List.length_take];omega,?_⟩;rw [List.getElem_take]
  simpa [List.getD_eq_getElem?_getD,h2] using e
theorem aX1 {xs:List Int} (h:xs.Pairwise (· < ·)) {k:Nat} (hk:k<xs.length) {q:Int} (hq:q∈xs):q∈xs.drop k↔xs.getD k 0≤q:=by
 rw [kN1];obtain ⟨i,hi,rfl⟩:=yV0 hq;constructor
 ·rintro ⟨j,h1,h2,e⟩;rw [←e];rcases Nat.lt_or_eq_of_le h1 with h3 | rfl
  ·exact Int.le_of_lt (jA0 h h3 h2)
  ·exact Int.le_refl _
 ·intro hle;refine ⟨i,?_,hi,rfl⟩
  by_cases hik:i<k
  ·have:=jA0 h hik hk;omega
  ·omega
theorem aY1 {xs:List Int} (h:xs.Pairwise (· < ·)) {k:Nat} (hk:k<xs.length) {q:Int} (hq:q∈xs):q∈xs.take (k+1)↔q≤xs.getD k 0:=by
 rw [kO1];obtain ⟨i,hi,rfl⟩:=yV0 hq;constructor
 ·rintro ⟨j,h1,h2,e⟩;rw [←e];rcases Nat.lt_or_eq_of_le (Nat.le_of_lt_succ h1) with h3 | rfl
  ·exact Int.le_of_lt (jA0 h h3 hk)
  ·exact Int.le_refl _
 ·intro hle;refine ⟨i,?_,hi,rfl⟩
  by_cases hik:k<i
  ·have:=jA0 h hik hi;omega
  ·omega
theorem rK1 {F:List Ord} {xs:List Int} {k:Nat} (hF:∀o∈F,okO o=true) (h:xs.Pairwise (· < ·)) (hm:∀o∈F,dP0 o=true→o.price∈xs) (hk:k<xs.length):
  sumQ mkBB F+sumX cM0 (xs.drop k) F=demO (xs.getD k 0) F:=by
 rw [oU0 ((gA0 h).sublist (List.drop_sublist ..)),rS0 (fun o _ h1=>by unfold mkBB at h1;rw [Bool.and_eq_true] at h1;simp [h1.1])];refine iZ0 (q':=iG0 (xs.getD k 0)) (fun o ho=>?_);have h1:=hF o ho;unfold mkBB iG0;rw [h1];cases hk2:(o.kind == 2) with
 | true=>simp
 | false=>
  have hn:dP0 o=true:=by unfold dP0;rw [h1,hk2];rfl
  have:=aX1 h hk (hm o ho hn);simp only [Bool.false_and,Bool.false_or,Bool.not_false,Bool.true_and]
  congr 1
  rw [Bool.eq_iff_iff,decide_eq_true_iff,decide_eq_true_iff];exact this
theorem rL1 {F:List Ord} {xs:List Int} {k:Nat} (hF:∀o∈F,okO o=true) (h:xs.Pairwise (· < ·)) (hm:∀o∈F,dP0 o=true→o.price∈xs) (hk:k<xs.length):
  sumQ mkSB F+sumX dF0 (xs.take (k+1)) F=supO (xs.getD k 0) F:=by
 rw [fK1 ((gA0 h).sublist (List.take_sublist ..)),rS0 (fun o _ h1=>by unfold mkSB at h1;rw [Bool.and_eq_true] at h1;simp [h1.1])];refine iZ0 (q':=eX0 (xs.getD k 0)) (fun o ho=>?_);have h1:=hF o ho;have h2:=(jP0 h1).1
 have hs:(o.side == 2)=!(o.side == 1):=by
  rw [Bool.eq_iff_iff];simp;omega
 unfold mkSB eX0;rw [h1,hs];cases hk2:(o.kind == 2) with
 | true=>simp
 | false=>
  have hn:dP0 o=true:=by unfold dP0;rw [h1,hk2];rfl
  have:=aY1 h hk (hm o ho hn);simp only [Bool.false_and,Bool.false_or,Bool.not_false,Bool.true_and]
  congr 1
  rw [Bool.eq_iff_iff,decide_eq_true_iff,decide_eq_true_iff];exact this
theorem mT1 (p:Int):∀l:List Ord,demO p (l.filter okO)=demO p l
 | []=>rfl
 | o::l=>by
  have e:demO p (o::l)=(if iG0 p o=true then o.qty else 0)+demO p l:=by simp [demO]
  have ih:=mT1 p l;rw [e]
  by_cases h:okO o=true
  ·rw [List.filter_cons,if_pos h];have e2:demO p (o::l.filter okO)=(if iG0 p o=true then o.qty else 0)+demO p (l.filter okO):=by simp [demO]
   rw [e2,ih]
  ·rw [List.filter_cons,if_neg h,ih];have:iG0 p o=false:=by unfold iG0;simp [h]
   rw [this];simp
theorem mU1 (p:Int):∀l:List Ord,supO p (l.filter okO)=supO p l
 | []=>rfl
 | o::l=>by
  have e:supO p (o::l)=(if eX0 p o=true then o.qty else 0)+supO p l:=by simp [supO]
  have ih:=mU1 p l;rw [e]
  by_cases h:okO o=true
  ·rw [List.filter_cons,if_pos h];have e2:supO p (o::l.filter okO)=(if eX0 p o=true then o.qty else 0)+supO p (l.filter okO):=by simp [supO]
   rw [e2,ih]
  ·rw [List.filter_cons,if_neg h,ih];have:eX0 p o=false:=by unfold eX0;simp [h]
   rw [this];simp
theorem fM1 (l:List Ord) (more:Int):aW0 (l.filter okO) more=aW0 l more:=by
 unfold aW0;rw [List.filter_filter]
 congr 2
 refine List.filter_congr (fun o _=>?_);unfold dP0;cases okO o <;> simp
def ptsX (xs:List Int) (l:List Ord):List Pt:=xs.map fun p=>⟨p,demO p l,supO p l⟩
theorem fN1 {xs:List Int} {k:Nat} (l:List Ord) (h:k<xs.length):ptsX (xs.take (k+1)) l=ptsX (xs.take k) l++[⟨xs.getD k 0,demO (xs.getD k 0) l,supO (xs.getD k 0) l⟩]:=by
 unfold ptsX;rw [List.take_succ_eq_append_getElem h,List.map_append,List.map_singleton];simp [h]
theorem aZ1 {l:List Ord} {more:Int} {xs:List Int} (h:xs.Pairwise (· < ·)) (hm:∀p,p∈xs↔p∈aW0 (l.filter okO) more):ptsX xs (l.filter okO)=aM0 l more:=by
 unfold ptsX aM0;rw [mE0 h (fun p=>by rw [hm,fM1])];refine List.map_congr_left (fun p _=>?_);rw [mT1,mU1]
theorem uN0 {xs:List Int} (h:xs.Nodup):(fO0 xs).Pairwise (· < ·):=by
 have h1:=cN0 xs;have h2:(fO0 xs).Nodup:=(List.mergeSort_perm xs _).nodup_iff.2 h;refine (h1.and h2).imp (fun ⟨a,b⟩=>by omega)
theorem Tryz.cu_keyInt:Maps.Keyed Tryz.prog 3:=Maps.int_keyed Tryz.underlying3
theorem Tryz.cu_keyIs {a:Int} (h:(Lit.int .i64 a).wf=true):keyOf Tryz.prog 3 (.int .i64 a)=some (.int .i64 a):=Maps.keyOf_int_mk Tryz.underlying3 h
theorem Tryz.zeroLots (w:World):(zeroValue 257).run Tryz.prog w=.ok (.agg #[.int .i64 0,.int .i64 0]) w:=by kernel_rfl
def lotR (v:Value):Option (DataW Unit×List MemPlace):=
 match v with
 | .agg ⟨[.int .i64 a,.int .i64 b]⟩=>some (.agg [.lit (.int .i64 a),.lit (.int .i64 b)],[])
 | _=>none
def lotE (a b:Int):DataW Unit:=.agg [.lit (.int .i64 a),.lit (.int .i64 b)]
theorem wR0 (a b:Int):lotR (.agg #[.int .i64 a,.int .i64 b])=some (lotE a b,[]):=rfl
theorem qP0 {v:Value} {y:DataW Unit×List MemPlace} (h:lotR v=some y):∃a b:Int,v=.agg #[.int .i64 a,.int .i64 b]∧y=(lotE a b,[]):=by
 unfold lotR at h;split at h
 ·rename_i a b;exact ⟨a,b,rfl,by simpa [lotE] using h.symm⟩
 ·cases h
theorem yW0 {a b a' b':Int} (h:lotE a b=lotE a' b'):a=a'∧b=b':=by simpa [lotE] using h
theorem kP1 {v:Value} {a b:Int} {ps:List MemPlace} (h:lotR v=some (lotE a b,ps)):v=.agg #[.int .i64 a,.int .i64 b]:=by
 obtain ⟨a',b',rfl,e⟩:=qP0 h;obtain ⟨rfl,rfl⟩:=yW0 (Prod.mk.injEq .. ▸ e:lotE a b=lotE a' b'∧ps=[]).1;rfl
def LotD (D:DataW Unit) (l:List Ord) (more:Int):Prop:=
 (∀p,D.atKey (.int .i64 p) (lotE 0 0)=lotE (sumQ (cM0 p) l) (sumQ (dF0 p) l))∧∀p,Maps.has D (.int .i64 p)=true↔p∈aW0 l more
theorem rU0 (a:Int):WideAt.IsKeyLit (Lit.int .i64 a):=trivial
theorem yX0 {a b:Int} (h:a≠b):(Lit.int .i64 a)≠Lit.int .i64 b:=fun e=>h (by injection e)
theorem LotD.start {more:Int} (h:¬0<more):LotD (.map []) [] more:=by
 refine ⟨fun p=>rfl,fun p=>?_⟩;rw [cF0];constructor
 ·intro e;cases e
 ·rintro (⟨h1,_⟩ | ⟨o,ho,_⟩)
  ·exact absurd h1 h
  ·cases ho
theorem LotD.more {more:Int} (h:0<more):LotD ((DataW.map []).put (.int .i64 more) (lotE 0 0)) [] more:=by
 refine ⟨fun p=>?_,fun p=>?_⟩
 ·by_cases e:p=more
  ·subst e;exact Maps.atKey_put_same ⟨_,rfl⟩ (rU0 _) _ _
  ·rw [Maps.atKey_put_other (yX0 e)];rfl
 ·rw [cF0]
  by_cases e:p=more
  ·subst e;rw [Maps.has_put_same ⟨_,rfl⟩ (rU0 _)];simp [h]
  ·rw [Maps.has_put_other (yX0 e)];constructor
   ·intro e';cases e'
   ·rintro (⟨_,h1⟩ | ⟨o,ho,_⟩)
    ·exact absurd h1 e
    ·cases ho
theorem hC0 (q:Ord→Bool) (l:List Ord) (o:Ord):sumQ q (l++[o])=sumQ q l+(if q o=true then o.qty else 0):=by
 unfold sumQ;rw [List.map_append,List.map_singleton,rL0]
theorem mH0 {l:List Ord} {more:Int} {o:Ord} {p:Int}:p∈aW0 (l++[o]) more↔(p∈aW0 l more∨(dP0 o=true∧o.price=p)):=by
 rw [cF0,cF0];constructor
 ·rintro (h | ⟨x,hx,h1,h2⟩)
  ·exact Or.inl (Or.inl h)
  ·rw [List.mem_append,List.mem_singleton] at hx;rcases hx with hx | rfl
   ·exact Or.inl (Or.inr ⟨x,hx,h1,h2⟩)
   ·exact Or.inr ⟨h1,h2⟩
 ·rintro ((h | ⟨x,hx,h1,h2⟩) | ⟨h1,h2⟩)
  ·exact Or.inl h
  ·exact Or.inr ⟨x,by simp [hx],h1,h2⟩
  ·exact Or.inr ⟨o,by simp,h1,h2⟩
theorem LotD.same {D:DataW Unit} {l:List Ord} {more:Int} {o:Ord} (h:LotD D l more) (hk:o.kind=2):LotD D (l++[o]) more:=by
 have hn:dP0 o=false:=by unfold dP0;simp [hk]
 refine ⟨fun p=>?_,fun p=>?_⟩
 ·have e1:cM0 p o=false:=by unfold cM0;simp [hk]
  have e2:dF0 p o=false:=by unfold dF0;simp [hk]
  rw [h.1 p,hC0,hC0,e1,e2];simp
 ·rw [h.2 p,mH0,hn];simp
theorem LotD.put {D:DataW Unit} {l:List Ord} {more:Int} {o:Ord} (h:LotD D l more) (hD:Maps.IsMap D) (hn:dP0 o=true):
  LotD (D.put (.int .i64 o.price) (lotE (sumQ (cM0 o.price) (l++[o])) (sumQ (dF0 o.price) (l++[o])))) (l++[o]) more:=by
 refine ⟨fun p=>?_,fun p=>?_⟩
 ·by_cases e:p=o.price
  ·subst e;exact Maps.atKey_put_same hD (rU0 _) _ _
  ·have e1:cM0 p o=false:=by unfold cM0;simp [Ne.symm e]
   have e2:dF0 p o=false:=by unfold dF0;simp [Ne.symm e]
   rw [Maps.atKey_put_other (yX0 e),h.1 p,hC0,hC0,e1,e2];simp
 ·rw [mH0]
  by_cases e:p=o.price
  ·subst e;rw [Maps.has_put_same hD (rU0 _)];simp [hn]
  ·rw [Maps.has_put_other (yX0 e),h.2 p];constructor
   ·exact Or.inl
   ·rintro (h1 | ⟨_,h1⟩)
    ·exact h1
    ·exact absurd h1.symm e
def bS0 (w:World) (B:Nat) (l:List Ord) (more:Int):Prop:=∃D,w.ownsMap Tryz.prog 3 lotR B (l.length+1) D∧Maps.IsMap D∧LotD D l more
theorem bS0.lt {w:World} {B:Nat} {l:List Ord} {more:Int} (h:bS0 w B l more):B<w.heap.size:=by
 obtain ⟨D,ho,_⟩:=h;exact ho.lt
theorem bS0.block {w w':World} {B:Nat} {l:List Ord} {more:Int} (h:bS0 w B l more) (hb:w'.heap[B]? = w.heap[B]?):bS0 w' B l more:=by
 obtain ⟨D,⟨es,clock,e1,e2,e3,e4⟩,h2⟩:=h;exact ⟨D,⟨es,clock,hb.trans e1,e2,e3,e4⟩,h2⟩
theorem bS0.below {w w':World} {B:Nat} {l:List Ord} {more:Int} (h:bS0 w B l more) (hb:Below w.heap.size w w'):bS0 w' B l more:=h.block (hb.block B h.lt)
theorem bS0.look {w:World} {B:Nat} {l:List Ord} {more:Int} (h:bS0 w B l more) {p:Int} (hp:(Lit.int .i64 p).wf=true):
  (Instr.lookup 258 (.map (some B)) (.int .i64 p) false).run Tryz.prog w=.ok (.agg #[.int .i64 (sumQ (cM0 p) l),.int .i64 (sumQ (dF0 p) l)]) w:=by
 obtain ⟨D,ho,hD,hL⟩:=h;obtain ⟨v,ps,hrun,hv⟩:=ho.lookup Tryz.cu_keyInt Tryz.underlying258 (Tryz.zeroLots w) (zd:=lotE 0 0) (zp:=[]) rfl (Tryz.cu_keyIs hp);rw [hL.1 p] at hv;rw [hrun,kP1 hv]
theorem bS0.store {w:World} {B:Nat} {l:List Ord} {more:Int} {o:Ord} (h:bS0 w B l more) (hn:dP0 o=true) (hp:(Lit.int .i64 o.price).wf=true) (hl:l.length≤1000):
  ∃w',(Instr.mapUpdate 258 (.map (some B)) (.int .i64 o.price) (.agg #[.int .i64 (sumQ (cM0 o.price) (l++[o])),.int .i64 (sumQ (dF0 o.price) (l++[o]))])).run Tryz.prog w=.ok () w'∧bS0 w' B (l++[o]) more∧w.grownBy w' (some B):=by
 obtain ⟨D,ho,hD,hL⟩:=h;obtain ⟨w',hr,ho',hg⟩:=ho.update Tryz.cu_keyInt Tryz.underlying258 (by unfold maxLen;omega) (Tryz.cu_keyIs hp) (wR0 _ _);refine ⟨w',hr,⟨_,?_,hD.put _ _,hL.put hD hn⟩,hg⟩;rw [List.length_append,List.length_singleton];exact ho'
theorem bS0.same {w:World} {B:Nat} {l:List Ord} {more:Int} {o:Ord} (h:bS0 w B l more) (hk:o.kind=2):bS0 w B (l++[o]) more:=by
 obtain ⟨D,ho,hD,hL⟩:=h;exact ⟨D,ho.mono (by simp),hD,hL.same hk⟩
def andB (o:Ord) (a:Int):Int:=if o.side=1 then a+o.qty else a
def andS (o:Ord) (b:Int):Int:=if o.side=1 then b else b+o.qty
set_option maxHeartbeats 1000000 in
theorem rM1 (a b:Int) (o:Ord) (w:World) (ha:-4000000000000000000≤a∧a≤4000000000000000000) (hb:-4000000000000000000≤b∧b≤4000000000000000000) (ho:-1000000≤o.qty∧o.qty≤1000000):
  Calls Tryz.prog 192 #[.agg #[.int .i64 a,.int .i64 b],.agg #[.int .i64 o.id,.int .i64 o.side,.int .i64 o.kind,.int .i64 o.price,.int .i64 o.qty]] w fun e w'=>e=.returned (.agg #[.int .i64 (andB o a),.int .i64 (andS o b)])∧Below w.heap.size w w':=by
 obtain ⟨ha1,ha2⟩:=ha;obtain ⟨hb1,hb2⟩:=hb;obtain ⟨ho1,ho2⟩:=ho
 by_cases hs:o.side=1
 ·have HA:Hid (andB o a=a+o.qty∧andS o b=b):=⟨if_pos hs,if_pos hs⟩;go_enter Tryz.func192,Tryz.ntmps192;go_wp2_with fail;go_returns;refine ⟨by rw [HA.out.1,HA.out.2],?_⟩;go_grown
 ·have HA:Hid (andB o a=a∧andS o b=b+o.qty):=⟨if_neg hs,if_neg hs⟩;go_enter Tryz.func192,Tryz.ntmps192;go_wp2_with fail;go_returns;refine ⟨by rw [HA.out.1,HA.out.2],?_⟩;go_grown
set_option maxHeartbeats 1000000 in
theorem kQ1 (o:Ord) (w:World):
  Calls Tryz.prog 191 #[.agg #[.int .i64 o.id,.int .i64 o.side,.int .i64 o.kind,.int .i64 o.price,.int .i64 o.qty]] w fun e w'=>e=.returned (.bool (okO o))∧Below w.heap.size w w':=by
 have HO:Hid (okO o=(((o.side == 1) || (o.side == 2))&& (decide (1≤o.qty)&& decide (o.qty≤1000000)))):=by
  show okO o=_;unfold okO
  congr 1
  rw [Bool.eq_iff_iff,vX0];simp;omega
 go_enter Tryz.func191,Tryz.ntmps191;go_wp2_with fail
 all_goals
  go_ret;refine ⟨?_,bL0 w _⟩;rw [HO.out]
  first | (simp [*];done) | (simp [*];omega)
theorem bA1 {q:Ord→Bool} {l:List Ord} {k:Nat} (h:k<l.length):(l.take (k+1)).filter q=if q (oAt l k)=true then (l.take k).filter q++[oAt l k] else (l.take k).filter q:=by
 rw [List.take_succ_eq_append_getElem h,List.filter_append,fS0 h]
 by_cases hq:q l[k]=true
 ·rw [if_pos hq];simp [hq]
 ·rw [if_neg hq];simp [hq]
theorem kR1 (a:List Ord) (x:Ord):oV (a++[x])=oV a++[.int .i64 x.id,.int .i64 x.side,.int .i64 x.kind,.int .i64 x.price,.int .i64 x.qty]:=by rw [gM0];rfl
theorem Tryz.infoOd:(Tryz.prog.info? 92).map (fun i=>(i.zero,i.size,i.bytes))=some (some (.agg #[.int .i64 0,.int .i64 0,.int .i64 0,.int .i64 0,.int .i64 0]),5,40):=by kernel_rfl
def wS0 (w:World) (b:Nat) (o:Ord):Prop:=w.heap[b]? = some (.cells #[.int .i64 o.id,.int .i64 o.side,.int .i64 o.kind,.int .i64 o.price,.int .i64 o.qty] 92 (0,0))
theorem wS0.below {w w':World} {b:Nat} {o:Ord} (h:wS0 w b o) (hb:Below w.heap.size w w'):wS0 w' b o:=fH0 h hb
set_option maxRecDepth 4000 in
set_option maxHeartbeats 4000000 in
theorem rN1 (a:Option Addr) (cap:Nat) (l:List Ord) (w:World) (h:bX0 w a l) (hl:l.length≤1000):
  Calls Tryz.prog 190 #[.slice a l.length cap,.func (.func 191) #[] #[]] w fun e w'=>∃v',e=.returned v'∧w'.ownsRow w.heap.size 92 5 v' (l.filter okO).length (oV (l.filter okO))∧Below w.heap.size w w':=by
 obtain ⟨iP,hiP,hP0,hP1,hP2⟩:=info_parts Tryz.infoOd;have HA:Hid (bX0 w a l):=h;clear h;go_enter Tryz.func190,Tryz.ntmps190;go_wp2_with fail;go_loopw [5,10] (fun v i wr=>∃k:Nat,k≤l.length∧i=.int .i64 k∧wr.ownsRow w.heap.size 92 5 v ((l.take k).filter okO).length (oV ((l.take k).filter okO))∧Below w.heap.size w wr) (fun _ i _=>l.length - (RowKit.intOf i).toNat)
 case atStart=>exact ⟨0,Nat.zero_le _,rfl,World.ownsRow_nil _ _ _ _,Below.refl _ _⟩
 case round=>
  obtain ⟨k,hk,rfl,hown,hb⟩:=hrel;have HW:Hid (wr.ownsRow w.heap.size 92 5 u5 ((l.take k).filter okO).length (oV ((l.take k).filter okO))):=hown;have HB:Hid (Below w.heap.size w wr):=hb
  have hbl:((l.take k).filter okO).length≤1000:=by
   have:=List.length_filter_le okO (l.take k);rw [List.length_take] at this;omega
  obtain ⟨vao,vcap,rfl,_,_⟩:=fN0 hown;clear hown
  by_cases hk1:k<l.length
  ·have hlt:(k:Int)<(l.length:Int):=by omega
   obtain ⟨b,off,rfl,d0,d1,d2,d3,d4⟩:=HA.out.below hb k hk1;have HT:Hid ((l.take (k+1)).filter okO=if okO (oAt l k)=true then (l.take k).filter okO++[oAt l k] else (l.take k).filter okO):=bA1 hk1;clear hb;generalize oAt l k=x at d0 d1 d2 d3 d4 HT;generalize (l.take k).filter okO=acc at HT HW hbl;go_wp2_with fail;have hX:wS0 (wr.alloc (.cells #[.int .i64 x.id,.int .i64 x.side,.int .i64 x.kind,.int .i64 x.price,.int .i64 x.qty] 92)) wr.heap.size x:=heap_alloc_new wr _;have hbA:=bL0 wr (.cells #[.int .i64 x.id,.int .i64 x.side,.int .i64 x.kind,.int .i64 x.price,.int .i64 x.qty] 92);generalize wr.alloc (.cells #[.int .i64 x.id,.int .i64 x.side,.int .i64 x.kind,.int .i64 x.price,.int .i64 x.qty] 92)=W at hX hbA ⊢;generalize wr.heap.size=xb at hX ⊢;refine (kQ1 x W).mono ?_;rintro e w4 ⟨rfl,hb4⟩;have hX4:=hX.below hb4;have HW4:Hid (w4.ownsRow w.heap.size 92 5 (.slice vao acc.length vcap) acc.length (oV acc)):=iS0 HW.out (aO0 hbA hb4) lR7;have HB4:Hid (Below w.heap.size w w4):=aO0 HB.out (aO0 hbA hb4);clear hX hbA hb4 HW HB d0 d1 d2 d3 d4;cases hq:okO x with
   | true=>
    have HT2:Hid ((l.take (k+1)).filter okO=acc++[x]):=by rw [HT.out,if_pos hq];rfl
    have y0:=aV0 (j:=0) hX4 rfl;have y1:=aV0 (j:=1) hX4 rfl;have y2:=aV0 (j:=2) hX4 rfl;have y3:=aV0 (j:=3) hX4 rfl;have y4:=aV0 (j:=4) hX4 rfl;clear HT hq hX4;go_wp2_with (at_builtin;refine wpList_append_own_at _ rfl _ _ 99 rfl w.heap.size 92 iP (.agg #[.int .i64 0,.int .i64 0,.int .i64 0,.int .i64 0,.int .i64 0]) 5 40 Tryz.underlying99 hiP hP0 hP1 hP2 rfl (by decide) _ acc.length (oV acc) rfl (HW4.out.alloc _) ⟨w4.heap.size,0,none⟩ 1 1 [.int .i64 x.id,.int .i64 x.side,.int .i64 x.kind,.int .i64 x.price,.int .i64 x.qty] rfl rfl (World.news_of_block (cs:=#[.int .i64 x.id,.int .i64 x.side,.int .i64 x.kind,.int .i64 x.price,.int .i64 x.qty]) (t:=92) (fr:=(0,0)) (heap_alloc_new w4 _)) (by simp [Value.oneCell']) (by unfold maxLen;omega) (by omega) (by have:=HB4.out.size;simp;omega) ?_;intro v' w6 hown6 hgrow6 _ _);go_roundw
    case rel=>
     refine ⟨k+1,hk1,by go_num,?_,(HB4.out.alloc HB4.out.size _).grown hgrow6 (by have:=HB4.out.size;simp;omega) (fun q hq=>(HW4.out.lt q hq).1)⟩;rw [HT2.out,kR1,List.length_append,List.length_singleton];exact hown6
    case measure=>simp [RowKit.intOf];omega
   | false=>
    have HT2:Hid ((l.take (k+1)).filter okO=acc):=by rw [HT.out,if_neg (by rw [hq];decide)];rfl
    clear HT hq hX4;go_wp2_with fail;go_roundw
    case rel=>exact ⟨k+1,hk1,by go_num,by rw [HT2.out];exact HW4.out,HB4.out⟩
    case measure=>simp [RowKit.intOf];omega
  ·obtain rfl:k=l.length:=by omega
   rw [List.take_length] at HW hbl ⊢;clear hb;go_wp2_with fail;go_ret;exact ⟨_,rfl,HW.out,HB.out⟩
end Go.Proofs.YtaelphbianmckaaGreatDoor
namespace Go.Proofs.YtaelphbianmckaaGreatDoor
open Go.Shelf
def lays189_ren:Go.Shelf.Ren:=⟨fun | 189=>259 | 125=>284 | 257=>283 | 128=>304 | 129=>207 | 294=>295 | 295=>296 | 296=>297 | 297=>298 | 298=>299 | 299=>300 | 216=>301 | 300=>302 | 301=>303 | 328=>306 | 329=>307 | 330=>308 | 331=>309 | 332=>310 | 215=>311 | 343=>313 | n=>n,fun | 28=>59 | 0=>0 | 3=>3 | 46=>188 | 51=>203 | 53=>185 | 4=>4 | 183=>367 | 182=>366 | 131=>58 | 5=>5 | 9=>9 | 218=>372 | 222=>376 | 228=>379 | 229=>123 | n=>n,fun | n=>n⟩
theorem fO1:Go.Proofs.Lays.n189 Tryz.prog lays189_ren:={
 mixed:=by kernel_rfl
 f125:=Tryz.func284.trans (congrArg some (by kernel_rfl))
 f128:=Tryz.func304.trans (congrArg some (by kernel_rfl))
 f129:=Tryz.func207.trans (congrArg some (by kernel_rfl))
 f189:=Tryz.func259.trans (congrArg some (by kernel_rfl))
 f215:=Tryz.func311.trans (congrArg some (by kernel_rfl))
 f216:=Tryz.func301.trans (congrArg some (by kernel_rfl))
 f257:=Tryz.func283.trans (congrArg some (by kernel_rfl))
 f294:=Tryz.func295.trans (congrArg some (by kernel_rfl))
 f295:=Tryz.func296.trans (congrArg some (by kernel_rfl))
 f296:=Tryz.func297.trans (congrArg some (by kernel_rfl))
 f297:=Tryz.func298.trans (congrArg some (by kernel_rfl))
 f298:=Tryz.func299.trans (congrArg some (by kernel_rfl))
 f299:=Tryz.func300.trans (congrArg some (by kernel_rfl))
 f300:=Tryz.func302.trans (congrArg some (by kernel_rfl))
 f301:=Tryz.func303.trans (congrArg some (by kernel_rfl))
 f328:=Tryz.func306.trans (congrArg some (by kernel_rfl))
 f329:=Tryz.func307.trans (congrArg some (by kernel_rfl))
 f330:=Tryz.func308.trans (congrArg some (by kernel_rfl))
 f331:=Tryz.func309.trans (congrArg some (by kernel_rfl))
 f332:=Tryz.func310.trans (congrArg some (by kernel_rfl))
 f343:=Tryz.func313.trans (congrArg some (by kernel_rfl))
 t0:=Tryz.underlying0
 a0:=Tryz.isAgg0
 z0:=Tryz.sizeOf0
 v0:=Tryz.zeroValue0
 t3:=Tryz.underlying3
 a3:=Tryz.isAgg3
 z3:=Tryz.sizeOf3
 v3:=Tryz.zeroValue3
 t4:=Tryz.underlying4
 a4:=Tryz.isAgg4
 z4:=Tryz.sizeOf4
 v4:=Tryz.zeroValue4
 t5:=Tryz.underlying5
 a5:=Tryz.isAgg5
 z5:=Tryz.sizeOf5
 v5:=Tryz.zeroValue5
 t9:=Tryz.underlying9
 a9:=Tryz.isAgg9
 z9:=Tryz.sizeOf9
 v9:=Tryz.zeroValue9
 t28:=Tryz.underlying59
 a28:=Tryz.isAgg59
 z28:=Tryz.sizeOf59
 v28:=Tryz.zeroValue59
 t46:=Tryz.underlying188
 a46:=Tryz.isAgg188
 z46:=Tryz.sizeOf188
 v46:=Tryz.zeroValue188
 t51:=Tryz.underlying203
 a51:=Tryz.isAgg203
 z51:=Tryz.sizeOf203
 v51:=Tryz.zeroValue203
 t53:=Tryz.underlying185
 a53:=Tryz.isAgg185
 z53:=Tryz.sizeOf185
 v53:=Tryz.zeroValue185
 t131:=Tryz.underlying58
 a131:=Tryz.isAgg58
 z131:=Tryz.sizeOf58
 v131:=Tryz.zeroValue58
 t182:=Tryz.underlying366
 a182:=Tryz.isAgg366
 z182:=Tryz.sizeOf366
 v182:=Tryz.zeroValue366
 t183:=Tryz.underlying367
 a183:=Tryz.isAgg367
 z183:=Tryz.sizeOf367
 v183:=Tryz.zeroValue367
 t218:=Tryz.underlying372
 a218:=Tryz.isAgg372
 z218:=Tryz.sizeOf372
 v218:=Tryz.zeroValue372
 t222:=Tryz.underlying376
 a222:=Tryz.isAgg376
 z222:=Tryz.sizeOf376
 v222:=Tryz.zeroValue376
 t228:=Tryz.underlying379
 a228:=Tryz.isAgg379
 z228:=Tryz.sizeOf379
 v228:=Tryz.zeroValue379
 t229:=Tryz.underlying123
 a229:=Tryz.isAgg123
 z229:=Tryz.sizeOf123
 v229:=Tryz.zeroValue123 }
end Go.Proofs.YtaelphbianmckaaGreatDoor
namespace Go.Proofs.YtaelphbianmckaaGreatDoor
open Go.RowKit Go.Maps Go.Sort Go.Shelf
def laysK_ren:Go.Shelf.Ren:=⟨fun | 7=>252 | 10=>282 | n=>n,fun | 23=>258 | 26=>3 | 3=>257 | 28=>318 | 0=>0 | 27=>317 | 33=>76 | 4=>4 | n=>n,fun n=>n⟩
theorem rO1:Go.Proofs.SlLaysZI.n7 Tryz.prog laysK_ren:={
 mixed:=by kernel_rfl
 f7:=⟨Tryz.f252.name,by kernel_rfl,Tryz.func252.trans (congrArg some (by kernel_rfl))⟩
 f10:=⟨Tryz.f282.name,by kernel_rfl,Tryz.func282.trans (congrArg some (by kernel_rfl))⟩
 t0:=Tryz.underlying0
 a0:=Tryz.isAgg0
 z0:=Tryz.sizeOf0
 v0:=Tryz.zeroValue0
 t4:=Tryz.underlying4
 a4:=Tryz.isAgg4
 z4:=Tryz.sizeOf4
 v4:=Tryz.zeroValue4
 t23:=Tryz.underlying258
 a23:=Tryz.isAgg258
 z23:=Tryz.sizeOf258
 v23:=Tryz.zeroValue258
 t26:=Tryz.underlying3
 a26:=Tryz.isAgg3
 z26:=Tryz.sizeOf3
 v26:=Tryz.zeroValue3
 t27:=Tryz.underlying317
 a27:=Tryz.isAgg317
 z27:=Tryz.sizeOf317
 v27:=Tryz.zeroValue317
 t28:=Tryz.underlying318
 a28:=Tryz.isAgg318
 z28:=Tryz.sizeOf318
 v28:=Tryz.zeroValue318
 t33:=Tryz.underlying76
 a33:=Tryz.isAgg76
 z33:=Tryz.sizeOf76
 v33:=Tryz.zeroValue76 }
def laysS_ren:Go.Shelf.Ren:=⟨fun | 6=>251 | 8=>281 | 9=>259 | 11=>294 | n=>n,fun | 26=>3 | 28=>318 | 24=>59 | 0=>0 | 3=>3 | 33=>76 | 4=>4 | n=>n,fun n=>n⟩
theorem tK1:Go.Proofs.SlLaysZI.n6 Tryz.prog laysS_ren:={
 mixed:=by kernel_rfl
 f6:=⟨Tryz.f251.name,by kernel_rfl,Tryz.func251.trans (congrArg some (by kernel_rfl))⟩
 f8:=⟨Tryz.f281.name,by kernel_rfl,Tryz.func281.trans (congrArg some (by kernel_rfl))⟩
 f11:=⟨Tryz.f294.name,by kernel_rfl,Tryz.func294.trans (congrArg some (by kernel_rfl))⟩
 t0:=Tryz.underlying0
 a0:=Tryz.isAgg0
 z0:=Tryz.sizeOf0
 v0:=Tryz.zeroValue0
 t24:=Tryz.underlying59
 a24:=Tryz.isAgg59
 z24:=Tryz.sizeOf59
 v24:=Tryz.zeroValue59
 t26:=Tryz.underlying3
 a26:=Tryz.isAgg3
 z26:=Tryz.sizeOf3
 v26:=Tryz.zeroValue3
 t28:=Tryz.underlying318
 a28:=Tryz.isAgg318
 z28:=Tryz.sizeOf318
 v28:=Tryz.zeroValue318
 i26:=by kernel_rfl }
theorem rP1 (m:Nat):AnyZI.SortsIn Tryz.prog laysS_ren Fence.wide m:=
 ⟨fun blk off cap ss W hH hblk hsz=>callsIn_wide.2 (Any.slices_Sort_int { fO1 with } blk off cap ss W hH hblk hsz),
  fun p cap W=>callsIn_wide.2 (Any.slices_Sort_int_none { fO1 with } p cap W)⟩
theorem kS1 (mb:Option Nat) (W:World):Calls Tryz.prog 252 #[.map mb] W fun e w'=>e=.returned (.func (.func 282) #[] #[.pointer (some ⟨W.heap.size,0,none⟩)])∧w'=W.alloc (.cells #[.map mb] 258):=
 (callsIn_wide (n:=5)).1 (AnyZI.keys_in rO1 Fence.wide 5 trivial rfl mb W)
theorem bB1 {R:Value→Option (DataW Unit×List MemPlace)} (b nn:Nat) (D0:DataW Unit) (w:World) (hown:w.ownsMap Tryz.prog 3 R b nn D0) (hmax:Maps.size D0≤100000):
  Calls Tryz.prog 251 #[.func (.func 282) #[] #[.pointer (some ⟨w.heap.size,0,none⟩)]] (w.alloc (.cells #[.map (some b)] 258)) fun e w'=>∃(v:Value) (ss:List Int),e=.returned v∧ss.Perm (intKeys D0)∧
   w'.ownsRow (w.alloc (.cells #[.map (some b)] 258)).heap.size 3 1 v ss.length ((ss.mergeSort (fun x y=>decide (x≤y))).map encZ)∧(v=.slice none 0 0↔ss=[])∧Below (w.alloc (.cells #[.map (some b)] 258)).heap.size (w.alloc (.cells #[.map (some b)] 258)) w':=by
 have hbl:=hown.lt
 have hseq:SeqGives Fence.wide 2 Tryz.prog 282 #[.pointer (some ⟨w.heap.size,0,none⟩)] encZ (fun ss=>ss.Perm (intKeys D0)) (Maps.size D0) (w.alloc (.cells #[.map (some b)] 258)):=
  AnyZI.keys_gives (ρ:=laysK_ren) { rO1 with } Fence.wide _ trivial rfl (by omega) w.heap.size b nn D0 _ (by simp) (by simp) (by
   obtain ⟨es,clock,hb,Ft,hs,hD⟩:=hown;exact ⟨es,clock,(Below.heap_alloc _ _ b hbl).trans hb,Ft,hs,hD⟩)
 have cS:=AnyZI.sorted_in tK1 Fence.wide 5 trivial trivial trivial trivial rfl (by omega) (rP1 _) (enters_of Tryz.func259 (by kernel_rfl) rfl) 282 #[.pointer (some ⟨w.heap.size,0,none⟩)] trivial (enters_of Tryz.func282 (by kernel_rfl) rfl) _ _ (by unfold maxLen;omega) (by omega) _ hseq;exact (callsIn_wide (n:=5)).1 cS
end Go.Proofs.YtaelphbianmckaaGreatDoor
namespace Go.Proofs.YtaelphbianmckaaGreatDoor
open Go.RowKit
theorem Tryz.infoCq:(Tryz.prog.info? 252).map (fun i=>(i.zero,i.size,i.bytes))=some (some (.agg #[.int .i64 0,.int .i64 0,.int .i64 0]),3,24):=by kernel_rfl
theorem oZ1 {D:DataW Unit} {F:List Ord} {more:Int} (h:LotD D F more) {kl:Lit} {x:Int} (hk:kl=.int .i64 x) {c:Int×Int} {y:DataW Unit×List MemPlace} (hv:lotR (.agg #[.int .i64 c.1,.int .i64 c.2])=some y) (hat:∀zd,D.atKey kl zd=y.1):c.1=sumQ (cM0 x) F∧c.2=sumQ (dF0 x) F:=by
 subst hk;have h1:=h.1 x;rw [hat] at h1;rw [wR0] at hv;cases hv;exact yW0 h1
theorem uO0 {D:DataW Unit} {F:List Ord} {more:Int} (h:LotD D F more) {left:Lit→Bool} {ss:List Int} (hC:CollectedI D left ss) (hl:∀kl,left kl=false):ss.Nodup∧∀p,p∈ss↔p∈aW0 F more:=
 ⟨hC.1,fun p=>by rw [hC.2 p,h.2 p,hl];simp⟩
theorem bC1 {D:DataW Unit} {F:List Ord} {more:Int} (h:LotD D F more) {left:Lit→Bool} {ss:List Int} (hC:CollectedI D left ss) (hl:∀kl,left kl=false) {w:World} {B n:Nat} (ho:w.ownsMap Tryz.prog 3 lotR B n D) {tt:List Int} (hp:tt.Perm (intKeys D)):(fO0 tt).Pairwise (· < ·)∧(∀p,p∈fO0 tt↔p∈aW0 F more)∧∀p∈fO0 tt,(Lit.int .i64 p).wf=true:=by
 have h1:=hC.perm ho Tryz.cu_keyInt Tryz.underlying3 hl;have h2:tt.Nodup:=(hp.trans h1.symm).nodup_iff.2 hC.1;refine ⟨uN0 h2,fun p=>?_,fun p hp'=>?_⟩
 ·rw [fX0,(hp.trans h1.symm).mem_iff];exact (uO0 h hC hl).2 p
 ·rw [fX0,hp.mem_iff] at hp';exact intKeys_wf ho Tryz.underlying3 p hp'
theorem fld0 (a b:Int) (W:World):(Instr.field 257 (.agg #[.int .i64 a,.int .i64 b]) 0).run Tryz.prog W=.ok (.int .i64 a) W:=by kernel_rfl
theorem fld1 (a b:Int) (W:World):(Instr.field 257 (.agg #[.int .i64 a,.int .i64 b]) 1).run Tryz.prog W=.ok (.int .i64 b) W:=by kernel_rfl
theorem uP0 {w w':World} {base:Nat} {e:TypeId} {size:Nat} {v:Value} {n:Nat} {xs:List Value} {row:Option Nat} (h:w.ownsRow base e size v n xs) (hg:w.grownBy w' row) (hne:∀k,v.ownBlock=some k→row≠some k):w'.ownsRow base e size v n xs:=by
 refine ⟨h.1,h.2.imp id (fun ⟨g,cap,cur,e1,hb,hh,r⟩=>⟨g,cap,cur,e1,hb,(hg.block g (lt_of_block hh) (fun e2=>hne g (by rw [e1];rfl) e2.symm)).trans hh,r⟩)⟩
theorem fP1 {w:World} {base base':Nat} {e e':TypeId} {size size':Nat} {v v':Value} {n n':Nat} {xs xs':List Value} (h:w.ownsRow base e size v n xs) (h':w.ownsRow base' e' size' v' n' xs') (ht:e≠e'):∀k,v.ownBlock=some k→v'.ownBlock≠some k:=fun k hv hv'=>by
 rcases h.2 with ⟨rfl,_⟩ | ⟨g,cap,cur,rfl,_,hh,_⟩
 ·simp [Value.ownBlock] at hv
 ·rcases h'.2 with ⟨rfl,_⟩ | ⟨g',cap',cur',rfl,_,hh',_⟩
  ·simp [Value.ownBlock] at hv'
  ·simp [Value.ownBlock] at hv hv';subst hv;subst hv';rw [hh] at hh';simp at hh';exact ht hh'.2
set_option maxRecDepth 4000 in
set_option maxHeartbeats 4000000 in
theorem kT1 (B:Nat) (F:List Ord) (more:Int) (w:World) (hL:bS0 w B F more) (hF:∀o∈F,okO o=true) (hl:F.length≤1000):
  Calls Tryz.prog 193 #[.map (some B),.agg #[.int .i64 (sumQ mkBB F),.int .i64 (sumQ mkSB F)]] w fun e w'=>∃(v':Value) (xs:List Int),e=.returned v'∧xs.Pairwise (· < ·)∧(∀p,p∈xs↔p∈aW0 F more)∧w'.ownsRow w.heap.size 252 3 v' (ptsX xs F).length (ptV (ptsX xs F))∧Below w.heap.size w w':=by
 obtain ⟨iP,hiP,hP0,hP1,hP2⟩:=info_parts Tryz.infoCq;have HL:Hid (bS0 w B F more):=hL;have HF:Hid (∀o∈F,okO o=true):=hF;obtain ⟨D,ho,hD,hLD⟩:=hL;have HO:Hid (w.ownsMap Tryz.prog 3 lotR B (F.length+1) D):=ho;have HD:Hid (LotD D F more):=hLD;have hsz:=ho.size_le;have hmB:=bV0 (q:=mkBB) hF hl;have hmS:=bV0 (q:=mkSB) hF hl;clear ho hD hLD hF;go_enter Tryz.func193,Tryz.ntmps193;go_wp2_with fail;go_quiet (fail);have hbW:Below w.heap.size w ((w.alloc (.cells #[.int .i64 (sumQ mkBB F),.int .i64 (sumQ mkSB F)] 257)).drewN nq):=below_drewN (bL0 w _) _;have HBW:Hid (Below w.heap.size w ((w.alloc (.cells #[.int .i64 (sumQ mkBB F),.int .i64 (sumQ mkSB F)] 257)).drewN nq)):=hbW
 have HOW:Hid (((w.alloc (.cells #[.int .i64 (sumQ mkBB F),.int .i64 (sumQ mkSB F)] 257)).drewN nq).ownsMap Tryz.prog 3 lotR B (F.length+1) D):=by
  obtain ⟨es,clock,e1,e2,e3,e4⟩:=HO.out;exact ⟨es,clock,(hbW.block B HO.out.lt).trans e1,e2,e3,e4⟩
 clear hbW;generalize (w.alloc (.cells #[.int .i64 (sumQ mkBB F),.int .i64 (sumQ mkSB F)] 257)).drewN nq=W at HBW HOW ⊢;have hM:sumQ mkBB F=sumQ mkBB F+sumX cM0 [] F:=by rw [yU0];omega
 have HM:Hid (sumQ mkBB F+sumX cM0 [] F=sumQ mkBB F):=hM.symm;clear hM;go_wp2_with (first | (at_range;refine wpList_range_own _ rfl _ 258 rfl 3 257 Tryz.cu_keyInt Tryz.underlying258 _ B (F.length+1) _ rfl HOW.out ?_;intro w0 hrg0 hg0 hs0) | go_in);go_frame;have HRG:Hid (w0.ranges Tryz.prog 3 lotR B W.heap.size (F.length+1) D (Maps.has D) (Maps.size D)):=hrg0;have HB0:Hid (Below w.heap.size w w0):=HBW.out.grown hg0 HBW.out.size (fun q hq=>by cases hq);clear hrg0 hg0 hs0;go_loopw [5] (fun v wr=>∃(left:Lit→Bool) (cnt:Nat) (ss:List Int),v=.int .i64 (sumQ mkBB F+sumX cM0 ss F)∧wr.ranges Tryz.prog 3 lotR B W.heap.size (F.length+1) D left cnt∧CollectedI D left ss∧Below w.heap.size w wr) (fun _ wr=>wr.rangeLeft B W.heap.size)
 case atStart=>exact ⟨_,_,[],by rw [HM.out],HRG.out,CollectedI.start D,HB0.out⟩
 case round=>
  obtain ⟨left,cnt,ss,rfl,hrg,hC,hb⟩:=hrel;have HRW:Hid (wr.ranges Tryz.prog 3 lotR B W.heap.size (F.length+1) D left cnt):=hrg;have HC:Hid (CollectedI D left ss):=hC;have HB:Hid (Below w.heap.size w wr):=hb;have hbs:0≤sumX cM0 ss F∧sumX cM0 ss F≤1000000000:=by rw [oU0 hC.1];exact bV0 HF.out hl
  clear hrg hC hb HRG HB0 HM;go_wp2_with (first | (at_next;refine wpList_next_ranges _ rfl _ rfl 3 Tryz.cu_keyInt lotR (Value.int .i64) (fun c:Int×Int=>.agg #[.int .i64 c.1,.int .i64 c.2]) (fun key kl hk=>by obtain ⟨x,hx,_⟩:=Maps.keyOf_i64 Tryz.underlying3 hk;exact ⟨x,hx⟩) (fun v y hv=>by obtain ⟨a,b,hx,_⟩:=qP0 hv;exact ⟨(a,b),hx⟩) B W.heap.size (F.length+1) _ _ _ rfl HRW.out ?_ ?_) | go_in)
  ·intro hc0 hl0;have HOr:Hid (wr.ownsMap Tryz.prog 3 lotR B (F.length+1) D):=HRW.out.owns;have HPR:Hid (ss.Nodup∧∀p,p∈ss↔p∈aW0 F more):=uO0 HD.out HC.out hl0;have HNP:Hid (∀{W3:World},W3.ownsMap Tryz.prog 3 lotR B (F.length+1) D→∀{tt:List Int},tt.Perm (intKeys D)→(fO0 tt).Pairwise (· < ·)∧(∀p,p∈fO0 tt↔p∈aW0 F more)∧∀p∈fO0 tt,(Lit.int .i64 p).wf=true):=fun hW3 _ hp=>bC1 HD.out HC.out hl0 hW3 hp
   clear hc0 hl0 HRW HC;go_wp2_with (first | (at_len;refine wpList_len_own _ rfl _ 258 rfl 3 257 Tryz.underlying258 _ B (F.length+1) D rfl HOr.out ?_) | (at_make;refine wpList_make_own _ rfl _ _ 175 rfl wr.heap.size 252 iP (.agg #[.int .i64 0,.int .i64 0,.int .i64 0]) 3 Tryz.underlying175 hiP hP0 hP1 _ _ _ (Maps.size D) rfl rfl rfl (by rw [hP2];omega) (by unfold maxLen;omega) lR7 ?_;intro w3 hown3 hg3));refine (kS1 (some B) w3).mono ?_;rintro e w4 ⟨rfl,hw4⟩;subst hw4;have HB3:Hid (Below w.heap.size w w3):=HB.out.grown hg3 HB.out.size (fun q hq=>by cases hq);have HO3:Hid (w3.ownsMap Tryz.prog 3 lotR B (F.length+1) D):=HOr.out.kept hg3 (by simp);have HW3:Hid (w3.ownsRow w.heap.size 252 3 (.slice (some ⟨wr.heap.size,0,none⟩) 0 (Maps.size D)) 0 []):=cB0 hown3 HB.out.size;clear hown3 hg3 HOr;go_wp2_with fail;refine (bB1 B (F.length+1) D w3 HO3.out (by omega)).mono ?_;rintro e w5 ⟨v5,tt,rfl,hp,hrow,_,hb5⟩;obtain ⟨hx1,hx2,hx3⟩:=HNP.out HO3.out hp;have hb35:Below w3.heap.size w3 w5:=aO0 (bL0 w3 _) hb5;have HB5:Hid (Below w.heap.size w w5):=aO0 HB3.out hb35;have HW5:Hid (w5.ownsRow w.heap.size 252 3 (.slice (some ⟨wr.heap.size,0,none⟩) 0 (Maps.size D)) 0 []):=iS0 HW3.out hb35 lR7
   have HI5:Hid (w5.ownsRow w.heap.size 3 1 v5 (fO0 tt).length (ints (fO0 tt))):=by
    rw [iH0];exact cB0 hrow (Nat.le_trans HB3.out.size (bL0 w3 _).size)
   have hxl:(fO0 tt).length≤1001:=by
    rw [iH0,hp.length_eq];have:=hsz;obtain ⟨es,rfl,_⟩:=HO3.out.keysOf;simp only [intKeys,List.length_map];rw [Maps.size_eq] at this;omega
   have HXR:Hid ((fO0 tt).Pairwise (· < ·)):=hx1;have HXM:Hid (∀p,p∈fO0 tt↔p∈aW0 F more):=hx2;have HXW:Hid (∀p∈fO0 tt,(Lit.int .i64 p).wf=true):=hx3;clear hp hrow hb5 hb35 hx1 hx2 hx3 HNP HO3 HB3 HW3 HB;generalize fO0 tt=xs at HI5 hxl HXR HXM HXW;have HSM:Hid (sumX cM0 ss F=sumX cM0 (xs.drop 0) F):=fL1 HPR.out.1 (gA0 HXR.out) (fun p=>by rw [HPR.out.2,HXM.out]) F;have HNM:Hid (∀o∈F,dP0 o=true→o.price∈xs):=fun o ho hn=>(HXM.out _).2 (cF0.2 (Or.inr ⟨o,ho,hn,rfl⟩))
   rw [HSM.out];have hS0:sumQ mkSB F=sumQ mkSB F+sumX dF0 (xs.take 0) F:=by rw [List.take_zero,yU0];omega
   have HS0:Hid (sumQ mkSB F=sumQ mkSB F+sumX dF0 (xs.take 0) F):=hS0;clear HSM HPR hS0 hbs;obtain ⟨ai,ci,rfl,_,_⟩:=fN0 HI5.out;go_wp2_with fail;go_loopw [5,6,9,11,33] (fun d s o _ i w6=>∃k:Nat,k≤xs.length∧i=.int .i64 k∧d=.int .i64 (sumQ mkBB F+sumX cM0 (xs.drop k) F)∧s=.int .i64 (sumQ mkSB F+sumX dF0 (xs.take k) F)∧w6.ownsRow w.heap.size 252 3 o (ptsX (xs.take k) F).length (ptV (ptsX (xs.take k) F))∧w6.ownsRow w.heap.size 3 1 (.slice ai xs.length ci) xs.length (ints xs)∧Below w.heap.size w w6) (fun _ _ _ _ i _=>xs.length - (RowKit.intOf i).toNat)
   case atStart=>exact ⟨0,Nat.zero_le _,rfl,rfl,by rw [←HS0.out],HW5.out,HI5.out,HB5.out⟩
   case round=>
    obtain ⟨k,hk,rfl,rfl,rfl,ho,hi,hb⟩:=hrel;have HW:Hid (wr.ownsRow w.heap.size 252 3 u9 (ptsX (xs.take k) F).length (ptV (ptsX (xs.take k) F))):=ho;have HI:Hid (wr.ownsRow w.heap.size 3 1 (.slice ai xs.length ci) xs.length (ints xs)):=hi;have HB:Hid (Below w.heap.size w wr):=hb
    have hpl:(ptsX (xs.take k) F).length≤1001:=by
     unfold ptsX;rw [List.length_map,List.length_take];omega
    obtain ⟨oao,ocap,rfl,_,_⟩:=fN0 ho;clear HW5 HI5 HB5 HS0 ho
    by_cases hk1:k<xs.length
    ·have hlt:(k:Int)<(xs.length:Int):=by omega
     obtain ⟨g,cap',hv,_,_⟩:=hi.form (by omega);simp only [Value.slice.injEq,true_and] at hv;obtain ⟨rfl,rfl⟩:=hv;have c0:wr.cell? ⟨g,k,none⟩=some (.int .i64 (xs.getD k 0)):=(hi.cellAt k (by omega)).trans (oM1 hk1)
     have hmem:xs.getD k 0∈xs:=by
      rw [List.getD_eq_getElem?_getD,List.getElem?_eq_getElem hk1];exact List.getElem_mem hk1
     have HWP:Hid ((Lit.int .i64 (xs.getD k 0)).wf=true):=HXW.out _ hmem;have HST:Hid (sumX dF0 (xs.take (k+1)) F=sumX dF0 (xs.take k) F+sumQ (dF0 (xs.getD k 0)) F):=fJ1 F hk1;have HDT:Hid (sumX cM0 (xs.drop k) F=sumQ (cM0 (xs.getD k 0)) F+sumX cM0 (xs.drop (k+1)) F):=fI1 F hk1
     have HPT:Hid (ptsX (xs.take (k+1)) F=ptsX (xs.take k) F++[⟨xs.getD k 0,sumQ mkBB F+sumX cM0 (xs.drop k) F,sumQ mkSB F+sumX dF0 (xs.take k) F+sumQ (dF0 (xs.getD k 0)) F⟩]):=by
      rw [fN1 F hk1,rK1 HF.out HXR.out HNM.out hk1,←rL1 HF.out HXR.out HNM.out hk1,HST.out,Int.add_assoc];rfl
     have hlk:=(HL.out.below hb).look HWP.out;have hq1:=bV0 (q:=cM0 (xs.getD k 0)) HF.out hl;have hq2:=bV0 (q:=dF0 (xs.getD k 0)) HF.out hl
     have hq3:0≤sumX cM0 (xs.drop k) F∧sumX cM0 (xs.drop k) F≤1000000000:=by
      rw [oU0 ((gA0 HXR.out).sublist (List.drop_sublist ..))];exact bV0 HF.out hl
     have hq4:0≤sumX dF0 (xs.take k) F∧sumX dF0 (xs.take k) F≤1000000000:=by
      rw [fK1 ((gA0 HXR.out).sublist (List.take_sublist ..))];exact bV0 HF.out hl
     clear hb hi hmem;generalize xs.getD k 0=p at c0 HWP HST HDT HPT hlk hq1 hq2;generalize hDK:sumX cM0 (xs.drop k) F=dk at HDT HPT hq3 ⊢;generalize hSK:sumX dF0 (xs.take k) F=sk at HST HPT hq4 ⊢;generalize ptsX (xs.take k) F=acc at HPT HW hpl ⊢;clear hDK hSK;have hf0:=fld0;have hf1:=fld1;go_wp2_with (at_builtin;refine wpList_append_own_at _ rfl _ _ 175 rfl w.heap.size 252 iP (.agg #[.int .i64 0,.int .i64 0,.int .i64 0]) 3 24 Tryz.underlying175 hiP hP0 hP1 hP2 rfl (by decide) _ acc.length (ptV acc) rfl (HW.out.alloc _) ⟨wr.heap.size,0,none⟩ 1 1 [.int .i64 p,.int .i64 (sumQ mkBB F+dk),.int .i64 (sumQ mkSB F+sk+sumQ (dF0 p) F)] rfl rfl (World.news_of_block (cs:=#[.int .i64 p,.int .i64 (sumQ mkBB F+dk),.int .i64 (sumQ mkSB F+sk+sumQ (dF0 p) F)]) (t:=252) (fr:=(0,0)) (heap_alloc_new wr _)) (by simp [Value.oneCell']) (by unfold maxLen;omega) (by omega) (by have:=HB.out.size;simp;omega) ?_;intro v' w6 hown6 hgrow6 _ _;have hb6:=(HB.out.alloc HB.out.size _).grown hgrow6 (by have:=HB.out.size;simp;omega) (fun q hq=>(HW.out.lt q hq).1);have hlk6:=(HL.out.below hb6).look HWP.out);go_roundw
     case rel=>
      refine ⟨k+1,hk1,by go_num,?_,?_,?_,uP0 (HI.out.alloc _) hgrow6 (fP1 (w:=wr) HI.out HW.out (by decide)),hb6⟩
      ·rw [HDT.out];congr 1;omega
      ·rw [HST.out,Int.add_assoc]
      ·rw [HPT.out,yD0,List.length_append,List.length_singleton];exact hown6
     case measure=>simp [RowKit.intOf];omega
    ·obtain rfl:k=xs.length:=by omega
     rw [List.take_length] at HW ⊢;clear hb hi;go_wp2_with fail;go_ret;exact ⟨_,xs,rfl,HXR.out,HXM.out,HW.out,HB.out⟩
  ·intro x ca cb kl yd yp w2 cnt2 hkey hlk hv hat hrg2 hlt hg2 hs2 hen;obtain ⟨x',hx',hkl,hwx⟩:=Maps.keyOf_i64 Tryz.underlying3 hkey;obtain rfl:x=x':=by simpa using hx'
   obtain ⟨hc1,hc2⟩:=oZ1 (c:=(ca,cb)) HD.out hkl hv hat;replace hc1:ca=_:=hc1;replace hc2:cb=_:=hc2;subst hc1 hc2 hkl;have HR2:Hid (w2.ranges Tryz.prog 3 lotR B W.heap.size (F.length+1) D (fun z=>left z&& !z.sameKey (.int .i64 x)) cnt2):=hrg2;have HC2:Hid (CollectedI D (fun z=>left z&& !z.sameKey (.int .i64 x)) (ss++[x])):=HC.out.step hlk hat;have HB2:Hid (Below w.heap.size w w2):=HB.out.grown hg2 HB.out.size (fun q hq=>by cases hq;exact HBW.out.size);have HLT:Hid (cnt2<cnt):=hlt;have HSX:Hid (sumX cM0 (ss++[x]) F=sumX cM0 ss F+sumQ (cM0 x) F):=uK0 _ _ _ _;have hq1:=bV0 (q:=cM0 x) HF.out hl;have hq2:=bV0 (q:=dF0 x) HF.out hl;clear hkey hlk hv hat hrg2 hlt hg2 hs2 hx';go_wp2_with fail;go_roundw
   case rel=>exact ⟨_,cnt2,ss++[x],by rw [HSX.out,Int.add_assoc],HR2.out.alloc _,HC2.out,HB2.out.alloc HB2.out.size _⟩
   case measure=>rw [(HR2.out.alloc _).left_eq,HRW.out.left_eq];exact HLT.out
end Go.Proofs.YtaelphbianmckaaGreatDoor
namespace Go.Proofs.YtaelphbianmckaaGreatDoor
open Go.ChangeShapes Go.WideShapes Go.ChangeAt Go.RowKit Go.Deep
end Go.Proofs.YtaelphbianmckaaGreatDoor
namespace Go.Proofs.YtaelphbianmckaaGreatDoor
open Go.ChangeShapes Go.WideShapes Go.ChangeAt Go.RowKit
def wf64 (z:Int):Prop:=(Lit.int .i64 z).wf=true
end Go.Proofs.YtaelphbianmckaaGreatDoor
