/- DeskPieces: a part of the proof, packed (the readable form: the templates). -/
import Derived.Test.YtaelphbianmckaaGreatDoorQA
import Derived.Test.YtaelphbianmckaaGreatDoorQG
import Derived.Test.YtaelphbianmckaaGreatDoorQF
import Derived.Lib.MinMax
import Derived.Maps.AppendAt
namespace Go.Proofs.YtaelphbianmckaaGreatDoor
open Go.RowKit
def trB (x:Pt):Int:=min x.dem x.sup
def absI (n:Int):Int:=if n<0 then -n else n
def lfB (x:Pt):Int:=absI (x.dem - x.sup)
def dA0 (l:List Pt):Int:=l.foldl (fun m x=>max m (trB x)) 0
def gS0 (m:Int) (s:Int×Bool) (x:Pt):Int×Bool:=if trB x=m∧(s.2=false∨lfB x<s.1) then (lfB x,true) else s
def hX0 (m:Int) (l:List Pt):Int×Bool:=l.foldl (gS0 m) (0,false)
def jM1 (m n:Int) (x:Pt):Bool:=(trB x == m)&& (lfB x == n)
def wC0 (m n:Int) (l:List Pt):List Pt:=l.filter (jM1 m n)
def tR0 (l:List Pt):Bool:=l.all fun x=>decide (x.sup<x.dem)
def mF0 (l:List Pt):Bool:=l.all fun x=>decide (x.dem<x.sup)
def lM0 (b s:Bool) (around:Int) (p x:Pt):Bool:=
 if b=true then decide (x.price<p.price) else if s=true then decide (p.price<x.price)
 else decide (absI (p.price - around)<absI (x.price - around)) || ((absI (p.price - around) == absI (x.price - around))&& decide (p.price<x.price))
def dU1 (b s:Bool) (around:Int) (x p:Pt):Pt:=if lM0 b s around p x=true then p else x
def jN1 (b s:Bool) (around:Int) (l:List Pt):Pt:=l.foldl (dU1 b s around) (ptAt l 0)
def wD0 (b s:Bool) (around:Int) (l:List Pt) (k:Nat):Pt:=(l.take k).foldl (dU1 b s around) (ptAt l 0)
def jQ0 (l:List Pt) (around:Int):Pt:=
 let best:=wC0 (dA0 l) (hX0 (dA0 l) l).1 l
 jN1 (tR0 best) (mF0 best) around best
structure Quo where
 price:Int
 qty:Int
 sur:Int
def quoP (x:Pt):Quo:=⟨x.price,trB x,x.dem - x.sup⟩
def aJ0 (l:List Pt) (around:Int):Quo:=if dA0 l<1 then ⟨0,0,0⟩ else quoP (jQ0 l around)
theorem pY0 {α:Type} (f:α→Pt→α) (a:α) {l:List Pt} {k:Nat} (h:k<l.length):(l.take (k+1)).foldl f a=f ((l.take k).foldl f a) (ptAt l k):=by
 rw [List.take_succ_eq_append_getElem h,List.foldl_append,vY0 h];rfl
theorem pZ0 {b s:Bool} {around:Int} {l:List Pt} {k:Nat} (h:k<l.length):wD0 b s around l (k+1)=dU1 b s around (wD0 b s around l k) (ptAt l k):=pY0 _ _ h
theorem tS0 (b s:Bool) (around:Int) (l:List Pt):wD0 b s around l l.length=jN1 b s around l:=by unfold wD0 jN1;rw [List.take_length]
structure Pt.Small (x:Pt):Prop where
 p:-1099511627776≤x.price∧x.price≤1099511627776
 d:-1099511627776≤x.dem∧x.dem≤1099511627776
 s:-1099511627776≤x.sup∧x.sup≤1099511627776
theorem oA0 {l:List Pt} {x:Pt} (h:x∈l):trB x≤dA0 l:=by
 have mono:∀(l:List Pt) (a:Int),a≤l.foldl (fun m x=>max m (trB x)) a:=by
  intro l
  induction l with
  | nil=>intro a;exact Int.le_refl _
  | cons y l ih=>intro a;exact Int.le_trans (by omega) (ih (max a (trB y)))
 have key:∀(l:List Pt) (a:Int),x∈l→trB x≤l.foldl (fun m x=>max m (trB x)) a:=by
  intro l
  induction l with
  | nil=>intro a h;cases h
  | cons y l ih=>
   intro a h;rw [List.mem_cons] at h;rcases h with rfl | h
   ·exact Int.le_trans (by omega) (mono l (max a (trB x)))
   ·exact ih _ h
 exact key l 0 h
theorem rM0 (l:List Pt):dA0 l=0∨∃x∈l,trB x=dA0 l:=by
 have key:∀(l:List Pt) (a:Int),l.foldl (fun m x=>max m (trB x)) a=a∨∃x∈l,trB x=l.foldl (fun m x=>max m (trB x)) a:=by
  intro l
  induction l with
  | nil=>intro a;exact Or.inl rfl
  | cons y l ih=>
   intro a;rw [List.foldl_cons];rcases ih (max a (trB y)) with h | ⟨x,hx,h⟩
   ·rw [h]
    by_cases hm:trB y≤a
    ·exact Or.inl (by omega)
    ·exact Or.inr ⟨y,List.mem_cons_self ..,by omega⟩
   ·exact Or.inr ⟨x,List.mem_cons_of_mem _ hx,h⟩
 exact key l 0
theorem oB0 (m:Int):∀l:List Pt,((hX0 m l).2=false∧∀x∈l,trB x≠m)∨((hX0 m l).2=true∧(∃x∈l,trB x=m∧lfB x=(hX0 m l).1)∧∀x∈l,trB x=m→(hX0 m l).1≤lfB x):=by
 have key:∀(l pre:List Pt) (s:Int×Bool),((s.2=false∧∀x∈pre,trB x≠m)∨(s.2=true∧(∃x∈pre,trB x=m∧lfB x=s.1)∧∀x∈pre,trB x=m→s.1≤lfB x))→
   (((l.foldl (gS0 m) s).2=false∧∀x∈pre++l,trB x≠m)∨((l.foldl (gS0 m) s).2=true∧(∃x∈pre++l,trB x=m∧lfB x=(l.foldl (gS0 m) s).1)∧∀x∈pre++l,trB x=m→(l.foldl (gS0 m) s).1≤lfB x)):=by
  intro l
  induction l with
  | nil=>intro pre s h;simpa using h
  | cons y l ih=>
   intro pre s h;rw [List.foldl_cons,show pre++y::l=(pre++[y])++l by simp];refine ih (pre++[y]) _ ?_;unfold gS0
   by_cases hy:trB y=m∧(s.2=false∨lfB y<s.1)
   ·rw [if_pos hy];right;refine ⟨rfl,⟨y,by simp,hy.1,rfl⟩,fun x hx hm=>?_⟩;rw [List.mem_append,List.mem_singleton] at hx;rcases hx with hx | rfl
    ·rcases h with ⟨_,h2⟩ | ⟨h1,_,h3⟩
     ·exact absurd hm (h2 x hx)
     ·have:=h3 x hx hm;rcases hy.2 with h4 | h4
      ·rw [h1] at h4;cases h4
      ·show lfB y≤lfB x;omega
    ·exact Int.le_refl _
   ·rw [if_neg hy];rcases h with ⟨h1,h2⟩ | ⟨h1,⟨z,hz,hz1,hz2⟩,h3⟩
    ·left;refine ⟨h1,fun x hx hm=>?_⟩;rw [List.mem_append,List.mem_singleton] at hx;rcases hx with hx | rfl
     ·exact h2 x hx hm
     ·exact hy ⟨hm,Or.inl h1⟩
    ·right;refine ⟨h1,⟨z,by simp [hz],hz1,hz2⟩,fun x hx hm=>?_⟩;rw [List.mem_append,List.mem_singleton] at hx;rcases hx with hx | rfl
     ·exact h3 x hx hm
     ·have:¬lfB x<s.1:=fun e=>hy ⟨hm,Or.inr e⟩
      omega
 intro l;have:=key l [] (0,false) (Or.inl ⟨rfl,fun x hx=>by cases hx⟩)
 simpa [hX0] using this
theorem tT0 {l:List Pt} (h:1≤dA0 l):0<(wC0 (dA0 l) (hX0 (dA0 l) l).1 l).length:=by
 rcases rM0 l with h1 | ⟨x,hx,h1⟩
 ·omega
 ·rcases oB0 (dA0 l) l with ⟨_,h2⟩ | ⟨_,⟨z,hz,hz1,hz2⟩,_⟩
  ·exact absurd h1 (h2 x hx)
  ·exact List.length_pos_of_mem (a:=z) (List.mem_filter.2 ⟨hz,by unfold jM1;simp [hz1,hz2]⟩)
theorem tU0 (b s:Bool) (around:Int) {l:List Pt} (h:0<l.length):∀k,k≤l.length→wD0 b s around l k∈l
 | 0,_=>by unfold wD0;simpa using cA0 h
 | k+1,hk=>by
  rw [pZ0 (by omega)];unfold dU1;split
  ·exact cA0 (by omega)
  ·exact tU0 b s around h k (by omega)
theorem lN0 {l:List Pt} (around:Int) (h:1≤dA0 l):jQ0 l around∈l∧trB (jQ0 l around)=dA0 l:=by
 have h0:=tT0 h;have h1:=tU0 (tR0 (wC0 (dA0 l) (hX0 (dA0 l) l).1 l)) (mF0 (wC0 (dA0 l) (hX0 (dA0 l) l).1 l)) around h0 _ lR7;rw [tS0] at h1;have h2:jQ0 l around∈wC0 (dA0 l) (hX0 (dA0 l) l).1 l:=h1;have h3:=List.mem_filter.1 h2;refine ⟨h3.1,?_⟩;have h4:=h3.2;unfold jM1 at h4;rw [Bool.and_eq_true] at h4
 simpa using h4.1
structure Mkt where
 rs:List (Int×Int)
 st:Int
 dy:Int
 an:Int
 la:Int
 ti:Int
 mo:Int
 L:List Ord
 P:List Ord
 I:List Int
 ph:Int
 now:Int
 en:Int
 lo:Int
def gI0 (p:Int):Nat→FS→FS
 | 0,s=>s
 | n+1,s=>if s.q≤0 then s else gI0 p n (eC0 p s)
theorem dL0 (p:Int) (s:FS):∀k,aQ0 p (eC0 p s) k=aQ0 p s (k+1)
 | 0=>rfl
 | k+1=>by
  show eC0 p (aQ0 p (eC0 p s) k)=eC0 p (aQ0 p s (k+1));rw [dL0 p s k]
theorem tV0 {p:Int}:∀{K n:Nat} {s:FS},(aQ0 p s K).q=0→(∀j,j<K→0<(aQ0 p s j).q)→K≤n→gI0 p n s=aQ0 p s K
 | 0,0,_,_,_,_=>rfl
 | 0,n+1,s,h,_,_=>by
  have h':s.q=0:=h;show (if s.q≤0 then s else _)=s;rw [if_pos (by omega)]
 | K+1,0,_,_,_,hn=>by omega
 | K+1,n+1,s,h,hj,hn=>by
  have h0:0<s.q:=hj 0 (by omega);show (if s.q≤0 then s else gI0 p n (eC0 p s))=_;rw [if_neg (by omega),tV0 (K:=K) (by rw [dL0];exact h) (fun j hjk=>by rw [dL0];exact hj (j+1) (by omega)) (by omega),dL0]
def gT0 (p q:Int) (L:List Ord):FS:=gI0 p (L.length+1) ⟨[],L,q⟩
theorem dV1 {p q:Int} {L:List Ord} {K:Nat} (h:FOk p ⟨[],L,q⟩) (h0:(aQ0 p ⟨[],L,q⟩ K).q=0) (hj:∀j,j<K→0<(aQ0 p ⟨[],L,q⟩ j).q):gT0 p q L=aQ0 p ⟨[],L,q⟩ K:=by
 refine tV0 h0 hj ?_;cases K with
 | zero=>omega
 | succ K=>
  have:=gQ0 h K hj;have e:(⟨[],L,q⟩:FS).L.length=L.length:=rfl;omega
def aG0 (m:Mkt):Quo:=aJ0 (aM0 m.L m.la) m.la
def dQ0 (m:Mkt):Quo:=if eD0 m.ph=true then aG0 m else ⟨0,0,0⟩
def bZ0 (la:Int):List Int→Int
 | []=>la
 | p::ts=>bZ0 p ts
theorem qA0 (la:Int):∀(ts:List Int) (p:Int),bZ0 la (ts++[p])=p
 | [],_=>rfl
 | x::ts,p=>qA0 x ts p
def alM (m:Mkt) (ts:List Int) (p:Int):Bool:=dX0 m.st m.dy m.an (bZ0 m.la ts) p
def volM (m:Mkt):Mkt:={ m with ph:=4,en:=m.now+m.ti,lo:=0 }
def ordN (m:Mkt) (o:Ord):Int:=
 if (decide (1≤o.side)&& decide (o.side≤2))=false∨(decide (1≤o.kind)&& decide (o.kind≤4))=false∨o.id<1 then 1
 else if sY0 (lieO o).price o.qty=false then 2 else if gR0 m.ph o.kind=false then 6 else if o.id∈m.I then 9 else if 100≤m.L.length+m.P.length then 12 else 0
def bM0 (m:Mkt) (o:Ord):MS×Bool:=cH0 (alM m) o (aK0 (3 - o.side) m.L) ⟨[],m.L,o.qty,[]⟩
def dY0 (m:Mkt) (o:Ord):List Fil×Mkt:=
 ((bM0 m o).1.fs,if (bM0 m o).2=true then volM { m with L:=if 0<(bM0 m o).1.q∧o.kind≠2 then addL (cE0 o (bM0 m o).1.q) (bM0 m o).1.L else (bM0 m o).1.L,la:=bZ0 m.la (bM0 m o).1.ts }
  else { m with L:=if 0<(bM0 m o).1.q∧o.kind≠2 then addL (cE0 o (bM0 m o).1.q) (bM0 m o).1.L else (bM0 m o).1.L,la:=bZ0 m.la (bM0 m o).1.ts })
def gU0 (m:Mkt) (o:Ord):List Fil×Mkt:=
 if o.kind=4∧m.ph≠5 then ([],{ m with P:=m.P++[o] }) else if m.ph≠3 then ([],{ m with L:=addL o m.L }) else dY0 m o
def ordM (m:Mkt) (o:Ord):List Fil×Mkt:=if ordN m o=0 then gU0 { m with I:=m.I++[o.id] } (lieO o) else ([],m)
def mL0 (m:Mkt) (id:Int):Int:=if m.ph=7 then 6 else if 0≤idxO id m.P then 0 else canN id m.L
def canM (m:Mkt) (id:Int):Mkt:=if m.ph=7 then m else if 0≤idxO id m.P then { m with P:=jN0 (idxO id m.P).toNat m.P } else { m with L:=canL id m.L }
def limL (L:List Ord):List Ord:=L.filter fun o=>o.kind == 1
def uncM (m:Mkt):List Fil×Mkt:=
 if 0<(aG0 m).qty then ((gT0 (aG0 m).price (aG0 m).qty m.L).fs,{ m with L:=limL (gT0 (aG0 m).price (aG0 m).qty m.L).L,an:=(aG0 m).price,la:=(aG0 m).price })
 else ([],{ m with L:=limL m.L })
def jE0 (m:Mkt):Mkt:={ m with ph:=5,L:=m.P.foldl (fun L o=>addL o L) m.L,P:=[] }
def rN0 (m:Mkt):Int:=if m.ph=7 then 6 else 0
def wE0 (was is:Int) (m:Mkt):List Fil×Mkt:=
 if is=7 then ((if m.ph=5 then (uncM m).1 else []),{ (if m.ph=5 then (uncM m).2 else m) with L:=[],P:=[],ph:=7 })
 else if m.ph=6 then ([],m)
 else if was≠is∧is=3 then ((uncM m).1,{ (uncM m).2 with ph:=is })
 else if was≠is∧is=5 then ([],jE0 m)
 else if was≠is then ([],{ m with ph:=is })
 else if m.ph=4∧m.en≤m.now then
  (if (aG0 m).qty=0∨eV0 m.st m.an (aG0 m).price=true then ((uncM m).1,{ (uncM m).2 with ph:=3 })
   else if m.lo<m.mo then ([],{ m with lo:=m.lo+1,en:=m.now+m.ti })
   else ([],{ m with ph:=6 }))
 else ([],m)
def bO0 (m:Mkt):List Fil×Mkt:=if m.ph=7 then ([],m) else wE0 (phaseV m.rs m.now).1 (phaseV m.rs (m.now+1)).1 { m with now:=m.now+1 }
def oC0 (m:Mkt):Int:=if m.ph=6∨m.ph=7 then 6 else 0
def hT0 (m:Mkt):Mkt:=if m.ph=6∨m.ph=7 then m else { m with ph:=6 }
def kK0 (m:Mkt):Int:=if m.ph=6 then 0 else 6
def eK0 (m:Mkt):Mkt:=if m.ph=6 then (if (phaseV m.rs m.now).1=3 then volM m else if (phaseV m.rs m.now).1=5 then jE0 m else { m with ph:=(phaseV m.rs m.now).1 }) else m
theorem jR0 {S:Nat→Prop} {w w':World} {p:Addr} (h:Out S w w') (hl:p.block<w.heap.size) (hS:¬S p.block):w'.cell? p=w.cell? p:=by
 have:=h.block p.block hl hS;unfold World.cell?;rw [this]
set_option maxRecDepth 4000 in
set_option maxHeartbeats 4000000 in
theorem oE1 (bb g:Nat) (s d a l p:Int) (w:World) (h:BnAt w bb s d a l) (hp:inB 1 1000000 p=true) (hg:w.cell? ⟨g,0,none⟩=some (.int .i64 1)) (hne:g≠bb):
  Calls Tryz.prog 273 #[.pointer (some ⟨bb,0,none⟩),.int .i64 p,.slice (some ⟨g,0,none⟩) 1 1] w fun e w'=>e=.returned .nilIface∧Out (fun j=>j=bb) w w'∧BnAt w' bb s d a p:=by
 have HA:Hid (BnAt w bb s d a l):=h;have HG:Hid (w.cell? ⟨g,0,none⟩=some (.int .i64 1)):=hg;have HN:Hid (g≠bb):=hne;have HP:Hid (inB 1 1000000 p=true):=hp;clear h hg hne hp;go_enter Tryz.func273,Tryz.ntmps273;go_wp2_with fail;refine (jX0 p 1 _).mono ?_;rintro e w1 ⟨rfl,hb⟩;have HO:Hid (Out (fun j=>j=bb) w w1):=Out.of_below hb lR7;have HA1:Hid (BnAt w1 bb s d a l):=HA.out.below hb;rw [pW0,HP.out];clear hb;go_wp2;go_loopw [15] (fun v wr=>∃k:Nat,k≤1∧v=.int .i64 k∧Out (fun j=>j=bb) w wr∧(k=0→BnAt wr bb s d a l)∧(k=1→BnAt wr bb s d a p)) (fun v _=>1 - (intOf v).toNat)
 case atStart=>exact ⟨0,by omega,rfl,HO.out,fun _=>HA1.out,fun h=>absurd h (by decide)⟩
 case round=>
  obtain ⟨k,hk,rfl,ho,hq0,hq1⟩:=hrel;have HO2:Hid (Out (fun j=>j=bb) w wr):=ho;have HQ0:Hid (k=0→BnAt wr bb s d a l):=hq0;have HQ1:Hid (k=1→BnAt wr bb s d a p):=hq1;clear ho hq0 hq1;have hk01:k=0∨k=1:=by omega
  rcases hk01 with rfl | rfl
  ·have HB0:Hid (BnAt wr bb s d a l):=HQ0.out rfl;have c0:=(jR0 (p:=⟨g,0,none⟩) HO2.out (World.block_lt_of_cell? w _ HG.out) HN.out).trans HG.out;have c3:=cV0 (j:=3) HB0.out rfl;have f3:=vU0 (j:=3) HB0.out;go_wp2;go_roundw
   case rel=>exact ⟨1,by omega,rfl,fV0 HO2.out (lI0 wr ⟨bb,3,none⟩ _),fun h=>absurd h (by decide),fun _=>dB1 (j:=3) (.int .i64 p) HB0.out⟩
   case measure=>simp [intOf]
  ·go_wp2;go_ret;exact ⟨rfl,HO2.out,HQ1.out (by trivial)⟩
set_option maxRecDepth 4000 in
set_option maxHeartbeats 4000000 in
theorem oF1 (bb g:Nat) (s d a l p:Int) (w:World) (h:BnAt w bb s d a l) (hp:inB 1 1000000 p=true) (hg:w.cell? ⟨g,0,none⟩=some (.int .i64 0)) (hg1:w.cell? ⟨g,1,none⟩=some (.int .i64 1)) (hne:g≠bb):
  Calls Tryz.prog 273 #[.pointer (some ⟨bb,0,none⟩),.int .i64 p,.slice (some ⟨g,0,none⟩) 2 2] w fun e w'=>e=.returned .nilIface∧Out (fun j=>j=bb) w w'∧BnAt w' bb s d p p:=by
 have HA:Hid (BnAt w bb s d a l):=h;have HG:Hid (w.cell? ⟨g,0,none⟩=some (.int .i64 0)):=hg;have HG1:Hid (w.cell? ⟨g,1,none⟩=some (.int .i64 1)):=hg1;have HN:Hid (g≠bb):=hne;have HP:Hid (inB 1 1000000 p=true):=hp;clear h hg hne hp hg1;go_enter Tryz.func273,Tryz.ntmps273;go_wp2_with fail;refine (jX0 p 1 _).mono ?_;rintro e w1 ⟨rfl,hb⟩;have HO:Hid (Out (fun j=>j=bb) w w1):=Out.of_below hb lR7;have HA1:Hid (BnAt w1 bb s d a l):=HA.out.below hb;rw [pW0,HP.out];clear hb;go_wp2;go_loopw [15] (fun v wr=>∃k:Nat,k≤2∧v=.int .i64 k∧Out (fun j=>j=bb) w wr∧(k=0→BnAt wr bb s d a l)∧(k=1→BnAt wr bb s d p l)∧(k=2→BnAt wr bb s d p p)) (fun v _=>2 - (intOf v).toNat)
 case atStart=>exact ⟨0,by omega,rfl,HO.out,fun _=>HA1.out,fun h=>absurd h (by decide),fun h=>absurd h (by decide)⟩
 case round=>
  obtain ⟨k,hk,rfl,ho,hq0,hq1,hq2⟩:=hrel;have HO2:Hid (Out (fun j=>j=bb) w wr):=ho;have HQ0:Hid (k=0→BnAt wr bb s d a l):=hq0;have HQ1:Hid (k=1→BnAt wr bb s d p l):=hq1;have HQ2:Hid (k=2→BnAt wr bb s d p p):=hq2;clear ho hq0 hq1 hq2;have hk01:k=0∨k=1∨k=2:=by omega
  rcases hk01 with rfl | rfl | rfl
  ·have HB0:Hid (BnAt wr bb s d a l):=HQ0.out rfl;have c0:=(jR0 (p:=⟨g,0,none⟩) HO2.out (World.block_lt_of_cell? w _ HG.out) HN.out).trans HG.out;have c2:=cV0 (j:=2) HB0.out rfl;have f2:=vU0 (j:=2) HB0.out;go_wp2;go_roundw
   case rel=>exact ⟨1,by omega,rfl,fV0 HO2.out (lI0 wr ⟨bb,2,none⟩ _),fun h=>absurd h (by decide),fun _=>dB1 (j:=2) (.int .i64 p) HB0.out,fun h=>absurd h (by decide)⟩
   case measure=>simp [intOf]
  ·have HB0:Hid (BnAt wr bb s d p l):=HQ1.out rfl;have c0:=(jR0 (p:=⟨g,1,none⟩) HO2.out (World.block_lt_of_cell? w _ HG1.out) HN.out).trans HG1.out;have c3:=cV0 (j:=3) HB0.out rfl;have f3:=vU0 (j:=3) HB0.out;go_wp2;go_roundw
   case rel=>exact ⟨2,by omega,rfl,fV0 HO2.out (lI0 wr ⟨bb,3,none⟩ _),fun h=>absurd h (by decide),fun h=>absurd h (by decide),fun _=>dB1 (j:=3) (.int .i64 p) HB0.out⟩
   case measure=>simp [intOf]
  ·go_wp2;go_ret;exact ⟨rfl,HO2.out,HQ2.out (by trivial)⟩
theorem oG1 (bb:Nat) (s d a l p:Int) (w:World) (h:BnAt w bb s d a l) (hp:inB 1 1000000 p=true):
  Calls Tryz.prog 241 #[.pointer (some ⟨bb,0,none⟩),.int .i64 p] w fun e w'=>e=.returned .nilIface∧Out (fun j=>j=bb) w w'∧BnAt w' bb s d a p:=by
 have HA:Hid (BnAt w bb s d a l):=h;have HP:Hid (inB 1 1000000 p=true):=hp;have HL:Hid (bb<w.heap.size):=lt_of_block h;clear h hp;go_enter Tryz.func241,Tryz.ntmps241;go_wp2_with fail;refine (oE1 bb _ s d a l p _ (HA.out.below (gK0 w _)) HP.out (by simp [go_sem]) (by have:=HL.out;omega)).mono ?_;rintro e w' ⟨rfl,ho,hn⟩;have HO:Hid (Out (fun j=>j=bb) w w'):=fV0 (Out.of_below (gK0 w _) lR7) ho;have HA2:Hid (BnAt w' bb s d a p):=hn;clear ho hn;go_wp2;go_ret;exact ⟨rfl,HO.out,HA2.out⟩
theorem tD1 (bb:Nat) (s d a l p:Int) (w:World) (h:BnAt w bb s d a l) (hp:inB 1 1000000 p=true):
  Calls Tryz.prog 246 #[.pointer (some ⟨bb,0,none⟩),.int .i64 p] w fun e w'=>e=.returned .nilIface∧Out (fun j=>j=bb) w w'∧BnAt w' bb s d p p:=by
 have HA:Hid (BnAt w bb s d a l):=h;have HP:Hid (inB 1 1000000 p=true):=hp;have HL:Hid (bb<w.heap.size):=lt_of_block h;clear h hp;go_enter Tryz.func246,Tryz.ntmps246;go_wp2_with fail;refine (oF1 bb _ s d a l p _ (HA.out.below (gK0 w _)) HP.out (by simp [go_sem]) (by simp [go_sem]) (by have:=HL.out;omega)).mono ?_;rintro e w' ⟨rfl,ho,hn⟩;have HO:Hid (Out (fun j=>j=bb) w w'):=fV0 (Out.of_below (gK0 w _) lR7) ho;have HA2:Hid (BnAt w' bb s d p p):=hn;clear ho hn;go_wp2;go_ret;exact ⟨rfl,HO.out,HA2.out⟩
def dW1 (err:Value) (n:Int):Prop:=(err=.nilIface∧n=0)∨err=.iface 26 (.int .i64 n)
section
variable {w0 w:World} {bb rb m:Nat} {b:BkS} {v:Value} {L:List Ord}
theorem rO0 {S:Nat→List Ly} {n:Nat} {rs:List Sot} {fr:List Nat} (hp:Pb n rs fr S) (hl:Lnk S L):L.length≤100:=by have:=hp.most;have:=hl.len;omega
theorem dX1 (hl:Lnk b.S L) {s:Nat} (hs:s<2) {x:Ly} (hx:x∈b.S s):∃k,k<L.length∧idxO x.o.id L=k∧oAt L k=x.o:=by
 rcases nC0 x.o.id L 0 with h | ⟨k,hk,h1,h2⟩
 ·have h3:idxO x.o.id L=-1:=h;have:=hl.idx_yes hs hx;omega
 ·exact ⟨k,hk,by have:idxO x.o.id L=((0+k:Nat):Int):=h1;rw [this];congr 1;omega,hl.at hs hx hk h2⟩
theorem jO1 (h:Bk w bb m b) (hm:m+1≤900000) (hl:Lnk b.S L) (o:Ord) (hw:(Lit.int .i64 o.id).wf=true):
  Calls Tryz.prog 242 #[.pointer (some ⟨bb,0,none⟩),o.agg] w fun e W'=>∃err,e=.returned err∧dW1 err (addN o L)∧∃b',Lnk b'.S (addL o L)∧Goes w W' bb (m+1) b b':=by
 have stay:∀n:Int,n≠0→addN o L=n→addL o L=L:=fun n h1 h2=>by unfold addL;rw [if_neg (by rw [h2];exact h1)]
 refine (sZ1 bb m b o w h hm hw).mono ?_;rintro e W' (⟨h1,rfl,hg⟩ | ⟨h1,h2,h3,rfl,hg⟩ | ⟨h1,h2,h3,h4,rfl,hg⟩ | ⟨h1,h2,h3,h4,h5,rfl,hg⟩ | ⟨h1,h2,h3,h4,h5,rfl,b',s,k,a,hs,hsd,hS,hg⟩)
 ·have hn:addN o L=1:=iR1 (by rw [←kD0];exact h1);exact ⟨_,rfl,Or.inr (by rw [hn]),b,by rw [stay 1 (by decide) hn];exact hl,hg⟩
 ·have hn:addN o L=2:=aF1 (by rw [←kD0];exact h1) h2 h3;exact ⟨_,rfl,Or.inr (by rw [hn]),b,by rw [stay 2 (by decide) hn];exact hl,hg⟩
 ·have hn:addN o L=9:=by
   rw [nR0 (by rw [←kD0];exact h1) h2 h3];obtain ⟨s,hs,x,hx,he⟩:=h4;rw [if_pos (by rw [←he];exact hl.idx_yes hs hx)]
  exact ⟨_,rfl,Or.inr (by rw [hn]),b,by rw [stay 9 (by decide) hn];exact hl,hg⟩
 ·have hlen:=hl.len
  have hn:addN o L=12:=by
   rw [nR0 (by rw [←kD0];exact h1) h2 h3,hl.idx_no h4,if_neg (by decide),if_pos (by omega)]
  exact ⟨_,rfl,Or.inr (by rw [hn]),b,by rw [stay 12 (by decide) hn];exact hl,hg⟩
 ·have hlen:=hl.len
  have hn:addN o L=0:=by
   rw [nR0 (by rw [←kD0];exact h1) h2 h3,hl.idx_no h4,if_neg (by decide),if_neg (by omega)]
  obtain ⟨hp1,_⟩:inB 1 1000000 (lieP o).price=true∧inB 1 1000000 (lieP o).qty=true:=by simpa [cG0] using h3
  have hpr:=dW0 hp1;refine ⟨_,rfl,Or.inl ⟨rfl,hn⟩,b',?_,hg⟩;unfold addL;rw [if_pos hn,hS,←iU1];exact hl.add hs (by rw [sT0];exact hsd) hpr (fun y hy=>by have:=hl.ok h.ok y hy;omega) (by rw [cH1];exact hl.none h4)
theorem wF0 (h:Bk w bb m b) (hm:m+1≤900000) (hl:Lnk b.S L) (id:Int) (hw:(Lit.int .i64 id).wf=true):
  Calls Tryz.prog 120 #[.pointer (some ⟨bb,0,none⟩),.int .i64 id] w fun e W'=>∃err,e=.returned (.tuple #[(canO id L).agg,err])∧dW1 err (canN id L)∧∃b',Lnk b'.S (canL id L)∧Goes w W' bb (m+1) b b':=by
 rcases mQ0 b.S id with ⟨s,hs,x,hx,rfl⟩ | hno
 ·obtain ⟨k,hk,hi,ho⟩:=dX1 hl hs hx;have hne:¬idxO x.o.id L=-1:=by omega
  have hkk:(idxO x.o.id L).toNat=k:=by omega
  refine (lE0 bb m s b x w h hm hs hx).mono ?_;rintro e W' ⟨rfl,b',⟨i,hi2,hix,hS⟩,hg⟩;refine ⟨.nilIface,by unfold canO;rw [if_neg hne,hkk,ho],Or.inl ⟨rfl,by unfold canN;rw [if_neg hne]⟩,b',?_,hg⟩;unfold canL;rw [if_neg hne,hkk,hS];exact hl.gone h.ok hs hi2 hix hk (by rw [ho])
 ·have h1:=hl.idx_no hno;refine (sX0 bb m b id w h hw hno).mono ?_;rintro e W' ⟨rfl,hb⟩;exact ⟨_,by unfold canO;rw [if_pos h1],Or.inr (by unfold canN;rw [if_pos h1]),b,by unfold canL;rw [if_pos h1];exact hl,Goes.stay h hb (Nat.le_succ _) hm⟩
theorem jP1 (h:Bk w bb m b) (hm:m+1≤900000) (hl:Lnk b.S L) (id q:Int) (hw:(Lit.int .i64 id).wf=true):
  Calls Tryz.prog 271 #[.pointer (some ⟨bb,0,none⟩),.int .i64 id,.int .i64 q] w fun e W'=>∃err,e=.returned err∧dW1 err (cutN id q L)∧∃b',Lnk b'.S (cutM id q L)∧Goes w W' bb (m+1) b b':=by
 rcases mQ0 b.S id with ⟨s,hs,x,hx,rfl⟩ | hno
 ·obtain ⟨k,hk,hi,ho⟩:=dX1 hl hs hx;have hne:¬idxO x.o.id L=-1:=by omega
  have hkk:(idxO x.o.id L).toNat=k:=by omega
  by_cases hq:q<1∨x.o.qty<q
  ·have h3:(decide (1≤q)&& decide (q≤(oAt L k).qty))=false:=by
    rw [ho];rcases hq with hq | hq
    ·rw [decide_eq_false (by omega)];rfl
    ·rw [decide_eq_false (p:=q≤x.o.qty) (by omega)];exact Bool.and_false _
   refine (cO1 bb m s b x q w h hs hx hq).mono ?_;rintro e W' ⟨rfl,hb⟩;exact ⟨_,rfl,Or.inr (by unfold cutN;rw [if_neg hne,hkk,if_pos h3]),b,by unfold cutM;rw [if_neg hne,hkk,if_pos h3];exact hl,Goes.stay h hb (Nat.le_succ _) hm⟩
  ·have h3:¬(decide (1≤q)&& decide (q≤(oAt L k).qty))=false:=by
    rw [ho,decide_eq_true (by omega:1≤q),decide_eq_true (by omega:q≤x.o.qty)];decide
   by_cases he:q=x.o.qty
   ·subst he;refine (nX1 bb m s b x w h hm hs hx (by omega)).mono ?_;rintro e W' ⟨rfl,b',⟨i,hi2,hix,hS⟩,hg⟩;refine ⟨_,rfl,Or.inl ⟨rfl,by unfold cutN;rw [if_neg hne,hkk,if_neg h3]⟩,b',?_,hg⟩;unfold cutM;rw [if_neg hne,hkk,if_neg h3,if_pos (by rw [ho]),hS];exact hl.gone h.ok hs hi2 hix hk (by rw [ho])
   ·refine (iQ1 bb m s b x q w h hm hs hx (by omega) (by omega)).mono ?_;rintro e W' ⟨rfl,hg⟩;refine ⟨_,rfl,Or.inl ⟨rfl,by unfold cutN;rw [if_neg hne,hkk,if_neg h3]⟩,_,?_,hg⟩;unfold cutM;rw [if_neg hne,hkk,if_neg h3,if_neg (by rw [ho];omega)];exact hl.cut h.ok hs hx hk (by rw [ho])
 ·have h1:=hl.idx_no hno;refine (qU1 bb m b id q w h hw hno).mono ?_;rintro e W' ⟨rfl,hb⟩;exact ⟨_,rfl,Or.inr (by unfold cutN;rw [if_pos h1]),b,by unfold cutM;rw [if_pos h1];exact hl,Goes.stay h hb (Nat.le_succ _) hm⟩
end
def wilP (p:Int) (o:Ord):Bool:=if (o.kind == 2)=true then true else if (o.side == 1)=true then decide (p≤o.price) else decide (o.price≤p)
theorem oH1 {s p:Int} {o:Ord} (hs:s=1∨s=2) (ho:o.side=s):wilP p o=wilB s p o:=by
 unfold wilP wilB;rw [ho];rcases hs with rfl | rfl
 ·by_cases h:(o.kind == 2)=true
  ·rw [if_pos h,h];rfl
  ·rw [if_neg h,show (o.kind == 2)=false from Bool.eq_false_iff.2 h];simp
 ·by_cases h:(o.kind == 2)=true
  ·rw [if_pos h,h];rfl
  ·rw [if_neg h,show (o.kind == 2)=false from Bool.eq_false_iff.2 h];simp
set_option maxHeartbeats 1000000 in
theorem oD0 (p:Int) (w:World):Calls Tryz.prog 268 #[.int .i64 p] w fun e w'=>e=.returned (.func (.func 286) #[] #[.pointer (some ⟨w.heap.size,0,none⟩)])∧w'=w.alloc (.cells #[.int .i64 p] 3):=by
 go_enter Tryz.func268,Tryz.ntmps268;go_wp2;go_ret;exact ⟨rfl,rfl⟩
set_option maxRecDepth 4000 in
set_option maxHeartbeats 1000000 in
theorem qZ1 (p:Int) (o:Ord) (b:Nat) (w:World) (h:w.heap[b]? = some (.cells #[.int .i64 p] 3 (0,0))):
  Calls Tryz.prog 286 #[.agg #[.int .i64 o.id,.int .i64 o.side,.int .i64 o.kind,.int .i64 o.price,.int .i64 o.qty],.pointer (some ⟨b,0,none⟩)] w fun e w'=>e=.returned (.bool (wilP p o))∧Below w.heap.size w w':=by
 have hb:=bel1 w (.cells #[.int .i64 o.id,.int .i64 o.side,.int .i64 o.kind,.int .i64 o.price,.int .i64 o.qty] 92);have c0:=aA0 (j:=0) (aD0 h hb lR7) rfl;have HB:Hid _:=hb;clear h hb;unfold wilP;cases hk:(o.kind == 2) with
 | true=>
  go_enter Tryz.func286,Tryz.ntmps286;go_wp2;go_ret;exact ⟨rfl,HB.out⟩
 | false=>
  cases hs:(o.side == 1) with
  | true=>
   go_enter Tryz.func286,Tryz.ntmps286;go_wp2;go_ret;exact ⟨rfl,HB.out⟩
  | false=>
   go_enter Tryz.func286,Tryz.ntmps286;go_wp2;go_ret;exact ⟨rfl,HB.out⟩
set_option maxHeartbeats 1000000 in
theorem dY1 (bb m s:Nat) (b:BkS) (L:List Ord) (w:World) (h:Bk w bb m b) (hl:Lnk b.S L) (hs:s<2) (side:Int) (hsd:side=(s:Int)+1):
  Calls Tryz.prog 266 #[.pointer (some ⟨bb,0,none⟩),.int .i64 side] w fun e w'=>∃v,e=.returned v∧w'.ownsRow w.heap.size 92 5 v (aK0 side L).length (oV (aK0 side L))∧Below w.heap.size w w':=by
 have H:Hid (Bk w bb m b):=h;have e1:(b.S s).map Ly.o=aK0 side L:=by rw [hsd];exact hl.side s hs
 have HE:Hid ((b.S s).map Ly.o=aK0 side L):=e1;have HSD:Hid (side=(s:Int)+1):=hsd;clear h e1 hl hsd;go_enter Tryz.func266,Tryz.ntmps266;go_wp2_with fail;refine (mS0 bb m s b w H.out hs side HSD.out).mono ?_;rintro e w1 ⟨v,rfl,h1,h2⟩;rw [HE.out,show (b.S s).length=(aK0 side L).length by rw [←HE.out,List.length_map]] at h1;have H1:Hid _:=h1;have H2:Hid _:=h2;clear h1 h2;go_wp2_with fail;go_ret;exact ⟨v,rfl,H1.out,H2.out⟩
set_option maxHeartbeats 1000000 in
theorem oI1 (s:Int) (hs:s=1∨s=2) (w:World):Calls Tryz.prog 267 #[.int .i64 s] w fun e w'=>e=.returned (.int .i64 (3 - s))∧w'=w:=by
 rcases hs with rfl | rfl
 ·go_enter Tryz.func267,Tryz.ntmps267;go_wp2;go_ret;exact ⟨rfl,rfl⟩
 ·go_enter Tryz.func267,Tryz.ntmps267;go_wp2;go_ret;exact ⟨rfl,rfl⟩
set_option maxRecDepth 4000 in
set_option maxHeartbeats 2000000 in
theorem qB0 (o x:Ord) (p:Int) (w:World) (hs:(o.side == 2)=false):
  Calls Tryz.prog 270 #[.agg #[.int .i64 o.id,.int .i64 o.side,.int .i64 o.kind,.int .i64 o.price,.int .i64 o.qty],.agg #[.int .i64 x.id,.int .i64 x.side,.int .i64 x.kind,.int .i64 x.price,.int .i64 x.qty],.int .i64 p] w
   fun e w'=>e=.returned (.agg #[.int .i64 o.id,.int .i64 x.id,.int .i64 p,.int .i64 (min o.qty x.qty)])∧Below w.heap.size w w':=by
 have HS:Hid ((o.side == 2)=false):=hs;go_enter Tryz.func270,Tryz.ntmps270;go_wp2_with fail;refine bodyPost_ret (by simp [results,Tryz.results270,go_sem];try rfl) rfl ?_;refine ⟨rfl,?_⟩
 (repeat' first | assumption | exact Below.refl _ _ | exact lR7 | refine Below.alloc ?_ ?_ _ | refine Below.setCell ?_ ?_ _ | (simp;done) | (simp;omega))
set_option maxRecDepth 4000 in
set_option maxHeartbeats 4000000 in
theorem aL1 (o x:Ord) (p:Int) (w:World) (hs:(o.side == 2)=true):
  Calls Tryz.prog 270 #[.agg #[.int .i64 o.id,.int .i64 o.side,.int .i64 o.kind,.int .i64 o.price,.int .i64 o.qty],.agg #[.int .i64 x.id,.int .i64 x.side,.int .i64 x.kind,.int .i64 x.price,.int .i64 x.qty],.int .i64 p] w
   fun e w'=>e=.returned (.agg #[.int .i64 x.id,.int .i64 o.id,.int .i64 p,.int .i64 (min x.qty o.qty)])∧Below w.heap.size w w':=by
 have HS:Hid ((o.side == 2)=true):=hs;go_enter Tryz.func270,Tryz.ntmps270;go_wp2_with fail;refine bodyPost_ret (by simp [results,Tryz.results270,go_sem];try rfl) rfl ?_;refine ⟨rfl,?_⟩
 (repeat' first | assumption | exact Below.refl _ _ | exact lR7 | refine Below.alloc ?_ ?_ _ | refine Below.setCell ?_ ?_ _ | (simp;done) | (simp;omega))
def iA0 (p:Int) (X:List Ord):Int:=(X.map fun o=>if wilP p o=true then o.qty else 0).sum
theorem qC0 {X:List Ord} {k:Nat} (p:Int) (h:k<X.length):iA0 p (X.take (k+1))=iA0 p (X.take k)+(if wilP p (oAt X k)=true then (oAt X k).qty else 0):=by
 unfold iA0;rw [List.take_succ_eq_append_getElem h,List.map_append,List.sum_append,←fS0 h];simp
theorem jQ1 {f:Ord→Int} {a b:List Ord} (h:a.Perm b):(a.map f).sum=(b.map f).sum:=by
 induction h with
 | nil=>rfl
 | cons x _ ih=>simp [ih]
 | swap x y l=>simp;omega
 | trans _ _ i1 i2=>exact i1.trans i2
theorem yG0 (s p:Int) (hs:s=1∨s=2):∀L:List Ord,iA0 p (cR0 s L)=wilL s p L
 | []=>rfl
 | o::L=>by
  have ih:=yG0 s p hs L;rw [bD0,←ih];unfold cR0
  by_cases h:(o.side == s)=true
  ·have e:(o::L).filter (fun o=>o.side == s)=o::L.filter (fun o=>o.side == s):=List.filter_cons_of_pos (by exact h);rw [e,h,Bool.true_and,←oH1 hs (beq_iff_eq.1 h)];rfl
  ·have e:(o::L).filter (fun o=>o.side == s)=L.filter (fun o=>o.side == s):=List.filter_cons_of_neg (by exact h);rw [e,if_neg (by rw [show (o.side == s)=false from Bool.eq_false_iff.2 h];simp)];omega
theorem jR1 {s p:Int} (hs:s=1∨s=2) (L:List Ord):iA0 p (aK0 s L)=wilL s p L:=by
 rw [←yG0 s p hs L];exact jQ1 (dO0 _ _)
theorem yH0 {p:Int} {X:List Ord} (h:∀o∈X,1≤o.qty∧o.qty≤1000000):∀k,k≤X.length→0≤iA0 p (X.take k)∧iA0 p (X.take k)≤1000000*(k:Int)
 | 0,_=>by simp [iA0]
 | k+1,hk=>by
  have ih:=yH0 (p:=p) h k (by omega);have hx:=h (oAt X k) (tD0 (by omega));rw [qC0 p (by omega)];split <;> omega
set_option maxRecDepth 4000 in
set_option maxHeartbeats 4000000 in
theorem yI0 (bb m s:Nat) (b:BkS) (L:List Ord) (p:Int) (pb:Nat) (w:World) (h:Bk w bb m b) (hl:Lnk b.S L) (hok:LOk L) (hs:s<2) (side:Int) (hsd:side=(s:Int)+1) (hp:w.heap[pb]? = some (.cells #[.int .i64 p] 3 (0,0))):
  Calls Tryz.prog 278 #[.pointer (some ⟨bb,0,none⟩),.int .i64 side,.func (.func 286) #[] #[.pointer (some ⟨pb,0,none⟩)]] w fun e w'=>e=.returned (.int .i64 (wilL side p L))∧Below w.heap.size w w':=by
 have H:Hid (Bk w bb m b):=h;have HL:Hid (Lnk b.S L):=hl;have HP:Hid (w.heap[pb]? = some (.cells #[.int .i64 p] 3 (0,0))):=hp;have HQ:Hid (∀o∈aK0 side L,1≤o.qty∧o.qty≤1000000):=fun o ho=>(hok.ok o (aP0.1 ho).1).2.2
 have hlen:(aK0 side L).length≤100:=Nat.le_trans (iE0 _ _) (rO0 h.ok hl);have HW:Hid (iA0 p (aK0 side L)=wilL side p L):=jR1 (by omega) L;have HSD:Hid (side=(s:Int)+1):=hsd;clear h hl hp hok hsd;go_enter Tryz.func278,Tryz.ntmps278;go_wp2_with fail;refine (dY1 bb m s b L w H.out HL.out hs side HSD.out).mono ?_;rintro e w1 ⟨v,rfl,h1,h2⟩;obtain ⟨xa,xc,rfl,_,_⟩:=aY0 h1;have HR:Hid _:=h1;have HB:Hid (Below w.heap.size w w1):=h2;have HP1:Hid (w1.heap[pb]? = some (.cells #[.int .i64 p] 3 (0,0))):=aD0 HP.out h2 lR7;clear h1 h2 HL H HP;generalize aK0 side L=X at *;go_wp2_with fail;go_loopw [7,9,14] (fun u7 _ u14 wr=>∃k:Nat,k≤X.length∧u14=.int .i64 k∧u7=.int .i64 (iA0 p (X.take k))∧Below w1.heap.size w1 wr) (fun _ _ u14 _=>X.length - (intOf u14).toNat)
 case atStart=>exact ⟨0,Nat.zero_le _,rfl,rfl,Below.refl _ _⟩
 case round=>
  obtain ⟨k,hk,rfl,rfl,hb⟩:=hrel;have HBR:Hid (Below w1.heap.size w1 wr):=hb
  by_cases hk1:k<X.length
  ·have hlt:(k:Int)<(X.length:Int):=by omega
   obtain ⟨g,cap,e,d0,d1,d2,d3,d4⟩:=iB0 (aS0 HR.out hb lR7) hk1;injection e with e1 _ e2;subst e1 e2;have hin:=yH0 (p:=p) HQ.out k hk;have HT:Hid (iA0 p (X.take (k+1))=iA0 p (X.take k)+(if wilP p (oAt X k)=true then (oAt X k).qty else 0)):=qC0 p hk1;have hq:=HQ.out (oAt X k) (tD0 hk1);generalize oAt X k=x at d0 d1 d2 d3 d4 HT hq;generalize iA0 p (X.take k)=n at *;clear hb;go_wp2_with fail;have hbA:=bel1 wr (.cells #[.int .i64 x.id,.int .i64 x.side,.int .i64 x.kind,.int .i64 x.price,.int .i64 x.qty] 92);have hxA:=heap_alloc_new wr (.cells #[.int .i64 x.id,.int .i64 x.side,.int .i64 x.kind,.int .i64 x.price,.int .i64 x.qty] 92);generalize wr.alloc (.cells #[.int .i64 x.id,.int .i64 x.side,.int .i64 x.kind,.int .i64 x.price,.int .i64 x.qty] 92)=W at hbA hxA ⊢;have HBW:Hid (Below w1.heap.size w1 W):=aC0 HBR.out hbA;refine (qZ1 p x pb W (aD0 HP1.out HBW.out lR7)).mono ?_;rintro e w4 ⟨rfl,hb4⟩;have x4:=aA0 (j:=4) (aD0 hxA hb4 lR7) rfl;have HB4:Hid (Below w1.heap.size w1 w4):=aC0 HBW.out hb4;clear hbA hxA hb4 d0 d1 d2 d3 d4;cases hw:wilP p x with
   | true=>
    have HT2:Hid (iA0 p (X.take (k+1))=n+x.qty):=by have:=HT.out;rw [hw,if_pos rfl] at this;exact this
    go_wp2_with fail;go_roundw
    case rel=>exact ⟨k+1,hk1,by go_num,by rw [HT2.out],HB4.out⟩
    case measure=>simp [intOf];omega
   | false=>
    have HT2:Hid (iA0 p (X.take (k+1))=n):=by have:=HT.out;rw [hw,if_neg (by decide)] at this;rw [this];exact Int.add_zero _
    go_wp2_with fail;go_roundw
    case rel=>exact ⟨k+1,hk1,by go_num,by rw [HT2.out],HB4.out⟩
    case measure=>simp [intOf];omega
  ·have hkx:k=X.length:=by omega
   have HT2:Hid (iA0 p (X.take k)=iA0 p X):=by show _=_;rw [List.take_of_length_le (by omega)]
   generalize iA0 p (X.take k)=n at *;clear hb;go_wp2_with fail;go_ret;exact ⟨by rw [HT2.out,HW.out];rfl,aC0 HB.out HBR.out⟩
theorem Tryz.infoFp:(Tryz.prog.info? 146).map (fun i=>(i.zero,i.size,i.bytes))=some (some (.agg #[.int .i64 0,.int .i64 0,.int .i64 0,.int .i64 0]),4,32):=by kernel_rfl
theorem Bk.farAny {w:World} {bb m base size n:Nat} {e:TypeId} {b:BkS} {v:Value} {xs:List Value} (h:Bk w bb m b) (hr:w.ownsRow base e size v n xs) (h1:e≠233) (h2:e≠297) (h3:e≠312) (h4:e≠3) (h5:e≠240):∀k,v.ownBlock=some k→¬b.foot bb k:=fun k hk f=>by
 rcases f with f | f | f | f | f
 ·exact aF0 hr h.at_.box h1.symm (by rw [hk,f])
 ·rcases f with f | f | f
  ·exact aF0 hr h.at_.ar.box h2.symm (by rw [hk,f])
  ·exact bJ0 hr h.at_.ar.slots h3 hk f
  ·exact bJ0 hr h.at_.ar.free h4 hk f
 ·exact cD0 hr h.at_.map (by rw [hk,f])
 ·exact bJ0 hr h.at_.row0 h5 hk f
 ·exact bJ0 hr h.at_.row1 h5 hk f
theorem Bk.farBox {w:World} {bb m k:Nat} {b:BkS} {vs:Array Value} {t:TypeId} (h:Bk w bb m b) (hk:w.heap[k]? = some (.cells vs t (0,0))) (h1:t≠233) (h2:t≠297) (h3:t≠312) (h4:t≠3) (h5:t≠240):¬b.foot bb k:=fun e=>by
 rcases e with e | e | e | e | e
 ·exact dV0 hk h.at_.box h1 e
 ·rcases e with e | e | e
  ·exact dV0 hk h.at_.ar.box h2 e
  ·exact aF0 h.at_.ar.slots hk h3 e
  ·exact aF0 h.at_.ar.free hk h4 e
 ·exact h.at_.map.ne hk e
 ·exact aF0 h.at_.row0 hk h5 e
 ·exact aF0 h.at_.row1 hk h5 e
set_option maxRecDepth 4000 in
set_option maxHeartbeats 4000000 in
theorem cpFills_no (bb m:Nat) (b:BkS) (L:List Ord) (p q:Int) (w:World) (h:Bk w bb m b) (hl:Lnk b.S L) (hok:LOk L) (hno:¬(1≤q∧q≤min (wilL 1 p L) (wilL 2 p L))):
  Calls Tryz.prog 245 #[.pointer (some ⟨bb,0,none⟩),.int .i64 p,.int .i64 q] w fun e w'=>e=.returned (.tuple #[.slice none 0 0,.iface 26 (.int .i64 2)])∧Below w.heap.size w w':=by
 have H:Hid (Bk w bb m b):=h;have HL:Hid (Lnk b.S L):=hl;have HK:Hid (LOk L):=hok;clear h hl hok;go_enter Tryz.func245,Tryz.ntmps245;go_wp2_with fail;refine (oD0 p w).mono ?_;rintro e w1 ⟨rfl,rfl⟩;have hb1:=bel1 w (.cells #[.int .i64 p] 3);have hp1:=heap_alloc_new w (.cells #[.int .i64 p] 3);generalize w.alloc (.cells #[.int .i64 p] 3)=w1 at hb1 hp1 ⊢;have HB1:Hid (Below w.heap.size w w1):=hb1;have HP1:Hid _:=hp1;clear hb1 hp1
 by_cases hq:q<1
 ·go_wp2_with fail;go_ret2;exact ⟨rfl,HB1.out⟩
 ·have hq2:decide (q>min (wilL 1 p L) (wilL 2 p L))=true:=decide_eq_true (by omega);go_wp2_with fail;refine (yI0 bb m 0 b L p w.heap.size w1 (H.out.below HB1.out lR7) HL.out HK.out (by decide) 1 rfl HP1.out).mono ?_;rintro e w2 ⟨rfl,hb2⟩;have HB2:Hid (Below w.heap.size w w2):=aC0 HB1.out hb2;have HP2:Hid _:=aD0 HP1.out hb2 lR7;clear hb2;go_wp2_with fail;refine (yI0 bb m 1 b L p w.heap.size w2 (H.out.below HB2.out lR7) HL.out HK.out (by decide) 2 rfl HP2.out).mono ?_;rintro e w3 ⟨rfl,hb3⟩;have HB3:Hid (Below w.heap.size w w3):=aC0 HB2.out hb3;clear hb3;go_wp2_with fail;go_ret2;exact ⟨rfl,HB3.out⟩
def FBox (w:World) (b:Nat) (f:Fil):Prop:=w.heap[b]? = some (.cells #[.int .i64 f.buyer,.int .i64 f.seller,.int .i64 f.price,.int .i64 f.qty] 146 (0,0))
structure Cpt (w W:World) (bb m:Nat) (b b':BkS) (L:List Ord) (fs:List Fil) (vf:Value):Prop where
 bk:Bk W bb m b'
 lnk:Lnk b'.S L
 since:nP0 w W bb b b'
 fils:W.ownsRow w.heap.size 146 4 vf fs.length (fV fs)
section
variable {w W W':World} {bb m m' k:Nat} {b b' b2:BkS} {L L':List Ord} {fs:List Fil} {vf v':Value} {x:Ord} {f:Fil} {obj:Obj}
theorem Cpt.below (h:Cpt w W bb m b b' L fs vf) (hb:Below W.heap.size W W'):Cpt w W' bb m b b' L fs vf:=⟨h.bk.below hb lR7,h.lnk,h.since.below hb,aS0 h.fils hb lR7⟩
theorem Cpt.goes (h:Cpt w W bb m b b' L fs vf) (hg:Goes W W' bb m' b' b2) (hl:Lnk b2.S L'):Cpt w W' bb m' b b2 L' fs vf:=
 ⟨hg.1,hl,h.since.goes hg,aL0 h.fils hg.2.1 (h.bk.farAny h.fils (by decide) (by decide) (by decide) (by decide) (by decide))⟩
theorem Cpt.pushed (_:Cpt w W bb m b b' L fs vf) (hg:(W.alloc obj).grownBy W' vf.ownBlock):Out (fun j=>vf.ownBlock=some j) W W':=bA0 (cU0 (Out.refl _ _) _) (Out.of_grown hg (fun _ hk=>hk))
theorem Cpt.push (h:Cpt w W bb m b b' L fs vf) (hg:(W.alloc obj).grownBy W' vf.ownBlock) (hn:W'.ownsRow w.heap.size 146 4 v' (fs.length+1) (fV fs++[.int .i64 f.buyer,.int .i64 f.seller,.int .i64 f.price,.int .i64 f.qty])):Cpt w W' bb m b b' L (fs++[f]) v':=by
 have h6:=h.pushed hg;refine ⟨h.bk.out h6 (fun k hk e=>h.bk.farAny h.fils (by decide) (by decide) (by decide) (by decide) (by decide) k e hk),h.lnk,⟨h.since.1.trans h6 (fun k hk=>Or.inr (h.fils.lt k hk).1),h.since.2⟩,?_⟩;rw [cT1,List.length_append,List.length_singleton];exact hn
theorem Cpt.boxF (h:Cpt w W bb m b b' L fs vf) (hg:Goes W W' bb m' b' b2) (hx:FBox W k f):FBox W' k f:=aE0 hx hg.2.1 (h.bk.farBox hx (by decide) (by decide) (by decide) (by decide) (by decide))
theorem dZ1 (hl:Lnk b.S L) {s:Nat} (hs:s<2) {T:List Ord} (h:aK0 ((s:Int)+1) L=x::T):vQ0 ((b.S s).map Ly.o)=.tuple #[.agg #[.int .i64 x.id,.int .i64 x.side,.int .i64 x.kind,.int .i64 x.price,.int .i64 x.qty],.nilIface]:=by
 rw [hl.side s hs,h];rfl
theorem mL1 (h:Bk w bb m b) (hl:Lnk b.S L) (hx:x∈L):(Lit.int .i64 x.id).wf=true:=by
 obtain ⟨s,hs,y,hy,rfl⟩:=hl.mem.1 hx;exact (h.ok.ok s hs y hy).2.1
end
theorem oE0 (bb m:Nat) (b:BkS) (L:List Ord) (o:Ord) (n:Int) (w:World) (h:Bk w bb m b) (hm:m+1≤900000) (hl:Lnk b.S L) (hok:LOk L) (ho:o∈L) (hn:1≤n∧n≤o.qty):
  Calls Tryz.prog 271 #[.pointer (some ⟨bb,0,none⟩),.int .i64 o.id,.int .i64 n] w fun e w'=>∃err,e=.returned err∧∃b',Lnk b'.S (bE0 o.id n L)∧Goes w w' bb (m+1) b b':=by
 refine (jP1 h hm hl o.id n (mL1 h hl ho)).mono ?_;rintro e w' ⟨err,rfl,_,b',h1,h2⟩;rw [(cU1 hok ho hn).1] at h1;exact ⟨err,rfl,b',h1,h2⟩
set_option maxRecDepth 4000 in
set_option maxHeartbeats 8000000 in
theorem oJ1 (bb m:Nat) (b:BkS) (L:List Ord) (p q:Int) (w:World) (h:Bk w bb m b) (hm:m≤800000) (hl:Lnk b.S L) (hok:LOk L) (hq:1≤q∧q≤min (wilL 1 p L) (wilL 2 p L)):
  Calls Tryz.prog 245 #[.pointer (some ⟨bb,0,none⟩),.int .i64 p,.int .i64 q] w fun e w'=>∃(K:Nat) (vf:Value),e=.returned (.tuple #[vf,.nilIface])∧(aQ0 p ⟨[],L,q⟩ K).q=0∧(∀j,j<K→0<(aQ0 p ⟨[],L,q⟩ j).q)∧∃b',Cpt w w' bb (m+2*K) b b' (aQ0 p ⟨[],L,q⟩ K).L (aQ0 p ⟨[],L,q⟩ K).fs vf:=by
 obtain ⟨iF,hiF,hF0,hF1,hF2⟩:=info_parts Tryz.infoFp;have H:Hid (Bk w bb m b):=h;have HL:Hid (Lnk b.S L):=hl;have HK:Hid (LOk L):=hok;have HF0:Hid (FOk p ⟨[],L,q⟩):=⟨hok,by show 0≤q;omega,by show q≤wilL 1 p L;omega,by show q≤wilL 2 p L;omega⟩;have hL100:L.length≤100:=rO0 h.ok hl;have hqs:q≤100000000:=by have:=cV1 1 p hok;omega
 have hq1:¬q<1:=by omega
 have hq2:decide (q>min (wilL 1 p L) (wilL 2 p L))=false:=decide_eq_false (by omega);clear h hl hok hq;go_enter Tryz.func245,Tryz.ntmps245;go_wp2_with fail;refine (oD0 p w).mono ?_;rintro e w1 ⟨rfl,rfl⟩;have hb1:=bel1 w (.cells #[.int .i64 p] 3);have hp1:=heap_alloc_new w (.cells #[.int .i64 p] 3);generalize w.alloc (.cells #[.int .i64 p] 3)=w1 at hb1 hp1 ⊢;have HB1:Hid (Below w.heap.size w w1):=hb1;have HP1:Hid _:=hp1;clear hb1 hp1;go_wp2_with fail;refine (yI0 bb m 0 b L p w.heap.size w1 (H.out.below HB1.out lR7) HL.out HK.out (by decide) 1 rfl HP1.out).mono ?_;rintro e w2 ⟨rfl,hb2⟩;have HB2:Hid (Below w.heap.size w w2):=aC0 HB1.out hb2;have HP2:Hid _:=aD0 HP1.out hb2 lR7;clear hb2;go_wp2_with fail;refine (yI0 bb m 1 b L p w.heap.size w2 (H.out.below HB2.out lR7) HL.out HK.out (by decide) 2 rfl HP2.out).mono ?_;rintro e w3 ⟨rfl,hb3⟩;have HB3:Hid (Below w.heap.size w w3):=aC0 HB2.out hb3;clear hb3;go_wp2_with fail;clear hq2 hq1;go_loopw [2,9,10,11,12,13,14] (fun u2 u9 _ _ _ _ _ wr=>∃(k:Nat) (b':BkS),u2=.int .i64 (aQ0 p ⟨[],L,q⟩ k).q∧(∀j,j<k→0<(aQ0 p ⟨[],L,q⟩ j).q)∧(aQ0 p ⟨[],L,q⟩ k).fs.length=k∧(k:Int)+(aQ0 p ⟨[],L,q⟩ k).q≤q∧Cpt w wr bb (m+2*k) b b' (aQ0 p ⟨[],L,q⟩ k).L (aQ0 p ⟨[],L,q⟩ k).fs u9) (fun u2 _ _ _ _ _ _ _=>(intOf u2).toNat)
 case atStart=>exact ⟨0,b,rfl,fun j hj=>absurd hj (by omega),rfl,by show (0:Int)+q≤q;omega,H.out.below HB3.out lR7,HL.out,(nP0.refl _ _ _).below HB3.out,World.ownsRow_nil _ _ _ _⟩
 case round=>
  obtain ⟨k,b',rfl,hj,hfl,hkq,hC⟩:=hrel;have HJ:Hid (∀j,j<k→0<(aQ0 p ⟨[],L,q⟩ j).q):=hj;have HFO:Hid (FOk p (aQ0 p ⟨[],L,q⟩ k)):=gH0 HF0.out k hj;have hq0:=HFO.out.nn;have HC:Hid (Cpt w wr bb (m+2*k) b b' (aQ0 p ⟨[],L,q⟩ k).L (aQ0 p ⟨[],L,q⟩ k).fs u9):=hC;obtain ⟨fa,fc,rfl,_,_⟩:=aY0 hC.fils;have HFL:Hid ((aQ0 p ⟨[],L,q⟩ k).fs.length=k):=hfl;clear hj hfl
  by_cases hq1:0<(aQ0 p ⟨[],L,q⟩ k).q
  ·have HST:Hid (aQ0 p ⟨[],L,q⟩ (k+1)=eC0 p (aQ0 p ⟨[],L,q⟩ k)):=rfl
   have HJ2:Hid (∀j,j<k+1→0<(aQ0 p ⟨[],L,q⟩ j).q):=fun j hj=>by
    by_cases e:j=k
    ·subst e;exact hq1
    ·exact HJ.out j (by omega)
   have hfew:k+(aQ0 p ⟨[],L,q⟩ k).L.length≤L.length:=gQ0 HF0.out k HJ2.out;obtain ⟨⟨x,T,y,U,hS1,hS2,hbx,hby,hxL,hyL,hy1,n1,n2,n3,n4,c1,hL2,c2,c4,ok1⟩,hFO2⟩:=hK0 HFO.out hq1;generalize aQ0 p ⟨[],L,q⟩ k=s at *;have HLN:Hid (lotN s=min x.qty (min y.qty s.q)):=by show lotN s=_;unfold lotN;rw [hbx,hby];omega
   have HFS:Hid ((eC0 p s).fs=s.fs++[⟨x.id,y.id,p,lotN s⟩]∧(eC0 p s).q=s.q - lotN s):=⟨by show s.fs++[_]=_;rw [hbx,hby],rfl⟩;have HBX:Hid (vQ0 ((b'.S 0).map Ly.o)=.tuple #[.agg #[.int .i64 x.id,.int .i64 x.side,.int .i64 x.kind,.int .i64 x.price,.int .i64 x.qty],.nilIface]):=dZ1 hC.lnk (by decide) hS1;have HBY:Hid (vQ0 ((b'.S 1).map Ly.o)=.tuple #[.agg #[.int .i64 y.id,.int .i64 y.side,.int .i64 y.kind,.int .i64 y.price,.int .i64 y.qty],.nilIface]):=dZ1 hC.lnk (by decide) hS2;have HM:Hid (x∈s.L∧y∈bE0 x.id (lotN s) s.L∧LOk (bE0 x.id (lotN s) s.L)∧(eC0 p s).L=bE0 y.id (lotN s) (bE0 x.id (lotN s) s.L)∧lotN s≤x.qty∧lotN s≤y.qty):=⟨hxL,hy1,ok1,hL2,n3,n4⟩;have px:=HFO.out.ok.ok x hxL;have py:=HFO.out.ok.ok y hyL
   have hxs:(x.side == 2)=false:=by
    have:x∈aK0 1 s.L:=by rw [hS1];exact List.mem_cons_self ..
    rw [(aP0.1 this).2];rfl
   clear hS1 hS2 hbx hby hxL hyL hy1 c1 hL2 c2 c4 ok1 n3 n4 HJ hC;go_wp2_with fail;refine (mH1 bb (m+2*k) 0 b' wr HC.out.bk (by decide) 1 rfl).mono ?_;rintro e w4 ⟨rfl,hb4⟩;rw [HBX.out];have HC4:Hid _:=HC.out.below hb4;clear hb4 HC;go_wp2_with fail;have hb5:=bel1 w4 (.cells #[.int .i64 x.id,.int .i64 x.side,.int .i64 x.kind,.int .i64 x.price,.int .i64 x.qty] 92);have hx5:=heap_alloc_new w4 (.cells #[.int .i64 x.id,.int .i64 x.side,.int .i64 x.kind,.int .i64 x.price,.int .i64 x.qty] 92);generalize w4.alloc (.cells #[.int .i64 x.id,.int .i64 x.side,.int .i64 x.kind,.int .i64 x.price,.int .i64 x.qty] 92)=w5 at hb5 hx5 ⊢;have HC5:Hid _:=HC4.out.below hb5;clear hb5 HC4;refine (mH1 bb (m+2*k) 1 b' w5 HC5.out.bk (by decide) 2 rfl).mono ?_;rintro e w6 ⟨rfl,hb6⟩;rw [HBY.out];have HC6:Hid _:=HC5.out.below hb6;have hx6:=aD0 hx5 hb6 lR7;clear hb6 HC5 hx5;have HX6:Hid _:=hx6;clear hx6;have hne:∀j,(Value.slice fa s.fs.length fc).ownBlock=some j→j<w6.heap.size:=fun j hj=>(HC6.out.fils.lt j hj).2
   have HNE:Hid _:=hne;clear hne;go_upto_region 8 with fail;have hb7:=bel1 w6 (.cells #[.int .i64 y.id,.int .i64 y.side,.int .i64 y.kind,.int .i64 y.price,.int .i64 y.qty] 92);have hy7:=heap_alloc_new w6 (.cells #[.int .i64 y.id,.int .i64 y.side,.int .i64 y.kind,.int .i64 y.price,.int .i64 y.qty] 92);generalize w6.alloc (.cells #[.int .i64 y.id,.int .i64 y.side,.int .i64 y.kind,.int .i64 y.price,.int .i64 y.qty] 92)=w7 at hb7 hy7 ⊢;have HC7:Hid _:=HC6.out.below hb7;have hx7:=aD0 HX6.out hb7 lR7;have hz7:w6.heap.size≤w7.heap.size:=hb7.size;have x0:=aA0 (j:=0) hx7 rfl;have x1:=aA0 (j:=1) hx7 rfl;have x2:=aA0 (j:=2) hx7 rfl;have x3:=aA0 (j:=3) hx7 rfl;have x4:=aA0 (j:=4) hx7 rfl;have y0:=aA0 (j:=0) hy7 rfl;have y1:=aA0 (j:=1) hy7 rfl;have y2:=aA0 (j:=2) hy7 rfl;have y3:=aA0 (j:=3) hy7 rfl;have y4:=aA0 (j:=4) hy7 rfl;clear hb7 hx7 hy7 HX6 HC6;generalize w4.heap.size=xb at *;generalize w6.heap.size=yb at *;go_wp2_with fail;refine (qB0 x y p w7 hxs).mono ?_;rintro e w8 ⟨rfl,hb8⟩;have HC8:Hid _:=HC7.out.below hb8;have hz8:w7.heap.size≤w8.heap.size:=hb8.size;clear hb8 HC7 x0 x1 x2 x3 x4 y0 y1 y2 y3 y4;go_upto_region 9 with fail;have hb9:=bel1 w8 (.cells #[.int .i64 x.id,.int .i64 y.id,.int .i64 p,.int .i64 (min x.qty y.qty)] 146);have hf9:=heap_alloc_new w8 (.cells #[.int .i64 x.id,.int .i64 y.id,.int .i64 p,.int .i64 (min x.qty y.qty)] 146);generalize w8.alloc (.cells #[.int .i64 x.id,.int .i64 y.id,.int .i64 p,.int .i64 (min x.qty y.qty)] 146)=w9 at hb9 hf9 ⊢;have f3:=aA0 (j:=3) hf9 rfl;have ff3:=aB0 (j:=3) hf9;have HF9:Hid _:=hf9;have HB9:Hid _:=hb9;clear hf9 hb9;go_upto_region 10 with fail;have hb10:=HB9.out.setCell (p:=⟨w8.heap.size,3,none⟩) lR7 (.int .i64 (min x.qty (min y.qty s.q)));have hf10:FBox (w9.setCell ⟨w8.heap.size,3,none⟩ (.int .i64 (min x.qty (min y.qty s.q)))) w8.heap.size ⟨x.id,y.id,p,min x.qty (min y.qty s.q)⟩:=aH0 (j:=3) (.int .i64 (min x.qty (min y.qty s.q))) HF9.out;generalize w9.setCell ⟨w8.heap.size,3,none⟩ (.int .i64 (min x.qty (min y.qty s.q)))=w10 at hb10 hf10 ⊢;have HC10:Hid _:=HC8.out.below hb10;have hnb:(Value.slice fa s.fs.length fc).ownBlock≠some w8.heap.size:=fun e=>by have:=HNE.out _ e;omega
   have HNB:Hid _:=hnb;clear hb10 HC8 HB9 HF9 f3 ff3 hnb HNE hz7 hz8;generalize w8.heap.size=fb at *;have HF10:Hid (FBox w10 fb ⟨x.id,y.id,p,min x.qty (min y.qty s.q)⟩):=hf10;have f0:w10.cell? ⟨fb,0,none⟩=some (.int .i64 x.id):=aA0 (j:=0) hf10 rfl;have f3:w10.cell? ⟨fb,3,none⟩=some (.int .i64 (min x.qty (min y.qty s.q))):=aA0 (j:=3) hf10 rfl;rw [HLN.out] at HFS HM n1 n2;clear hf10;go_wp2_with fail;refine (oE0 bb (m+2*k) b' s.L x (min x.qty (min y.qty s.q)) w10 HC10.out.bk (by omega) HC10.out.lnk HFO.out.ok HM.out.1 ⟨n1,HM.out.2.2.2.2.1⟩).mono ?_;rintro e w11 ⟨err1,rfl,b1,hl1,hg1⟩;have hf11:=HC10.out.boxF hg1 HF10.out;have HC11:Hid _:=HC10.out.goes hg1 hl1;have HF11:Hid (FBox w11 fb ⟨x.id,y.id,p,min x.qty (min y.qty s.q)⟩):=hf11;clear f0 f3 hl1 hg1 HC10 HF10;have f1:w11.cell? ⟨fb,1,none⟩=some (.int .i64 y.id):=aA0 (j:=1) hf11 rfl;have f3:w11.cell? ⟨fb,3,none⟩=some (.int .i64 (min x.qty (min y.qty s.q))):=aA0 (j:=3) hf11 rfl;clear hf11;go_wp2_with fail;refine (oE0 bb (m+2*k+1) b1 (bE0 x.id (min x.qty (min y.qty s.q)) s.L) y (min x.qty (min y.qty s.q)) w11 HC11.out.bk (by omega) HC11.out.lnk HM.out.2.2.1 HM.out.2.1 ⟨n1,HM.out.2.2.2.2.2⟩).mono ?_;rintro e w12 ⟨err2,rfl,b2,hl2,hg2⟩;have hf12:=HC11.out.boxF hg2 HF11.out;have HC12:Hid _:=HC11.out.goes hg2 hl2;have HF12:Hid (FBox w12 fb ⟨x.id,y.id,p,min x.qty (min y.qty s.q)⟩):=hf12;clear f1 f3 hl2 hg2 HC11 HF11;have g0:w12.cell? ⟨fb,0,none⟩=some (.int .i64 x.id):=aA0 (j:=0) hf12 rfl;have g1:w12.cell? ⟨fb,1,none⟩=some (.int .i64 y.id):=aA0 (j:=1) hf12 rfl;have g2:w12.cell? ⟨fb,2,none⟩=some (.int .i64 p):=aA0 (j:=2) hf12 rfl;have g3:w12.cell? ⟨fb,3,none⟩=some (.int .i64 (min x.qty (min y.qty s.q))):=aA0 (j:=3) hf12 rfl;clear hf12;have hln:s.fs.length≤100:=by have:=HFL.out;omega
   have hwz:w.heap.size≤w12.heap.size:=HC12.out.since.1.size;go_wp2_with (at_builtin;refine wpList_append_own_at _ rfl _ _ 93 rfl w.heap.size 146 iF (.agg #[.int .i64 0,.int .i64 0,.int .i64 0,.int .i64 0]) 4 32 Tryz.underlying93 hiF hF0 hF1 hF2 rfl (by decide) _ s.fs.length (fV s.fs) rfl (HC12.out.fils.alloc _) ⟨w12.heap.size,0,none⟩ 1 1 [.int .i64 x.id,.int .i64 y.id,.int .i64 p,.int .i64 (min x.qty (min y.qty s.q))] rfl rfl (World.news_of_block (cs:=#[.int .i64 x.id,.int .i64 y.id,.int .i64 p,.int .i64 (min x.qty (min y.qty s.q))]) (t:=146) (fr:=(0,0)) (heap_alloc_new w12 _)) (by simp [Value.oneCell']) (by unfold maxLen;omega) (by omega) (by simp;omega) ?_;intro v13 w13 hown13 hgrow13 _ _;have f13:=aE0 HF12.out (HC12.out.pushed hgrow13) HNB.out;have c13:w13.cell? ⟨fb,3,none⟩=some (.int .i64 (min x.qty (min y.qty s.q))):=aA0 (j:=3) f13 rfl;have HC13:Hid _:=HC12.out.push (f:=⟨x.id,y.id,p,min x.qty (min y.qty s.q)⟩) hgrow13 hown13;clear f13 hown13 hgrow13 g0 g1 g2 g3);go_roundw
   case rel=>
    have hk0:s.fs.length=k:=HFL.out;refine ⟨k+1,b2,?_,HJ2.out,?_,?_,?_⟩
    ·rw [HST.out,HFS.out.2];try go_num
    ·rw [HST.out,HFS.out.1,List.length_append,List.length_singleton,hk0]
    ·rw [HST.out,HFS.out.2];omega
    ·rw [HST.out,HFS.out.1,HM.out.2.2.2.1];exact HC13.out
   case measure=>simp [intOf];omega
  ·go_wp2_with fail;go_ret2;exact ⟨k,_,rfl,by omega,HJ.out,b',HC.out⟩
end Go.Proofs.YtaelphbianmckaaGreatDoor
