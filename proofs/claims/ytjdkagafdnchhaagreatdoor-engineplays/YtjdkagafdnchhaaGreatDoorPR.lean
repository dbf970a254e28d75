/- A part of the proof of EnginePlays. -/
import Derived.Test.YtjdkagafdnchhaaGreatDoorPQ
import Derived.Test.YtjdkagafdnchhaaGreatDoorPN
import Derived.Test.YtjdkagafdnchhaaGreatDoorPH
import Derived.Test.YtjdkagafdnchhaaGreatDoorPG
import Derived.BigRegion
import Derived.Test.YtjdkagafdnchhaaGreatDoorPA
import Derived.Test.YtjdkagafdnchhaaGreatDoorPF
import Derived.Deep.Upon
namespace Go.Proofs.YtjdkagafdnchhaaGreatDoor
open Go.RowKit
theorem kV1 {L:List Ord} (h:LOk L) {s p:Int} (hs:s=1∨s=2) {x o:Ord} (hx:x∈L) (ho:o∈L) (hr:eS0 s x≤eS0 s o) (hw:wilB s p o=true):wilB s p x=true:=by
 have px:=h.ok x hx;have po:=h.ok o ho;unfold eS0 lU0 at hr;unfold wilB at hw ⊢
 by_cases kx:x.kind=2
 ·rw [kx];rfl
 ·rw [if_neg kx] at hr
  by_cases ko:o.kind=2
  ·rw [if_pos ko] at hr;split at hr <;> omega
  ·rw [if_neg ko] at hr;have kob:(o.kind == 2)=false:=beq_eq_false_iff_ne.2 ko;have kxb:(x.kind == 2)=false:=beq_eq_false_iff_ne.2 kx;rw [kob,Bool.false_or] at hw;rw [kxb,Bool.false_or];rcases hs with rfl | rfl
   ·rw [if_pos rfl,if_pos rfl] at hr;simp at hw ⊢;omega
   ·rw [if_neg (by decide),if_neg (by decide)] at hr;simp at hw ⊢;omega
theorem fV1 {s p:Int} {l l':List Ord} (h:l.Perm l'):wilL s p l=wilL s p l':=by
 induction h with
 | nil=>rfl
 | cons x _ ih=>rw [bQ0,bQ0,ih]
 | swap x y l=>rw [bQ0,bQ0,bQ0,bQ0];omega
 | trans _ _ i1 i2=>exact i1.trans i2
theorem pJ0 {s p:Int}:∀l:List Ord,wilL s p (aX0 s l)=wilL s p l
 | []=>rfl
 | o::T=>by
  have ih:=pJ0 (s:=s) (p:=p) T;unfold aX0 at ih ⊢
  by_cases hf:(o.side == s)=true
  ·rw [List.filter_cons_of_pos (p:=fun x:Ord=>x.side == s) hf,bQ0,bQ0,ih]
  ·rw [List.filter_cons_of_neg (p:=fun x:Ord=>x.side == s) hf,bQ0,ih,if_neg (by simp only [Bool.and_eq_true];exact fun e=>hf e.1),Int.zero_add]
theorem fW1 (s p:Int) (l:List Ord):wilL s p (aJ0 s l)=wilL s p l:=
 (fV1 (eM0 (eS0 s) (aX0 s l))).trans (pJ0 l)
theorem fX1 {s p:Int}:∀{l:List Ord},(∀o∈l,1≤o.qty)→0≤wilL s p l
 | [],_=>by simp [wilL]
 | o::T,h=>by
  have:=fX1 (s:=s) (p:=p) (l:=T) (fun x hx=>h x (List.mem_cons_of_mem _ hx));have:=h o (List.mem_cons_self ..);rw [bQ0];split <;> omega
theorem qZ0 {s p:Int}:∀{A T:List Ord} {o:Ord},(∀x∈A++o::T,1≤x.qty)→(∀x∈A,(x.side == s&& wilB s p x)=true)→(o.side == s&& wilB s p o)=true→sumO A+o.qty≤wilL s p (A++o::T)
 | [],T,o,hq,_,ho=>by
  have:=fX1 (s:=s) (p:=p) (l:=T) (fun x hx=>hq x (by rw [List.nil_append];exact List.mem_cons_of_mem _ hx));rw [List.nil_append,bQ0,if_pos ho,sumO];omega
 | a::A,T,o,hq,hA,ho=>by
  have ih:=qZ0 (A:=A) (T:=T) (fun x hx=>hq x (List.mem_cons_of_mem _ hx)) (fun x hx=>hA x (List.mem_cons_of_mem _ hx)) ho;rw [List.cons_append,bQ0,if_pos (hA a (List.mem_cons_self ..)),sumO];omega
theorem lG0 {L:List Ord} (h:LOk L) {s p q:Int} (hs:s=1∨s=2) (h0:0≤q) {y:Ord} (hy:y∈eatL q (aJ0 s L)):∃o∈L,o.side=s∧o.kind=y.kind∧o.price=y.price∧(wilB s p o=true→q<wilL s p L):=by
 have key:∀{Z:List Ord} {n:Int},(∀x∈Z,1≤x.qty)→0≤n→y∈eatL n Z→∃A o T,Z=A++o::T∧o.kind=y.kind∧o.price=y.price∧n<sumO A+o.qty:=by
  intro Z
  induction Z with
  | nil=>intro n _ _ hy;cases hy
  | cons z Z ih=>
   intro n hz hn hy;have hz1:=hz z (List.mem_cons_self ..);have hzs:∀x∈Z,1≤x.qty:=fun x hx=>hz x (List.mem_cons_of_mem _ hx)
   have hin:y∈Z→n<z.qty→∃A o T,z::Z=A++o::T∧o.kind=y.kind∧o.price=y.price∧n<sumO A+o.qty:=fun hyZ hlt=>by
    obtain ⟨A,T,e⟩:=List.append_of_mem hyZ;subst e;have hA:0≤sumO A:=fU1 (fun x hx=>hzs x (List.mem_append_left _ hx));have hy1:=hzs y hyZ;exact ⟨z::A,y,T,rfl,rfl,rfl,by rw [sumO];omega⟩
   rw [eatL] at hy
   by_cases h1:n<z.qty
   ·rw [if_pos h1] at hy
    by_cases h2:n≤0
    ·rw [if_pos h2] at hy;rcases List.mem_cons.1 hy with e | hyZ
     ·subst e;exact ⟨[],y,Z,rfl,rfl,rfl,by rw [sumO];omega⟩
     ·exact hin hyZ h1
    ·rw [if_neg h2] at hy;rcases List.mem_cons.1 hy with e | hyZ
     ·subst e;exact ⟨[],z,Z,rfl,rfl,rfl,by rw [sumO];omega⟩
     ·exact hin hyZ h1
   ·rw [if_neg h1] at hy;obtain ⟨A,o,T,e,k1,k2,k3⟩:=ih hzs (by omega) hy;exact ⟨z::A,o,T,by rw [e];rfl,k1,k2,by rw [sumO];omega⟩
 have hqs:∀x∈aJ0 s L,1≤x.qty:=fun x hx=>(h.ok x (bC0.1 hx).1).2.2.1
 obtain ⟨A,o,T,e,k1,k2,k3⟩:=key hqs h0 hy;have hoS:o∈aJ0 s L:=by rw [e];exact List.mem_append_right _ (List.mem_cons_self ..)
 obtain ⟨hoL,hos⟩:=bC0.1 hoS;refine ⟨o,hoL,hos,k1,k2,fun hw=>?_⟩;have hsrt:=hL0 (rank:=eS0 s) (aX0 s L);rw [show iS0 (eS0 s) (aX0 s L)=A++o::T from e,List.pairwise_append] at hsrt
 have hf:sumO A+o.qty≤wilL s p (A++o::T):=qZ0 (fun x hx=>hqs x (by rw [e];exact hx)) (fun x hx=>by
  have hxS:x∈aJ0 s L:=by rw [e];exact List.mem_append_left _ hx
  obtain ⟨hxL,hxs⟩:=bC0.1 hxS;rw [Bool.and_eq_true];exact ⟨beq_iff_eq.2 hxs,kV1 h hs hxL hoL (hsrt.2.2 x hx o (List.mem_cons_self ..)) hw⟩) (by rw [Bool.and_eq_true];exact ⟨beq_iff_eq.2 hos,hw⟩)
 rw [←e,fW1] at hf;omega
theorem vD0 {L:List Ord} (h:LOk L) {q:Int} (h0:0≤q) (hb:∀p,1≤p→p≤1000000→min (wilL 1 p L) (wilL 2 p L)≤q) {x y:Ord} (hx:x∈eatL q (aJ0 1 L)) (hy:y∈eatL q (aJ0 2 L)):¬(x.kind=2∨y.kind=2∨y.price≤x.price):=fun ht=>by
 have most:∀p,1≤p→p≤1000000→(x.kind=2∨p≤x.price)→(y.kind=2∨y.price≤p)→False:=fun p p1 p2 c1 c2=>by
  obtain ⟨o,_,_,k1,k2,k3⟩:=lG0 (p:=p) h (Or.inl rfl) h0 hx;obtain ⟨z,_,_,j1,j2,j3⟩:=lG0 (p:=p) h (Or.inr rfl) h0 hy;have a1:=k3 (by unfold wilB;rw [k1,k2];rcases c1 with c | c <;> simp [c]);have a2:=j3 (by unfold wilB;rw [j1,j2];rcases c2 with c | c <;> simp [c]);have:=hb p p1 p2;omega
 obtain ⟨o,hoL,_,_,k2,_⟩:=lG0 (p:=1) h (Or.inl rfl) h0 hx;obtain ⟨z,hzL,_,_,j2,_⟩:=lG0 (p:=1) h (Or.inr rfl) h0 hy;have po:=h.ok o hoL;have pz:=h.ok z hzL;rcases ht with c | c | c
 ·exact most y.price (by omega) (by omega) (Or.inl c) (Or.inr (Int.le_refl _))
 ·exact most x.price (by omega) (by omega) (Or.inr (Int.le_refl _)) (Or.inl c)
 ·exact most y.price (by omega) (by omega) (Or.inr c) (Or.inr (Int.le_refl _))
theorem fY1 {l:List Ord} (h:LOk l) {o:Ord} (ho:o∈l):okO o=true:=by
 have h1:=h.side o ho;have h2:=h.ok o ho;unfold okO inC;simp only [Bool.and_eq_true,decide_eq_true_iff];omega
theorem xP0 {p:Int} {l:List Ord} (h:LOk l):demO p l=wilL 1 p l:=by
 unfold demO wilL
 congr 1
 refine List.map_congr_left (fun o ho=>?_)
 have e:eF0 p o=(o.side == 1&& wilB 1 p o):=by
  unfold eF0 wilB;rw [fY1 h ho];rcases h.side o ho with e | e <;> simp [e]
 rw [e]
theorem xQ0 {p:Int} {l:List Ord} (h:LOk l):supO p l=wilL 2 p l:=by
 unfold supO wilL
 congr 1
 refine List.map_congr_left (fun o ho=>?_)
 have e:cN0 p o=(o.side == 2&& wilB 2 p o):=by
  unfold cN0 wilB;rw [fY1 h ho];rcases h.side o ho with e | e <;> simp [e]
 rw [e]
theorem eP0 {l:List Ord} {more:Int} (around:Int) (h:LOk l) (hq:0<(aN0 (aR0 l more) around).qty):FOk (aN0 (aR0 l more) around).price ⟨[],l,(aN0 (aR0 l more) around).qty⟩:=by
 obtain ⟨e,_⟩:=bZ1 around hq;rw [xP0 h,xQ0 h] at e;exact ⟨h,by show 0≤(aN0 (aR0 l more) around).qty;omega,by show (aN0 (aR0 l more) around).qty≤wilL 1 _ l;omega,by show (aN0 (aR0 l more) around).qty≤wilL 2 _ l;omega⟩
theorem vE0 {l:List Ord} {more:Int} (around:Int) (h:LOk l) (hne:bA0 l more≠[]) {k:Nat} (hq:0<(aN0 (aR0 l more) around).qty) (hk:∀j,j<k→0<(aT0 (aN0 (aR0 l more) around).price ⟨[],l,(aN0 (aR0 l more) around).qty⟩ j).q) (hz:(aT0 (aN0 (aR0 l more) around).price ⟨[],l,(aN0 (aR0 l more) around).qty⟩ k).q=0) {x y:Ord}
  (hx:x∈aJ0 1 (aT0 (aN0 (aR0 l more) around).price ⟨[],l,(aN0 (aR0 l more) around).qty⟩ k).L) (hy:y∈aJ0 2 (aT0 (aN0 (aR0 l more) around).price ⟨[],l,(aN0 (aR0 l more) around).qty⟩ k).L):¬(x.kind=2∨y.kind=2∨y.price≤x.price):=by
 have hb:∀p,min (demO p l) (supO p l)≤(aN0 (aR0 l more) around).qty:=fun p=>qU0 around p hne
 have hF:=eP0 around h hq;generalize aN0 (aR0 l more) around=c at *;obtain ⟨e1,e2⟩:=vC0 hF k hk;rw [hz] at e1 e2;rw [e1] at hx;rw [e2] at hy;have ec:(⟨[],l,c.qty⟩:FS).q - 0=c.qty:=Int.sub_zero _;rw [ec] at hx hy;exact vD0 h (by omega) (fun p _ _=>by rw [←xP0 h,←xQ0 h];exact hb p) hx hy
def uncA (m:Mkt):List Fil×Mkt:=
 if 0<(aH0 m).qty then ((hV0 (aH0 m).price (aH0 m).qty m.L).fs,{ m with L:=(hV0 (aH0 m).price (aH0 m).qty m.L).L,an:=(aH0 m).price,la:=(aH0 m).price }) else ([],m)
theorem xR0 (m:Mkt):uncM m=((uncA m).1,{ (uncA m).2 with L:=limL (uncA m).2.L }):=by
 unfold uncM uncA;split <;> rfl
theorem vF0 {p:Int}:∀(n:Nat) {s:FS},FOk p s→FOk p (jW0 p n s)∧(jW0 p n s).L.length≤s.L.length
 | 0,_,h=>⟨h,lR7⟩
 | n+1,s,h=>by
  unfold jW0
  by_cases hq:s.q≤0
  ·rw [if_pos hq];exact ⟨h,lR7⟩
  ·rw [if_neg hq];obtain ⟨⟨x,T,y,U,_,_,_,_,_,_,_,_,_,_,_,_,e,_,_,_⟩,h1⟩:=gZ0 h (by omega);have h2:=vF0 n h1;refine ⟨h2.1,Nat.le_trans h2.2 ?_⟩;rw [e];have a1:=List.length_filter_le (fun o:Ord=>decide (0<o.qty)) ((bH0 x.id (lotN s) s.L).map (cutF y.id (lotN s)));have a2:=List.length_filter_le (fun o:Ord=>decide (0<o.qty)) (s.L.map (cutF x.id (lotN s)));rw [List.length_map] at a1 a2;exact Nat.le_trans a1 a2
theorem fZ1 {m:Mkt} (h:LOk m.L):LOk (uncA m).2.L∧(uncA m).2.L.length≤m.L.length:=by
 unfold uncA;split
 ·rename_i hq;have h1:=vF0 (m.L.length+1) (eP0 (more:=m.la) m.la h hq);exact ⟨h1.1.ok,h1.2⟩
 ·exact ⟨h,lR7⟩
theorem kW1 {m:Mkt} (h:LOk m.L) (hL:m.L.length≤100):(uncA m).2.L.length≤100:=Nat.le_trans (fZ1 h).2 hL
theorem rT1 {p r:Int} (h:hasB (folL p) r=true):¬r=p:=by
 intro e;subst e;unfold folL at h;split at h
 ·rename_i e;subst e;exact absurd h (by decide)
 split at h
 ·rename_i e;subst e;exact absurd h (by decide)
 split at h
 ·rename_i e;subst e;exact absurd h (by decide)
 split at h
 ·rename_i e;subst e;exact absurd h (by decide)
 ·cases h
theorem pK0 {p r:Int×Int} (h:rowE p r=0):¬r.2=p.2∧p.1<r.1:=by
 unfold rowE hT0 at h;split at h
 ·rename_i h1;refine ⟨rT1 h1,?_⟩;split at h
  ·cases h
  ·omega
 ·cases h
theorem lH0 {p r:Int×Int} {rs:List (Int×Int)} {k:Nat} (h:fH0 p k (r::rs)=(0,-1)):rowE p r=0∧fH0 r (k+1) rs=(0,-1):=by
 unfold fH0 at h;split at h
 ·rename_i e;exact ⟨e,h⟩
 ·rename_i e;exact absurd (congrArg Prod.fst h) e
theorem pL0 {p:Int×Int} {k:Nat} {now:Int}:∀{rs:List (Int×Int)},fH0 p k rs=(0,-1)→now≤p.1→∃n,aY0 p.2 now rs=(p.2,n)
 | [],_,_=>⟨-1,rfl⟩
 | r::rs,h,hn=>by
  obtain ⟨h1,_⟩:=lH0 h;have:=(pK0 h1).2;exact ⟨r.1,by unfold aY0;rw [if_pos (by omega)]⟩
theorem gB1 {now:Int} (h0:0≤now):∀{rs:List (Int×Int)} {p:Int×Int} {k:Nat},fH0 p k rs=(0,-1)→p.1≤now→
  ((aY0 p.2 now rs).2=now+1↔¬(aY0 p.2 (now+1) rs).1=(aY0 p.2 now rs).1)∧((aY0 p.2 now rs).2=-1∨now<(aY0 p.2 now rs).2)
   ∧((aY0 p.2 (now+1) rs).1=(aY0 p.2 now rs).1→(aY0 p.2 (now+1) rs).2=(aY0 p.2 now rs).2)
 | [],p,k,_,_=>by simp [aY0];omega
 | r::rs,p,k,h,hp=>by
  obtain ⟨h1,h2⟩:=lH0 h;obtain ⟨g1,g2⟩:=pK0 h1
  by_cases ha:r.1≤now
  ·have e1:aY0 p.2 now (r::rs)=aY0 r.2 now rs:=by unfold aY0;rw [if_neg (by omega)];cases rs <;> rfl
   have e2:aY0 p.2 (now+1) (r::rs)=aY0 r.2 (now+1) rs:=by unfold aY0;rw [if_neg (by omega)];cases rs <;> rfl
   rw [e1,e2];exact gB1 h0 h2 ha
  ·have e1:aY0 p.2 now (r::rs)=(p.2,r.1):=by unfold aY0;rw [if_pos (by omega)]
   by_cases hb:r.1=now+1
   ·obtain ⟨n,e3⟩:=pL0 (now:=now+1) h2 (by omega);have e2:aY0 p.2 (now+1) (r::rs)=(r.2,n):=by rw [←e3];unfold aY0;rw [if_neg (by omega)];cases rs <;> rfl
    rw [e1,e2];exact ⟨⟨fun _=>g1,fun _=>hb⟩,Or.inr (by simp;omega),fun e=>absurd e g1⟩
   ·have e2:aY0 p.2 (now+1) (r::rs)=(p.2,r.1):=by unfold aY0;rw [if_pos (by omega)]
    rw [e1,e2];exact ⟨⟨fun e=>absurd e hb,fun e=>absurd rfl e⟩,Or.inr (by simp;omega),fun _=>rfl⟩
theorem aB1 {rs:List (Int×Int)} (h:tabE rs=(0,-1)):0<rs.length∧bF0 rs 0=(0,1)∧fH0 (bF0 rs 0) 1 (rs.drop 1)=(0,-1):=by
 cases rs with
 | nil=>exact absurd (congrArg Prod.fst h) (by decide)
 | cons r rs=>
  rw [kV0] at h;split at h
  ·exact absurd (congrArg Prod.fst h) (by decide)
  split at h
  ·rename_i e;exact ⟨Nat.succ_pos _,e,h⟩
  ·exact absurd (congrArg Prod.fst h) (by decide)
theorem vG0 {now:Int}:∀{rs:List (Int×Int)} {p:Int×Int} {k:Nat},fH0 p k rs=(0,-1)→p.1≤now→
  (aY0 p.2 (now+1) rs).1=(aY0 p.2 now rs).1∨hasB (folL (aY0 p.2 now rs).1) (aY0 p.2 (now+1) rs).1=true
 | [],p,k,_,_=>Or.inl rfl
 | r::rs,p,k,h,hp=>by
  obtain ⟨h1,h2⟩:=lH0 h;obtain ⟨g1,g2⟩:=pK0 h1
  by_cases ha:r.1≤now
  ·have e1:aY0 p.2 now (r::rs)=aY0 r.2 now rs:=by unfold aY0;rw [if_neg (by omega)];cases rs <;> rfl
   have e2:aY0 p.2 (now+1) (r::rs)=aY0 r.2 (now+1) rs:=by unfold aY0;rw [if_neg (by omega)];cases rs <;> rfl
   rw [e1,e2];exact vG0 h2 ha
  ·have e1:aY0 p.2 now (r::rs)=(p.2,r.1):=by unfold aY0;rw [if_pos (by omega)]
   by_cases hb:r.1=now+1
   ·obtain ⟨n,e3⟩:=pL0 (now:=now+1) h2 (by omega);have e2:aY0 p.2 (now+1) (r::rs)=(r.2,n):=by rw [←e3];unfold aY0;rw [if_neg (by omega)];cases rs <;> rfl
    rw [e1,e2];right;show hasB (folL p.2) r.2=true;unfold rowE hT0 at h1
    by_cases hh:hasB (folL p.2) r.2=true
    ·exact hh
    ·rw [if_neg hh] at h1;cases h1
   ·have e2:aY0 p.2 (now+1) (r::rs)=(p.2,r.1):=by unfold aY0;rw [if_pos (by omega)]
    rw [e1,e2];exact Or.inl rfl
theorem rA0 {rs:List (Int×Int)} {now:Int} (h:tabE rs=(0,-1)) (h0:0≤now):(phaseV rs (now+1)).1=(phaseV rs now).1∨hasB (folL (phaseV rs now).1) (phaseV rs (now+1)).1=true:=by
 obtain ⟨_,h1,h2⟩:=aB1 h;exact vG0 h2 (by rw [h1];exact h0)
theorem gC1 {p r:Int} (h:hasB (folL p) r=true):(p=1∧r=2)∨(p=2∧r=3)∨(p=3∧(r=5∨r=7))∨(p=5∧r=7):=by
 unfold folL at h;split at h
 ·rename_i e;exact Or.inl ⟨e,by simpa [hasB] using h⟩
 split at h
 ·rename_i e;exact Or.inr (Or.inl ⟨e,by simpa [hasB] using h⟩)
 split at h
 ·rename_i e;exact Or.inr (Or.inr (Or.inl ⟨e,by simpa [hasB] using h⟩))
 split at h
 ·rename_i e;exact Or.inr (Or.inr (Or.inr ⟨e,by simpa [hasB] using h⟩))
 ·cases h
theorem rB0 {now:Int}:∀{rs:List (Int×Int)} {p:Int×Int} {k:Nat},fH0 p k rs=(0,-1)→(p.2=1∨p.2=2∨p.2=3∨p.2=5∨p.2=7)→(aY0 p.2 now rs).1=1∨(aY0 p.2 now rs).1=2∨(aY0 p.2 now rs).1=3∨(aY0 p.2 now rs).1=5∨(aY0 p.2 now rs).1=7
 | [],p,k,_,hp=>hp
 | r::rs,p,k,h,hp=>by
  obtain ⟨h1,h2⟩:=lH0 h
  by_cases ha:now<r.1
  ·have e1:aY0 p.2 now (r::rs)=(p.2,r.1):=by unfold aY0;rw [if_pos ha]
   rw [e1];exact hp
  ·have e1:aY0 p.2 now (r::rs)=aY0 r.2 now rs:=by unfold aY0;rw [if_neg ha];cases rs <;> rfl
   rw [e1];refine rB0 h2 ?_
   have hh:hasB (folL p.2) r.2=true:=by
    unfold rowE hT0 at h1
    by_cases hh:hasB (folL p.2) r.2=true
    ·exact hh
    ·rw [if_neg hh] at h1;cases h1
   rcases gC1 hh with ⟨_,e⟩ | ⟨_,e⟩ | ⟨_,e | e⟩ | ⟨_,e⟩ <;> omega
theorem rC0 {rs:List (Int×Int)} {now:Int} (h:tabE rs=(0,-1)):(phaseV rs now).1=1∨(phaseV rs now).1=2∨(phaseV rs now).1=3∨(phaseV rs now).1=5∨(phaseV rs now).1=7:=by
 obtain ⟨_,h1,h2⟩:=aB1 h;exact rB0 h2 (by rw [h1];exact Or.inl rfl)
def upF (f:Int→Int) (k v:Int):Int→Int:=fun x=>if x=k then v else f x
theorem fS0 (f:Int→Int) (k v:Int):upF f k v k=v:=if_pos rfl
theorem fB0 {f:Int→Int} {k v x:Int} (h:x≠k):upF f k v x=f x:=if_neg h
def dP0 (lots side:Int→Int) (L:List Ord):Prop:=∀x∈L,lots x.id=x.qty∧side x.id=x.side
theorem dP0.sub {lots side:Int→Int} {L L':List Ord} (h:dP0 lots side L) (hs:∀x∈L',x∈L):dP0 lots side L':=fun x hx=>h x (hs x hx)
theorem dP0.up {lots side:Int→Int} {L:List Ord} (h:dP0 lots side L) {k v:Int} (hk:∀x∈L,x.id≠k):dP0 (upF lots k v) side L:=fun x hx=>⟨(fB0 (hk x hx)).trans (h x hx).1,(h x hx).2⟩
theorem dP0.upS {lots side:Int→Int} {L:List Ord} (h:dP0 lots side L) {k v:Int} (hk:∀x∈L,x.id≠k):dP0 lots (upF side k v) L:=fun x hx=>⟨(h x hx).1,(fB0 (hk x hx)).trans (h x hx).2⟩
theorem sO0 {id n:Int} {L:List Ord} {x:Ord} (h:x∈bH0 id n L):∃y∈L,y.id=x.id∧y.side=x.side∧y.kind=x.kind∧y.price=x.price:=by
 obtain ⟨y,hy,e,_⟩:=kS0 h;exact ⟨y,hy,by rw [e,oH0],by rw [e,gM0],by rw [e,oI0],by rw [e,jI0]⟩
theorem dP0.less {lots side:Int→Int} {L:List Ord} (h:dP0 lots side L) (id n:Int):dP0 (upF lots id (lots id - n)) side (bH0 id n L):=fun x hx=>by
 obtain ⟨y,hy,e,_⟩:=kS0 hx;have hk:=h y hy
 by_cases hi:y.id=id
 ·have e2:x=cutO n y:=by rw [e];unfold cutF;rw [if_pos hi]
  have e3:x.id=id:=by rw [e,oH0];exact hi
  refine ⟨?_,by rw [e,oH0,gM0];exact hk.2⟩;rw [e3,fS0,←hi,hk.1,e2];rfl
 ·have e2:x=y:=by rw [e];exact iE0 hi
  subst e2;exact ⟨(fB0 hi).trans hk.1,hk.2⟩
def gD1 (lots side:Int→Int) (f:Fil):Prop:=1≤f.qty∧side f.buyer=1∧side f.seller=2∧f.qty≤lots f.buyer∧f.qty≤lots f.seller
def pM0 (lots:Int→Int) (f:Fil):Int→Int:=upF (upF lots f.buyer (lots f.buyer - f.qty)) f.seller (upF lots f.buyer (lots f.buyer - f.qty) f.seller - f.qty)
def fC0 (side:Int→Int):(Int→Int)→List Fil→Prop
 | _,[]=>True
 | lots,f::fs=>gD1 lots side f∧fC0 side (pM0 lots f) fs
def bU0:(Int→Int)→List Fil→Int→Int
 | lots,[]=>lots
 | lots,f::fs=>bU0 (pM0 lots f) fs
theorem eQ0:∀(fs:List Fil) (lots:Int→Int) (f:Fil),bU0 lots (fs++[f])=pM0 (bU0 lots fs) f
 | [],_,_=>rfl
 | _::fs,_,f=>eQ0 fs _ f
theorem fC0.snoc {side:Int→Int}:∀{fs:List Fil} {lots:Int→Int} {f:Fil},fC0 side lots fs→gD1 (bU0 lots fs) side f→fC0 side lots (fs++[f])
 | [],_,_,_,h=>⟨h,trivial⟩
 | _::_,_,_,⟨h1,h2⟩,h=>⟨h1,h2.snoc h⟩
theorem xS0 {p:Int} {s:FS} {lots side:Int→Int} (h:FOk p s) (hq:0<s.q) (hk:dP0 lots side s.L):∃f,(eD0 p s).fs=s.fs++[f]∧gD1 lots side f∧dP0 (pM0 lots f) side (eD0 p s).L∧(∃x∈s.L,x.id=f.buyer)∧(∃y∈s.L,y.id=f.seller)∧∀z∈(eD0 p s).L,∃u∈s.L,u.id=z.id:=by
 obtain ⟨⟨x,T,y,U,hS1,hS2,hbx,hby,hxL,hyL,hy2,h1,h2,h3,h4,_,e,_,_,_⟩,_⟩:=gZ0 h hq;have hsx:x.side=1:=(bC0.1 (show x∈aJ0 1 s.L by rw [hS1];exact List.mem_cons_self ..)).2;have hsy:y.side=2:=(bC0.1 (show y∈aJ0 2 s.L by rw [hS2];exact List.mem_cons_self ..)).2;have kx:=hk x hxL;have ky:=hk y hyL;refine ⟨⟨x.id,y.id,p,lotN s⟩,?_,⟨h1,kx.2.trans hsx,ky.2.trans hsy,by show lotN s≤lots x.id;rw [kx.1];exact h3,by show lotN s≤lots y.id;rw [ky.1];exact h4⟩,?_,⟨x,hxL,rfl⟩,⟨y,hyL,rfl⟩,fun z hz=>?_⟩
 ·show s.fs++[⟨(jR0 1 s.L).id,(jR0 2 s.L).id,p,lotN s⟩]=_;rw [hbx,hby]
 ·rw [e];exact (hk.less x.id (lotN s)).less y.id (lotN s)
 ·rw [e] at hz;obtain ⟨u,hu,e3,_⟩:=sO0 hz;obtain ⟨v,hv,e4,_⟩:=sO0 hu;exact ⟨v,hv,by rw [e4,e3]⟩
def gE1 (L:List Ord) (fs:List Fil):Prop:=∀f∈fs,(∃x∈L,x.id=f.buyer)∧∃y∈L,y.id=f.seller
theorem pN0 {p:Int} {s:FS} {lots side:Int→Int} (h:FOk p s) (hs:s.fs=[]) (hk:dP0 lots side s.L):∀k,(∀j,j<k→0<(aT0 p s j).q)→fC0 side lots (aT0 p s k).fs∧dP0 (bU0 lots (aT0 p s k).fs) side (aT0 p s k).L∧gE1 s.L (aT0 p s k).fs∧∀z∈(aT0 p s k).L,∃u∈s.L,u.id=z.id
 | 0,_=>by
  show fC0 side lots s.fs∧dP0 (bU0 lots s.fs) side s.L∧gE1 s.L s.fs∧∀z∈s.L,∃u∈s.L,u.id=z.id;rw [hs];exact ⟨trivial,hk,(fun f hf=>by cases hf),fun z hz=>⟨z,hz,rfl⟩⟩
 | k+1,hq=>by
  obtain ⟨h1,h2,h5,h6⟩:=pN0 h hs hk k (fun j hj=>hq j (by omega));obtain ⟨f,e,h3,h4,⟨x,hx,ex⟩,⟨y,hy,ey⟩,h7⟩:=xS0 (gG0 h k (fun j hj=>hq j (by omega))) (hq k (by omega)) h2;show fC0 side lots (eD0 p (aT0 p s k)).fs∧dP0 (bU0 lots (eD0 p (aT0 p s k)).fs) side (eD0 p (aT0 p s k)).L∧gE1 s.L (eD0 p (aT0 p s k)).fs∧∀z∈(eD0 p (aT0 p s k)).L,∃u∈s.L,u.id=z.id;rw [e,eQ0];refine ⟨h1.snoc h3,h4,fun g hg=>?_,fun z hz=>?_⟩
  ·rcases List.mem_append.1 hg with hg | hg
   ·exact h5 g hg
   ·rw [List.mem_singleton.1 hg];obtain ⟨u,hu,eu⟩:=h6 x hx;obtain ⟨v,hv,ev⟩:=h6 y hy;exact ⟨⟨u,hu,eu.trans ex⟩,⟨v,hv,ev.trans ey⟩⟩
  ·obtain ⟨u,hu,eu⟩:=h7 z hz;obtain ⟨v,hv,ev⟩:=h6 u hu;exact ⟨v,hv,ev.trans eu⟩
theorem rD0 {p:Int}:∀(n:Nat) (s:FS),∃K,K≤n∧jW0 p n s=aT0 p s K∧(∀j,j<K→0<(aT0 p s j).q)∧((aT0 p s K).q≤0∨K=n)
 | 0,s=>⟨0,lR7,rfl,fun j hj=>absurd hj (by omega),Or.inr rfl⟩
 | n+1,s=>by
  by_cases hq:s.q≤0
  ·refine ⟨0,Nat.zero_le _,?_,fun j hj=>absurd hj (by omega),Or.inl hq⟩;unfold jW0;rw [if_pos hq];rfl
  ·obtain ⟨K,hK,e,hj,hz⟩:=rD0 n (eD0 p s);refine ⟨K+1,by omega,?_,fun j hjK=>?_,?_⟩
   ·unfold jW0;rw [if_neg hq,e,eK0]
   ·cases j with
    | zero=>show 0<s.q;omega
    | succ j=>rw [←eK0];exact hj j (by omega)
   ·rw [←eK0];exact hz.imp id (fun e=>by omega)
theorem rE0 {p q:Int} {L:List Ord} (h:FOk p ⟨[],L,q⟩):∃K,hV0 p q L=aT0 p ⟨[],L,q⟩ K∧(aT0 p ⟨[],L,q⟩ K).q=0∧∀j,j<K→0<(aT0 p ⟨[],L,q⟩ j).q:=by
 obtain ⟨K,hK,e,hj,hz⟩:=rD0 (p:=p) (L.length+1) ⟨[],L,q⟩;have hnn:=(gG0 h K hj).nn;refine ⟨K,e,?_,hj⟩;rcases hz with hz | hz
 ·omega
 ·by_cases h0:(aT0 p ⟨[],L,q⟩ K).q=0
  ·exact h0
  ·have:=hN0 h K (fun j hjK=>by
    by_cases e2:j=K
    ·subst e2;omega
    ·exact hj j (by omega))
   have e3:(⟨[],L,q⟩:FS).L.length=L.length:=rfl;omega
def pO1 (L:List Ord):Prop:=∀x∈L,∀y∈L,x.side=1→y.side=2→x.price<y.price
theorem vH0 {M:Mkt} {lots side:Int→Int} (h:LOk M.L) (hla:1≤M.la∧M.la≤1000000) (hk:dP0 lots side M.L):
  fC0 side lots (uncM M).1∧dP0 (bU0 lots (uncM M).1) side (uncM M).2.L∧pO1 (uncM M).2.L∧(∀x∈(uncM M).2.L,x.kind=1∧∃y∈M.L,y.id=x.id)∧gE1 M.L (uncM M).1:=by
 have hne:bA0 M.L M.la≠[]:=by
  unfold bA0;rw [if_pos (show 0<M.la by omega)];simp
 unfold uncM
 by_cases hq:0<(aH0 M).qty
 ·rw [if_pos hq];have hF:FOk (aH0 M).price ⟨[],M.L,(aH0 M).qty⟩:=eP0 M.la h hq;obtain ⟨K,e,hz,hj⟩:=rE0 hF;obtain ⟨h1,h2,hwh,hsub⟩:=pN0 hF rfl hk K hj;show fC0 side lots (hV0 (aH0 M).price (aH0 M).qty M.L).fs∧dP0 (bU0 lots (hV0 (aH0 M).price (aH0 M).qty M.L).fs) side (limL (hV0 (aH0 M).price (aH0 M).qty M.L).L)∧pO1 (limL (hV0 (aH0 M).price (aH0 M).qty M.L).L)∧(∀x∈limL (hV0 (aH0 M).price (aH0 M).qty M.L).L,x.kind=1∧∃y∈M.L,y.id=x.id)∧gE1 M.L (hV0 (aH0 M).price (aH0 M).qty M.L).fs;rw [e];refine ⟨h1,h2.sub (fun x hx=>(List.mem_filter.1 hx).1),fun x hx y hy sx sy=>?_,fun x hx=>⟨by simpa using (List.mem_filter.1 hx).2,hsub x (List.mem_filter.1 hx).1⟩,hwh⟩;have:=vE0 M.la h hne hq hj hz (x:=x) (y:=y) (bC0.2 ⟨(List.mem_filter.1 hx).1,sx⟩) (bC0.2 ⟨(List.mem_filter.1 hy).1,sy⟩);have h3:¬y.price≤x.price:=fun e=>this (Or.inr (Or.inr e))
  omega
 ·rw [if_neg hq];refine ⟨trivial,hk.sub (fun x hx=>(List.mem_filter.1 hx).1),fun x hx y hy sx sy=>?_,fun x hx=>⟨by simpa using (List.mem_filter.1 hx).2,x,(List.mem_filter.1 hx).1,rfl⟩,(fun f hf=>by cases hf)⟩
  have hb:∀p,1≤p→p≤1000000→min (wilL 1 p M.L) (wilL 2 p M.L)≤0:=fun p _ _=>by
   have:=qU0 (l:=M.L) (more:=M.la) M.la p hne;rw [xP0 h,xQ0 h] at this;have e:(aN0 (aR0 M.L M.la) M.la).qty=(aH0 M).qty:=rfl;omega
  have e0:∀Z:List Ord,(∀z∈Z,1≤z.qty)→∀z∈Z,z∈eatL 0 Z:=fun Z hZ z hz=>by rw [lF0 hZ];exact hz
  have px:∀s,∀z∈aJ0 s M.L,1≤z.qty:=fun s z hz=>(h.ok z (bC0.1 hz).1).2.2.1
  have:=vD0 h (Int.le_refl 0) hb (e0 _ (px 1) x (bC0.2 ⟨(List.mem_filter.1 hx).1,sx⟩)) (e0 _ (px 2) y (bC0.2 ⟨(List.mem_filter.1 hy).1,sy⟩));have h3:¬y.price≤x.price:=fun e=>this (Or.inr (Or.inr e))
  omega
def mH0 (st dy an:Int):Int→List Fil→Prop
 | _,[]=>True
 | la,f::fs=>dM0 st dy an la f.price=true∧mH0 st dy an f.price fs
theorem mH0.snoc {st dy an:Int}:∀{fs:List Fil} {la:Int} {f:Fil},mH0 st dy an la fs→dM0 st dy an (bW0 la (fs.map Fil.price)) f.price=true→mH0 st dy an la (fs++[f])
 | [],_,_,_,h=>⟨h,trivial⟩
 | _::_,_,_,⟨h1,h2⟩,h=>⟨h1,h2.snoc h⟩
theorem aC1 {P:Int→Prop}:∀{ts:List Int} {la:Int},P la→(∀t∈ts,P t)→P (bW0 la ts)
 | [],_,h,_=>h
 | t::ts,_,_,h=>aC1 (ts:=ts) (la:=t) (h t (List.mem_cons_self ..)) (fun u hu=>h u (List.mem_cons_of_mem _ hu))
structure MF (M:Mkt) (o:Ord) (lots side:Int→Int) (s:MS):Prop where
 fok:fC0 side lots s.fs
 kp:dP0 (bU0 lots s.fs) side s.L
 me:bU0 lots s.fs o.id=s.q∧side o.id=o.side
 new:∀x∈s.L,x.id≠o.id
 ts:s.ts=s.fs.map Fil.price
 bands:mH0 M.st M.dy M.an M.la s.fs
 nn:0≤s.q
 sub:∀x∈s.L,∃y∈M.L,y.id=x.id∧y.side=x.side∧y.kind=x.kind∧y.price=x.price
 len:s.L.length≤M.L.length
 tsr:∀t∈s.ts,1≤t∧t≤1000000
 who:∀f∈s.fs,(f.buyer=o.id∨∃x∈M.L,x.id=f.buyer)∧(f.seller=o.id∨∃x∈M.L,x.id=f.seller)
theorem kX1 (id n:Int) (L:List Ord):(bH0 id n L).length≤L.length:=by
 unfold bH0;have:=List.length_filter_le (fun o:Ord=>decide (0<o.qty)) (L.map (cutF id n));rw [List.length_map] at this;exact this
theorem cB1 {M:Mkt} {o x:Ord} {T:List Ord} {s:MS} {lots side:Int→Int} (h:MF M o lots side s) (hM:MOk (x::T) s) (hq:0<s.q) (hs:o.side=1∨o.side=2) (hx:x.side=3 - o.side) (ha:alM M s.ts x.price=true):MF M o lots side (gU0 o x s):=by
 have hxL:=hM.here x (List.mem_cons_self ..);have hn:=hM.lots hq;have kx:=h.kp x hxL;have hne:x.id≠o.id:=h.new x hxL;have hb:dM0 M.st M.dy M.an (bW0 M.la (s.fs.map Fil.price)) x.price=true:=by rw [←h.ts];exact ha
 have hnew:∀y∈bH0 x.id (min s.q x.qty) s.L,y.id≠o.id:=fun y hy=>by
  obtain ⟨z,hz,e,_⟩:=sO0 hy;rw [←e];exact h.new z hz
 have hsub:∀y∈bH0 x.id (min s.q x.qty) s.L,∃z∈M.L,z.id=y.id∧z.side=y.side∧z.kind=y.kind∧z.price=y.price:=fun y hy=>by
  obtain ⟨z,hz,e1,e2,e3,e4⟩:=sO0 hy;obtain ⟨u,hu,f1,f2,f3,f4⟩:=h.sub z hz;exact ⟨u,hu,by rw [f1,e1],by rw [f2,e2],by rw [f3,e3],by rw [f4,e4]⟩
 obtain ⟨x0,hx0,ex0,_⟩:=h.sub x hxL;have htsr:∀t∈s.ts++[x.price],1≤t∧t≤1000000:=fun t ht=>(List.mem_append.1 ht).elim (h.tsr t) (fun ht=>by rw [List.mem_singleton.1 ht];have:=hM.ok.ok x hxL;omega)
 have hlen:=Nat.le_trans (kX1 x.id (min s.q x.qty) s.L) h.len;rcases hs with h1 | h1
 ·have e:iT0 o x (min s.q x.qty)=⟨o.id,x.id,x.price,min s.q x.qty⟩:=if_pos h1;unfold gU0;rw [e];refine ⟨h.fok.snoc ⟨hn.1,h.me.2.trans h1,kx.2.trans (by omega),by show min s.q x.qty≤bU0 lots s.fs o.id;rw [h.me.1];exact hn.2.2,by show min s.q x.qty≤bU0 lots s.fs x.id;rw [kx.1];exact hn.2.1⟩,?_,⟨?_,h.me.2⟩,hnew,by show s.ts++[x.price]=_;rw [h.ts,List.map_append];rfl,h.bands.snoc hb,by show 0≤s.q - min s.q x.qty;omega,hsub,hlen,htsr,fun g hg=>(List.mem_append.1 hg).elim (h.who g) (fun hg=>by rw [List.mem_singleton.1 hg];exact ⟨Or.inl rfl,Or.inr ⟨x0,hx0,ex0⟩⟩)⟩
  ·rw [eQ0];exact (h.kp.up h.new).less x.id (min s.q x.qty)
  ·rw [eQ0];show upF (upF (bU0 lots s.fs) o.id (bU0 lots s.fs o.id - min s.q x.qty)) x.id _ o.id=s.q - min s.q x.qty;rw [fB0 (fun e=>hne e.symm),fS0,h.me.1]
 ·have e:iT0 o x (min s.q x.qty)=⟨x.id,o.id,x.price,min s.q x.qty⟩:=if_neg (by omega);unfold gU0;rw [e];refine ⟨h.fok.snoc ⟨hn.1,kx.2.trans (by omega),h.me.2.trans h1,by show min s.q x.qty≤bU0 lots s.fs x.id;rw [kx.1];exact hn.2.1,by show min s.q x.qty≤bU0 lots s.fs o.id;rw [h.me.1];exact hn.2.2⟩,?_,⟨?_,h.me.2⟩,hnew,by show s.ts++[x.price]=_;rw [h.ts,List.map_append];rfl,h.bands.snoc hb,by show 0≤s.q - min s.q x.qty;omega,hsub,hlen,htsr,fun g hg=>(List.mem_append.1 hg).elim (h.who g) (fun hg=>by rw [List.mem_singleton.1 hg];exact ⟨Or.inr ⟨x0,hx0,ex0⟩,Or.inl rfl⟩)⟩
  ·rw [eQ0];exact (h.kp.less x.id (min s.q x.qty)).up hnew
  ·rw [eQ0];show upF (upF (bU0 lots s.fs) x.id (bU0 lots s.fs x.id - min s.q x.qty)) o.id (upF (bU0 lots s.fs) x.id (bU0 lots s.fs x.id - min s.q x.qty) o.id - min s.q x.qty) o.id=s.q - min s.q x.qty;rw [fS0,fB0 (fun e=>hne e.symm),h.me.1]
theorem mI0 {M:Mkt} {o:Ord} {lots side:Int→Int} (hs:o.side=1∨o.side=2):∀(X:List Ord) (s:MS),MF M o lots side s→MOk X s→(∀x∈X,x.side=3 - o.side)→MF M o lots side (bS0 (alM M) o X s).1
 | [],s,h,_,_=>h
 | x::T,s,h,hM,hX=>by
  by_cases hq:0<s.q
  ·by_cases hk:x.kind=2
   ·rw [lW0 hk];exact mI0 hs T s h hM.pass (fun y hy=>hX y (List.mem_cons_of_mem _ hy))
   ·by_cases hf:farB o x=true
    ·rw [iU0 hq hk hf];exact h
    ·have hf':farB o x=false:=by simpa using hf
     by_cases ha:alM M s.ts x.price=true
     ·rw [gN0 hq hk hf' ha];exact mI0 hs T _ (cB1 h hM hq hs (hX x (List.mem_cons_self ..)) ha) (hM.step o hq) (fun y hy=>hX y (List.mem_cons_of_mem _ hy))
     ·rw [hM0 hq hk hf' (by simpa using ha)];exact h
  ·rw [eN0 (by omega)];exact h
theorem kY1 {o x y:Ord} (hs:o.side=1∨o.side=2) (hx:x.kind≠2) (hy:y.kind≠2) (hr:eS0 (3 - o.side) x≤eS0 (3 - o.side) y) (hf:farB o x=true):farB o y=true:=by
 unfold eS0 lU0 at hr;rw [if_neg hx,if_neg hy] at hr;unfold farB at hf ⊢;rcases hs with h | h
 ·rw [h] at hr hf ⊢;simp at hr hf ⊢;exact ⟨hf.1,by omega⟩
 ·rw [h] at hr hf ⊢;simp at hr hf ⊢;exact ⟨hf.1,by omega⟩
theorem rF0 {M:Mkt} {o:Ord} (hs:o.side=1∨o.side=2):∀(X:List Ord) (s s':MS),MOk X s→X.Pairwise (fun a b=>eS0 (3 - o.side) a≤eS0 (3 - o.side) b)→(∀x∈X,x.kind≠2)→(∀y∈s.L,y.side=3 - o.side→y∈X)→bS0 (alM M) o X s=(s',false)→0<s'.q→∀y∈s'.L,y.side=3 - o.side→farB o y=true
 | [],s,s',_,_,_,hall,e,_=>fun y hy hyS=>by
  have e':(s,false)=(s',false):=e;injection e' with e' _;subst e';exact absurd (hall y hy hyS) (by simp)
 | x::T,s,s',hM,hP,hK,hall,e,hq'=>fun y hy hyS=>by
  by_cases hq:0<s.q
  ·have hk:=hK x (List.mem_cons_self ..)
   by_cases hf:farB o x=true
   ·rw [iU0 hq hk hf] at e;injection e with e _;subst e;rcases List.mem_cons.1 (hall y hy hyS) with rfl | hyT
    ·exact hf
    ·exact kY1 hs hk (hK y (List.mem_cons_of_mem _ hyT)) ((List.pairwise_cons.1 hP).1 y hyT) hf
   ·have hf':farB o x=false:=by simpa using hf
    by_cases ha:alM M s.ts x.price=true
    ·rw [gN0 hq hk hf' ha] at e;refine rF0 hs T _ s' (hM.step o hq) (List.pairwise_cons.1 hP).2 (fun z hz=>hK z (List.mem_cons_of_mem _ hz)) (fun z hz hzS=>?_) e hq' y hy hyS
     have hpos:0<(gU0 o x s).q:=by
      by_cases h0:(gU0 o x s).q≤0
      ·rw [eN0 h0] at e;injection e with e _;subst e;exact hq'
      ·omega
     have hn:min s.q x.qty=x.qty:=by
      have:0<s.q - min s.q x.qty:=hpos;omega
     obtain ⟨u,hu,e1,hz0⟩:=kS0 (show z∈bH0 x.id (min s.q x.qty) s.L from hz);have hus:u.side=3 - o.side:=by rw [e1,gM0] at hzS;exact hzS
     rcases List.mem_cons.1 (hall u hu hus) with hux | huT
     ·exfalso;subst hux;rw [e1,rX0] at hz0;have:0<u.qty - min s.q u.qty:=hz0;omega
     ·have hne:u.id≠x.id:=fun e2=>(List.nodup_cons.1 hM.ids).1 (by rw [←e2];exact List.mem_map_of_mem huT)
      rw [e1,iE0 hne];exact huT
    ·rw [hM0 hq hk hf' (by simpa using ha)] at e;injection e with _ e;cases e
  ·rw [eN0 (by omega)] at e;injection e with e _;subst e;omega
set_option linter.unusedSimpArgs false
def ErrE (err:Value) (n:Int):Prop:=(err=.nilIface∧n=0)∨(err=.iface 32 (.int .i64 n)∧n≠0)
theorem ErrE.yes {n:Int} (h:n=0):ErrE .nilIface n:=Or.inl ⟨rfl,h⟩
theorem ErrE.no {n:Int} (v:Int) (h:n=v) (hv:v≠0):ErrE (.iface 32 (.int .i64 v)) n:=Or.inr ⟨by rw [h],by rw [h];exact hv⟩
theorem pP1 (eb:Nat) (k:EgK) (M:Mkt) (w:World) (h:Eg w eb k M):
  Calls Tryz.prog 23 #[.pointer (some ⟨eb,0,none⟩)] w fun e w'=>e=.returned (.int .i64 M.ph)∧w'=w:=by
 have c5:w.cell? ⟨eb,5,none⟩=some (.int .i64 M.ph):=aA0 (j:=5) h.box rfl;clear h;go_enter Tryz.func23,Tryz.ntmps23;go_wp2;go_ret;exact ⟨rfl,rfl⟩
theorem tN1 (eb:Nat) (k:EgK) (M:Mkt) (w:World) (h:Eg w eb k M):
  Calls Tryz.prog 24 #[.pointer (some ⟨eb,0,none⟩)] w fun e w'=>e=.returned (.int .i64 M.now)∧w'=w:=by
 have c5:w.cell? ⟨eb,6,none⟩=some (.int .i64 M.now):=aA0 (j:=6) h.box rfl;clear h;go_enter Tryz.func24,Tryz.ntmps24;go_wp2;go_ret;exact ⟨rfl,rfl⟩
set_option maxRecDepth 4000 in
set_option maxHeartbeats 1000000 in
theorem rU1 (eb:Nat) (k:EgK) (M:Mkt) (w:World) (h:Eg w eb k M):
  Calls Tryz.prog 21 #[.pointer (some ⟨eb,0,none⟩)] w fun e w'=>e=.returned (.tuple #[.int .i64 M.an,.int .i64 M.la])∧Below w.heap.size w w':=by
 have k1:=cell_regrown (aA0 (j:=1) (v:=.pointer (some ⟨k.nb,0,none⟩)) h.box rfl);have cA:∀dq os,Calls Tryz.prog 67 #[.pointer (some ⟨k.nb,0,none⟩)] (Go.Sort.grow (redrawn w dq) os) fun e w''=>e=.returned (.int .i64 M.an)∧∃p:Regrown,w''=Go.Sort.grow (redrawn w p.d) p.os:=fun dq os=>Calls.regrown_of (jH1 k.nb M.st M.dy M.an M.la _ (h.bn.below (below_regrown w dq os)))
 have cL:∀dq os,Calls Tryz.prog 68 #[.pointer (some ⟨k.nb,0,none⟩)] (Go.Sort.grow (redrawn w dq) os) fun e w''=>e=.returned (.int .i64 M.la)∧∃p:Regrown,w''=Go.Sort.grow (redrawn w p.d) p.os:=fun dq os=>Calls.regrown_of (mQ1 k.nb M.st M.dy M.an M.la _ (h.bn.below (below_regrown w dq os)))
 clear h;go_enter Tryz.func21,Tryz.ntmps21;go_wp2_with fail;refine wp_region_quiet_below (by kernel_rfl) (by kernel_rfl) ?_
 repeat (go_big_quiet_step (first | exact cA _ _ | exact cL _ _))
 refine wpQuiet_nil ?_;intro _ hw';obtain ⟨⟨dq,osq⟩,hw''⟩:=hw';subst hw'';go_wp2;go_ret2;exact ⟨rfl,below_regrown w dq osq⟩
set_option maxRecDepth 4000 in
set_option maxHeartbeats 1000000 in
theorem rV1 (eb:Nat) (k:EgK) (M:Mkt) (w:World) (h:Eg w eb k M):
  Calls Tryz.prog 17 #[.pointer (some ⟨eb,0,none⟩)] w fun e w'=>∃err,e=.returned err∧ErrE err (jU0 M)∧EgGo w w' eb k k (gH0 M):=by
 have c5:w.cell? ⟨eb,5,none⟩=some (.int .i64 M.ph):=aA0 (j:=5) h.box rfl;have f5:=aB0 (j:=5) h.box;have H:Hid (Eg w eb k M):=h;clear h
 by_cases h6:M.ph=6
 ·have e6:(M.ph == 6)=true:=beq_iff_eq.2 h6;have HN:Hid (jU0 M=6∧gH0 M=M):=⟨by unfold jU0;rw [if_pos (Or.inl h6)],by unfold gH0;rw [if_pos (Or.inl h6)]⟩;clear h6;go_enter Tryz.func17,Tryz.ntmps17;go_wp2_with fail;go_ret;exact ⟨_,rfl,ErrE.no 6 HN.out.1 (by decide),by rw [HN.out.2];exact EgGo.refl H.out⟩
 ·have e6:(M.ph == 6)=false:=beq_eq_false_iff_ne.2 h6
  by_cases h7:M.ph=7
  ·have e7:(M.ph == 7)=true:=beq_iff_eq.2 h7;have HN:Hid (jU0 M=6∧gH0 M=M):=⟨by unfold jU0;rw [if_pos (Or.inr h7)],by unfold gH0;rw [if_pos (Or.inr h7)]⟩;clear h6 h7;go_enter Tryz.func17,Tryz.ntmps17;go_wp2_with fail;go_ret;exact ⟨_,rfl,ErrE.no 6 HN.out.1 (by decide),by rw [HN.out.2];exact EgGo.refl H.out⟩
  ·have e7:(M.ph == 7)=false:=beq_eq_false_iff_ne.2 h7;have hno:¬(M.ph=6∨M.ph=7):=fun e=>e.elim h6 h7
   have HN:Hid (jU0 M=0∧gH0 M={ M with ph:=6 }):=⟨by unfold jU0;rw [if_neg hno],by unfold gH0;rw [if_neg hno]⟩;clear h6 h7 hno;go_enter Tryz.func17,Tryz.ntmps17;go_wp2_with fail;go_ret;exact ⟨_,rfl,ErrE.yes HN.out.1,by rw [HN.out.2];exact H.out.write (j:=5) (M':={ M with ph:=6 }) rfl rfl rfl rfl rfl ⟨rfl,rfl,rfl,rfl⟩⟩
set_option maxRecDepth 4000 in
set_option maxHeartbeats 1000000 in
theorem nM0 (eb:Nat) (k:EgK) (M:Mkt) (w:World) (h:Eg w eb k M) (hn:0≤M.now∧M.now≤1000000000000) (ht:0≤M.ti∧M.ti≤1000000000000):
  Calls Tryz.prog 65 #[.pointer (some ⟨eb,0,none⟩)] w fun e w'=>e=.returned (.tuple #[])∧EgGo w w' eb k k (volM M):=by
 have c5:w.cell? ⟨eb,5,none⟩=some (.int .i64 M.ph):=aA0 (j:=5) h.box rfl;have f5:=aB0 (j:=5) h.box;have h1:=h.write (j:=5) (u:=.int .i64 4) (M':={ M with ph:=4 }) rfl rfl rfl rfl rfl ⟨rfl,rfl,rfl,rfl⟩;have wr:IntKind.i64.wrap (M.now+M.ti)=M.now+M.ti:=IntWalk.i64_in _ (by omega);clear h;go_enter Tryz.func65,Tryz.ntmps65;go_upto_region 1 with fail;generalize w.setCell ⟨eb,5,none⟩ (.int .i64 4)=w1 at h1 ⊢;have d6:w1.cell? ⟨eb,6,none⟩=some (.int .i64 M.now):=aA0 (j:=6) h1.1.box rfl;have d7:w1.cell? ⟨eb,7,none⟩=some (.int .i64 M.ti):=aA0 (j:=7) h1.1.box rfl;have d9:w1.cell? ⟨eb,9,none⟩=some (.int .i64 M.en):=aA0 (j:=9) h1.1.box rfl;have d10:w1.cell? ⟨eb,10,none⟩=some (.int .i64 M.lo):=aA0 (j:=10) h1.1.box rfl;have g9:=aB0 (j:=9) h1.1.box;have g10:=aB0 (j:=10) h1.1.box;have H1:Hid (EgGo w w1 eb k k { M with ph:=4 }):=h1;clear h1 c5 f5;go_region
 all_goals go_wp2_with fail
 all_goals refine bodyPost_end (results_none rfl _ _ _) rfl ?_
 all_goals refine ⟨rfl,H1.out.trans ?_⟩
 all_goals have h2:=H1.out.1.drew.write (j:=9) (u:=.int .i64 (M.now+M.ti)) (M':={ M with ph:=4,en:=M.now+M.ti }) rfl rfl rfl rfl rfl ⟨rfl,rfl,rfl,rfl⟩
 all_goals have h3:=h2.trans (h2.1.write (j:=10) (u:=.int .i64 0) (M':=volM M) rfl rfl rfl rfl rfl ⟨rfl,rfl,rfl,rfl⟩)
 all_goals exact (EgGo.stay H1.out.1 (Below.refl _ _).drew).trans h3
set_option maxHeartbeats 1000000 in
theorem pO0 (eb:Nat) (k:EgK) (M:Mkt) (w:World) (h:Eg w eb k M) (hr:0<M.rs.length∧M.rs.length≤60):
  Calls Tryz.prog 61 #[.pointer (some ⟨eb,0,none⟩)] w fun e w'=>e=.returned (.int .i64 (phaseV M.rs M.now).1)∧Below w.heap.size w w':=by
 have c0:=cell_regrown (aA0 (j:=0) (v:=.pointer (some ⟨k.tb,0,none⟩)) h.box rfl);have c6:=cell_regrown (aA0 (j:=6) (v:=.int .i64 M.now) h.box rfl);have cP:∀dq os,Calls Tryz.prog 106 #[.pointer (some ⟨k.tb,0,none⟩),.int .i64 M.now] (Go.Sort.grow (redrawn w dq) os) fun e w''=>e=.returned (.tuple #[.int .i64 (phaseV M.rs M.now).1,.int .i64 (phaseV M.rs M.now).2])∧∃p:Regrown,w''=Go.Sort.grow (redrawn w p.d) p.os:=fun dq os=>Calls.regrown_of (eL1 k.tb M.now M.rs _ (h.table.below (below_regrown w dq os) lR7) hr.1 hr.2)
 clear h;go_enter Tryz.func61,Tryz.ntmps61;go_wp2_with fail;refine wp_region_quiet_below (by kernel_rfl) (by kernel_rfl) ?_
 repeat (go_big_quiet_step (exact cP _ _))
 refine wpQuiet_nil ?_;intro _ hw';obtain ⟨⟨dq,osq⟩,hw''⟩:=hw';subst hw'';go_wp2;go_ret;exact ⟨rfl,below_regrown w dq osq⟩
def lI0 (o:Ord):Bool:=(decide (1≤o.side)&& decide (o.side≤2))&& (decide (1≤o.kind)&& decide (o.kind≤4))&& decide (0<o.id)
set_option maxRecDepth 4000 in
set_option maxHeartbeats 2000000 in
theorem pQ1 (o:Ord) (w:World):
  Calls Tryz.prog 90 #[o.agg] w fun e w'=>e=.returned (.bool (lI0 o))∧Below w.heap.size w w':=by
 unfold Ord.agg;go_enter Tryz.func90,Tryz.ntmps90;go_wp2
 all_goals (go_ret;refine ⟨oL0 ?_,bel1 _ _⟩;(first | rfl | (rw [Bool.eq_iff_iff];simp only [lI0,Bool.or_eq_true,Bool.and_eq_true,beq_iff_eq,beq_eq_false_iff_ne,ne_eq,decide_eq_true_eq,decide_eq_false_iff_not,true_iff,Bool.false_eq_true,false_iff,iff_true,iff_false] at *;omega)))
def xT0 (w:World) (ao:Option Addr) (m:Nat) (news:List Value):Prop:=(m=0∧news=[])∨∃ad,ao=some ad∧∀j u,news[j]? = some u→w.cell? (ad.add j)=some u
theorem jZ0 {P:Program} (w:World) (t ty:TypeId) (base:Nat) (e:TypeId) (i:TypeInfo) (z:Value) (size bytes:Nat) (ht:P.underlying t=some (.slice e)) (hi:P.info? e=some i) (hz:i.zero=some z)
  (hsize:i.size=size) (hby:i.bytes=bytes) (hzs:z.cells.size=size) (hsz:0<size)
  (v:Value) (n:Nat) (xs:List Value) (hown:w.ownsRow base e size v n xs)
  (ao:Option Addr) (m c:Nat) (news:List Value) (hl:news.length=m*size) (hx:xT0 w ao m news) (h1:∀u∈news,u.oneCell'=true)
  (h63:n+m≤maxLen) (hbytes:(n+m)*bytes≤140737488355328) (hbase:base≤w.heap.size):
  ∃v' w',(Builtin.append_ #[t,t] ty #[v,.slice ao m c]).run P w=.ok v' w'∧
   w'.ownsRow base e size v' (n+m) (xs++news)∧w.grownBy w' v.ownBlock∧∀k,v'.ownBlock=some k→v.ownBlock=some k∨w.heap.size≤k:=by
 by_cases hm:0<m
 ·rcases hx with ⟨h0,_⟩ | ⟨ad,rfl,hc⟩
  ·omega
  ·obtain ⟨g,cap,w',hr,h2,h3,h4,h5⟩:=run_append_lies (P:=P) w t ty base e i z size bytes ht hi hz hsize hby hzs hsz v n xs hown ad m c news hl hc h1 hm h63 hbytes hbase _ rfl;refine ⟨_,w',hr,h2,h3,fun k hk=>?_⟩;have e':g=k:=by simpa [Value.ownBlock] using hk
   subst e';rcases h4 with h4 | h4
   ·exact Or.inl h4
   ·exact Or.inr (by omega)
 ·obtain rfl:m=0:=by omega
  obtain rfl:news=[]:=List.eq_nil_of_length_eq_zero (by omega);obtain ⟨ao',cap',rfl,hle,_⟩:=bB0 hown;refine ⟨.slice ao' n cap',w,?_,by rw [Nat.add_zero,List.append_nil];exact hown,World.grownBy.refl _ _,fun k hk=>Or.inl hk⟩
  exact run_append_nothing w t t ty e i ht hi _ n cap' hle _ (by
    rw [hsize];cases ao with
    | none=>exact Src.ofNil (w:=w) (hk:=ht) (c:=c)
    | some ad=>exact Src.ofSlice (w:=w) (hk:=ht) (a:=ad) (n:=0) (c:=c) (news:=[]) (by simp) (by simp) (by simp))
theorem mJ0 {P:Program} (w:World) {ops:Array Oper} {rest:List Oper} {o:Oper} {a:Act} {Q:Exit→Act→World→Prop} (hgd:o.guard=none) (s x:Operand) (t:TypeId)
  (ho:o.op=.call { callee:=.builtin .append,args:=#[s,x],argTypes:=#[t,t] })
  (base:Nat) (e:TypeId) (i:TypeInfo) (z:Value) (size bytes:Nat) (ht:P.underlying t=some (.slice e)) (hi:P.info? e=some i) (hz:i.zero=some z)
  (hsize:i.size=size) (hby:i.bytes=bytes) (hzs:z.cells.size=size) (hsz:0<size)
  (v:Value) (n:Nat) (xs:List Value) (hs:a.eval s=v) (hown:w.ownsRow base e size v n xs)
  (ao:Option Addr) (m c:Nat) (news:List Value) (hv:a.eval x=.slice ao m c) (hl:news.length=m*size) (hx:xT0 w ao m news) (h1:∀u∈news,u.oneCell'=true)
  (h63:n+m≤maxLen) (hbytes:(n+m)*bytes≤140737488355328) (hbase:base≤w.heap.size)
  (h:∀v' w',w'.ownsRow base e size v' (n+m) (xs++news)→w.grownBy w' v.ownBlock→(∀k,v'.ownBlock=some k→v.ownBlock=some k∨w.heap.size≤k)→wpList P ops Q rest (a.put o.dst v') w'):wpList P ops Q (o::rest) a w:=by
 refine wpList_plain hgd fun K hK=>?_
 obtain ⟨v',w',hr,h2,h3,h4⟩:=jZ0 (P:=P) w t o.type base e i z size bytes ht hi hz hsize hby hzs hsz v n xs hown ao m c news hl hx h1 h63 hbytes hbase;unfold Oper.wp execOp;simp only [ho,resolve,invoke,builtin,Sem.run_bind,Sem.run_pure,Result.andThen_ok,List.map_toArray,List.map_cons,List.map_nil,hs,hv,hr];exact hK _ _ (h v' w' h2 h3 h4)
theorem pP0 {P:Program} (w:World) {ops:Array Oper} {o:Oper} {a:Act} {K:Act→World→Prop} {Q:Exit→Act→World→Prop} {E:Prop} (hgd:o.guard=none) (s x:Operand) (t:TypeId)
  (ho:o.op=.call { callee:=.builtin .append,args:=#[s,x],argTypes:=#[t,t] })
  (base:Nat) (e:TypeId) (i:TypeInfo) (z:Value) (size bytes:Nat) (ht:P.underlying t=some (.slice e)) (hi:P.info? e=some i) (hz:i.zero=some z)
  (hsize:i.size=size) (hby:i.bytes=bytes) (hzs:z.cells.size=size) (hsz:0<size)
  (v:Value) (n:Nat) (xs:List Value) (hs:a.eval s=v) (hown:w.ownsRow base e size v n xs)
  (ao:Option Addr) (m c:Nat) (news:List Value) (hv:a.eval x=.slice ao m c) (hl:news.length=m*size) (hx:xT0 w ao m news) (h1:∀u∈news,u.oneCell'=true)
  (h63:n+m≤maxLen) (hbytes:(n+m)*bytes≤140737488355328) (hbase:base≤w.heap.size)
  (h:∀v' w',w'.ownsRow base e size v' (n+m) (xs++news)→w.grownBy w' v.ownBlock→(∀k,v'.ownBlock=some k→v.ownBlock=some k∨w.heap.size≤k)→K (a.put o.dst v') w'):
  if Region.wanted o (yielded ops a.tmps)=true then Oper.wp P o a w K Q else E:=by
 have hw:Region.wanted o (yielded ops a.tmps)=true:=by simp [Region.wanted,hgd]
 rw [if_pos hw];obtain ⟨v',w',hr,h2,h3,h4⟩:=jZ0 (P:=P) w t o.type base e i z size bytes ht hi hz hsize hby hzs hsz v n xs hown ao m c news hl hx h1 h63 hbytes hbase;unfold Oper.wp execOp;simp only [ho,resolve,invoke,builtin,Sem.run_bind,Sem.run_pure,Result.andThen_ok,List.map_toArray,List.map_cons,List.map_nil,hs,hv,hr];exact h v' w' h2 h3 h4
theorem xT0.of_row {w W:World} {base:Nat} {ao:Option Addr} {cap:Nat} {l:List Ord} (h:w.ownsRow base 41 5 (.slice ao l.length cap) l.length (oV l)) (hb:Below w.heap.size w W):xT0 W ao l.length (oV l):=by
 cases l with
 | nil=>exact Or.inl ⟨rfl,rfl⟩
 | cons o l=>
  have h':=aO0 h hb lR7;obtain ⟨g,cap',hv,_,_⟩:=h'.form (by simp);simp only [Value.slice.injEq,true_and] at hv;obtain ⟨rfl,rfl⟩:=hv;refine Or.inr ⟨_,rfl,fun j u hj=>?_⟩
  have hlt:j<(oV (o::l)).length:=by
   rcases Nat.lt_or_ge j (oV (o::l)).length with h2 | h2
   ·exact h2
   ·rw [List.getElem?_eq_none h2] at hj;cases hj
  have h2:=(h'.cellAt j (by rw [bR0] at hlt;exact hlt)).trans hj;rw [←h2]
  by_cases e:j=0
  ·subst e;rfl
  ·simp [Addr.add,e]
theorem mK0 {α:Type} (p:α→Bool):∀l:List α,(l.filter p++l.filter fun x=>!p x).Perm l
 | []=>List.Perm.refl _
 | x::l=>by
  cases h:p x with
  | true=>simpa [h] using (mK0 p l).cons x
  | false=>
   have h1:((x::l).filter p)=l.filter p:=by simp [h]
   have h2:((x::l).filter fun x=>!p x)=x::l.filter fun x=>!p x:=by simp [h]
   rw [h1,h2];exact List.perm_middle.trans ((mK0 p l).cons x)
theorem hZ0 {L:List Ord} (h:LOk L):(aJ0 1 L++aJ0 2 L).Perm L:=by
 have e:aX0 2 L=L.filter fun o=>!(o.side == 1):=by
  unfold aX0;refine List.filter_congr (fun o ho=>?_);rcases h.side o ho with e | e <;> rw [e] <;> rfl
 have h1:(aJ0 1 L).Perm (L.filter fun o=>o.side == 1):=eM0 _ _
 have h2:(aJ0 2 L).Perm (L.filter fun o=>!(o.side == 1)):=by
  rw [←e];exact eM0 _ _
 exact (h1.append h2).trans (mK0 _ L)
theorem iA0 (p:Int) (o:Ord) (l:List Ord):demO p (o::l)=(if eF0 p o=true then o.qty else 0)+demO p l:=by simp [demO]
theorem iB0 (p:Int) (o:Ord) (l:List Ord):supO p (o::l)=(if cN0 p o=true then o.qty else 0)+supO p l:=by simp [supO]
theorem gF1 (p:Int) {l l':List Ord} (h:l.Perm l'):demO p l=demO p l':=by
 induction h with
 | nil=>rfl
 | cons x _ ih=>rw [iA0,iA0,ih]
 | swap x y l=>rw [iA0,iA0,iA0,iA0];omega
 | trans _ _ h1 h2=>exact h1.trans h2
theorem gG1 (p:Int) {l l':List Ord} (h:l.Perm l'):supO p l=supO p l':=by
 induction h with
 | nil=>rfl
 | cons x _ ih=>rw [iB0,iB0,ih]
 | swap x y l=>rw [iB0,iB0,iB0,iB0];omega
 | trans _ _ h1 h2=>exact h1.trans h2
theorem cC1 {l l':List Ord} (h:l.Perm l') (more:Int):aR0 l more=aR0 l' more:=by
 have e:sG0 (eJ0 (bA0 l more))=sG0 (eJ0 (bA0 l' more)):=by
  refine mS0 (oQ0 (dA0 _)) (fun p=>?_);rw [iY0 (dA0 _),gP0,cU0,cU0];constructor
  ·rintro (h1 | ⟨o,ho,h1⟩)
   ·exact Or.inl h1
   ·exact Or.inr ⟨o,h.mem_iff.2 ho,h1⟩
  ·rintro (h1 | ⟨o,ho,h1⟩)
   ·exact Or.inl h1
   ·exact Or.inr ⟨o,h.mem_iff.1 ho,h1⟩
 unfold aR0;rw [e];refine List.map_congr_left (fun p _=>?_);rw [gF1 p h,gG1 p h]
def sumQ (q:Ord→Bool) (l:List Ord):Int:=(l.map fun o=>if q o=true then o.qty else 0).sum
def mkBB (o:Ord):Bool:=(o.kind == 2)&& (o.side == 1)
def mkSB (o:Ord):Bool:=(o.kind == 2)&& !(o.side == 1)
def cY0 (p:Int) (o:Ord):Bool:=!(o.kind == 2)&& ((o.price == p)&& (o.side == 1))
def eB0 (p:Int) (o:Ord):Bool:=!(o.kind == 2)&& ((o.price == p)&& !(o.side == 1))
def sumX (q:Int→Ord→Bool) (xs:List Int) (l:List Ord):Int:=(xs.map fun p=>sumQ (q p) l).sum
theorem gB0 (q:Ord→Bool) (o:Ord) (l:List Ord):sumQ q (o::l)=(if q o=true then o.qty else 0)+sumQ q l:=by simp [sumQ]
theorem pQ0 {l:List Ord} {k:Nat} (q:Ord→Bool) (h:k<l.length):sumQ q (l.take (k+1))=sumQ q (l.take k)+(if q (oAt l k)=true then (oAt l k).qty else 0):=by
 unfold sumQ;rw [List.take_succ_eq_append_getElem h,List.map_append,List.map_singleton,kX0,dL0 h]
theorem gH1 {l:List Ord} {k:Nat} {q:Ord→Bool} (h:k<l.length) (hq:q (oAt l k)=false):sumQ q (l.take (k+1))=sumQ q (l.take k):=by rw [pQ0 q h,if_neg (by rw [hq];decide)];omega
theorem jP0 {q q':Ord→Bool}:∀{l:List Ord},(∀o∈l,q o=q' o)→sumQ q l=sumQ q' l
 | [],_=>rfl
 | o::l,h=>by
  rw [gB0,gB0,h o (List.mem_cons_self ..),jP0 (fun x hx=>h x (List.mem_cons_of_mem _ hx))]
theorem sP0 {q q':Ord→Bool}:∀{l:List Ord},(∀o∈l,q o=true→q' o=false)→sumQ q l+sumQ q' l=sumQ (fun o=>q o || q' o) l
 | [],_=>rfl
 | o::l,h=>by
  have ih:=sP0 (l:=l) (fun x hx=>h x (List.mem_cons_of_mem _ hx));have ho:=h o (List.mem_cons_self ..);rw [gB0,gB0,gB0,←ih];cases h1:q o with
  | true=>rw [ho h1];simp;omega
  | false=>cases h2:q' o <;> simp <;> omega
theorem gI1 {q:Ord→Bool}:∀{l:List Ord},(∀o∈l,okO o=true)→0≤sumQ q l∧sumQ q l≤1000000*(l.length:Int)
 | [],_=>by simp [sumQ]
 | o::l,h=>by
  have ih:=gI1 (q:=q) (l:=l) (fun x hx=>h x (List.mem_cons_of_mem _ hx));have ho:=(iX0 (h o (List.mem_cons_self ..))).2;rw [gB0,List.length_cons];split <;> omega
theorem cO0 {q:Ord→Bool} {l:List Ord} (h:∀o∈l,okO o=true) (hl:l.length≤1000):0≤sumQ q l∧sumQ q l≤1000000000:=by
 have:=gI1 (q:=q) h;omega
theorem xU0 {l:List Ord} (h:∀o∈l,okO o=true) (k:Nat):∀o∈l.take k,okO o=true:=fun o ho=>h o (List.mem_of_mem_take ho)
theorem aD1 (q:Int→Ord→Bool) (l:List Ord):sumX q [] l=0:=rfl
theorem vI0 (q:Int→Ord→Bool):∀xs:List Int,sumX q xs []=0
 | []=>rfl
 | x::xs=>by
  have e:sumX q (x::xs) []=sumQ (q x) []+sumX q xs []:=by simp [sumX]
  rw [e,vI0 q xs];rfl
theorem sQ0 (q:Int→Ord→Bool) (x:Int) (xs:List Int) (l:List Ord):sumX q (x::xs) l=sumQ (q x) l+sumX q xs l:=by simp [sumX]
theorem vJ0 (q:Int→Ord→Bool) (xs:List Int) (x:Int) (l:List Ord):sumX q (xs++[x]) l=sumX q xs l+sumQ (q x) l:=by
 unfold sumX;rw [List.map_append,List.map_singleton,kX0]
theorem gJ1 {q:Int→Ord→Bool} {xs:List Int} {k:Nat} (l:List Ord) (h:k<xs.length):sumX q (xs.drop k) l=sumQ (q (xs.getD k 0)) l+sumX q (xs.drop (k+1)) l:=by
 rw [List.drop_eq_getElem_cons h,sQ0];simp [h]
theorem gK1 {q:Int→Ord→Bool} {xs:List Int} {k:Nat} (l:List Ord) (h:k<xs.length):sumX q (xs.take (k+1)) l=sumX q (xs.take k) l+sumQ (q (xs.getD k 0)) l:=by
 rw [List.take_succ_eq_append_getElem h,vJ0];simp [h]
theorem vK0 (c:Bool) (p v:Int):∀{xs:List Int},xs.Nodup→(xs.map fun x=>if ((p == x)&& c)=true then v else 0).sum=if (c&& decide (p∈xs))=true then v else 0
 | [],_=>by simp
 | x::xs,h=>by
  rw [List.nodup_cons] at h;rw [List.map_cons,List.sum_cons,vK0 c p v h.2];cases c with
  | false=>simp
  | true=>
   by_cases e:p=x
   ·subst e;simp [h.1]
   ·simp [e]
theorem vL0 (q:Int→Ord→Bool) (o:Ord) (l:List Ord):∀xs:List Int,sumX q xs (o::l)=(xs.map fun p=>if q p o=true then o.qty else 0).sum+sumX q xs l
 | []=>rfl
 | x::xs=>by
  rw [sQ0,sQ0,vL0 q o l xs,gB0,List.map_cons,List.sum_cons];omega
theorem xV0 (c:Ord→Bool) {q:Int→Ord→Bool} (hq:∀p o,q p o=(!(o.kind == 2)&& ((o.price == p)&& c o))) {xs:List Int} (h:xs.Nodup):∀l:List Ord,sumX q xs l=sumQ (fun o=>!(o.kind == 2)&& (c o&& decide (o.price∈xs))) l
 | []=>vI0 _ _
 | o::l=>by
  rw [vL0,xV0 c hq h l,gB0]
  congr 1
  have e:=vK0 (c o) o.price o.qty h;cases hk:(o.kind == 2) with
  | true=>
   have:(xs.map fun p=>if q p o=true then o.qty else 0)=xs.map fun _=>0:=by
    congr 1;funext p;rw [hq,hk];simp
   rw [this]
   have z:∀ys:List Int,(ys.map fun _=>(0:Int)).sum=0:=fun ys=>by induction ys with
    | nil=>rfl
    | cons y ys ih=>rw [List.map_cons,List.sum_cons,ih];rfl
   rw [z];simp
  | false=>
   have:(xs.map fun p=>if q p o=true then o.qty else 0)=xs.map fun p=>if ((o.price == p)&& c o)=true then o.qty else 0:=by
    congr 1;funext p;rw [hq,hk];simp
   rw [this,e];simp
theorem pR0 {xs:List Int} (h:xs.Nodup) (l:List Ord):sumX cY0 xs l=sumQ (fun o=>!(o.kind == 2)&& ((o.side == 1)&& decide (o.price∈xs))) l:=xV0 (fun o=>o.side == 1) (fun _ _=>rfl) h l
theorem gL1 {xs:List Int} (h:xs.Nodup) (l:List Ord):sumX eB0 xs l=sumQ (fun o=>!(o.kind == 2)&& (!(o.side == 1)&& decide (o.price∈xs))) l:=xV0 (fun o=>!(o.side == 1)) (fun _ _=>rfl) h l
theorem gM1 {xs ys:List Int} (h:xs.Nodup) (h':ys.Nodup) (hm:∀p,p∈xs↔p∈ys) (l:List Ord):sumX cY0 xs l=sumX cY0 ys l:=by
 rw [pR0 h,pR0 h'];exact jP0 (fun o _=>by simp [hm])
theorem gT0 {xs:List Int} (h:xs.Pairwise (· < ·)):xs.Nodup:=h.imp (fun e=>by omega)
theorem jQ0 {xs:List Int} (h:xs.Pairwise (· < ·)) {i j:Nat} (hij:i<j) (hj:j<xs.length):xs.getD i 0<xs.getD j 0:=by
 rw [List.getD_eq_getElem?_getD,List.getD_eq_getElem?_getD,List.getElem?_eq_getElem (by omega),List.getElem?_eq_getElem hj,Option.getD_some,Option.getD_some];exact List.pairwise_iff_getElem.1 h i j (by omega) hj hij
theorem aE1 {xs:List Int} {q:Int} (h:q∈xs):∃i,i<xs.length∧xs.getD i 0=q:=by
 obtain ⟨i,hi,e⟩:=List.mem_iff_getElem.1 h;exact ⟨i,hi,by simpa [hi] using e⟩
theorem kZ1 {xs:List Int} {k:Nat} {q:Int}:q∈xs.drop k↔∃i,k≤i∧i<xs.length∧xs.getD i 0=q:=by
 rw [List.mem_iff_getElem];constructor
 ·rintro ⟨i,hi,e⟩;rw [List.length_drop] at hi;refine ⟨k+i,by omega,by omega,?_⟩;rw [List.getElem_drop] at e
  simpa [List.getD_eq_getElem?_getD,show k+i<xs.length by omega] using e
 ·rintro ⟨i,h1,h2,e⟩;refine ⟨i - k,by rw [List.length_drop];omega,?_⟩;rw [List.getElem_drop];simp only [show k+(i - k)=i by omega]
  simpa [List.getD_eq_getElem?_getD,h2] using e
theorem lA1 {xs:List Int} {k:Nat} {q:Int}:q∈xs.take k↔∃i,i<k∧i<xs.length∧xs.getD i 0=q:=by
 rw [List.mem_iff_getElem];constructor
 ·rintro ⟨i,hi,e⟩;rw [List.length_take] at hi;rw [List.getElem_take] at e;exact ⟨i,by omega,by omega,by simpa [List.getD_eq_getElem?_getD,show i<xs.length by omega] using e⟩
 ·rintro ⟨i,h1,h2,e⟩;refine ⟨i,by rw [List.length_take];omega,?_⟩;rw [List.getElem_take]
  simpa [List.getD_eq_getElem?_getD,h2] using e
theorem cD1 {xs:List Int} (h:xs.Pairwise (· < ·)) {k:Nat} (hk:k<xs.length) {q:Int} (hq:q∈xs):q∈xs.drop k↔xs.getD k 0≤q:=by
 rw [kZ1];obtain ⟨i,hi,rfl⟩:=aE1 hq;constructor
 ·rintro ⟨j,h1,h2,e⟩;rw [←e];rcases Nat.lt_or_eq_of_le h1 with h3 | rfl
  ·exact Int.le_of_lt (jQ0 h h3 h2)
  ·exact Int.le_refl _
 ·intro hle;refine ⟨i,?_,hi,rfl⟩
  by_cases hik:i<k
  ·have:=jQ0 h hik hk;omega
  ·omega
theorem cE1 {xs:List Int} (h:xs.Pairwise (· < ·)) {k:Nat} (hk:k<xs.length) {q:Int} (hq:q∈xs):q∈xs.take (k+1)↔q≤xs.getD k 0:=by
 rw [lA1];obtain ⟨i,hi,rfl⟩:=aE1 hq;constructor
 ·rintro ⟨j,h1,h2,e⟩;rw [←e];rcases Nat.lt_or_eq_of_le (Nat.le_of_lt_succ h1) with h3 | rfl
  ·exact Int.le_of_lt (jQ0 h h3 hk)
  ·exact Int.le_refl _
 ·intro hle;refine ⟨i,?_,hi,rfl⟩
  by_cases hik:k<i
  ·have:=jQ0 h hik hi;omega
  ·omega
theorem rW1 {F:List Ord} {xs:List Int} {k:Nat} (hF:∀o∈F,okO o=true) (h:xs.Pairwise (· < ·)) (hm:∀o∈F,cZ0 o=true→o.price∈xs) (hk:k<xs.length):
  sumQ mkBB F+sumX cY0 (xs.drop k) F=demO (xs.getD k 0) F:=by
 rw [pR0 ((gT0 h).sublist (List.drop_sublist ..)),sP0 (fun o _ h1=>by unfold mkBB at h1;rw [Bool.and_eq_true] at h1;simp [h1.1])];refine jP0 (q':=eF0 (xs.getD k 0)) (fun o ho=>?_);have h1:=hF o ho;unfold mkBB eF0;rw [h1];cases hk2:(o.kind == 2) with
 | true=>simp
 | false=>
  have hn:cZ0 o=true:=by unfold cZ0;rw [h1,hk2];rfl
  have:=cD1 h hk (hm o ho hn);simp only [Bool.false_and,Bool.false_or,Bool.not_false,Bool.true_and]
  congr 1
  rw [Bool.eq_iff_iff,decide_eq_true_iff,decide_eq_true_iff];exact this
theorem rX1 {F:List Ord} {xs:List Int} {k:Nat} (hF:∀o∈F,okO o=true) (h:xs.Pairwise (· < ·)) (hm:∀o∈F,cZ0 o=true→o.price∈xs) (hk:k<xs.length):
  sumQ mkSB F+sumX eB0 (xs.take (k+1)) F=supO (xs.getD k 0) F:=by
 rw [gL1 ((gT0 h).sublist (List.take_sublist ..)),sP0 (fun o _ h1=>by unfold mkSB at h1;rw [Bool.and_eq_true] at h1;simp [h1.1])];refine jP0 (q':=cN0 (xs.getD k 0)) (fun o ho=>?_);have h1:=hF o ho;have h2:=(iX0 h1).1
 have hs:(o.side == 2)=!(o.side == 1):=by
  rw [Bool.eq_iff_iff];simp;omega
 unfold mkSB cN0;rw [h1,hs];cases hk2:(o.kind == 2) with
 | true=>simp
 | false=>
  have hn:cZ0 o=true:=by unfold cZ0;rw [h1,hk2];rfl
  have:=cE1 h hk (hm o ho hn);simp only [Bool.false_and,Bool.false_or,Bool.not_false,Bool.true_and]
  congr 1
  rw [Bool.eq_iff_iff,decide_eq_true_iff,decide_eq_true_iff];exact this
theorem nE1 (p:Int):∀l:List Ord,demO p (l.filter okO)=demO p l
 | []=>rfl
 | o::l=>by
  have e:demO p (o::l)=(if eF0 p o=true then o.qty else 0)+demO p l:=by simp [demO]
  have ih:=nE1 p l;rw [e]
  by_cases h:okO o=true
  ·rw [List.filter_cons,if_pos h];have e2:demO p (o::l.filter okO)=(if eF0 p o=true then o.qty else 0)+demO p (l.filter okO):=by simp [demO]
   rw [e2,ih]
  ·rw [List.filter_cons,if_neg h,ih];have:eF0 p o=false:=by unfold eF0;simp [h]
   rw [this];simp
theorem nF1 (p:Int):∀l:List Ord,supO p (l.filter okO)=supO p l
 | []=>rfl
 | o::l=>by
  have e:supO p (o::l)=(if cN0 p o=true then o.qty else 0)+supO p l:=by simp [supO]
  have ih:=nF1 p l;rw [e]
  by_cases h:okO o=true
  ·rw [List.filter_cons,if_pos h];have e2:supO p (o::l.filter okO)=(if cN0 p o=true then o.qty else 0)+supO p (l.filter okO):=by simp [supO]
   rw [e2,ih]
  ·rw [List.filter_cons,if_neg h,ih];have:cN0 p o=false:=by unfold cN0;simp [h]
   rw [this];simp
theorem gN1 (l:List Ord) (more:Int):bA0 (l.filter okO) more=bA0 l more:=by
 unfold bA0;rw [List.filter_filter]
 congr 2
 refine List.filter_congr (fun o _=>?_);unfold cZ0;cases okO o <;> simp
def ptsX (xs:List Int) (l:List Ord):List Pt:=xs.map fun p=>⟨p,demO p l,supO p l⟩
theorem gO1 {xs:List Int} {k:Nat} (l:List Ord) (h:k<xs.length):ptsX (xs.take (k+1)) l=ptsX (xs.take k) l++[⟨xs.getD k 0,demO (xs.getD k 0) l,supO (xs.getD k 0) l⟩]:=by
 unfold ptsX;rw [List.take_succ_eq_append_getElem h,List.map_append,List.map_singleton];simp [h]
theorem cF1 {l:List Ord} {more:Int} {xs:List Int} (h:xs.Pairwise (· < ·)) (hm:∀p,p∈xs↔p∈bA0 (l.filter okO) more):ptsX xs (l.filter okO)=aR0 l more:=by
 unfold ptsX aR0;rw [mS0 h (fun p=>by rw [hm,gN1])];refine List.map_congr_left (fun p _=>?_);rw [nE1,nF1]
theorem vM0 {xs:List Int} (h:xs.Nodup):(eJ0 xs).Pairwise (· < ·):=by
 have h1:=dA0 xs;have h2:(eJ0 xs).Nodup:=(List.mergeSort_perm xs _).nodup_iff.2 h;refine (h1.and h2).imp (fun ⟨a,b⟩=>by omega)
end Go.Proofs.YtjdkagafdnchhaaGreatDoor
