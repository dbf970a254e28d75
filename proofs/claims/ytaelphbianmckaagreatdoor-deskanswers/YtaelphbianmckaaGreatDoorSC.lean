/- DeskAnswers -/
import Derived.Test.YtaelphbianmckaaGreatDoorSA
open Go.Value renaming int->U, pointer->E, slice->J
open Go.IntKind renaming i64->G
open Go.Obj renaming cells->R
open Go.Ending renaming returned->Y
open Go.Proofs.Tryz
open Go.RowKit.Below renaming refl->aF
open Int renaming le_refl->bP
open List renaming drop_eq_getElem_cons->bR
open Nat renaming le_trans->aI
open Or renaming inr->aG, inl->aH
set_option maxHeartbeats 8000000
set_option maxRecDepth 4000
namespace Go.Proofs.YtaelphbianmckaaGreatDoor
variable {hi lo p s z:Int} {a b e i j k m x:Nat} {key:Nat->Int} {t:Nat->Nat}
section
open Go.RowKit
def inB (lo hi z:Int):Bool:=decide (lo<=z)&& decide (z<=hi)
def pA0 (lo hi:Int):List Int->Bool
 | []=>true
 | z::r=>inB lo hi z&& pA0 lo hi r
theorem eR0 (h:inB lo hi z=true):lo<=z/\z<=hi:=by
 unfold inB at h;simpa using h
theorem sO0 (h:inB lo hi z=false):z<lo\/hi<z:=by
 unfold inB at h
 by_cases a:lo<=z
 ·by_cases b:z<=hi
  ·simp [a,b] at h
  ·exact aG o7
 ·exact aH o7
theorem sP0 (h:lo<=z/\z<=hi):inB lo hi z=true:=by unfold inB;simp [h.1,h.2]
theorem eC2 (h:z<lo\/hi<z):inB lo hi z=false:=by
 cases e:inB lo hi z with
 | false=>rfl
 | true=>have:=eR0 e;omega
theorem zL0 (lo hi z:Int):pA0 lo hi [z]=inB lo hi z:=by simp [pA0]
theorem jI1 (lo hi:Int) (a:List Int) (k:Nat) (h:k<a.length) (b:lo<=a[k]) (c:a[k]<=hi):pA0 lo hi (a.drop (k+1))=pA0 lo hi (a.drop k):=by
 rw [bR h];simp [pA0,inB,b,c]
theorem vC0 (lo hi:Int) (a:List Int) (k:Nat) (h:k<a.length) (b:a[k]<lo\/hi<a[k]):pA0 lo hi (a.drop k)=false:=by
 rw [bR h];simp only [pA0];rw [eC2 b];rfl
theorem mO1 (lo hi:Int) (a:List Int) (k:Nat) (h:¬k<a.length):pA0 lo hi (a.drop k)=true:=by
 rw [List.drop_eq_nil_of_le o7];rfl
theorem qT0 {a b:Bool} (h:a=b):Ending.returned (.bool a)=Y (.bool b):=by rw [h]
def cZ0 (p q:Int):Bool:=inB 1 1000000 p&& inB 1 1000000 q
theorem vD0 (lo hi:Int) (b:Nat) (a:List Int) (w:World) (f:a.length<=1000)
  (l:∀j,j<a.length->w.cell? ⟨b,j,none⟩=some (U G (a.getD j 0))):
  Calls prog 136 #[U G lo,U G hi,J (some ⟨b,0,none⟩) a.length a.length] w fun e w'=>e=Y (.bool (pA0 lo hi a))/\w'=w:=by
 go_enter func136,ntmps136;go_wp2;go_loop [8,11] (fun _ i=>∃k:Nat,k<=a.length/\i=U G k/\pA0 lo hi (a.drop k)=pA0 lo hi a) (fun _ i=>a.length - (intOf i).toNat)
 case atStart=>exact ⟨0,Nat.zero_le _,rfl,rfl⟩
 case round=>
  obtain ⟨k,hk,rfl,g⟩:=hrel;have c:=hid7 g;clear g;have d:k<a.length->w.cell? ⟨b,k,none⟩=some (U G (a.getD k 0)):=fun h=>l k h
  go_wp2
  ·go_ret;exact ⟨qT0 (by rw [<-c.out];exact (vC0 lo hi a k a7 a7).symm),rfl⟩
  ·go_round
   case rel=>exact ⟨k+1,o7,by go_num,by rw [<-c.out];exact jI1 lo hi a k a7 o7 o7⟩
   case measure=>simp [intOf];omega
  ·go_ret;exact ⟨qT0 (by rw [<-c.out];exact (vC0 lo hi a k a7 (aH a7)).symm),rfl⟩
  ·go_ret;exact ⟨qT0 (by rw [<-c.out];exact (mO1 lo hi a k a7).symm),rfl⟩
theorem jJ1 (b:Nat) (a:List Int) (w:World) (c:a.length<=1000)
  (d:∀j,j<a.length->w.cell? ⟨b,j,none⟩=some (U G (a.getD j 0))):
  Calls prog 135 #[J (some ⟨b,0,none⟩) a.length a.length] w fun e w'=>e=Y (.bool (pA0 1 1000000 a))/\w'=w:=by
 go_enter func135,ntmps135;go_wp2_with fail;refine (vD0 _ _ _ a _ c d).mono ?_;rintro e w' ⟨rfl,rfl⟩;go_wp2;go_ret;exact ⟨rfl,rfl⟩
theorem pB0 (lo hi z:Int) (b:Nat) (w:World) (c:w.cell? ⟨b,0,none⟩=some (U G z)):
  Calls prog 136 #[U G lo,U G hi,J (some ⟨b,0,none⟩) 1 1] w fun e w'=>e=Y (.bool (inB lo hi z))/\w'=w:=by
 rw [<-zL0]
 exact vD0 lo hi b [z] w s7 (fun j a=>by
  have:j=0:=by simp at a;exact a
  subst this;exact c)
theorem jV0 (z:Int) (b:Nat) (w:World) (c:w.cell? ⟨b,0,none⟩=some (U G z)):
  Calls prog 135 #[J (some ⟨b,0,none⟩) 1 1] w fun e w'=>e=Y (.bool (inB 1 1000000 z))/\w'=w:=by
 rw [<-zL0]
 exact jJ1 b [z] w s7 (fun j a=>by
  have:j=0:=by simp at a;exact a
  subst this;exact c)
theorem nN0 (p q:Int) (w:World):
  Calls prog 235 #[U G p,U G q] w fun e w'=>e=Y (.bool (cZ0 p q))/\Below w.heap.size w w':=by
 cases hp:inB 1 1000000 p with
 | false=>
  have b:Hid (cZ0 p q=false):=by unfold cZ0;rw [hp];rfl
  have a:=hid7 hp;clear hp;go_enter func235,ntmps235;go_wp2_with fail;refine (jV0 p _ _ (by simp [go_sem])).mono ?_;rintro e w' ⟨rfl,rfl⟩;rw [a.out];go_wp2_with fail;go_ret;exact ⟨by rw [b.out];rfl,by go_grown⟩
 | true=>
  have b:Hid (cZ0 p q=inB 1 1000000 q):=by unfold cZ0;rw [hp];rfl
  have a:=hid7 hp;clear hp;go_enter func235,ntmps235;go_wp2_with fail;refine (jV0 p _ _ (by simp [go_sem])).mono ?_;rintro e w' ⟨rfl,rfl⟩;rw [a.out];go_wp2_with fail;refine (pB0 1 1000000 q _ _ (by simp [go_sem])).mono ?_;rintro e w' ⟨rfl,rfl⟩;go_wp2_with fail;go_ret;exact ⟨by rw [b.out];rfl,by go_grown⟩
def cO0 (p s:Int):Bool:=inB 1 1000000 p&& inB 0 10000 s
def bandL (p s:Int):Int:=if cO0 p s=true then max 1 (p - p*s / 10000) else 0
def bandH (p s:Int):Int:=if cO0 p s=true then min 1000000 (p+p*s / 10000) else 0
def mZ0 (p s:Int):Int:=if cO0 p s=true then 0 else 2
theorem zM0 (c:1<=p/\p<=1000000) (a:0<=s/\s<=10000):0<=p*s/\p*s<=10000000000:=by
 have b:0<=p*s:=Int.mul_nonneg o7 a.1;have d:p*s<=1000000*10000:=Int.mul_le_mul c.2 a.2 a.1 o7;exact ⟨b,o7⟩
theorem fV1 {a b c d:Int} {v:Value} (e:a=c) (f:b=d):Ending.returned (.tuple #[U G a,U G b,v])=Y (.tuple #[U G c,U G d,v]):=by rw [e,f]
theorem fW1 (h:cO0 p s=true):bandL p s=max 1 (p - p*s / 10000):=aB h
theorem fX1 (h:cO0 p s=true):bandH p s=min 1000000 (p+p*s / 10000):=aB h
theorem tB1 (h:cO0 p s=true):mZ0 p s=0:=aB h
theorem wZ0 (h:cO0 p s=false):bandL p s=0:=aA (by rw [h];decide)
theorem xA0 (h:cO0 p s=false):bandH p s=0:=aA (by rw [h];decide)
theorem fY1 (h:cO0 p s=false):mZ0 p s=2:=aA (by rw [h];decide)
theorem zQ1 (p s:Int) (w:World) (a:1<=p/\p<=1000000) (b:0<=s/\s<=10000):
  Calls prog 81 #[U G p,U G s] w fun e w'=>e=Y (.tuple #[U G (max 1 (p - p*s / 10000)),U G (min 1000000 (p+p*s / 10000)),.nilIface])/\Below w.heap.size w w':=by
 have c:=zM0 a b;go_enter func81,ntmps81;go_wp2_with fail;refine (jV0 p _ _ (by simp [go_sem])).mono ?_;rintro e w' ⟨rfl,rfl⟩;rw [sP0 a];go_wp2_with fail;refine (pB0 0 10000 s _ _ (by simp [go_sem])).mono ?_;rintro e w' ⟨rfl,rfl⟩;rw [sP0 b];go_wp2_with fail
 all_goals
  go_ret3;exact ⟨fV1 o7 o7,by go_grown⟩
theorem zR1 (p s:Int) (w:World) (h:cO0 p s=false):
  Calls prog 81 #[U G p,U G s] w fun e w'=>e=Y (.tuple #[U G 0,U G 0,.iface 26 (U G 2)])/\Below w.heap.size w w':=by
 cases hp:inB 1 1000000 p with
 | false=>
  have a:=hid7 hp;clear hp h;go_enter func81,ntmps81;go_wp2_with fail;refine (jV0 p _ _ (by simp [go_sem])).mono ?_;rintro e w' ⟨rfl,rfl⟩;rw [a.out];go_wp2_with fail;go_ret3;exact ⟨rfl,by go_grown⟩
 | true=>
  have b:inB 0 10000 s=false:=by unfold cO0 at h;rw [hp] at h;simpa using h
  have a:=hid7 hp;have c:=hid7 b;clear hp b h;go_enter func81,ntmps81;go_wp2_with fail;refine (jV0 p _ _ (by simp [go_sem])).mono ?_;rintro e w' ⟨rfl,rfl⟩;rw [a.out];go_wp2_with fail;refine (pB0 0 10000 s _ _ (by simp [go_sem])).mono ?_;rintro e w' ⟨rfl,rfl⟩;rw [c.out];go_wp2_with fail;go_ret3;exact ⟨rfl,by go_grown⟩
theorem dO1 (h:cO0 p s=true):(1<=p/\p<=1000000)/\(0<=s/\s<=10000):=by
 unfold cO0 at h;rw [Bool.and_eq_true] at h;exact ⟨eR0 h.1,eR0 h.2⟩
theorem jW0 (p:Int):cZ0 p 1=inB 1 1000000 p:=by
 unfold cZ0;rw [sP0 (show (1:Int)<=1/\(1:Int)<=1000000 by omega),Bool.and_true]
def Rk (key:Nat->Int) (x y:Nat):Prop:=key x<key y\/(key x=key y/\x<y)
theorem Rk.le {key:Nat->Int} {x y:Nat} (h:Rk key x y):key x<=key y:=by unfold Rk at h;omega
def Srt (key:Nat->Int) (t:Nat->Nat) (a b:Nat):Prop:=∀x y,a<=x->x<y->y<b->Rk key (t x) (t y)
def Apt (t:Nat->Nat) (a m b:Nat):Prop:=∀x y,a<=x->x<m->m<=y->y<b->t x<t y
def Rea (a b:Nat) (t t':Nat->Nat):Prop:=∃s:Nat->Nat,(∀x,(x<a\/b<=x)->s x=x)/\(∀x,a<=x->x<b->a<=s x/\s x<b)/\(∀x y,s x=s y->x=y)/\∀x,t' x=t (s x)
section
variable {key:Nat->Int} {t t' t'':Nat->Nat} {a b m:Nat}
theorem Rea.refl (a b:Nat) (t:Nat->Nat):Rea a b t t:=⟨id,fun _ _=>rfl,fun _ h c=>⟨h,c⟩,fun _ _ h=>h,fun _=>rfl⟩
theorem Rea.trans (h:Rea a b t t') (m:Rea a b t' t''):Rea a b t t'':=by
 obtain ⟨s,n,o,p,q⟩:=h;obtain ⟨d,f,g,i,j⟩:=m;refine ⟨fun x=>s (d x),fun x c=>by show s (d x)=x;rw [f x c,n x c],fun x r u=>?_,fun x y e=>i x y (p _ _ e),fun x=>by rw [j,q]⟩;obtain ⟨k,l⟩:=g x r u;exact o _ k l
theorem Rea.mono {c b':Nat} (h:Rea a b t t') (k:c<=a) (l:b<=b'):Rea c b' t t':=by
 obtain ⟨s,d,e,f,g⟩:=h;refine ⟨s,fun x m=>d x o7,fun x i j=>?_,f,g⟩
 by_cases h:a<=x/\x<b
 ·have:=e x h.1 h.2;omega
 ·rw [d x o7];omega
theorem Rea.out (h:Rea a b t t') {x:Nat} (e:x<a\/b<=x):t' x=t x:=by
 obtain ⟨s,c,_,_,d⟩:=h;rw [d,c x e]
theorem Rea.mem (h:Rea a b t t') {x:Nat} (d:a<=x) (e:x<b):∃y,a<=y/\y<b/\t' x=t y:=by
 obtain ⟨s,_,c,_,f⟩:=h;exact ⟨s x,(c x d e).1,(c x d e).2,f x⟩
theorem Srt.congr {t'':Nat->Nat} (h:Srt key t a b) (e:∀x,a<=x->x<b->t'' x=t x):Srt key t'' a b:=fun x y d c f=>by
 rw [e x d o7,e y o7 f];exact h x y d c f
theorem Srt.sub {d b':Nat} (h:Srt key t a b) (e:a<=d) (f:b'<=b):Srt key t d b':=fun x y g c i=>h x y o7 c o7
end
def ex1 (i j x:Nat):Nat:=if x=i then j else if x=j then i else x
def exR (a b n x:Nat):Nat:=if a<=x/\x<a+n then x - a+b else if b<=x/\x<b+n then x - b+a else x
def dnI (i j x:Nat):Nat:=if x<j then x else if x=j then i else if x<=i then x - 1 else x
def upI (a k x:Nat):Nat:=if x<a then x else if x<k then x+1 else if x=k then a else x
def roI (a m b x:Nat):Nat:=if a<=x/\x<a+(b - m) then x+(m - a) else if a+(b - m)<=x/\x<b then x - (b - m) else x
theorem tC1 (h:a+(i+1)<=b):exR a b i (ex1 (a+i) (b+i) x)=exR a b (i+1) x:=by
 unfold exR ex1
 by_cases c:x=a+i
 ·subst c;rw [aB rfl,aA o7,aA o7,aB o7];omega
 by_cases d:x=b+i
 ·subst d;rw [aA c,aB rfl,aA o7,aA o7,aA o7,aB o7];omega
 rw [aA c,aA d]
 by_cases e:a<=x/\x<a+i
 ·rw [aB e,aB o7]
 rw [aA e,aA (show ¬(a<=x/\x<a+(i+1)) by omega)]
 by_cases f:b<=x/\x<b+i
 ·rw [aB f,aB o7]
 ·rw [aA f,aA o7]
theorem fZ1 (h:0<j) (d:j<=i):dnI i j (ex1 j (j - 1) x)=dnI i (j - 1) x:=by
 unfold dnI ex1
 by_cases a:x=j
 ·subst a;rw [aB rfl,aB o7,aA o7,aA o7,aB d]
 by_cases b:x=j - 1
 ·subst b;rw [aA a,aB rfl,aA o7,aB rfl,aA o7,aB rfl]
 rw [aA a,aA b]
 by_cases c:x<j
 ·rw [aB c,aB o7]
 ·rw [aA c,aA a,aA (show ¬x<j - 1 by omega),aA b]
theorem gB1:dnI i i x=x:=by
 unfold dnI
 by_cases a:x<i
 ·rw [aB a]
 by_cases b:x=i
 ·rw [aA a,aB b,b]
 ·rw [aA a,aA b,aA o7]
theorem tD1 (h:a<=k):upI a k (ex1 k (k+1) x)=upI a (k+1) x:=by
 unfold upI ex1
 by_cases b:x=k
 ·subst b;rw [aB rfl,aA o7,aA o7,aA o7,aA o7,aB o7]
 by_cases d:x=k+1
 ·subst d;rw [aA b,aB rfl,aA o7,aA o7,aB rfl,aA o7,aA o7,aB rfl]
 rw [aA b,aA d]
 by_cases c:x<a
 ·rw [aB c,aB c]
 rw [aA c,aA c]
 by_cases e:x<k
 ·rw [aB e,aB o7]
 ·rw [aA e,aA b,aA o7,aA d]
theorem tE1:upI a a x=x:=by
 unfold upI
 by_cases b:x<a
 ·rw [aB b]
 by_cases c:x=a
 ·rw [aA b,aA b,aB c,c]
 ·rw [aA b,aA b,aA c]
theorem xZ1 (t:Nat->Nat) (d:a<=j) (f:j<=i):Rea a (i+1) t (fun x=>t (dnI i j x)):=by
 refine ⟨dnI i j,fun x g=>?_,fun x b c=>?_,fun x y e=>?_,fun _=>rfl⟩
 ·unfold dnI;split
  ·rfl
  split
  ·omega
  split
  ·omega
  ·rfl
 ·unfold dnI;split
  ·omega
  split
  ·omega
  split <;> omega
 ·unfold dnI at e
  (repeat' split at e) <;> omega
theorem eD2 (t:Nat->Nat) (hk:a<=k) (f:k<b):Rea a b t (fun x=>t (upI a k x)):=by
 refine ⟨upI a k,fun x g=>?_,fun x c d=>?_,fun x y e=>?_,fun _=>rfl⟩
 ·unfold upI;split
  ·rfl
  split
  ·omega
  split
  ·omega
  ·rfl
 ·unfold upI;split
  ·omega
  split
  ·omega
  split <;> omega
 ·unfold upI at e
  (repeat' split at e) <;> omega
theorem eE2 (t:Nat->Nat) (f:a<=m) (g:m<=b):Rea a b t (fun x=>t (roI a m b x)):=by
 refine ⟨roI a m b,fun x i=>?_,fun x c d=>?_,fun x y e=>?_,fun _=>rfl⟩
 ·unfold roI;rw [aA o7,aA o7]
 ·unfold roI;split
  ·omega
  split <;> omega
 ·unfold roI at e
  (repeat' split at e) <;> omega
theorem vE0 (d:Srt key t a i) (f:∀x,a<=x->x<i->t x<t i) (s:a<=j) (A:j<=i)
  (k:j=a\/key (t (j - 1))<=key (t i)) (g:j=i\/key (t i)<key (t j)):Srt key (fun x=>t (dnI i j x)) a (i+1):=by
 have n:∀x,a<=x->x<j->Rk key (t x) (t i):=fun x b u=>by
  have w:key (t x)<=key (t i):=by
   rcases k with h | h
   ·omega
   ·by_cases e:x=j - 1
    ·rw [e];exact h
    ·have:=(d x (j - 1) b o7 o7).le;omega
  have z:=f x b o7;unfold Rk;omega
 have c:∀y,j<=y->y<i->Rk key (t i) (t y):=fun y v m=>by
  rcases g with h | h
  ·omega
  ·by_cases e:y=j
   ·subst e;exact aH h
   ·have:=(d j y s o7 m).le;exact aH o7
 intro x y b l v;show Rk key (t (dnI i j x)) (t (dnI i j y));unfold dnI
 by_cases o:x<j
 ·rw [aB o]
  by_cases q:y<j
  ·rw [aB q];exact d x y b l o7
  rw [aA q]
  by_cases r:y=j
  ·rw [aB r];exact n x b o
  ·rw [aA r,aB o7];exact d x (y - 1) b o7 o7
 rw [aA o,aA (show ¬y<j by omega),aA (show ¬y=j by omega),aB (show y<=i by omega)]
 by_cases p:x=j
 ·rw [aB p];exact c (y - 1) o7 o7
 ·rw [aA p,aB o7];exact d (x - 1) (y - 1) o7 o7 o7
theorem eF2 (d:Srt key t (a+1) b) (i:∀x,a+1<=x->x<b->t a<t x) (z:a<=k) (hk:k<b)
  (l:k=a\/key (t k)<key (t a)) (j:k+1=b\/key (t a)<=key (t (k+1))):Srt key (fun x=>t (upI a k x)) a b:=by
 have n:∀x,a+1<=x->x<=k->Rk key (t x) (t a):=fun x o u=>by
  rcases l with h | h
  ·omega
  ·by_cases e:x=k
   ·subst e;exact aH h
   ·have:=(d x k o o7 hk).le;exact aH o7
 have c:∀y,k<y->y<b->Rk key (t a) (t y):=fun y g f=>by
  have w:=i y o7 f
  have v:key (t a)<=key (t y):=by
   rcases j with h | h
   ·omega
   ·by_cases e:y=k+1
    ·rw [e];exact h
    ·have:=(d (k+1) y o7 o7 f).le;omega
  unfold Rk;omega
 intro x y o m g;show Rk key (t (upI a k x)) (t (upI a k y));unfold upI;rw [aA (show ¬x<a by omega),aA (show ¬y<a by omega)]
 by_cases p:x<k
 ·rw [aB p]
  by_cases r:y<k
  ·rw [aB r];exact d _ _ o7 o7 o7
  rw [aA r]
  by_cases s:y=k
  ·rw [aB s];exact n _ o7 o7
  ·rw [aA s];exact d _ _ o7 o7 g
 rw [aA p,aA (show ¬y<k by omega),aA (show ¬y=k by omega)]
 by_cases q:x=k
 ·rw [aB q];exact c y o7 g
 ·rw [aA q];exact d _ _ o7 m g
theorem yC1 {s:Nat} (n:Srt key t a m) (o:Srt key t m b) (k:Apt t a m b) (C:a<=s) (F:s<=m) (E:m<=e) (D:e<=b)
  (w:s=a\/e=b\/key (t (s - 1))<=key (t e)) (v:s=m\/e=m\/key (t (e - 1))<key (t s)):
  Srt key (fun x=>t (roI s m e x)) a s/\Srt key (fun x=>t (roI s m e x)) s (s+(e - m))/\Apt (fun x=>t (roI s m e x)) a s (s+(e - m))
  /\Srt key (fun x=>t (roI s m e x)) (s+(e - m)) e/\Srt key (fun x=>t (roI s m e x)) e b/\Apt (fun x=>t (roI s m e x)) (s+(e - m)) e b
  /\∀x y,a<=x->x<s+(e - m)->s+(e - m)<=y->y<b->Rk key (t (roI s m e x)) (t (roI s m e y)):=by
 have r:∀x,x<s->roI s m e x=x:=fun x c=>by unfold roI;rw [aA o7,aA o7]
 have u:∀x,s<=x->x<s+(e - m)->roI s m e x=x+(m - s):=fun x c l=>by unfold roI;rw [aB ⟨c,l⟩]
 have p:∀x,s+(e - m)<=x->x<e->roI s m e x=x - (e - m):=fun x c l=>by unfold roI;rw [aA o7,aB ⟨c,l⟩]
 have q:∀x,e<=x->roI s m e x=x:=fun x c=>by unfold roI;rw [aA o7,aA o7]
 have lo:∀x y,a<=x->x<s->e<=y->y<b->Rk key (t x) (t y):=fun x y c g f d=>by
  have H:=k x y c o7 o7 d
  have hk:key (t x)<=key (t y):=by
   have k1:key (t x)<=key (t (s - 1)):=by
    by_cases j:x=s - 1
    ·rw [j];exact bP _
    ·exact (n x (s - 1) c o7 o7).le
   have k2:key (t e)<=key (t y):=by
    by_cases j:y=e
    ·rw [j];exact bP _
    ·exact (o e y o7 o7 d).le
   rcases w with h | h | h <;> omega
  unfold Rk;omega
 have hi:∀x y,s<=x->x<m->m<=y->y<e->Rk key (t y) (t x):=fun x y c z f G=>by
  have k1:key (t s)<=key (t x):=by
   by_cases j:x=s
   ·rw [j];exact bP _
   ·exact (n s x o7 o7 z).le
  have k2:key (t y)<=key (t (e - 1)):=by
   by_cases j:y=e - 1
   ·rw [j];exact bP _
   ·exact (o y (e - 1) f o7 o7).le
  exact aH (by rcases v with h | h | h <;> omega)
 refine ⟨fun x y c i f=>?_,fun x y c i f=>?_,fun x y c g f d=>?_,fun x y c i f=>?_,fun x y c i f=>?_,fun x y c g f d=>?_,fun x y c g f d=>?_⟩
 ·show Rk key (t (roI s m e x)) (t (roI s m e y));rw [r x o7,r y f];exact n x y c i o7
 ·show Rk key (t (roI s m e x)) (t (roI s m e y));rw [u x c o7,u y o7 f];exact o _ _ o7 o7 o7
 ·show t (roI s m e x)<t (roI s m e y);rw [r x g,u y f d];exact k _ _ c o7 o7 o7
 ·show Rk key (t (roI s m e x)) (t (roI s m e y));rw [p x c o7,p y o7 f];exact n _ _ o7 o7 o7
 ·show Rk key (t (roI s m e x)) (t (roI s m e y));rw [q x c,q y o7];exact o x y o7 i f
 ·show t (roI s m e x)<t (roI s m e y);rw [p x c g,q y f];exact k _ _ o7 o7 o7 d
 ·by_cases B:x<s
  ·rw [r x B]
   by_cases A:y<e
   ·rw [p y f A];exact n _ _ c o7 o7
   ·rw [q y o7];exact lo x y c B o7 d
  ·rw [u x o7 g]
   by_cases A:y<e
   ·rw [p y f A];exact hi _ _ o7 o7 o7 o7
   ·rw [q y o7];exact o _ _ o7 o7 d
theorem tF1 {t':Nat->Nat} {c:Nat} (j:a<=c/\c<=b) (s:∀x y,a<=x->x<c->c<=y->y<b->Rk key (t x) (t y)) (r:∃u,Rea a c t u/\Rea c b u t') (p:Srt key t' a c) (q:Srt key t' c b):Srt key t' a b/\Rea a b t t':=by
 obtain ⟨u,g,i⟩:=r;refine ⟨fun x y d e f=>?_,(g.mono lR7 j.2).trans (i.mono j.1 lR7)⟩
 by_cases k:x<c
 ·by_cases z:y<c
  ·exact p x y d e z
  ·rw [i.out (x:=x) (aH k)];obtain ⟨x',v,w,n⟩:=g.mem d k;obtain ⟨l,m,A,o⟩:=i.mem (x:=y) o7 f;rw [n,o,g.out (x:=l) (aG m)];exact s x' l v w m A
 ·exact q x y o7 e f
theorem zS1 (hi:i<=m) (h:j<i):exR (m - i) m j (roI (m - (i - j)) m (m+j) x)=roI (m - i) m (m+j) x:=by
 unfold roI exR;have a:m - (i - j)=m - i+j:=o7;rw [a]
 (repeat' split) <;> omega
theorem tG1 (hi:i<=m) (h:i<j):exR (m - i) (m+j - i) i (roI (m - i) m (m+(j - i)) x)=roI (m - i) m (m+j) x:=by
 unfold roI exR
 (repeat' split) <;> omega
theorem zT1 (hi:i<=m):exR (m - i) m i x=roI (m - i) m (m+i) x:=by
 unfold roI exR
 (repeat' split) <;> omega
def RowT (w:World) (blk C N:Nat) (el:Nat->List Value) (t:Nat->Nat):Prop:=
 ∃cur,w.heap[blk]? = some (R cur 92 (0,0))/\cur.size=C/\N*5<=C/\∀x,x<N->∀j,j<5->cur[x*5+j]? = (el (t x))[j]?
structure Mv (w0 w:World) (blk C N:Nat) (el:Nat->List Value) (t:Nat->Nat):Prop where
 os:w.os=w0.os
 tape:w.tape=w0.tape
 output:w.output=w0.output
 size:w0.heap.size<=w.heap.size
 block:∀k,k<w0.heap.size->k≠blk->w.heap[k]? = w0.heap[k]?
 row:RowT w blk C N el t
section
variable {w0 w w':World} {blk C N:Nat} {el:Nat->List Value} {t t':Nat->Nat}
theorem RowT.lt (h:RowT w blk C N el t):blk<w.heap.size:=by obtain ⟨a,b,_⟩:=h;exact lt_of_block b
theorem RowT.below {B:Nat} (h:RowT w blk C N el t) (e:Below B w w') (d:w.heap.size<=B):RowT w' blk C N el t:=by
 obtain ⟨a,b,c⟩:=h;exact ⟨a,(e.block blk (Nat.lt_of_lt_of_le (lt_of_block b) d)).trans b,c⟩
theorem RowT.congr (h:RowT w blk C N el t) (e:∀x,x<N->t' x=t x):RowT w blk C N el t':=by
 obtain ⟨a,c,d,f,g⟩:=h;exact ⟨a,c,d,f,fun x b j i=>by rw [e x b];exact g x b j i⟩
theorem RowT.cell (h:RowT w blk C N el t) {x j:Nat} (e:x<N) (d:j<5):w.cell? ⟨blk,x*5+j,none⟩=(el (t x))[j]?/\w.frozen? ⟨blk,x*5+j,none⟩=false:=by
 obtain ⟨a,b,_,_,c⟩:=h;exact ⟨(cell_of_row w blk _ a _ (0,0) b).trans (c x e j d),frozen_of_row w blk _ a _ b⟩
theorem Mv.below {B:Nat} (h:Mv w0 w blk C N el t) (a:Below B w w') (c:w.heap.size<=B):Mv w0 w' blk C N el t:=
 ⟨a.os.trans h.os,a.tape.trans h.tape,a.output.trans h.output,aI h.size a.size,fun k hk b=>(a.block k (by have:=h.size;omega)).trans (h.block k hk b),h.row.below a c⟩
theorem Mv.congr (h:Mv w0 w blk C N el t) (e:∀x,x<N->t' x=t x):Mv w0 w blk C N el t':=⟨h.os,h.tape,h.output,h.size,h.block,h.row.congr e⟩
theorem Mv.trans {c:World} {t'':Nat->Nat} (h:Mv w0 w blk C N el t) (a:Mv w c blk C N el t''):Mv w0 c blk C N el t'':=
 ⟨a.os.trans h.os,a.tape.trans h.tape,a.output.trans h.output,aI h.size a.size,fun k hk b=>(a.block k (by have:=h.size;omega) b).trans (h.block k hk b),a.row⟩
theorem Mv.start (h:RowT w blk C N el t):Mv w w blk C N el t:=⟨rfl,rfl,rfl,lR7,fun _ _ _=>rfl,h⟩
end
theorem hZ0 {T:TypeId}:∀(vs:List Value) (o:Nat) (w:World) (cur:Array Value),w.heap[b]? = some (R cur T (0,0))->∃a,(w.setCells b o vs).heap[b]? = some (R a T (0,0))/\a.size=cur.size/\(∀k,a[k]? = if o<=k/\k<o+vs.length/\k<cur.size then vs[k - o]? else cur[k]?)
  /\(w.setCells b o vs).os=w.os/\(w.setCells b o vs).tape=w.tape/\(w.setCells b o vs).output=w.output/\(w.setCells b o vs).heap.size=w.heap.size/\∀k,k≠b->(w.setCells b o vs).heap[k]? = w.heap[k]?
 | [],o,w,cur,h=>⟨cur,h,rfl,fun k=>by rw [aA (by simp;omega)],rfl,rfl,rfl,rfl,fun _ _=>rfl⟩
 | v::vs,o,w,cur,h=>by
  rw [World.setCells];have p:=heap_setCell_same w b o cur T v h;obtain ⟨a,e,f,g,i,j,l,m,n⟩:=hZ0 vs (o+1) (w.setCell ⟨b,o,none⟩ v) _ p;refine ⟨a,e,by rw [f];simp,fun k=>?_,i,j,l,by rw [m];simp,fun k hk=>(n k hk).trans (Below.heap_setCell _ _ _ _ hk)⟩;rw [g k];simp only [Array.size_setIfInBounds,List.length_cons]
  by_cases hk:k=o
  ·subst hk;rw [aA o7]
   by_cases d:k<cur.size
   ·rw [aB o7];simp [d]
   ·rw [aA o7];simp [d]
  ·by_cases c:o+1<=k/\k<o+1+vs.length/\k<cur.size
   ·rw [aB c,aB o7,show k - o=(k - (o+1))+1 by omega];simp
   ·rw [aA c,aA o7];simp [Ne.symm hk]
theorem RowT.swap {w:World} {blk C N i j:Nat} {el:Nat->List Value} {t:Nat->Nat} (h:RowT w blk C N el t) (c:∀x,(el x).length=5) (hi:i<N) (Q:j<N):
  RowT ((w.setCells blk (i*5) (el (t j))).setCells blk (j*5) (el (t i))) blk C N el (fun x=>t (ex1 i j x))
  /\((w.setCells blk (i*5) (el (t j))).setCells blk (j*5) (el (t i))).heap.size=w.heap.size/\∀w0 p,Mv w0 w blk C N el p->Mv w0 ((w.setCells blk (i*5) (el (t j))).setCells blk (j*5) (el (t i))) blk C N el (fun x=>t (ex1 i j x)):=by
 obtain ⟨f,J,n,K,L⟩:=h;obtain ⟨I,q,g,r,s,v,y,a7,z⟩:=hZ0 (el (t j)) (i*5) w f J;obtain ⟨m,A,B,D,E,F,G,l,H⟩:=hZ0 (el (t i)) (j*5) _ I q
 have o:RowT ((w.setCells blk (i*5) (el (t j))).setCells blk (j*5) (el (t i))) blk C N el (fun x=>t (ex1 i j x)):=by
  refine ⟨m,A,by rw [B,g,n],K,fun x O u M=>?_⟩
  have P:x*5+u<C:=by
   have:x*5+5<=N*5:=o7;omega
  show m[x*5+u]? = (el (t (ex1 i j x)))[u]?;rw [D,r,c,c,g,n];unfold ex1
  by_cases e:x=j
  ·subst e;rw [aB o7,show x*5+u - (x*5)=u by omega]
   by_cases a:x=i
   ·subst a;rw [aB rfl]
   ·rw [aA a,aB rfl]
  ·rw [aA o7]
   by_cases a:x=i
   ·subst a;rw [aB o7,show x*5+u - (x*5)=u by omega,aB rfl]
   ·rw [aA o7,aA a,aA e];exact L x O u M
 refine ⟨o,l.trans a7,fun w0 p d=>⟨(E.trans s).trans d.os,(F.trans v).trans d.tape,(G.trans y).trans d.output,by rw [l,a7];exact d.size,fun k hk b=>?_,o⟩⟩;exact ((H k b).trans (z k b)).trans (d.block k hk b)
theorem nO0 {w:World} {blk C N:Nat} {el:Nat->List Value} (h:RowT w blk C N el t) (hk:k≠blk):((w.setCells blk (i*5) (el (t j))).setCells blk (j*5) (el (t i))).heap[k]? = w.heap[k]? :=by
 obtain ⟨a,f,_⟩:=h;obtain ⟨e,b,_,_,_,_,_,_,c⟩:=hZ0 (el (t j)) (i*5) w a f;obtain ⟨g,_,_,_,_,_,_,_,d⟩:=hZ0 (el (t i)) (j*5) _ e b;exact (d k hk).trans (c k hk)
def pC0 (P:Program) (g:Nat) (lb:Array Value) (w0:World) (blk C N:Nat) (el:Nat->List Value) (key:Nat->Int):Prop:=
 ∀(W:World) (t:Nat->Nat),Mv w0 W blk C N el t->∀i j:Nat,i<N->j<N->Calls P g (#[U G i,U G j]++lb) W fun e W'=>e=Y (.bool (decide (key (t i)<key (t j))))/\Below W.heap.size W W'
def sQ0 (P:Program) (sf:Nat) (sb:Array Value) (blk C N:Nat) (el:Nat->List Value):Prop:=
 ∀(W:World) (t:Nat->Nat),RowT W blk C N el t->∀i j:Nat,i<N->j<N->i≠j->(callFunc sf (#[U G i,U G j]++sb)).run P W=.ok (.value (.tuple #[])) ((W.setCells blk (i*5) (el (t j))).setCells blk (j*5) (el (t i)))
theorem pC0.at {P:Program} {g:Nat} {lb:Array Value} {w0 W:World} {blk C N i j x y:Nat} {el:Nat->List Value} {key:Nat->Int} {t:Nat->Nat} {I J:Int} {a:Bool} (h:pC0 P g lb w0 blk C N el key) (k:Mv w0 W blk C N el t) (hi:i<N) (f:j<N) (b:I=i) (c:J=j) (l:t i=x) (m:t j=y) (d:decide (key x<key y)=a):
  Calls P g (#[.int .i64 I,.int .i64 J]++lb) W fun e W'=>e=.returned (.bool a)/\Below W.heap.size W W':=by
 subst b c l m d;exact h W t k i j hi f
theorem sQ0.at {P:Program} {b:Nat} {sb:Array Value} {W:World} {blk C N i j:Nat} {el:Nat->List Value} {t:Nat->Nat} {I J:Int} (h:sQ0 P b sb blk C N el) (f:RowT W blk C N el t) (hi:i<N) (e:j<N) (c:I=i) (d:J=j) (a:i≠j):
  (callFunc b (#[.int .i64 I,.int .i64 J]++sb)).run P W=.ok (.value (.tuple #[])) ((W.setCells blk (i*5) (el (t j))).setCells blk (j*5) (el (t i))):=by
 subst c d;exact h W t f i j hi e a
def boxT (g sf:Nat) (lb sb:Array Value):Obj:=R #[.func (.func g) #[] lb,.func (.func sf) #[] sb] 214 (0,0)
theorem kM0 (g f:Nat) (lb sb:Array Value) (w:World) (c C N a b n:Nat) (j:Nat->List Value) (t:Nat->Nat) (l:∀x,(j x).length=5) (q:sQ0 prog f sb c C N j) (h:RowT w c C N j t) (D:N<=1000) (z:a+n<=b) (E:b+n<=N):
  Calls prog 285 #[.agg #[.func (.func g) #[] lb,.func (.func f) #[] sb],U G a,U G b,U G n] w fun e w'=>e=Y (.tuple #[])/\Mv w w' c C N j (fun x=>t (exR a b n x)):=by
 have o:Hid (Mv w (w.alloc (boxT g f lb sb)) c C N j t):=(Mv.start h).below ((aF _ _).alloc lR7 _) lR7;have p:Hid ((w.alloc (boxT g f lb sb)).heap[w.heap.size]? = some (boxT g f lb sb)):=heap_alloc_new w _;have s:Hid (w.heap.size≠c):=fun e=>by have:=h.lt;omega
 have u:=hid7 q;clear h q;go_enter func285,ntmps285;go_wp2_with fail;go_loopw [8] (fun v wr=>∃i:Nat,i<=n/\v=U G i/\Mv w wr c C N j (fun x=>t (exR a b i x))/\wr.heap[w.heap.size]? = some (boxT g f lb sb)) (fun v _=>n - (intOf v).toNat)
 case atStart=>exact ⟨0,Nat.zero_le _,rfl,o.out.congr (fun x _=>by show t (exR a b 0 x)=t x;unfold exR;rw [aA o7,aA o7]),p.out⟩
 case round=>
  obtain ⟨i,hi,rfl,r,d⟩:=hrel;have k:Hid _:=r;have y:=hid7 d;have B:wr.cell? ⟨w.heap.size,1,none⟩=some (.func (.func f) #[] sb):=(cell_of_row wr w.heap.size 1 _ _ (0,0) d).trans rfl;clear r d o p
  by_cases m:i<n
  ·have A:=u.out wr _ k.out.row (a+i) (b+i) o7 o7 o7;rw [show ((a+i:Nat):Int)=(a:Int)+i by omega,show ((b+i:Nat):Int)=(b:Int)+i by omega] at A;go_wp2_with fail;go_roundw
   case rel=>
    refine ⟨i+1,m,by go_num,((k.out.row.swap l o7 o7).2.2 _ _ k.out).congr (fun x _=>?_),(nO0 k.out.row s.out).trans y.out⟩;show t (exR a b (i+1) x)=t (exR a b i (ex1 (a+i) (b+i) x));rw [tC1 o7]
   case measure=>simp [intOf];omega
  ·obtain rfl:i=n:=o7;go_wp2;go_end0;exact ⟨rfl,k.out⟩
theorem gQ0 (g f:Nat) (lb sb:Array Value) (w:World) (c C N a m b:Nat) (k:Nat->List Value) (t:Nat->Nat) (p:∀x,(k x).length=5) (P:sQ0 prog f sb c C N k) (h:RowT w c C N k t) (B:N<=1000) (S:a<m) (V:m<b) (W:b<=N):
  Calls prog 260 #[.agg #[.func (.func g) #[] lb,.func (.func f) #[] sb],U G a,U G m,U G b] w fun e w'=>e=Y (.tuple #[])/\Mv w w' c C N k (fun x=>t (roI a m b x)):=by
 have L:Hid (Mv w (w.alloc (boxT g f lb sb)) c C N k t):=(Mv.start h).below ((aF _ _).alloc lR7 _) lR7;have M:Hid ((w.alloc (boxT g f lb sb)).heap[w.heap.size]? = some (boxT g f lb sb)):=heap_alloc_new w _;have O:Hid (w.heap.size≠c):=fun e=>by have:=h.lt;omega
 have v:=hid7 P;clear h P;go_enter func260,ntmps260;go_wp2_with fail;go_loopw [8,9] (fun J K wr=>∃(i j:Nat) (u:Nat->Nat),0<i/\0<j/\i<=m - a/\j<=b - m/\J=U G i/\K=U G j/\Mv w wr c C N k u/\wr.heap[w.heap.size]? = some (boxT g f lb sb)/\(∀x,u (roI (m - i) m (m+j) x)=t (roI a m b x))) (fun J K _=>(intOf J).toNat+(intOf K).toNat)
 case atStart=>exact ⟨m - a,b - m,t,o7,o7,lR7,lR7,by go_num,by go_num,L.out,M.out,fun x=>by rw [show m - (m - a)=a by omega,show m+(b - m)=b by omega]⟩
 case round=>
  obtain ⟨i,j,u,F,H,hi,T,rfl,rfl,Q,l,R⟩:=hrel;have q:Hid _:=Q;have s:=hid7 l;have y:=hid7 R;have z:wr.cell? ⟨w.heap.size,0,none⟩=some (.func (.func g) #[] lb):=(cell_of_row wr w.heap.size 0 _ _ (0,0) l).trans rfl;have A:wr.cell? ⟨w.heap.size,1,none⟩=some (.func (.func f) #[] sb):=(cell_of_row wr w.heap.size 1 _ _ (0,0) l).trans rfl;clear Q l R L M;rcases Nat.lt_trichotomy i j with I | D | E
  ·have r:((i:Int) != (j:Int))=true:=by simp;omega
   go_wp2_with fail;have d:=kM0 g f lb sb wr c C N (m - i) (m+j - i) i k u p v.out q.out.row B o7 o7;rw [show ((m - i:Nat):Int)=(m:Int) - i by omega,show ((m+j - i:Nat):Int)=(m:Int)+j - i by omega] at d;refine d.mono ?_;rintro e w1 ⟨rfl,n⟩;have o:Hid _:=n;clear n d z A;go_wp2_with fail;go_roundw
   case rel=>
    refine ⟨i,j - i,_,F,o7,hi,o7,rfl,by go_num,q.out.trans o.out,(o.out.block _ (lt_of_block s.out) O.out).trans s.out,fun x=>?_⟩;show u (exR (m - i) (m+j - i) i (roI (m - i) m (m+(j - i)) x))=_;rw [tG1 o7 I];exact y.out x
   case measure=>simp [intOf];omega
  ·subst D;have r:((i:Int) != (i:Int))=false:=by simp
   go_wp2_with fail;have d:=kM0 g f lb sb wr c C N (m - i) m i k u p v.out q.out.row B o7 o7;rw [show ((m - i:Nat):Int)=(m:Int) - i by omega] at d;refine d.mono ?_;rintro e w1 ⟨rfl,n⟩;have o:Hid _:=n;clear n d z A;go_wp2_with fail;go_end0;refine ⟨rfl,(q.out.trans o.out).congr (fun x _=>?_)⟩;show t (roI a m b x)=u (exR (m - i) m i x);rw [zT1 o7];exact (y.out x).symm
  ·have r:((i:Int) != (j:Int))=true:=by simp;omega
   go_wp2_with fail;have d:=kM0 g f lb sb wr c C N (m - i) m j k u p v.out q.out.row B o7 o7;rw [show ((m - i:Nat):Int)=(m:Int) - i by omega] at d;refine d.mono ?_;rintro e w1 ⟨rfl,n⟩;have o:Hid _:=n;clear n d z A;go_wp2_with fail;go_roundw
   case rel=>
    refine ⟨i - j,j,_,o7,H,o7,T,by go_num,rfl,q.out.trans o.out,(o.out.block _ (lt_of_block s.out) O.out).trans s.out,fun x=>?_⟩;show u (exR (m - i) m j (roI (m - (i - j)) m (m+j) x))=_;rw [zS1 o7 E];exact y.out x
   case measure=>simp [intOf];omega
theorem sR0 (g l:Nat) (lb sb:Array Value) (w0 w:World) (c C N a b:Nat) (k:Nat->List Value) (t:Nat->Nat) (key:Nat->Int) (eg:∀args w,(callFunc g args).run prog w=.ok (.enter g args) w) (V:∀x,(k x).length=5) (hS:sQ0 prog l sb c C N k)
  (hL:pC0 prog g lb w0 c C N k key) (h:Mv w0 w c C N k t) (hN:N<=1000) (a1:a<=b) (hb:b<=N) (r:∀x y,a<=x->x<y->y<b->t x<t y):
  Calls prog 227 #[.agg #[.func (.func g) #[] lb,.func (.func l) #[] sb],U G a,U G b] w fun e w'=>e=Y (.tuple #[])/\∃t',Mv w w' c C N k t'/\Rea a b t t'/\Srt key t' a b:=by
 have H0:Hid (Mv w (w.alloc (boxT g l lb sb)) c C N k t):=(Mv.start h.row).below ((aF _ _).alloc lR7 _) lR7;have HB:Hid ((w.alloc (boxT g l lb sb)).heap[w.heap.size]? = some (boxT g l lb sb)):=heap_alloc_new w _;have HN:Hid (w.heap.size≠c):=fun e=>by have:=h.row.lt;omega
 have HS:=hid7 hS;have HL:=hid7 hL;have E:=hid7 h;have HI:=hid7 r;clear h hS hL r;go_enter func227,ntmps227;go_wp2_with fail;go_loopw [6] (fun v wr=>∃(i:Nat) (u:Nat->Nat),a<i/\i<=b+1/\v=U G i/\Mv w wr c C N k u/\wr.heap[w.heap.size]? = some (boxT g l lb sb)/\Rea a (min i b) t u/\Srt key u a i) (fun v _=>b+1 - (intOf v).toNat)
 case atStart=>exact ⟨a+1,t,o7,o7,by go_num,H0.out,HB.out,Rea.refl _ _ _,fun x y hx a5 hy=>by omega⟩
 case round=>
  obtain ⟨i,u,a2,a3,rfl,hm,J,hr,hs⟩:=hrel;have F:Hid (Rea a (min i b) t u/\Srt key u a i):=⟨hr,hs⟩;have S:Hid _:=hm;have HX:=hid7 J;clear hm J hr hs H0 HB
  by_cases X:i<b
  ·have O:Hid (Rea a i t u/\Srt key u a i):=by
    have:=F.out
    rwa [show min i b=i by omega] at this
   have R:Hid (∀x,a<=x->x<i->u x<u i):=fun x hx a0=>by
    obtain ⟨y,ya,yb,e⟩:=O.out.1.mem hx a0;rw [e,O.out.1.out (x:=i) (aG lR7)];exact HI.out y i ya yb X
   go_wp2_with fail;go_loopw [7] (fun v M=>∃j:Nat,a<=j/\j<=i/\v=U G j/\Mv w M c C N k (fun x=>u (dnI i j x))/\M.heap[w.heap.size]? = some (boxT g l lb sb)/\(j=i\/key (u i)<key (u j))) (fun v _=>(intOf v).toNat)
   case atStart=>exact ⟨i,o7,lR7,rfl,S.out.congr (fun x _=>by show u (dnI i i x)=u x;rw [gB1]),HX.out,aH rfl⟩
   case round=>
    obtain ⟨j,I,A,rfl,K,p,hk⟩:=hrel;have n:Hid _:=K;have o:=hid7 p;have HK:=hid7 hk;have c0:wr.cell? ⟨w.heap.size,0,none⟩=some (.func (.func g) #[] lb):=(cell_of_row wr w.heap.size 0 _ _ (0,0) p).trans rfl;clear K p hk S HX
    have H:Hid ((j=a\/key (u (j - 1))<=key (u i))->∀W,Mv w W c C N k (fun x=>u (dnI i j x))->W.heap[w.heap.size]? = some (boxT g l lb sb)->∃(L:Nat) (u':Nat->Nat),a<L/\L<=b+1/\Value.int .i64 ((i:Int)+1)=U G L/\Mv w W c C N k u'/\W.heap[w.heap.size]? = some (boxT g l lb sb)/\Rea a (min L b) t u'/\Srt key u' a L):=fun Z W hW hX=>
     ⟨i+1,_,o7,o7,by go_num,hW,hX,(by rw [show min (i+1) b=i+1 by omega];exact (O.out.1.mono lR7 (Nat.le_succ _)).trans (xZ1 u I A)),vE0 O.out.2 R.out I A Z HK.out⟩
    by_cases a4:a<j
    ·have P:u (dnI i j j)=u i:=by unfold dnI;rw [aA o7,aB rfl]
     have Q:u (dnI i j (j - 1))=u (j - 1):=by unfold dnI;rw [aB o7]
     by_cases q:key (u i)<key (u (j - 1))
     ·have m:Hid (Calls prog g (#[U G (j:Int),U G ((j:Int) - 1)]++lb) wr fun e T=>e=Y (.bool true)/\Below wr.heap.size wr T):=HL.out.at (E.out.trans n.out) (i:=j) (j:=j - 1) o7 o7 rfl o7 P Q (aE q);have s:=hid7 q;clear q P Q;go_wp2_with fail;refine m.out.mono ?_;rintro e D ⟨rfl,d⟩;have f:Hid _:=n.out.below d lR7;have B:=(d.block _ (lt_of_block o.out)).trans o.out;have z:=hid7 B;have c1:D.cell? ⟨w.heap.size,1,none⟩=some (.func (.func l) #[] sb):=(cell_of_row D w.heap.size 1 _ _ (0,0) B).trans rfl;have hs:(callFunc l (#[U G (j:Int),U G ((j:Int) - 1)]++sb)).run prog D=.ok (.value (.tuple #[])) ((D.setCells c (j*5) (k (u (dnI i j (j - 1))))).setCells c ((j - 1)*5) (k (u (dnI i j j)))):=HS.out.at f.out.row (i:=j) (j:=j - 1) o7 o7 rfl o7 o7;clear d B c0 m;go_wp2_with fail;go_roundw
      case rel=>
       refine ⟨j - 1,o7,o7,by go_num,((f.out.row.swap V o7 o7).2.2 _ _ f.out).congr (fun x _=>?_),(nO0 f.out.row HN.out).trans z.out,aG s.out⟩;show u (dnI i (j - 1) x)=u (dnI i j (ex1 j (j - 1) x));rw [fZ1 o7 A]
      case measure=>simp [intOf];omega
     ·have m:Hid (Calls prog g (#[U G (j:Int),U G ((j:Int) - 1)]++lb) wr fun e T=>e=Y (.bool false)/\Below wr.heap.size wr T):=HL.out.at (E.out.trans n.out) (i:=j) (j:=j - 1) o7 o7 rfl o7 P Q (aD q);have s:Hid (key (u (j - 1))<=key (u i)):=(show key (u (j - 1))<=key (u i) by omega);clear q P Q;go_wp2_with fail;refine m.out.mono ?_;rintro e D ⟨rfl,d⟩;have f:Hid _:=n.out.below d lR7;have z:Hid (D.heap[w.heap.size]? = some (boxT g l lb sb)):=(d.block _ (lt_of_block o.out)).trans o.out;clear d c0 m;go_wp2_with fail;go_roundw
      case rel=>exact H.out (aG s.out) _ f.out z.out
      case measure=>simp [intOf];omega
    ·go_wp2_with fail;go_roundw
     case rel=>exact H.out (aH o7) _ n.out o.out
     case measure=>simp [intOf];omega
  ·go_wp2;go_end0;obtain ⟨r1,r2⟩:=F.out;exact ⟨rfl,u,S.out,r1.mono lR7 o7,r2.sub lR7 o7⟩
theorem zU1 (g p:Nat) (lb sb:Array Value) (w0 w:World) (c C N a m b:Nat) (s:Nat->List Value) (t:Nat->Nat) (key:Nat->Int) (eg:∀args w,(callFunc g args).run prog w=.ok (.enter g args) w) (W:∀x,(s x).length=5) (hS:sQ0 prog p sb c C N s)
  (hL:pC0 prog g lb w0 c C N s key) (h:Mv w0 w c C N s t) (hN:N<=1000) (A:m=a+1) (a5:m<b) (hb:b<=N) (P:Srt key t m b) (K:Apt t a m b):
  Calls prog 228 #[.agg #[.func (.func g) #[] lb,.func (.func p) #[] sb],U G a,U G m,U G b] w fun e w'=>e=Y (.tuple #[])/\∃t',Mv w w' c C N s t'/\Rea a b t t'/\Srt key t' a b:=by
 have H0:Hid (Mv w (w.alloc (boxT g p lb sb)) c C N s t):=(Mv.start h.row).below ((aF _ _).alloc lR7 _) lR7;have HB:Hid ((w.alloc (boxT g p lb sb)).heap[w.heap.size]? = some (boxT g p lb sb)):=heap_alloc_new w _;have HN:Hid (w.heap.size≠c):=fun e=>by have:=h.row.lt;omega
 have HS:=hid7 hS;have HL:=hid7 hL;have J:=hid7 h;have HI:Hid (Srt key t m b/\Apt t a m b):=⟨P,K⟩;have ht:((m:Int) - a == 1)=true:=by simp;omega
 have F:=hid7 A;clear h hS hL P K A;have A:a<m:=by have:=F.out;omega
 go_enter func228,ntmps228;go_wp2_with fail;go_loopw [8,9] (fun vi vj wr=>∃i j:Nat,m<=i/\i<=j/\j<=b/\vi=U G i/\vj=U G j/\Mv w wr c C N s t/\wr.heap[w.heap.size]? = some (boxT g p lb sb)/\(i=m\/key (t (i - 1))<key (t a))/\(j=b\/key (t a)<=key (t j))) (fun vi vj _=>(intOf vj).toNat - (intOf vi).toNat)
 case atStart=>exact ⟨m,b,lR7,o7,lR7,rfl,rfl,H0.out,HB.out,aH rfl,aH rfl⟩
 case round=>
  obtain ⟨i,j,Z,a2,X,rfl,rfl,hm,B,M,L⟩:=hrel;have D:Hid _:=hm;have E:=hid7 B;have I:=hid7 M;have H:=hid7 L;have T:wr.cell? ⟨w.heap.size,0,none⟩=some (.func (.func g) #[] lb):=(cell_of_row wr w.heap.size 0 _ _ (0,0) B).trans rfl;clear hm B M L H0 HB
  by_cases a1:i<j
  ·obtain ⟨q,hq⟩:∃q:Nat,q=(i+j) / 2:=⟨_,rfl⟩;have r:=hid7 hq;clear hq
   by_cases o:key (t q)<key (t a)
   ·have f:Hid (Calls prog g (#[U G (((i:Int)+j) / 2),U G (a:Int)]++lb) wr fun e S=>e=Y (.bool true)/\Below wr.heap.size wr S):=HL.out.at (J.out.trans D.out) (i:=q) (j:=a) (by have:=r.out;omega) o7 (by have:=r.out;omega) rfl rfl rfl (aE o);have u:=hid7 o;clear o;go_wp2_with fail;refine f.out.mono ?_;rintro e w5 ⟨rfl,d⟩;have y:Hid _:=D.out.below d lR7;have z:Hid (w5.heap[w.heap.size]? = some (boxT g p lb sb)):=(d.block _ (lt_of_block E.out)).trans E.out;clear d T f;go_wp2_with fail;go_roundw
    case rel=>exact ⟨q+1,j,by have:=r.out;omega,by have:=r.out;omega,X,by have:=r.out;go_num,rfl,y.out,z.out,aG u.out,H.out⟩
    case measure=>simp [intOf];omega
   ·have f:Hid (Calls prog g (#[U G (((i:Int)+j) / 2),U G (a:Int)]++lb) wr fun e S=>e=Y (.bool false)/\Below wr.heap.size wr S):=HL.out.at (J.out.trans D.out) (i:=q) (j:=a) (by have:=r.out;omega) o7 (by have:=r.out;omega) rfl rfl rfl (aD o);have u:Hid (key (t a)<=key (t q)):=(show key (t a)<=key (t q) by omega);clear o;go_wp2_with fail;refine f.out.mono ?_;rintro e w5 ⟨rfl,d⟩;have y:Hid _:=D.out.below d lR7;have z:Hid (w5.heap[w.heap.size]? = some (boxT g p lb sb)):=(d.block _ (lt_of_block E.out)).trans E.out;clear d T f;go_wp2_with fail;go_roundw
    case rel=>exact ⟨i,q,Z,by have:=r.out;omega,by have:=r.out;omega,rfl,by have:=r.out;go_num,y.out,z.out,I.out,aG u.out⟩
    case measure=>simp [intOf];omega
  ·obtain rfl:i=j:=o7;go_wp2_with fail;go_loopw [11] (fun v Q=>∃k:Nat,a<=k/\k<=i - 1/\v=U G k/\Mv w Q c C N s (fun x=>t (upI a k x))/\Q.heap[w.heap.size]? = some (boxT g p lb sb)) (fun v _=>i - (intOf v).toNat)
   case atStart=>exact ⟨a,lR7,o7,rfl,D.out.congr (fun x _=>by show t (upI a a x)=t x;rw [tE1]),E.out⟩
   case round=>
    obtain ⟨k,V,a4,rfl,O,n⟩:=hrel;have l:Hid _:=O;have R:=hid7 n;have c1:wr.cell? ⟨w.heap.size,1,none⟩=some (.func (.func p) #[] sb):=(cell_of_row wr w.heap.size 1 _ _ (0,0) n).trans rfl;clear O n D E T
    by_cases a3:k<i - 1
    ·have hs:(callFunc p (#[U G (k:Int),U G ((k:Int)+1)]++sb)).run prog wr=.ok (.value (.tuple #[])) ((wr.setCells c (k*5) (s (t (upI a k (k+1))))).setCells c ((k+1)*5) (s (t (upI a k k)))):=HS.out.at l.out.row (i:=k) (j:=k+1) o7 o7 rfl o7 o7;go_wp2_with fail;go_roundw
     case rel=>
      refine ⟨k+1,o7,o7,by go_num,((l.out.row.swap W o7 o7).2.2 _ _ l.out).congr (fun x _=>?_),(nO0 l.out.row HN.out).trans R.out⟩;show t (upI a (k+1) x)=t (upI a k (ex1 k (k+1) x));rw [tD1 V]
     case measure=>simp [intOf];omega
    ·obtain rfl:k=i - 1:=o7;go_wp2_with fail;refine bodyPost_ret (results_none rfl _ _ _) rfl ?_;have hi:=HI.out;have e1:=F.out;refine ⟨rfl,_,l.out,eD2 t o7 o7,eF2 (by rw [<-e1];exact hi.1) (fun x hx a0=>hi.2 a x lR7 o7 o7 a0) o7 o7 ?_ ?_⟩
     ·rcases I.out with h | h
      ·left;omega
      ·exact aG h
     ·rcases H.out with h | h
      ·left;omega
      ·right;rw [show i - 1+1=i by omega];exact h
theorem tH1 (g p:Nat) (lb sb:Array Value) (w0 w:World) (c C N a m b:Nat) (s:Nat->List Value) (t:Nat->Nat) (key:Nat->Int) (eg:∀args w,(callFunc g args).run prog w=.ok (.enter g args) w) (X:∀x,(s x).length=5) (hS:sQ0 prog p sb c C N s)
  (hL:pC0 prog g lb w0 c C N s key) (h:Mv w0 w c C N s t) (hN:N<=1000) (a1:a+1<m) (D:b=m+1) (hb:b<=N) (R:Srt key t a m) (M:Apt t a m b):
  Calls prog 228 #[.agg #[.func (.func g) #[] lb,.func (.func p) #[] sb],U G a,U G m,U G b] w fun e w'=>e=Y (.tuple #[])/\∃t',Mv w w' c C N s t'/\Rea a b t t'/\Srt key t' a b:=by
 have H0:Hid (Mv w (w.alloc (boxT g p lb sb)) c C N s t):=(Mv.start h.row).below ((aF _ _).alloc lR7 _) lR7;have HB:Hid ((w.alloc (boxT g p lb sb)).heap[w.heap.size]? = some (boxT g p lb sb)):=heap_alloc_new w _;have HN:Hid (w.heap.size≠c):=fun e=>by have:=h.row.lt;omega
 have HS:=hid7 hS;have HL:=hid7 hL;have L:=hid7 h;have HI:Hid (Srt key t a m/\Apt t a m b):=⟨R,M⟩;have ht:((m:Int) - a == 1)=false:=aC.2 o7;have a6:((b:Int) - m == 1)=true:=by simp;omega
 have I:=hid7 D;clear h hS hL R M D;have D:m<b:=by have:=I.out;omega
 go_enter func228,ntmps228;go_wp2_with fail;go_loopw [12,13] (fun vi vj wr=>∃i j:Nat,a<=i/\i<=j/\j<=m/\vi=U G i/\vj=U G j/\Mv w wr c C N s t/\wr.heap[w.heap.size]? = some (boxT g p lb sb)/\(i=a\/key (t (i - 1))<=key (t m))/\(j=m\/key (t m)<key (t j))) (fun vi vj _=>(intOf vj).toNat - (intOf vi).toNat)
 case atStart=>exact ⟨a,m,lR7,o7,lR7,rfl,rfl,H0.out,HB.out,aH rfl,aH rfl⟩
 case round=>
  obtain ⟨i,j,E,a3,Z,rfl,rfl,hm,A,P,O⟩:=hrel;have F:Hid _:=hm;have H:=hid7 A;have K:=hid7 P;have J:=hid7 O;have W:wr.cell? ⟨w.heap.size,0,none⟩=some (.func (.func g) #[] lb):=(cell_of_row wr w.heap.size 0 _ _ (0,0) A).trans rfl;clear hm A P O H0 HB
  by_cases a2:i<j
  ·obtain ⟨q,hq⟩:∃q:Nat,q=(i+j) / 2:=⟨_,rfl⟩;have r:=hid7 hq;clear hq
   by_cases o:key (t m)<key (t q)
   ·have f:Hid (Calls prog g (#[U G (m:Int),U G (((i:Int)+j) / 2)]++lb) wr fun e V=>e=Y (.bool true)/\Below wr.heap.size wr V):=HL.out.at (L.out.trans F.out) (i:=m) (j:=q) o7 (by have:=r.out;omega) rfl (by have:=r.out;omega) rfl rfl (aE o);have u:=hid7 o;clear o;go_wp2_with fail;refine f.out.mono ?_;rintro e w5 ⟨rfl,d⟩;have y:Hid _:=F.out.below d lR7;have z:Hid (w5.heap[w.heap.size]? = some (boxT g p lb sb)):=(d.block _ (lt_of_block H.out)).trans H.out;clear d W f;go_wp2_with fail;go_roundw
    case rel=>exact ⟨i,q,E,by have:=r.out;omega,by have:=r.out;omega,rfl,by have:=r.out;go_num,y.out,z.out,K.out,aG u.out⟩
    case measure=>simp [intOf];omega
   ·have f:Hid (Calls prog g (#[U G (m:Int),U G (((i:Int)+j) / 2)]++lb) wr fun e V=>e=Y (.bool false)/\Below wr.heap.size wr V):=HL.out.at (L.out.trans F.out) (i:=m) (j:=q) o7 (by have:=r.out;omega) rfl (by have:=r.out;omega) rfl rfl (aD o);have u:Hid (key (t q)<=key (t m)):=(show key (t q)<=key (t m) by omega);clear o;go_wp2_with fail;refine f.out.mono ?_;rintro e w5 ⟨rfl,d⟩;have y:Hid _:=F.out.below d lR7;have z:Hid (w5.heap[w.heap.size]? = some (boxT g p lb sb)):=(d.block _ (lt_of_block H.out)).trans H.out;clear d W f;go_wp2_with fail;go_roundw
    case rel=>exact ⟨q+1,j,by have:=r.out;omega,by have:=r.out;omega,Z,by have:=r.out;go_num,rfl,y.out,z.out,aG u.out,J.out⟩
    case measure=>simp [intOf];omega
  ·obtain rfl:i=j:=o7;go_wp2_with fail;go_loopw [15] (fun v S=>∃k:Nat,i<=k/\k<=m/\v=U G k/\Mv w S c C N s (fun x=>t (dnI m k x))/\S.heap[w.heap.size]? = some (boxT g p lb sb)) (fun v _=>(intOf v).toNat)
   case atStart=>exact ⟨m,o7,lR7,rfl,F.out.congr (fun x _=>by show t (dnI m m x)=t x;rw [gB1]),H.out⟩
   case round=>
    obtain ⟨k,a4,B,rfl,Q,n⟩:=hrel;have l:Hid _:=Q;have T:=hid7 n;have c1:wr.cell? ⟨w.heap.size,1,none⟩=some (.func (.func p) #[] sb):=(cell_of_row wr w.heap.size 1 _ _ (0,0) n).trans rfl;clear Q n F H W
    by_cases a5:i<k
    ·have hs:(callFunc p (#[U G (k:Int),U G ((k:Int) - 1)]++sb)).run prog wr=.ok (.value (.tuple #[])) ((wr.setCells c (k*5) (s (t (dnI m k (k - 1))))).setCells c ((k - 1)*5) (s (t (dnI m k k)))):=HS.out.at l.out.row (i:=k) (j:=k - 1) o7 o7 rfl o7 o7;go_wp2_with fail;go_roundw
     case rel=>
      refine ⟨k - 1,o7,o7,by go_num,((l.out.row.swap X o7 o7).2.2 _ _ l.out).congr (fun x _=>?_),(nO0 l.out.row HN.out).trans T.out⟩;show t (dnI m (k - 1) x)=t (dnI m k (ex1 k (k - 1) x));rw [fZ1 o7 B]
     case measure=>simp [intOf];omega
    ·obtain rfl:k=i:=o7;go_wp2_with fail;refine bodyPost_ret (results_none rfl _ _ _) rfl ?_;have hi:=HI.out;have e1:=I.out;subst e1;exact ⟨rfl,_,l.out,xZ1 t E B,vE0 hi.1 (fun x hx a0=>hi.2 x m hx a0 lR7 o7) E B K.out J.out⟩
theorem tI1 {s:Nat} (h:s=m\/e=m) (a:s<=m) (b:m<=e):roI s m e x=x:=by
 unfold roI
 (repeat' split) <;> omega
def SymC (g sf:Nat) (lb sb:Array Value) (w0:World) (blk C N:Nat) (el:Nat->List Value) (key:Nat->Int) (d:Nat):Prop:=
 ∀(w:World) (a m b:Nat) (t:Nat->Nat),b - a<=d->Mv w0 w blk C N el t->a<m->m<b->b<=N->Srt key t a m->Srt key t m b->Apt t a m b->
  Calls prog 228 #[.agg #[.func (.func g) #[] lb,.func (.func sf) #[] sb],U G a,U G m,U G b] w fun e w'=>e=Y (.tuple #[])/\∃t',Mv w w' blk C N el t'/\Rea a b t t'/\Srt key t' a b
theorem zN0 {s c:Nat} (D:Srt key t a m) (E:Srt key t m b) (p:Apt t a m b) (j:a<=s) (n:s<=m) (l:m<=e) (k:e<=b) (F:c=s+(e - m))
  (r:s=a\/e=b\/key (t (s - 1))<=key (t e)) (q:s=m\/e=m\/key (t (e - 1))<key (t s)):
  (Srt key (fun x=>t (roI s m e x)) a s/\Srt key (fun x=>t (roI s m e x)) s c/\Apt (fun x=>t (roI s m e x)) a s c)
  /\(¬(a<s/\s<c)->Srt key (fun x=>t (roI s m e x)) a c)
  /\(∀u,Rea a c (fun x=>t (roI s m e x)) u->Srt key u c e/\Srt key u e b/\Apt u c e b)
  /\(¬(c<e/\e<b)->∀u,Rea a c (fun x=>t (roI s m e x)) u->Srt key u c b)
  /\∀u i,Rea a c (fun x=>t (roI s m e x)) u->Rea c b u i->Srt key u a c->Srt key i c b->Rea a b t i/\Srt key i a b:=by
 subst F;obtain ⟨A,z,J,B,C,K,L⟩:=yC1 D E p j n l k r q;have d:∀u,Rea a (s+(e - m)) (fun x=>t (roI s m e x)) u->∀x,s+(e - m)<=x->u x=t (roI s m e x):=fun u g x f=>g.out (aG f)
 refine ⟨⟨A,z,J⟩,fun G=>?_,fun u g=>⟨B.congr (fun x f _=>d u g x f),C.congr (fun x f _=>d u g x o7),fun x y f v I w=>?_⟩,fun G u g=>?_,fun u i g o M N=>?_⟩
 ·by_cases H:s=a
  ·rw [H] at z ⊢;exact z
  ·have:e=m:=o7;subst this
   simpa using A
 ·rw [d u g x f,d u g y o7];exact K x y f v I w
 ·by_cases P:e=b
  ·exact (B.congr (fun x f _=>d u g x f)).sub lR7 o7
  ·have:s+(e - m)=e:=o7;rw [this];exact C.congr (fun x f _=>d u g x o7)
 ·have O:Srt key i a (s+(e - m)):=M.congr (fun x _ f=>o.out (aH f));have:=tF1 (t:=fun x=>t (roI s m e x)) (t':=i) (a:=a) (c:=s+(e - m)) (b:=b) ⟨o7,o7⟩ L ⟨u,g,o⟩ O N;exact ⟨((eE2 t n l).mono j k).trans this.2,this.1⟩
theorem zV1 (g z:Nat) (lb sb:Array Value) (w0 w:World) (k C N a m b d:Nat) (A:Nat->List Value) (t:Nat->Nat) (key:Nat->Int) (eg:∀args w,(callFunc g args).run prog w=.ok (.enter g args) w) (a3:∀x,(A x).length=5) (hS:sQ0 prog z sb k C N A)
  (hL:pC0 prog g lb w0 k C N A key) (h:Mv w0 w k C N A t) (hN:N<=1000) (b6:a+1<m) (b8:m+1<b) (hb:b<=N) (a9:Srt key t a m) (b0:Srt key t m b) (a8:Apt t a m b) (hd:b - a<=d+1) (hC:SymC g z lb sb w0 k C N A key d):
  Calls prog 228 #[.agg #[.func (.func g) #[] lb,.func (.func z) #[] sb],U G a,U G m,U G b] w fun e w'=>e=Y (.tuple #[])/\∃t',Mv w w' k C N A t'/\Rea a b t t'/\Srt key t' a b:=by
 have H0:Hid (Mv w (w.alloc (boxT g z lb sb)) k C N A t):=(Mv.start h.row).below ((aF _ _).alloc lR7 _) lR7;have HB:Hid ((w.alloc (boxT g z lb sb)).heap[w.heap.size]? = some (boxT g z lb sb)):=heap_alloc_new w _;have HN:Hid (w.heap.size≠k):=fun e=>by have:=h.row.lt;omega
 have HS:=hid7 hS;have HL:=hid7 hL;have I:=hid7 h;have HI:Hid (Srt key t a m/\Srt key t m b/\Apt t a m b):=⟨a9,b0,a8⟩;have HC:=hid7 hC;have ht:((m:Int) - a == 1)=false:=aC.2 o7;have c2:((b:Int) - m == 1)=false:=aC.2 o7;obtain ⟨c,hc⟩:∃c:Nat,(c:Int)=((a:Int)+b) / 2:=⟨(a+b) / 2,o7⟩;have b5:=hid7 hc;have k1:a+b<=2*c+1:=o7;have k2:2*c<=a+b:=o7;have b7:((a:Int)+b) / 2=c:=hc.symm;clear h hS hL a9 b0 a8 hC hc
 by_cases b9:c<m
 ·go_enter func228,ntmps228;go_wp2_with fail;go_loopw [18,19] (fun vs vr wr=>∃s r:Nat,c+m - b<=s/\s<=r/\r<=c/\vs=U G s/\vr=U G r/\Mv w wr k C N A t/\wr.heap[w.heap.size]? = some (boxT g z lb sb)/\(s=c+m - b\/key (t (s - 1))<=key (t (c+m - s)))/\(r=c\/key (t (c+m - 1 - r))<key (t r))) (fun vs vr _=>(intOf vr).toNat - (intOf vs).toNat)
  case atStart=>exact ⟨c+m - b,c,lR7,o7,lR7,by go_num,by go_num,H0,HB,aH rfl,aH rfl⟩
  case round=>
   obtain ⟨s,r,a6,b4,a7,rfl,rfl,hm,W,a5,a4⟩:=hrel;have H:Hid _:=hm;have J:=hid7 W;have Z:=hid7 a5;have X:=hid7 a4;have B:aC0 wr w.heap.size 0 (.func (.func g) #[] lb):=(cell_of_row wr w.heap.size 0 _ _ (0,0) W).trans rfl;have D:aC0 wr w.heap.size 1 (.func (.func z) #[] sb):=(cell_of_row wr w.heap.size 1 _ _ (0,0) W).trans rfl;clear hm W a5 a4 H0 HB
   by_cases b2:s<r
   ·obtain ⟨q,hq⟩:∃q:Nat,(q:Int)=((s:Int)+r) / 2:=⟨(s+r) / 2,o7⟩;have k3:s+r<=2*q+1:=o7;have k4:2*q<=s+r:=o7;have b3:((s:Int)+r) / 2=q:=hq.symm;clear hq
    by_cases Q:key (t (c+m - 1 - q))<key (t q)
    ·have P:Hid (Calls prog g (#[U G ((c:Int)+m - 1 - q),U G (q:Int)]++lb) wr fun e W'=>e=Y (.bool true)/\aL0 wr W'):=HL.at (I.trans H) (i:=c+m - 1 - q) (j:=q) o7 o7 o7 rfl rfl rfl (aE Q);have a0:=hid7 Q;clear Q;go_wp2_with fail;refine P.mono ?_;rintro e w5 ⟨rfl,E⟩;have a1:Hid _:=H.below E lR7;have a2:Hid (w5.heap[w.heap.size]? = some (boxT g z lb sb)):=(E.block _ (lt_of_block J)).trans J;clear E B D P;go_wp2_with fail;go_roundw
     case rel=>exact ⟨s,q,a6,o7,o7,rfl,by go_num,a1,a2,Z,aG a0⟩
     case measure=>simp [intOf];omega
    ·have P:Hid (Calls prog g (#[U G ((c:Int)+m - 1 - q),U G (q:Int)]++lb) wr fun e W'=>e=Y (.bool false)/\aL0 wr W'):=HL.at (I.trans H) (i:=c+m - 1 - q) (j:=q) o7 o7 o7 rfl rfl rfl (aD Q);have a0:Hid (key (t q)<=key (t (c+m - 1 - q))):=(show key (t q)<=key (t (c+m - 1 - q)) by omega);clear Q;go_wp2_with fail;refine P.mono ?_;rintro e w5 ⟨rfl,E⟩;have a1:Hid _:=H.below E lR7;have a2:Hid (w5.heap[w.heap.size]? = some (boxT g z lb sb)):=(E.block _ (lt_of_block J)).trans J;clear E B D P;go_wp2_with fail;go_roundw
     case rel=>exact ⟨q+1,r,o7,o7,a7,by go_num,rfl,a1,a2,aG (by rw [show q+1 - 1=q by omega,show c+m - (q+1)=c+m - 1 - q by omega];exact a0),X⟩
     case measure=>simp [intOf];omega
   ·obtain rfl:s=r:=o7;obtain ⟨f,hf⟩:∃f:Nat,(f:Int)=(c:Int)+m - s:=⟨c+m - s,o7⟩;have b1:(c:Int)+m - s=f:=hf.symm;have k5:f+s=c+m:=o7;clear hf
    have n:Hid _:=zN0 (key:=key) (t:=t) (a:=a) (s:=s) (m:=m) (e:=f) (b:=b) (c:=c) HI.out.1 HI.out.2.1 HI.out.2.2 o7 o7 o7 o7 o7
     (by rcases Z with h | h
         ·omega
         ·right;right;rwa [show f=c+m - s by omega])
     (by rcases X with h | h
         ·omega
         ·right;right;rwa [show f - 1=c+m - 1 - s by omega])
    clear Z X
    by_cases g1:s<m/\m<f
    ·by_cases T:a<s/\s<c
     ·by_cases R:c<f/\f<b
      ·go_wp2_with fail;refine (gQ0 g z lb sb wr k C N s m f A t a3 HS H.row hN g1.1 g1.2 o7).mono ?_;rintro e p ⟨rfl,K⟩;have L:=hid7 (H.trans K);have l:=(K.block _ (lt_of_block J) HN).trans J;have M:=hid7 l;clear B D K;have B:aC0 p w.heap.size 0 (.func (.func g) #[] lb):=(cell_of_row p w.heap.size 0 _ _ (0,0) l).trans rfl;have D:aC0 p w.heap.size 1 (.func (.func z) #[] sb):=(cell_of_row p w.heap.size 1 _ _ (0,0) l).trans rfl;clear l;go_wp2_with fail;refine (HC p a s c _ o7 (I.trans L) T.1 T.2 o7 n.out.1.1 n.out.1.2.1 n.out.1.2.2).mono ?_;rintro e F ⟨rfl,u,V,r7,s7⟩;have O:Hid (Mv w F k C N A u):=L.trans V;have o:=(V.block _ (lt_of_block M) HN).trans M;have X7:=hid7 o;have y:=hid7 r7;have S:=hid7 s7;clear B D V r7 s7;have B:aC0 F w.heap.size 0 (.func (.func g) #[] lb):=(cell_of_row F w.heap.size 0 _ _ (0,0) o).trans rfl;have D:aC0 F w.heap.size 1 (.func (.func z) #[] sb):=(cell_of_row F w.heap.size 1 _ _ (0,0) o).trans rfl;clear o;go_wp2_with fail;refine (HC F c f b _ o7 (I.trans O) R.1 R.2 o7 (n.out.2.2.1 _ y).1 (n.out.2.2.1 _ y).2.1 (n.out.2.2.1 _ y).2.2).mono ?_;rintro e w8 ⟨rfl,u',h8,r8,s8⟩;have M8:Hid (Mv w w8 k C N A u'):=O.trans h8;have v:Hid _:=n.out.2.2.2.2 _ u' y r8 S s8;clear B D h8 r8 s8;go_wp2_with fail
       all_goals go_end0
       all_goals exact ⟨rfl,u',M8,v⟩
      ·go_wp2_with fail;refine (gQ0 g z lb sb wr k C N s m f A t a3 HS H.row hN g1.1 g1.2 o7).mono ?_;rintro e p ⟨rfl,K⟩;have L:=hid7 (H.trans K);have l:=(K.block _ (lt_of_block J) HN).trans J;have M:=hid7 l;clear B D K;have B:aC0 p w.heap.size 0 (.func (.func g) #[] lb):=(cell_of_row p w.heap.size 0 _ _ (0,0) l).trans rfl;have D:aC0 p w.heap.size 1 (.func (.func z) #[] sb):=(cell_of_row p w.heap.size 1 _ _ (0,0) l).trans rfl;clear l;go_wp2_with fail;refine (HC p a s c _ o7 (I.trans L) T.1 T.2 o7 n.out.1.1 n.out.1.2.1 n.out.1.2.2).mono ?_;rintro e F ⟨rfl,u,V,r7,s7⟩;have O:Hid (Mv w F k C N A u):=L.trans V;have o:=(V.block _ (lt_of_block M) HN).trans M;have X7:=hid7 o;have y:=hid7 r7;have S:=hid7 s7;clear B D V r7 s7;have B:aC0 F w.heap.size 0 (.func (.func g) #[] lb):=(cell_of_row F w.heap.size 0 _ _ (0,0) o).trans rfl;have D:aC0 F w.heap.size 1 (.func (.func z) #[] sb):=(cell_of_row F w.heap.size 1 _ _ (0,0) o).trans rfl;clear o;have v:Hid _:=n.out.2.2.2.2 _ _ y (Rea.refl c b _) S (n.out.2.2.2.1 R _ y);go_wp2_with fail
       all_goals go_end0
       all_goals exact ⟨rfl,_,O,v⟩
     ·by_cases R:c<f/\f<b
      ·exfalso;omega
      ·go_wp2_with fail;refine (gQ0 g z lb sb wr k C N s m f A t a3 HS H.row hN g1.1 g1.2 o7).mono ?_;rintro e p ⟨rfl,K⟩;have L:=hid7 (H.trans K);have l:=(K.block _ (lt_of_block J) HN).trans J;have M:=hid7 l;clear B D K;have B:aC0 p w.heap.size 0 (.func (.func g) #[] lb):=(cell_of_row p w.heap.size 0 _ _ (0,0) l).trans rfl;have D:aC0 p w.heap.size 1 (.func (.func z) #[] sb):=(cell_of_row p w.heap.size 1 _ _ (0,0) l).trans rfl;clear l;have O:Hid (Mv w p k C N A (fun x=>t (roI s m f x))):=L;have X7:Hid (p.heap[w.heap.size]? = some (boxT g z lb sb)):=M;have y:Hid (Rea a c (fun x=>t (roI s m f x)) (fun x=>t (roI s m f x))):=Rea.refl _ _ _;have S:Hid (Srt key (fun x=>t (roI s m f x)) a c):=n.out.2.1 T;have v:Hid _:=n.out.2.2.2.2 _ _ y (Rea.refl c b _) S (n.out.2.2.2.1 R _ y);go_wp2_with fail
       all_goals go_end0
       all_goals exact ⟨rfl,_,O,v⟩
    ·by_cases T:a<s/\s<c
     ·by_cases R:c<f/\f<b
      ·exfalso;omega
      ·exfalso;omega
     ·by_cases R:c<f/\f<b
      ·have L:Hid (Mv w wr k C N A (fun x=>t (roI s m f x))):=H.congr (fun x _=>by show t (roI s m f x)=t x;rw [tI1 o7 o7 o7]);have M:=hid7 J;have O:Hid (Mv w wr k C N A (fun x=>t (roI s m f x))):=L;have X7:Hid (wr.heap[w.heap.size]? = some (boxT g z lb sb)):=M;have y:Hid (Rea a c (fun x=>t (roI s m f x)) (fun x=>t (roI s m f x))):=Rea.refl _ _ _;have S:Hid (Srt key (fun x=>t (roI s m f x)) a c):=n.out.2.1 T;go_wp2_with fail;refine (HC wr c f b _ o7 (I.trans O) R.1 R.2 o7 (n.out.2.2.1 _ y).1 (n.out.2.2.1 _ y).2.1 (n.out.2.2.1 _ y).2.2).mono ?_;rintro e w8 ⟨rfl,u',h8,r8,s8⟩;have M8:Hid (Mv w w8 k C N A u'):=O.trans h8;have v:Hid _:=n.out.2.2.2.2 _ u' y r8 S s8;clear B D h8 r8 s8;go_wp2_with fail
       all_goals go_end0
       all_goals exact ⟨rfl,u',M8,v⟩
      ·have L:Hid (Mv w wr k C N A (fun x=>t (roI s m f x))):=H.congr (fun x _=>by show t (roI s m f x)=t x;rw [tI1 o7 o7 o7]);have M:=hid7 J;have O:Hid (Mv w wr k C N A (fun x=>t (roI s m f x))):=L;have X7:Hid (wr.heap[w.heap.size]? = some (boxT g z lb sb)):=M;have y:Hid (Rea a c (fun x=>t (roI s m f x)) (fun x=>t (roI s m f x))):=Rea.refl _ _ _;have S:Hid (Srt key (fun x=>t (roI s m f x)) a c):=n.out.2.1 T;have v:Hid _:=n.out.2.2.2.2 _ _ y (Rea.refl c b _) S (n.out.2.2.2.1 R _ y);go_wp2_with fail
       all_goals go_end0
       all_goals exact ⟨rfl,_,O,v⟩
 ·go_enter func228,ntmps228;go_wp2_with fail;go_loopw [18,19] (fun vs vr wr=>∃s r:Nat,a<=s/\s<=r/\r<=m/\vs=U G s/\vr=U G r/\Mv w wr k C N A t/\wr.heap[w.heap.size]? = some (boxT g z lb sb)/\(s=a\/key (t (s - 1))<=key (t (c+m - s)))/\(r=m\/key (t (c+m - 1 - r))<key (t r))) (fun vs vr _=>(intOf vr).toNat - (intOf vs).toNat)
  case atStart=>exact ⟨a,m,lR7,o7,lR7,by go_num,by go_num,H0,HB,aH rfl,aH rfl⟩
  case round=>
   obtain ⟨s,r,a6,b4,a7,rfl,rfl,hm,W,a5,a4⟩:=hrel;have H:Hid _:=hm;have J:=hid7 W;have Z:=hid7 a5;have X:=hid7 a4;have B:aC0 wr w.heap.size 0 (.func (.func g) #[] lb):=(cell_of_row wr w.heap.size 0 _ _ (0,0) W).trans rfl;have D:aC0 wr w.heap.size 1 (.func (.func z) #[] sb):=(cell_of_row wr w.heap.size 1 _ _ (0,0) W).trans rfl;clear hm W a5 a4 H0 HB
   by_cases b2:s<r
   ·obtain ⟨q,hq⟩:∃q:Nat,(q:Int)=((s:Int)+r) / 2:=⟨(s+r) / 2,o7⟩;have k3:s+r<=2*q+1:=o7;have k4:2*q<=s+r:=o7;have b3:((s:Int)+r) / 2=q:=hq.symm;clear hq
    by_cases Q:key (t (c+m - 1 - q))<key (t q)
    ·have P:Hid (Calls prog g (#[U G ((c:Int)+m - 1 - q),U G (q:Int)]++lb) wr fun e W'=>e=Y (.bool true)/\aL0 wr W'):=HL.at (I.trans H) (i:=c+m - 1 - q) (j:=q) o7 o7 o7 rfl rfl rfl (aE Q);have a0:=hid7 Q;clear Q;go_wp2_with fail;refine P.mono ?_;rintro e w5 ⟨rfl,E⟩;have a1:Hid _:=H.below E lR7;have a2:Hid (w5.heap[w.heap.size]? = some (boxT g z lb sb)):=(E.block _ (lt_of_block J)).trans J;clear E B D P;go_wp2_with fail;go_roundw
     case rel=>exact ⟨s,q,a6,o7,o7,rfl,by go_num,a1,a2,Z,aG a0⟩
     case measure=>simp [intOf];omega
    ·have P:Hid (Calls prog g (#[U G ((c:Int)+m - 1 - q),U G (q:Int)]++lb) wr fun e W'=>e=Y (.bool false)/\aL0 wr W'):=HL.at (I.trans H) (i:=c+m - 1 - q) (j:=q) o7 o7 o7 rfl rfl rfl (aD Q);have a0:Hid (key (t q)<=key (t (c+m - 1 - q))):=(show key (t q)<=key (t (c+m - 1 - q)) by omega);clear Q;go_wp2_with fail;refine P.mono ?_;rintro e w5 ⟨rfl,E⟩;have a1:Hid _:=H.below E lR7;have a2:Hid (w5.heap[w.heap.size]? = some (boxT g z lb sb)):=(E.block _ (lt_of_block J)).trans J;clear E B D P;go_wp2_with fail;go_roundw
     case rel=>exact ⟨q+1,r,o7,o7,a7,by go_num,rfl,a1,a2,aG (by rw [show q+1 - 1=q by omega,show c+m - (q+1)=c+m - 1 - q by omega];exact a0),X⟩
     case measure=>simp [intOf];omega
   ·obtain rfl:s=r:=o7;obtain ⟨f,hf⟩:∃f:Nat,(f:Int)=(c:Int)+m - s:=⟨c+m - s,o7⟩;have b1:(c:Int)+m - s=f:=hf.symm;have k5:f+s=c+m:=o7;clear hf
    have n:Hid _:=zN0 (key:=key) (t:=t) (a:=a) (s:=s) (m:=m) (e:=f) (b:=b) (c:=c) HI.out.1 HI.out.2.1 HI.out.2.2 o7 o7 o7 o7 o7
     (by rcases Z with h | h
         ·omega
         ·right;right;rwa [show f=c+m - s by omega])
     (by rcases X with h | h
         ·omega
         ·right;right;rwa [show f - 1=c+m - 1 - s by omega])
    clear Z X
    by_cases g1:s<m/\m<f
    ·by_cases T:a<s/\s<c
     ·by_cases R:c<f/\f<b
      ·go_wp2_with fail;refine (gQ0 g z lb sb wr k C N s m f A t a3 HS H.row hN g1.1 g1.2 o7).mono ?_;rintro e p ⟨rfl,K⟩;have L:=hid7 (H.trans K);have l:=(K.block _ (lt_of_block J) HN).trans J;have M:=hid7 l;clear B D K;have B:aC0 p w.heap.size 0 (.func (.func g) #[] lb):=(cell_of_row p w.heap.size 0 _ _ (0,0) l).trans rfl;have D:aC0 p w.heap.size 1 (.func (.func z) #[] sb):=(cell_of_row p w.heap.size 1 _ _ (0,0) l).trans rfl;clear l;go_wp2_with fail;refine (HC p a s c _ o7 (I.trans L) T.1 T.2 o7 n.out.1.1 n.out.1.2.1 n.out.1.2.2).mono ?_;rintro e F ⟨rfl,u,V,r7,s7⟩;have O:Hid (Mv w F k C N A u):=L.trans V;have o:=(V.block _ (lt_of_block M) HN).trans M;have X7:=hid7 o;have y:=hid7 r7;have S:=hid7 s7;clear B D V r7 s7;have B:aC0 F w.heap.size 0 (.func (.func g) #[] lb):=(cell_of_row F w.heap.size 0 _ _ (0,0) o).trans rfl;have D:aC0 F w.heap.size 1 (.func (.func z) #[] sb):=(cell_of_row F w.heap.size 1 _ _ (0,0) o).trans rfl;clear o;go_wp2_with fail;refine (HC F c f b _ o7 (I.trans O) R.1 R.2 o7 (n.out.2.2.1 _ y).1 (n.out.2.2.1 _ y).2.1 (n.out.2.2.1 _ y).2.2).mono ?_;rintro e w8 ⟨rfl,u',h8,r8,s8⟩;have M8:Hid (Mv w w8 k C N A u'):=O.trans h8;have v:Hid _:=n.out.2.2.2.2 _ u' y r8 S s8;clear B D h8 r8 s8;go_wp2_with fail
       all_goals go_end0
       all_goals exact ⟨rfl,u',M8,v⟩
      ·go_wp2_with fail;refine (gQ0 g z lb sb wr k C N s m f A t a3 HS H.row hN g1.1 g1.2 o7).mono ?_;rintro e p ⟨rfl,K⟩;have L:=hid7 (H.trans K);have l:=(K.block _ (lt_of_block J) HN).trans J;have M:=hid7 l;clear B D K;have B:aC0 p w.heap.size 0 (.func (.func g) #[] lb):=(cell_of_row p w.heap.size 0 _ _ (0,0) l).trans rfl;have D:aC0 p w.heap.size 1 (.func (.func z) #[] sb):=(cell_of_row p w.heap.size 1 _ _ (0,0) l).trans rfl;clear l;go_wp2_with fail;refine (HC p a s c _ o7 (I.trans L) T.1 T.2 o7 n.out.1.1 n.out.1.2.1 n.out.1.2.2).mono ?_;rintro e F ⟨rfl,u,V,r7,s7⟩;have O:Hid (Mv w F k C N A u):=L.trans V;have o:=(V.block _ (lt_of_block M) HN).trans M;have X7:=hid7 o;have y:=hid7 r7;have S:=hid7 s7;clear B D V r7 s7;have B:aC0 F w.heap.size 0 (.func (.func g) #[] lb):=(cell_of_row F w.heap.size 0 _ _ (0,0) o).trans rfl;have D:aC0 F w.heap.size 1 (.func (.func z) #[] sb):=(cell_of_row F w.heap.size 1 _ _ (0,0) o).trans rfl;clear o;have v:Hid _:=n.out.2.2.2.2 _ _ y (Rea.refl c b _) S (n.out.2.2.2.1 R _ y);go_wp2_with fail
       all_goals go_end0
       all_goals exact ⟨rfl,_,O,v⟩
     ·by_cases R:c<f/\f<b
      ·go_wp2_with fail;refine (gQ0 g z lb sb wr k C N s m f A t a3 HS H.row hN g1.1 g1.2 o7).mono ?_;rintro e p ⟨rfl,K⟩;have L:=hid7 (H.trans K);have l:=(K.block _ (lt_of_block J) HN).trans J;have M:=hid7 l;clear B D K;have B:aC0 p w.heap.size 0 (.func (.func g) #[] lb):=(cell_of_row p w.heap.size 0 _ _ (0,0) l).trans rfl;have D:aC0 p w.heap.size 1 (.func (.func z) #[] sb):=(cell_of_row p w.heap.size 1 _ _ (0,0) l).trans rfl;clear l;have O:Hid (Mv w p k C N A (fun x=>t (roI s m f x))):=L;have X7:Hid (p.heap[w.heap.size]? = some (boxT g z lb sb)):=M;have y:Hid (Rea a c (fun x=>t (roI s m f x)) (fun x=>t (roI s m f x))):=Rea.refl _ _ _;have S:Hid (Srt key (fun x=>t (roI s m f x)) a c):=n.out.2.1 T;go_wp2_with fail;refine (HC p c f b _ o7 (I.trans O) R.1 R.2 o7 (n.out.2.2.1 _ y).1 (n.out.2.2.1 _ y).2.1 (n.out.2.2.1 _ y).2.2).mono ?_;rintro e w8 ⟨rfl,u',h8,r8,s8⟩;have M8:Hid (Mv w w8 k C N A u'):=O.trans h8;have v:Hid _:=n.out.2.2.2.2 _ u' y r8 S s8;clear B D h8 r8 s8;go_wp2_with fail
       all_goals go_end0
       all_goals exact ⟨rfl,u',M8,v⟩
      ·go_wp2_with fail;refine (gQ0 g z lb sb wr k C N s m f A t a3 HS H.row hN g1.1 g1.2 o7).mono ?_;rintro e p ⟨rfl,K⟩;have L:=hid7 (H.trans K);have l:=(K.block _ (lt_of_block J) HN).trans J;have M:=hid7 l;clear B D K;have B:aC0 p w.heap.size 0 (.func (.func g) #[] lb):=(cell_of_row p w.heap.size 0 _ _ (0,0) l).trans rfl;have D:aC0 p w.heap.size 1 (.func (.func z) #[] sb):=(cell_of_row p w.heap.size 1 _ _ (0,0) l).trans rfl;clear l;have O:Hid (Mv w p k C N A (fun x=>t (roI s m f x))):=L;have X7:Hid (p.heap[w.heap.size]? = some (boxT g z lb sb)):=M;have y:Hid (Rea a c (fun x=>t (roI s m f x)) (fun x=>t (roI s m f x))):=Rea.refl _ _ _;have S:Hid (Srt key (fun x=>t (roI s m f x)) a c):=n.out.2.1 T;have v:Hid _:=n.out.2.2.2.2 _ _ y (Rea.refl c b _) S (n.out.2.2.2.1 R _ y);go_wp2_with fail
       all_goals go_end0
       all_goals exact ⟨rfl,_,O,v⟩
    ·by_cases T:a<s/\s<c
     ·by_cases R:c<f/\f<b
      ·exfalso;omega
      ·have L:Hid (Mv w wr k C N A (fun x=>t (roI s m f x))):=H.congr (fun x _=>by show t (roI s m f x)=t x;rw [tI1 o7 o7 o7]);have M:=hid7 J;go_wp2_with fail;refine (HC wr a s c _ o7 (I.trans L) T.1 T.2 o7 n.out.1.1 n.out.1.2.1 n.out.1.2.2).mono ?_;rintro e F ⟨rfl,u,V,r7,s7⟩;have O:Hid (Mv w F k C N A u):=L.trans V;have o:=(V.block _ (lt_of_block M) HN).trans M;have X7:=hid7 o;have y:=hid7 r7;have S:=hid7 s7;clear B D V r7 s7;have B:aC0 F w.heap.size 0 (.func (.func g) #[] lb):=(cell_of_row F w.heap.size 0 _ _ (0,0) o).trans rfl;have D:aC0 F w.heap.size 1 (.func (.func z) #[] sb):=(cell_of_row F w.heap.size 1 _ _ (0,0) o).trans rfl;clear o;have v:Hid _:=n.out.2.2.2.2 _ _ y (Rea.refl c b _) S (n.out.2.2.2.1 R _ y);go_wp2_with fail
       all_goals go_end0
       all_goals exact ⟨rfl,_,O,v⟩
     ·by_cases R:c<f/\f<b
      ·exfalso;omega
      ·have L:Hid (Mv w wr k C N A (fun x=>t (roI s m f x))):=H.congr (fun x _=>by show t (roI s m f x)=t x;rw [tI1 o7 o7 o7]);have M:=hid7 J;have O:Hid (Mv w wr k C N A (fun x=>t (roI s m f x))):=L;have X7:Hid (wr.heap[w.heap.size]? = some (boxT g z lb sb)):=M;have y:Hid (Rea a c (fun x=>t (roI s m f x)) (fun x=>t (roI s m f x))):=Rea.refl _ _ _;have S:Hid (Srt key (fun x=>t (roI s m f x)) a c):=n.out.2.1 T;have v:Hid _:=n.out.2.2.2.2 _ _ y (Rea.refl c b _) S (n.out.2.2.2.1 R _ y);go_wp2_with fail
       all_goals go_end0
       all_goals exact ⟨rfl,_,O,v⟩
theorem mP1 (g i:Nat) (lb sb:Array Value) (j:World) (c C N:Nat) (f:Nat->List Value) (key:Nat->Int) (k:∀args w,(callFunc g args).run prog w=.ok (.enter g args) w) (e:∀x,(f x).length=5) (o:sQ0 prog i sb c C N f)
  (l:pC0 prog g lb j c C N f key) (n:N<=1000):∀d,SymC g i lb sb j c C N f key d
 | 0=>fun w a m b t u _ B s _ _ _ _=>by omega
 | d+1=>fun w a m b t u r B s q v y p=>by
  by_cases z:m=a+1
  ·exact zU1 g i lb sb j w c C N a m b f t key k e o l r n z s q y p
  by_cases A:b=m+1
  ·exact tH1 g i lb sb j w c C N a m b f t key k e o l r n o7 A q v p
  exact zV1 g i lb sb j w c C N a m b d f t key k e o l r n o7 o7 q v y p u (mP1 g i lb sb j c C N f key k e o l n d)
end
end Go.Proofs.YtaelphbianmckaaGreatDoor
