/- A part of the proof of EnginePlays. -/
import Derived.Test.YtjdkagafdnchhaaGreatDoorPA
import Derived.Test.YtjdkagafdnchhaaGreatDoorRows
import Derived.WalkKit
import Derived.WalkSpells
import Derived.WalkLawsBesides
import Derived.Handy
import Derived.BigQuiet
import Derived.OwnWalk
import Derived.OneCell
import Derived.Deep.QuietTactic
import Derived.Deep.LoopGhost
import Derived.Lib.ReflectliteSwap
namespace Go.Proofs.YtjdkagafdnchhaaGreatDoor
open Go.RowKit
def Rk (key:Nat→Int) (x y:Nat):Prop:=key x<key y∨(key x=key y∧x<y)
theorem Rk.le {key:Nat→Int} {x y:Nat} (h:Rk key x y):key x≤key y:=by unfold Rk at h;omega
def Srt (key:Nat→Int) (t:Nat→Nat) (a b:Nat):Prop:=∀x y,a≤x→x<y→y<b→Rk key (t x) (t y)
def Apt (t:Nat→Nat) (a m b:Nat):Prop:=∀x y,a≤x→x<m→m≤y→y<b→t x<t y
def Rea (a b:Nat) (t t':Nat→Nat):Prop:=∃s:Nat→Nat,(∀x,(x<a∨b≤x)→s x=x)∧(∀x,a≤x→x<b→a≤s x∧s x<b)∧(∀x y,s x=s y→x=y)∧∀x,t' x=t (s x)
section
variable {key:Nat→Int} {t t' t'':Nat→Nat} {a b m:Nat}
theorem Rea.refl (a b:Nat) (t:Nat→Nat):Rea a b t t:=⟨id,fun _ _=>rfl,fun _ h h'=>⟨h,h'⟩,fun _ _ h=>h,fun _=>rfl⟩
theorem Rea.trans (h:Rea a b t t') (h':Rea a b t' t''):Rea a b t t'':=by
 obtain ⟨s,h1,h2,h3,h4⟩:=h;obtain ⟨s',g1,g2,g3,g4⟩:=h';refine ⟨fun x=>s (s' x),fun x hx=>by show s (s' x)=x;rw [g1 x hx,h1 x hx],fun x ha hb=>?_,fun x y e=>g3 x y (h3 _ _ e),fun x=>by rw [g4,h4]⟩;obtain ⟨ga,gb⟩:=g2 x ha hb;exact h2 _ ga gb
theorem Rea.mono {a' b':Nat} (h:Rea a b t t') (ha:a'≤a) (hb:b≤b'):Rea a' b' t t':=by
 obtain ⟨s,h1,h2,h3,h4⟩:=h;refine ⟨s,fun x hx=>h1 x (by omega),fun x hxa hxb=>?_,h3,h4⟩
 by_cases h:a≤x∧x<b
 ·have:=h2 x h.1 h.2;omega
 ·rw [h1 x (by omega)];omega
theorem Rea.out (h:Rea a b t t') {x:Nat} (hx:x<a∨b≤x):t' x=t x:=by
 obtain ⟨s,h1,_,_,h4⟩:=h;rw [h4,h1 x hx]
theorem Rea.mem (h:Rea a b t t') {x:Nat} (ha:a≤x) (hb:x<b):∃y,a≤y∧y<b∧t' x=t y:=by
 obtain ⟨s,_,h2,_,h4⟩:=h;exact ⟨s x,(h2 x ha hb).1,(h2 x ha hb).2,h4 x⟩
theorem Srt.congr {t'':Nat→Nat} (h:Srt key t a b) (e:∀x,a≤x→x<b→t'' x=t x):Srt key t'' a b:=fun x y hx hxy hy=>by
 rw [e x hx (by omega),e y (by omega) hy];exact h x y hx hxy hy
theorem Srt.sub {a' b':Nat} (h:Srt key t a b) (ha:a≤a') (hb:b'≤b):Srt key t a' b':=fun x y hx hxy hy=>h x y (by omega) hxy (by omega)
end
def ex1 (i j x:Nat):Nat:=if x=i then j else if x=j then i else x
def exR (a b n x:Nat):Nat:=if a≤x∧x<a+n then x - a+b else if b≤x∧x<b+n then x - b+a else x
def dnI (i j x:Nat):Nat:=if x<j then x else if x=j then i else if x≤i then x - 1 else x
def upI (a k x:Nat):Nat:=if x<a then x else if x<k then x+1 else if x=k then a else x
def roI (a m b x:Nat):Nat:=if a≤x∧x<a+(b - m) then x+(m - a) else if a+(b - m)≤x∧x<b then x - (b - m) else x
theorem jU1 {a b i x:Nat} (h:a+(i+1)≤b):exR a b i (ex1 (a+i) (b+i) x)=exR a b (i+1) x:=by
 unfold exR ex1
 by_cases h1:x=a+i
 ·subst h1;rw [if_pos rfl,if_neg (by omega),if_neg (by omega),if_pos (by omega)];omega
 by_cases h2:x=b+i
 ·subst h2;rw [if_neg h1,if_pos rfl,if_neg (by omega),if_neg (by omega),if_neg (by omega),if_pos (by omega)];omega
 rw [if_neg h1,if_neg h2]
 by_cases h3:a≤x∧x<a+i
 ·rw [if_pos h3,if_pos (by omega)]
 rw [if_neg h3,if_neg (show ¬(a≤x∧x<a+(i+1)) by omega)]
 by_cases h4:b≤x∧x<b+i
 ·rw [if_pos h4,if_pos (by omega)]
 ·rw [if_neg h4,if_neg (by omega)]
theorem zP0 {i j x:Nat} (h:0<j) (hj:j≤i):dnI i j (ex1 j (j - 1) x)=dnI i (j - 1) x:=by
 unfold dnI ex1
 by_cases h1:x=j
 ·subst h1;rw [if_pos rfl,if_pos (by omega),if_neg (by omega),if_neg (by omega),if_pos hj]
 by_cases h2:x=j - 1
 ·subst h2;rw [if_neg h1,if_pos rfl,if_neg (by omega),if_pos rfl,if_neg (by omega),if_pos rfl]
 rw [if_neg h1,if_neg h2]
 by_cases h3:x<j
 ·rw [if_pos h3,if_pos (by omega)]
 ·rw [if_neg h3,if_neg h1,if_neg (show ¬x<j - 1 by omega),if_neg h2]
theorem zQ0 {i x:Nat}:dnI i i x=x:=by
 unfold dnI
 by_cases h1:x<i
 ·rw [if_pos h1]
 by_cases h2:x=i
 ·rw [if_neg h1,if_pos h2,h2]
 ·rw [if_neg h1,if_neg h2,if_neg (by omega)]
theorem jV1 {a k x:Nat} (h:a≤k):upI a k (ex1 k (k+1) x)=upI a (k+1) x:=by
 unfold upI ex1
 by_cases h1:x=k
 ·subst h1;rw [if_pos rfl,if_neg (by omega),if_neg (by omega),if_neg (by omega),if_neg (by omega),if_pos (by omega)]
 by_cases h2:x=k+1
 ·subst h2;rw [if_neg h1,if_pos rfl,if_neg (by omega),if_neg (by omega),if_pos rfl,if_neg (by omega),if_neg (by omega),if_pos rfl]
 rw [if_neg h1,if_neg h2]
 by_cases h3:x<a
 ·rw [if_pos h3,if_pos h3]
 rw [if_neg h3,if_neg h3]
 by_cases h4:x<k
 ·rw [if_pos h4,if_pos (by omega)]
 ·rw [if_neg h4,if_neg h1,if_neg (by omega),if_neg h2]
theorem jW1 {a x:Nat}:upI a a x=x:=by
 unfold upI
 by_cases h1:x<a
 ·rw [if_pos h1]
 by_cases h2:x=a
 ·rw [if_neg h1,if_neg h1,if_pos h2,h2]
 ·rw [if_neg h1,if_neg h1,if_neg h2]
theorem mT1 (t:Nat→Nat) {a i j:Nat} (ha:a≤j) (hj:j≤i):Rea a (i+1) t (fun x=>t (dnI i j x)):=by
 refine ⟨dnI i j,fun x hx=>?_,fun x hxa hxb=>?_,fun x y e=>?_,fun _=>rfl⟩
 ·unfold dnI;split
  ·rfl
  split
  ·omega
  split
  ·omega
  ·rfl
 ·unfold dnI;split
  ·omega
  split
  ·omega
  split <;> omega
 ·unfold dnI at e
  (repeat' split at e) <;> omega
theorem rI1 (t:Nat→Nat) {a k b:Nat} (hk:a≤k) (hb:k<b):Rea a b t (fun x=>t (upI a k x)):=by
 refine ⟨upI a k,fun x hx=>?_,fun x hxa hxb=>?_,fun x y e=>?_,fun _=>rfl⟩
 ·unfold upI;split
  ·rfl
  split
  ·omega
  split
  ·omega
  ·rfl
 ·unfold upI;split
  ·omega
  split
  ·omega
  split <;> omega
 ·unfold upI at e
  (repeat' split at e) <;> omega
theorem rJ1 (t:Nat→Nat) {a m b:Nat} (ha:a≤m) (hb:m≤b):Rea a b t (fun x=>t (roI a m b x)):=by
 refine ⟨roI a m b,fun x hx=>?_,fun x hxa hxb=>?_,fun x y e=>?_,fun _=>rfl⟩
 ·unfold roI;rw [if_neg (by omega),if_neg (by omega)]
 ·unfold roI;split
  ·omega
  split <;> omega
 ·unfold roI at e
  (repeat' split at e) <;> omega
theorem qS0 {key:Nat→Int} {t:Nat→Nat} {a i j:Nat} (hs:Srt key t a i) (hap:∀x,a≤x→x<i→t x<t i) (ha:a≤j) (hj:j≤i)
  (hlo:j=a∨key (t (j - 1))≤key (t i)) (hhi:j=i∨key (t i)<key (t j)):Srt key (fun x=>t (dnI i j x)) a (i+1):=by
 have low:∀x,a≤x→x<j→Rk key (t x) (t i):=fun x hx hxj=>by
  have h1:key (t x)≤key (t i):=by
   rcases hlo with h | h
   ·omega
   ·by_cases e:x=j - 1
    ·rw [e];exact h
    ·have:=(hs x (j - 1) hx (by omega) (by omega)).le;omega
  have h2:=hap x hx (by omega);unfold Rk;omega
 have high:∀y,j≤y→y<i→Rk key (t i) (t y):=fun y hy hyi=>by
  rcases hhi with h | h
  ·omega
  ·by_cases e:y=j
   ·subst e;exact Or.inl h
   ·have:=(hs j y ha (by omega) hyi).le;exact Or.inl (by omega)
 intro x y hx hxy hy;show Rk key (t (dnI i j x)) (t (dnI i j y));unfold dnI
 by_cases x1:x<j
 ·rw [if_pos x1]
  by_cases y1:y<j
  ·rw [if_pos y1];exact hs x y hx hxy (by omega)
  rw [if_neg y1]
  by_cases y2:y=j
  ·rw [if_pos y2];exact low x hx x1
  ·rw [if_neg y2,if_pos (by omega)];exact hs x (y - 1) hx (by omega) (by omega)
 rw [if_neg x1,if_neg (show ¬y<j by omega),if_neg (show ¬y=j by omega),if_pos (show y≤i by omega)]
 by_cases x2:x=j
 ·rw [if_pos x2];exact high (y - 1) (by omega) (by omega)
 ·rw [if_neg x2,if_pos (by omega)];exact hs (x - 1) (y - 1) (by omega) (by omega) (by omega)
theorem rK1 {key:Nat→Int} {t:Nat→Nat} {a b k:Nat} (hs:Srt key t (a+1) b) (hap:∀x,a+1≤x→x<b→t a<t x) (ha:a≤k) (hk:k<b)
  (hlo:k=a∨key (t k)<key (t a)) (hhi:k+1=b∨key (t a)≤key (t (k+1))):Srt key (fun x=>t (upI a k x)) a b:=by
 have low:∀x,a+1≤x→x≤k→Rk key (t x) (t a):=fun x hx hxk=>by
  rcases hlo with h | h
  ·omega
  ·by_cases e:x=k
   ·subst e;exact Or.inl h
   ·have:=(hs x k hx (by omega) hk).le;exact Or.inl (by omega)
 have high:∀y,k<y→y<b→Rk key (t a) (t y):=fun y hy hyb=>by
  have h2:=hap y (by omega) hyb
  have h1:key (t a)≤key (t y):=by
   rcases hhi with h | h
   ·omega
   ·by_cases e:y=k+1
    ·rw [e];exact h
    ·have:=(hs (k+1) y (by omega) (by omega) hyb).le;omega
  unfold Rk;omega
 intro x y hx hxy hy;show Rk key (t (upI a k x)) (t (upI a k y));unfold upI;rw [if_neg (show ¬x<a by omega),if_neg (show ¬y<a by omega)]
 by_cases x1:x<k
 ·rw [if_pos x1]
  by_cases y1:y<k
  ·rw [if_pos y1];exact hs _ _ (by omega) (by omega) (by omega)
  rw [if_neg y1]
  by_cases y2:y=k
  ·rw [if_pos y2];exact low _ (by omega) (by omega)
  ·rw [if_neg y2];exact hs _ _ (by omega) (by omega) hy
 rw [if_neg x1,if_neg (show ¬y<k by omega),if_neg (show ¬y=k by omega)]
 by_cases x2:x=k
 ·rw [if_pos x2];exact high y (by omega) hy
 ·rw [if_neg x2];exact hs _ _ (by omega) hxy hy
theorem mU1 {key:Nat→Int} {t:Nat→Nat} {a s m e b:Nat} (h1:Srt key t a m) (h2:Srt key t m b) (hap:Apt t a m b) (has:a≤s) (hsm:s≤m) (hme:m≤e) (heb:e≤b)
  (hlo:s=a∨e=b∨key (t (s - 1))≤key (t e)) (hhi:s=m∨e=m∨key (t (e - 1))<key (t s)):
  Srt key (fun x=>t (roI s m e x)) a s∧Srt key (fun x=>t (roI s m e x)) s (s+(e - m))∧Apt (fun x=>t (roI s m e x)) a s (s+(e - m))
  ∧Srt key (fun x=>t (roI s m e x)) (s+(e - m)) e∧Srt key (fun x=>t (roI s m e x)) e b∧Apt (fun x=>t (roI s m e x)) (s+(e - m)) e b
  ∧∀x y,a≤x→x<s+(e - m)→s+(e - m)≤y→y<b→Rk key (t (roI s m e x)) (t (roI s m e y)):=by
 have r1:∀x,x<s→roI s m e x=x:=fun x hx=>by unfold roI;rw [if_neg (by omega),if_neg (by omega)]
 have r2:∀x,s≤x→x<s+(e - m)→roI s m e x=x+(m - s):=fun x hx hx'=>by unfold roI;rw [if_pos ⟨hx,hx'⟩]
 have r3:∀x,s+(e - m)≤x→x<e→roI s m e x=x - (e - m):=fun x hx hx'=>by unfold roI;rw [if_neg (by omega),if_pos ⟨hx,hx'⟩]
 have r4:∀x,e≤x→roI s m e x=x:=fun x hx=>by unfold roI;rw [if_neg (by omega),if_neg (by omega)]
 have lo:∀x y,a≤x→x<s→e≤y→y<b→Rk key (t x) (t y):=fun x y hx hxs hy hyb=>by
  have ht:=hap x y hx (by omega) (by omega) hyb
  have hk:key (t x)≤key (t y):=by
   have k1:key (t x)≤key (t (s - 1)):=by
    by_cases e1:x=s - 1
    ·rw [e1];exact Int.le_refl _
    ·exact (h1 x (s - 1) hx (by omega) (by omega)).le
   have k2:key (t e)≤key (t y):=by
    by_cases e1:y=e
    ·rw [e1];exact Int.le_refl _
    ·exact (h2 e y (by omega) (by omega) hyb).le
   rcases hlo with h | h | h <;> omega
  unfold Rk;omega
 have hi:∀x y,s≤x→x<m→m≤y→y<e→Rk key (t y) (t x):=fun x y hx hxm hy hye=>by
  have k1:key (t s)≤key (t x):=by
   by_cases e1:x=s
   ·rw [e1];exact Int.le_refl _
   ·exact (h1 s x (by omega) (by omega) hxm).le
  have k2:key (t y)≤key (t (e - 1)):=by
   by_cases e1:y=e - 1
   ·rw [e1];exact Int.le_refl _
   ·exact (h2 y (e - 1) hy (by omega) (by omega)).le
  exact Or.inl (by rcases hhi with h | h | h <;> omega)
 refine ⟨fun x y hx hxy hy=>?_,fun x y hx hxy hy=>?_,fun x y hx hxs hy hyb=>?_,fun x y hx hxy hy=>?_,fun x y hx hxy hy=>?_,fun x y hx hxs hy hyb=>?_,fun x y hx hxs hy hyb=>?_⟩
 ·show Rk key (t (roI s m e x)) (t (roI s m e y));rw [r1 x (by omega),r1 y hy];exact h1 x y hx hxy (by omega)
 ·show Rk key (t (roI s m e x)) (t (roI s m e y));rw [r2 x hx (by omega),r2 y (by omega) hy];exact h2 _ _ (by omega) (by omega) (by omega)
 ·show t (roI s m e x)<t (roI s m e y);rw [r1 x hxs,r2 y hy hyb];exact hap _ _ hx (by omega) (by omega) (by omega)
 ·show Rk key (t (roI s m e x)) (t (roI s m e y));rw [r3 x hx (by omega),r3 y (by omega) hy];exact h1 _ _ (by omega) (by omega) (by omega)
 ·show Rk key (t (roI s m e x)) (t (roI s m e y));rw [r4 x hx,r4 y (by omega)];exact h2 x y (by omega) hxy hy
 ·show t (roI s m e x)<t (roI s m e y);rw [r3 x hx hxs,r4 y hy];exact hap _ _ (by omega) (by omega) (by omega) hyb
 ·by_cases x1:x<s
  ·rw [r1 x x1]
   by_cases y1:y<e
   ·rw [r3 y hy y1];exact h1 _ _ hx (by omega) (by omega)
   ·rw [r4 y (by omega)];exact lo x y hx x1 (by omega) hyb
  ·rw [r2 x (by omega) hxs]
   by_cases y1:y<e
   ·rw [r3 y hy y1];exact hi _ _ (by omega) (by omega) (by omega) (by omega)
   ·rw [r4 y (by omega)];exact h2 _ _ (by omega) (by omega) hyb
theorem jX1 {key:Nat→Int} {t t':Nat→Nat} {a c b:Nat} (hc:a≤c∧c≤b) (hx:∀x y,a≤x→x<c→c≤y→y<b→Rk key (t x) (t y)) (hr:∃u,Rea a c t u∧Rea c b u t') (h1:Srt key t' a c) (h2:Srt key t' c b):Srt key t' a b∧Rea a b t t':=by
 obtain ⟨u,r1,r2⟩:=hr;refine ⟨fun x y hxa hxy hyb=>?_,(r1.mono lR7 hc.2).trans (r2.mono hc.1 lR7)⟩
 by_cases x1:x<c
 ·by_cases y1:y<c
  ·exact h1 x y hxa hxy y1
  ·rw [r2.out (x:=x) (Or.inl x1)];obtain ⟨x',xa,xb,e1⟩:=r1.mem hxa x1;obtain ⟨y',ya,yb,e2⟩:=r2.mem (x:=y) (by omega) hyb;rw [e1,e2,r1.out (x:=y') (Or.inr ya)];exact hx x' y' xa xb ya yb
 ·exact h2 x y (by omega) hxy hyb
theorem oP1 {m i j x:Nat} (hi:i≤m) (h:j<i):exR (m - i) m j (roI (m - (i - j)) m (m+j) x)=roI (m - i) m (m+j) x:=by
 unfold roI exR;have e1:m - (i - j)=m - i+j:=by omega
 rw [e1]
 (repeat' split) <;> omega
theorem jY1 {m i j x:Nat} (hi:i≤m) (h:i<j):exR (m - i) (m+j - i) i (roI (m - i) m (m+(j - i)) x)=roI (m - i) m (m+j) x:=by
 unfold roI exR
 (repeat' split) <;> omega
theorem oQ1 {m i x:Nat} (hi:i≤m):exR (m - i) m i x=roI (m - i) m (m+i) x:=by
 unfold roI exR
 (repeat' split) <;> omega
def RowT (w:World) (blk C N:Nat) (el:Nat→List Value) (t:Nat→Nat):Prop:=
 ∃cur,w.heap[blk]? = some (.cells cur 41 (0,0))∧cur.size=C∧N*5≤C∧∀x,x<N→∀j,j<5→cur[x*5+j]? = (el (t x))[j]?
structure Mv (w0 w:World) (blk C N:Nat) (el:Nat→List Value) (t:Nat→Nat):Prop where
 os:w.os=w0.os
 tape:w.tape=w0.tape
 output:w.output=w0.output
 size:w0.heap.size≤w.heap.size
 block:∀k,k<w0.heap.size→k≠blk→w.heap[k]? = w0.heap[k]?
 row:RowT w blk C N el t
section
variable {w0 w w':World} {blk C N:Nat} {el:Nat→List Value} {t t':Nat→Nat}
theorem RowT.lt (h:RowT w blk C N el t):blk<w.heap.size:=by obtain ⟨cur,h1,_⟩:=h;exact lt_of_block h1
theorem RowT.below {B:Nat} (h:RowT w blk C N el t) (hb:Below B w w') (hB:w.heap.size≤B):RowT w' blk C N el t:=by
 obtain ⟨cur,h1,h2⟩:=h;exact ⟨cur,(hb.block blk (Nat.lt_of_lt_of_le (lt_of_block h1) hB)).trans h1,h2⟩
theorem RowT.congr (h:RowT w blk C N el t) (e:∀x,x<N→t' x=t x):RowT w blk C N el t':=by
 obtain ⟨cur,h1,h2,h3,h4⟩:=h;exact ⟨cur,h1,h2,h3,fun x hx j hj=>by rw [e x hx];exact h4 x hx j hj⟩
theorem RowT.cell (h:RowT w blk C N el t) {x j:Nat} (hx:x<N) (hj:j<5):w.cell? ⟨blk,x*5+j,none⟩=(el (t x))[j]?∧w.frozen? ⟨blk,x*5+j,none⟩=false:=by
 obtain ⟨cur,h1,_,_,h4⟩:=h;exact ⟨(cell_of_row w blk _ cur _ (0,0) h1).trans (h4 x hx j hj),frozen_of_row w blk _ cur _ h1⟩
theorem Mv.below {B:Nat} (h:Mv w0 w blk C N el t) (hb:Below B w w') (hB:w.heap.size≤B):Mv w0 w' blk C N el t:=
 ⟨hb.os.trans h.os,hb.tape.trans h.tape,hb.output.trans h.output,Nat.le_trans h.size hb.size,fun k hk hne=>(hb.block k (by have:=h.size;omega)).trans (h.block k hk hne),h.row.below hb hB⟩
theorem Mv.congr (h:Mv w0 w blk C N el t) (e:∀x,x<N→t' x=t x):Mv w0 w blk C N el t':=⟨h.os,h.tape,h.output,h.size,h.block,h.row.congr e⟩
theorem Mv.trans {w'':World} {t'':Nat→Nat} (h:Mv w0 w blk C N el t) (h':Mv w w'' blk C N el t''):Mv w0 w'' blk C N el t'':=
 ⟨h'.os.trans h.os,h'.tape.trans h.tape,h'.output.trans h.output,Nat.le_trans h.size h'.size,fun k hk hne=>(h'.block k (by have:=h.size;omega) hne).trans (h.block k hk hne),h'.row⟩
theorem Mv.start (h:RowT w blk C N el t):Mv w w blk C N el t:=⟨rfl,rfl,rfl,lR7,fun _ _ _=>rfl,h⟩
end
theorem fZ0 {b:Nat} {T:TypeId}:∀(vs:List Value) (o:Nat) (w:World) (cur:Array Value),w.heap[b]? = some (.cells cur T (0,0))→∃cur',(w.setCells b o vs).heap[b]? = some (.cells cur' T (0,0))∧cur'.size=cur.size∧(∀k,cur'[k]? = if o≤k∧k<o+vs.length∧k<cur.size then vs[k - o]? else cur[k]?)
  ∧(w.setCells b o vs).os=w.os∧(w.setCells b o vs).tape=w.tape∧(w.setCells b o vs).output=w.output∧(w.setCells b o vs).heap.size=w.heap.size∧∀k,k≠b→(w.setCells b o vs).heap[k]? = w.heap[k]?
 | [],o,w,cur,h=>⟨cur,h,rfl,fun k=>by rw [if_neg (by simp;omega)],rfl,rfl,rfl,rfl,fun _ _=>rfl⟩
 | v::vs,o,w,cur,h=>by
  rw [World.setCells];have h1:=heap_setCell_same w b o cur T v h;obtain ⟨cur',e1,e2,e3,e4,e5,e6,e7,e8⟩:=fZ0 vs (o+1) (w.setCell ⟨b,o,none⟩ v) _ h1;refine ⟨cur',e1,by rw [e2];simp,fun k=>?_,e4,e5,e6,by rw [e7];simp,fun k hk=>(e8 k hk).trans (Below.heap_setCell _ _ _ _ hk)⟩;rw [e3 k];simp only [Array.size_setIfInBounds,List.length_cons]
  by_cases hk:k=o
  ·subst hk;rw [if_neg (by omega)]
   by_cases hs:k<cur.size
   ·rw [if_pos (by omega)];simp [hs]
   ·rw [if_neg (by omega)];simp [hs]
  ·by_cases h2:o+1≤k∧k<o+1+vs.length∧k<cur.size
   ·rw [if_pos h2,if_pos (by omega),show k - o=(k - (o+1))+1 by omega];simp
   ·rw [if_neg h2,if_neg (by omega)];simp [Ne.symm hk]
theorem RowT.swap {w:World} {blk C N i j:Nat} {el:Nat→List Value} {t:Nat→Nat} (h:RowT w blk C N el t) (hel:∀x,(el x).length=5) (hi:i<N) (hj:j<N):
  RowT ((w.setCells blk (i*5) (el (t j))).setCells blk (j*5) (el (t i))) blk C N el (fun x=>t (ex1 i j x))
  ∧((w.setCells blk (i*5) (el (t j))).setCells blk (j*5) (el (t i))).heap.size=w.heap.size∧∀w0 t0,Mv w0 w blk C N el t0→Mv w0 ((w.setCells blk (i*5) (el (t j))).setCells blk (j*5) (el (t i))) blk C N el (fun x=>t (ex1 i j x)):=by
 obtain ⟨cur,h1,h2,h3,h4⟩:=h;obtain ⟨c1,a1,a2,a3,a4,a5,a6,a7,a8⟩:=fZ0 (el (t j)) (i*5) w cur h1;obtain ⟨c2,b1,b2,b3,b4,b5,b6,b7,b8⟩:=fZ0 (el (t i)) (j*5) _ c1 a1
 have hr:RowT ((w.setCells blk (i*5) (el (t j))).setCells blk (j*5) (el (t i))) blk C N el (fun x=>t (ex1 i j x)):=by
  refine ⟨c2,b1,by rw [b2,a2,h2],h3,fun x hx u hu=>?_⟩
  have hb:x*5+u<C:=by
   have:x*5+5≤N*5:=by omega
   omega
  show c2[x*5+u]? = (el (t (ex1 i j x)))[u]?;rw [b3,a3,hel,hel,a2,h2];unfold ex1
  by_cases hxj:x=j
  ·subst hxj;rw [if_pos (by omega),show x*5+u - (x*5)=u by omega]
   by_cases hxi:x=i
   ·subst hxi;rw [if_pos rfl]
   ·rw [if_neg hxi,if_pos rfl]
  ·rw [if_neg (by omega)]
   by_cases hxi:x=i
   ·subst hxi;rw [if_pos (by omega),show x*5+u - (x*5)=u by omega,if_pos rfl]
   ·rw [if_neg (by omega),if_neg hxi,if_neg hxj];exact h4 x hx u hu
 refine ⟨hr,b7.trans a7,fun w0 t0 hm=>⟨(b4.trans a4).trans hm.os,(b5.trans a5).trans hm.tape,(b6.trans a6).trans hm.output,by rw [b7,a7];exact hm.size,fun k hk hne=>?_,hr⟩⟩;exact ((b8 k hne).trans (a8 k hne)).trans (hm.block k hk hne)
theorem lA0 {w:World} {blk C N i j:Nat} {el:Nat→List Value} {t:Nat→Nat} (h:RowT w blk C N el t) {k:Nat} (hk:k≠blk):((w.setCells blk (i*5) (el (t j))).setCells blk (j*5) (el (t i))).heap[k]? = w.heap[k]? :=by
 obtain ⟨cur,h1,_⟩:=h;obtain ⟨c1,a1,_,_,_,_,_,_,a8⟩:=fZ0 (el (t j)) (i*5) w cur h1;obtain ⟨c2,_,_,_,_,_,_,_,b8⟩:=fZ0 (el (t i)) (j*5) _ c1 a1;exact (b8 k hk).trans (a8 k hk)
def iI0 (P:Program) (g:Nat) (lb:Array Value) (w0:World) (blk C N:Nat) (el:Nat→List Value) (key:Nat→Int):Prop:=
 ∀(W:World) (t:Nat→Nat),Mv w0 W blk C N el t→∀i j:Nat,i<N→j<N→Calls P g (#[.int .i64 i,.int .i64 j]++lb) W fun e W'=>e=.returned (.bool (decide (key (t i)<key (t j))))∧Below W.heap.size W W'
def iJ0 (P:Program) (sf:Nat) (sb:Array Value) (blk C N:Nat) (el:Nat→List Value):Prop:=
 ∀(W:World) (t:Nat→Nat),RowT W blk C N el t→∀i j:Nat,i<N→j<N→i≠j→(callFunc sf (#[.int .i64 i,.int .i64 j]++sb)).run P W=.ok (.value (.tuple #[])) ((W.setCells blk (i*5) (el (t j))).setCells blk (j*5) (el (t i)))
theorem iI0.at {P:Program} {g:Nat} {lb:Array Value} {w0 W:World} {blk C N i j x y:Nat} {el:Nat→List Value} {key:Nat→Int} {t:Nat→Nat} {I J:Int} {bb:Bool} (h:iI0 P g lb w0 blk C N el key) (hm:Mv w0 W blk C N el t) (hi:i<N) (hj:j<N) (hI:I=i) (hJ:J=j) (hx:t i=x) (hy:t j=y) (hb:decide (key x<key y)=bb):
  Calls P g (#[.int .i64 I,.int .i64 J]++lb) W fun e W'=>e=.returned (.bool bb)∧Below W.heap.size W W':=by
 subst hI hJ hx hy hb;exact h W t hm i j hi hj
theorem iJ0.at {P:Program} {sf:Nat} {sb:Array Value} {W:World} {blk C N i j:Nat} {el:Nat→List Value} {t:Nat→Nat} {I J:Int} (h:iJ0 P sf sb blk C N el) (hr:RowT W blk C N el t) (hi:i<N) (hj:j<N) (hI:I=i) (hJ:J=j) (hne:i≠j):
  (callFunc sf (#[.int .i64 I,.int .i64 J]++sb)).run P W=.ok (.value (.tuple #[])) ((W.setCells blk (i*5) (el (t j))).setCells blk (j*5) (el (t i))):=by
 subst hI hJ;exact h W t hr i j hi hj hne
def boxT (g sf:Nat) (lb sb:Array Value):Obj:=.cells #[.func (.func g) #[] lb,.func (.func sf) #[] sb] 207 (0,0)
set_option maxRecDepth 4000 in
set_option maxHeartbeats 1000000 in
theorem iK0 (g sf:Nat) (lb sb:Array Value) (w:World) (blk C N a b n:Nat) (el:Nat→List Value) (t:Nat→Nat) (hel:∀x,(el x).length=5) (hS:iJ0 Tryz.prog sf sb blk C N el) (h:RowT w blk C N el t) (hN:N≤1000) (hab:a+n≤b) (hb:b+n≤N):
  Calls Tryz.prog 203 #[.agg #[.func (.func g) #[] lb,.func (.func sf) #[] sb],.int .i64 a,.int .i64 b,.int .i64 n] w fun e w'=>e=.returned (.tuple #[])∧Mv w w' blk C N el (fun x=>t (exR a b n x)):=by
 have H0:Hid (Mv w (w.alloc (boxT g sf lb sb)) blk C N el t):=(Mv.start h).below ((Below.refl _ _).alloc lR7 _) lR7;have HB:Hid ((w.alloc (boxT g sf lb sb)).heap[w.heap.size]? = some (boxT g sf lb sb)):=heap_alloc_new w _;have HN:Hid (w.heap.size≠blk):=fun e=>by have:=h.lt;omega
 have HS:Hid (iJ0 Tryz.prog sf sb blk C N el):=hS;clear h hS;go_enter Tryz.func203,Tryz.ntmps203;go_wp2_with fail;go_loopw [8] (fun v wr=>∃i:Nat,i≤n∧v=.int .i64 i∧Mv w wr blk C N el (fun x=>t (exR a b i x))∧wr.heap[w.heap.size]? = some (boxT g sf lb sb)) (fun v _=>n - (intOf v).toNat)
 case atStart=>exact ⟨0,Nat.zero_le _,rfl,H0.out.congr (fun x _=>by show t (exR a b 0 x)=t x;unfold exR;rw [if_neg (by omega),if_neg (by omega)]),HB.out⟩
 case round=>
  obtain ⟨i,hi,rfl,hm,hbx⟩:=hrel;have HM:Hid _:=hm;have HX:Hid (wr.heap[w.heap.size]? = some (boxT g sf lb sb)):=hbx;have c1:wr.cell? ⟨w.heap.size,1,none⟩=some (.func (.func sf) #[] sb):=(cell_of_row wr w.heap.size 1 _ _ (0,0) hbx).trans rfl;clear hm hbx H0 HB
  by_cases hi1:i<n
  ·have hs:=HS.out wr _ HM.out.row (a+i) (b+i) (by omega) (by omega) (by omega);rw [show ((a+i:Nat):Int)=(a:Int)+i by omega,show ((b+i:Nat):Int)=(b:Int)+i by omega] at hs;go_wp2_with fail;go_roundw
   case rel=>
    refine ⟨i+1,hi1,by go_num,((HM.out.row.swap hel (by omega) (by omega)).2.2 _ _ HM.out).congr (fun x _=>?_),(lA0 HM.out.row HN.out).trans HX.out⟩;show t (exR a b (i+1) x)=t (exR a b i (ex1 (a+i) (b+i) x));rw [jU1 (by omega)]
   case measure=>simp [intOf];omega
  ·obtain rfl:i=n:=by omega
   go_wp2;go_end0;exact ⟨rfl,HM.out⟩
set_option maxRecDepth 4000 in
set_option maxHeartbeats 1000000 in
theorem fK0 (g sf:Nat) (lb sb:Array Value) (w:World) (blk C N a m b:Nat) (el:Nat→List Value) (t:Nat→Nat) (hel:∀x,(el x).length=5) (hS:iJ0 Tryz.prog sf sb blk C N el) (h:RowT w blk C N el t) (hN:N≤1000) (ham:a<m) (hmb:m<b) (hb:b≤N):
  Calls Tryz.prog 198 #[.agg #[.func (.func g) #[] lb,.func (.func sf) #[] sb],.int .i64 a,.int .i64 m,.int .i64 b] w fun e w'=>e=.returned (.tuple #[])∧Mv w w' blk C N el (fun x=>t (roI a m b x)):=by
 have H0:Hid (Mv w (w.alloc (boxT g sf lb sb)) blk C N el t):=(Mv.start h).below ((Below.refl _ _).alloc lR7 _) lR7;have HB:Hid ((w.alloc (boxT g sf lb sb)).heap[w.heap.size]? = some (boxT g sf lb sb)):=heap_alloc_new w _;have HN:Hid (w.heap.size≠blk):=fun e=>by have:=h.lt;omega
 have HS:Hid (iJ0 Tryz.prog sf sb blk C N el):=hS;clear h hS;go_enter Tryz.func198,Tryz.ntmps198;go_wp2_with fail;go_loopw [8,9] (fun vi vj wr=>∃(i j:Nat) (u:Nat→Nat),0<i∧0<j∧i≤m - a∧j≤b - m∧vi=.int .i64 i∧vj=.int .i64 j∧Mv w wr blk C N el u∧wr.heap[w.heap.size]? = some (boxT g sf lb sb)∧(∀x,u (roI (m - i) m (m+j) x)=t (roI a m b x))) (fun vi vj _=>(intOf vi).toNat+(intOf vj).toNat)
 case atStart=>exact ⟨m - a,b - m,t,by omega,by omega,lR7,lR7,by go_num,by go_num,H0.out,HB.out,fun x=>by rw [show m - (m - a)=a by omega,show m+(b - m)=b by omega]⟩
 case round=>
  obtain ⟨i,j,u,hi0,hj0,hi,hj,rfl,rfl,hm,hbx,hu⟩:=hrel;have HM:Hid _:=hm;have HX:Hid (wr.heap[w.heap.size]? = some (boxT g sf lb sb)):=hbx;have HU:Hid (∀x,u (roI (m - i) m (m+j) x)=t (roI a m b x)):=hu;have c0:wr.cell? ⟨w.heap.size,0,none⟩=some (.func (.func g) #[] lb):=(cell_of_row wr w.heap.size 0 _ _ (0,0) hbx).trans rfl;have c1:wr.cell? ⟨w.heap.size,1,none⟩=some (.func (.func sf) #[] sb):=(cell_of_row wr w.heap.size 1 _ _ (0,0) hbx).trans rfl;clear hm hbx hu H0 HB;rcases Nat.lt_trichotomy i j with hlt | heq | hgt
  ·have hne:((i:Int) != (j:Int))=true:=by simp;omega
   go_wp2_with fail;have hc:=iK0 g sf lb sb wr blk C N (m - i) (m+j - i) i el u hel HS.out HM.out.row hN (by omega) (by omega);rw [show ((m - i:Nat):Int)=(m:Int) - i by omega,show ((m+j - i:Nat):Int)=(m:Int)+j - i by omega] at hc;refine hc.mono ?_;rintro e w1 ⟨rfl,h1⟩;have H1:Hid _:=h1;clear h1 hc c0 c1;go_wp2_with fail;go_roundw
   case rel=>
    refine ⟨i,j - i,_,hi0,by omega,hi,by omega,rfl,by go_num,HM.out.trans H1.out,(H1.out.block _ (lt_of_block HX.out) HN.out).trans HX.out,fun x=>?_⟩;show u (exR (m - i) (m+j - i) i (roI (m - i) m (m+(j - i)) x))=_;rw [jY1 (by omega) hlt];exact HU.out x
   case measure=>simp [intOf];omega
  ·subst heq;have hne:((i:Int) != (i:Int))=false:=by simp
   go_wp2_with fail;have hc:=iK0 g sf lb sb wr blk C N (m - i) m i el u hel HS.out HM.out.row hN (by omega) (by omega);rw [show ((m - i:Nat):Int)=(m:Int) - i by omega] at hc;refine hc.mono ?_;rintro e w1 ⟨rfl,h1⟩;have H1:Hid _:=h1;clear h1 hc c0 c1;go_wp2_with fail;go_end0;refine ⟨rfl,(HM.out.trans H1.out).congr (fun x _=>?_)⟩;show t (roI a m b x)=u (exR (m - i) m i x);rw [oQ1 (by omega)];exact (HU.out x).symm
  ·have hne:((i:Int) != (j:Int))=true:=by simp;omega
   go_wp2_with fail;have hc:=iK0 g sf lb sb wr blk C N (m - i) m j el u hel HS.out HM.out.row hN (by omega) (by omega);rw [show ((m - i:Nat):Int)=(m:Int) - i by omega] at hc;refine hc.mono ?_;rintro e w1 ⟨rfl,h1⟩;have H1:Hid _:=h1;clear h1 hc c0 c1;go_wp2_with fail;go_roundw
   case rel=>
    refine ⟨i - j,j,_,by omega,hj0,by omega,hj,by go_num,rfl,HM.out.trans H1.out,(H1.out.block _ (lt_of_block HX.out) HN.out).trans HX.out,fun x=>?_⟩;show u (exR (m - i) m j (roI (m - (i - j)) m (m+j) x))=_;rw [oP1 (by omega) hgt];exact HU.out x
   case measure=>simp [intOf];omega
set_option maxRecDepth 4000 in
set_option maxHeartbeats 2000000 in
theorem oZ0 (g sf:Nat) (lb sb:Array Value) (w0 w:World) (blk C N a b:Nat) (el:Nat→List Value) (t:Nat→Nat) (key:Nat→Int) (eg:∀args w,(callFunc g args).run Tryz.prog w=.ok (.enter g args) w) (hel:∀x,(el x).length=5) (hS:iJ0 Tryz.prog sf sb blk C N el)
  (hL:iI0 Tryz.prog g lb w0 blk C N el key) (h:Mv w0 w blk C N el t) (hN:N≤1000) (hab:a≤b) (hb:b≤N) (hinc:∀x y,a≤x→x<y→y<b→t x<t y):
  Calls Tryz.prog 177 #[.agg #[.func (.func g) #[] lb,.func (.func sf) #[] sb],.int .i64 a,.int .i64 b] w fun e w'=>e=.returned (.tuple #[])∧∃t',Mv w w' blk C N el t'∧Rea a b t t'∧Srt key t' a b:=by
 have H0:Hid (Mv w (w.alloc (boxT g sf lb sb)) blk C N el t):=(Mv.start h.row).below ((Below.refl _ _).alloc lR7 _) lR7;have HB:Hid ((w.alloc (boxT g sf lb sb)).heap[w.heap.size]? = some (boxT g sf lb sb)):=heap_alloc_new w _;have HN:Hid (w.heap.size≠blk):=fun e=>by have:=h.row.lt;omega
 have HS:Hid (iJ0 Tryz.prog sf sb blk C N el):=hS;have HL:Hid (iI0 Tryz.prog g lb w0 blk C N el key):=hL;have HM0:Hid (Mv w0 w blk C N el t):=h;have HI:Hid (∀x y,a≤x→x<y→y<b→t x<t y):=hinc;clear h hS hL hinc;go_enter Tryz.func177,Tryz.ntmps177;go_wp2_with fail;go_loopw [6] (fun v wr=>∃(i:Nat) (u:Nat→Nat),a<i∧i≤b+1∧v=.int .i64 i∧Mv w wr blk C N el u∧wr.heap[w.heap.size]? = some (boxT g sf lb sb)∧Rea a (min i b) t u∧Srt key u a i) (fun v _=>b+1 - (intOf v).toNat)
 case atStart=>exact ⟨a+1,t,by omega,by omega,by go_num,H0.out,HB.out,Rea.refl _ _ _,fun x y hx hxy hy=>by omega⟩
 case round=>
  obtain ⟨i,u,hai,hib,rfl,hm,hbx,hr,hs⟩:=hrel;have HR0:Hid (Rea a (min i b) t u∧Srt key u a i):=⟨hr,hs⟩;have HM:Hid _:=hm;have HX:Hid (wr.heap[w.heap.size]? = some (boxT g sf lb sb)):=hbx;clear hm hbx hr hs H0 HB
  by_cases hi1:i<b
  ·have HR:Hid (Rea a i t u∧Srt key u a i):=by
    have:=HR0.out
    rwa [show min i b=i by omega] at this
   have HAP:Hid (∀x,a≤x→x<i→u x<u i):=fun x hx hxi=>by
    obtain ⟨y,ya,yb,e⟩:=HR.out.1.mem hx hxi;rw [e,HR.out.1.out (x:=i) (Or.inr lR7)];exact HI.out y i ya yb hi1
   go_wp2_with fail;go_loopw [7] (fun v wr2=>∃j:Nat,a≤j∧j≤i∧v=.int .i64 j∧Mv w wr2 blk C N el (fun x=>u (dnI i j x))∧wr2.heap[w.heap.size]? = some (boxT g sf lb sb)∧(j=i∨key (u i)<key (u j))) (fun v _=>(intOf v).toNat)
   case atStart=>exact ⟨i,by omega,lR7,rfl,HM.out.congr (fun x _=>by show u (dnI i i x)=u x;rw [zQ0]),HX.out,Or.inl rfl⟩
   case round=>
    obtain ⟨j,haj,hji,rfl,hm2,hbx2,hk⟩:=hrel;have HM2:Hid _:=hm2;have HX2:Hid (wr.heap[w.heap.size]? = some (boxT g sf lb sb)):=hbx2;have HK:Hid (j=i∨key (u i)<key (u j)):=hk;have c0:wr.cell? ⟨w.heap.size,0,none⟩=some (.func (.func g) #[] lb):=(cell_of_row wr w.heap.size 0 _ _ (0,0) hbx2).trans rfl;clear hm2 hbx2 hk HM HX
    have OUT:Hid ((j=a∨key (u (j - 1))≤key (u i))→∀W,Mv w W blk C N el (fun x=>u (dnI i j x))→W.heap[w.heap.size]? = some (boxT g sf lb sb)→∃(i':Nat) (u':Nat→Nat),a<i'∧i'≤b+1∧Value.int .i64 ((i:Int)+1)=.int .i64 i'∧Mv w W blk C N el u'∧W.heap[w.heap.size]? = some (boxT g sf lb sb)∧Rea a (min i' b) t u'∧Srt key u' a i'):=fun hlo W hW hX=>
     ⟨i+1,_,by omega,by omega,by go_num,hW,hX,(by rw [show min (i+1) b=i+1 by omega];exact (HR.out.1.mono lR7 (Nat.le_succ _)).trans (mT1 u haj hji)),qS0 HR.out.2 HAP.out haj hji hlo HK.out⟩
    by_cases hja:a<j
    ·have e1:u (dnI i j j)=u i:=by unfold dnI;rw [if_neg (by omega),if_pos rfl]
     have e2:u (dnI i j (j - 1))=u (j - 1):=by unfold dnI;rw [if_pos (by omega)]
     by_cases hlv:key (u i)<key (u (j - 1))
     ·have HLL:Hid (Calls Tryz.prog g (#[.int .i64 (j:Int),.int .i64 ((j:Int) - 1)]++lb) wr fun e W'=>e=.returned (.bool true)∧Below wr.heap.size wr W'):=HL.out.at (HM0.out.trans HM2.out) (i:=j) (j:=j - 1) (by omega) (by omega) rfl (by omega) e1 e2 (decide_eq_true hlv);have HLV:Hid (key (u i)<key (u (j - 1))):=hlv;clear hlv e1 e2;go_wp2_with fail;refine HLL.out.mono ?_;rintro e w5 ⟨rfl,hb5⟩;have HM5:Hid _:=HM2.out.below hb5 lR7;have hx5:=(hb5.block _ (lt_of_block HX2.out)).trans HX2.out;have HX5:Hid (w5.heap[w.heap.size]? = some (boxT g sf lb sb)):=hx5;have c1:w5.cell? ⟨w.heap.size,1,none⟩=some (.func (.func sf) #[] sb):=(cell_of_row w5 w.heap.size 1 _ _ (0,0) hx5).trans rfl;have hs:(callFunc sf (#[.int .i64 (j:Int),.int .i64 ((j:Int) - 1)]++sb)).run Tryz.prog w5=.ok (.value (.tuple #[])) ((w5.setCells blk (j*5) (el (u (dnI i j (j - 1))))).setCells blk ((j - 1)*5) (el (u (dnI i j j)))):=HS.out.at HM5.out.row (i:=j) (j:=j - 1) (by omega) (by omega) rfl (by omega) (by omega);clear hb5 hx5 c0 HLL;go_wp2_with fail;go_roundw
      case rel=>
       refine ⟨j - 1,by omega,by omega,by go_num,((HM5.out.row.swap hel (by omega) (by omega)).2.2 _ _ HM5.out).congr (fun x _=>?_),(lA0 HM5.out.row HN.out).trans HX5.out,Or.inr HLV.out⟩;show u (dnI i (j - 1) x)=u (dnI i j (ex1 j (j - 1) x));rw [zP0 (by omega) hji]
      case measure=>simp [intOf];omega
     ·have HLL:Hid (Calls Tryz.prog g (#[.int .i64 (j:Int),.int .i64 ((j:Int) - 1)]++lb) wr fun e W'=>e=.returned (.bool false)∧Below wr.heap.size wr W'):=HL.out.at (HM0.out.trans HM2.out) (i:=j) (j:=j - 1) (by omega) (by omega) rfl (by omega) e1 e2 (decide_eq_false hlv);have HLV:Hid (key (u (j - 1))≤key (u i)):=(show key (u (j - 1))≤key (u i) by omega);clear hlv e1 e2;go_wp2_with fail;refine HLL.out.mono ?_;rintro e w5 ⟨rfl,hb5⟩;have HM5:Hid _:=HM2.out.below hb5 lR7;have HX5:Hid (w5.heap[w.heap.size]? = some (boxT g sf lb sb)):=(hb5.block _ (lt_of_block HX2.out)).trans HX2.out;clear hb5 c0 HLL;go_wp2_with fail;go_roundw
      case rel=>exact OUT.out (Or.inr HLV.out) _ HM5.out HX5.out
      case measure=>simp [intOf];omega
    ·go_wp2_with fail;go_roundw
     case rel=>exact OUT.out (Or.inl (by omega)) _ HM2.out HX2.out
     case measure=>simp [intOf];omega
  ·go_wp2;go_end0;obtain ⟨r1,r2⟩:=HR0.out;exact ⟨rfl,u,HM.out,r1.mono lR7 (by omega),r2.sub lR7 (by omega)⟩
set_option maxRecDepth 4000 in
set_option maxHeartbeats 2000000 in
theorem oR1 (g sf:Nat) (lb sb:Array Value) (w0 w:World) (blk C N a m b:Nat) (el:Nat→List Value) (t:Nat→Nat) (key:Nat→Int) (eg:∀args w,(callFunc g args).run Tryz.prog w=.ok (.enter g args) w) (hel:∀x,(el x).length=5) (hS:iJ0 Tryz.prog sf sb blk C N el)
  (hL:iI0 Tryz.prog g lb w0 blk C N el key) (h:Mv w0 w blk C N el t) (hN:N≤1000) (ham:m=a+1) (hmb:m<b) (hb:b≤N) (hs2:Srt key t m b) (hap:Apt t a m b):
  Calls Tryz.prog 178 #[.agg #[.func (.func g) #[] lb,.func (.func sf) #[] sb],.int .i64 a,.int .i64 m,.int .i64 b] w fun e w'=>e=.returned (.tuple #[])∧∃t',Mv w w' blk C N el t'∧Rea a b t t'∧Srt key t' a b:=by
 have H0:Hid (Mv w (w.alloc (boxT g sf lb sb)) blk C N el t):=(Mv.start h.row).below ((Below.refl _ _).alloc lR7 _) lR7;have HB:Hid ((w.alloc (boxT g sf lb sb)).heap[w.heap.size]? = some (boxT g sf lb sb)):=heap_alloc_new w _;have HN:Hid (w.heap.size≠blk):=fun e=>by have:=h.row.lt;omega
 have HS:Hid (iJ0 Tryz.prog sf sb blk C N el):=hS;have HL:Hid (iI0 Tryz.prog g lb w0 blk C N el key):=hL;have HM0:Hid (Mv w0 w blk C N el t):=h;have HI:Hid (Srt key t m b∧Apt t a m b):=⟨hs2,hap⟩;have ht:((m:Int) - a == 1)=true:=by simp;omega
 have HAM:Hid (m=a+1):=ham;clear h hS hL hs2 hap ham;have ham:a<m:=by have:=HAM.out;omega
 go_enter Tryz.func178,Tryz.ntmps178;go_wp2_with fail;go_loopw [8,9] (fun vi vj wr=>∃i j:Nat,m≤i∧i≤j∧j≤b∧vi=.int .i64 i∧vj=.int .i64 j∧Mv w wr blk C N el t∧wr.heap[w.heap.size]? = some (boxT g sf lb sb)∧(i=m∨key (t (i - 1))<key (t a))∧(j=b∨key (t a)≤key (t j))) (fun vi vj _=>(intOf vj).toNat - (intOf vi).toNat)
 case atStart=>exact ⟨m,b,lR7,by omega,lR7,rfl,rfl,H0.out,HB.out,Or.inl rfl,Or.inl rfl⟩
 case round=>
  obtain ⟨i,j,hmi,hij,hjb,rfl,rfl,hm,hbx,hlo,hhi⟩:=hrel;have HM:Hid _:=hm;have HX:Hid (wr.heap[w.heap.size]? = some (boxT g sf lb sb)):=hbx;have HLO:Hid (i=m∨key (t (i - 1))<key (t a)):=hlo;have HHI:Hid (j=b∨key (t a)≤key (t j)):=hhi;have c0:wr.cell? ⟨w.heap.size,0,none⟩=some (.func (.func g) #[] lb):=(cell_of_row wr w.heap.size 0 _ _ (0,0) hbx).trans rfl;clear hm hbx hlo hhi H0 HB
  by_cases hi1:i<j
  ·obtain ⟨q,hq⟩:∃q:Nat,q=(i+j) / 2:=⟨_,rfl⟩;have HQ:Hid (q=(i+j) / 2):=hq;clear hq
   by_cases hlv:key (t q)<key (t a)
   ·have HLL:Hid (Calls Tryz.prog g (#[.int .i64 (((i:Int)+j) / 2),.int .i64 (a:Int)]++lb) wr fun e W'=>e=.returned (.bool true)∧Below wr.heap.size wr W'):=HL.out.at (HM0.out.trans HM.out) (i:=q) (j:=a) (by have:=HQ.out;omega) (by omega) (by have:=HQ.out;omega) rfl rfl rfl (decide_eq_true hlv);have HLV:Hid (key (t q)<key (t a)):=hlv;clear hlv;go_wp2_with fail;refine HLL.out.mono ?_;rintro e w5 ⟨rfl,hb5⟩;have HM5:Hid _:=HM.out.below hb5 lR7;have HX5:Hid (w5.heap[w.heap.size]? = some (boxT g sf lb sb)):=(hb5.block _ (lt_of_block HX.out)).trans HX.out;clear hb5 c0 HLL;go_wp2_with fail;go_roundw
    case rel=>exact ⟨q+1,j,by have:=HQ.out;omega,by have:=HQ.out;omega,hjb,by have:=HQ.out;go_num,rfl,HM5.out,HX5.out,Or.inr HLV.out,HHI.out⟩
    case measure=>simp [intOf];omega
   ·have HLL:Hid (Calls Tryz.prog g (#[.int .i64 (((i:Int)+j) / 2),.int .i64 (a:Int)]++lb) wr fun e W'=>e=.returned (.bool false)∧Below wr.heap.size wr W'):=HL.out.at (HM0.out.trans HM.out) (i:=q) (j:=a) (by have:=HQ.out;omega) (by omega) (by have:=HQ.out;omega) rfl rfl rfl (decide_eq_false hlv);have HLV:Hid (key (t a)≤key (t q)):=(show key (t a)≤key (t q) by omega);clear hlv;go_wp2_with fail;refine HLL.out.mono ?_;rintro e w5 ⟨rfl,hb5⟩;have HM5:Hid _:=HM.out.below hb5 lR7;have HX5:Hid (w5.heap[w.heap.size]? = some (boxT g sf lb sb)):=(hb5.block _ (lt_of_block HX.out)).trans HX.out;clear hb5 c0 HLL;go_wp2_with fail;go_roundw
    case rel=>exact ⟨i,q,hmi,by have:=HQ.out;omega,by have:=HQ.out;omega,rfl,by have:=HQ.out;go_num,HM5.out,HX5.out,HLO.out,Or.inr HLV.out⟩
    case measure=>simp [intOf];omega
  ·obtain rfl:i=j:=by omega
   go_wp2_with fail;go_loopw [11] (fun v wr2=>∃k:Nat,a≤k∧k≤i - 1∧v=.int .i64 k∧Mv w wr2 blk C N el (fun x=>t (upI a k x))∧wr2.heap[w.heap.size]? = some (boxT g sf lb sb)) (fun v _=>i - (intOf v).toNat)
   case atStart=>exact ⟨a,lR7,by omega,rfl,HM.out.congr (fun x _=>by show t (upI a a x)=t x;rw [jW1]),HX.out⟩
   case round=>
    obtain ⟨k,hak,hki,rfl,hm2,hbx2⟩:=hrel;have HM2:Hid _:=hm2;have HX2:Hid (wr.heap[w.heap.size]? = some (boxT g sf lb sb)):=hbx2;have c1:wr.cell? ⟨w.heap.size,1,none⟩=some (.func (.func sf) #[] sb):=(cell_of_row wr w.heap.size 1 _ _ (0,0) hbx2).trans rfl;clear hm2 hbx2 HM HX c0
    by_cases hk1:k<i - 1
    ·have hs:(callFunc sf (#[.int .i64 (k:Int),.int .i64 ((k:Int)+1)]++sb)).run Tryz.prog wr=.ok (.value (.tuple #[])) ((wr.setCells blk (k*5) (el (t (upI a k (k+1))))).setCells blk ((k+1)*5) (el (t (upI a k k)))):=HS.out.at HM2.out.row (i:=k) (j:=k+1) (by omega) (by omega) rfl (by omega) (by omega);go_wp2_with fail;go_roundw
     case rel=>
      refine ⟨k+1,by omega,by omega,by go_num,((HM2.out.row.swap hel (by omega) (by omega)).2.2 _ _ HM2.out).congr (fun x _=>?_),(lA0 HM2.out.row HN.out).trans HX2.out⟩;show t (upI a (k+1) x)=t (upI a k (ex1 k (k+1) x));rw [jV1 hak]
     case measure=>simp [intOf];omega
    ·obtain rfl:k=i - 1:=by omega
     go_wp2_with fail;refine bodyPost_ret (results_none rfl _ _ _) rfl ?_;have hi:=HI.out;have e1:=HAM.out;refine ⟨rfl,_,HM2.out,rI1 t (by omega) (by omega),rK1 (by rw [←e1];exact hi.1) (fun x hx hxb=>hi.2 a x lR7 (by omega) (by omega) hxb) (by omega) (by omega) ?_ ?_⟩
     ·rcases HLO.out with h | h
      ·left;omega
      ·exact Or.inr h
     ·rcases HHI.out with h | h
      ·left;omega
      ·right;rw [show i - 1+1=i by omega];exact h
set_option maxRecDepth 4000 in
set_option maxHeartbeats 2000000 in
theorem jZ1 (g sf:Nat) (lb sb:Array Value) (w0 w:World) (blk C N a m b:Nat) (el:Nat→List Value) (t:Nat→Nat) (key:Nat→Int) (eg:∀args w,(callFunc g args).run Tryz.prog w=.ok (.enter g args) w) (hel:∀x,(el x).length=5) (hS:iJ0 Tryz.prog sf sb blk C N el)
  (hL:iI0 Tryz.prog g lb w0 blk C N el key) (h:Mv w0 w blk C N el t) (hN:N≤1000) (ham:a+1<m) (hmb:b=m+1) (hb:b≤N) (hs2:Srt key t a m) (hap:Apt t a m b):
  Calls Tryz.prog 178 #[.agg #[.func (.func g) #[] lb,.func (.func sf) #[] sb],.int .i64 a,.int .i64 m,.int .i64 b] w fun e w'=>e=.returned (.tuple #[])∧∃t',Mv w w' blk C N el t'∧Rea a b t t'∧Srt key t' a b:=by
 have H0:Hid (Mv w (w.alloc (boxT g sf lb sb)) blk C N el t):=(Mv.start h.row).below ((Below.refl _ _).alloc lR7 _) lR7;have HB:Hid ((w.alloc (boxT g sf lb sb)).heap[w.heap.size]? = some (boxT g sf lb sb)):=heap_alloc_new w _;have HN:Hid (w.heap.size≠blk):=fun e=>by have:=h.row.lt;omega
 have HS:Hid (iJ0 Tryz.prog sf sb blk C N el):=hS;have HL:Hid (iI0 Tryz.prog g lb w0 blk C N el key):=hL;have HM0:Hid (Mv w0 w blk C N el t):=h;have HI:Hid (Srt key t a m∧Apt t a m b):=⟨hs2,hap⟩;have ht:((m:Int) - a == 1)=false:=beq_eq_false_iff_ne.2 (by omega);have ht2:((b:Int) - m == 1)=true:=by simp;omega
 have HAM:Hid (b=m+1):=hmb;clear h hS hL hs2 hap hmb;have hmb:m<b:=by have:=HAM.out;omega
 go_enter Tryz.func178,Tryz.ntmps178;go_wp2_with fail;go_loopw [12,13] (fun vi vj wr=>∃i j:Nat,a≤i∧i≤j∧j≤m∧vi=.int .i64 i∧vj=.int .i64 j∧Mv w wr blk C N el t∧wr.heap[w.heap.size]? = some (boxT g sf lb sb)∧(i=a∨key (t (i - 1))≤key (t m))∧(j=m∨key (t m)<key (t j))) (fun vi vj _=>(intOf vj).toNat - (intOf vi).toNat)
 case atStart=>exact ⟨a,m,lR7,by omega,lR7,rfl,rfl,H0.out,HB.out,Or.inl rfl,Or.inl rfl⟩
 case round=>
  obtain ⟨i,j,hmi,hij,hjb,rfl,rfl,hm,hbx,hlo,hhi⟩:=hrel;have HM:Hid _:=hm;have HX:Hid (wr.heap[w.heap.size]? = some (boxT g sf lb sb)):=hbx;have HLO:Hid (i=a∨key (t (i - 1))≤key (t m)):=hlo;have HHI:Hid (j=m∨key (t m)<key (t j)):=hhi;have c0:wr.cell? ⟨w.heap.size,0,none⟩=some (.func (.func g) #[] lb):=(cell_of_row wr w.heap.size 0 _ _ (0,0) hbx).trans rfl;clear hm hbx hlo hhi H0 HB
  by_cases hi1:i<j
  ·obtain ⟨q,hq⟩:∃q:Nat,q=(i+j) / 2:=⟨_,rfl⟩;have HQ:Hid (q=(i+j) / 2):=hq;clear hq
   by_cases hlv:key (t m)<key (t q)
   ·have HLL:Hid (Calls Tryz.prog g (#[.int .i64 (m:Int),.int .i64 (((i:Int)+j) / 2)]++lb) wr fun e W'=>e=.returned (.bool true)∧Below wr.heap.size wr W'):=HL.out.at (HM0.out.trans HM.out) (i:=m) (j:=q) (by omega) (by have:=HQ.out;omega) rfl (by have:=HQ.out;omega) rfl rfl (decide_eq_true hlv);have HLV:Hid (key (t m)<key (t q)):=hlv;clear hlv;go_wp2_with fail;refine HLL.out.mono ?_;rintro e w5 ⟨rfl,hb5⟩;have HM5:Hid _:=HM.out.below hb5 lR7;have HX5:Hid (w5.heap[w.heap.size]? = some (boxT g sf lb sb)):=(hb5.block _ (lt_of_block HX.out)).trans HX.out;clear hb5 c0 HLL;go_wp2_with fail;go_roundw
    case rel=>exact ⟨i,q,hmi,by have:=HQ.out;omega,by have:=HQ.out;omega,rfl,by have:=HQ.out;go_num,HM5.out,HX5.out,HLO.out,Or.inr HLV.out⟩
    case measure=>simp [intOf];omega
   ·have HLL:Hid (Calls Tryz.prog g (#[.int .i64 (m:Int),.int .i64 (((i:Int)+j) / 2)]++lb) wr fun e W'=>e=.returned (.bool false)∧Below wr.heap.size wr W'):=HL.out.at (HM0.out.trans HM.out) (i:=m) (j:=q) (by omega) (by have:=HQ.out;omega) rfl (by have:=HQ.out;omega) rfl rfl (decide_eq_false hlv);have HLV:Hid (key (t q)≤key (t m)):=(show key (t q)≤key (t m) by omega);clear hlv;go_wp2_with fail;refine HLL.out.mono ?_;rintro e w5 ⟨rfl,hb5⟩;have HM5:Hid _:=HM.out.below hb5 lR7;have HX5:Hid (w5.heap[w.heap.size]? = some (boxT g sf lb sb)):=(hb5.block _ (lt_of_block HX.out)).trans HX.out;clear hb5 c0 HLL;go_wp2_with fail;go_roundw
    case rel=>exact ⟨q+1,j,by have:=HQ.out;omega,by have:=HQ.out;omega,hjb,by have:=HQ.out;go_num,rfl,HM5.out,HX5.out,Or.inr HLV.out,HHI.out⟩
    case measure=>simp [intOf];omega
  ·obtain rfl:i=j:=by omega
   go_wp2_with fail;go_loopw [15] (fun v wr2=>∃k:Nat,i≤k∧k≤m∧v=.int .i64 k∧Mv w wr2 blk C N el (fun x=>t (dnI m k x))∧wr2.heap[w.heap.size]? = some (boxT g sf lb sb)) (fun v _=>(intOf v).toNat)
   case atStart=>exact ⟨m,by omega,lR7,rfl,HM.out.congr (fun x _=>by show t (dnI m m x)=t x;rw [zQ0]),HX.out⟩
   case round=>
    obtain ⟨k,hik,hkm,rfl,hm2,hbx2⟩:=hrel;have HM2:Hid _:=hm2;have HX2:Hid (wr.heap[w.heap.size]? = some (boxT g sf lb sb)):=hbx2;have c1:wr.cell? ⟨w.heap.size,1,none⟩=some (.func (.func sf) #[] sb):=(cell_of_row wr w.heap.size 1 _ _ (0,0) hbx2).trans rfl;clear hm2 hbx2 HM HX c0
    by_cases hk1:i<k
    ·have hs:(callFunc sf (#[.int .i64 (k:Int),.int .i64 ((k:Int) - 1)]++sb)).run Tryz.prog wr=.ok (.value (.tuple #[])) ((wr.setCells blk (k*5) (el (t (dnI m k (k - 1))))).setCells blk ((k - 1)*5) (el (t (dnI m k k)))):=HS.out.at HM2.out.row (i:=k) (j:=k - 1) (by omega) (by omega) rfl (by omega) (by omega);go_wp2_with fail;go_roundw
     case rel=>
      refine ⟨k - 1,by omega,by omega,by go_num,((HM2.out.row.swap hel (by omega) (by omega)).2.2 _ _ HM2.out).congr (fun x _=>?_),(lA0 HM2.out.row HN.out).trans HX2.out⟩;show t (dnI m (k - 1) x)=t (dnI m k (ex1 k (k - 1) x));rw [zP0 (by omega) hkm]
     case measure=>simp [intOf];omega
    ·obtain rfl:k=i:=by omega
     go_wp2_with fail;refine bodyPost_ret (results_none rfl _ _ _) rfl ?_;have hi:=HI.out;have e1:=HAM.out;subst e1;exact ⟨rfl,_,HM2.out,mT1 t hmi hkm,qS0 hi.1 (fun x hx hxm=>hi.2 x m hx hxm lR7 (by omega)) hmi hkm HLO.out HHI.out⟩
end Go.Proofs.YtjdkagafdnchhaaGreatDoor
