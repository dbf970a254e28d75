/- A part of the proof of EnginePlays. -/
import Derived.Test.YtjdkagafdnchhaaGreatDoorRows
import Derived.WalkKit
import Derived.WalkSpells
import Derived.WalkLawsBesides
import Derived.Handy
import Derived.BigQuiet
import Derived.OwnWalk
import Derived.OneCell
import Derived.Deep.QuietTactic
import Derived.Deep.AppendLies
import Derived.Deep.RegionHeld3
import Derived.Deep.DrawnRows
import Derived.Deep.Cut
namespace Go.Proofs.YtjdkagafdnchhaaGreatDoor
open Go.RowKit
theorem lR7 {n:Nat}:n≤n:=Nat.le_refl n
structure Ord where
 id:Int
 side:Int
 kind:Int
 price:Int
 qty:Int
def Ord.vals (o:Ord):List Value:=[.int .i64 o.id,.int .i64 o.side,.int .i64 o.kind,.int .i64 o.price,.int .i64 o.qty]
def Ord.none_:Ord:=⟨0,0,0,0,0⟩
def Ord.agg (o:Ord):Value:=.agg #[.int .i64 o.id,.int .i64 o.side,.int .i64 o.kind,.int .i64 o.price,.int .i64 o.qty]
def oV:List Ord→List Value
 | []=>[]
 | o::l=>.int .i64 o.id::.int .i64 o.side::.int .i64 o.kind::.int .i64 o.price::.int .i64 o.qty::oV l
def oAt (l:List Ord) (k:Nat):Ord:=l.getD k Ord.none_
theorem bR0 (l:List Ord):(oV l).length=l.length*5:=by
 induction l with
 | nil=>rfl
 | cons o l ih=>simp [oV,ih];omega
theorem cC0 (a b:List Ord):oV (a++b)=oV a++oV b:=by
 induction a with
 | nil=>rfl
 | cons o a ih=>simp [oV,ih]
theorem gV0 (l:List Ord):∀u∈oV l,u.oneCell'=true:=by
 induction l with
 | nil=>simp [oV]
 | cons o l ih=>
  intro u hu;simp only [oV,List.mem_cons] at hu;rcases hu with rfl | rfl | rfl | rfl | rfl | hu
  ·rfl
  ·rfl
  ·rfl
  ·rfl
  ·rfl
  ·exact ih u hu
theorem iO1 {l:List Ord} {k:Nat} (h:k<l.length):(oV l)[k*5]? = some (.int .i64 (oAt l k).id)∧(oV l)[k*5+1]? = some (.int .i64 (oAt l k).side)∧(oV l)[k*5+2]? = some (.int .i64 (oAt l k).kind)∧(oV l)[k*5+3]? = some (.int .i64 (oAt l k).price)∧(oV l)[k*5+4]? = some (.int .i64 (oAt l k).qty):=by
 induction l generalizing k with
 | nil=>simp at h
 | cons o l ih=>
  cases k with
  | zero=>exact ⟨rfl,rfl,rfl,rfl,rfl⟩
  | succ k=>
   have:=ih (k:=k) (by simpa using h);rw [show (k+1)*5=k*5+1+1+1+1+1 by omega];have e:oAt (o::l) (k+1)=oAt l k:=by simp [oAt]
   rw [e]
   simpa [oV] using this
theorem dL0 {l:List Ord} {k:Nat} (h:k<l.length):oAt l k=l[k]:=by simp [oAt,h]
def idxF (id:Int):Nat→List Ord→Int
 | _,[]=>-1
 | i,o::l=>if o.id=id then (i:Int) else idxF id (i+1) l
def idxO (id:Int) (l:List Ord):Int:=idxF id 0 l
theorem nP0 {id:Int} {l:List Ord} {k:Nat} (h:k<l.length) (hx:¬(oAt l k).id=id):idxF id (k+1) (l.drop (k+1))=idxF id k (l.drop k):=by
 rw [List.drop_eq_getElem_cons h];unfold idxF;rw [if_neg (by rw [←dL0 h];exact hx)];cases l.drop (k+1) <;> rfl
theorem rL0 {id:Int} {l:List Ord} {k:Nat} (h:k<l.length) (hx:(oAt l k).id=id):idxF id k (l.drop k)=k:=by
 rw [List.drop_eq_getElem_cons h];unfold idxF;rw [if_pos (by rw [←dL0 h];exact hx)]
theorem rM0 {id:Int} {l:List Ord} {k:Nat} (h:l.length≤k):idxF id k (l.drop k)=-1:=by
 rw [List.drop_eq_nil_of_le h];rfl
theorem kB0 (id:Int):∀(l:List Ord) (i:Nat),idxF id i l=-1∨∃k,k<l.length∧idxF id i l=((i+k:Nat):Int)∧(oAt l k).id=id
 | [],_=>Or.inl rfl
 | o::l,i=>by
  by_cases e:o.id=id
  ·right;refine ⟨0,by simp,?_,e⟩;unfold idxF;rw [if_pos e];simp
  ·have hs:idxF id i (o::l)=idxF id (i+1) l:=by
    show (if o.id=id then (i:Int) else idxF id (i+1) l)=_;rw [if_neg e]
   rw [hs];rcases kB0 id l (i+1) with h | ⟨k,hk,h,h'⟩
   ·exact Or.inl h
   ·right;refine ⟨k+1,by simpa using hk,by rw [h];congr 1;omega,?_⟩;have:oAt (o::l) (k+1)=oAt l k:=by simp [oAt]
    rw [this];exact h'
theorem cB0 {w w':World} {base:Nat} {e:TypeId} {size:Nat} {v:Value} {n B:Nat} {xs:List Value} (h:w.ownsRow base e size v n xs) (hb:Below B w w') (hB:w.heap.size≤B):w'.ownsRow base e size v n xs:=by
 refine ⟨h.1,?_⟩;rcases h.2 with hn | ⟨g,cap,cur,rfl,hg,hh,r⟩
 ·exact .inl hn
 ·exact .inr ⟨g,cap,cur,rfl,hg,(hb.block g (Nat.lt_of_lt_of_le (lt_of_block hh) hB)).trans hh,r⟩
theorem aW0 {w:World} {base:Nat} {e:TypeId} {size:Nat} {v:Value} {n:Nat} {xs:List Value} (h:w.ownsRow base e size v n xs):∃(ao:Option Addr) (cap:Nat),v=.slice ao n cap∧n≤cap∧cap≤maxLen:=by
 rcases h.2 with ⟨rfl,rfl⟩ | ⟨g,cap,cur,rfl,_,_,h1,h2,_⟩
 ·exact ⟨none,0,rfl,lR7,Nat.zero_le _⟩
 ·exact ⟨some ⟨g,0,none⟩,cap,rfl,h1,h2⟩
theorem cD0 {w:World} {base:Nat} {v:Value} {l:List Ord} (h:w.ownsRow base 41 5 v l.length (oV l)) {k:Nat} (hk:k<l.length):
  ∃g cap,v=.slice (some ⟨g,0,none⟩) l.length cap∧w.cell? ⟨g,k*5,none⟩=some (.int .i64 (oAt l k).id)∧w.cell? ⟨g,k*5+1,none⟩=some (.int .i64 (oAt l k).side)∧w.cell? ⟨g,k*5+2,none⟩=some (.int .i64 (oAt l k).kind)∧w.cell? ⟨g,k*5+3,none⟩=some (.int .i64 (oAt l k).price)∧w.cell? ⟨g,k*5+4,none⟩=some (.int .i64 (oAt l k).qty):=by
 obtain ⟨g,cap,rfl,_,_⟩:=h.form (by omega);obtain ⟨h1,h2,h3,h4,h5⟩:=iO1 hk;exact ⟨g,cap,rfl,(h.cellAt _ (by omega)).trans h1,(h.cellAt _ (by omega)).trans h2,(h.cellAt _ (by omega)).trans h3,(h.cellAt _ (by omega)).trans h4,(h.cellAt _ (by omega)).trans h5⟩
def frV (fr:List Nat):List Value:=fr.map fun k:Nat=>.int .i64 (k:Int)
theorem yN0 {l:List Value} {k:Nat} {v:Value} (h:l[k]? = some v):l.set k v=l:=by
 obtain ⟨h1,rfl⟩:=List.getElem?_eq_some_iff.1 h;exact List.set_getElem_self h1
theorem aQ1 (fr:List Nat):(frV fr).length=fr.length:=by simp [frV]
theorem yO0 (fr:List Nat) (k:Nat):frV (fr++[k])=frV fr++[.int .i64 (k:Int)]:=by simp [frV]
theorem nP1 (fs:List Nat) (k:Nat):(frV (fs++[k]))[fs.length]? = some (.int .i64 (k:Int)):=by simp [frV]
structure Out (S:Nat→Prop) (w w':World):Prop where
 os:w'.os=w.os
 tape:w'.tape=w.tape
 output:w'.output=w.output
 size:w.heap.size≤w'.heap.size
 block:∀k,k<w.heap.size→¬S k→w'.heap[k]? = w.heap[k]?
theorem Out.refl (S:Nat→Prop) (w:World):Out S w w:=⟨rfl,rfl,rfl,lR7,fun _ _ _=>rfl⟩
def Went (w:World) (S S':Nat→Prop):Prop:=∀k,S' k→S k∨w.heap.size≤k
theorem Went.refl (w:World) (S:Nat→Prop):Went w S S:=fun _ h=>Or.inl h
theorem Went.trans {w w1:World} {S S1 S2:Nat→Prop} (h:Went w S S1) (h1:Went w1 S1 S2) (hs:w.heap.size≤w1.heap.size):Went w S S2:=fun k hk=>by
 rcases h1 k hk with h2 | h2
 ·exact h k h2
 ·exact Or.inr (by omega)
theorem Out.trans {S S1:Nat→Prop} {w w1 w2:World} (h:Out S w w1) (h1:Out S1 w1 w2) (hw:Went w S S1):Out S w w2:=
 ⟨h1.os.trans h.os,h1.tape.trans h.tape,h1.output.trans h.output,Nat.le_trans h.size h1.size,fun k hk hS=>(h1.block k (by have:=h.size;omega) (fun hk1=>by
  rcases hw k hk1 with h2 | h2
  ·exact hS h2
  ·omega)).trans (h.block k hk hS)⟩
theorem Out.of_below {S:Nat→Prop} {w w':World} {B:Nat} (h:Below B w w') (hB:w.heap.size≤B):Out S w w':=⟨h.os,h.tape,h.output,h.size,fun k hk _=>h.block k (by omega)⟩
theorem Out.of_grown {S:Nat→Prop} {w w':World} {row:Option Nat} (h:w.grownBy w' row) (hr:∀k,row=some k→S k):Out S w w':=⟨h.os,h.tape,h.output,h.size,fun k hk hS=>h.block k hk (fun e=>hS (hr k e.symm))⟩
theorem Out.below {S:Nat→Prop} {w w':World} {B:Nat} (h:Out S w w') (hS:∀k,S k→B≤k) (hB:B≤w.heap.size):Below B w w':=⟨h.os,h.tape,h.output,h.size,fun k hk=>h.block k (by omega) (fun hk'=>by have:=hS k hk';omega)⟩
theorem Out.mono {S S':Nat→Prop} {w w':World} (h:Out S w w') (hS:∀k,S k→S' k):Out S' w w':=⟨h.os,h.tape,h.output,h.size,fun k hk hk'=>h.block k hk (fun e=>hk' (hS k e))⟩
abbrev Sot:=Option Ord×Int
def soAt (rs:List Sot) (k:Nat):Sot:=rs.getD k (none,0)
def cntO:List Sot→Nat
 | []=>0
 | r::rs=>(if r.1.isSome then 1 else 0)+cntO rs
def thO (t:Option Ord):Ord:=t.getD Ord.none_
theorem dC0 {rs:List Sot} {k:Nat} (p:Sot) (h:k<rs.length):soAt (rs.set k p) k=p:=by simp [soAt,h]
theorem bV0 {rs:List Sot} {k j:Nat} (p:Sot) (h:k≠j):soAt (rs.set k p) j=soAt rs j:=by simp [soAt,h]
theorem tG0 {rs:List Sot} {k:Nat} (p:Sot) (h:k<rs.length):soAt (rs++[p]) k=soAt rs k:=by simp [soAt,List.getElem?_append,h]
theorem kC0 (rs:List Sot) (p:Sot):soAt (rs++[p]) rs.length=p:=by simp [soAt]
theorem kD0 {rs:List Sot} {k:Nat} (h:rs.length≤k):soAt rs k=(none,0):=by simp [soAt,h]
theorem iP0 {rs:List Sot} {k:Nat} {o:Ord} {a:Int} (h:soAt rs k=(some o,a)):k<rs.length:=by
 rcases Nat.lt_or_ge k rs.length with h1 | h1
 ·exact h1
 ·rw [kD0 h1] at h;cases h
theorem nQ0 (a b:List Sot):cntO (a++b)=cntO a+cntO b:=by
 induction a with
 | nil=>simp [cntO]
 | cons r a ih=>simp [cntO,ih];omega
theorem jH0 {rs:List Sot} {k:Nat} (p:Sot) (h:k<rs.length):cntO (rs.set k p)+(if (soAt rs k).1.isSome then 1 else 0)=cntO rs+(if p.1.isSome then 1 else 0):=by
 induction rs generalizing k with
 | nil=>simp at h
 | cons r rs ih=>
  cases k with
  | zero=>simp [cntO,soAt];omega
  | succ k=>
   have:=ih (k:=k) (by simpa using h);simp only [List.set_cons_succ,cntO];have e:soAt (r::rs) (k+1)=soAt rs k:=by simp [soAt]
   rw [e];omega
structure So (m:Nat) (rs:List Sot) (fr:List Nat):Prop where
 nd:fr.Nodup
 free:∀k∈fr,k<rs.length∧(soAt rs k).1=none
 cnt:cntO rs+fr.length=rs.length
 small:rs.length≤m
 ages:∀k,0≤(soAt rs k).2∧(soAt rs k).2≤m
theorem So.start (m:Nat):So m [] []:=⟨List.nodup_nil,fun _ h=>(by cases h),rfl,Nat.zero_le _,fun k=>by simp [soAt]⟩
theorem So.more {m m':Nat} {rs:List Sot} {fr:List Nat} (h:So m rs fr) (hm:m≤m'):So m' rs fr:=⟨h.nd,h.free,h.cnt,by have:=h.small;omega,fun k=>by have:=h.ages k;omega⟩
theorem So.putFree {m k:Nat} {rs:List Sot} {fs:List Nat} {x:Ord} (h:So m rs (fs++[k])):So (m+1) (rs.set k (some x,(soAt rs k).2)) fs:=by
 have hk:=h.free k (by simp);have hnd:=List.nodup_append.1 h.nd;refine ⟨hnd.1,fun j hj=>?_,?_,by simpa using Nat.le_succ_of_le h.small,fun j=>?_⟩
 ·have hne:k≠j:=fun e=>hnd.2.2 j hj k (by simp) e.symm
  rw [bV0 _ hne]
  simpa using h.free j (by simp [hj])
 ·have h1:=jH0 (some x,(soAt rs k).2) hk.1;have h2:=h.cnt;rw [hk.2] at h1;simp only [List.length_append,List.length_singleton] at h2;simp at h1;simp;omega
 ·by_cases e:k=j
  ·subst e;rw [dC0 _ hk.1];have:=h.ages k;simp;omega
  ·rw [bV0 _ e];have:=h.ages j;omega
theorem So.putNew {m:Nat} {rs:List Sot} {x:Ord} (h:So m rs []):So (m+1) (rs++[(some x,0)]) []:=by
 have each:∀k,soAt (rs++[(some x,0)]) k=soAt rs k∨soAt (rs++[(some x,0)]) k=(some x,0):=fun k=>by
  rcases Nat.lt_trichotomy k rs.length with h1 | h1 | h1
  ·exact Or.inl (tG0 _ h1)
  ·subst h1;exact Or.inr (kC0 _ _)
  ·left;rw [kD0 (by simp;omega),kD0 (by omega)]
 refine ⟨List.nodup_nil,fun _ h=>(by cases h),?_,by have:=h.small;simp;omega,fun k=>?_⟩
 ·have:=h.cnt;simp [nQ0,cntO] at this ⊢;omega
 ·rcases each k with e | e
  ·rw [e];have:=h.ages k;omega
  ·rw [e];simp;omega
theorem So.set {m k:Nat} {rs:List Sot} {fr:List Nat} {x:Ord} (h:So m rs fr) (hk:k<rs.length) (hf:(soAt rs k).1.isSome=true):So (m+1) (rs.set k (some x,(soAt rs k).2)) fr:=by
 refine ⟨h.nd,fun j hj=>?_,?_,by simpa using Nat.le_succ_of_le h.small,fun j=>?_⟩
 ·have hj':=h.free j hj;have hne:k≠j:=fun e=>by subst e;rw [hj'.2] at hf;cases hf
  rw [bV0 _ hne]
  simpa using hj'
 ·have h1:=jH0 (some x,(soAt rs k).2) hk;have h2:=h.cnt;rw [hf] at h1;simp at h1;simp;omega
 ·by_cases e:k=j
  ·subst e;rw [dC0 _ hk];have:=h.ages k;simp;omega
  ·rw [bV0 _ e];have:=h.ages j;omega
theorem So.take {m k:Nat} {rs:List Sot} {fr:List Nat} (h:So m rs fr) (hk:k<rs.length) (hf:(soAt rs k).1.isSome=true):So (m+1) (rs.set k (none,(soAt rs k).2+1)) (fr++[k]):=by
 have hn:k ∉ fr:=fun hm=>by have:=h.free k hm;rw [this.2] at hf;cases hf
 refine ⟨?_,fun j hj=>?_,?_,by simpa using Nat.le_succ_of_le h.small,fun j=>?_⟩
 ·rw [List.nodup_append];exact ⟨h.nd,by simp,fun a ha b hb e=>by simp at hb;subst e;subst hb;exact hn ha⟩
 ·by_cases e:k=j
  ·subst e;rw [dC0 _ hk];exact ⟨by simpa using hk,rfl⟩
  ·rw [bV0 _ e];rcases List.mem_append.1 hj with h1 | h1
   ·simpa using h.free j h1
   ·simp at h1;omega
 ·have h1:=jH0 (none,(soAt rs k).2+1) hk;have h2:=h.cnt;rw [hf] at h1;simp at h1;simp;omega
 ·by_cases e:k=j
  ·subst e;rw [dC0 _ hk];have:=h.ages k;simp;omega
  ·rw [bV0 _ e];have:=h.ages j;omega
def soV:List Sot→List Value
 | []=>[]
 | r::rs=>.int .i64 (thO r.1).id::.int .i64 (thO r.1).side::.int .i64 (thO r.1).kind::.int .i64 (thO r.1).price::.int .i64 (thO r.1).qty::.int .i64 r.2::.bool r.1.isSome::soV rs
theorem aR1 (a b:List Sot):soV (a++b)=soV a++soV b:=by
 induction a with
 | nil=>rfl
 | cons r a ih=>simp [soV,ih]
theorem cV1 {rs:List Sot} {k:Nat} (h:k<rs.length):(soV rs)[k*7]? = some (.int .i64 (thO (soAt rs k).1).id)∧(soV rs)[k*7+1]? = some (.int .i64 (thO (soAt rs k).1).side)∧(soV rs)[k*7+2]? = some (.int .i64 (thO (soAt rs k).1).kind)∧(soV rs)[k*7+3]? = some (.int .i64 (thO (soAt rs k).1).price)∧(soV rs)[k*7+4]? = some (.int .i64 (thO (soAt rs k).1).qty)∧(soV rs)[k*7+5]? = some (.int .i64 (soAt rs k).2)∧(soV rs)[k*7+6]? = some (.bool (soAt rs k).1.isSome):=by
 induction rs generalizing k with
 | nil=>simp at h
 | cons r rs ih=>
  cases k with
  | zero=>exact ⟨rfl,rfl,rfl,rfl,rfl,rfl,rfl⟩
  | succ k=>
   have:=ih (k:=k) (by simpa using h);rw [show (k+1)*7=k*7+1+1+1+1+1+1+1 by omega];have e:soAt (r::rs) (k+1)=soAt rs k:=by simp [soAt]
   rw [e]
   simpa [soV] using this
theorem cW1 {rs:List Sot} {k:Nat} (p:Sot) (h:k<rs.length):(((((((soV rs).set (k*7) (.int .i64 (thO p.1).id)).set (k*7+1) (.int .i64 (thO p.1).side)).set (k*7+2) (.int .i64 (thO p.1).kind)).set (k*7+3) (.int .i64 (thO p.1).price)).set (k*7+4) (.int .i64 (thO p.1).qty)).set (k*7+5) (.int .i64 p.2)).set (k*7+6) (.bool p.1.isSome)=soV (rs.set k p):=by
 induction rs generalizing k with
 | nil=>simp at h
 | cons r rs ih=>
  cases k with
  | zero=>rfl
  | succ k=>
   have:=ih (k:=k) (by simpa using h);rw [show (k+1)*7=k*7+1+1+1+1+1+1+1 by omega];simp only [soV,List.set_cons_succ];rw [←this]
def rN0 (rs:List Sot) (fr:List Nat) (k:Nat) (rs1:List Sot) (fr1:List Nat):Prop:=(fr=fr1++[k]∧rs1=rs)∨(fr=[]∧fr1=[]∧k=rs.length∧rs1=rs++[(none,0)])
structure Ly where
 slot:Nat
 age:Int
 o:Ord
def hV:List Ly→List Value
 | []=>[]
 | x::l=>.int .i64 (x.slot:Int)::.int .i64 x.age::hV l
def qS1:Ly:=⟨0,0,Ord.none_⟩
def lyAt (l:List Ly) (k:Nat):Ly:=l.getD k qS1
theorem iQ0 {l:List Ly} {k:Nat} (h:k<l.length):lyAt l k=l[k]:=by simp [lyAt,h]
theorem yP0 {l:List Ly} {k:Nat} (h:k<l.length):lyAt l k∈l:=by rw [iQ0 h];exact List.getElem_mem h
theorem eU0 (l:List Ly):(hV l).length=l.length*2:=by
 induction l with
 | nil=>rfl
 | cons r rs ih=>simp [hV,ih];omega
theorem nR0 (a b:List Ly):hV (a++b)=hV a++hV b:=by
 induction a with
 | nil=>rfl
 | cons r a ih=>simp [hV,ih]
theorem aS1 {l:List Ly} {k:Nat} (h:k<l.length):(hV l)[k*2]? = some (.int .i64 ((lyAt l k).slot:Int))∧(hV l)[k*2+1]? = some (.int .i64 (lyAt l k).age):=by
 induction l generalizing k with
 | nil=>simp at h
 | cons r rs ih=>
  cases k with
  | zero=>exact ⟨rfl,rfl⟩
  | succ k=>
   have:=ih (k:=k) (by simpa using h);rw [show (k+1)*2=k*2+1+1 by omega];have e:lyAt (r::rs) (k+1)=lyAt rs k:=by simp [lyAt]
   rw [e]
   simpa [hV] using this
theorem mL1 (l:List Ly):∀u∈hV l,u.oneCell'=true:=by
 induction l with
 | nil=>simp [hV]
 | cons o l ih=>
  intro u hu;simp only [hV,List.mem_cons] at hu;rcases hu with rfl | rfl | hu
  ·rfl
  ·rfl
  ·exact ih u hu
structure Pb (m:Nat) (rs:List Sot) (fr:List Nat) (S:Nat→List Ly):Prop where
 so:So m rs fr
 there:∀s,s<2→∀x∈S s,soAt rs x.slot=(some x.o,x.age)
 nd:((S 0++S 1).map Ly.slot).Nodup
 ids:((S 0++S 1).map fun x=>x.o.id).Nodup
 cnt:cntO rs=(S 0).length+(S 1).length
 side:∀s,s<2→∀x∈S s,x.o.side=(s:Int)+1
 ok:∀s,s<2→∀x∈S s,1≤x.o.id∧(Lit.int .i64 x.o.id).wf=true∧1≤x.o.price∧x.o.price≤1000000∧1≤x.o.qty∧x.o.qty≤1000000
 most:(S 0).length+(S 1).length≤100
def upS (S:Nat→List Ly) (s:Nat) (l:List Ly):Nat→List Ly:=fun k=>if k=s then l else S k
theorem gW0 (S:Nat→List Ly) (s:Nat) (l:List Ly):upS S s l s=l:=if_pos rfl
theorem fT0 {S:Nat→List Ly} {s k:Nat} (l:List Ly) (h:k≠s):upS S s l k=S k:=if_neg h
theorem nS0 (S:Nat→List Ly) {s:Nat} (hs:s<2):(S 0++S 1).Perm (S s++S (1 - s)):=by
 match s,hs with
 | 0,_=>exact List.Perm.refl _
 | 1,_=>exact List.perm_append_comm
theorem cX1 (S:Nat→List Ly) (l:List Ly) {s:Nat} (hs:s<2):(upS S s l 0++upS S s l 1).Perm (l++S (1 - s)):=by
 match s,hs with
 | 0,_=>exact List.Perm.refl _
 | 1,_=>exact List.perm_append_comm
theorem nT0 (S:Nat→List Ly) (l:List Ly) {s:Nat} (hs:s<2):(upS S s l 0).length+(upS S s l 1).length=l.length+(S (1 - s)).length∧(S 0).length+(S 1).length=(S s).length+(S (1 - s)).length:=by
 match s,hs with
 | 0,_=>exact ⟨rfl,rfl⟩
 | 1,_=>exact ⟨Nat.add_comm _ _,Nat.add_comm _ _⟩
theorem qF0 {S:Nat→List Ly} {l:List Ly} {s t:Nat} {y:Ly} (h:y∈upS S s l t):(t=s∧y∈l)∨(t≠s∧y∈S t):=by
 by_cases e:t=s
 ·subst e;rw [gW0] at h;exact Or.inl ⟨rfl,h⟩
 ·rw [fT0 _ e] at h;exact Or.inr ⟨e,h⟩
theorem Pb.one_slot {m:Nat} {rs:List Sot} {fr:List Nat} {S:Nat→List Ly} (h:Pb m rs fr S) {s t:Nat} (hs:s<2) (ht:t<2) {x y:Ly} (hx:x∈S s) (hy:y∈S t) (e:x.slot=y.slot):x=y:=by
 have h1:=h.there s hs x hx;have h2:=h.there t ht y hy;rw [e,h2] at h1;injection h1 with h1 h3;injection h1 with h1;obtain ⟨a,b,c⟩:=x;obtain ⟨a',b',c'⟩:=y;simp only at e h1 h3;rw [e,h1,h3]
theorem rO0 {α:Type} {f:Ly→α} {l:List Ly} (h:(l.map f).Nodup) {x y:Ly} (hx:x∈l) (hy:y∈l) (e:f x=f y):x=y:=by
 induction l with
 | nil=>cases hx
 | cons a l ih=>
  simp only [List.map_cons,List.nodup_cons] at h;rcases List.mem_cons.1 hx with rfl | hx' <;> rcases List.mem_cons.1 hy with rfl | hy'
  ·rfl
  ·exact absurd (List.mem_map.2 ⟨y,hy',e.symm⟩) h.1
  ·exact absurd (List.mem_map.2 ⟨x,hx',e⟩) h.1
  ·exact ih h.2 hx' hy'
theorem Pb.mem {S:Nat→List Ly} {s:Nat} (hs:s<2) {x:Ly} (hx:x∈S s):x∈S 0++S 1:=(nS0 S hs).mem_iff.2 (List.mem_append.2 (Or.inl hx))
theorem Pb.one_id {m:Nat} {rs:List Sot} {fr:List Nat} {S:Nat→List Ly} (h:Pb m rs fr S) {s t:Nat} (hs:s<2) (ht:t<2) {x y:Ly} (hx:x∈S s) (hy:y∈S t) (e:x.o.id=y.o.id):x=y:=
 rO0 h.ids (Pb.mem hs hx) (Pb.mem ht hy) e
theorem Pb.one_side {m:Nat} {rs:List Sot} {fr:List Nat} {S:Nat→List Ly} (h:Pb m rs fr S) {s t:Nat} (hs:s<2) (ht:t<2) {x:Ly} (hx:x∈S s) (hy:x∈S t):s=t:=by
 have h1:=h.side s hs x hx;have h2:=h.side t ht x hy;omega
theorem Pb.more {m m':Nat} {rs:List Sot} {fr:List Nat} {S:Nat→List Ly} (h:Pb m rs fr S) (hm:m≤m'):Pb m' rs fr S:=⟨h.so.more hm,h.there,h.nd,h.ids,h.cnt,h.side,h.ok,h.most⟩
theorem Pb.start (m:Nat):Pb m [] [] (fun _=>[]):=⟨So.start m,fun _ _ x hx=>(by cases hx),List.nodup_nil,List.nodup_nil,rfl,fun _ _ x hx=>(by cases hx),fun _ _ x hx=>(by cases hx),by simp⟩
theorem nU0 {m k:Nat} {rs rs1:List Sot} {fr fr1:List Nat} (h:So m rs fr) (hR:rN0 rs fr k rs1 fr1):k<rs1.length∧(soAt rs1 k).1=none∧(∀j o a,soAt rs j=(some o,a)→j≠k∧soAt rs1 j=(some o,a))∧cntO rs1=cntO rs∧rs1.length≤rs.length+1:=by
 rcases hR with ⟨rfl,rfl⟩ | ⟨rfl,rfl,rfl,rfl⟩
 ·have hk:=h.free k (by simp);refine ⟨hk.1,hk.2,fun j o a hj=>⟨fun e=>?_,hj⟩,rfl,by omega⟩;subst e;rw [hj] at hk;cases hk.2
 ·refine ⟨by simp,by rw [kC0],fun j o a hj=>?_,by simp [nQ0,cntO],by simp⟩;have hlt:=iP0 hj;exact ⟨by omega,by rw [tG0 _ hlt];exact hj⟩
theorem iP1 (rs:List Sot) (p q:Sot):(rs++[p]).set rs.length q=rs++[q]:=by simp
theorem nQ1 {m k:Nat} {rs rs1:List Sot} {fr fr1:List Nat} {o:Ord} (h:So m rs fr) (hR:rN0 rs fr k rs1 fr1):So (m+1) (rs1.set k (some o,(soAt rs1 k).2)) fr1:=by
 rcases hR with ⟨rfl,rfl⟩ | ⟨rfl,rfl,rfl,rfl⟩
 ·exact h.putFree
 ·rw [kC0,iP1];exact h.putNew
theorem nR1 {m:Nat} {rs:List Sot} {fr:List Nat} (_h:So m rs fr):∃k rs1 fr1,rN0 rs fr k rs1 fr1:=by
 rcases List.eq_nil_or_concat fr with rfl | ⟨fs,k,rfl⟩
 ·exact ⟨rs.length,_,[],Or.inr ⟨rfl,rfl,rfl,rfl⟩⟩
 ·rw [List.concat_eq_append];exact ⟨k,rs,fs,Or.inl ⟨rfl,rfl⟩⟩
theorem Pb.put {m k s:Nat} {rs rs1:List Sot} {fr fr1:List Nat} {S:Nat→List Ly} {o:Ord} {l':List Ly} (h:Pb m rs fr S) (hR:rN0 rs fr k rs1 fr1) (hs:s<2) (hp:l'.Perm (⟨k,(soAt rs1 k).2,o⟩::S s)) (hside:o.side=(s:Int)+1)
  (hok:1≤o.id∧(Lit.int .i64 o.id).wf=true∧1≤o.price∧o.price≤1000000∧1≤o.qty∧o.qty≤1000000) (hid:∀t,t<2→∀x∈S t,x.o.id≠o.id) (hm:(S 0).length+(S 1).length<100):
  Pb (m+1) (rs1.set k (some o,(soAt rs1 k).2)) fr1 (upS S s l'):=by
 obtain ⟨hk,hn,ho,hc,_⟩:=nU0 h.so hR;have hall:=(cX1 S l' hs).trans ((hp.append_right _).trans ((nS0 S hs).symm.cons _));have hl:=nT0 S l' hs;have hpl:=hp.length_eq;simp only [List.length_cons] at hpl;refine ⟨nQ1 h.so hR,fun t ht y hy=>?_,?_,?_,?_,fun t ht y hy=>?_,fun t ht y hy=>?_,by omega⟩
 ·have old:∀u,u<2→y∈S u→soAt (rs1.set k (some o,(soAt rs1 k).2)) y.slot=(some y.o,y.age):=fun u hu hy'=>by
   obtain ⟨h1,h2⟩:=ho _ _ _ (h.there u hu y hy');rw [bV0 _ (Ne.symm h1)];exact h2
  rcases qF0 hy with ⟨rfl,h5⟩ | ⟨_,h5⟩
  ·rcases List.mem_cons.1 (hp.mem_iff.1 h5) with rfl | h6
   ·exact dC0 _ hk
   ·exact old _ ht h6
  ·exact old _ ht h5
 ·rw [(hall.map _).nodup_iff];simp only [List.map_cons,List.nodup_cons];refine ⟨fun hmem=>?_,h.nd⟩;obtain ⟨y,hy,e⟩:=List.mem_map.1 hmem;rcases List.mem_append.1 hy with hy | hy
  ·exact (ho _ _ _ (h.there 0 (by decide) y hy)).1 e
  ·exact (ho _ _ _ (h.there 1 (by decide) y hy)).1 e
 ·rw [(hall.map _).nodup_iff];simp only [List.map_cons,List.nodup_cons];refine ⟨fun hmem=>?_,h.ids⟩;obtain ⟨y,hy,e⟩:=List.mem_map.1 hmem;rcases List.mem_append.1 hy with hy | hy
  ·exact hid 0 (by decide) y hy e
  ·exact hid 1 (by decide) y hy e
 ·have h1:=jH0 (some o,(soAt rs1 k).2) hk;rw [hn] at h1;have h2:=h.cnt;simp at h1;omega
 ·rcases qF0 hy with ⟨rfl,h5⟩ | ⟨_,h5⟩
  ·rcases List.mem_cons.1 (hp.mem_iff.1 h5) with rfl | h6
   ·exact hside
   ·exact h.side _ ht _ h6
  ·exact h.side _ ht _ h5
 ·rcases qF0 hy with ⟨rfl,h5⟩ | ⟨_,h5⟩
  ·rcases List.mem_cons.1 (hp.mem_iff.1 h5) with rfl | h6
   ·exact hok
   ·exact h.ok _ ht _ h6
  ·exact h.ok _ ht _ h5
theorem Pb.gone {m s:Nat} {rs:List Sot} {fr:List Nat} {S:Nat→List Ly} {x:Ly} {l':List Ly} (h:Pb m rs fr S) (hs:s<2) (hx:x∈S s) (hp:(S s).Perm (x::l')):
  Pb (m+1) (rs.set x.slot (none,x.age+1)) (fr++[x.slot]) (upS S s l'):=by
 have hat:=h.there s hs x hx;have hk:=iP0 hat;have hf:(soAt rs x.slot).1.isSome=true:=by rw [hat];rfl
 have hall:(S 0++S 1).Perm (x::(upS S s l' 0++upS S s l' 1)):=(nS0 S hs).trans ((hp.append_right _).trans ((cX1 S l' hs).symm.cons _));have hnd:=(hall.map Ly.slot).nodup_iff.1 h.nd;have hid:=(hall.map fun x=>x.o.id).nodup_iff.1 h.ids;simp only [List.map_cons,List.nodup_cons] at hnd hid;have hl:=nT0 S l' hs;have hpl:=hp.length_eq;simp only [List.length_cons] at hpl
 have old:∀t,t<2→∀y∈upS S s l' t,y∈S t:=fun t ht y hy=>by
  rcases qF0 hy with ⟨rfl,h5⟩ | ⟨_,h5⟩
  ·exact hp.mem_iff.2 (List.mem_cons_of_mem _ h5)
  ·exact h5
 refine ⟨?_,fun t ht y hy=>?_,hnd.2,hid.2,?_,fun t ht y hy=>h.side t ht y (old t ht y hy),fun t ht y hy=>h.ok t ht y (old t ht y hy),by have:=h.most;omega⟩
 ·have:=h.so.take hk hf;rw [hat] at this;exact this
 ·have hne:x.slot≠y.slot:=fun e=>hnd.1 (List.mem_map.2 ⟨y,Pb.mem ht hy,e.symm⟩)
  rw [bV0 _ hne];exact h.there t ht y (old t ht y hy)
 ·have h1:=jH0 (none,x.age+1) hk;rw [hat] at h1;have h2:=h.cnt;simp at h1;omega
def cutL (x:Ly) (o':Ord) (l:List Ly):List Ly:=l.map fun y=>if y.slot=x.slot then { y with o:=o' } else y
theorem aT1 (x:Ly) (o':Ord) (l:List Ly):(cutL x o' l).map Ly.slot=l.map Ly.slot:=by
 unfold cutL;rw [List.map_map];apply List.map_congr_left;intro y _;simp only [Function.comp];split <;> rfl
theorem nV0 (x:Ly) (o':Ord) (l:List Ly):(cutL x o' l).length=l.length:=by simp [cutL]
theorem nS1 (x:Ly) (o':Ord) (l:List Ly):hV (cutL x o' l)=hV l:=by
 induction l with
 | nil=>rfl
 | cons y l ih=>
  have:cutL x o' (y::l)=(if y.slot=x.slot then { y with o:=o' } else y)::cutL x o' l:=rfl;rw [this];unfold hV;rw [ih];split <;> rfl
theorem Pb.cut {m s:Nat} {rs:List Sot} {fr:List Nat} {S:Nat→List Ly} {x:Ly} {o':Ord} (h:Pb m rs fr S) (hs:s<2) (hx:x∈S s) (h1:o'.id=x.o.id) (h2:o'.side=x.o.side) (h3:1≤o'.price∧o'.price≤1000000∧1≤o'.qty∧o'.qty≤1000000):
  Pb (m+1) (rs.set x.slot (some o',x.age)) fr (upS S s (cutL x o' (S s))):=by
 have hat:=h.there s hs x hx;have hk:=iP0 hat;have hf:(soAt rs x.slot).1.isSome=true:=by rw [hat];rfl
 have hl:=nT0 S (cutL x o' (S s)) hs
 have each:∀t,t<2→∀y∈upS S s (cutL x o' (S s)) t,(y∈S t∧y.slot≠x.slot)∨(t=s∧y={ x with o:=o' }):=fun t ht y hy=>by
  rcases qF0 hy with ⟨rfl,h5⟩ | ⟨hne,h5⟩
  ·obtain ⟨z,hz,rfl⟩:=List.mem_map.1 h5
   by_cases e:z.slot=x.slot
   ·obtain rfl:=h.one_slot ht hs hz hx e;right;rw [if_pos rfl];exact ⟨rfl,rfl⟩
   ·left;rw [if_neg e];exact ⟨hz,e⟩
  ·left;refine ⟨h5,fun e=>?_⟩;have e2:=h.one_slot ht hs h5 hx e;exact hne (h.one_side ht hs h5 (e2 ▸ hx))
 have hcl:=nV0 x o' (S s);have hm:=h.most
 have hids:((cutL x o' (S s)).map fun y=>y.o.id)=(S s).map fun y=>y.o.id:=by
  unfold cutL;rw [List.map_map];apply List.map_congr_left;intro y hy;simp only [Function.comp];split
  ·rename_i e;obtain rfl:=h.one_slot hs hs hy hx e;exact h1
  ·rfl
 refine ⟨?_,fun t ht y hy=>?_,?_,?_,?_,fun t ht y hy=>?_,fun t ht y hy=>?_,by omega⟩
 ·have:=h.so.set (x:=o') hk hf;rw [hat] at this;exact this
 ·rcases each t ht y hy with ⟨hy,hne⟩ | ⟨_,rfl⟩
  ·rw [bV0 _ (Ne.symm hne)];exact h.there t ht y hy
  ·exact dC0 _ hk
 ·rw [((cX1 S _ hs).map _).nodup_iff,List.map_append,aT1,←List.map_append,←((nS0 S hs).map _).nodup_iff];exact h.nd
 ·rw [((cX1 S _ hs).map _).nodup_iff,List.map_append,hids,←List.map_append,←((nS0 S hs).map _).nodup_iff];exact h.ids
 ·have h4:=jH0 (some o',x.age) hk;rw [hat] at h4;have h5:=h.cnt;simp at h4;omega
 ·rcases each t ht y hy with ⟨hy,_⟩ | ⟨rfl,rfl⟩
  ·exact h.side t ht y hy
  ·show o'.side=_;rw [h2];exact h.side _ hs x hx
 ·rcases each t ht y hy with ⟨hy,_⟩ | ⟨rfl,rfl⟩
  ·exact h.ok t ht y hy
  ·have:=h.ok _ hs x hx;show 1≤o'.id∧(Lit.int .i64 o'.id).wf=true∧_;rw [h1];exact ⟨this.1,this.2.1,h3⟩
theorem aA0 {w:World} {b j:Nat} {vs:Array Value} {t:TypeId} {v:Value} (h:w.heap[b]? = some (.cells vs t (0,0))) (hj:vs[j]? = some v):w.cell? ⟨b,j,none⟩=some v:=(cell_of_row w b j vs t (0,0) h).trans hj
theorem aB0 {w:World} {b j:Nat} {vs:Array Value} {t:TypeId} (h:w.heap[b]? = some (.cells vs t (0,0))):w.frozen? ⟨b,j,none⟩=false:=frozen_of_row w b j vs t h
theorem aK0 {w:World} {b j:Nat} {vs:Array Value} {t:TypeId} (u:Value) (h:w.heap[b]? = some (.cells vs t (0,0))):(w.setCell ⟨b,j,none⟩ u).heap[b]? = some (.cells (vs.setIfInBounds j u) t (0,0)):=heap_setCell_same w b j vs t u h
theorem cV0 {w:World} {b g:Nat} {vs us:Array Value} {t s:TypeId} {f f':Nat×Nat} (h:w.heap[b]? = some (.cells vs t f)) (h':w.heap[g]? = some (.cells us s f')) (hn:t≠s):b≠g:=fun e=>by
 subst e;rw [h] at h';injection h' with h';injection h' with _ h' _;exact hn h'
theorem bB0 {w:World} {base:Nat} {e:TypeId} {size:Nat} {v:Value} {n:Nat} {xs:List Value} (h:w.ownsRow base e size v n xs):∃(ao:Option Addr) (cap:Nat),v=.slice ao n cap∧n≤cap∧cap≤maxLen:=by
 rcases h.2 with ⟨rfl,rfl⟩ | ⟨g,cap,cur,rfl,_,_,h1,h2,_⟩
 ·exact ⟨none,0,rfl,lR7,Nat.zero_le _⟩
 ·exact ⟨some ⟨g,0,none⟩,cap,rfl,h1,h2⟩
theorem aO0 {w w':World} {base:Nat} {e:TypeId} {size:Nat} {v:Value} {n B:Nat} {xs:List Value} (h:w.ownsRow base e size v n xs) (hb:Below B w w') (hB:w.heap.size≤B):w'.ownsRow base e size v n xs:=by
 refine ⟨h.1,?_⟩;rcases h.2 with hn | ⟨g,cap,cur,rfl,hg,hh,r⟩
 ·exact .inl hn
 ·exact .inr ⟨g,cap,cur,rfl,hg,(hb.block g (Nat.lt_of_lt_of_le (lt_of_block hh) hB)).trans hh,r⟩
theorem aI0 {S:Nat→Prop} {w w':World} {base:Nat} {e:TypeId} {size:Nat} {v:Value} {n:Nat} {xs:List Value} (h:w.ownsRow base e size v n xs) (hb:Out S w w') (hS:∀k,v.ownBlock=some k→¬S k):w'.ownsRow base e size v n xs:=by
 refine ⟨h.1,?_⟩;rcases h.2 with hn | ⟨g,cap,cur,rfl,hg,hh,r⟩
 ·exact .inl hn
 ·exact .inr ⟨g,cap,cur,rfl,hg,(hb.block g (lt_of_block hh) (hS g rfl)).trans hh,r⟩
theorem aG0 {w:World} {base b:Nat} {e t:TypeId} {size:Nat} {v:Value} {n:Nat} {xs:List Value} {vs:Array Value} {f:Nat×Nat} (h:w.ownsRow base e size v n xs) (hb:w.heap[b]? = some (.cells vs t f)) (ht:t≠e):v.ownBlock≠some b:=fun hv=>by
 rcases h.2 with ⟨rfl,_⟩ | ⟨g,cap,cur,rfl,_,hh,_⟩
 ·cases hv
 ·simp [Value.ownBlock] at hv;subst hv;exact cV0 hb hh ht rfl
theorem bG0 {w:World} {base base':Nat} {e e':TypeId} {size size':Nat} {v v':Value} {n n':Nat} {xs xs':List Value} (h:w.ownsRow base e size v n xs) (h':w.ownsRow base' e' size' v' n' xs') (ht:e≠e') {k:Nat} (hv:v.ownBlock=some k):v'.ownBlock≠some k:=fun hv'=>by
 rcases h.2 with ⟨rfl,_⟩ | ⟨g,cap,cur,rfl,_,hh,_⟩
 ·cases hv
 ·simp [Value.ownBlock] at hv;subst hv;exact aG0 h' hh ht hv'
theorem nA0 {w:World} {base:Nat} {e:TypeId} {size:Nat} {a:Option Addr} {n' cap n:Nat} {xs:List Value} (h:w.ownsRow base e size (.slice a n' cap) n xs):n'=n:=by
 rcases h.2 with ⟨h',h0⟩ | ⟨g,cap',cur,h',_⟩
 ·injection h' with _ h1 _;omega
 ·injection h' with _ h1 _
theorem cY1 {w:World} {base:Nat} {e:TypeId} {g n cap:Nat} {xs:List Value} {x:Value} (h:w.ownsRow base e 1 (.slice (some ⟨g,0,none⟩) (n+1) cap) (n+1) (xs++[x])) (hn:xs.length=n):w.ownsRow base e 1 (.slice (some ⟨g,0,none⟩) n cap) n xs:=by
 rcases h.2 with ⟨h',_⟩ | ⟨g',cap',cur,h',hb,hg,hnc,hcm,hcs,ht⟩
 ·simp at h'
 ·simp only [Value.slice.injEq,Option.some.injEq,Addr.mk.injEq,and_true,true_and] at h';obtain ⟨rfl,rfl⟩:=h';refine ⟨by omega,.inr ⟨g,cap,cur,rfl,hb,hg,by omega,hcm,hcs,?_⟩⟩;have:=congrArg (List.take n) ht;rw [List.take_take,←hn,List.take_left] at this;rw [←hn]
  simpa using this
theorem aQ0 (w:World) (a:Addr) (u:Value):Out (fun j=>j=a.block) w (w.setCell a u):=⟨rfl,rfl,rfl,by simp,fun j _ hj=>Below.heap_setCell _ _ _ _ (fun e=>hj e)⟩
theorem aU1 (w:World):∀n,(w.drewN n).heap=w.heap:=fun n=>by
 have:∀n (w':World),(w'.drewN n).heap=w'.heap:=fun n=>by
  induction n with
  | zero=>intro w';rfl
  | succ n ih=>intro w';exact ih _
 exact this n w
theorem tH0 {w:World} {b:Nat} {o:Obj} (n:Nat) (h:w.heap[b]? = some o):(w.drewN n).heap[b]? = some o:=by rw [aU1];exact h
theorem aC0 {w w':World} {b B:Nat} {o:Obj} (h:w.heap[b]? = some o) (hb:Below B w w') (hB:w.heap.size≤B):w'.heap[b]? = some o:=(hb.block b (Nat.lt_of_lt_of_le (lt_of_block h) hB)).trans h
theorem aE0 {S:Nat→Prop} {w w':World} {b:Nat} {o:Obj} (h:w.heap[b]? = some o) (hb:Out S w w') (hS:¬S b):w'.heap[b]? = some o:=(hb.block b (lt_of_block h) hS).trans h
theorem bel1 (w:World) (o:Obj):Below w.heap.size w (w.alloc o):=(Below.refl _ _).alloc lR7 o
theorem bel2 (w:World) (o o':Obj):Below w.heap.size w ((w.alloc o).alloc o'):=((Below.refl _ _).alloc lR7 o).alloc (by simp) o'
theorem aD0 {w w1 w2:World} (h:Below w.heap.size w w1) (h1:Below w1.heap.size w1 w2):Below w.heap.size w w2:=h.trans (h1.mono h.size)
theorem eV0 (w:World) (o o':Obj):((w.alloc o).alloc o').heap[w.heap.size]? = some o:=(Below.heap_alloc (w.alloc o) o' w.heap.size (by simp)).trans (heap_alloc_new w o)
theorem dX0 (w:World) (o o':Obj):((w.alloc o).alloc o').heap[w.heap.size+1]? = some o':=by
 have:=heap_alloc_new (w.alloc o) o'
 rwa [show (w.alloc o).heap.size=w.heap.size+1 by simp] at this
theorem iR0 (w:World):w.drew.heap=w.heap:=rfl
theorem aU0 {S:Nat→Prop} {w w':World} (h:Out S w w'):Out S w w'.drew:=⟨h.os,h.tape,h.output,h.size,h.block⟩
theorem cP0 {S:Nat→Prop} {w w':World} (h:Out S w w') (o:Obj):Out S w (w'.alloc o):=h.trans (Out.of_below (bel1 w' o) lR7) (Went.refl _ _)
theorem bE0 {S:Nat→Prop} {w w1 w2:World} (h:Out S w w1) (h1:Out S w1 w2):Out S w w2:=h.trans h1 (Went.refl _ _)
theorem hH0 {S:Nat→Prop} {w w':World} {p:Addr} {u:Value} (h:Out S w w') (hp:w.heap.size≤p.block):Out S w (w'.setCell p u):=h.trans (aQ0 w' p u) (fun k hk=>Or.inr (by rw [show k=p.block from hk];exact hp))
theorem cK0 {S:Nat→Prop} {w w':World} {p:Addr} {u:Value} (h:Out S w w') (hp:S p.block):Out S w (w'.setCell p u):=h.trans (aQ0 w' p u) (fun k hk=>Or.inl (by rw [show k=p.block from hk];exact hp))
end Go.Proofs.YtjdkagafdnchhaaGreatDoor
namespace Go.Proofs.YtjdkagafdnchhaaGreatDoor
open Go.RowKit
structure ArOr (w:World) (ab:Nat) (most:Int) (vs vf:Value) (rs:List Sot) (fr:List Nat):Prop where
 box:w.heap[ab]? = some (.cells #[.int .i64 most,vs,vf] 221 (0,0))
 slots:w.ownsRow 0 237 7 vs rs.length (soV rs)
 free:w.ownsRow 0 3 1 vf fr.length (frV fr)
def aoB (ab:Nat) (vs vf:Value) (k:Nat):Prop:=k=ab∨vs.ownBlock=some k∨vf.ownBlock=some k
theorem ArOr.below {w w':World} {ab:Nat} {most:Int} {vs vf:Value} {rs:List Sot} {fr:List Nat} {B:Nat} (h:ArOr w ab most vs vf rs fr) (hb:Below B w w') (hB:w.heap.size≤B):ArOr w' ab most vs vf rs fr:=
 ⟨aC0 h.box hb hB,aO0 h.slots hb hB,aO0 h.free hb hB⟩
theorem ArOr.out {S:Nat→Prop} {w w':World} {ab:Nat} {most:Int} {vs vf:Value} {rs:List Sot} {fr:List Nat} (h:ArOr w ab most vs vf rs fr) (hb:Out S w w') (hS:∀k,aoB ab vs vf k→¬S k):ArOr w' ab most vs vf rs fr:=
 ⟨aE0 h.box hb (hS ab (Or.inl rfl)),aI0 h.slots hb (fun k hk=>hS k (Or.inr (Or.inl hk))),aI0 h.free hb (fun k hk=>hS k (Or.inr (Or.inr hk)))⟩
theorem ArOr.lt {w:World} {ab:Nat} {most:Int} {vs vf:Value} {rs:List Sot} {fr:List Nat} (h:ArOr w ab most vs vf rs fr) {k:Nat} (hk:aoB ab vs vf k):k<w.heap.size:=by
 rcases hk with rfl | hk | hk
 ·exact lt_of_block h.box
 ·exact (h.slots.lt k hk).2
 ·exact (h.free.lt k hk).2
theorem ArOr.slot {w:World} {ab:Nat} {most:Int} {vs vf:Value} {rs:List Sot} {fr:List Nat} (h:ArOr w ab most vs vf rs fr) {k:Nat} {o:Ord} {a:Int} {f:Bool} (hk:k<rs.length) (ho:thO (soAt rs k).1=o) (ha:(soAt rs k).2=a) (hf:(soAt rs k).1.isSome=f):
  ∃g cap,vs=.slice (some ⟨g,0,none⟩) rs.length cap∧w.cell? ⟨g,k*7,none⟩=some (.int .i64 o.id)∧w.cell? ⟨g,k*7+1,none⟩=some (.int .i64 o.side)∧w.cell? ⟨g,k*7+2,none⟩=some (.int .i64 o.kind)∧w.cell? ⟨g,k*7+3,none⟩=some (.int .i64 o.price)∧w.cell? ⟨g,k*7+4,none⟩=some (.int .i64 o.qty)∧w.cell? ⟨g,k*7+5,none⟩=some (.int .i64 a)∧w.cell? ⟨g,k*7+6,none⟩=some (.bool f):=by
 subst ho ha hf;obtain ⟨g,cap,rfl,_,_⟩:=h.slots.form (by omega);obtain ⟨h1,h2,h3,h4,h5,h6,h7⟩:=cV1 hk;exact ⟨g,cap,rfl,(h.slots.cellAt _ (by omega)).trans h1,(h.slots.cellAt _ (by omega)).trans h2,(h.slots.cellAt _ (by omega)).trans h3,(h.slots.cellAt _ (by omega)).trans h4,(h.slots.cellAt _ (by omega)).trans h5,(h.slots.cellAt _ (by omega)).trans h6,(h.slots.cellAt _ (by omega)).trans h7⟩
theorem ArOr.has {w:World} {ab:Nat} {most:Int} {vs vf:Value} {rs:List Sot} {fr:List Nat} (h:ArOr w ab most vs vf rs fr) {k:Nat} {o:Ord} {a:Int} (hk:soAt rs k=(some o,a)):
  k<rs.length∧∃g cap,vs=.slice (some ⟨g,0,none⟩) rs.length cap∧w.cell? ⟨g,k*7,none⟩=some (.int .i64 o.id)∧w.cell? ⟨g,k*7+1,none⟩=some (.int .i64 o.side)∧w.cell? ⟨g,k*7+2,none⟩=some (.int .i64 o.kind)∧w.cell? ⟨g,k*7+3,none⟩=some (.int .i64 o.price)∧w.cell? ⟨g,k*7+4,none⟩=some (.int .i64 o.qty)∧w.cell? ⟨g,k*7+5,none⟩=some (.int .i64 a)∧w.cell? ⟨g,k*7+6,none⟩=some (.bool true):=
 ⟨iP0 hk,h.slot (iP0 hk) (by rw [hk];rfl) (by rw [hk]) (by rw [hk];rfl)⟩
set_option maxHeartbeats 400000 in
theorem tC1 (w:World):Calls Tryz.prog 86 #[.int .i64 100] w
  fun e w'=>e=.returned (.tuple #[.pointer (some ⟨w.heap.size,0,none⟩),.nilIface])∧w'=w.alloc (.cells #[.int .i64 100,.slice none 0 0,.slice none 0 0] 221):=by
 go_enter Tryz.func86,Tryz.ntmps86;go_wp2;go_ret2;exact ⟨rfl,rfl⟩
theorem iQ1 (w:World) (most:Int):ArOr (w.alloc (.cells #[.int .i64 most,.slice none 0 0,.slice none 0 0] 221)) w.heap.size most (.slice none 0 0) (.slice none 0 0) [] []:=
 ⟨heap_alloc_new w _,World.ownsRow_nil _ _ _ _,World.ownsRow_nil _ _ _ _⟩
set_option maxHeartbeats 400000 in
theorem cZ1 (ab:Nat) (most:Int) (vs vf:Value) (rs:List Sot) (fr:List Nat) (c:Int) (w:World) (h:ArOr w ab most vs vf rs fr) (hl:rs.length≤1000000) (hc:(cntO rs:Int)=c) (hs:cntO rs+fr.length=rs.length):
  Calls Tryz.prog 139 #[.pointer (some ⟨ab,0,none⟩)] w fun e w'=>e=.returned (.int .i64 c)∧∃n,w'=w.drewN n:=by
 have c1:=aA0 (j:=1) h.box rfl;have c2:=aA0 (j:=2) h.box rfl;obtain ⟨ao,cap,rfl,_,_⟩:=bB0 h.slots;obtain ⟨ao',cap',rfl,_,_⟩:=bB0 h.free;have HC:Hid (c=(rs.length:Int) - fr.length):=by show _=_;omega
 have hf:fr.length≤rs.length:=by omega
 clear h hc hs;go_enter Tryz.func139,Tryz.ntmps139;go_wp2_with fail;go_quiet (fail);go_wp2;go_ret;exact ⟨by rw [HC.out];first | rfl | (rw [IntWalk.i64_in _ (by omega)]),⟨_,rfl⟩⟩
set_option maxRecDepth 4000 in
set_option maxHeartbeats 1000000 in
theorem mM1 (ab:Nat) (most:Int) (vs vf:Value) (rs:List Sot) (fr:List Nat) (k:Nat) (o:Ord) (a:Int) (w:World) (h:ArOr w ab most vs vf rs fr) (hk:soAt rs k=(some o,a)):
  Calls Tryz.prog 192 #[.pointer (some ⟨ab,0,none⟩),.agg #[.int .i64 k,.int .i64 a]] w
   fun e w'=>Below w.heap.size w w'∧∃(g cap:Nat),vs=.slice (some ⟨g,0,none⟩) rs.length cap∧e=.returned (.pointer (some ⟨g,k*7,none⟩)):=by
 have c1:=aA0 (j:=1) h.box rfl;have lb:ab<w.heap.size:=lt_of_block h.box;obtain ⟨hk1,g,cap,rfl,_,_,_,_,_,d1,d2⟩:=h.has hk;have lg:g<w.heap.size:=World.block_lt_of_cell? w _ d1;clear h hk;have hd:decide ((k:Int)<0)=false:=decide_eq_false (by omega);have q1:(0:Int)≤(k:Int):=by omega
 have q2:(k:Int)<rs.length:=by omega
 have q3:decide ((rs.length:Int)≤(k:Int))=false:=decide_eq_false (by omega);go_enter Tryz.func192,Tryz.ntmps192;go_wp2_with fail;go_quiet (fail);go_wp2_with fail;go_quiet (fail);go_wp2_with fail;go_quiet (fail);go_wp2;go_ret;exact ⟨below_drewN (below_drewN (below_drewN (bel1 _ _) _) _) _,g,cap,rfl,rfl⟩
set_option maxRecDepth 4000 in
set_option maxHeartbeats 1000000 in
theorem nT1 (ab:Nat) (most:Int) (vs vf:Value) (rs:List Sot) (fr:List Nat) (k:Nat) (o:Ord) (a:Int) (w:World) (h:ArOr w ab most vs vf rs fr) (hk:soAt rs k=(some o,a)):
  Calls Tryz.prog 152 #[.pointer (some ⟨ab,0,none⟩),.agg #[.int .i64 k,.int .i64 a]] w
   fun e w'=>Below w.heap.size w w'∧e=.returned (.tuple #[o.agg,.nilIface]):=by
 have HA:Hid (ArOr w ab most vs vf rs fr):=h;have HK:Hid (soAt rs k=(some o,a)):=hk;clear h hk;go_enter Tryz.func152,Tryz.ntmps152;go_wp2_with fail;refine (mM1 ab most vs vf rs fr k o a _ (HA.out.below (bel2 _ _ _) lR7) HK.out).mono ?_;rintro e w1 ⟨hb,g,cap,rfl,rfl⟩;have hx:=(hb.block (w.heap.size+1) (by simp)).trans (dX0 w _ _);have x0:=aA0 (j:=0) hx rfl;have x1:=aA0 (j:=1) hx rfl;have x2:=aA0 (j:=2) hx rfl;have x3:=aA0 (j:=3) hx rfl;have x4:=aA0 (j:=4) hx rfl;have y0:=aB0 (j:=0) hx;have y1:=aB0 (j:=1) hx;have y2:=aB0 (j:=2) hx;have y3:=aB0 (j:=3) hx;have y4:=aB0 (j:=4) hx;have HB:Hid (Below w.heap.size w w1):=aD0 (bel2 w _ _) hb;obtain ⟨hk1,g',cap',hv,d0,d1,d2,d3,d4,_,_⟩:=(HA.out.below HB.out lR7).has HK.out;simp only [Value.slice.injEq,Option.some.injEq,Addr.mk.injEq,and_true,true_and] at hv;obtain ⟨rfl,rfl⟩:=hv;have hne:g≠w.heap.size+1:=fun e=>aG0 (HA.out.below HB.out lR7).slots hx (by decide) (by rw [e];rfl)
 clear hb hx;go_wp2;refine bodyPost_ret (by simp [results,Tryz.results152,go_sem,x0,x1,x2,x3,x4];try rfl) rfl ?_;refine ⟨?_,rfl⟩;have s:Below w.heap.size w1 w1:=Below.refl _ _;exact HB.out.trans (((((s.setCell (p:=⟨w.heap.size+1,0,none⟩) (by simp) _).setCell (p:=⟨w.heap.size+1,1,none⟩) (by simp) _).setCell (p:=⟨w.heap.size+1,2,none⟩) (by simp) _).setCell (p:=⟨w.heap.size+1,3,none⟩) (by simp) _).setCell (p:=⟨w.heap.size+1,4,none⟩) (by simp) _)
theorem fU0 {w:World} {ab g n cap:Nat} {most:Int} {vf:Value} {xs:List Value} {fr:List Nat} (hb:w.heap[ab]? = some (.cells #[.int .i64 most,.slice (some ⟨g,0,none⟩) n cap,vf] 221 (0,0)))
  (hs:w.ownsRow 0 237 7 (.slice (some ⟨g,0,none⟩) n cap) n xs) (hf:w.ownsRow 0 3 1 vf fr.length (frV fr)) (j:Nat) (u:Value):
  (w.setCell ⟨g,j,none⟩ u).heap[ab]? = some (.cells #[.int .i64 most,.slice (some ⟨g,0,none⟩) n cap,vf] 221 (0,0))
  ∧(w.setCell ⟨g,j,none⟩ u).ownsRow 0 237 7 (.slice (some ⟨g,0,none⟩) n cap) n (xs.set j u)∧(w.setCell ⟨g,j,none⟩ u).ownsRow 0 3 1 vf fr.length (frV fr)∧Out (fun k=>k=g) w (w.setCell ⟨g,j,none⟩ u):=by
 have hne:ab≠g:=fun e=>aG0 hs hb (by decide) (by rw [e];rfl)
 obtain ⟨h1,h2⟩:=hs.stored j u;exact ⟨(Below.heap_setCell _ _ _ _ hne).trans hb,h1,ownsRow_setCell_other (a:=⟨g,j,none⟩) hf (bG0 hs hf (by decide) rfl) u,Out.of_grown h2 (fun k hk=>by injection hk with hk;exact hk.symm)⟩
theorem ArOr.raw {w:World} {ab g n cap:Nat} {most:Int} {vf:Value} {xs:List Value} {fr:List Nat} (hb:w.heap[ab]? = some (.cells #[.int .i64 most,.slice (some ⟨g,0,none⟩) n cap,vf] 221 (0,0)))
  (hs:w.ownsRow 0 237 7 (.slice (some ⟨g,0,none⟩) n cap) n xs) (hf:w.ownsRow 0 3 1 vf fr.length (frV fr)) (j:Nat) (u0 u1 u2 u3 u4:Value):
  let w5:=((((w.setCell ⟨g,j,none⟩ u0).setCell ⟨g,j+1,none⟩ u1).setCell ⟨g,j+2,none⟩ u2).setCell ⟨g,j+3,none⟩ u3).setCell ⟨g,j+4,none⟩ u4
  w5.heap[ab]? = some (.cells #[.int .i64 most,.slice (some ⟨g,0,none⟩) n cap,vf] 221 (0,0))
  ∧w5.ownsRow 0 237 7 (.slice (some ⟨g,0,none⟩) n cap) n (((((xs.set j u0).set (j+1) u1).set (j+2) u2).set (j+3) u3).set (j+4) u4)∧w5.ownsRow 0 3 1 vf fr.length (frV fr)∧Out (fun k=>k=g) w w5:=by
 obtain ⟨a1,a2,a3,a4⟩:=fU0 hb hs hf j u0;obtain ⟨b1,b2,b3,b4⟩:=fU0 a1 a2 a3 (j+1) u1;obtain ⟨c1,c2,c3,c4⟩:=fU0 b1 b2 b3 (j+2) u2;obtain ⟨d1,d2,d3,d4⟩:=fU0 c1 c2 c3 (j+3) u3;obtain ⟨e1,e2,e3,e4⟩:=fU0 d1 d2 d3 (j+4) u4;exact ⟨e1,e2,e3,(((a4.trans b4 (Went.refl _ _)).trans c4 (Went.refl _ _)).trans d4 (Went.refl _ _)).trans e4 (Went.refl _ _)⟩
theorem dA1 {l:List Value} {k j:Nat} {v u0 u1 u2 u3 u4:Value} (h:l[j]? = some v) (hj:k+4<j):(((((l.set k u0).set (k+1) u1).set (k+2) u2).set (k+3) u3).set (k+4) u4)[j]? = some v:=by
 rw [List.getElem?_set_ne (by omega),List.getElem?_set_ne (by omega),List.getElem?_set_ne (by omega),List.getElem?_set_ne (by omega),List.getElem?_set_ne (by omega)];exact h
theorem dB1 {rs:List Sot} {k:Nat} {o:Ord} (hk:k<rs.length):
  ((((((soV rs).set (k*7) (.int .i64 o.id)).set (k*7+1) (.int .i64 o.side)).set (k*7+2) (.int .i64 o.kind)).set (k*7+3) (.int .i64 o.price)).set (k*7+4) (.int .i64 o.qty)).set (k*7+6) (.bool true)=soV (rs.set k (some o,(soAt rs k).2)):=by
 have e:((((((((soV rs).set (k*7) (.int .i64 o.id)).set (k*7+1) (.int .i64 o.side)).set (k*7+2) (.int .i64 o.kind)).set (k*7+3) (.int .i64 o.price)).set (k*7+4) (.int .i64 o.qty)).set (k*7+5) (.int .i64 (soAt rs k).2)).set (k*7+6) (.bool true))=soV (rs.set k (some o,(soAt rs k).2)):=cW1 (some o,(soAt rs k).2) hk;obtain ⟨_,_,_,_,_,a5,_⟩:=cV1 hk;rw [yN0 (k:=k*7+5) (dA1 a5 (by omega))] at e;exact e
theorem iR1 {rs:List Sot} {k:Nat} {o:Ord} (hk:k<rs.length) (hf:(soAt rs k).1.isSome=true):
  (((((soV rs).set (k*7) (.int .i64 o.id)).set (k*7+1) (.int .i64 o.side)).set (k*7+2) (.int .i64 o.kind)).set (k*7+3) (.int .i64 o.price)).set (k*7+4) (.int .i64 o.qty)=soV (rs.set k (some o,(soAt rs k).2)):=by
 have e:=dB1 (o:=o) hk;obtain ⟨_,_,_,_,_,_,a6⟩:=cV1 hk;rw [hf] at a6;rw [yN0 (k:=k*7+6) (dA1 a6 (by omega))] at e;exact e
theorem ArOr.setThing {w:World} {ab g n cap k:Nat} {most:Int} {x:Ord} {vf:Value} {rs:List Sot} {fr:List Nat} (h:ArOr w ab most (.slice (some ⟨g,0,none⟩) n cap) vf rs fr) (hk:k<rs.length) (hf:(soAt rs k).1.isSome=true):
  ArOr (((((w.setCell ⟨g,k*7,none⟩ (.int .i64 x.id)).setCell ⟨g,k*7+1,none⟩ (.int .i64 x.side)).setCell ⟨g,k*7+2,none⟩ (.int .i64 x.kind)).setCell ⟨g,k*7+3,none⟩ (.int .i64 x.price)).setCell ⟨g,k*7+4,none⟩ (.int .i64 x.qty)) ab most (.slice (some ⟨g,0,none⟩) n cap) vf (rs.set k (some x,(soAt rs k).2)) fr
  ∧Out (fun j=>j=g) w (((((w.setCell ⟨g,k*7,none⟩ (.int .i64 x.id)).setCell ⟨g,k*7+1,none⟩ (.int .i64 x.side)).setCell ⟨g,k*7+2,none⟩ (.int .i64 x.kind)).setCell ⟨g,k*7+3,none⟩ (.int .i64 x.price)).setCell ⟨g,k*7+4,none⟩ (.int .i64 x.qty)):=by
 obtain rfl:=nA0 h.slots;obtain ⟨h1,h2,h3,h4⟩:=ArOr.raw h.box h.slots h.free (k*7) (.int .i64 x.id) (.int .i64 x.side) (.int .i64 x.kind) (.int .i64 x.price) (.int .i64 x.qty);refine ⟨⟨h1,?_,h3⟩,h4⟩;rw [List.length_set,←iR1 hk hf];exact h2
theorem ArOr.pop {w:World} {ab g n cap k:Nat} {most:Int} {vs:Value} {rs:List Sot} {fs:List Nat} (h:ArOr w ab most vs (.slice (some ⟨g,0,none⟩) n cap) rs (fs++[k])):
  ArOr (w.setCell ⟨ab,2,none⟩ (.slice (some ⟨g,0,none⟩) fs.length cap)) ab most vs (.slice (some ⟨g,0,none⟩) fs.length cap) rs fs∧Out (fun j=>j=ab) w (w.setCell ⟨ab,2,none⟩ (.slice (some ⟨g,0,none⟩) fs.length cap)):=by
 have hf:=h.free;obtain rfl:=nA0 h.free;rw [List.length_append,List.length_singleton,yO0] at hf;have h1:=cY1 hf (aQ1 fs);refine ⟨⟨by simpa using aK0 (j:=2) (.slice (some ⟨g,0,none⟩) fs.length cap) h.box,ownsRow_setCell_other h.slots (aG0 h.slots h.box (by decide)) _,ownsRow_setCell_other h1 (aG0 h1 h.box (by decide)) _⟩,?_⟩;exact aQ0 _ ⟨ab,2,none⟩ _
theorem Tryz.infoSlotO:(Tryz.prog.info? 237).map (fun i=>(i.zero,i.size,i.bytes))=some (some (.agg #[.int .i64 0,.int .i64 0,.int .i64 0,.int .i64 0,.int .i64 0,.int .i64 0,.bool false]),7,56):=by kernel_rfl
theorem Tryz.infoNumO:(Tryz.prog.info? 3).map (fun i=>(i.zero,i.size,i.bytes))=some (some (.int .i64 0),1,8):=by kernel_rfl
set_option maxRecDepth 4000 in
set_option maxHeartbeats 1000000 in
theorem wC0 (ab:Nat) (most:Int) (vs vf:Value) (rs:List Sot) (fs:List Nat) (k:Nat) (w:World) (h:ArOr w ab most vs vf rs (fs++[k])) (hl:fs.length≤1000000):
  Calls Tryz.prog 188 #[.pointer (some ⟨ab,0,none⟩)] w
   fun e w'=>e=.returned (.int .i64 k)∧∃vf',ArOr w' ab most vs vf' rs fs∧Out (aoB ab vs vf) w w'∧vf'.ownBlock=vf.ownBlock:=by
 obtain ⟨g,cap,rfl,_,_⟩:=h.free.form (by simp);have HA:Hid (ArOr w ab most vs (.slice (some ⟨g,0,none⟩) (fs++[k]).length cap) rs (fs++[k])):=h;have c2:=aA0 (j:=2) h.box rfl;have f2:=aB0 (j:=2) h.box;have d0:=(h.free.cellAt fs.length (by simp)).trans (nP1 fs k)
 have hcap:fs.length+1≤cap:=by
  obtain ⟨_,_,e,h1,_⟩:=bB0 h.free;simp at e h1;omega
 clear h;rw [List.length_append,List.length_singleton] at c2;have q1:(0:Int)≤(fs.length:Int):=by omega
 have q2:(fs.length:Int)<(fs.length:Int)+1:=by omega
 go_enter Tryz.func188,Tryz.ntmps188;go_wp2;go_ret;obtain ⟨r1,r2⟩:=HA.out.pop;exact ⟨rfl,_,r1,r2.mono (fun j hj=>Or.inl hj),rfl⟩
theorem ArOr.push {w w1:World} {ab g cap H:Nat} {most:Int} {vs vf:Value} {rs:List Sot} {fr:List Nat} {o:Obj} {p:Sot} (h:ArOr w ab most vs vf rs fr)
  (hown:w1.ownsRow 0 237 7 (.slice (some ⟨g,0,none⟩) (rs.length+1) cap) (rs.length+1) (soV (rs++[p]))) (hg:(w.alloc o).grownBy w1 vs.ownBlock) (hat:vs.ownBlock=some g∨g=H) (hH:w.heap.size≤H):
  ArOr (w1.setCell ⟨ab,1,none⟩ (.slice (some ⟨g,0,none⟩) (rs.length+1) cap)) ab most (.slice (some ⟨g,0,none⟩) (rs.length+1) cap) vf (rs++[p]) fr
  ∧Out (aoB ab vs vf) w (w1.setCell ⟨ab,1,none⟩ (.slice (some ⟨g,0,none⟩) (rs.length+1) cap))∧Went w (aoB ab vs vf) (aoB ab (.slice (some ⟨g,0,none⟩) (rs.length+1) cap) vf):=by
 have o1:Out (fun k=>vs.ownBlock=some k) w w1:=(Out.of_below (bel1 w o) lR7).trans (Out.of_grown hg (fun k hk=>hk)) (Went.refl _ _);have b1:w1.heap[ab]? = some (.cells #[.int .i64 most,vs,vf] 221 (0,0)):=aE0 h.box o1 (aG0 h.slots h.box (by decide));have f1:w1.ownsRow 0 3 1 vf fr.length (frV fr):=aI0 h.free o1 (fun k hk=>bG0 h.free h.slots (by decide) hk);have o2:=aQ0 w1 ⟨ab,1,none⟩ (.slice (some ⟨g,0,none⟩) (rs.length+1) cap);refine ⟨⟨by simpa using aK0 (j:=1) (.slice (some ⟨g,0,none⟩) (rs.length+1) cap) b1,?_,ownsRow_setCell_other f1 (aG0 f1 b1 (by decide)) _⟩,?_,?_⟩
 ·rw [List.length_append,List.length_singleton];exact ownsRow_setCell_other hown (aG0 hown b1 (by decide)) _
 ·exact (o1.mono (S':=aoB ab vs vf) (fun k hk=>Or.inr (Or.inl hk))).trans (o2.mono (S':=aoB ab vs vf) (fun k hk=>Or.inl hk)) (Went.refl _ _)
 ·rintro k (rfl | hk | hk)
  ·exact Or.inl (Or.inl rfl)
  ·injection hk with hk
   change g=k at hk
   subst hk;rcases hat with hat | hat
   ·exact Or.inl (Or.inr (Or.inl hat))
   ·exact Or.inr (by omega)
  ·exact Or.inl (Or.inr (Or.inr hk))
set_option maxRecDepth 4000 in
set_option maxHeartbeats 1000000 in
theorem aV1 (ab:Nat) (most:Int) (vs vf:Value) (rs:List Sot) (w:World) (h:ArOr w ab most vs vf rs []) (hl:rs.length≤1000000):
  Calls Tryz.prog 188 #[.pointer (some ⟨ab,0,none⟩)] w
   fun e w'=>e=.returned (.int .i64 rs.length)∧∃vs',ArOr w' ab most vs' vf (rs++[(none,0)]) []∧Out (aoB ab vs vf) w w'∧Went w (aoB ab vs vf) (aoB ab vs' vf):=by
 obtain ⟨i0,hi,hz0,hz1,hz2⟩:=info_parts Tryz.infoSlotO;have HA:Hid (ArOr w ab most vs vf rs []):=h;have c1:=aA0 (j:=1) h.box rfl;have c2:=aA0 (j:=2) h.box rfl;have lb:ab<w.heap.size:=lt_of_block h.box;have HO:Hid (vs.ownBlock≠some ab):=aG0 h.slots h.box (by decide);obtain ⟨ao,cap,rfl,_,_⟩:=bB0 h.free;simp only [List.length_nil] at c2 HA;obtain ⟨ao',cap',rfl,_,_⟩:=bB0 h.slots;clear h;go_enter Tryz.func188,Tryz.ntmps188;go_wp2_with (at_builtin;go_loud (refine wpList_append_lies _ rfl _ _ 219 rfl 0 237 i0 (.agg #[.int .i64 0,.int .i64 0,.int .i64 0,.int .i64 0,.int .i64 0,.int .i64 0,.bool false]) 7 56 Tryz.underlying219 hi hz0 hz1 hz2 rfl (by decide) (.slice ao' rs.length cap') rs.length (soV rs) rfl (HA.out.slots.alloc _) ⟨w.heap.size,0,none⟩ 1 1 [.int .i64 0,.int .i64 0,.int .i64 0,.int .i64 0,.int .i64 0,.int .i64 0,.bool false] rfl rfl (World.news_of_block (cs:=#[.int .i64 0,.int .i64 0,.int .i64 0,.int .i64 0,.int .i64 0,.int .i64 0,.bool false]) (t:=237) (fr:=(0,0)) (heap_alloc_new w _)) (by simp [Value.oneCell']) (by decide) (by unfold maxLen;omega) (by omega) (Nat.zero_le _) (w.heap.size+1) (by simp) ?_);intro g cg w1 hown hgrow hat hlt;have hbx:=(hgrow.block ab (by simp;omega) (Ne.symm HO.out)).trans ((Below.heap_alloc _ _ _ lb).trans HA.out.box);have x1:=aA0 (j:=1) hbx rfl;have x2:=aB0 (j:=1) hbx);go_ret;obtain ⟨r1,r2,r3⟩:=HA.out.push (p:=(none,0)) (by rw [aR1];exact hown) hgrow hat (by omega);exact ⟨by first | rfl | (apply congrArg;go_num),_,r1,r2,r3⟩
theorem qT1 (ab:Nat) (most:Int) (vs vf:Value) (rs:List Sot) (fr:List Nat) (k:Nat) (rs1:List Sot) (fr1:List Nat) (w:World) (h:ArOr w ab most vs vf rs fr) (hR:rN0 rs fr k rs1 fr1) (hl:rs.length≤1000000) (hf:fr.length≤1000000):
  Calls Tryz.prog 188 #[.pointer (some ⟨ab,0,none⟩)] w
   fun e w'=>e=.returned (.int .i64 k)∧∃vs' vf',ArOr w' ab most vs' vf' rs1 fr1∧Out (aoB ab vs vf) w w'∧Went w (aoB ab vs vf) (aoB ab vs' vf'):=by
 rcases hR with ⟨rfl,rfl⟩ | ⟨rfl,rfl,rfl,rfl⟩
 ·refine (wC0 ab most vs vf _ fr1 k w h (by simp at hf;omega)).mono ?_;rintro e w1 ⟨rfl,vf',h1,h2,h3⟩;refine ⟨rfl,vs,vf',h1,h2,?_⟩;rintro j (hj | hj | hj)
  ·exact Or.inl (Or.inl hj)
  ·exact Or.inl (Or.inr (Or.inl hj))
  ·exact Or.inl (Or.inr (Or.inr (h3 ▸ hj)))
 ·refine (aV1 ab most vs vf _ w h hl).mono ?_;rintro e w1 ⟨rfl,vs',h1,h2,h3⟩;exact ⟨rfl,vs',vf,h1,h2,h3⟩
set_option maxRecDepth 4000 in
set_option maxHeartbeats 1000000 in
theorem aW1 (ab:Nat) (most:Int) (vs vf:Value) (rs:List Sot) (fr:List Nat) (x:Ord) (w:World) (h:ArOr w ab most vs vf rs fr) (hl:rs.length≤1000000) (hs:cntO rs+fr.length=rs.length) (hm:(cntO rs:Int)=most):
  Calls Tryz.prog 149 #[.pointer (some ⟨ab,0,none⟩),x.agg] w
   fun e w'=>e=.returned (.tuple #[.agg #[.int .i64 0,.int .i64 0],.iface 32 (.int .i64 12)])∧Below w.heap.size w w':=by
 have HA:Hid (ArOr w ab most vs vf rs fr):=h;have c0:=aA0 (j:=0) h.box rfl;have lb:ab<w.heap.size:=lt_of_block h.box;have HM:Hid ((cntO rs:Int)=most):=hm;clear h hm;unfold Ord.agg;go_enter Tryz.func149,Tryz.ntmps149;go_wp2_with fail;go_quiet (first | (go_at_call 139;refine Calls.quiet_of (cZ1 ab most vs vf rs fr most _ (HA.out.below (below_drewN (bel2 _ _ _) _) lR7) hl HM.out hs)));go_wp2;refine bodyPost_ret (by simp [results,Tryz.results149,go_sem];try rfl) rfl ?_;exact ⟨rfl,((below_drewN (bel2 _ _ _) _).setCell (by simp) _).setCell (by simp) _⟩
theorem ArOr.putThing {w:World} {ab g n cap k:Nat} {most:Int} {x:Ord} {vf:Value} {rs:List Sot} {fr:List Nat} (h:ArOr w ab most (.slice (some ⟨g,0,none⟩) n cap) vf rs fr) (hk:k<rs.length):
  ArOr ((((((w.setCell ⟨g,k*7,none⟩ (.int .i64 x.id)).setCell ⟨g,k*7+1,none⟩ (.int .i64 x.side)).setCell ⟨g,k*7+2,none⟩ (.int .i64 x.kind)).setCell ⟨g,k*7+3,none⟩ (.int .i64 x.price)).setCell ⟨g,k*7+4,none⟩ (.int .i64 x.qty)).setCell ⟨g,k*7+6,none⟩ (.bool true)) ab most (.slice (some ⟨g,0,none⟩) n cap) vf (rs.set k (some x,(soAt rs k).2)) fr
  ∧Out (fun j=>j=g) w ((((((w.setCell ⟨g,k*7,none⟩ (.int .i64 x.id)).setCell ⟨g,k*7+1,none⟩ (.int .i64 x.side)).setCell ⟨g,k*7+2,none⟩ (.int .i64 x.kind)).setCell ⟨g,k*7+3,none⟩ (.int .i64 x.price)).setCell ⟨g,k*7+4,none⟩ (.int .i64 x.qty)).setCell ⟨g,k*7+6,none⟩ (.bool true)):=by
 obtain rfl:=nA0 h.slots;obtain ⟨h1,h2,h3,h4⟩:=ArOr.raw h.box h.slots h.free (k*7) (.int .i64 x.id) (.int .i64 x.side) (.int .i64 x.kind) (.int .i64 x.price) (.int .i64 x.qty);obtain ⟨g1,g2,g3,g4⟩:=fU0 h1 h2 h3 (k*7+6) (.bool true);refine ⟨⟨g1,?_,g3⟩,h4.trans g4 (Went.refl _ _)⟩;rw [List.length_set,←dB1 hk];exact g2
set_option maxRecDepth 4000 in
set_option maxHeartbeats 2000000 in
theorem tD1 (ab:Nat) (most:Int) (vs vf:Value) (rs:List Sot) (fr:List Nat) (x:Ord) (k:Nat) (rs1:List Sot) (fr1:List Nat) (w:World) (h:ArOr w ab most vs vf rs fr) (hl:rs.length≤1000000) (hs:cntO rs+fr.length=rs.length) (hm:¬(cntO rs:Int)=most)
  (hR:rN0 rs fr k rs1 fr1) (hk:k<rs1.length):
  Calls Tryz.prog 149 #[.pointer (some ⟨ab,0,none⟩),x.agg] w
   fun e w'=>e=.returned (.tuple #[.agg #[.int .i64 k,.int .i64 (soAt rs1 k).2],.nilIface])∧∃vs' vf',ArOr w' ab most vs' vf' (rs1.set k (some x,(soAt rs1 k).2)) fr1∧Out (aoB ab vs vf) w w'∧Went w (aoB ab vs vf) (aoB ab vs' vf'):=by
 have HA:Hid (ArOr w ab most vs vf rs fr):=h;have HR:Hid (rN0 rs fr k rs1 fr1):=hR;have c0:=aA0 (j:=0) h.box rfl;have lb:ab<w.heap.size:=lt_of_block h.box;have hmb:((cntO rs:Int) == most)=false:=beq_eq_false_iff_ne.2 hm;clear h hm hR;unfold Ord.agg;go_enter Tryz.func149,Tryz.ntmps149;go_wp2_with fail;go_quiet (first | (go_at_call 139;refine Calls.quiet_of (cZ1 ab most vs vf rs fr (cntO rs) _ (HA.out.below (below_drewN (bel2 _ _ _) _) lR7) hl rfl hs)));go_wp2_with fail;have hbq:=below_drewN (bel2 w (.cells #[.int .i64 x.id,.int .i64 x.side,.int .i64 x.kind,.int .i64 x.price,.int .i64 x.qty] 41) (.cells #[.int .i64 0,.int .i64 0] 169)) nq;have hxq:=tH0 nq (eV0 w (.cells #[.int .i64 x.id,.int .i64 x.side,.int .i64 x.kind,.int .i64 x.price,.int .i64 x.qty] 41) (.cells #[.int .i64 0,.int .i64 0] 169));have hwq:=tH0 nq (dX0 w (.cells #[.int .i64 x.id,.int .i64 x.side,.int .i64 x.kind,.int .i64 x.price,.int .i64 x.qty] 41) (.cells #[.int .i64 0,.int .i64 0] 169));generalize ((w.alloc (.cells #[.int .i64 x.id,.int .i64 x.side,.int .i64 x.kind,.int .i64 x.price,.int .i64 x.qty] 41)).alloc (.cells #[.int .i64 0,.int .i64 0] 169)).drewN nq=wq at hbq hxq hwq ⊢;have HBQ:Hid (Below w.heap.size w wq):=hbq;have HXQ:Hid (wq.heap[w.heap.size]? = some (.cells #[.int .i64 x.id,.int .i64 x.side,.int .i64 x.kind,.int .i64 x.price,.int .i64 x.qty] 41 (0,0))):=hxq;have HWQ:Hid (wq.heap[w.heap.size+1]? = some (.cells #[.int .i64 0,.int .i64 0] 169 (0,0))):=hwq;clear hbq hxq hwq hmb c0;refine (qT1 ab most vs vf rs fr k rs1 fr1 wq (HA.out.below HBQ.out lR7) HR.out hl (by omega)).mono ?_;rintro e w1 ⟨rfl,vs',vf',h1,h2,h3⟩;obtain ⟨g,cap,rfl,d0,d1,d2,d3,d4,d5,d6⟩:=h1.slot hk rfl rfl rfl;have f0:=h1.slots.frozenAt (k*7);have f1:=h1.slots.frozenAt (k*7+1);have f2:=h1.slots.frozenAt (k*7+2);have f3:=h1.slots.frozenAt (k*7+3);have f4:=h1.slots.frozenAt (k*7+4);have f6:=h1.slots.frozenAt (k*7+6);have hxx:=aE0 HXQ.out h2 (fun e=>by have:=HA.out.lt e;omega);have hbx:=aE0 HWQ.out h2 (fun e=>by have:=HA.out.lt e;omega);have hne:w.heap.size+1≠g:=fun e=>aG0 h1.slots hbx (by decide) (by rw [e];rfl)
 have hne2:w.heap.size≠g:=fun e=>aG0 h1.slots hxx (by decide) (by rw [e];rfl)
 have z0:=aA0 (j:=0) hxx rfl;have z1:=aA0 (j:=1) hxx rfl;have z2:=aA0 (j:=2) hxx rfl;have z3:=aA0 (j:=3) hxx rfl;have z4:=aA0 (j:=4) hxx rfl;have c1:=aA0 (j:=1) h1.box rfl;have HBX:Hid (w1.heap[w.heap.size+1]? = some (.cells #[.int .i64 0,.int .i64 0] 169 (0,0))):=hbx;have H1:Hid (ArOr w1 ab most (.slice (some ⟨g,0,none⟩) rs1.length cap) vf' rs1 fr1):=h1;have H2:Hid (Out (aoB ab vs vf) wq w1):=h2;have H3:Hid (Went wq (aoB ab vs vf) (aoB ab (.slice (some ⟨g,0,none⟩) rs1.length cap) vf')):=h3;clear h1 h2 h3 hbx hxx;have q1:(0:Int)≤(k:Int):=by omega
 have q2:(k:Int)<rs1.length:=by omega
 go_upto_region 6 with fail;obtain ⟨r1,r2⟩:=H1.out.putThing (x:=x) hk;have lq:w.heap.size+1<wq.heap.size:=lt_of_block HWQ.out;have hbz:=aE0 HBX.out r2 (fun e=>hne e);generalize ((((((w1.setCell ⟨g,k*7,none⟩ (.int .i64 x.id)).setCell ⟨g,k*7+1,none⟩ (.int .i64 x.side)).setCell ⟨g,k*7+2,none⟩ (.int .i64 x.kind)).setCell ⟨g,k*7+3,none⟩ (.int .i64 x.price)).setCell ⟨g,k*7+4,none⟩ (.int .i64 x.qty)).setCell ⟨g,k*7+6,none⟩ (.bool true))=wz at r1 r2 hbz ⊢;obtain ⟨_,g',cap',hv,_,_,_,_,_,e5,_⟩:=r1.has (dC0 _ hk);simp only [Value.slice.injEq,Option.some.injEq,Addr.mk.injEq,and_true] at hv;obtain ⟨rfl,_,rfl⟩:=hv;have R1:Hid _:=r1;have R2:Hid _:=r2;have x0:=aA0 (j:=0) hbz rfl;have x1:=aA0 (j:=1) hbz rfl;have y0:=aB0 (j:=0) hbz;have y1:=aB0 (j:=1) hbz;clear d0 d1 d2 d3 d4 d5 d6 f0 f1 f2 f3 f4 f6 z0 z1 z2 z3 z4 c1 r1 r2 hbz q1 q2;go_wp2;refine bodyPost_ret (by simp [results,Tryz.results149,go_sem,x0,x1];try rfl) rfl ?_
 have sep:∀j,aoB ab (.slice (some ⟨g,0,none⟩) rs1.length cap) vf' j→¬j=w.heap.size+1:=fun j hj e=>by
  rcases H3.out j hj with h4 | h4
  ·have:=HA.out.lt h4;omega
  ·omega
 have s1:=aQ0 wz ⟨w.heap.size+1,0,none⟩ (.int .i64 k);have s2:=aQ0 (wz.setCell ⟨w.heap.size+1,0,none⟩ (.int .i64 k)) ⟨w.heap.size+1,1,none⟩ (.int .i64 (soAt rs1 k).2);have s3:=s1.trans s2 (Went.refl _ _);refine ⟨rfl,_,vf',R1.out.out s3 sep,?_,fun j hj=>(H3.out j hj).imp id (fun h4=>by omega)⟩;refine ((((Out.of_below HBQ.out lR7).trans H2.out (Went.refl _ _)).trans R2.out ?_).trans s3 ?_)
 ·rintro j rfl;exact (H3.out j (Or.inr (Or.inl rfl))).imp id (fun h4=>by omega)
 ·rintro j rfl;exact Or.inr (by simp)
end Go.Proofs.YtjdkagafdnchhaaGreatDoor
