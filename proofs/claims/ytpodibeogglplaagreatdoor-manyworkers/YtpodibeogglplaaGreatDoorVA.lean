/- ManyWorkers -/
import Derived.Test.YtpodibeogglplaaGreatDoorRows
import Derived.Shelf.Strings.OnBuilder
import Derived.Shelf.Strings.BuilderK
import Derived.Shelf.Strings.Prefix
import Derived.Shelf.Strings.Search3
import Derived.Shelf.Strings.FieldsFuncAny
import Derived.Shelf.Strconv.Itoa4
import Derived.Shelf.Strconv.ParseIntPublic10
import Derived.WalkSpells
import Derived.WalkLawsBesides
import Derived.Handy
import Derived.Deep.AppendLies
import Derived.Deep.RegionHeld3
import Derived.Deep.DrawnRows
import Derived.StillTailTactics
import Derived.RangeFuncNested
import Derived.RangeFuncBound
import Derived.Shelf.RegionOpen
import Derived.OwnWalkIn
import Derived.LoopNIn
import Derived.LoopIn
open Go.RowKit Go.Shelf
open Go.Value renaming int->U, pointer->E, slice->J
open Go.IntKind renaming i64->G
open Go.Obj renaming cells->R
open Go.Ending renaming returned->Y
open Go.Proofs.Tryz
open Bool renaming false->E_, true->G_
open Go renaming World->C_, Value->D_, TypeId->RZ, lt_of_block->SK, heap_alloc_new->RU, Calls->Sj, below_drewN->Xw, bodyPost_ret->UA, ownsRow_setCell_other->WB, DataW->VN, MemPlace->Wn, cell_later->Y_, results_none->ZP
open Go.Lit renaming int->Tv
open Go.RowKit renaming Below->Sd
open Go.RowKit.Below renaming heap_setCell->Xj, refl->RS, drew->Um, alloc->TR, setCell->Zh
open Go.Shelf renaming Ren->WY
open Go.Value renaming ownBlock->Uf, oneCell'->Vk
open Go.Value.slice renaming injEq->TD
open Go.World renaming ownsRow_nil->Uo, news_of_block->UL
open List renaming mem_cons->SB, drop_eq_getElem_cons->Tt, set_cons_succ->UF, nodup_nil->Zw, nodup_append->XA, length_append->Sl, length_singleton->TG, mem_append->Uy, map_cons->RY, nodup_cons->VP, mem_map->Ti, length_cons->SC, map_map->Vs, map_congr_left->SF, map_append->TY, getElem?_set_ne->Yu, length_nil->Ui
open Nat renaming lt_of_lt_of_le->Sn, zero_le->Sv, le_trans->RV
open Option renaming none->B_, some->A_
open Option.some renaming injEq->Sk
open Or renaming inl->RP, inr->RN
set_option linter.all false
set_option maxHeartbeats 4000000
set_option maxRecDepth 100000
namespace Go.Proofs.YtpodibeogglplaaGreatDoor
theorem au {n : Nat} : n ≤ n := Nat.le_refl n
theorem ah {p : Prop} (h : p) : Hid p := h
theorem k7 {p : Prop} (h : p := by kernel_rfl) : p := h
theorem o7 {p : Prop} (h : p := by omega) : p := h
theorem d7 {p : Prop} (h : p := by decide) : p := h
theorem r7 {p : Prop} (h : p := by rfl) : p := h
theorem s7 {p : Prop} (h : p := by simp) : p := h
theorem a7 {p : Prop} (h : p := by assumption) : p := h
theorem g7 {p : Prop} (h : p := by repeat' first|kernel_rfl|(intros; kernel_rfl)|decide|constructor) : p := h
abbrev bW (w v : C_) : Prop := Sd w.heap.size w v
abbrev aF (w : C_) (b j : Nat) (v : D_) : Prop := w.cell? ⟨b, j, B_⟩ = A_ v
abbrev eB (w : C_) (b : Nat) (v : Array D_) (t : RZ) : Prop := w.heap[b]? = A_ (.cells v t (0, 0))
theorem RD {c:Prop} {h:Decidable c} (d:¬c) {α:Type _} {t e:α}:ite c t e=e:=if_neg d
theorem RF {c:Prop} {h:Decidable c} (d:c) {α:Type _} {t e:α}:ite c t e=t:=if_pos d
theorem RG {α:Type _} [BEq α] [LawfulBEq α] {a b:α}:(a==b)=E_↔a≠b:=beq_eq_false_iff_ne
theorem RH {p:Prop} [i:Decidable p]:¬p->decide p=E_:=decide_eq_false
theorem RI {p:Prop} [i:Decidable p]:p->decide p=G_:=decide_eq_true
theorem RJ {α:Sort _} {β:Sort _} {a b:α} (f:α→β) (h:a=b):f a=f b:=congrArg f h
def KX:WY:=⟨fun|169=>18|n=>n,fun|70=>54|9=>9|0=>0|72=>57|37=>55|127=>101|3=>3|5=>5|n=>n,fun|n=>n⟩
def aRd:Go.Proofs.Lays.n169 prog KX:=g7
def aQ8:Builder.Extra prog KX:=g7
def aRk:WY:=⟨fun|173=>93|246=>94|283=>125|284=>126|285=>127|286=>128|129=>175|317=>174|318=>176|319=>177|320=>178|337=>212|338=>213|n=>n,fun|2=>2|3=>3|9=>9|4=>4|171=>175|0=>0|53=>36|37=>55|5=>5|173=>178|212=>240|51=>39|20=>20|213=>241|46=>46|232=>315|233=>316|n=>n,fun|17=>1|18=>5|19=>6|n=>n⟩
def aRj:Go.Proofs.LaysM.n173 prog aRk:=g7
def aRi:WY:=⟨fun|171=>37|243=>71|246=>94|283=>125|284=>126|285=>127|286=>128|129=>175|317=>174|318=>176|319=>177|320=>178|337=>212|338=>213|n=>n,fun|3=>3|9=>9|2=>2|4=>4|171=>175|0=>0|53=>36|37=>55|5=>5|173=>178|212=>240|51=>39|20=>20|213=>241|46=>46|232=>315|233=>316|n=>n,fun|17=>1|18=>5|19=>6|n=>n⟩
def aRh:Go.Proofs.LaysM.n171 prog aRi:=g7
def aRg:WY:=⟨fun|174=>92|247=>123|245=>124|287=>169|279=>170|280=>171|281=>172|282=>173|321=>208|322=>209|316=>210|171=>37|205=>211|243=>71|246=>94|283=>125|284=>126|285=>127|286=>128|129=>175|317=>174|318=>176|319=>177|320=>178|337=>212|338=>213|n=>n,fun|9=>9|3=>3|2=>2|75=>24|85=>138|4=>4|167=>233|5=>5|53=>36|175=>234|46=>46|168=>236|37=>55|0=>0|210=>279|21=>21|127=>101|145=>314|143=>312|171=>175|173=>178|212=>240|51=>39|20=>20|213=>241|232=>315|233=>316|80=>67|n=>n,fun|15=>3|16=>4|17=>1|18=>5|19=>6|n=>n⟩
def KY:Go.Proofs.LaysC.n174 prog aRg:=g7
def aRf:WY:=⟨fun|229=>61|n=>n,fun|9=>9|40=>96|31=>22|152=>135|3=>3|0=>0|4=>4|21=>21|154=>137|n=>n,fun|n=>n⟩
def aRe:Go.Proofs.Lays.n229 prog aRf:=g7
def aA9:WY:=⟨fun|219=>122|217=>165|225=>166|224=>167|267=>168|266=>206|314=>207|n=>n,fun|9=>9|3=>3|4=>4|5=>5|46=>46|146=>275|51=>39|n=>n,fun|1=>0|n=>n⟩
def aRc:Go.Proofs.Lays.n219 prog aA9:=g7
def aBb:WY:=⟨fun|156=>108|165=>145|166=>15|169=>18|240=>59|241=>198|276=>91|277=>234|n=>n,fun|31=>22|9=>9|3=>3|4=>4|0=>0|20=>20|72=>57|76=>63|70=>54|37=>55|75=>24|127=>101|164=>70|5=>5|80=>67|n=>n,fun|n=>n⟩
def aBa:Go.Proofs.Lays.n156 prog aBb:=g7
def aA6:Builder.Extra prog aBb:=g7
def aRb:WY:=⟨fun|102=>57|209=>89|207=>121|n=>n,fun|9=>9|4=>4|3=>3|n=>n,fun|n=>n⟩
def aRa:Go.Proofs.Lays.n102 prog aRb:=g7
def Ga:WY:=⟨fun|166=>15|240=>59|276=>91|n=>n,fun|0=>0|3=>3|4=>4|9=>9|20=>20|37=>55|70=>54|72=>57|75=>24|164=>70|80=>67|5=>5|n=>n,fun|n=>n⟩
def aBd:Go.Proofs.Lays.n166 prog Ga:=g7
def aA7:Builder.Extra prog Ga:=g7
structure Ord where
 id:Int
 side:Int
 kind:Int
 price:Int
 ak:Int
def Ord.none_:Ord:=⟨0,0,0,0,0⟩
def Ord.agg(o:Ord):D_:=.agg #[U G o.id,U G o.side,U G o.kind,U G o.price,U G o.ak]
def oV:List Ord->List D_
 |[]=>[]
 |o::l=>U G o.id::U G o.side::U G o.kind::U G o.price::U G o.ak::oV l
def aO(l:List Ord)(k:Nat):Ord:=l.getD k Ord.none_
def yH(l:List Ord):(oV l).length=l.length*5:=by
 induction l with
 |nil=>rfl
 |cons o l ih=>simp[oV,ih];omega
def BS(a b:List Ord):oV (a++b)=oV a++oV b:=by
 induction a with
 |nil=>rfl
 |cons o a ih=>simp[oV,ih]
def Ng(l:List Ord):∀u∈oV l,u.oneCell'=G_:=by
 induction l with
 |nil=>simp[oV]
 |cons o l ih=>
  intro u a;simp only[oV,SB]at a;rcases a with rfl|rfl|rfl|rfl|rfl|a
  ·rfl
  ·rfl
  ·rfl
  ·rfl
  ·rfl
  ·exact ih u a
variable {l:List Ord} {w w':C_} {a:Nat} {e:RZ} {v:D_} {n B:Nat} {xs:List D_} {w1 w2:C_} {j:Nat} {o:Ord} {m:Nat} {fs:List Nat} {s b:Nat} {t:RZ} {g cap:Nat} {p:Addr} {u:D_} {ab:Nat} {most:Int} {vs vf:D_} {H:Nat} {P:Program} {bb:Nat} {v0 v1:D_} {A C W:C_}
def bAc{k:Nat}(h:k<l.length):(oV l)[k*5]? = A_ (U G (aO l k).id)/\(oV l)[k*5+1]? = A_ (U G (aO l k).side)/\(oV l)[k*5+2]? = A_ (U G (aO l k).kind)/\(oV l)[k*5+3]? = A_ (U G (aO l k).price)/\(oV l)[k*5+4]? = A_ (U G (aO l k).ak):=by
 induction l generalizing k with
 |nil=>simp at h
 |cons o l ih=>
  cases k with
  |zero=>exact⟨rfl,rfl,rfl,rfl,rfl⟩
  |succ k=>
   have:=ih (k:=k) (by simpa using h);rw[show(k+1)*5=k*5+1+1+1+1+1 by omega];have e:aO (o::l) (k+1)=aO l k:=by simp[aO]
   rw[e]
   simpa[oV]using this
def pG{k:Nat}(h:k<l.length):aO l k=l[k]:=by simp[aO,h]
def jY(id:Int):Nat->List Ord->Int
 |_,[]=>-1
 |i,o::l=>if o.id=id then(i:Int)else jY id (i+1) l
def dz(id:Int)(l:List Ord):Int:=jY id 0 l
def aVn{id:Int}{k:Nat}(h:k<l.length)(a:¬(aO l k).id=id):jY id (k+1) (l.drop (k+1))=jY id k (l.drop k):=by
 rw[Tt h];unfold jY;rw[RD (by rw[<-pG h];exact a)];cases l.drop (k+1)<;>rfl
def aVm{id:Int}{k:Nat}(h:k<l.length)(a:(aO l k).id=id):jY id k (l.drop k)=k:=by
 rw[Tt h];unfold jY;rw[RF (by rw[<-pG h];exact a)]
def aVl{id:Int}{k:Nat}(h:l.length<=k):jY id k (l.drop k)=-1:=by
 rw[List.drop_eq_nil_of_le h];rfl
def DJ(id:Int):∀(l:List Ord) (i:Nat),jY id i l=-1\/∃k,k<l.length/\jY id i l=((i+k:Nat):Int)/\(aO l k).id=id
 |[],_=>RP rfl
 |o::l,i=>by
  by_cases e:o.id=id
  ·right;refine⟨0,by simp,?_,e⟩;unfold jY;rw[RF e];simp
  ·have b:jY id i (o::l)=jY id (i+1) l:=by
    show(if o.id=id then(i:Int)else jY id (i+1) l)=_;rw[RD e]
   rw[b];rcases DJ id l (i+1)with h|⟨k,hk,h,a⟩
   ·exact RP h
   ·right;refine⟨k+1,by simpa using hk,by rw[h];congr 1;omega,?_⟩;have:aO (o::l) (k+1)=aO l k:=by simp[aO]
    rw[this];exact a
def Bf{size:Nat}(h:w.ownsRow a e size v n xs)(f:Sd B w w')(d:w.heap.size<=B):w'.ownsRow a e size v n xs:=by
 refine⟨h.1,?_⟩;rcases h.2 with hn|⟨g,cap,b,rfl,i,c,r⟩
 ·exact .inl hn
 ·exact .inr ⟨g,cap,b,rfl,i,(f.block g (Sn (SK c) d)).trans c,r⟩
def wo{size:Nat}(h:w.ownsRow a e size v n xs):∃(b:Option Addr) (cap:Nat),v=J b n cap/\n<=cap/\cap<=maxLen:=by
 rcases h.2 with⟨rfl,rfl⟩|⟨g,cap,c,rfl,_,_,h1,h2,_⟩
 ·exact⟨B_,0,rfl,au,Sv _⟩
 ·exact⟨A_ ⟨g,0,B_⟩,cap,rfl,h1,h2⟩
def EB(h:w.ownsRow a 155 5 v l.length (oV l)){k:Nat}(hk:k<l.length):
  ∃g cap,v=J (A_ ⟨g,0,B_⟩) l.length cap/\w.cell? ⟨g,k*5,B_⟩=A_ (U G (aO l k).id)/\w.cell? ⟨g,k*5+1,B_⟩=A_ (U G (aO l k).side)/\w.cell? ⟨g,k*5+2,B_⟩=A_ (U G (aO l k).kind)/\w.cell? ⟨g,k*5+3,B_⟩=A_ (U G (aO l k).price)/\w.cell? ⟨g,k*5+4,B_⟩=A_ (U G (aO l k).ak):=by
 obtain⟨g,cap,rfl,_,_⟩:=h.form o7;obtain⟨h1,h2,h3,b,c⟩:=bAc hk;exact⟨g,cap,rfl,(h.cellAt _ o7).trans h1,(h.cellAt _ o7).trans h2,(h.cellAt _ o7).trans h3,(h.cellAt _ o7).trans b,(h.cellAt _ o7).trans c⟩
def oW(fr:List Nat):List D_:=fr.map λk:Nat=>U G (k:Int)
def aH7{l:List D_}{k:Nat}(h:l[k]? = A_ v):l.set k v=l:=by
 obtain⟨h1,rfl⟩:=List.getElem?_eq_some_iff.1 h;exact List.set_getElem_self h1
def aUo(fr:List Nat):(oW fr).length=fr.length:=by simp[oW]
def aCo(fr:List Nat)(k:Nat):oW (fr++[k])=oW fr++[U G (k:Int)]:=by simp[oW]
def aUp(fs:List Nat)(k:Nat):(oW (fs++[k]))[fs.length]? = A_ (U G (k:Int)):=by simp[oW]
structure Out(S:Nat->Prop)(w w':C_):Prop where
 os:w'.os=w.os
 tape:w'.tape=w.tape
 output:w'.output=w.output
 size:w.heap.size<=w'.heap.size
 block:∀k,k<w.heap.size->¬S k->w'.heap[k]? = w.heap[k]?
def Out.refl(S:Nat->Prop)(w:C_):Out S w w:=⟨rfl,rfl,rfl,au,λ_ _ _=>rfl⟩
def aK(w:C_)(S S':Nat->Prop):Prop:=∀k,S' k->S k\/w.heap.size<=k
def aK.refl(w:C_)(S:Nat->Prop):aK w S S:=λ_ h=>RP h
def aK.trans{S a S2:Nat->Prop}(h:aK w S a)(h1:aK w1 a S2)(b:w.heap.size<=w1.heap.size):aK w S S2:=λk hk=>by
 rcases h1 k hk with h2|h2
 ·exact h k h2
 ·exact RN o7
def Out.trans{S b:Nat->Prop}(h:Out S w w1)(h1:Out b w1 w2)(d:aK w S b):Out S w w2:=
 ⟨h1.os.trans h.os,h1.tape.trans h.tape,h1.output.trans h.output,RV h.size h1.size,λk hk c=>(h1.block k (by have:=h.size;omega) (λa=>by
  rcases d k a with h2|h2
  ·exact c h2
  ·omega)).trans (h.block k hk c)⟩
def Out.of_below{S:Nat->Prop}(h:Sd B w w')(a:w.heap.size<=B):Out S w w':=⟨h.os,h.tape,h.output,h.size,λk hk _=>h.block k o7⟩
def Out.uf{S:Nat->Prop}{row:Option Nat}(h:w.grownBy w' row)(b:∀k,row=A_ k->S k):Out S w w':=⟨h.os,h.tape,h.output,h.size,λk hk a=>h.block k hk (λe=>a (b k e.symm))⟩
def Out.below{S:Nat->Prop}(h:Out S w w')(b:∀k,S k->B<=k)(c:B<=w.heap.size):Sd B w w':=⟨h.os,h.tape,h.output,h.size,λk hk=>h.block k o7 (λa=>by have:=b k a;omega)⟩
def Out.mono{S S':Nat->Prop}(h:Out S w w')(b:∀k,S k->S' k):Out S' w w':=⟨h.os,h.tape,h.output,h.size,λk hk a=>h.block k hk (λe=>a (b k e))⟩
abbrev aT:=Option Ord×Int
def aW(rs:List aT)(k:Nat):aT:=rs.getD k (B_,0)
def jf:List aT->Nat
 |[]=>0
 |r::rs=>(if r.1.isSome then 1 else 0)+jf rs
def oz(t:Option Ord):Ord:=t.getD Ord.none_
def Al{rs:List aT}{k:Nat}(p:aT)(h:k<rs.length):aW (rs.set k p) k=p:=by simp[aW,h]
def vF{rs:List aT}{k:Nat}(p:aT)(h:k≠j):aW (rs.set k p) j=aW rs j:=by simp[aW,h]
def aIe{rs:List aT}{k:Nat}(p:aT)(h:k<rs.length):aW (rs++[p]) k=aW rs k:=by simp[aW,List.getElem?_append,h]
def OB(rs:List aT)(p:aT):aW (rs++[p]) rs.length=p:=by simp[aW]
def OA{rs:List aT}{k:Nat}(h:rs.length<=k):aW rs k=(B_,0):=by simp[aW,h]
def EH{rs:List aT}{k:Nat}{a:Int}(h:aW rs k=(A_ o,a)):k<rs.length:=by
 rcases Nat.lt_or_ge k rs.length with h1|h1
 ·exact h1
 ·rw[OA h1]at h;cases h
def aAc(a b:List aT):jf (a++b)=jf a+jf b:=by
 induction a with
 |nil=>simp[jf]
 |cons r a ih=>simp[jf,ih];omega
def Bh{rs:List aT}{k:Nat}(p:aT)(h:k<rs.length):jf (rs.set k p)+(if(aW rs k).1.isSome then 1 else 0)=jf rs+(if p.1.isSome then 1 else 0):=by
 induction rs generalizing k with
 |nil=>simp at h
 |cons r rs ih=>
  cases k with
  |zero=>simp[jf,aW];omega
  |succ k=>
   have:=ih (k:=k) (by simpa using h);simp only[UF,jf];have e:aW (r::rs) (k+1)=aW rs k:=by simp[aW]
   rw[e];omega
structure So(m:Nat)(rs:List aT)(fr:List Nat):Prop where
 nd:fr.Nodup
 free:∀k∈fr,k<rs.length/\(aW rs k).1=B_
 cnt:jf rs+fr.length=rs.length
 small:rs.length<=m
 vR:∀k,0<=(aW rs k).2/\(aW rs k).2<=m
def So.start(m:Nat):So m [] []:=⟨Zw,λ_ h=>(by cases h),rfl,Sv _,λk=>by simp[aW]⟩
def So.more{rs:List aT}{fr:List Nat}(h:So m rs fr)(b:m<=a):So a rs fr:=⟨h.nd,h.free,h.cnt,by have:=h.small;omega,λk=>by have:=h.vR k;omega⟩
variable {k:Nat}
def So.bCn{rs:List aT}{x:Ord}(h:So m rs (fs++[k])):So (m+1) (rs.set k (A_ x,(aW rs k).2)) fs:=by
 have hk:=h.free k s7;have a:=XA.1 h.nd;refine⟨a.1,λj c=>?_,?_,by simpa using Nat.le_succ_of_le h.small,λj=>?_⟩
 ·have b:k≠j:=λe=>a.2.2 j c k s7 e.symm
  rw[vF _ b]
  simpa using h.free j (by simp[c])
 ·have h1:=Bh (A_ x,(aW rs k).2) hk.1;have h2:=h.cnt;rw[hk.2]at h1;simp only[Sl,TG]at h2;simp at h1;simp;omega
 ·by_cases e:k=j
  ·subst e;rw[Al _ hk.1];have:=h.vR k;simp;omega
  ·rw[vF _ e];have:=h.vR j;omega
def So.bCo{rs:List aT}{x:Ord}(h:So m rs []):So (m+1) (rs++[(A_ x,0)]) []:=by
 have a:∀k,aW (rs++[(A_ x,0)]) k=aW rs k\/aW (rs++[(A_ x,0)]) k=(A_ x,0):=λk=>by
  rcases Nat.lt_trichotomy k rs.length with h1|h1|h1
  ·exact RP (aIe _ h1)
  ·subst h1;exact RN (OB _ _)
  ·left;rw[OA (by simp;omega),OA o7]
 refine⟨Zw,λ_ h=>(by cases h),?_,by have:=h.small;simp;omega,λk=>?_⟩
 ·have:=h.cnt;simp[aAc,jf]at this⊢;omega
 ·rcases a k with e|e
  ·rw[e];have:=h.vR k;omega
  ·rw[e];simp;omega
def So.set{rs:List aT}{fr:List Nat}{x:Ord}(h:So m rs fr)(hk:k<rs.length)(b:(aW rs k).1.isSome=G_):So (m+1) (rs.set k (A_ x,(aW rs k).2)) fr:=by
 refine⟨h.nd,λj d=>?_,?_,by simpa using Nat.le_succ_of_le h.small,λj=>?_⟩
 ·have a:=h.free j d;have c:k≠j:=λe=>by subst e;rw[a.2]at b;cases b
  rw[vF _ c]
  simpa using a
 ·have h1:=Bh (A_ x,(aW rs k).2) hk;have h2:=h.cnt;rw[b]at h1;simp at h1;simp;omega
 ·by_cases e:k=j
  ·subst e;rw[Al _ hk];have:=h.vR k;simp;omega
  ·rw[vF _ e];have:=h.vR j;omega
def So.take{rs:List aT}{fr:List Nat}(h:So m rs fr)(hk:k<rs.length)(c:(aW rs k).1.isSome=G_):So (m+1) (rs.set k (B_,(aW rs k).2+1)) (fr++[k]):=by
 have hn:k ∉ fr:=λi=>by have:=h.free k i;rw[this.2]at c;cases c
 refine⟨?_,λj g=>?_,?_,by simpa using Nat.le_succ_of_le h.small,λj=>?_⟩
 ·rw[XA];exact⟨h.nd,by simp,λa f b d e=>by simp at d;subst e;subst d;exact hn f⟩
 ·by_cases e:k=j
  ·subst e;rw[Al _ hk];exact⟨by simpa using hk,rfl⟩
  ·rw[vF _ e];rcases Uy.1 g with h1|h1
   ·simpa using h.free j h1
   ·simp at h1;omega
 ·have h1:=Bh (B_,(aW rs k).2+1) hk;have h2:=h.cnt;rw[c]at h1;simp at h1;simp;omega
 ·by_cases e:k=j
  ·subst e;rw[Al _ hk];have:=h.vR k;simp;omega
  ·rw[vF _ e];have:=h.vR j;omega
def jy:List aT->List D_
 |[]=>[]
 |r::rs=>U G (oz r.1).id::U G (oz r.1).side::U G (oz r.1).kind::U G (oz r.1).price::U G (oz r.1).ak::U G r.2::.bool r.1.isSome::jy rs
def bFw(a b:List aT):jy (a++b)=jy a++jy b:=by
 induction a with
 |nil=>rfl
 |cons r a ih=>simp[jy,ih]
def OC{rs:List aT}(h:k<rs.length):(jy rs)[k*7]? = A_ (U G (oz (aW rs k).1).id)/\(jy rs)[k*7+1]? = A_ (U G (oz (aW rs k).1).side)/\(jy rs)[k*7+2]? = A_ (U G (oz (aW rs k).1).kind)/\(jy rs)[k*7+3]? = A_ (U G (oz (aW rs k).1).price)/\(jy rs)[k*7+4]? = A_ (U G (oz (aW rs k).1).ak)/\(jy rs)[k*7+5]? = A_ (U G (aW rs k).2)/\(jy rs)[k*7+6]? = A_ (.bool (aW rs k).1.isSome):=by
 induction rs generalizing k with
 |nil=>simp at h
 |cons r rs ih=>
  cases k with
  |zero=>exact⟨rfl,rfl,rfl,rfl,rfl,rfl,rfl⟩
  |succ k=>
   have:=ih (k:=k) (by simpa using h);rw[show(k+1)*7=k*7+1+1+1+1+1+1+1 by omega];have e:aW (r::rs) (k+1)=aW rs k:=by simp[aW]
   rw[e]
   simpa[jy]using this
def aIg{rs:List aT}(p:aT)(h:k<rs.length):(((((((jy rs).set (k*7) (U G (oz p.1).id)).set (k*7+1) (U G (oz p.1).side)).set (k*7+2) (U G (oz p.1).kind)).set (k*7+3) (U G (oz p.1).price)).set (k*7+4) (U G (oz p.1).ak)).set (k*7+5) (U G p.2)).set (k*7+6) (.bool p.1.isSome)=jy (rs.set k p):=by
 induction rs generalizing k with
 |nil=>simp at h
 |cons r rs ih=>
  cases k with
  |zero=>rfl
  |succ k=>
   have:=ih (k:=k) (by simpa using h);rw[show(k+1)*7=k*7+1+1+1+1+1+1+1 by omega];simp only[jy,UF];rw[<-this]
def zn(rs:List aT)(fr:List Nat)(k:Nat)(rs1:List aT)(fr1:List Nat):Prop:=(fr=fr1++[k]/\rs1=rs)\/(fr=[]/\fr1=[]/\k=rs.length/\rs1=rs++[(B_,0)])
structure Ly where
 slot:Nat
 age:Int
 o:Ord
def hV:List Ly->List D_
 |[]=>[]
 |x::l=>U G (x.slot:Int)::U G x.age::hV l
def aX5:Ly:=⟨0,0,Ord.none_⟩
def dR(l:List Ly)(k:Nat):Ly:=l.getD k aX5
def yD{l:List Ly}(h:k<l.length):dR l k=l[k]:=by simp[dR,h]
def aEu{l:List Ly}(h:k<l.length):dR l k∈l:=by rw[yD h];exact List.getElem_mem h
def wR(l:List Ly):(hV l).length=l.length*2:=by
 induction l with
 |nil=>rfl
 |cons r rs ih=>simp[hV,ih];omega
def LZ(a b:List Ly):hV (a++b)=hV a++hV b:=by
 induction a with
 |nil=>rfl
 |cons r a ih=>simp[hV,ih]
def Bz{l:List Ly}(h:k<l.length):(hV l)[k*2]? = A_ (U G ((dR l k).slot:Int))/\(hV l)[k*2+1]? = A_ (U G (dR l k).age):=by
 induction l generalizing k with
 |nil=>simp at h
 |cons r rs ih=>
  cases k with
  |zero=>exact⟨rfl,rfl⟩
  |succ k=>
   have:=ih (k:=k) (by simpa using h);rw[show(k+1)*2=k*2+1+1 by omega];have e:dR (r::rs) (k+1)=dR rs k:=by simp[dR]
   rw[e]
   simpa[hV]using this
def aC6(l:List Ly):∀u∈hV l,u.oneCell'=G_:=by
 induction l with
 |nil=>simp[hV]
 |cons o l ih=>
  intro u a;simp only[hV,SB]at a;rcases a with rfl|rfl|a
  ·rfl
  ·rfl
  ·exact ih u a
structure Pb(m:Nat)(rs:List aT)(fr:List Nat)(S:Nat->List Ly):Prop where
 so:So m rs fr
 there:∀s,s<2->∀x∈S s,aW rs x.slot=(A_ x.o,x.age)
 nd:((S 0++S 1).map Ly.slot).Nodup
 ids:((S 0++S 1).map λx=>x.o.id).Nodup
 cnt:jf rs=(S 0).length+(S 1).length
 side:∀s,s<2->∀x∈S s,x.o.side=(s:Int)+1
 ok:∀s,s<2->∀x∈S s,1<=x.o.id/\(Tv .i64 x.o.id).wf=G_/\1<=x.o.price/\x.o.price<=1000000/\1<=x.o.ak/\x.o.ak<=1000000
 most:(S 0).length+(S 1).length<=100
def dB(S:Nat->List Ly)(s:Nat)(l:List Ly):Nat->List Ly:=λk=>if k=s then l else S k
def yU(S:Nat->List Ly)(s:Nat)(l:List Ly):dB S s l s=l:=RF rfl
def yT{S:Nat->List Ly}(l:List Ly)(h:k≠s):dB S s l k=S k:=RD h
def Ag(S:Nat->List Ly)(a:s<2):(S 0++S 1).Perm (S s++S (1 - s)):=by
 match s,a with
 |0,_=>exact List.Perm.refl _
 |1,_=>exact List.perm_append_comm
def Em(S:Nat->List Ly)(l:List Ly)(a:s<2):(dB S s l 0++dB S s l 1).Perm (l++S (1 - s)):=by
 match s,a with
 |0,_=>exact List.Perm.refl _
 |1,_=>exact List.perm_append_comm
def Ah(S:Nat->List Ly)(l:List Ly)(a:s<2):(dB S s l 0).length+(dB S s l 1).length=l.length+(S (1 - s)).length/\(S 0).length+(S 1).length=(S s).length+(S (1 - s)).length:=by
 match s,a with
 |0,_=>exact⟨rfl,rfl⟩
 |1,_=>exact⟨Nat.add_comm _ _,Nat.add_comm _ _⟩
variable {y x:Ly} {S':Nat->List Ly}
def BM{S:Nat->List Ly}{l:List Ly}{t:Nat}(h:y∈dB S s l t):(t=s/\y∈l)\/(t≠s/\y∈S t):=by
 by_cases e:t=s
 ·subst e;rw[yU]at h;exact RP ⟨rfl,h⟩
 ·rw[yT _ e]at h;exact RN ⟨e,h⟩
def Pb.BU{rs:List aT}{fr:List Nat}{S:Nat->List Ly}(h:Pb m rs fr S){t:Nat}(d:s<2)(f:t<2)(g:x∈S s)(i:y∈S t)(e:x.slot=y.slot):x=y:=by
 have h1:=h.there s d x g;have h2:=h.there t f y i;rw[e,h2]at h1;injection h1 with h1 h3;injection h1 with h1;obtain⟨a,b,c⟩:=x;obtain⟨a',b',j⟩:=y;simp only at e h1 h3;rw[e,h1,h3]
def bBm{α:Type}{f:Ly->α}{l:List Ly}(h:(l.map f).Nodup)(d:x∈l)(g:y∈l)(e:f x=f y):x=y:=by
 induction l with
 |nil=>cases d
 |cons a l ih=>
  simp only[RY,VP]at h;rcases SB.1 d with rfl|b<;>rcases SB.1 g with rfl|c
  ·rfl
  ·exact absurd (Ti.2 ⟨y,c,e.symm⟩) h.1
  ·exact absurd (Ti.2 ⟨x,b,e⟩) h.1
  ·exact ih h.2 b c
def Pb.mem{S:Nat->List Ly}(a:s<2)(b:x∈S s):x∈S 0++S 1:=(Ag S a).mem_iff.2 (Uy.2 (RP b))
def Pb.Nu{rs:List aT}{fr:List Nat}{S:Nat->List Ly}(h:Pb m rs fr S){t:Nat}(a:s<2)(b:t<2)(c:x∈S s)(d:y∈S t)(e:x.o.id=y.o.id):x=y:=
 bBm h.ids (Pb.mem a c) (Pb.mem b d) e
def Pb.Nv{rs:List aT}{fr:List Nat}{S:Nat->List Ly}(h:Pb m rs fr S){t:Nat}(a:s<2)(b:t<2)(c:x∈S s)(d:x∈S t):s=t:=by
 have h1:=h.side s a x c;have h2:=h.side t b x d;omega
def Pb.more{rs:List aT}{fr:List Nat}{S:Nat->List Ly}(h:Pb m rs fr S)(b:m<=a):Pb a rs fr S:=⟨h.so.more b,h.there,h.nd,h.ids,h.cnt,h.side,h.ok,h.most⟩
def Pb.start(m:Nat):Pb m [] [] (λ_=>[]):=⟨So.start m,λ_ _ x a=>(by cases a),Zw,Zw,rfl,λ_ _ x a=>(by cases a),λ_ _ x a=>(by cases a),by simp⟩
def Ol{rs b:List aT}{fr d:List Nat}(h:So m rs fr)(g:zn rs fr k b d):k<b.length/\(aW b k).1=B_/\(∀j o a,aW rs j=(A_ o,a)->j≠k/\aW b j=(A_ o,a))/\jf b=jf rs/\b.length<=rs.length+1:=by
 rcases g with⟨rfl,rfl⟩|⟨rfl,rfl,rfl,rfl⟩
 ·have hk:=h.free k s7;refine⟨hk.1,hk.2,λj o a c=>⟨λe=>?_,c⟩,rfl,o7⟩;subst e;rw[c]at hk;cases hk.2
 ·refine⟨by simp,by rw[OB],λj o a c=>?_,by simp[aAc,jf],by simp⟩;have f:=EH c;exact⟨o7,by rw[aIe _ f];exact c⟩
def bD1(rs:List aT)(p q:aT):(rs++[p]).set rs.length q=rs++[q]:=by simp
def bD2{rs a:List aT}{fr fr1:List Nat}(h:So m rs fr)(b:zn rs fr k a fr1):So (m+1) (a.set k (A_ o,(aW a k).2)) fr1:=by
 rcases b with⟨rfl,rfl⟩|⟨rfl,rfl,rfl,rfl⟩
 ·exact h.bCn
 ·rw[OB,bD1];exact h.bCo
def bDz{rs:List aT}{fr:List Nat}(a:So m rs fr):∃k rs1 fr1,zn rs fr k rs1 fr1:=by
 rcases List.eq_nil_or_concat fr with rfl|⟨fs,k,rfl⟩
 ·exact⟨rs.length,_,[],RN ⟨rfl,rfl,rfl,rfl⟩⟩
 ·rw[List.concat_eq_append];exact⟨k,rs,fs,RP ⟨rfl,rfl⟩⟩
def Pb.put{rs b:List aT}{fr j:List Nat}{S:Nat->List Ly}{p:List Ly}(h:Pb m rs fr S)(z:zn rs fr k b j)(v:s<2)(hp:p.Perm (⟨k,(aW b k).2,o⟩::S s))(i:o.side=(s:Int)+1)(q:1<=o.id/\(Tv .i64 o.id).wf=G_/\1<=o.price/\o.price<=1000000/\1<=o.ak/\o.ak<=1000000)(n:∀t,t<2->∀x∈S t,x.o.id≠o.id)(D:(S 0).length+(S 1).length<100):
  Pb (m+1) (b.set k (A_ o,(aW b k).2)) j (dB S s p):=by
 obtain⟨hk,hn,ho,B,_⟩:=Ol h.so z;have f:=(Em S p v).trans ((hp.append_right _).trans ((Ag S v).symm.cons _));have C:=Ah S p v;have r:=hp.length_eq;simp only[SC]at r;refine⟨bD2 h.so z,λt g y a=>?_,?_,?_,?_,λt g y a=>?_,λt g y a=>?_,o7⟩
 ·have old:∀u,u<2->y∈S u->aW (b.set k (A_ o,(aW b k).2)) y.slot=(A_ y.o,y.age):=λu A w=>by
   obtain⟨h1,h2⟩:=ho _ _ _ (h.there u A y w);rw[vF _ (Ne.symm h1)];exact h2
  rcases BM a with⟨rfl,c⟩|⟨_,c⟩
  ·rcases SB.1 (hp.mem_iff.1 c)with rfl|l
   ·exact Al _ hk
   ·exact old _ g l
  ·exact old _ g c
 ·rw[(f.map _).nodup_iff];simp only[RY,VP];refine⟨λd=>?_,h.nd⟩;obtain⟨y,a,e⟩:=Ti.1 d;rcases Uy.1 a with a|a
  ·exact(ho _ _ _ (h.there 0 d7 y a)).1 e
  ·exact(ho _ _ _ (h.there 1 d7 y a)).1 e
 ·rw[(f.map _).nodup_iff];simp only[RY,VP];refine⟨λd=>?_,h.ids⟩;obtain⟨y,a,e⟩:=Ti.1 d;rcases Uy.1 a with a|a
  ·exact n 0 d7 y a e
  ·exact n 1 d7 y a e
 ·have h1:=Bh (A_ o,(aW b k).2) hk;rw[hn]at h1;have h2:=h.cnt;simp at h1;omega
 ·rcases BM a with⟨rfl,c⟩|⟨_,c⟩
  ·rcases SB.1 (hp.mem_iff.1 c)with rfl|l
   ·exact i
   ·exact h.side _ g _ l
  ·exact h.side _ g _ c
 ·rcases BM a with⟨rfl,c⟩|⟨_,c⟩
  ·rcases SB.1 (hp.mem_iff.1 c)with rfl|l
   ·exact q
   ·exact h.ok _ g _ l
  ·exact h.ok _ g _ c
def Pb.gone{rs:List aT}{fr:List Nat}{S:Nat->List Ly}{g:List Ly}(h:Pb m rs fr S)(j:s<2)(q:x∈S s)(hp:(S s).Perm (x::g)):
  Pb (m+1) (rs.set x.slot (B_,x.age+1)) (fr++[x.slot]) (dB S s g):=by
 have b:=h.there s j x q;have hk:=EH b;have p:(aW rs x.slot).1.isSome=G_:=by rw[b];rfl
 have c:(S 0++S 1).Perm (x::(dB S s g 0++dB S s g 1)):=(Ag S j).trans ((hp.append_right _).trans ((Em S g j).symm.cons _));have f:=(c.map Ly.slot).nodup_iff.1 h.nd;have i:=(c.map λx=>x.o.id).nodup_iff.1 h.ids;simp only[RY,VP]at f i;have r:=Ah S g j;have n:=hp.length_eq;simp only[SC]at n
 have old:∀t,t<2->∀y∈dB S s g t,y∈S t:=λt a y d=>by
  rcases BM d with⟨rfl,k⟩|⟨_,k⟩
  ·exact hp.mem_iff.2 (List.mem_cons_of_mem _ k)
  ·exact k
 refine⟨?_,λt a y d=>?_,f.2,i.2,?_,λt a y d=>h.side t a y (old t a y d),λt a y d=>h.ok t a y (old t a y d),by have:=h.most;omega⟩
 ·have:=h.so.take hk p;rw[b]at this;exact this
 ·have l:x.slot≠y.slot:=λe=>f.1 (Ti.2 ⟨y,Pb.mem a d,e.symm⟩)
  rw[vF _ l];exact h.there t a y (old t a y d)
 ·have h1:=Bh (B_,x.age+1) hk;rw[b]at h1;have h2:=h.cnt;simp at h1;omega
def jq(x:Ly)(o':Ord)(l:List Ly):List Ly:=l.map λy=>if y.slot=x.slot then { y with o:=o' }else y
def aO7(x:Ly)(a:Ord)(l:List Ly):(jq x a l).map Ly.slot=l.map Ly.slot:=by
 unfold jq;rw[Vs];apply SF;intro y _;simp only[Function.comp];split<;>rfl
def aAo(x:Ly)(a:Ord)(l:List Ly):(jq x a l).length=l.length:=by simp[jq]
def aO6(x:Ly)(a:Ord)(l:List Ly):hV (jq x a l)=hV l:=by
 induction l with
 |nil=>rfl
 |cons y l ih=>
  have:jq x a (y::l)=(if y.slot=x.slot then { y with o:=a }else y)::jq x a l:=rfl;rw[this];unfold hV;rw[ih];split<;>rfl
def Pb.cut{rs:List aT}{fr:List Nat}{S:Nat->List Ly}{a:Ord}(h:Pb m rs fr S)(c:s<2)(j:x∈S s)(h1:a.id=x.o.id)(h2:a.side=x.o.side)(h3:1<=a.price/\a.price<=1000000/\1<=a.ak/\a.ak<=1000000):
  Pb (m+1) (rs.set x.slot (A_ a,x.age)) fr (dB S s (jq x a (S s))):=by
 have g:=h.there s c x j;have hk:=EH g;have r:(aW rs x.slot).1.isSome=G_:=by rw[g];rfl
 have u:=Ah S (jq x a (S s)) c
 have f:∀t,t<2->∀y∈dB S s (jq x a (S s)) t,(y∈S t/\y.slot≠x.slot)\/(t=s/\y={ x with o:=a }):=λt d y b=>by
  rcases BM b with⟨rfl,k⟩|⟨i,k⟩
  ·obtain⟨z,p,rfl⟩:=Ti.1 k
   by_cases e:z.slot=x.slot
   ·obtain rfl:=h.BU d c p j e;right;rw[RF rfl];exact⟨rfl,rfl⟩
   ·left;rw[RD e];exact⟨p,e⟩
  ·left;refine⟨k,λe=>?_⟩;have e2:=h.BU d c k j e;exact i (h.Nv d c k (e2▸j))
 have q:=aAo x a (S s);have v:=h.most
 have l:((jq x a (S s)).map λy=>y.o.id)=(S s).map λy=>y.o.id:=by
  unfold jq;rw[Vs];apply SF;intro y b;simp only[Function.comp];split
  ·rename_i e;obtain rfl:=h.BU c c b j e;exact h1
  ·rfl
 refine⟨?_,λt d y b=>?_,?_,?_,?_,λt d y b=>?_,λt d y b=>?_,o7⟩
 ·have:=h.so.set (x:=a) hk r;rw[g]at this;exact this
 ·rcases f t d y b with⟨b,i⟩|⟨_,rfl⟩
  ·rw[vF _ (Ne.symm i)];exact h.there t d y b
  ·exact Al _ hk
 ·rw[((Em S _ c).map _).nodup_iff,TY,aO7,<-TY,<-((Ag S c).map _).nodup_iff];exact h.nd
 ·rw[((Em S _ c).map _).nodup_iff,TY,l,<-TY,<-((Ag S c).map _).nodup_iff];exact h.ids
 ·have n:=Bh (A_ a,x.age) hk;rw[g]at n;have k:=h.cnt;simp at n;omega
 ·rcases f t d y b with⟨b,_⟩|⟨rfl,rfl⟩
  ·exact h.side t d y b
  ·show a.side=_;rw[h2];exact h.side _ c x j
 ·rcases f t d y b with⟨b,_⟩|⟨rfl,rfl⟩
  ·exact h.ok t d y b
  ·have:=h.ok _ c x j;show 1<=a.id/\(Tv .i64 a.id).wf=G_/\_;rw[h1];exact⟨this.1,this.2.1,h3⟩
def aj{vs:Array D_}(h:w.heap[b]? = A_ (R vs t (0,0)))(a:vs[j]? = A_ v):w.cell? ⟨b,j,B_⟩=A_ v:=(cell_of_row w b j vs t (0,0) h).trans a
def aI{vs:Array D_}(h:w.heap[b]? = A_ (R vs t (0,0))):w.frozen? ⟨b,j,B_⟩=E_:=frozen_of_row w b j vs t h
def bg{vs:Array D_}(u:D_)(h:w.heap[b]? = A_ (R vs t (0,0))):(w.setCell ⟨b,j,B_⟩ u).heap[b]? = A_ (R (vs.setIfInBounds j u) t (0,0)):=heap_setCell_same w b j vs t u h
def kY{vs c:Array D_}{s:RZ}{f f':Nat×Nat}(h:w.heap[b]? = A_ (R vs t f))(a:w.heap[g]? = A_ (R c s f'))(hn:t≠s):b≠g:=λe=>by
 subst e;rw[h]at a;injection a with a;injection a with _ a _;exact hn a
def lJ{size:Nat}(h:w.ownsRow a e size v n xs):∃(b:Option Addr) (cap:Nat),v=J b n cap/\n<=cap/\cap<=maxLen:=by
 rcases h.2 with⟨rfl,rfl⟩|⟨g,cap,c,rfl,_,_,h1,h2,_⟩
 ·exact⟨B_,0,rfl,au,Sv _⟩
 ·exact⟨A_ ⟨g,0,B_⟩,cap,rfl,h1,h2⟩
def jw{size:Nat}(h:w.ownsRow a e size v n xs)(f:Sd B w w')(d:w.heap.size<=B):w'.ownsRow a e size v n xs:=by
 refine⟨h.1,?_⟩;rcases h.2 with hn|⟨g,cap,b,rfl,i,c,r⟩
 ·exact .inl hn
 ·exact .inr ⟨g,cap,b,rfl,i,(f.block g (Sn (SK c) d)).trans c,r⟩
def cu{S:Nat->Prop}{size:Nat}(h:w.ownsRow a e size v n xs)(f:Out S w w')(d:∀k,v.ownBlock=A_ k->¬S k):w'.ownsRow a e size v n xs:=by
 refine⟨h.1,?_⟩;rcases h.2 with hn|⟨g,cap,b,rfl,i,c,r⟩
 ·exact .inl hn
 ·exact .inr ⟨g,cap,b,rfl,i,(f.block g (SK c) (d g rfl)).trans c,r⟩
def bM{size:Nat}{vs:Array D_}{f:Nat×Nat}(h:w.ownsRow a e size v n xs)(d:w.heap[b]? = A_ (R vs t f))(j:t≠e):v.ownBlock≠A_ b:=λhv=>by
 rcases h.2 with⟨rfl,_⟩|⟨g,cap,c,rfl,_,i,_⟩
 ·cases hv
 ·simp[Uf]at hv;subst hv;exact kY d i j rfl
def nX{c:Nat}{i:RZ}{size:Nat}{v':D_}{p:Nat}{f:List D_}(h:w.ownsRow c e size v n xs)(l:w.ownsRow a i b v' p f)(o:e≠i)(hv:v.ownBlock=A_ k):v'.ownBlock≠A_ k:=λd=>by
 rcases h.2 with⟨rfl,_⟩|⟨g,cap,j,rfl,_,m,_⟩
 ·cases hv
 ·simp[Uf]at hv;subst hv;exact bM l m o d
def Iw{size:Nat}{a:Option Addr}{f:Nat}(h:w.ownsRow b e size (J a f cap) n xs):f=n:=by
 rcases h.2 with⟨c,h0⟩|⟨g,d,i,c,_⟩
 ·injection c with _ h1 _;omega
 ·injection c with _ h1 _
def bBk{x:D_}(h:w.ownsRow a e 1 (J (A_ ⟨g,0,B_⟩) (n+1) cap) (n+1) (xs++[x]))(hn:xs.length=n):w.ownsRow a e 1 (J (A_ ⟨g,0,B_⟩) n cap) n xs:=by
 rcases h.2 with⟨b,_⟩|⟨g',i,c,b,j,k,l,d,f,m⟩
 ·simp at b
 ·simp only[TD,Sk,Addr.mk.injEq,and_true,true_and]at b;obtain⟨rfl,rfl⟩:=b;refine⟨o7,.inr ⟨g,cap,c,rfl,j,k,o7,d,f,?_⟩⟩;have:=RJ (List.take n) m;rw[List.take_take,<-hn,List.take_left]at this;rw[<-hn]
  simpa using this
def bL(w:C_)(a:Addr)(u:D_):Out (λj=>j=a.block) w (w.setCell a u):=⟨rfl,rfl,rfl,by simp,λj _ b=>Xj _ _ _ _ (λe=>b e)⟩
def aVj(w:C_):∀n,(w.drewN n).heap=w.heap:=λn=>by
 have:∀n (w':C_),(w'.drewN n).heap=w'.heap:=λn=>by
  induction n with
  |zero=>intro w';rfl
  |succ n ih=>intro w';exact ih _
 exact this n w
def QX{o:Obj}(n:Nat)(h:w.heap[b]? = A_ o):(w.drewN n).heap[b]? = A_ o:=by rw[aVj];exact h
def aL{o:Obj}(h:w.heap[b]? = A_ o)(c:Sd B w w')(a:w.heap.size<=B):w'.heap[b]? = A_ o:=(c.block b (Sn (SK h) a)).trans h
def aH{S:Nat->Prop}{o:Obj}(h:w.heap[b]? = A_ o)(c:Out S w w')(a:¬S b):w'.heap[b]? = A_ o:=(c.block b (SK h) a).trans h
def aM(w:C_)(o:Obj):Sd w.heap.size w (w.alloc o):=(RS _ _).alloc au o
def gu(w:C_)(o a:Obj):Sd w.heap.size w ((w.alloc o).alloc a):=((RS _ _).alloc au o).alloc s7 a
def aJ(h:Sd w.heap.size w w1)(h1:Sd w1.heap.size w1 w2):Sd w.heap.size w w2:=h.trans (h1.mono h.size)
def rz(w:C_)(o a:Obj):((w.alloc o).alloc a).heap[w.heap.size]? = A_ o:=(Below.heap_alloc (w.alloc o) a w.heap.size s7).trans (RU w o)
def pR(w:C_)(o o':Obj):((w.alloc o).alloc o').heap[w.heap.size+1]? = A_ o':=by
 have:=RU (w.alloc o) o'
 rwa[show(w.alloc o).heap.size=w.heap.size+1 by simp]at this
def FY(w:C_):w.drew.heap=w.heap:=rfl
def fI{S:Nat->Prop}(h:Out S w w'):Out S w w'.drew:=⟨h.os,h.tape,h.output,h.size,h.block⟩
def ug{S:Nat->Prop}(h:Out S w w')(o:Obj):Out S w (w'.alloc o):=h.trans (Out.of_below (aM w' o) au) (aK.refl _ _)
def iU{S:Nat->Prop}(h:Out S w w1)(h1:Out S w1 w2):Out S w w2:=h.trans h1 (aK.refl _ _)
def Af{S:Nat->Prop}(h:Out S w w')(hp:w.heap.size<=p.block):Out S w (w'.setCell p u):=h.trans (bL w' p u) (λk hk=>RN (by rw[show k=p.block from hk];exact hp))
def nW{S:Nat->Prop}(h:Out S w w')(hp:S p.block):Out S w (w'.setCell p u):=h.trans (bL w' p u) (λk hk=>RP (by rw[show k=p.block from hk];exact hp))
structure bJ(w:C_)(ab:Nat)(most:Int)(vs vf:D_)(rs:List aT)(fr:List Nat):Prop where
 box:w.heap[ab]? = A_ (R #[U G most,vs,vf] 246 (0,0))
 slots:w.ownsRow 0 266 7 vs rs.length (jy rs)
 free:w.ownsRow 0 3 1 vf fr.length (oW fr)
def bF(ab:Nat)(vs vf:D_)(k:Nat):Prop:=k=ab\/vs.ownBlock=A_ k\/vf.ownBlock=A_ k
variable {rs:List aT} {fr:List Nat}
def bJ.below(h:bJ w ab most vs vf rs fr)(b:Sd B w w')(a:w.heap.size<=B):bJ w' ab most vs vf rs fr:=
 ⟨aL h.box b a,jw h.slots b a,jw h.free b a⟩
def bJ.out{S:Nat->Prop}(h:bJ w ab most vs vf rs fr)(b:Out S w w')(a:∀k,bF ab vs vf k->¬S k):bJ w' ab most vs vf rs fr:=
 ⟨aH h.box b (a ab (RP rfl)),cu h.slots b (λk hk=>a k (RN (RP hk))),cu h.free b (λk hk=>a k (RN (RN hk)))⟩
def bJ.lt(h:bJ w ab most vs vf rs fr)(hk:bF ab vs vf k):k<w.heap.size:=by
 rcases hk with rfl|hk|hk
 ·exact SK h.box
 ·exact(h.slots.lt k hk).2
 ·exact(h.free.lt k hk).2
def bJ.slot(h:bJ w ab most vs vf rs fr){a:Int}{f:Bool}(hk:k<rs.length)(ho:oz (aW rs k).1=o)(i:(aW rs k).2=a)(j:(aW rs k).1.isSome=f):
  ∃g cap,vs=J (A_ ⟨g,0,B_⟩) rs.length cap/\w.cell? ⟨g,k*7,B_⟩=A_ (U G o.id)/\w.cell? ⟨g,k*7+1,B_⟩=A_ (U G o.side)/\w.cell? ⟨g,k*7+2,B_⟩=A_ (U G o.kind)/\w.cell? ⟨g,k*7+3,B_⟩=A_ (U G o.price)/\w.cell? ⟨g,k*7+4,B_⟩=A_ (U G o.ak)/\w.cell? ⟨g,k*7+5,B_⟩=A_ (U G a)/\w.cell? ⟨g,k*7+6,B_⟩=A_ (.bool f):=by
 subst ho i j;obtain⟨g,cap,rfl,_,_⟩:=h.slots.form o7;obtain⟨h1,h2,h3,b,c,d,e⟩:=OC hk;exact⟨g,cap,rfl,(h.slots.cellAt _ o7).trans h1,(h.slots.cellAt _ o7).trans h2,(h.slots.cellAt _ o7).trans h3,(h.slots.cellAt _ o7).trans b,(h.slots.cellAt _ o7).trans c,(h.slots.cellAt _ o7).trans d,(h.slots.cellAt _ o7).trans e⟩
def bJ.has(h:bJ w ab most vs vf rs fr){a:Int}(hk:aW rs k=(A_ o,a)):
  k<rs.length/\∃g cap,vs=J (A_ ⟨g,0,B_⟩) rs.length cap/\w.cell? ⟨g,k*7,B_⟩=A_ (U G o.id)/\w.cell? ⟨g,k*7+1,B_⟩=A_ (U G o.side)/\w.cell? ⟨g,k*7+2,B_⟩=A_ (U G o.kind)/\w.cell? ⟨g,k*7+3,B_⟩=A_ (U G o.price)/\w.cell? ⟨g,k*7+4,B_⟩=A_ (U G o.ak)/\w.cell? ⟨g,k*7+5,B_⟩=A_ (U G a)/\w.cell? ⟨g,k*7+6,B_⟩=A_ (.bool G_):=
 ⟨EH hk,h.slot (EH hk) (by rw[hk];rfl) (by rw[hk]) (by rw[hk];rfl)⟩
def bAe(w:C_):Sj prog 132 #[U G 100] w
  λe w'=>e=Y (.tuple #[E (A_ ⟨w.heap.size,0,B_⟩),.nilIface])/\w'=w.alloc (R #[U G 100,J B_ 0 0,J B_ 0 0] 246):=by
 go_enter func132,ntmps132;go_wp2;go_ret2;exact⟨rfl,rfl⟩
def bAf(w:C_)(most:Int):bJ (w.alloc (R #[U G most,J B_ 0 0,J B_ 0 0] 246)) w.heap.size most (J B_ 0 0) (J B_ 0 0) [] []:=
 ⟨RU w _,Uo _ _ _ _,Uo _ _ _ _⟩
def Ni(ab:Nat)(most:Int)(vs vf:D_)(rs:List aT)(fr:List Nat)(c:Int)(w:C_)(h:bJ w ab most vs vf rs fr)(o:rs.length<=1000000)(f:(jf rs:Int)=c)(g:jf rs+fr.length=rs.length):
  Sj prog 218 #[E (A_ ⟨ab,0,B_⟩)] w λe w'=>e=Y (U G c)/\∃n,w'=w.drewN n:=by
 have k:=aj (j:=1) h.box rfl;have l:=aj (j:=2) h.box rfl;obtain⟨i,cap,rfl,_,_⟩:=lJ h.slots;obtain⟨d,a,rfl,_,_⟩:=lJ h.free;have b:Hid (c=(rs.length:Int) - fr.length):=by show _=_;omega
 have m:fr.length<=rs.length:=o7;clear h f g;go_enter func218,ntmps218;go_wp2_with fail;go_quiet (fail);go_wp2;go_ret;exact⟨by rw[b.out];first|rfl|(rw[IntWalk.i64_in _ o7]),⟨_,rfl⟩⟩
def aFt(ab:Nat)(most:Int)(vs vf:D_)(rs:List aT)(fr:List Nat)(k:Nat)(o:Ord)(a:Int)(w:C_)(h:bJ w ab most vs vf rs fr)(hk:aW rs k=(A_ o,a)):
  Sj prog 230 #[E (A_ ⟨ab,0,B_⟩),.agg #[U G k,U G a]] w
   λe w'=>Sd w.heap.size w w'/\∃(g cap:Nat),vs=J (A_ ⟨g,0,B_⟩) rs.length cap/\e=Y (E (A_ ⟨g,k*7,B_⟩)):=by
 have d:=aj (j:=1) h.box rfl;have lb:=SK h.box;obtain⟨c,g,cap,rfl,_,_,_,_,_,b,f⟩:=h.has hk;have l:g<w.heap.size:=World.block_lt_of_cell? w _ b;clear h hk;have i:decide ((k:Int)<0)=E_:=RH o7;have m:(0:Int)<=(k:Int):=o7;have n:(k:Int)<rs.length:=o7;have p:decide ((rs.length:Int)<=(k:Int))=E_:=RH o7;go_enter func230,ntmps230;go_wp2_with fail;go_quiet (fail);go_wp2_with fail;go_quiet (fail);go_wp2_with fail;go_quiet (fail);go_wp2;go_ret;exact⟨Xw (Xw (Xw (aM _ _) _) _) _,g,cap,rfl,rfl⟩
def Nh(ab:Nat)(most:Int)(vs vf:D_)(rs:List aT)(fr:List Nat)(k:Nat)(o:Ord)(a:Int)(w:C_)(h:bJ w ab most vs vf rs fr)(hk:aW rs k=(A_ o,a)):
  Sj prog 193 #[E (A_ ⟨ab,0,B_⟩),.agg #[U G k,U G a]] w
   λe w'=>Sd w.heap.size w w'/\e=Y (.tuple #[o.agg,.nilIface]):=by
 have c:=ah h;have i:=ah hk;clear h hk;go_enter func193,ntmps193;go_wp2_with fail;refine(aFt ab most vs vf rs fr k o a _ (c.out.below (gu _ _ _) au) i.out).mono ?_;rintro e w1 ⟨f,g,cap,rfl,rfl⟩;have b:=(f.block (w.heap.size+1) s7).trans (pR w _ _);have q:=aj (j:=0) b rfl;have r:=aj (j:=1) b rfl;have t:=aj (j:=2) b rfl;have u:=aj (j:=3) b rfl;have v:=aj (j:=4) b rfl;have B:=aI (j:=0) b;have C:=aI (j:=1) b;have D:=aI (j:=2) b;have F:=aI (j:=3) b;have H:=aI (j:=4) b;have d:Hid (Sd w.heap.size w w1):=aJ (gu w _ _) f;obtain⟨m,g',l,hv,d0,x,y,z,A,_,_⟩:=(c.out.below d.out au).has i.out;simp only[TD,Sk,Addr.mk.injEq,and_true,true_and]at hv;obtain⟨rfl,rfl⟩:=hv;have n:g≠w.heap.size+1:=λe=>bM (c.out.below d.out au).slots b d7 (by rw[e];rfl)
 clear f b;go_wp2;refine UA (by simp[results,results193,go_sem,q,r,t,u,v];try rfl) rfl ?_;refine⟨?_,rfl⟩;have s:Sd w.heap.size w1 w1:=RS _ _;exact d.out.trans (((((s.setCell (p:=⟨w.heap.size+1,0,B_⟩) s7 _).setCell (p:=⟨w.heap.size+1,1,B_⟩) s7 _).setCell (p:=⟨w.heap.size+1,2,B_⟩) s7 _).setCell (p:=⟨w.heap.size+1,3,B_⟩) s7 _).setCell (p:=⟨w.heap.size+1,4,B_⟩) s7 _)
def yL(d:w.heap[ab]? = A_ (R #[U G most,J (A_ ⟨g,0,B_⟩) n cap,vf] 246 (0,0)))(c:w.ownsRow 0 266 7 (J (A_ ⟨g,0,B_⟩) n cap) n xs)(f:w.ownsRow 0 3 1 vf fr.length (oW fr))(j:Nat)(u:D_):
  (w.setCell ⟨g,j,B_⟩ u).heap[ab]? = A_ (R #[U G most,J (A_ ⟨g,0,B_⟩) n cap,vf] 246 (0,0))
  /\(w.setCell ⟨g,j,B_⟩ u).ownsRow 0 266 7 (J (A_ ⟨g,0,B_⟩) n cap) n (xs.set j u)/\(w.setCell ⟨g,j,B_⟩ u).ownsRow 0 3 1 vf fr.length (oW fr)/\Out (λk=>k=g) w (w.setCell ⟨g,j,B_⟩ u):=by
 have b:ab≠g:=λe=>bM c d d7 (by rw[e];rfl)
 obtain⟨h1,h2⟩:=c.stored j u;exact⟨(Xj _ _ _ _ b).trans d,h1,WB (a:=⟨g,j,B_⟩) f (nX c f d7 rfl) u,Out.uf h2 (λk hk=>by injection hk with hk;exact hk.symm)⟩
def bJ.raw(u:w.heap[ab]? = A_ (R #[U G most,J (A_ ⟨g,0,B_⟩) n cap,vf] 246 (0,0)))(x:w.ownsRow 0 266 7 (J (A_ ⟨g,0,B_⟩) n cap) n xs)(v:w.ownsRow 0 3 1 vf fr.length (oW fr))(j:Nat)(u0 u1 u2 u3 u4:D_):
  let w5:=((((w.setCell ⟨g,j,B_⟩ u0).setCell ⟨g,j+1,B_⟩ u1).setCell ⟨g,j+2,B_⟩ u2).setCell ⟨g,j+3,B_⟩ u3).setCell ⟨g,j+4,B_⟩ u4
  w5.heap[ab]? = A_ (R #[U G most,J (A_ ⟨g,0,B_⟩) n cap,vf] 246 (0,0))
  /\w5.ownsRow 0 266 7 (J (A_ ⟨g,0,B_⟩) n cap) n (((((xs.set j u0).set (j+1) u1).set (j+2) u2).set (j+3) u3).set (j+4) u4)/\w5.ownsRow 0 3 1 vf fr.length (oW fr)/\Out (λk=>k=g) w w5:=by
 obtain⟨a1,a,a3,b⟩:=yL u x v j u0;obtain⟨c,d,e,f⟩:=yL a1 a a3 (j+1) u1;obtain⟨i,l,m,c4⟩:=yL c d e (j+2) u2;obtain⟨o,p,q,r⟩:=yL i l m (j+3) u3;obtain⟨e1,e2,s,t⟩:=yL o p q (j+4) u4;exact⟨e1,e2,s,(((b.trans f (aK.refl _ _)).trans c4 (aK.refl _ _)).trans r (aK.refl _ _)).trans t (aK.refl _ _)⟩
def aB4{l:List D_}{u0 u1 u2 u3 u4:D_}(h:l[j]? = A_ v)(a:k+4<j):(((((l.set k u0).set (k+1) u1).set (k+2) u2).set (k+3) u3).set (k+4) u4)[j]? = A_ v:=by
 rw[Yu o7,Yu o7,Yu o7,Yu o7,Yu o7];exact h
def aIf(hk:k<rs.length):
  ((((((jy rs).set (k*7) (U G o.id)).set (k*7+1) (U G o.side)).set (k*7+2) (U G o.kind)).set (k*7+3) (U G o.price)).set (k*7+4) (U G o.ak)).set (k*7+6) (.bool G_)=jy (rs.set k (A_ o,(aW rs k).2)):=by
 have e:=aIg (A_ o,(aW rs k).2) hk;obtain⟨_,_,_,_,_,a,_⟩:=OC hk;rw[aH7 (k:=k*7+5) (aB4 a o7)]at e;exact e
def bFx(hk:k<rs.length)(b:(aW rs k).1.isSome=G_):
  (((((jy rs).set (k*7) (U G o.id)).set (k*7+1) (U G o.side)).set (k*7+2) (U G o.kind)).set (k*7+3) (U G o.price)).set (k*7+4) (U G o.ak)=jy (rs.set k (A_ o,(aW rs k).2)):=by
 have e:=aIf (o:=o) hk;obtain⟨_,_,_,_,_,_,a⟩:=OC hk;rw[b]at a;rw[aH7 (k:=k*7+6) (aB4 a o7)]at e;exact e
def bJ.bE6{x:Ord}(h:bJ w ab most (J (A_ ⟨g,0,B_⟩) n cap) vf rs fr)(hk:k<rs.length)(b:(aW rs k).1.isSome=G_):
  bJ (((((w.setCell ⟨g,k*7,B_⟩ (U G x.id)).setCell ⟨g,k*7+1,B_⟩ (U G x.side)).setCell ⟨g,k*7+2,B_⟩ (U G x.kind)).setCell ⟨g,k*7+3,B_⟩ (U G x.price)).setCell ⟨g,k*7+4,B_⟩ (U G x.ak)) ab most (J (A_ ⟨g,0,B_⟩) n cap) vf (rs.set k (A_ x,(aW rs k).2)) fr
  /\Out (λj=>j=g) w (((((w.setCell ⟨g,k*7,B_⟩ (U G x.id)).setCell ⟨g,k*7+1,B_⟩ (U G x.side)).setCell ⟨g,k*7+2,B_⟩ (U G x.kind)).setCell ⟨g,k*7+3,B_⟩ (U G x.price)).setCell ⟨g,k*7+4,B_⟩ (U G x.ak)):=by
 obtain rfl:=Iw h.slots;obtain⟨h1,h2,h3,a⟩:=bJ.raw h.box h.slots h.free (k*7) (U G x.id) (U G x.side) (U G x.kind) (U G x.price) (U G x.ak);refine⟨⟨h1,?_,h3⟩,a⟩;rw[List.length_set,<-bFx hk b];exact h2
def bJ.pop(h:bJ w ab most vs (J (A_ ⟨g,0,B_⟩) n cap) rs (fs++[k])):
  bJ (w.setCell ⟨ab,2,B_⟩ (J (A_ ⟨g,0,B_⟩) fs.length cap)) ab most vs (J (A_ ⟨g,0,B_⟩) fs.length cap) rs fs/\Out (λj=>j=ab) w (w.setCell ⟨ab,2,B_⟩ (J (A_ ⟨g,0,B_⟩) fs.length cap)):=by
 have a:=h.free;obtain rfl:=Iw h.free;rw[Sl,TG,aCo]at a;have h1:=bBk a (aUo fs);refine⟨⟨by simpa using bg (j:=2) (J (A_ ⟨g,0,B_⟩) fs.length cap) h.box,WB h.slots (bM h.slots h.box d7) _,WB h1 (bM h1 h.box d7) _⟩,?_⟩;exact bL _ ⟨ab,2,B_⟩ _
def aV6:(prog.info? 266).map (λi=>(i.zero,i.size,i.bytes))=A_ (A_ (.agg #[U G 0,U G 0,U G 0,U G 0,U G 0,U G 0,.bool E_]),7,56):=k7
def aV3:(prog.info? 3).map (λi=>(i.zero,i.size,i.bytes))=A_ (A_ (U G 0),1,8):=k7
def bAj(ab:Nat)(most:Int)(vs vf:D_)(rs:List aT)(fs:List Nat)(k:Nat)(w:C_)(h:bJ w ab most vs vf rs (fs++[k]))(m:fs.length<=1000000):
  Sj prog 242 #[E (A_ ⟨ab,0,B_⟩)] w
   λe w'=>e=Y (U G k)/\∃vf',bJ w' ab most vs vf' rs fs/\Out (bF ab vs vf) w w'/\vf'.ownBlock=vf.ownBlock:=by
 obtain⟨g,cap,rfl,_,_⟩:=h.free.form s7;have b:=ah h;have c:=aj (j:=2) h.box rfl;have l:=aI (j:=2) h.box;have d0:=(h.free.cellAt fs.length s7).trans (aUp fs k)
 have a:fs.length+1<=cap:=by
  obtain⟨_,_,e,h1,_⟩:=lJ h.free;simp at e h1;omega
 clear h;rw[Sl,TG]at c;have n:(0:Int)<=(fs.length:Int):=o7;have o:(fs.length:Int)<(fs.length:Int)+1:=o7;go_enter func242,ntmps242;go_wp2;go_ret;obtain⟨f,i⟩:=b.out.pop;exact⟨rfl,_,f,i.mono (λj d=>RP d),rfl⟩
def bJ.push{o:Obj}{p:aT}(h:bJ w ab most vs vf rs fr)(b:w1.ownsRow 0 266 7 (J (A_ ⟨g,0,B_⟩) (rs.length+1) cap) (rs.length+1) (jy (rs++[p])))(e:(w.alloc o).grownBy w1 vs.ownBlock)(a:vs.ownBlock=A_ g\/g=H)(f:w.heap.size<=H):
  bJ (w1.setCell ⟨ab,1,B_⟩ (J (A_ ⟨g,0,B_⟩) (rs.length+1) cap)) ab most (J (A_ ⟨g,0,B_⟩) (rs.length+1) cap) vf (rs++[p]) fr
  /\Out (bF ab vs vf) w (w1.setCell ⟨ab,1,B_⟩ (J (A_ ⟨g,0,B_⟩) (rs.length+1) cap))/\aK w (bF ab vs vf) (bF ab (J (A_ ⟨g,0,B_⟩) (rs.length+1) cap) vf):=by
 have o1:Out (λk=>vs.ownBlock=A_ k) w w1:=(Out.of_below (aM w o) au).trans (Out.uf e (λk hk=>hk)) (aK.refl _ _);have c:w1.heap[ab]? = A_ (R #[U G most,vs,vf] 246 (0,0)):=aH h.box o1 (bM h.slots h.box d7);have d:w1.ownsRow 0 3 1 vf fr.length (oW fr):=cu h.free o1 (λk hk=>nX h.free h.slots d7 hk);have o2:=bL w1 ⟨ab,1,B_⟩ (J (A_ ⟨g,0,B_⟩) (rs.length+1) cap);refine⟨⟨by simpa using bg (j:=1) (J (A_ ⟨g,0,B_⟩) (rs.length+1) cap) c,?_,WB d (bM d c d7) _⟩,?_,?_⟩
 ·rw[Sl,TG];exact WB b (bM b c d7) _
 ·exact(o1.mono (S':=bF ab vs vf) (λk hk=>RN (RP hk))).trans (o2.mono (S':=bF ab vs vf) (λk hk=>RP hk)) (aK.refl _ _)
 ·rintro k (rfl|hk|hk)
  ·exact RP (RP rfl)
  ·injection hk with hk
   change g=k at hk
   subst hk;rcases a with a|a
   ·exact RP (RN (RP a))
   ·exact RN o7
  ·exact RP (RN (RN hk))
def bAk(ab:Nat)(most:Int)(vs vf:D_)(rs:List aT)(w:C_)(h:bJ w ab most vs vf rs [])(B:rs.length<=1000000):
  Sj prog 242 #[E (A_ ⟨ab,0,B_⟩)] w
   λe w'=>e=Y (U G rs.length)/\∃vs',bJ w' ab most vs' vf (rs++[(B_,0)]) []/\Out (bF ab vs vf) w w'/\aK w (bF ab vs vf) (bF ab vs' vf):=by
 obtain⟨s,hi,l,m,n⟩:=info_parts aV6;have f:=ah h;have z:=aj (j:=1) h.box rfl;have q:=aj (j:=2) h.box rfl;have lb:=SK h.box;have o:Hid (vs.ownBlock≠A_ ab):=bM h.slots h.box d7;obtain⟨y,cap,rfl,_,_⟩:=lJ h.free;simp only[Ui]at q f;obtain⟨i,b,rfl,_,_⟩:=lJ h.slots;clear h;go_enter func242,ntmps242;go_wp2_with (at_builtin;go_loud (refine wpList_append_lies _ rfl _ _ 244 rfl 0 266 s (.agg #[U G 0,U G 0,U G 0,U G 0,U G 0,U G 0,.bool E_]) 7 56 underlying244 hi l m n rfl d7 (J i rs.length b) rs.length (jy rs) rfl (f.out.slots.alloc _) ⟨w.heap.size,0,B_⟩ 1 1 [U G 0,U G 0,U G 0,U G 0,U G 0,U G 0,.bool E_] rfl rfl (UL (cs:=#[U G 0,U G 0,U G 0,U G 0,U G 0,U G 0,.bool E_]) (t:=266) (fr:=(0,0)) (RU w _)) (by simp[Vk]) d7 (by unfold maxLen;omega) o7 (Sv _) (w.heap.size+1) s7 ?_);intro g A w1 d a k r;have c:=(a.block ab (by simp;omega) (Ne.symm o.out)).trans ((Below.heap_alloc _ _ _ lb).trans f.out.box);have C:=aj (j:=1) c rfl;have D:=aI (j:=1) c);go_ret;obtain⟨u,v,x⟩:=f.out.push (p:=(B_,0)) (by rw[bFw];exact d) a k o7;exact⟨by first|rfl|(apply RJ;go_num),_,u,v,x⟩
def bAi(ab:Nat)(most:Int)(vs vf:D_)(rs:List aT)(fr:List Nat)(k:Nat)(f:List aT)(c:List Nat)(w:C_)(h:bJ w ab most vs vf rs fr)(g:zn rs fr k f c)(l:rs.length<=1000000)(i:fr.length<=1000000):
  Sj prog 242 #[E (A_ ⟨ab,0,B_⟩)] w
   λe w'=>e=Y (U G k)/\∃b a,bJ w' ab most b a f c/\Out (bF ab vs vf) w w'/\aK w (bF ab vs vf) (bF ab b a):=by
 rcases g with⟨rfl,rfl⟩|⟨rfl,rfl,rfl,rfl⟩
 ·refine(bAj ab most vs vf _ c k w h (by simp at i;omega)).mono ?_;rintro e w1 ⟨rfl,a,h1,h2,h3⟩;refine⟨rfl,vs,a,h1,h2,?_⟩;rintro j (d|d|d)
  ·exact RP (RP d)
  ·exact RP (RN (RP d))
  ·exact RP (RN (RN (h3▸d)))
 ·refine(bAk ab most vs vf _ w h l).mono ?_;rintro e w1 ⟨rfl,b,h1,h2,h3⟩;exact⟨rfl,b,vf,h1,h2,h3⟩
def bAh(ab:Nat)(most:Int)(vs vf:D_)(rs:List aT)(fr:List Nat)(x:Ord)(w:C_)(h:bJ w ab most vs vf rs fr)(d:rs.length<=1000000)(f:jf rs+fr.length=rs.length)(a:(jf rs:Int)=most):
  Sj prog 227 #[E (A_ ⟨ab,0,B_⟩),x.agg] w
   λe w'=>e=Y (.tuple #[.agg #[U G 0,U G 0],.iface 30 (U G 12)])/\Sd w.heap.size w w':=by
 have b:=ah h;have g:=aj (j:=0) h.box rfl;have lb:=SK h.box;have c:=ah a;clear h a;unfold Ord.agg;go_enter func227,ntmps227;go_wp2_with fail;go_quiet (first|(go_at_call 218;refine Calls.quiet_of (Ni ab most vs vf rs fr most _ (b.out.below (Xw (gu _ _ _) _) au) d c.out f)));go_wp2;refine UA (by simp[results,results227,go_sem];try rfl) rfl ?_;exact⟨rfl,((Xw (gu _ _ _) _).setCell s7 _).setCell s7 _⟩
def bJ.bCp{x:Ord}(h:bJ w ab most (J (A_ ⟨g,0,B_⟩) n cap) vf rs fr)(hk:k<rs.length):
  bJ ((((((w.setCell ⟨g,k*7,B_⟩ (U G x.id)).setCell ⟨g,k*7+1,B_⟩ (U G x.side)).setCell ⟨g,k*7+2,B_⟩ (U G x.kind)).setCell ⟨g,k*7+3,B_⟩ (U G x.price)).setCell ⟨g,k*7+4,B_⟩ (U G x.ak)).setCell ⟨g,k*7+6,B_⟩ (.bool G_)) ab most (J (A_ ⟨g,0,B_⟩) n cap) vf (rs.set k (A_ x,(aW rs k).2)) fr
  /\Out (λj=>j=g) w ((((((w.setCell ⟨g,k*7,B_⟩ (U G x.id)).setCell ⟨g,k*7+1,B_⟩ (U G x.side)).setCell ⟨g,k*7+2,B_⟩ (U G x.kind)).setCell ⟨g,k*7+3,B_⟩ (U G x.price)).setCell ⟨g,k*7+4,B_⟩ (U G x.ak)).setCell ⟨g,k*7+6,B_⟩ (.bool G_)):=by
 obtain rfl:=Iw h.slots;obtain⟨h1,h2,h3,e⟩:=bJ.raw h.box h.slots h.free (k*7) (U G x.id) (U G x.side) (U G x.kind) (U G x.price) (U G x.ak);obtain⟨a,b,c,d⟩:=yL h1 h2 h3 (k*7+6) (.bool G_);refine⟨⟨a,?_,c⟩,e.trans d (aK.refl _ _)⟩;rw[List.length_set,<-aIf hk];exact b
def bAg(ab:Nat)(most:Int)(vs vf:D_)(rs:List aT)(fr:List Nat)(x:Ord)(k:Nat)(a:List aT)(f:List Nat)(w:C_)(h:bJ w ab most vs vf rs fr)(H:rs.length<=1000000)(hs:jf rs+fr.length=rs.length)(I:¬(jf rs:Int)=most)(F:zn rs fr k a f)(hk:k<a.length):
  Sj prog 227 #[E (A_ ⟨ab,0,B_⟩),x.agg] w
   λe w'=>e=Y (.tuple #[.agg #[U G k,U G (aW a k).2],.nilIface])/\∃o d,bJ w' ab most o d (a.set k (A_ x,(aW a k).2)) f/\Out (bF ab vs vf) w w'/\aK w (bF ab vs vf) (bF ab o d):=by
 have p:=ah h;have O:=ah F;have S:=aj (j:=0) h.box rfl;have lb:=SK h.box;have B:=RG.2 I;clear h I F;unfold Ord.agg;go_enter func227,ntmps227;go_wp2_with fail;go_quiet (first|(go_at_call 218;refine Calls.quiet_of (Ni ab most vs vf rs fr (jf rs) _ (p.out.below (Xw (gu _ _ _) _) au) H rfl hs)));go_wp2_with fail;have i:=Xw (gu w (R #[U G x.id,U G x.side,U G x.kind,U G x.price,U G x.ak] 155) (R #[U G 0,U G 0] 206)) nq;have n:=QX nq (rz w (R #[U G x.id,U G x.side,U G x.kind,U G x.price,U G x.ak] 155) (R #[U G 0,U G 0] 206));have m:=QX nq (pR w (R #[U G x.id,U G x.side,U G x.kind,U G x.price,U G x.ak] 155) (R #[U G 0,U G 0] 206));generalize((w.alloc (R #[U G x.id,U G x.side,U G x.kind,U G x.price,U G x.ak] 155)).alloc (R #[U G 0,U G 0] 206)).drewN nq=wq at i n m⊢;have q:=ah i;have z:=ah n;have r:=ah m;clear i n m B S;refine(bAi ab most vs vf rs fr k a f wq (p.out.below q.out au) O.out H o7).mono ?_;rintro e w1 ⟨rfl,o,d,h1,h2,h3⟩;obtain⟨g,cap,rfl,d0,V,W,X,Z,d5,d6⟩:=h1.slot hk rfl rfl rfl;have f0:=h1.slots.frozenAt (k*7);have f1:=h1.slots.frozenAt (k*7+1);have f2:=h1.slots.frozenAt (k*7+2);have f3:=h1.slots.frozenAt (k*7+3);have f4:=h1.slots.frozenAt (k*7+4);have f6:=h1.slots.frozenAt (k*7+6);have b:=aH z.out h2 (λe=>by have:=p.out.lt e;omega);have l:=aH r.out h2 (λe=>by have:=p.out.lt e;omega);have C:w.heap.size+1≠g:=λe=>bM h1.slots l d7 (by rw[e];rfl)
 have K:w.heap.size≠g:=λe=>bM h1.slots b d7 (by rw[e];rfl)
 have z0:=aj (j:=0) b rfl;have z1:=aj (j:=1) b rfl;have z2:=aj (j:=2) b rfl;have z3:=aj (j:=3) b rfl;have z4:=aj (j:=4) b rfl;have T:=aj (j:=1) h1.box rfl;have y:=ah l;have M:=ah h1;have N:=ah h2;have v:=ah h3;clear h1 h2 h3 l b;have q1:(0:Int)<=(k:Int):=o7;have q2:(k:Int)<a.length:=o7;go_upto_region 6 with fail;obtain⟨t,u⟩:=M.out.bCp (x:=x) hk;have lq:=SK r.out;have c:=aH y.out u (λe=>C e);generalize((((((w1.setCell ⟨g,k*7,B_⟩ (U G x.id)).setCell ⟨g,k*7+1,B_⟩ (U G x.side)).setCell ⟨g,k*7+2,B_⟩ (U G x.kind)).setCell ⟨g,k*7+3,B_⟩ (U G x.price)).setCell ⟨g,k*7+4,B_⟩ (U G x.ak)).setCell ⟨g,k*7+6,B_⟩ (.bool G_))=wz at t u c⊢;obtain⟨_,g',D,hv,_,_,_,_,_,e5,_⟩:=t.has (Al _ hk);simp only[TD,Sk,Addr.mk.injEq,and_true]at hv;obtain⟨rfl,_,rfl⟩:=hv;have P:Hid _:=t;have Q:Hid _:=u;have x0:=aj (j:=0) c rfl;have x1:=aj (j:=1) c rfl;have y0:=aI (j:=0) c;have y1:=aI (j:=1) c;clear d0 V W X Z d5 d6 f0 f1 f2 f3 f4 f6 z0 z1 z2 z3 z4 T t u c q1 q2;go_wp2;refine UA (by simp[results,results227,go_sem,x0,x1];try rfl) rfl ?_
 have sep:∀j,bF ab (J (A_ ⟨g,0,B_⟩) a.length cap) d j->¬j=w.heap.size+1:=λj A e=>by
  rcases v.out j A with s|s
  ·have:=p.out.lt s;omega
  ·omega
 have s1:=bL wz ⟨w.heap.size+1,0,B_⟩ (U G k);have s2:=bL (wz.setCell ⟨w.heap.size+1,0,B_⟩ (U G k)) ⟨w.heap.size+1,1,B_⟩ (U G (aW a k).2);have L:=s1.trans s2 (aK.refl _ _);refine⟨rfl,_,d,P.out.out L sep,?_,λj A=>(v.out j A).imp id (λs=>by omega)⟩;refine((((Out.of_below q.out au).trans N.out (aK.refl _ _)).trans Q.out ?_).trans L ?_)
 ·rintro j rfl;exact(v.out j (RN (RP rfl))).imp id (λs=>by omega)
 ·rintro j rfl;exact RN s7
def aLs{id:Nat}{Q:Exit->Act->C_->Prop}{a:Act}{l:List Oper}(n:Nat)(c:P.follows .mixedOrders=G_)(b:Region.lexTailB .any l.toArray n=G_)(h:wpStill P l.toArray w.drew (λa'=>wpList P l.toArray Q (l.drop n) a' w.drew) (l.take n) a):(Code.region id l.toArray G_).wp P Q a w:=wp_region_still_tail n c b h
def KL(w:C_)(g k:Nat)(a:Int):C_:=((((((w.setCell ⟨g,k*7,B_⟩ (U G 0)).setCell ⟨g,k*7+1,B_⟩ (U G 0)).setCell ⟨g,k*7+2,B_⟩ (U G 0)).setCell ⟨g,k*7+3,B_⟩ (U G 0)).setCell ⟨g,k*7+4,B_⟩ (U G 0)).setCell ⟨g,k*7+5,B_⟩ (U G a)).setCell ⟨g,k*7+6,B_⟩ (.bool E_)
def bJ.clear{a:Int}(h:bJ w ab most (J (A_ ⟨g,0,B_⟩) n cap) vf rs fr)(hk:k<rs.length):
  bJ (KL w g k a) ab most (J (A_ ⟨g,0,B_⟩) n cap) vf (rs.set k (B_,a)) fr/\Out (λj=>j=g) w (KL w g k a):=by
 obtain rfl:=Iw h.slots;obtain⟨h1,h2,h3,i⟩:=bJ.raw h.box h.slots h.free (k*7) (U G 0) (U G 0) (U G 0) (U G 0) (U G 0);obtain⟨b,c,d,f⟩:=yL h1 h2 h3 (k*7+5) (U G a);obtain⟨l,m,o,p⟩:=yL b c d (k*7+6) (.bool E_);refine⟨⟨l,?_,o⟩,(i.trans f (aK.refl _ _)).trans p (aK.refl _ _)⟩;have e:=aIg (B_,a) hk;rw[List.length_set,<-e];exact m
def aF9(w:C_)(b:Nat)(u0 u1 u2 u3 u4:D_):Out (λj=>j=b) w (((((w.setCell ⟨b,0,B_⟩ u0).setCell ⟨b,1,B_⟩ u1).setCell ⟨b,2,B_⟩ u2).setCell ⟨b,3,B_⟩ u3).setCell ⟨b,4,B_⟩ u4):=
 ((((bL w ⟨b,0,B_⟩ u0).trans (bL _ ⟨b,1,B_⟩ u1) (aK.refl _ _)).trans (bL _ ⟨b,2,B_⟩ u2) (aK.refl _ _)).trans (bL _ ⟨b,3,B_⟩ u3) (aK.refl _ _)).trans (bL _ ⟨b,4,B_⟩ u4) (aK.refl _ _)
def bJ.freed{o:Obj}(h:bJ w ab most vs vf rs fr)(b:w1.ownsRow 0 3 1 (J (A_ ⟨g,0,B_⟩) (fr.length+1) cap) (fr.length+1) (oW (fr++[k])))(e:(w.alloc o).grownBy w1 vf.ownBlock)(a:vf.ownBlock=A_ g\/g=H)(f:w.heap.size<=H):
  bJ (w1.setCell ⟨ab,2,B_⟩ (J (A_ ⟨g,0,B_⟩) (fr.length+1) cap)) ab most vs (J (A_ ⟨g,0,B_⟩) (fr.length+1) cap) rs (fr++[k])
  /\Out (bF ab vs vf) w (w1.setCell ⟨ab,2,B_⟩ (J (A_ ⟨g,0,B_⟩) (fr.length+1) cap))/\aK w (bF ab vs vf) (bF ab vs (J (A_ ⟨g,0,B_⟩) (fr.length+1) cap)):=by
 have o1:Out (λk=>vf.ownBlock=A_ k) w w1:=(Out.of_below (aM w o) au).trans (Out.uf e (λk hk=>hk)) (aK.refl _ _);have c:w1.heap[ab]? = A_ (R #[U G most,vs,vf] 246 (0,0)):=aH h.box o1 (bM h.free h.box d7);have d:w1.ownsRow 0 266 7 vs rs.length (jy rs):=cu h.slots o1 (λk hk=>nX h.slots h.free d7 hk);have o2:=bL w1 ⟨ab,2,B_⟩ (J (A_ ⟨g,0,B_⟩) (fr.length+1) cap);refine⟨⟨by simpa using bg (j:=2) (J (A_ ⟨g,0,B_⟩) (fr.length+1) cap) c,WB d (bM d c d7) _,?_⟩,?_,?_⟩
 ·rw[Sl,TG];exact WB b (bM b c d7) _
 ·exact(o1.mono (S':=bF ab vs vf) (λk hk=>RN (RN hk))).trans (o2.mono (S':=bF ab vs vf) (λk hk=>RP hk)) (aK.refl _ _)
 ·rintro k (rfl|hk|hk)
  ·exact RP (RP rfl)
  ·exact RP (RN (RP hk))
  ·injection hk with hk
   change g=k at hk
   subst hk;rcases a with a|a
   ·exact RP (RN (RN a))
   ·exact RN o7
def bAm(ab:Nat)(most:Int)(vs vf:D_)(rs:List aT)(fr:List Nat)(k:Nat)(o:Ord)(a:Int)(w:C_)(h:bJ w ab most vs vf rs fr)(hk:aW rs k=(A_ o,a))(hl:rs.length<=1000000)(b1:fr.length<=rs.length)(H:0<=a/\a<=1000000):
  Sj prog 140 #[E (A_ ⟨ab,0,B_⟩),.agg #[U G k,U G a]] w
   λe w'=>e=Y (.tuple #[o.agg,.nilIface])/\∃vf',bJ w' ab most vs vf' (rs.set k (B_,a+1)) (fr++[k])/\Out (bF ab vs vf) w w'/\aK w (bF ab vs vf) (bF ab vs vf'):=by
 obtain⟨i0,hi,a7,a8,a9⟩:=info_parts aV3;have O:=ah h;have HK:=ah hk;have HG:=ah H;clear h H hk;go_enter func140,ntmps140;go_wp2_with fail;refine(Nh ab most vs vf rs fr k o a _ (O.out.below (gu _ _ _) au) HK.out).mono ?_;rintro e w1 ⟨V,rfl⟩;have z:=(V.block (w.heap.size) (by simp;omega)).trans (rz w _ _);have B:=(V.block (w.heap.size+1) s7).trans (pR w _ _);have Z:Hid _:=B;have X:Hid (Sd w.heap.size w w1):=aJ (gu w _ _) V;unfold Ord.agg;go_upto_region 4 with fail;have z:=aL z (aM w1 (R #[U G o.id,U G o.side,U G o.kind,U G o.price,U G o.ak] 155)) au;have B:=aL B (aM w1 (R #[U G o.id,U G o.side,U G o.kind,U G o.price,U G o.ak] 155)) au;have W:=RU w1 (R #[U G o.id,U G o.side,U G o.kind,U G o.price,U G o.ak] 155);have x:Hid (Sd w.heap.size w (w1.alloc (R #[U G o.id,U G o.side,U G o.kind,U G o.price,U G o.ak] 155))):=aJ X.out (aM _ _);generalize w1.alloc (R #[U G o.id,U G o.side,U G o.kind,U G o.price,U G o.ak] 155)=wa at z B W x⊢;have m:w.heap.size<=w1.heap.size:=X.out.size;have n:w1.heap.size≠w.heap.size+1:=λe=>by have:=SK Z.out;omega
 generalize w1.heap.size=xb at W m n⊢;have a0:=ah m;have a1:=ah n;clear V X m n;have HH:=ah z;have HR:=ah B;have HX:=ah W;have f:Hid (bJ wa ab most vs vf rs fr):=O.out.below x.out au;obtain⟨a4,g,cap,rfl,d0,d1,d2,d3,d4,d5,d6⟩:=f.out.has HK.out;have x0:=aj (j:=0) z rfl;have x1:=aj (j:=1) z rfl;have c1:=aj (j:=1) f.out.box rfl;have f0:=f.out.slots.frozenAt (k*7);have f1:=f.out.slots.frozenAt (k*7+1);have f2:=f.out.slots.frozenAt (k*7+2);have f3:=f.out.slots.frozenAt (k*7+3);have f4:=f.out.slots.frozenAt (k*7+4);have f5:=f.out.slots.frozenAt (k*7+5);have f6:=f.out.slots.frozenAt (k*7+6);have q0:IntKind.i64.wrap (a+1)=a+1:=IntWalk.i64_in _ (by have:=HG.out;omega);have q1:(0:Int)<=(k:Int):=o7;have q2:(k:Int)<rs.length:=o7;clear z B W;refine aLs 11 k7 k7 ?_;simp only[List.take_succ_cons,List.take_zero,List.drop_succ_cons,List.drop_zero]
 repeat still_step
 try refine wpStill_nil ?_
 go_upto_region 5 with fail;obtain⟨v,l⟩:=f.out.clear (a:=a+1) a4;unfold KL at v l;generalize a6:((((((wa.setCell ⟨g,k*7,B_⟩ (U G 0)).setCell ⟨g,k*7+1,B_⟩ (U G 0)).setCell ⟨g,k*7+2,B_⟩ (U G 0)).setCell ⟨g,k*7+3,B_⟩ (U G 0)).setCell ⟨g,k*7+4,B_⟩ (U G 0)).setCell ⟨g,k*7+5,B_⟩ (U G (a+1))).setCell ⟨g,k*7+6,B_⟩ (.bool E_)=w2 at v l⊢;clear a6;have K:=aH HH.out l (λe=>bM f.out.slots HH.out d7 (by rw[e];rfl));have M:=aH HR.out l (λe=>bM f.out.slots HR.out d7 (by rw[e];rfl));have N:=aH HX.out l (λe=>bM f.out.slots HX.out d7 (by rw[e];rfl));have i:Hid (bJ w2.drew ab most (J (A_ ⟨g,0,B_⟩) rs.length cap) vf (rs.set k (B_,a+1)) fr):=v.below (RS w2.heap.size w2).drew au;have C:Hid (Out (bF ab (J (A_ ⟨g,0,B_⟩) rs.length cap) vf) wa w2.drew):=(l.mono (S':=bF ab (J (A_ ⟨g,0,B_⟩) rs.length cap) vf) (λj A=>RN (RP (by rw[A];rfl)))).trans (Out.of_below (RS w2.heap.size w2).drew au) (aK.refl _ _);have q:Hid (w2.drew.heap[w.heap.size]? = A_ (R #[U G k,U G a] 206 (0,0))):=K;have r:Hid (w2.drew.heap[w.heap.size+1]? = A_ (R #[U G 0,U G 0,U G 0,U G 0,U G 0] 155 (0,0))):=M;have s:Hid (w2.drew.heap[xb]? = A_ (R #[U G o.id,U G o.side,U G o.kind,U G o.price,U G o.ak] 155 (0,0))):=N;clear v l K M N d0 d1 d2 d3 d4 d5 d6 x0 x1 c1 f0 f1 f2 f3 f4 f5 f6 q0 q1 q2;generalize w2.drew=w3 at i C q r s⊢;have y0:w3.cell? ⟨w.heap.size,0,B_⟩=A_ (.int .i64 k):=aj (j:=0) q.out rfl;have ly:=SK q.out;have z2:w3.cell? ⟨ab,2,B_⟩=A_ vf:=aj (j:=2) i.out.box rfl;have lz:=SK i.out.box;have A1:vf.ownBlock≠A_ ab:=bM i.out.free i.out.box d7;have A2:vf.ownBlock≠A_ w.heap.size:=bM i.out.free q.out d7;have A3:vf.ownBlock≠A_ (w.heap.size+1):=bM i.out.free r.out d7;have A4:vf.ownBlock≠A_ xb:=bM i.out.free s.out d7;have lr:=SK r.out;have lx:=SK s.out;obtain⟨Q,P,rfl,_,_⟩:=lJ i.out.free;have fz:w3.frozen? ⟨ab,2,B_⟩=E_:=aI i.out.box;have fy:(w3.alloc (R #[U G k] 3)).drew.frozen? ⟨ab,2,B_⟩=E_:=((((RS w3.heap.size w3).alloc au _).drew).frozen (p:=⟨ab,2,B_⟩) lz).trans fz;go_region_law ((refine step_append_lies _ r7 _ _ _ r7 0 3 i0 (U G 0) 1 8 underlying99 hi a7 a8 a9 rfl o7 (J Q fr.length P) fr.length (oW fr) r7 ((i.out.free.alloc _).drew) ⟨w3.heap.size,0,B_⟩ 1 1 [U G k] r7 r7 (UL (cs:=#[U G k]) (t:=3) (fr:=(0,0)) (RU w3 _)) (by simp[Vk]) o7 (by unfold maxLen;omega) o7 (Sv _) (w3.heap.size+1) s7 ?_;intro g2 F w4 u b I a5;have y:=(b.block ab (by simp;omega) (Ne.symm A1)).trans ((((RS w3.heap.size w3).alloc au _).drew.block ab lz).trans i.out.box);have z4:=aj (j:=2) y rfl;have z5:=aI (j:=2) y))
 all_goals go_upto_region 6 with fail
 all_goals obtain⟨v,l,r3⟩:=i.out.freed (k:=k) (by rw[aCo];exact u) ⟨b.os,b.tape,b.output,b.size,b.block⟩ I o7
 all_goals have L:∀j,(w.heap.size<=j)->¬bF ab (J (A_ ⟨g,0,B_⟩) rs.length cap) (J Q fr.length P) j:=λj A e=>by have:=O.out.lt e;omega
 all_goals have c:=aH r.out l (L _ o7)
 all_goals have d:=aH s.out l (L _ (a0.out))
 all_goals generalize w4.setCell ⟨ab,2,B_⟩ (J (A_ ⟨g2,0,B_⟩) (fr.length+1) F)=w5 at v l r3 c d⊢
 all_goals have R1:Hid _:=v
 all_goals have R2:Hid _:=l
 all_goals have R3:Hid _:=r3
 all_goals have b2:xb≠w.heap.size+1:=a1.out
 all_goals have e0:=aj (j:=0) d rfl
 all_goals have e1:=aj (j:=1) d rfl
 all_goals have e2:=aj (j:=2) d rfl
 all_goals have e3:=aj (j:=3) d rfl
 all_goals have e4:=aj (j:=4) d rfl
 all_goals have u0:=aj (j:=0) c rfl
 all_goals have u1:=aj (j:=1) c rfl
 all_goals have u2:=aj (j:=2) c rfl
 all_goals have u3:=aj (j:=3) c rfl
 all_goals have u4:=aj (j:=4) c rfl
 all_goals have v0:=aI (j:=0) c
 all_goals have v1:=aI (j:=1) c
 all_goals have v2:=aI (j:=2) c
 all_goals have v3:=aI (j:=3) c
 all_goals have v4:=aI (j:=4) c
 all_goals clear v l r3 c d u b I a5 y z4 z5 fy fz z2 y0
 all_goals go_wp2
 all_goals refine UA (by simp[results,results140,go_sem,u0,u1,u2,u3,u4];try rfl) rfl ?_
 all_goals have s3:=aF9 w5 (w.heap.size+1) (U G o.id) (U G o.side) (U G o.kind) (U G o.price) (U G o.ak)
 all_goals have a3:=Out.of_below (S:=bF ab (J (A_ ⟨g,0,B_⟩) rs.length cap) (J Q fr.length P)) x.out au
 all_goals have D:=a3.trans C.out (aK.refl _ _)
 all_goals have a2:=D.trans R2.out (aK.refl _ _)
 all_goals have b0:aK w (bF ab (J (A_ ⟨g,0,B_⟩) rs.length cap) (J Q fr.length P)) _:=λj A=>(R3.out j A).imp id (λT=>RV D.size T)
 all_goals refine⟨rfl,_,R1.out.out s3 (λj A e=>?_),a2.trans s3 (λj A=>RN o7),b0⟩
 all_goals rcases R3.out j A with T|T
 all_goals first|(have:=O.out.lt T;omega)|omega
variable {mb:Nat}
variable {S:Nat->List Ly}
section
open Go.Maps
def Aj(k a s:Int):VN Unit:=.agg [.lit (.int .i64 k),.lit (.int .i64 a),.lit (.int .i64 s)]
def En(v:D_):Option (VN Unit×List Wn):=
 match v with
 | .agg ⟨[U G k,U G a,U G s]⟩=>A_ (Aj k a s,[])
 |_=>B_
def bB6(k a s:Int):En (.agg #[U G k,U G a,U G s])=A_ (Aj k a s,[]):=rfl
def aGu{k a s:Int}{ps:List Wn}(h:En v=A_ (Aj k a s,ps)):v=.agg #[.int .i64 k,.int .i64 a,.int .i64 s]:=by
 unfold En at h;split at h
 ·simp only[Aj,Sk,Prod.mk.injEq,DataW.agg.injEq,List.cons.injEq,DataW.lit.injEq,Tv.injEq,true_and,and_true]at h;obtain⟨⟨rfl,rfl,rfl⟩,_⟩:=h;rfl
 ·cases h
def BF:Maps.Keyed prog 3:=Maps.int_keyed underlying3
def BD{a:Int}(h:(Tv .i64 a).wf=G_):keyOf prog 3 (.int .i64 a)=A_ (.int .i64 a):=Maps.keyOf_int_mk underlying3 h
def aKm(w:C_):(zeroValue 208).run prog w=.ok (.agg #[U G 0,U G 0,U G 0]) w:=k7
def DX{a b:Int}(h:Tv .i64 a=Tv .i64 b):a=b:=by injection h
def Mj(a:Int):WideAt.IsKeyLit (.int .i64 a):=trivial
def gV(w:C_)(mb n:Nat)(S:Nat->List Ly):Prop:=
 ∃D:VN Unit,w.ownsMap prog 3 En mb n D/\(∀s,s<2->∀x∈S s,Maps.has D (.int .i64 x.o.id)=G_/\∀z,D.atKey (.int .i64 x.o.id) z=Aj x.slot x.age s)
  /\∀id:Int,(∀s,s<2->∀x∈S s,x.o.id≠id)->Maps.has D (.int .i64 id)=E_
def NC{k:RZ}{R:D_->Option (VN Unit×List Wn)}{D:VN Unit}(h:w.ownsMap P k R b n D)(c:w'.heap[b]? = w.heap[b]?):w'.ownsMap P k R b n D:=by
 obtain⟨es,a,h1,r⟩:=h;exact⟨es,a,c.trans h1,r⟩
def gV.same{mb:Nat}{S:Nat->List Ly}(h:gV w mb n S)(a:w'.heap[mb]? = w.heap[mb]?):gV w' mb n S:=by
 obtain⟨D,h1,r⟩:=h;exact⟨D,NC h1 a,r⟩
def gV.lt{mb:Nat}{S:Nat->List Ly}(h:gV w mb n S):mb<w.heap.size:=by
 obtain⟨D,h1,r⟩:=h;exact h1.lt
def gV.isMap{mb:Nat}{S:Nat->List Ly}(h:gV w mb n S):∃es a,w.heap[mb]? = A_ (.map es a):=by
 obtain⟨D,⟨es,a,h1,_⟩,_⟩:=h;exact⟨es,a,h1⟩
def gV.ne{mb:Nat}{S:Nat->List Ly}{vs:Array D_}{f:Nat×Nat}(h:gV w mb n S)(c:w.heap[b]? = A_ (R vs t f)):b≠mb:=λe=>by
 obtain⟨es,a,h1⟩:=h.isMap;rw[e,h1]at c;cases c
def gV.yes{mb:Nat}{S:Nat->List Ly}(h:gV w mb n S)(c:s<2)(e:x∈S s)(d:(Tv .i64 x.o.id).wf=G_):
  (Instr.lookup 195 (.map (A_ mb)) (U G x.o.id) G_).run prog w=.ok (.tuple #[.agg #[U G x.slot,U G x.age,U G s],.bool G_]) w:=by
 obtain⟨D,h1,h2,_⟩:=h;obtain⟨v,ps,a,hv⟩:=h1.look_ok BF underlying195 (aKm w) (zd:=Aj 0 0 0) (zp:=[]) rfl (BD d);obtain⟨h3,b⟩:=h2 s c x e;rw[h3]at a;rw[b]at hv;rw[a,aGu hv]
def gV.no{mb:Nat}{S:Nat->List Ly}{id:Int}(h:gV w mb n S)(c:∀s,s<2->∀x∈S s,x.o.id≠id)(b:(Tv .i64 id).wf=G_):
  (Instr.lookup 195 (.map (A_ mb)) (.int .i64 id) G_).run prog w=.ok (.tuple #[.agg #[.int .i64 0,.int .i64 0,.int .i64 0],.bool E_]) w:=by
 obtain⟨D,h1,_,h2⟩:=h;obtain⟨v,ps,a,hv⟩:=h1.look_ok BF underlying195 (aKm w) (zd:=Aj 0 0 0) (zp:=[]) rfl (BD b);have h3:=h2 id c;rw[h3]at a;rw[Maps.atKey_of_not_has h3]at hv;rw[a,aGu hv]
def Pk{mb:Nat}(h:w.mapTurned w' mb):Out (λj=>j=mb) w w':=Out.uf h.grown (λk hk=>by injection hk with hk;exact hk.symm)
def gV.put{mb:Nat}{S:Nat->List Ly}(h:gV w mb n S)(i:s<2)(p:(Tv .i64 x.o.id).wf=G_)(hn:n<1000000)(g:∀t,t<2->∀y∈S t,y.o.id≠x.o.id)(f:∀t,t<2->∀y,y∈S' t↔((t=s/\y=x)\/y∈S t)):
  ∃w',(Instr.mapUpdate 195 (.map (A_ mb)) (U G x.o.id) (.agg #[U G x.slot,U G x.age,U G s])).run prog w=.ok () w'/\gV w' mb (n+1) S'/\Out (λj=>j=mb) w w':=by
 obtain⟨D,h1,h2,h3⟩:=h;obtain⟨w',m,k,l⟩:=h1.store BF underlying195 (by unfold maxLen;omega) (BD p) (bB6 x.slot x.age s);refine⟨w',m,⟨_,k,λt b y c=>?_,λid d=>?_⟩,Pk l⟩
 ·rcases(f t b y).1 c with⟨rfl,rfl⟩|c
  ·exact⟨Maps.has_put_same h1.isMap (Mj _) _,λz=>Maps.atKey_put_same h1.isMap (Mj _) _ _⟩
  ·have a:Tv .i64 y.o.id≠Tv .i64 x.o.id:=λe=>g t b y c (DX e)
   rw[Maps.has_put_other a];exact⟨(h2 t b y c).1,λz=>by rw[Maps.atKey_put_other a];exact(h2 t b y c).2 z⟩
 ·have a:Tv .i64 id≠Tv .i64 x.o.id:=λe=>d s i x ((f s i x).2 (RP ⟨rfl,rfl⟩)) (DX e).symm
  rw[Maps.has_put_other a];exact h3 id (λt b y c=>d t b y ((f t b y).2 (RN c)))
def gV.del{mb:Nat}{S:Nat->List Ly}(h:gV w mb n S)(q:(Tv .i64 x.o.id).wf=G_)(k:∀t,t<2->∀y,y∈S' t↔(y∈S t/\y.o.id≠x.o.id))(ty:RZ):
  ∃w',(Builtin.delete_ #[195,3] ty #[.map (A_ mb),U G x.o.id]).run prog w=.ok (.tuple #[]) w'/\gV w' mb n S'/\Out (λj=>j=mb) w w':=by
 obtain⟨D,h1,h2,h3⟩:=h;obtain⟨w',p,l,m⟩:=h1.drop BF underlying195 (BD q) ty;refine⟨w',p,⟨_,l,λt b y c=>?_,λid i=>?_⟩,Pk m⟩
 ·obtain⟨c,d⟩:=(k t b y).1 c;have a:Tv .i64 y.o.id≠Tv .i64 x.o.id:=λe=>d (DX e)
  rw[Maps.has_del_other a];exact⟨(h2 t b y c).1,λz=>by rw[Maps.atKey_del_other a];exact(h2 t b y c).2 z⟩
 ·by_cases e:id=x.o.id
  ·subst e;exact Maps.has_del_same
  ·have a:Tv .i64 id≠Tv .i64 x.o.id:=λf=>e (DX f)
   rw[Maps.has_del_other a];exact h3 id (λt b y c f=>i t b y ((k t b y).2 ⟨c,λg=>e (f.symm.trans g)⟩) f)
def gV.like{mb:Nat}{S:Nat->List Ly}(h:gV w mb n S)(h1:∀t,t<2->∀y∈S' t,∃z∈S t,z.o.id=y.o.id/\z.slot=y.slot/\z.age=y.age)(h2:∀t,t<2->∀z∈S t,∃y∈S' t,y.o.id=z.o.id):gV w mb n S':=by
 obtain⟨D,a,b,c⟩:=h;refine⟨D,a,λt d y g=>?_,λid f=>c id (λt d z i=>?_)⟩
 ·obtain⟨z,i,e1,e2,j⟩:=h1 t d y g;rw[<-e1,<-e2,<-j];exact b t d z i
 ·obtain⟨y,g,e⟩:=h2 t d z i;rw[<-e];exact f t d y g
structure dL(w:C_)(bb ab mb n:Nat)(vs vf v0 v1:D_)(rs:List aT)(fr:List Nat)(S:Nat->List Ly):Prop where
 box:w.heap[bb]? = A_ (R #[E (A_ ⟨ab,0,B_⟩),.map (A_ mb),v0,v1] 199 (0,0))
 ar:bJ w ab 100 vs vf rs fr
 map:gV w mb n S
 row0:w.ownsRow 0 206 2 v0 (S 0).length (hV (S 0))
 kr:w.ownsRow 0 206 2 v1 (S 1).length (hV (S 1))
 apart:∀k,v0.ownBlock=A_ k->v1.ownBlock≠A_ k
def vw(bb ab mb:Nat)(vs vf v0 v1:D_)(k:Nat):Prop:=k=bb\/bF ab vs vf k\/k=mb\/v0.ownBlock=A_ k\/v1.ownBlock=A_ k
def dL.lt(h:dL w bb ab mb n vs vf v0 v1 rs fr S)(hk:vw bb ab mb vs vf v0 v1 k):k<w.heap.size:=by
 rcases hk with rfl|hk|rfl|hk|hk
 ·exact SK h.box
 ·exact h.ar.lt hk
 ·exact h.map.lt
 ·exact(h.row0.lt k hk).2
 ·exact(h.kr.lt k hk).2
def dL.out{T:Nat->Prop}(h:dL w bb ab mb n vs vf v0 v1 rs fr S)(ho:Out T w w')(a:∀k,vw bb ab mb vs vf v0 v1 k->¬T k):dL w' bb ab mb n vs vf v0 v1 rs fr S:=
 ⟨aH h.box ho (a bb (RP rfl)),h.ar.out ho (λk hk=>a k (RN (RP hk))),h.map.same (ho.block mb h.map.lt (a mb (RN (RN (RP rfl))))),
  cu h.row0 ho (λk hk=>a k (RN (RN (RN (RP hk))))),cu h.kr ho (λk hk=>a k (RN (RN (RN (RN hk))))),h.apart⟩
def dL.below(h:dL w bb ab mb n vs vf v0 v1 rs fr S)(b:Sd B w w')(a:w.heap.size<=B):dL w' bb ab mb n vs vf v0 v1 rs fr S:=
 h.out (T:=λ_=>False) (Out.of_below b a) (λ_ _ e=>e)
def dL.above(h:dL w bb ab mb n vs vf v0 v1 rs fr S)(a:Sd B w w')(b:∀k,vw bb ab mb vs vf v0 v1 k->k<B):dL w' bb ab mb n vs vf v0 v1 rs fr S:=
 h.out (T:=λk=>B<=k) ⟨a.os,a.tape,a.output,a.size,λk hk c=>a.block k o7⟩ (λk hk e=>by have:=b k hk;omega)
def dL.Nc(h:dL w bb ab mb n vs vf v0 v1 rs fr S):¬bF ab vs vf bb:=λe=>by
 rcases e with e|e|e
 ·exact kY h.box h.ar.box d7 e
 ·exact bM h.ar.slots h.box d7 e
 ·exact bM h.ar.free h.box d7 e
def dL.aZy(h:dL w bb ab mb n vs vf v0 v1 rs fr S)(hk:v0.ownBlock=A_ k):¬bF ab vs vf k:=λe=>by
 rcases e with e|e|e
 ·exact bM h.row0 (e▸h.ar.box) d7 hk
 ·exact nX h.row0 h.ar.slots d7 hk e
 ·exact nX h.row0 h.ar.free d7 hk e
def dL.aZz(h:dL w bb ab mb n vs vf v0 v1 rs fr S)(hk:v1.ownBlock=A_ k):¬bF ab vs vf k:=λe=>by
 rcases e with e|e|e
 ·exact bM h.kr (e▸h.ar.box) d7 hk
 ·exact nX h.kr h.ar.slots d7 hk e
 ·exact nX h.kr h.ar.free d7 hk e
def vo{size:Nat}(h:w.ownsRow a e size v k xs)(d:gV w mb n S):v.ownBlock≠A_ mb:=λhv=>by
 rcases h.2 with⟨rfl,_⟩|⟨g,cap,b,rfl,_,c,_⟩
 ·cases hv
 ·simp[Uf]at hv;subst hv;exact d.ne c rfl
def dL.aZx(h:dL w bb ab mb n vs vf v0 v1 rs fr S):¬bF ab vs vf mb:=λe=>by
 rcases e with e|e|e
 ·exact h.map.ne h.ar.box e.symm
 ·exact vo h.ar.slots h.map e
 ·exact vo h.ar.free h.map e
def dL.Ia{c b:D_}{a:List aT}{fr':List Nat}(h:dL w bb ab mb n vs vf v0 v1 rs fr S)(ho:Out (bF ab vs vf) w w')(d:bJ w' ab 100 c b a fr'):dL w' bb ab mb n c b v0 v1 a fr' S:=
 ⟨aH h.box ho h.Nc,d,h.map.same (ho.block mb h.map.lt h.aZx),cu h.row0 ho (λ_ hk=>h.aZy hk),cu h.kr ho (λ_ hk=>h.aZz hk),h.apart⟩
def eH(v0 v1:D_)(s:Nat):D_:=if s=0 then v0 else v1
def dL.row(h:dL w bb ab mb n vs vf v0 v1 rs fr S)(a:s<2):w.ownsRow 0 206 2 (eH v0 v1 s) (S s).length (hV (S s))/\w.cell? ⟨bb,2+s,B_⟩=A_ (eH v0 v1 s)/\w.frozen? ⟨bb,2+s,B_⟩=E_:=by
 match s,a with
 |0,_=>exact⟨h.row0,aj (j:=2) h.box rfl,aI h.box⟩
 |1,_=>exact⟨h.kr,aj (j:=3) h.box rfl,aI h.box⟩
end
section
attribute [local go_sem] Oper.semAt_some
attribute [local go_sem ↓] Go.wp_at_zero Go.wp_at_succ
structure kG(m Bb:Nat)(W W':C_):Prop where
 below:Sd m W W'
 box:∀vs t,W.heap[Bb]? = A_ (R vs t (0,0))->W'.heap[Bb]? = A_ (R vs t (0,0))
def kG.trans{B:C_}(h:kG m a A B)(k:kG m a B C):kG m a A C:=⟨h.below.trans k.below,λvs t e=>k.box vs t (h.box vs t e)⟩
def Mt{B:C_}(h:kG m a A B)(k:kG m a B C):kG m a A C:=h.trans k
def Ms{Bb:Nat}(g:m<=w.heap.size)(W:C_)(l:Nat)(o c:Obj)(f:w.heap.size<=l)(h:W.heap[l]? = A_ o)(b:o.isCells=E_)(i:o.isWalk=E_):kG m Bb W (W.putObj l c):=
 ⟨belowK_b g W l o c f h b i,λvs t e=>by
  have a:l≠Bb:=λd=>by subst d;rw[e]at h;injection h with h;subst h;cases b
  exact(World.putObj_heap_other (Ne.symm a)).trans e⟩
def kG.of_below{W':C_}(h:Sd W.heap.size W W')(b:m<=W.heap.size):kG m a W W':=⟨h.mono b,λ_ _ e=>aL e h au⟩
def GD{a:C_}(h:Sd W.heap.size W a):W.grownBy a B_:=⟨h.os,h.tape,h.output,h.size,λk hk _=>h.block k hk⟩
def Jw{l:List Ly}(h:k<l.length):(l.take (k+1)).map Ly.o=(l.take k).map Ly.o++[(dR l k).o]:=by
 rw[List.take_succ_eq_append_getElem h,TY,yD h];rfl
def aX4(n:Nat)(hn:1<=n)(l H Bs m bb ab mb nn s:Nat)(vs vf v0 v1:D_)(rs:List aT)(fr:List Nat)(S:Nat->List Ly)(J Jx:List Ord->C_->Prop)(hs:s<2)(b0:(S s).length<=1000)(u:∀x∈S s,aW rs x.slot=(A_ x.o,x.age))(hm:∀k,vw bb ab mb vs vf v0 v1 k->k<m)(W:C_)(a1:m<=W.heap.size)(hB:dL W bb ab mb nn vs vf v0 v1 rs fr S)(N:W.heap[H]? = A_ (.cells #[.pointer (A_ ⟨bb,0,B_⟩)] 147 (0,0)))(a8:W.cell? ⟨Bs,0,B_⟩=A_ (.int .i64 s))(hJ:AbidesFrom W.heap.size J)(hY:∀pre x W,J pre W->pre.length<(S s).length->YieldAt Fence.wide (n - 1) prog l #[Ord.agg x] W λe Q=>
   (e=.returned (.bool G_)/\J (pre++[x]) Q/\kG m H W Q)\/(e=.returned (.bool E_)/\Jx (pre++[x]) Q))(h0:J [] W):
  CallsIn Fence.wide n prog 205 #[.func (.yield l) #[] #[],.pointer (A_ ⟨H,0,B_⟩),.pointer (A_ ⟨Bs,0,B_⟩)] W λe Q=>(∃v,e=.returned v)/\
   ((∃ys,ys=(S s).map Ly.o/\J ys Q)\/(∃pre,pre <+:(S s).map Ly.o/\Jx pre Q)):=by
 obtain⟨D,hc,_⟩:=hB.row hs;have a6:=ah hB;have HM:=ah hm;have a7:=ah u;have HJ:=ah hJ;have HY:Hid _:=hY;have a5:=ah N;have cb:=aj (j:=0) N rfl;have Y:Hid _:=D;obtain⟨ao,cap,hv,_,_⟩:=lJ D;rw[hv]at hc Y;have q1:(0:Int)<=(s:Int):=o7;have q2:(s:Int)<2:=o7;clear hB hm u hJ hY N D;refine callsIn_of_wp func205 rfl trivial ?_ rfl;simp only[ntmps205,List.size_toArray,SC,Ui,Nat.reduceAdd,Nat.reduceSub,Array.replicate_succ,Array.replicate_zero,List.push_toArray,List.append_toArray,List.nil_append,List.cons_append]
 gi_wp2_with fail
 refine wpIn_wide.2 ?_;go_quiet (fail);have V:Hid (J ((([]:List Ly)).map Ly.o) (W.drewN nq)):=HJ.out [] W _ B_ h0 (GD (Xw (RS _ _) nq)) (λr e=>by cases e);have X:Hid (kG m H W (W.drewN nq)):=kG.of_below (Xw (RS _ _) nq) a1;generalize W.drewN nq=Wd at V X⊢;clear h0 a8 hc cb
 gi_wp2_with fail
 gi_loopw [15] (λi wr=>∃k:Nat,k<=(S s).length/\i=.int .i64 k/\J (((S s).take k).map Ly.o) wr/\kG m H W wr)
  (λi _=>(S s).length - (intOf i).toNat)
 case atStart=>exact⟨0,Sv _,rfl,V.out,X.out⟩
 case round=>
  obtain⟨k,hk,rfl,a0,O⟩:=hrel;have K:=ah a0;have F:=ah O;have a2:m<=wr.heap.size:=RV a1 O.below.size;clear a0 O
  by_cases t:k<(S s).length
  ·have T:=ah (a6.out.above F.out.below HM.out);have E:=(T.out.row hs).1;rw[hv]at E;obtain⟨g,a9,a4,_,_⟩:=E.form o7;simp only[TD,true_and]at a4;obtain⟨rfl,rfl⟩:=a4;have c0:=(E.cellAt (k*2) o7).trans (Bz t).1;have c1:=(E.cellAt (k*2+1) o7).trans (Bz t).2;have u:=a7.out _ (aEu t);have HO:Hid _:=u;generalize hx:dR (S s) k=x at c0 c1 u HO;have HX:=ah hx;clear E hx u
   gi_wp2_with fail
   refine wpIn_wide.2 ?_;have z:=aM wr (.cells #[.int .i64 x.slot,.int .i64 x.age] 206);have A:=RU wr (.cells #[.int .i64 x.slot,.int .i64 x.age] 206);generalize wr.alloc (.cells #[.int .i64 x.slot,.int .i64 x.age] 206)=wh at z A⊢;generalize wr.heap.size=hb0 at A⊢;have R:=ah z;have U:Hid (dL wh bb ab mb nn vs vf v0 v1 rs fr S):=T.out.below z au;have Z:=aL (F.out.box _ _ a5.out) z au;have e0:wh.cell? ⟨H,0,B_⟩=A_ (.pointer (A_ ⟨bb,0,B_⟩)):=aj (j:=0) Z rfl;have e1:wh.cell? ⟨bb,0,B_⟩=A_ (.pointer (A_ ⟨ab,0,B_⟩)):=aj (j:=0) U.out.box rfl;have e2:wh.cell? ⟨hb0,0,B_⟩=A_ (.int .i64 x.slot):=aj (j:=0) A rfl;have e3:wh.cell? ⟨hb0,1,B_⟩=A_ (.int .i64 x.age):=aj (j:=1) A rfl
   have HS:Hid (∀w',Sd wh.heap.size wh w'->(w'.cell? ⟨H,0,B_⟩=A_ (.pointer (A_ ⟨bb,0,B_⟩))/\w'.cell? ⟨bb,0,B_⟩=A_ (.pointer (A_ ⟨ab,0,B_⟩))/\w'.cell? ⟨hb0,0,B_⟩=A_ (.int .i64 x.slot)/\w'.cell? ⟨hb0,1,B_⟩=A_ (.int .i64 x.age)/\Sd wh.heap.size wh w')):=
    λw' h=>⟨Y_ h e0,Y_ h e1,Y_ h e2,Y_ h e3,h⟩
   clear z A Z e0 e1 e2 e3 c0 c1;have a3:=HS.out wh (RS _ _)
   go_region_held3 (λw'=>w'.cell? ⟨H,0,B_⟩=A_ (.pointer (A_ ⟨bb,0,B_⟩))/\w'.cell? ⟨bb,0,B_⟩=A_ (.pointer (A_ ⟨ab,0,B_⟩))/\w'.cell? ⟨hb0,0,B_⟩=A_ (.int .i64 x.slot)/\w'.cell? ⟨hb0,1,B_⟩=A_ (.int .i64 x.age)/\Sd wh.heap.size wh w')
    ((refine HS.out _ ?_;(repeat' first|assumption|exact RS _ _|exact au|refine Um ?_|refine TR ?_ ?_ _|refine aJ ?_ f|refine Zh ?_ ?_ _|(simp;done)|(simp;omega)|(have h9:=f.size;simp at h9⊢;omega))))
    (first|(go_at_call 193;refine(Nh ab 100 vs vf rs fr x.slot x.o x.age _ (U.out.ar.below (B:=wh.heap.size) ?_ au) HO.out).mono ?_;(repeat' first|assumption|exact RS _ _|exact au|refine Um ?_|refine TR ?_ ?_ _|refine aJ ?_ f|refine Zh ?_ ?_ _|(simp;done)|(simp;omega)|(have h9:=f.size;simp at h9⊢;omega));rintro e w1 ⟨f,rfl⟩;unfold Ord.agg;try(have a:=(f.block wh.heap.size s7).trans (RU wh _);have y0:=aj (j:=0) a rfl;have y1:=aj (j:=1) a rfl;have y2:=aj (j:=2) a rfl;have y3:=aj (j:=3) a rfl;have y4:=aj (j:=4) a rfl;have z0:=aI (j:=0) a;have z1:=aI (j:=1) a;have z2:=aI (j:=2) a;have z3:=aI (j:=3) a;have z4:=aI (j:=4) a)))
   rotate_right
   ·have c:=bg (j:=4) (.int .i64 x.o.ak) (bg (j:=3) (.int .i64 x.o.price) (bg (j:=2) (.int .i64 x.o.kind) (bg (j:=1) (.int .i64 x.o.side) (bg (j:=0) (.int .i64 x.o.id) a))));replace c:(((((w1.setCell ⟨wh.heap.size,0,B_⟩ (.int .i64 x.o.id)).setCell ⟨wh.heap.size,1,B_⟩ (.int .i64 x.o.side)).setCell ⟨wh.heap.size,2,B_⟩ (.int .i64 x.o.kind)).setCell ⟨wh.heap.size,3,B_⟩ (.int .i64 x.o.price)).setCell ⟨wh.heap.size,4,B_⟩ (.int .i64 x.o.ak)).heap[wh.heap.size]? = A_ (.cells #[.int .i64 x.o.id,.int .i64 x.o.side,.int .i64 x.o.kind,.int .i64 x.o.price,.int .i64 x.o.ak] 155 (0,0)):=c
    have b:Sd wr.heap.size wr (((((w1.setCell ⟨wh.heap.size,0,B_⟩ (.int .i64 x.o.id)).setCell ⟨wh.heap.size,1,B_⟩ (.int .i64 x.o.side)).setCell ⟨wh.heap.size,2,B_⟩ (.int .i64 x.o.kind)).setCell ⟨wh.heap.size,3,B_⟩ (.int .i64 x.o.price)).setCell ⟨wh.heap.size,4,B_⟩ (.int .i64 x.o.ak)):=by
     refine aJ R.out ?_;have h9:=f.size;have h8:Sd wh.heap.size wh w1:=aJ (aM wh _).drew f;exact((((h8.setCell (p:=⟨wh.heap.size,0,B_⟩) au _).setCell (p:=⟨wh.heap.size,1,B_⟩) au _).setCell (p:=⟨wh.heap.size,2,B_⟩) au _).setCell (p:=⟨wh.heap.size,3,B_⟩) au _).setCell (p:=⟨wh.heap.size,4,B_⟩) au _
    generalize((((w1.setCell ⟨wh.heap.size,0,B_⟩ (.int .i64 x.o.id)).setCell ⟨wh.heap.size,1,B_⟩ (.int .i64 x.o.side)).setCell ⟨wh.heap.size,2,B_⟩ (.int .i64 x.o.kind)).setCell ⟨wh.heap.size,3,B_⟩ (.int .i64 x.o.price)).setCell ⟨wh.heap.size,4,B_⟩ (.int .i64 x.o.ak)=wz at c b⊢;generalize wh.heap.size=xb at c⊢;have x0:=aj (j:=0) c rfl;have x1:=aj (j:=1) c rfl;have x2:=aj (j:=2) c rfl;have x3:=aj (j:=3) c rfl;have x4:=aj (j:=4) c rfl;obtain⟨fn,tmps,G,body,P,M⟩:=HY.out _ x.o wz (HJ.out _ wr wz B_ K.out (GD b) (λr e=>by cases e)) (by simp;omega);unfold Ord.agg at P;have I:=ah b;clear b c a3
    gi_wp2
    refine M.mono ?_;rintro e W3 (⟨rfl,y,C⟩|⟨rfl,d⟩)
    ·have q:Hid _:=y;have L:Hid _:=C;clear y C P M x0 x1 x2 x3 x4
     gi_wp2
     go_roundw
     case rel=>exact⟨k+1,o7,by simp,by rw[Jw t,HX.out];exact q.out,(F.out.trans (kG.of_below I.out a2)).trans L.out⟩
     case measure=>simp[intOf];omega
    ·have q:Hid _:=d;clear d P M x0 x1 x2 x3 x4
     gi_wp2
     refine UA (ZP rfl _ _ _) rfl ?_;refine⟨⟨_,rfl⟩,.inr ⟨_,?_,q.out⟩⟩;rw[<-HX.out,<-Jw t];exact(List.take_prefix _ _).map _
   ·have c:=RU w1 (.cells #[.int .i64 x.o.id,.int .i64 x.o.side,.int .i64 x.o.kind,.int .i64 x.o.price,.int .i64 x.o.ak] 155);have b:Sd wr.heap.size wr (w1.alloc (.cells #[.int .i64 x.o.id,.int .i64 x.o.side,.int .i64 x.o.kind,.int .i64 x.o.price,.int .i64 x.o.ak] 155)):=aJ R.out (aJ (w1:=w1) (aJ (w:=wh) (w1:=wh.drew) (RS _ _).drew f) (aM _ _));generalize w1.alloc (.cells #[.int .i64 x.o.id,.int .i64 x.o.side,.int .i64 x.o.kind,.int .i64 x.o.price,.int .i64 x.o.ak] 155)=wz at c b⊢;generalize w1.heap.size=xb at c⊢;have x0:=aj (j:=0) c rfl;have x1:=aj (j:=1) c rfl;have x2:=aj (j:=2) c rfl;have x3:=aj (j:=3) c rfl;have x4:=aj (j:=4) c rfl;obtain⟨fn,tmps,G,body,P,M⟩:=HY.out _ x.o wz (HJ.out _ wr wz B_ K.out (GD b) (λr e=>by cases e)) (by simp;omega);unfold Ord.agg at P;have I:=ah b;clear b c a3
    gi_wp2
    refine M.mono ?_;rintro e W3 (⟨rfl,y,C⟩|⟨rfl,d⟩)
    ·have q:Hid _:=y;have L:Hid _:=C;clear y C P M x0 x1 x2 x3 x4
     gi_wp2
     go_roundw
     case rel=>exact⟨k+1,o7,by simp,by rw[Jw t,HX.out];exact q.out,(F.out.trans (kG.of_below I.out a2)).trans L.out⟩
     case measure=>simp[intOf];omega
    ·have q:Hid _:=d;clear d P M x0 x1 x2 x3 x4
     gi_wp2
     refine UA (ZP rfl _ _ _) rfl ?_;refine⟨⟨_,rfl⟩,.inr ⟨_,?_,q.out⟩⟩;rw[<-HX.out,<-Jw t];exact(List.take_prefix _ _).map _
  ·obtain rfl:k=(S s).length:=o7
   gi_wp2_with fail
   go_end0;refine⟨⟨_,rfl⟩,.inl ⟨_,rfl,?_⟩⟩;have:=K.out
   rwa[List.take_length]at this
def MJ(n:Nat)(hn:1<=n)(b d m bb ab mb nn s:Nat)(vs vf v0 v1:D_)(rs:List aT)(fr:List Nat)(S:Nat->List Ly)(y:s<2)(a:(S s).length<=1000)(i:∀x∈S s,aW rs x.slot=(A_ x.o,x.age))(v:∀k,vw bb ab mb vs vf v0 v1 k->k<m)(w:C_)(g:m<=w.heap.size)(r:dL w bb ab mb nn vs vf v0 v1 rs fr S)(e:w.heap[b]? = A_ (.cells #[.pointer (A_ ⟨bb,0,B_⟩)] 147 (0,0)))(f:w.heap[d]? = A_ (.cells #[.int .i64 s] 3 (0,0))):
  SeqStopsK Fence.wide n prog 205 #[.pointer (A_ ⟨b,0,B_⟩),.pointer (A_ ⟨d,0,B_⟩)] (λx:Ord=>#[Ord.agg x]) (kG m b) (λz=>z=(S s).map Ly.o) (λp=>p <+:(S s).map Ly.o) (S s).length w:=
 λl J q W c t _ u h0=>aX4 n hn l b d m bb ab mb nn s vs vf v0 v1 rs fr S J q y a i v W (RV g c.size) (r.below c au) (aL e c au) (aj (j:=0) (aL f c au) rfl) t u h0
def MK(bb:Nat)(s:Int)(w:C_):Sj prog 164 #[E (A_ ⟨bb,0,B_⟩),U G s] w λe w'=>e=Y (.func (.func 205) #[] #[E (A_ ⟨w.heap.size,0,B_⟩),E (A_ ⟨w.heap.size+1,0,B_⟩)])
  /\w'=(w.alloc (R #[E (A_ ⟨bb,0,B_⟩)] 147)).alloc (R #[U G s] 3):=by
 go_enter func164,ntmps164;go_wp2;go_ret;exact⟨rfl,rfl⟩
def GX(s:Int)(w:C_):Sj prog 162 #[U G s] w λe w'=>e=Y (.bool (s == 1 || s == 2))/\w'=w:=by
 cases h1:(s == 1)with
 |true=>
  go_enter func162,ntmps162;go_wp2;go_ret;exact⟨rfl,rfl⟩
 |false=>
  cases h2:(s == 2)with
  |true=>
   go_enter func162,ntmps162;go_wp2;go_ret;exact⟨rfl,rfl⟩
  |false=>
   go_enter func162,ntmps162;go_wp2;go_ret;exact⟨rfl,rfl⟩
end
end Go.Proofs.YtpodibeogglplaaGreatDoor
