/- DeskAnswers -/
import Derived.Test.YtaelphbianmckaaGreatDoorRows
import Derived.Shelf.Strings.OnBuilder
import Derived.Shelf.Strings.BuilderK
import Derived.Shelf.Strings.Prefix
import Derived.Shelf.Strings.FieldsFuncAny
import Derived.Shelf.Strconv.Itoa4
import Derived.Shelf.Strconv.ParseIntPublic10
import Derived.Shelf.Strings.SplitShaped
import Derived.WalkSpells
import Derived.WalkLawsBesides
import Derived.Handy
import Derived.Deep.AppendLies
import Derived.Sort.OwnSortedInts
import Derived.Deep.Onto
import Derived.Lib.SlKeysI
import Derived.Deep.RegionHeld3
import Derived.Lib.QuietBelow
import Derived.Deep.Fields
open Go.Value renaming int->U, pointer->E, slice->J
open Go.IntKind renaming i64->G
open Go.Obj renaming cells->R
open Go.Ending renaming returned->Y
open Go.Proofs.Tryz
open Go.RowKit.Below renaming refl->aF, drew->aV, alloc->aS
open Bool renaming and_eq_true->bE, or_eq_false_iff->fN, false_and->eZ, false_or->eD, true_and->eV, eq_iff_iff->cR, eq_false_iff->dN, false_eq_true->dI
open Int renaming le_refl->bP, le_trans->gT
open List renaming mem_cons->aR, drop_eq_getElem_cons->bR, mem_filter->bM, foldl_cons->gU, length_filter_le->cE, take_succ_eq_append_getElem->aM, map_append->bK, map_singleton->dH, length_cons->aZ, filter_append->cN, pairwise_iff_getElem->fF, mem_singleton->bC, mem_append->bQ, mem_iff_getElem->eM, mem_cons_self->aK, mem_cons_of_mem->aQ, mem_map->bH, length_append->aN, length_map->bU, take_length->bI, length_pos_of_mem->fI, map_cons->bW, sum_cons->fM, length_drop->dC, length_take->bF, filter_cons->eB, filter_filter->cZ, length_singleton->bD
open Nat renaming lt_of_lt_of_le->aT, zero_le->aO, lt_or_eq_of_le->fY, lt_trans->fW
open Option renaming getD_some->fC
open Or renaming inl->aH, inr->aG
open Go.Value.slice renaming injEq->aY
open Go.World renaming ownsRow_nil->aU, news_of_block->bJ
set_option maxHeartbeats 4000000
set_option maxRecDepth 4000
namespace Go.Proofs.YtaelphbianmckaaGreatDoor
variable {vs:Array Value} {a around id p q:Int} {xs:List Int} {b base i j k n:Nat} {α:Type} {e t:TypeId} {v:Value} {w w':World}
section
open Go.RowKit Go.Shelf
theorem lR7:n<=n:=Nat.le_refl n
theorem aA {c:Prop} {h:Decidable c} (d:¬c) {α:Type _} {t e:α}:ite c t e=e:=if_neg d
theorem aB {c:Prop} {h:Decidable c} (d:c) {α:Type _} {t e:α}:ite c t e=t:=if_pos d
theorem aC {α:Type _} [BEq α] [LawfulBEq α] {a b:α}:(a==b)=false↔a≠b:=beq_eq_false_iff_ne
theorem aD {p:Prop} [i:Decidable p]:¬p->decide p=false:=decide_eq_false
theorem aE {p:Prop} [i:Decidable p]:p->decide p=true:=decide_eq_true
theorem q7 {p:Prop} (h:p:=by repeat' first | assumption | exact Below.refl _ _ | exact lR7 | refine Below.drew ?_ | refine Below.alloc ?_ ?_ _ | (simp;done) | (simp;omega)):p:=h
theorem hid7 {p:Prop} (h:p):Hid p:=h
theorem k7 {p:Prop} (h:p:=by kernel_rfl):p:=h
theorem o7 {p:Prop} (h:p:=by omega):p:=h
theorem d7 {p:Prop} (h:p:=by decide):p:=h
theorem r7 {p:Prop} (h:p:=by rfl):p:=h
theorem s7 {p:Prop} (h:p:=by simp):p:=h
theorem a7 {p:Prop} (h:p:=by assumption):p:=h
theorem g7 {p:Prop} (h:p:=by repeat' first | kernel_rfl | (intros;kernel_rfl) | decide | constructor):p:=h
abbrev aL0 (w v:World):Prop:=Below w.heap.size w v
abbrev aC0 (w:World) (b j:Nat) (v:Value):Prop:=w.cell? ⟨b,j,none⟩=some v
abbrev bJ0 (w:World) (b:Nat) (v:Array Value) (t:TypeId):Prop:=w.heap[b]? = some (.cells v t (0,0))
def ds_lays169_ren:Go.Shelf.Ren:=⟨fun | 169=>13 | n=>n,fun | 70=>33 | 9=>9 | 0=>0 | 72=>36 | 37=>34 | 127=>78 | 3=>3 | 5=>5 | n=>n,fun | n=>n⟩
theorem iC1:Go.Proofs.Lays.n169 prog ds_lays169_ren:=g7
theorem mH0:Builder.Extra prog ds_lays169_ren:=g7
def ds_laysM173_ren:Go.Shelf.Ren:=⟨fun | 173=>49 | 246=>90 | 283=>147 | 284=>148 | 285=>149 | 286=>150 | 129=>207 | 317=>206 | 318=>208 | 319=>209 | 320=>210 | 337=>257 | 338=>258 | n=>n,fun | 2=>2 | 3=>3 | 9=>9 | 4=>4 | 171=>192 | 0=>0 | 53=>185 | 37=>34 | 5=>5 | 173=>195 | 212=>271 | 51=>203 | 20=>20 | 213=>272 | 46=>188 | 232=>357 | 233=>358 | n=>n,fun | 17=>5 | 18=>9 | 19=>10 | n=>n⟩
theorem cS1:Go.Proofs.LaysM.n173 prog ds_laysM173_ren:=g7
def ds_laysM171_ren:Go.Shelf.Ren:=⟨fun | 171=>18 | 243=>64 | 246=>90 | 283=>147 | 284=>148 | 285=>149 | 286=>150 | 129=>207 | 317=>206 | 318=>208 | 319=>209 | 320=>210 | 337=>257 | 338=>258 | n=>n,fun | 3=>3 | 9=>9 | 2=>2 | 4=>4 | 171=>192 | 0=>0 | 53=>185 | 37=>34 | 5=>5 | 173=>195 | 212=>271 | 51=>203 | 20=>20 | 213=>272 | 46=>188 | 232=>357 | 233=>358 | n=>n,fun | 17=>5 | 18=>9 | 19=>10 | n=>n⟩
theorem cT1:Go.Proofs.LaysM.n171 prog ds_laysM171_ren:=g7
def ds_laysC174_ren:Go.Shelf.Ren:=⟨fun | 174=>48 | 247=>88 | 245=>89 | 287=>142 | 279=>143 | 280=>144 | 281=>145 | 282=>146 | 321=>202 | 322=>203 | 316=>204 | 171=>18 | 205=>205 | 243=>64 | 246=>90 | 283=>147 | 284=>148 | 285=>149 | 286=>150 | 129=>207 | 317=>206 | 318=>208 | 319=>209 | 320=>210 | 337=>257 | 338=>258 | n=>n,fun | 9=>9 | 3=>3 | 2=>2 | 75=>43 | 85=>80 | 4=>4 | 167=>184 | 5=>5 | 53=>185 | 175=>186 | 46=>188 | 168=>189 | 37=>34 | 0=>0 | 210=>268 | 21=>21 | 127=>78 | 145=>328 | 143=>326 | 171=>192 | 173=>195 | 212=>271 | 51=>203 | 20=>20 | 213=>272 | 232=>357 | 233=>358 | 80=>48 | n=>n,fun | 15=>3 | 16=>4 | 17=>5 | 18=>9 | 19=>10 | n=>n⟩
theorem mU0:Go.Proofs.LaysC.n174 prog ds_laysC174_ren:=g7
def ds_lays229_ren:Go.Shelf.Ren:=⟨fun | 229=>42 | n=>n,fun | 9=>9 | 40=>74 | 31=>49 | 152=>132 | 3=>3 | 0=>0 | 4=>4 | 21=>21 | 154=>134 | n=>n,fun | n=>n⟩
theorem iD1:Go.Proofs.Lays.n229 prog ds_lays229_ren:=g7
def ds_lays143_ren:Go.Shelf.Ren:=⟨fun | 143=>87 | 219=>138 | 217=>197 | 225=>198 | 224=>199 | 267=>200 | 266=>255 | 314=>256 | n=>n,fun | 9=>9 | 3=>3 | 4=>4 | 5=>5 | 46=>188 | 146=>321 | 51=>203 | n=>n,fun | 1=>2 | n=>n⟩
theorem iE1:Go.Proofs.Lays.n143 prog ds_lays143_ren:=g7
def ds_lays156_ren:Go.Shelf.Ren:=⟨fun | 156=>63 | 165=>111 | 166=>10 | 169=>13 | 240=>40 | 241=>161 | 276=>84 | 277=>229 | n=>n,fun | 31=>49 | 9=>9 | 3=>3 | 4=>4 | 0=>0 | 20=>20 | 72=>36 | 76=>44 | 70=>33 | 37=>34 | 75=>43 | 127=>78 | 164=>130 | 5=>5 | 80=>48 | n=>n,fun | n=>n⟩
theorem uT0:Go.Proofs.Lays.n156 prog ds_lays156_ren:=g7
theorem iI0:Builder.Extra prog ds_lays156_ren:=g7
def ds_lays102_ren:Go.Shelf.Ren:=⟨fun | 102=>38 | 209=>82 | 207=>137 | n=>n,fun | 9=>9 | 4=>4 | 3=>3 | n=>n,fun | n=>n⟩
theorem iF1:Go.Proofs.Lays.n102 prog ds_lays102_ren:=g7
def ds_lays166_ren:Go.Shelf.Ren:=⟨fun | 166=>10 | 240=>40 | 276=>84 | n=>n,fun | 0=>0 | 3=>3 | 4=>4 | 9=>9 | 20=>20 | 37=>34 | 70=>33 | 72=>36 | 75=>43 | 164=>130 | 80=>48 | 5=>5 | n=>n,fun | n=>n⟩
theorem uU0:Go.Proofs.Lays.n166 prog ds_lays166_ren:=g7
theorem iJ0:Builder.Extra prog ds_lays166_ren:=g7
def ds_laysM157_ren:Go.Shelf.Ren:=⟨fun | 157=>58 | 229=>42 | 199=>106 | 261=>156 | 311=>216 | 312=>217 | n=>n,fun | 9=>9 | 31=>49 | 3=>3 | 5=>5 | 4=>4 | 119=>151 | 0=>0 | 40=>74 | 152=>132 | 21=>21 | 154=>134 | 51=>203 | 141=>205 | 196=>280 | 193=>277 | 198=>283 | 49=>281 | 194=>278 | 201=>286 | 226=>330 | 46=>188 | 227=>331 | n=>n,fun | 0=>0 | 6=>1 | n=>n⟩
theorem cU1:Go.Proofs.LaysM.n157 prog ds_laysM157_ren:=g7
def ds_laysM146_ren:Go.Shelf.Ren:=⟨fun | 146=>14 | 221=>47 | 268=>85 | 138=>86 | 143=>87 | 195=>139 | 197=>140 | 218=>141 | 219=>138 | 260=>201 | 217=>197 | 225=>198 | 224=>199 | 267=>200 | 266=>255 | 314=>256 | n=>n,fun | 9=>9 | 31=>49 | 3=>3 | 4=>4 | 0=>0 | 105=>181 | 21=>21 | 5=>5 | 46=>188 | 119=>151 | 139=>325 | 138=>324 | 146=>321 | 51=>203 | n=>n,fun | 1=>2 | 3=>7 | 4=>8 | n=>n⟩
theorem mV0:Go.Proofs.LaysM.n146 prog ds_laysM146_ren:={
 mixed:=k7
 f138:=func86.trans (congrArg some k7)
 f143:=func87.trans (congrArg some k7)
 f146:=func14.trans (congrArg some k7)
 f195:=func139.trans (congrArg some k7)
 f197:=func140.trans (congrArg some k7)
 f217:=func197.trans (congrArg some k7)
 f218:=func141.trans (congrArg some k7)
 f219:=func138.trans (congrArg some k7)
 f221:=func47.trans (congrArg some k7)
 f224:=func199.trans (congrArg some k7)
 f225:=func198.trans (congrArg some k7)
 f260:=func201.trans (congrArg some k7)
 f266:=func255.trans (congrArg some k7)
 f267:=func200.trans (congrArg some k7)
 f268:=func85.trans (congrArg some k7)
 f314:=func256.trans (congrArg some k7)
 t0:=underlying0
 a0:=isAgg0
 z0:=sizeOf0
 v0:=zeroValue0
 t3:=underlying3
 a3:=isAgg3
 z3:=sizeOf3
 v3:=zeroValue3
 t4:=underlying4
 a4:=isAgg4
 z4:=sizeOf4
 v4:=zeroValue4
 t5:=underlying5
 a5:=isAgg5
 z5:=sizeOf5
 v5:=zeroValue5
 t9:=underlying9
 a9:=isAgg9
 z9:=sizeOf9
 v9:=zeroValue9
 t21:=underlying21
 a21:=isAgg21
 z21:=sizeOf21
 v21:=zeroValue21
 t31:=underlying49
 a31:=isAgg49
 z31:=sizeOf49
 v31:=zeroValue49
 t46:=underlying188
 a46:=isAgg188
 z46:=sizeOf188
 v46:=zeroValue188
 t51:=underlying203
 a51:=isAgg203
 z51:=sizeOf203
 v51:=zeroValue203
 t105:=underlying181
 a105:=isAgg181
 z105:=sizeOf181
 v105:=zeroValue181
 t119:=underlying151
 a119:=isAgg151
 z119:=sizeOf151
 t138:=underlying324
 a138:=isAgg324
 z138:=sizeOf324
 v138:=zeroValue324
 t139:=underlying325
 a139:=isAgg325
 z139:=sizeOf325
 v139:=zeroValue325
 t146:=underlying321
 a146:=isAgg321
 z146:=sizeOf321
 v146:=zeroValue321
 g1:=k7
 g3:=k7
 g4:=k7
 i0:=k7
 i3:=k7
 i4:=k7
 i5:=k7
 i9:=k7
 i21:=k7
 i31:=k7
 i46:=k7
 i51:=k7
 i105:=k7
 i138:=k7
 i139:=k7
 i146:=k7
 m1:=k7
 s1_3:=fun w h=>Go.Proofs.cell_of_shapedOpen_int (zero:=#[U G 0]) (t:=3) h (of_decide_eq_true k7) k7 rfl k7 k7 underlying3
 m3:=k7
 m4:=by kernel_rfl }
end
section
open Go.RowKit
structure Ord where
 id:Int
 side:Int
 kind:Int
 price:Int
 qty:Int
def Ord.vals (o:Ord):List Value:=[U G o.id,U G o.side,U G o.kind,U G o.price,U G o.qty]
def Ord.none_:Ord:=⟨0,0,0,0,0⟩
def Ord.agg (o:Ord):Value:=.agg #[U G o.id,U G o.side,U G o.kind,U G o.price,U G o.qty]
def oV:List Ord->List Value
 | []=>[]
 | o::l=>U G o.id::U G o.side::U G o.kind::U G o.price::U G o.qty::oV l
def oAt (l:List Ord) (k:Nat):Ord:=l.getD k Ord.none_
theorem cB0 (l:List Ord):(oV l).length=l.length*5:=by
 induction l with
 | nil=>rfl
 | cons o l ih=>simp [oV,ih];omega
theorem cL0 (a b:List Ord):oV (a++b)=oV a++oV b:=by
 induction a with
 | nil=>rfl
 | cons o a ih=>simp [oV,ih]
theorem jH0 (l:List Ord):∀u∈oV l,u.oneCell'=true:=by
 induction l with
 | nil=>simp [oV]
 | cons o l ih=>
  intro u a;simp only [oV,aR] at a;rcases a with rfl | rfl | rfl | rfl | rfl | a
  ·rfl
  ·rfl
  ·rfl
  ·rfl
  ·rfl
  ·exact ih u a
theorem sJ1 {l:List Ord} (h:k<l.length):(oV l)[k*5]? = some (U G (oAt l k).id)/\(oV l)[k*5+1]? = some (U G (oAt l k).side)/\(oV l)[k*5+2]? = some (U G (oAt l k).kind)/\(oV l)[k*5+3]? = some (U G (oAt l k).price)/\(oV l)[k*5+4]? = some (U G (oAt l k).qty):=by
 induction l generalizing k with
 | nil=>simp at h
 | cons o l ih=>
  cases k with
  | zero=>exact ⟨rfl,rfl,rfl,rfl,rfl⟩
  | succ k=>
   have:=ih (k:=k) (by simpa using h);rw [show (k+1)*5=k*5+1+1+1+1+1 by omega];have e:oAt (o::l) (k+1)=oAt l k:=by simp [oAt]
   rw [e]
   simpa [oV] using this
theorem eJ0 {l:List Ord} (h:k<l.length):oAt l k=l[k]:=by simp [oAt,h]
def idxF (id:Int):Nat->List Ord->Int
 | _,[]=>-1
 | i,o::l=>if o.id=id then (i:Int) else idxF id (i+1) l
def idxO (id:Int) (l:List Ord):Int:=idxF id 0 l
theorem rM0 {l:List Ord} (h:k<l.length) (a:¬(oAt l k).id=id):idxF id (k+1) (l.drop (k+1))=idxF id k (l.drop k):=by
 rw [bR h];unfold idxF;rw [aA (by rw [<-eJ0 h];exact a)];cases l.drop (k+1) <;> rfl
theorem wI0 {l:List Ord} (h:k<l.length) (a:(oAt l k).id=id):idxF id k (l.drop k)=k:=by
 rw [bR h];unfold idxF;rw [aB (by rw [<-eJ0 h];exact a)]
theorem wJ0 {l:List Ord} (h:l.length<=k):idxF id k (l.drop k)=-1:=by
 rw [List.drop_eq_nil_of_le h];rfl
theorem mW0 (id:Int):∀(l:List Ord) (i:Nat),idxF id i l=-1\/∃k,k<l.length/\idxF id i l=((i+k:Nat):Int)/\(oAt l k).id=id
 | [],_=>aH rfl
 | o::l,i=>by
  by_cases e:o.id=id
  ·right;refine ⟨0,by simp,?_,e⟩;unfold idxF;rw [aB e];simp
  ·have b:idxF id i (o::l)=idxF id (i+1) l:=by
    show (if o.id=id then (i:Int) else idxF id (i+1) l)=_;rw [aA e]
   rw [b];rcases mW0 id l (i+1) with h | ⟨k,hk,h,a⟩
   ·exact aH h
   ·right;refine ⟨k+1,by simpa using hk,by rw [h];congr 1;omega,?_⟩;have:oAt (o::l) (k+1)=oAt l k:=by simp [oAt]
    rw [this];exact a
theorem cR0 {a:Nat} {B:Nat} {xs:List Value} (h:w.ownsRow base e a v n xs) (i:Below B w w') (f:w.heap.size<=B):w'.ownsRow base e a v n xs:=by
 refine ⟨h.1,?_⟩;rcases h.2 with k | ⟨g,b,c,rfl,j,d,r⟩
 ·exact .inl k
 ·exact .inr ⟨g,b,c,rfl,j,(i.block g (aT (lt_of_block d) f)).trans d,r⟩
theorem bO0 {xs:List Value} (h:w.ownsRow base e b v n xs):∃(c:Option Addr) (a:Nat),v=J c n a/\n<=a/\a<=maxLen:=by
 rcases h.2 with ⟨rfl,rfl⟩ | ⟨g,a,d,rfl,_,_,f,i,_⟩
 ·exact ⟨none,0,rfl,lR7,aO _⟩
 ·exact ⟨some ⟨g,0,none⟩,a,rfl,f,i⟩
theorem cT0 {l:List Ord} (h:w.ownsRow base 92 5 v l.length (oV l)) (hk:k<l.length):
  ∃g a,v=J (some ⟨g,0,none⟩) l.length a/\w.cell? ⟨g,k*5,none⟩=some (U G (oAt l k).id)/\w.cell? ⟨g,k*5+1,none⟩=some (U G (oAt l k).side)/\w.cell? ⟨g,k*5+2,none⟩=some (U G (oAt l k).kind)/\w.cell? ⟨g,k*5+3,none⟩=some (U G (oAt l k).price)/\w.cell? ⟨g,k*5+4,none⟩=some (U G (oAt l k).qty):=by
 obtain ⟨g,a,rfl,_,_⟩:=h.form o7;obtain ⟨b,c,d,e,f⟩:=sJ1 hk;exact ⟨g,a,rfl,(h.cellAt _ o7).trans b,(h.cellAt _ o7).trans c,(h.cellAt _ o7).trans d,(h.cellAt _ o7).trans e,(h.cellAt _ o7).trans f⟩
def insL {α:Type} (rank:α->Int) (o:α):List α->List α
 | []=>[o]
 | x::xs=>if rank x<=rank o then x::insL rank o xs else o::x::xs
def kV0 {α:Type} (rank:α->Int) (l:List α):List α:=l.foldl (fun acc o=>insL rank o acc) []
theorem gL0 (rank:α->Int) (l:List α) (o:α):kV0 rank (l++[o])=insL rank o (kV0 rank l):=by simp [kV0]
def oU0 (side kind price:Int):Int:=if kind=2 then -2000000 else if side=1 then -price else price
def bE0 (side:Int) (l:List Ord):List Ord:=l.filter fun o=>o.side == side
def fV0 (side:Int) (o:Ord):Int:=oU0 side o.kind o.price
def aR0 (side:Int) (l:List Ord):List Ord:=kV0 (fV0 side) (bE0 side l)
theorem iG1 {side:Int} {l:List Ord} {o:Ord} (h:o∈bE0 side l):o∈l:=(bM.1 h).1
theorem iH1 (rank:α->Int) {l:List α} (h:l.length<=1):kV0 rank l=l:=by
 match l,h with
 | [],_=>rfl
 | [a],_=>rfl
def fA0 (p q:Int):Bool:=(decide (1<=p)&& decide (p<=1000000))&& (decide (1<=q)&& decide (q<=1000000))
def lieO (o:Ord):Ord:=if o.kind=2 then { o with price:=1 } else o
def addN (o:Ord) (l:List Ord):Int:=
 if (decide (1<=o.side)&& decide (o.side<=2))=false\/o.id<1 then 1 else if fA0 (lieO o).price (lieO o).qty=false then 2 else if 0<=idxO o.id l then 9 else if 100<=l.length then 12 else 0
theorem iT0 (o:Ord):(lieO o).id=o.id:=by unfold lieO;split <;> rfl
theorem nH0 (o:Ord):(lieO o).side=o.side:=by unfold lieO;split <;> rfl
theorem wK0 {o:Ord} {l:List Ord} (h:(decide (1<=o.side)&& decide (o.side<=2))=false\/o.id<1):addN o l=1:=by unfold addN;rw [aB h]
theorem uV0 {o:Ord} {l:List Ord} (h:(decide (1<=o.side)&& decide (o.side<=2))=true) (b:¬o.id<1) (a:fA0 (lieO o).price (lieO o).qty=false):addN o l=2:=by
 unfold addN;rw [aA (by rw [h];simp;omega),aB a]
theorem nI0 {o:Ord} {l:List Ord} (h:(decide (1<=o.side)&& decide (o.side<=2))=true) (b:¬o.id<1) (a:fA0 (lieO o).price (lieO o).qty=true):addN o l=if 0<=idxO o.id l then 9 else if 100<=l.length then 12 else 0:=by
 unfold addN;rw [aA (by rw [h];simp;omega),aA (by rw [a];simp)]
def addL (o:Ord) (l:List Ord):List Ord:=if addN o l=0 then l++[lieO o] else l
def dT0 (k:Nat) (l:List Ord):List Ord:=l.take k++l.drop (k+1)
theorem yV0:∀(l:List Ord) (k:Nat) (x:Ord),dT0 k (l.set k x)=dT0 k l
 | [],_,_=>rfl
 | _::_,0,_=>rfl
 | o::l,k+1,x=>by
  have:=yV0 l k x;unfold dT0 at this ⊢
  simpa using this
theorem fG1 (id:Int):∀(l:List Ord) (k i:Nat) (x:Ord),x.id=(oAt l k).id->idxF id i (l.set k x)=idxF id i l
 | [],_,_,_,_=>rfl
 | o::l,0,i,x,h=>by
  have e:x.id=o.id:=by simpa [oAt] using h
  show (if x.id=id then (i:Int) else idxF id (i+1) l)=(if o.id=id then (i:Int) else idxF id (i+1) l);rw [e]
 | o::l,k+1,i,x,h=>by
  have e:x.id=(oAt l k).id:=by simpa [oAt] using h
  show (if o.id=id then (i:Int) else idxF id (i+1) (l.set k x))=(if o.id=id then (i:Int) else idxF id (i+1) l);rw [fG1 id l k (i+1) x e]
def cutO (q:Int) (o:Ord):Ord:={ o with qty:=o.qty - q }
theorem rN0 (rank:α->Int) (o:α):∀l:List α,(insL rank o l).Perm (o::l)
 | []=>List.Perm.refl _
 | x::xs=>by
  unfold insL;split
  ·exact ((rN0 rank o xs).cons x).trans (List.Perm.swap o x xs)
  ·exact List.Perm.refl _
theorem uW0 (rank:α->Int):∀(l a:List α),(l.foldl (fun a o=>insL rank o a) a).Perm (a++l)
 | [],a=>by simp
 | o::l,a=>by
  rw [gU];exact (uW0 rank l _).trans (((rN0 rank o a).append_right l).trans List.perm_middle.symm)
theorem fP0 (rank:α->Int) (l:List α):(kV0 rank l).Perm l:=by have h:=uW0 rank l [];rw [List.nil_append] at h;exact h
theorem bD0 {side:Int} {l:List Ord} {o:Ord}:o∈aR0 side l↔(o∈l/\o.side=side):=by
 unfold aR0 bE0;rw [(fP0 _ _).mem_iff,bM];simp
theorem iU0 (side:Int) (l:List Ord):(aR0 side l).length<=l.length:=by
 unfold aR0 bE0;rw [(fP0 _ _).length_eq];exact cE _ _
def inC (lo hi z:Int):Bool:=decide (lo<=z)&& decide (z<=hi)
theorem cV1 {lo hi z:Int}:inC lo hi z=true↔(lo<=z/\z<=hi):=by unfold inC;simp
structure Pt where
 price:Int
 dem:Int
 sup:Int
def Pt.none_:Pt:=⟨0,0,0⟩
def ptV:List Pt->List Value
 | []=>[]
 | x::l=>U G x.price::U G x.dem::U G x.sup::ptV l
def ptAt (l:List Pt) (k:Nat):Pt:=l.getD k Pt.none_
theorem iI1 (a b:List Pt):ptV (a++b)=ptV a++ptV b:=by
 induction a with
 | nil=>rfl
 | cons o a ih=>simp [ptV,ih]
theorem qP0 (a:List Pt) (x:Pt):ptV (a++[x])=ptV a++[U G x.price,U G x.dem,U G x.sup]:=by rw [iI1];rfl
theorem xP1 {l:List Pt} (h:k<l.length):(ptV l)[k*3]? = some (U G (ptAt l k).price)/\(ptV l)[k*3+1]? = some (U G (ptAt l k).dem)/\(ptV l)[k*3+2]? = some (U G (ptAt l k).sup):=by
 induction l generalizing k with
 | nil=>simp at h
 | cons o l ih=>
  cases k with
  | zero=>exact ⟨rfl,rfl,rfl⟩
  | succ k=>
   have:=ih (k:=k) (by simpa using h);rw [show (k+1)*3=k*3+1+1+1 by omega];have e:ptAt (o::l) (k+1)=ptAt l k:=by simp [ptAt]
   rw [e]
   simpa [ptV] using this
theorem wL0 {l:List Pt} (h:k<l.length):ptAt l k=l[k]:=by simp [ptAt,h]
theorem cS0 {l:List Pt} (h:k<l.length):ptAt l k∈l:=by rw [wL0 h];exact List.getElem_mem h
theorem fH1 {l:List Pt} (h:w.ownsRow base t 3 v l.length (ptV l)) (hk:k<l.length):
  ∃g a,v=J (some ⟨g,0,none⟩) l.length a/\w.cell? ⟨g,k*3,none⟩=some (U G (ptAt l k).price)/\w.cell? ⟨g,k*3+1,none⟩=some (U G (ptAt l k).dem)/\w.cell? ⟨g,k*3+2,none⟩=some (U G (ptAt l k).sup):=by
 obtain ⟨g,a,rfl,_,_⟩:=h.form o7;obtain ⟨b,c,d⟩:=xP1 hk;exact ⟨g,a,rfl,(h.cellAt _ o7).trans b,(h.cellAt _ o7).trans c,(h.cellAt _ o7).trans d⟩
def okO (o:Ord):Bool:=inC 1 2 o.side&& inC 1 1000000 o.qty
def eE0 (o:Ord):Bool:=okO o&& !(o.kind == 2)
def bL0 (l:List Ord) (more:Int):List Int:=(if 0<more then [more] else [])++(l.filter eE0).map Ord.price
def fB0 (p:Int) (o:Ord):Bool:=okO o&& ((o.side == 1)&& ((o.kind == 2) || decide (p<=o.price)))
def cY0 (p:Int) (o:Ord):Bool:=okO o&& ((o.side == 2)&& ((o.kind == 2) || decide (o.price<=p)))
def demO (p:Int) (l:List Ord):Int:=(l.map fun o=>if fB0 p o=true then o.qty else 0).sum
def supO (p:Int) (l:List Ord):Int:=(l.map fun o=>if cY0 p o=true then o.qty else 0).sum
theorem nJ0 (a:List Int) (x:Int):(a++[x]).sum=a.sum+x:=by simp
theorem yW0 {l:List Ord} (p:Int) (h:k<l.length):demO p (l.take (k+1))=demO p (l.take k)+(if fB0 p (oAt l k)=true then (oAt l k).qty else 0):=by
 unfold demO;rw [aM h,bK,dH,nJ0,eJ0 h]
theorem yX0 {l:List Ord} (p:Int) (h:k<l.length):supO p (l.take (k+1))=supO p (l.take k)+(if cY0 p (oAt l k)=true then (oAt l k).qty else 0):=by
 unfold supO;rw [aM h,bK,dH,nJ0,eJ0 h]
theorem kW0 {o:Ord} (h:okO o=true):(1<=o.side/\o.side<=2)/\1<=o.qty/\o.qty<=1000000:=by
 unfold okO at h;rw [bE] at h;exact ⟨cV1.1 h.1,cV1.1 h.2⟩
theorem fI1 {o:Ord} (h:fB0 p o=true):okO o=true:=by unfold fB0 at h;rw [bE] at h;exact h.1
theorem yY0 {o:Ord} (h:cY0 p o=true):okO o=true:=by unfold cY0 at h;rw [bE] at h;exact h.1
theorem wM0 (p:Int):∀l:List Ord,0<=demO p l/\demO p l<=1000000*(l.length:Int)
 | []=>by simp [demO]
 | o::l=>by
  have a:=wM0 p l;have e:demO p (o::l)=(if fB0 p o=true then o.qty else 0)+demO p l:=by simp [demO]
  rw [e,aZ];split
  ·rename_i hx;have:=(kW0 (fI1 hx)).2;omega
  ·omega
theorem wN0 (p:Int):∀l:List Ord,0<=supO p l/\supO p l<=1000000*(l.length:Int)
 | []=>by simp [supO]
 | o::l=>by
  have a:=wN0 p l;have e:supO p (o::l)=(if cY0 p o=true then o.qty else 0)+supO p l:=by simp [supO]
  rw [e,aZ];split
  ·rename_i hx;have:=(kW0 (yY0 hx)).2;omega
  ·omega
def gM0 (xs:List Int):List Int:=xs.mergeSort fun x y=>decide (x<=y)
theorem hJ0 (xs:List Int):(gM0 xs).length=xs.length:=List.length_mergeSort _
theorem iV0:p∈gM0 xs↔p∈xs:=List.mem_mergeSort
theorem dU0 (xs:List Int):(gM0 xs).Pairwise (·<=·):=by
 have h:=List.pairwise_mergeSort (le:=fun x y:Int=>decide (x<=y)) (fun a b c d e=>by simp at *;omega) (fun a b=>by simp;omega) xs;exact h.imp (fun h=>by simpa using h)
def fstB (xs:List Int) (i:Nat):Bool:=(i == 0) || !(xs.getD (i - 1) 0 == xs.getD i 0)
def fW0 (xs:List Int) (k:Nat):List Int:=((List.range k).filter (fstB xs)).map fun i=>xs.getD i 0
def wO0 (xs:List Int):List Int:=fW0 xs xs.length
theorem lQ0 (xs:List Int) (k:Nat):fW0 xs (k+1)=if fstB xs k=true then fW0 xs k++[xs.getD k 0] else fW0 xs k:=by
 unfold fW0;rw [List.range_succ,cN,bK]
 by_cases h:fstB xs k=true
 ·rw [aB h];simp [h]
 ·rw [aA h];simp [h]
theorem rO0 (xs:List Int):∀k,(fW0 xs k).length<=k
 | 0=>by simp [fW0]
 | k+1=>by
  rw [lQ0];have:=rO0 xs k;split
  ·simp;omega
  ·omega
def aS0 (l:List Ord) (more:Int):List Pt:=(wO0 (gM0 (bL0 l more))).map fun p=>⟨p,demO p l,supO p l⟩
theorem yZ0 (h:xs.Pairwise (·<=·)) (a:i<=j) (b:j<xs.length):xs.getD i 0<=xs.getD j 0:=by
 rw [List.getD_eq_getElem?_getD,List.getD_eq_getElem?_getD,List.getElem?_eq_getElem o7,List.getElem?_eq_getElem b,fC,fC];rcases fY a with c | rfl
 ·exact fF.1 h i j o7 b c
 ·exact bP _
theorem oV0 (h:xs.Pairwise (·<=·)):∀k,k<=xs.length->(fW0 xs k).Pairwise (· < ·)/\∀p,p∈fW0 xs k↔∃i,i<k/\xs.getD i 0=p
 | 0,_=>⟨by simp [fW0],fun p=>by simp [fW0]⟩
 | k+1,hk=>by
  obtain ⟨m,g⟩:=oV0 h k o7;rw [lQ0]
  by_cases f:fstB xs k=true
  ·rw [aB f];refine ⟨?_,fun p=>?_⟩
   ·rw [List.pairwise_append];refine ⟨m,by simp,fun a o b n=>?_⟩;rw [bC] at n;subst n;obtain ⟨i,hi,rfl⟩:=(g a).1 o;have l:k≠0:=o7
    have s:xs.getD (k - 1) 0≠xs.getD k 0:=by
     unfold fstB at f
     simpa [l] using f
    have t:=yZ0 h (i:=i) (j:=k - 1) o7 o7;have u:=yZ0 h (i:=k - 1) (j:=k) o7 o7;omega
   ·rw [bQ,bC,g];constructor
    ·rintro (⟨i,hi,e⟩ | e)
     ·exact ⟨i,o7,e⟩
     ·exact ⟨k,o7,e.symm⟩
    ·rintro ⟨i,hi,e⟩
     by_cases d:i=k
     ·subst d;exact aG e.symm
     ·exact aH ⟨i,o7,e⟩
  ·rw [aA f];refine ⟨m,fun p=>?_⟩;rw [g];constructor
   ·rintro ⟨i,hi,e⟩;exact ⟨i,o7,e⟩
   ·rintro ⟨i,hi,e⟩
    by_cases d:i=k
    ·subst d;have c:fstB xs i=false:=by simpa using f
     unfold fstB at c;rw [fN] at c;have r:i≠0:=by simpa using c.1
     have q:xs.getD (i - 1) 0=xs.getD i 0:=by simpa using c.2
     exact ⟨i - 1,o7,q.trans e⟩
    ·exact ⟨i,o7,e⟩
theorem rP0 (h:xs.Pairwise (·<=·)):(wO0 xs).Pairwise (· < ·):=(oV0 h _ lR7).1
theorem kX0 (h:xs.Pairwise (·<=·)):p∈wO0 xs↔p∈xs:=by
 rw [wO0,(oV0 h _ lR7).2,eM];constructor
 ·rintro ⟨i,hi,e⟩;exact ⟨i,hi,by simpa [List.getD_eq_getElem?_getD,hi] using e⟩
 ·rintro ⟨i,hi,e⟩;exact ⟨i,hi,by simpa [List.getD_eq_getElem?_getD,hi] using e⟩
theorem fJ1:∀{a b:List Int},a.Pairwise (· < ·)->b.Pairwise (· < ·)->(∀p,p∈a↔p∈b)->a=b
 | [],[],_,_,_=>rfl
 | [],y::b,_,_,h=>absurd ((h y).2 (aK ..)) s7
 | x::a,[],_,_,h=>absurd ((h x).1 (aK ..)) s7
 | x::a,y::b,ha,hb,h=>by
  rw [List.pairwise_cons] at ha hb
  have f:x=y:=by
   have c:=(h x).1 (aK ..);have d:=(h y).2 (aK ..);rw [aR] at c d;rcases c with c | c
   ·exact c
   ·rcases d with d | d
    ·exact d.symm
    ·have:=ha.1 y d;have:=hb.1 x c;omega
  subst f;rw [fJ1 ha.2 hb.2 (fun p=>?_)];constructor
  ·intro e;have:=(h p).1 (aQ _ e);rw [aR] at this;rcases this with rfl | c
   ·exact absurd (ha.1 p e) o7
   ·exact c
  ·intro e;have:=(h p).2 (aQ _ e);rw [aR] at this;rcases this with rfl | c
   ·exact absurd (hb.1 p e) o7
   ·exact c
theorem qA0 {l:List Ord} {more:Int} (h:xs.Pairwise (· < ·)) (a:∀p,p∈xs↔p∈bL0 l more):wO0 (gM0 (bL0 l more))=xs:=
 fJ1 (rP0 (dU0 _)) h (fun p=>by rw [kX0 (dU0 _),iV0,a])
theorem dL0 {l:List Ord} {more:Int}:p∈bL0 l more↔((0<more/\p=more)\/∃o∈l,eE0 o=true/\o.price=p):=by
 unfold bL0;rw [bQ,bH];constructor
 ·rintro (h | ⟨o,a,e⟩)
  ·split at h
   ·rw [bC] at h;exact aH ⟨a7,h⟩
   ·simp at h
  ·rw [bM] at a;exact aG ⟨o,a.1,a.2,e⟩
 ·rintro (⟨h,rfl⟩ | ⟨o,a,b,e⟩)
  ·exact aH (by rw [aB h];simp)
  ·exact aG ⟨o,bM.2 ⟨a,b⟩,e⟩
theorem rQ0 (l:List Ord) (more:Int):(bL0 l more).length<=l.length+1:=by
 unfold bL0;rw [aN,bU];have:=cE eE0 l;split <;> simp <;> omega
def dM0 (l:List Ord) (more:Int) (k:Nat):List Int:=bL0 (l.take k) more
theorem zA0 {l:List Ord} (more:Int) (h:k<l.length):dM0 l more (k+1)=if eE0 (oAt l k)=true then dM0 l more k++[(oAt l k).price] else dM0 l more k:=by
 unfold dM0 bL0;rw [aM h,cN,bK,eJ0 h,<-List.append_assoc]
 by_cases a:eE0 l[k]=true
 ·rw [aB a];simp [a]
 ·rw [aA a];simp [a]
def trB (x:Pt):Int:=min x.dem x.sup
def absI (n:Int):Int:=if n<0 then -n else n
def lfB (x:Pt):Int:=absI (x.dem - x.sup)
def cP0 (l:List Pt):Int:=l.foldl (fun m x=>max m (trB x)) 0
def fC0 (m:Int) (s:Int×Bool) (x:Pt):Int×Bool:=if trB x=m/\(s.2=false\/lfB x<s.1) then (lfB x,true) else s
def dP0 (m:Int) (l:List Pt):Int×Bool:=l.foldl (fC0 m) (0,false)
def nK0 (m n:Int) (x:Pt):Bool:=(trB x == m)&& (lfB x == n)
def eI0 (m n:Int) (l:List Pt):List Pt:=l.filter (nK0 m n)
def hK0 (l:List Pt):Bool:=l.all fun x=>decide (x.sup<x.dem)
def dV0 (l:List Pt):Bool:=l.all fun x=>decide (x.dem<x.sup)
def gN0 (b s:Bool) (around:Int) (p x:Pt):Bool:=
 if b=true then decide (x.price<p.price) else if s=true then decide (p.price<x.price)
 else decide (absI (p.price - around)<absI (x.price - around)) || ((absI (p.price - around) == absI (x.price - around))&& decide (p.price<x.price))
def wP0 (b s:Bool) (around:Int) (x p:Pt):Pt:=if gN0 b s around p x=true then p else x
def iJ1 (b s:Bool) (around:Int) (l:List Pt):Pt:=l.foldl (wP0 b s around) (ptAt l 0)
def gO0 (b s:Bool) (around:Int) (l:List Pt) (k:Nat):Pt:=(l.take k).foldl (wP0 b s around) (ptAt l 0)
def jP0 (l:List Pt) (around:Int):Pt:=
 let best:=eI0 (cP0 l) (dP0 (cP0 l) l).1 l
 iJ1 (hK0 best) (dV0 best) around best
structure Quo where
 price:Int
 qty:Int
 sur:Int
def quoP (x:Pt):Quo:=⟨x.price,trB x,x.dem - x.sup⟩
def aO0 (l:List Pt) (around:Int):Quo:=if cP0 l<1 then ⟨0,0,0⟩ else quoP (jP0 l around)
theorem lR0 (f:α->Pt->α) (a:α) {l:List Pt} (h:k<l.length):(l.take (k+1)).foldl f a=f ((l.take k).foldl f a) (ptAt l k):=by
 rw [aM h,List.foldl_append,wL0 h];rfl
theorem iK1 {l:List Pt} (h:k<l.length):cP0 (l.take (k+1))=max (cP0 (l.take k)) (trB (ptAt l k)):=lR0 _ _ h
theorem cW1 {l:List Pt} (m:Int) (h:k<l.length):dP0 m (l.take (k+1))=fC0 m (dP0 m (l.take k)) (ptAt l k):=lR0 _ _ h
theorem iL1 {l:List Pt} (m n:Int) (h:k<l.length):eI0 m n (l.take (k+1))=if nK0 m n (ptAt l k)=true then eI0 m n (l.take k)++[ptAt l k] else eI0 m n (l.take k):=by
 unfold eI0;rw [aM h,cN,wL0 h]
 by_cases a:nK0 m n l[k]=true
 ·rw [aB a];simp [a]
 ·rw [aA a];simp [a]
theorem oW0 {b s:Bool} {l:List Pt} (h:k<l.length):gO0 b s around l (k+1)=wP0 b s around (gO0 b s around l k) (ptAt l k):=lR0 _ _ h
theorem rR0 (b s:Bool) (around:Int) (l:List Pt):gO0 b s around l l.length=iJ1 b s around l:=by unfold gO0 iJ1;rw [bI]
theorem iM1 (l:List Pt) (x:Pt):hK0 (l++[x])=(hK0 l&& decide (x.sup<x.dem)):=by simp [hK0,List.all_append]
theorem cX1 (l:List Pt) (x:Pt):dV0 (l++[x])=(dV0 l&& decide (x.dem<x.sup)):=by simp [dV0,List.all_append]
structure Pt.Small (x:Pt):Prop where
 p:-1099511627776<=x.price/\x.price<=1099511627776
 d:-1099511627776<=x.dem/\x.dem<=1099511627776
 s:-1099511627776<=x.sup/\x.sup<=1099511627776
theorem dJ2 {x:Pt} (h:x.Small):-1099511627776<=trB x/\trB x<=1099511627776:=by
 have:=h.d;have:=h.s;unfold trB;omega
theorem iN1 (l:List Pt):0<=cP0 l:=by
 have:∀(l:List Pt) (a:Int),0<=a->0<=l.foldl (fun m x=>max m (trB x)) a:=by
  intro l
  induction l with
  | nil=>intro a h;exact h
  | cons x l ih=>intro a h;exact ih (max a (trB x)) o7
 exact this l 0 (bP _)
theorem rS0 {l:List Pt} {x:Pt} (h:x∈l):trB x<=cP0 l:=by
 have b:∀(l:List Pt) (a:Int),a<=l.foldl (fun m x=>max m (trB x)) a:=by
  intro l
  induction l with
  | nil=>intro a;exact bP _
  | cons y l ih=>intro a;exact gT o7 (ih (max a (trB y)))
 have key:∀(l:List Pt) (a:Int),x∈l->trB x<=l.foldl (fun m x=>max m (trB x)) a:=by
  intro l
  induction l with
  | nil=>intro a h;cases h
  | cons y l ih=>
   intro a h;rw [aR] at h;rcases h with rfl | h
   ·exact gT o7 (b l (max a (trB x)))
   ·exact ih _ h
 exact key l 0 h
theorem qQ0 (l:List Pt):cP0 l=0\/∃x∈l,trB x=cP0 l:=by
 have key:∀(l:List Pt) (a:Int),l.foldl (fun m x=>max m (trB x)) a=a\/∃x∈l,trB x=l.foldl (fun m x=>max m (trB x)) a:=by
  intro l
  induction l with
  | nil=>intro a;exact aH rfl
  | cons y l ih=>
   intro a;rw [gU];rcases ih (max a (trB y)) with h | ⟨x,b,h⟩
   ·rw [h]
    by_cases c:trB y<=a
    ·exact aH o7
    ·exact aG ⟨y,aK ..,o7⟩
   ·exact aG ⟨x,aQ _ b,h⟩
 exact key l 0
theorem sK1 {l:List Pt} (h:∀x∈l,x.Small):0<=cP0 l/\cP0 l<=1099511627776:=by
 refine ⟨iN1 l,?_⟩;rcases qQ0 l with a | ⟨x,b,a⟩
 ·omega
 ·rw [<-a];exact (dJ2 (h x b)).2
theorem rT0 (m:Int):∀l:List Pt,((dP0 m l).2=false/\∀x∈l,trB x≠m)\/((dP0 m l).2=true/\(∃x∈l,trB x=m/\lfB x=(dP0 m l).1)/\∀x∈l,trB x=m->(dP0 m l).1<=lfB x):=by
 have key:∀(l a:List Pt) (s:Int×Bool),((s.2=false/\∀x∈a,trB x≠m)\/(s.2=true/\(∃x∈a,trB x=m/\lfB x=s.1)/\∀x∈a,trB x=m->s.1<=lfB x))->
   (((l.foldl (fC0 m) s).2=false/\∀x∈a++l,trB x≠m)\/((l.foldl (fC0 m) s).2=true/\(∃x∈a++l,trB x=m/\lfB x=(l.foldl (fC0 m) s).1)/\∀x∈a++l,trB x=m->(l.foldl (fC0 m) s).1<=lfB x)):=by
  intro l
  induction l with
  | nil=>intro a s h;simpa using h
  | cons y l ih=>
   intro a s h;rw [gU,show a++y::l=(a++[y])++l by simp];refine ih (a++[y]) _ ?_;unfold fC0
   by_cases f:trB y=m/\(s.2=false\/lfB y<s.1)
   ·rw [aB f];right;refine ⟨rfl,⟨y,by simp,f.1,rfl⟩,fun x b c=>?_⟩;rw [bQ,bC] at b;rcases b with b | rfl
    ·rcases h with ⟨_,g⟩ | ⟨d,_,i⟩
     ·exact absurd c (g x b)
     ·have:=i x b c;rcases f.2 with j | j
      ·rw [d] at j;cases j
      ·show lfB y<=lfB x;omega
    ·exact bP _
   ·rw [aA f];rcases h with ⟨d,g⟩ | ⟨d,⟨z,o,k,n⟩,i⟩
    ·left;refine ⟨d,fun x b c=>?_⟩;rw [bQ,bC] at b;rcases b with b | rfl
     ·exact g x b c
     ·exact f ⟨c,aH d⟩
    ·right;refine ⟨d,⟨z,by simp [o],k,n⟩,fun x b c=>?_⟩;rw [bQ,bC] at b;rcases b with b | rfl
     ·exact i x b c
     ·have:¬lfB x<s.1:=fun e=>f ⟨c,aG e⟩
      omega
 intro l;have:=key l [] (0,false) (aH ⟨rfl,fun x b=>by cases b⟩)
 simpa [dP0] using this
theorem rU0 {l:List Pt} (h:1<=cP0 l):0<(eI0 (cP0 l) (dP0 (cP0 l) l).1 l).length:=by
 rcases qQ0 l with d | ⟨x,f,d⟩
 ·omega
 ·rcases rT0 (cP0 l) l with ⟨_,e⟩ | ⟨_,⟨z,g,b,c⟩,_⟩
  ·exact absurd d (e x f)
  ·exact fI (a:=z) (bM.2 ⟨g,by unfold nK0;simp [b,c]⟩)
theorem rV0 (b s:Bool) (around:Int) {l:List Pt} (h:0<l.length):∀k,k<=l.length->gO0 b s around l k∈l
 | 0,_=>by unfold gO0;simpa using cS0 h
 | k+1,hk=>by
  rw [oW0 o7];unfold wP0;split
  ·exact cS0 o7
  ·exact rV0 b s around h k o7
theorem oX0 {l:List Pt} (around:Int) (h:1<=cP0 l):jP0 l around∈l/\trB (jP0 l around)=cP0 l:=by
 have d:=rU0 h;have b:=rV0 (hK0 (eI0 (cP0 l) (dP0 (cP0 l) l).1 l)) (dV0 (eI0 (cP0 l) (dP0 (cP0 l) l).1 l)) around d _ lR7;rw [rR0] at b;have e:jP0 l around∈eI0 (cP0 l) (dP0 (cP0 l) l).1 l:=b;have c:=bM.1 e;refine ⟨c.1,?_⟩;have a:=c.2;unfold nK0 at a;rw [bE] at a
 simpa using a.1
def sumQ (q:Ord->Bool) (l:List Ord):Int:=(l.map fun o=>if q o=true then o.qty else 0).sum
def mkBB (o:Ord):Bool:=(o.kind == 2)&& (o.side == 1)
def mkSB (o:Ord):Bool:=(o.kind == 2)&& !(o.side == 1)
def dX0 (p:Int) (o:Ord):Bool:=!(o.kind == 2)&& ((o.price == p)&& (o.side == 1))
def fD0 (p:Int) (o:Ord):Bool:=!(o.kind == 2)&& ((o.price == p)&& !(o.side == 1))
def sumX (q:Int->Ord->Bool) (xs:List Int) (l:List Ord):Int:=(xs.map fun p=>sumQ (q p) l).sum
theorem hL0 (q:Ord->Bool) (o:Ord) (l:List Ord):sumQ q (o::l)=(if q o=true then o.qty else 0)+sumQ q l:=by simp [sumQ]
theorem rW0 {l:List Ord} (q:Ord->Bool) (h:k<l.length):sumQ q (l.take (k+1))=sumQ q (l.take k)+(if q (oAt l k)=true then (oAt l k).qty else 0):=by
 unfold sumQ;rw [aM h,bK,dH,nJ0,eJ0 h]
theorem lE1 {l:List Ord} {q:Ord->Bool} (h:k<l.length) (a:q (oAt l k)=false):sumQ q (l.take (k+1))=sumQ q (l.take k):=by rw [rW0 q h,aA (by rw [a];decide)];omega
theorem lS0 {q q':Ord->Bool}:∀{l:List Ord},(∀o∈l,q o=q' o)->sumQ q l=sumQ q' l
 | [],_=>rfl
 | o::l,h=>by
  rw [hL0,hL0,h o (aK ..),lS0 (fun x a=>h x (aQ _ a))]
theorem wQ0 {q q':Ord->Bool}:∀{l:List Ord},(∀o∈l,q o=true->q' o=false)->sumQ q l+sumQ q' l=sumQ (fun o=>q o || q' o) l
 | [],_=>rfl
 | o::l,h=>by
  have c:=wQ0 (l:=l) (fun x b=>h x (aQ _ b));have a:=h o (aK ..);rw [hL0,hL0,hL0,<-c];cases h1:q o with
  | true=>rw [a h1];simp;omega
  | false=>cases h2:q' o <;> simp <;> omega
theorem lF1 {q:Ord->Bool}:∀{l:List Ord},(∀o∈l,okO o=true)->0<=sumQ q l/\sumQ q l<=1000000*(l.length:Int)
 | [],_=>by simp [sumQ]
 | o::l,h=>by
  have c:=lF1 (q:=q) (l:=l) (fun x a=>h x (aQ _ a));have b:=(kW0 (h o (aK ..))).2;rw [hL0,aZ];split <;> omega
theorem dB0 {q:Ord->Bool} {l:List Ord} (h:∀o∈l,okO o=true) (a:l.length<=1000):0<=sumQ q l/\sumQ q l<=1000000000:=by
 have:=lF1 (q:=q) h;omega
theorem cY1 {l:List Ord} (h:∀o∈l,okO o=true) (k:Nat):∀o∈l.take k,okO o=true:=fun o a=>h o (List.mem_of_mem_take a)
theorem fK1 (q:Int->Ord->Bool) (l:List Ord):sumX q [] l=0:=rfl
theorem zB0 (q:Int->Ord->Bool):∀xs:List Int,sumX q xs []=0
 | []=>rfl
 | x::xs=>by
  have e:sumX q (x::xs) []=sumQ (q x) []+sumX q xs []:=by simp [sumX]
  rw [e,zB0 q xs];rfl
theorem wR0 (q:Int->Ord->Bool) (x:Int) (xs:List Int) (l:List Ord):sumX q (x::xs) l=sumQ (q x) l+sumX q xs l:=by simp [sumX]
theorem zC0 (q:Int->Ord->Bool) (xs:List Int) (x:Int) (l:List Ord):sumX q (xs++[x]) l=sumX q xs l+sumQ (q x) l:=by
 unfold sumX;rw [bK,dH,nJ0]
theorem lG1 {q:Int->Ord->Bool} (l:List Ord) (h:k<xs.length):sumX q (xs.drop k) l=sumQ (q (xs.getD k 0)) l+sumX q (xs.drop (k+1)) l:=by
 rw [bR h,wR0];simp [h]
theorem lH1 {q:Int->Ord->Bool} (l:List Ord) (h:k<xs.length):sumX q (xs.take (k+1)) l=sumX q (xs.take k) l+sumQ (q (xs.getD k 0)) l:=by
 rw [aM h,zC0];simp [h]
theorem zD0 (c:Bool) (p v:Int):∀{xs:List Int},xs.Nodup->(xs.map fun x=>if ((p == x)&& c)=true then v else 0).sum=if (c&& decide (p∈xs))=true then v else 0
 | [],_=>by simp
 | x::xs,h=>by
  rw [List.nodup_cons] at h;rw [bW,fM,zD0 c p v h.2];cases c with
  | false=>simp
  | true=>
   by_cases e:p=x
   ·subst e;simp [h.1]
   ·simp [e]
theorem zE0 (q:Int->Ord->Bool) (o:Ord) (l:List Ord):∀xs:List Int,sumX q xs (o::l)=(xs.map fun p=>if q p o=true then o.qty else 0).sum+sumX q xs l
 | []=>rfl
 | x::xs=>by
  rw [wR0,wR0,zE0 q o l xs,hL0,bW,fM];omega
theorem cZ1 (c:Ord->Bool) {q:Int->Ord->Bool} (b:∀p o,q p o=(!(o.kind == 2)&& ((o.price == p)&& c o))) (h:xs.Nodup):∀l:List Ord,sumX q xs l=sumQ (fun o=>!(o.kind == 2)&& (c o&& decide (o.price∈xs))) l
 | []=>zB0 _ _
 | o::l=>by
  rw [zE0,cZ1 c b h l,hL0]
  congr 1
  have e:=zD0 (c o) o.price o.qty h;cases hk:(o.kind == 2) with
  | true=>
   have:(xs.map fun p=>if q p o=true then o.qty else 0)=xs.map fun _=>0:=by
    congr 1;funext p;rw [b,hk];simp
   rw [this]
   have z:∀a:List Int,(a.map fun _=>(0:Int)).sum=0:=fun a=>by induction a with
    | nil=>rfl
    | cons y a ih=>rw [bW,fM,ih];rfl
   rw [z];simp
  | false=>
   have:(xs.map fun p=>if q p o=true then o.qty else 0)=xs.map fun p=>if ((o.price == p)&& c o)=true then o.qty else 0:=by
    congr 1;funext p;rw [b,hk];simp
   rw [this,e];simp
theorem rX0 (h:xs.Nodup) (l:List Ord):sumX dX0 xs l=sumQ (fun o=>!(o.kind == 2)&& ((o.side == 1)&& decide (o.price∈xs))) l:=cZ1 (fun o=>o.side == 1) (fun _ _=>rfl) h l
theorem lI1 (h:xs.Nodup) (l:List Ord):sumX fD0 xs l=sumQ (fun o=>!(o.kind == 2)&& (!(o.side == 1)&& decide (o.price∈xs))) l:=cZ1 (fun o=>!(o.side == 1)) (fun _ _=>rfl) h l
theorem lJ1 {a:List Int} (h:xs.Nodup) (b:a.Nodup) (c:∀p,p∈xs↔p∈a) (l:List Ord):sumX dX0 xs l=sumX dX0 a l:=by
 rw [rX0 h,rX0 b];exact lS0 (fun o _=>by simp [c])
theorem iW0 (h:xs.Pairwise (· < ·)):xs.Nodup:=h.imp (fun e=>by omega)
theorem lT0 (h:xs.Pairwise (· < ·)) (a:i<j) (b:j<xs.length):xs.getD i 0<xs.getD j 0:=by
 rw [List.getD_eq_getElem?_getD,List.getD_eq_getElem?_getD,List.getElem?_eq_getElem o7,List.getElem?_eq_getElem b,fC,fC];exact fF.1 h i j o7 b a
theorem fL1 (h:q∈xs):∃i,i<xs.length/\xs.getD i 0=q:=by
 obtain ⟨i,hi,e⟩:=eM.1 h;exact ⟨i,hi,by simpa [hi] using e⟩
theorem sL1:q∈xs.drop k↔∃i,k<=i/\i<xs.length/\xs.getD i 0=q:=by
 rw [eM];constructor
 ·rintro ⟨i,hi,e⟩;rw [dC] at hi;refine ⟨k+i,o7,o7,?_⟩;rw [List.getElem_drop] at e
  simpa [List.getD_eq_getElem?_getD,show k+i<xs.length by omega] using e
 ·rintro ⟨i,b,a,e⟩;refine ⟨i - k,by rw [dC];omega,?_⟩;rw [List.getElem_drop];simp only [show k+(i - k)=i by omega]
  simpa [List.getD_eq_getElem?_getD,a] using e
theorem sM1:q∈xs.take k↔∃i,i<k/\i<xs.length/\xs.getD i 0=q:=by
 rw [eM];constructor
 ·rintro ⟨i,hi,e⟩;rw [bF] at hi;rw [List.getElem_take] at e;exact ⟨i,o7,o7,by simpa [List.getD_eq_getElem?_getD,show i<xs.length by omega] using e⟩
 ·rintro ⟨i,b,a,e⟩;refine ⟨i,by rw [bF];omega,?_⟩;rw [List.getElem_take]
  simpa [List.getD_eq_getElem?_getD,a] using e
theorem iO1 (h:xs.Pairwise (· < ·)) (hk:k<xs.length) (g:q∈xs):q∈xs.drop k↔xs.getD k 0<=q:=by
 rw [sL1];obtain ⟨i,hi,rfl⟩:=fL1 g;constructor
 ·rintro ⟨j,b,c,e⟩;rw [<-e];rcases fY b with d | rfl
  ·exact Int.le_of_lt (lT0 h d c)
  ·exact bP _
 ·intro f;refine ⟨i,?_,hi,rfl⟩
  by_cases a:i<k
  ·have:=lT0 h a hk;omega
  ·omega
theorem iP1 (h:xs.Pairwise (· < ·)) (hk:k<xs.length) (f:q∈xs):q∈xs.take (k+1)↔q<=xs.getD k 0:=by
 rw [sM1];obtain ⟨i,hi,rfl⟩:=fL1 f;constructor
 ·rintro ⟨j,b,g,e⟩;rw [<-e];rcases fY (Nat.le_of_lt_succ b) with c | rfl
  ·exact Int.le_of_lt (lT0 h c hk)
  ·exact bP _
 ·intro d;refine ⟨i,?_,hi,rfl⟩
  by_cases a:k<i
  ·have:=lT0 h a hi;omega
  ·omega
theorem dK2 {F:List Ord} (c:∀o∈F,okO o=true) (h:xs.Pairwise (· < ·)) (d:∀o∈F,eE0 o=true->o.price∈xs) (hk:k<xs.length):
  sumQ mkBB F+sumX dX0 (xs.drop k) F=demO (xs.getD k 0) F:=by
 rw [rX0 ((iW0 h).sublist (List.drop_sublist ..)),wQ0 (fun o _ a=>by unfold mkBB at a;rw [bE] at a;simp [a.1])];refine lS0 (q':=fB0 (xs.getD k 0)) (fun o b=>?_);have a:=c o b;unfold mkBB fB0;rw [a];cases hk2:(o.kind == 2) with
 | true=>simp
 | false=>
  have e:eE0 o=true:=by unfold eE0;rw [a,hk2];rfl
  have:=iO1 h hk (d o b e);simp only [eZ,eD,Bool.not_false,eV]
  congr 1
  rw [cR,decide_eq_true_iff,decide_eq_true_iff];exact this
theorem dL2 {F:List Ord} (c:∀o∈F,okO o=true) (h:xs.Pairwise (· < ·)) (d:∀o∈F,eE0 o=true->o.price∈xs) (hk:k<xs.length):
  sumQ mkSB F+sumX fD0 (xs.take (k+1)) F=supO (xs.getD k 0) F:=by
 rw [lI1 ((iW0 h).sublist (List.take_sublist ..)),wQ0 (fun o _ a=>by unfold mkSB at a;rw [bE] at a;simp [a.1])];refine lS0 (q':=cY0 (xs.getD k 0)) (fun o b=>?_);have a:=c o b;have g:=(kW0 a).1
 have f:(o.side == 2)=!(o.side == 1):=by
  rw [cR];simp;omega
 unfold mkSB cY0;rw [a,f];cases hk2:(o.kind == 2) with
 | true=>simp
 | false=>
  have e:eE0 o=true:=by unfold eE0;rw [a,hk2];rfl
  have:=iP1 h hk (d o b e);simp only [eZ,eD,Bool.not_false,eV]
  congr 1
  rw [cR,decide_eq_true_iff,decide_eq_true_iff];exact this
theorem xQ1 (p:Int):∀l:List Ord,demO p (l.filter okO)=demO p l
 | []=>rfl
 | o::l=>by
  have e:demO p (o::l)=(if fB0 p o=true then o.qty else 0)+demO p l:=by simp [demO]
  have a:=xQ1 p l;rw [e]
  by_cases h:okO o=true
  ·rw [eB,aB h];have b:demO p (o::l.filter okO)=(if fB0 p o=true then o.qty else 0)+demO p (l.filter okO):=by simp [demO]
   rw [b,a]
  ·rw [eB,aA h,a];have:fB0 p o=false:=by unfold fB0;simp [h]
   rw [this];simp
theorem xR1 (p:Int):∀l:List Ord,supO p (l.filter okO)=supO p l
 | []=>rfl
 | o::l=>by
  have e:supO p (o::l)=(if cY0 p o=true then o.qty else 0)+supO p l:=by simp [supO]
  have a:=xR1 p l;rw [e]
  by_cases h:okO o=true
  ·rw [eB,aB h];have b:supO p (o::l.filter okO)=(if cY0 p o=true then o.qty else 0)+supO p (l.filter okO):=by simp [supO]
   rw [b,a]
  ·rw [eB,aA h,a];have:cY0 p o=false:=by unfold cY0;simp [h]
   rw [this];simp
theorem lK1 (l:List Ord) (more:Int):bL0 (l.filter okO) more=bL0 l more:=by
 unfold bL0;rw [cZ]
 congr 2
 refine List.filter_congr (fun o _=>?_);unfold eE0;cases okO o <;> simp
def ptsX (xs:List Int) (l:List Ord):List Pt:=xs.map fun p=>⟨p,demO p l,supO p l⟩
theorem lL1 (l:List Ord) (h:k<xs.length):ptsX (xs.take (k+1)) l=ptsX (xs.take k) l++[⟨xs.getD k 0,demO (xs.getD k 0) l,supO (xs.getD k 0) l⟩]:=by
 unfold ptsX;rw [aM h,bK,dH];simp [h]
theorem iQ1 {l:List Ord} {more:Int} (h:xs.Pairwise (· < ·)) (a:∀p,p∈xs↔p∈bL0 (l.filter okO) more):ptsX xs (l.filter okO)=aS0 l more:=by
 unfold ptsX aS0;rw [qA0 h (fun p=>by rw [a,lK1])];refine List.map_congr_left (fun p _=>?_);rw [xQ1,xR1]
theorem zF0 (h:xs.Nodup):(gM0 xs).Pairwise (· < ·):=by
 have c:=dU0 xs;have d:(gM0 xs).Nodup:=(List.mergeSort_perm xs _).nodup_iff.2 h;refine (c.and d).imp (fun ⟨a,b⟩=>by omega)
def topF (f:Pt->Int) (a:Int) (l:List Pt):Int:=l.foldl (fun m x=>max m (f x)) a
def fX0 (f:Pt->Int) (l:List Pt):List Pt:=l.filter fun x=>f x == topF f (f (ptAt l 0)) l
def cN0 (f:Pt->Int) (l:List Pt):List Pt:=fX0 (fun x=>-f x) l
def surB (x:Pt):Int:=x.dem - x.sup
def apB (a b:Int):Int:=max a b - min a b
def lfP (x:Pt):Int:=apB x.dem x.sup
def iX0 (around:Int) (x:Pt):Int:=apB x.price around
def upB (x:Pt):Bool:=decide (surB x>0)
def kY0 (x:Pt):Bool:=decide (surB x<0)
def allP (q:Pt->Bool) (l:List Pt):Bool:=(((l.filter q).length:Int) == (l.length:Int))
def hM0 (around:Int) (l:List Pt):List Pt:=
 if allP upB l=true then fX0 Pt.price l else if allP kY0 l=true then cN0 Pt.price l else cN0 Pt.price (cN0 (iX0 around) l)
def rY0 (l:List Pt):Bool:=((l.length:Int) == 0) || decide (trB (ptAt l 0)<1)
def dA1 (l:List Pt) (around:Int):Quo:=
 if rY0 (fX0 trB l)=true then ⟨0,0,0⟩ else quoP (ptAt (hM0 around (cN0 lfP (fX0 trB l))) 0)
theorem lM1 (a b:Int):apB a b=absI (a - b):=by unfold apB absI;split <;> omega
theorem xS1 (x:Pt):lfP x=lfB x:=lM1 _ _
theorem lN1 {f:Pt->Int} {l:List Pt} (h:k<l.length):topF f a (l.take (k+1))=max (topF f a (l.take k)) (f (ptAt l k)):=lR0 _ _ h
theorem lO1 (f:Pt->Int):∀(l:List Pt) (a:Int),a<=topF f a l
 | [],a=>bP _
 | x::l,a=>gT o7 (lO1 f l (max a (f x)))
theorem fM1 (f:Pt->Int):∀(l:List Pt) (a:Int) {x:Pt},x∈l->f x<=topF f a l
 | y::l,a,x,h=>by
  rw [aR] at h;rcases h with rfl | h
  ·exact gT o7 (lO1 f l (max a (f x)))
  ·exact fM1 f l _ h
theorem lP1 (f:Pt->Int):∀(l:List Pt) (a:Int),topF f a l=a\/∃x∈l,f x=topF f a l
 | [],a=>aH rfl
 | y::l,a=>by
  have e:topF f a (y::l)=topF f (max a (f y)) l:=rfl;rw [e];rcases lP1 f l (max a (f y)) with h | ⟨x,b,h⟩
  ·rw [h]
   by_cases c:f y<=a
   ·exact aH o7
   ·exact aG ⟨y,aK ..,o7⟩
  ·exact aG ⟨x,aQ _ b,h⟩
theorem fQ0 (f:Pt->Int) {l:List Pt} (h:0<l.length):∃top,fX0 f l=l.filter (fun x=>f x == top)/\(∀x∈l,f x<=top)/\∃x∈l,f x=top:=by
 refine ⟨topF f (f (ptAt l 0)) l,rfl,fun x a=>fM1 f l _ a,?_⟩;rcases lP1 f l (f (ptAt l 0)) with e | e
 ·exact ⟨ptAt l 0,cS0 h,e.symm⟩
 ·exact e
theorem rZ0 (f:Pt->Int) (l:List Pt):(fX0 f l).length<=l.length:=cE _ _
theorem uX0 (f:Pt->Int) (l:List Pt):(cN0 f l).length<=l.length:=rZ0 _ _
theorem sA0 {f:Pt->Int} {l:List Pt} {x:Pt} (h:x∈fX0 f l):x∈l:=(bM.1 h).1
theorem jT0 {f:Pt->Int} {l:List Pt} {x:Pt} (h:x∈cN0 f l):x∈l:=sA0 h
theorem hN0 (f:Pt->Int) {l:List Pt} (h:0<l.length):0<(fX0 f l).length:=by
 obtain ⟨t,e,_,x,c,b⟩:=fQ0 f h;rw [e];exact fI (a:=x) (bM.2 ⟨c,by simp [b]⟩)
theorem zG0 (around:Int) {l:List Pt} (h:0<l.length):0<(hM0 around l).length:=by
 unfold hM0;split
 ·exact hN0 _ h
 ·split
  ·exact hN0 _ h
  ·exact hN0 _ (hN0 _ h)
theorem lQ1 {l:List Pt} {x:Pt} (h:x∈hM0 around l):x∈l:=by
 unfold hM0 at h;split at h
 ·exact sA0 h
 ·split at h
  ·exact jT0 h
  ·exact jT0 (jT0 h)
theorem lR1 (q:Pt->Bool) (l:List Pt):allP q l=l.all q:=by
 induction l with
 | nil=>rfl
 | cons x l ih=>
  have a:=cE q l
  by_cases h:q x=true
  ·have e:allP q (x::l)=allP q l:=by
    unfold allP;simp only [eB,h,if_true,aZ];rw [cR];simp
   rw [e,ih];simp [h]
  ·have e:allP q (x::l)=false:=by
    unfold allP;simp only [eB,h,aZ];simp;omega
   rw [e];simp [h]
theorem kK0 {q:Pt->Bool}:∀{l:List Pt},(∃x∈l,q x=true)->∃i,i<l.length/\ptAt (l.filter q) 0=ptAt l i/\q (ptAt l i)=true/\∀j,j<i->q (ptAt l j)=false
 | [],h=>by obtain ⟨x,a,_⟩:=h;cases a
 | y::l,h=>by
  by_cases b:q y=true
  ·refine ⟨0,by simp,?_,?_,fun j k=>by omega⟩
   ·simp [ptAt,b]
   ·simpa [ptAt] using b
  ·obtain ⟨x,a,c⟩:=h;rw [aR] at a;rcases a with rfl | a
   ·exact absurd c b
   ·obtain ⟨i,d,e,f,g⟩:=kK0 (l:=l) ⟨x,a,c⟩;refine ⟨i+1,by simpa using d,?_,?_,fun j k=>?_⟩
    ·rw [eB,aA b,e];simp [ptAt]
    ·simpa [ptAt] using f
    ·cases j with
     | zero=>simpa [ptAt] using b
     | succ j=>have:=g j o7;simpa [ptAt] using this
def k1P (b s:Bool) (around:Int) (x:Pt):Int:=if b=true then 0 else if s=true then 0 else absI (x.price - around)
def k2P (b:Bool) (x:Pt):Int:=if b=true then -x.price else x.price
theorem dR0 (b s:Bool) (around:Int) (p x:Pt):gN0 b s around p x=true↔(k1P b s around p<k1P b s around x\/(k1P b s around p=k1P b s around x/\k2P b p<k2P b x)):=by
 unfold gN0 k1P k2P;cases b <;> cases s <;> simp
def wS0 (b s:Bool) (around:Int) (l:List Pt) (k i:Nat):Prop:=
 (∀j,j<k->gN0 b s around (ptAt l j) (ptAt l i)=false)/\∀j,j<i->gN0 b s around (ptAt l i) (ptAt l j)=true
theorem sB0 (b s:Bool) (around:Int) {l:List Pt} (h:0<l.length):∀k,k<=l.length->∃i,i<l.length/\gO0 b s around l k=ptAt l i/\wS0 b s around l k i/\(i<k\/i=0)
 | 0,_=>⟨0,h,rfl,⟨fun j a=>by omega,fun j a=>by omega⟩,aG rfl⟩
 | k+1,hk=>by
  obtain ⟨i,f,g,⟨d,m⟩,n⟩:=sB0 b s around h k o7;rw [oW0 o7,g];unfold wP0
  by_cases c:gN0 b s around (ptAt l k) (ptAt l i)=true
  ·rw [aB c];have o:=(dR0 ..).1 c;refine ⟨k,o7,rfl,⟨fun j a=>?_,fun j a=>?_⟩,aH o7⟩
   ·rw [dN];intro p;have q:=(dR0 ..).1 p
    by_cases e:j=k
    ·subst e;omega
    ·have:=d j o7;rw [dN] at this;exact this ((dR0 ..).2 o7)
   ·have:=d j a;rw [dN] at this;have r:¬_:=fun e=>this ((dR0 ..).2 e)
    exact (dR0 ..).2 o7
  ·rw [aA c];refine ⟨i,f,rfl,⟨fun j a=>?_,m⟩,n.imp (fun e=>by omega) id⟩
   by_cases e:j=k
   ·subst e;simpa using c
   ·exact d j o7
theorem lS1 {b s:Bool} {l:List Pt} {i':Nat} (hi:i<l.length) (c:i'<l.length) (h:wS0 b s around l l.length i) (d:wS0 b s around l l.length i'):i=i':=by
 rcases Nat.lt_trichotomy i i' with e | e | e
 ·have a:=d.2 i e;rw [h.1 i' c] at a;cases a
 ·exact e
 ·have a:=h.2 i' e;rw [d.1 i hi] at a;cases a
theorem dB1 {l:List Pt} (h:0<l.length):∃i,i<l.length/\ptAt (hM0 around l) 0=ptAt l i/\wS0 (hK0 l) (dV0 l) around l l.length i:=by
 have E:allP upB l=hK0 l:=by
  rw [lR1];unfold hK0 upB surB;congr 1;funext x;first | (simp;done) | (simp;omega)
 have D:allP kY0 l=dV0 l:=by
  rw [lR1];unfold dV0 kY0 surB;congr 1;funext x;first | (simp;done) | (simp;omega)
 unfold hM0;rw [E,D];cases hb:hK0 l with
 | true=>
  rw [aB rfl];obtain ⟨t,e,g,z,v,f⟩:=fQ0 Pt.price h;rw [e];obtain ⟨i,c,o,m,p⟩:=kK0 (q:=fun x=>x.price == t) ⟨z,v,by simp [f]⟩;refine ⟨i,c,o,fun j a=>?_,fun j a=>?_⟩
  ·rw [dN];intro s;have b:=(dR0 ..).1 s;have:=g _ (cS0 a);have d:(ptAt l i).price=t:=by simpa using m
   simp [k1P,k2P] at b;omega
  ·have r:=p j a;have w:(ptAt l j).price≠t:=by simpa using r
   have:=g _ (cS0 (fW a c));have d:(ptAt l i).price=t:=by simpa using m
   exact (dR0 ..).2 (by simp [k1P,k2P];omega)
 | false=>
  rw [aA d7];cases hs:dV0 l with
  | true=>
   rw [aB rfl];obtain ⟨t,e,g,z,v,f⟩:=fQ0 (fun x=>-x.price) h;rw [cN0,e];obtain ⟨i,c,o,m,p⟩:=kK0 (q:=fun x=>-x.price == t) ⟨z,v,by simp [f]⟩;refine ⟨i,c,o,fun j a=>?_,fun j a=>?_⟩
   ·rw [dN];intro s;have b:=(dR0 ..).1 s;have:=g _ (cS0 a);have d:-(ptAt l i).price=t:=by simpa using m
    simp [k1P,k2P] at b;omega
   ·have r:=p j a;have w:-(ptAt l j).price≠t:=by simpa using r
    have:=g _ (cS0 (fW a c));have d:-(ptAt l i).price=t:=by simpa using m
    exact (dR0 ..).2 (by simp [k1P,k2P];omega)
  | false=>
   rw [aA d7];obtain ⟨t,e,g,z,v,f⟩:=fQ0 (fun x=>-iX0 around x) h;have B:cN0 (iX0 around) l=l.filter (fun x=>-iX0 around x == t):=e;have G:0<(cN0 (iX0 around) l).length:=hN0 _ h;obtain ⟨t2,C,n,H,u,y⟩:=fQ0 (fun x=>-x.price) G;rw [show cN0 Pt.price (cN0 (iX0 around) l)=(cN0 (iX0 around) l).filter (fun x=>-x.price == t2) from C];rw [B] at u n ⊢;rw [cZ];have k:=bM.1 u;obtain ⟨i,c,o,m,p⟩:=kK0 (l:=l) (q:=fun x=>(-x.price == t2)&& (-iX0 around x == t)) ⟨H,k.1,by rw [k.2];simp [y]⟩;have d:-(ptAt l i).price=t2/\-iX0 around (ptAt l i)=t:=by simpa using m
   have A:∀x:Pt,iX0 around x=absI (x.price - around):=fun x=>lM1 _ _
   refine ⟨i,c,o,fun j a=>?_,fun j a=>?_⟩
   ·rw [dN];intro s;have b:=(dR0 ..).1 s;simp only [k1P,k2P,dI,if_false,<-A] at b;have F:=g _ (cS0 a)
    by_cases e:-iX0 around (ptAt l j)=t
    ·have:=n _ (bM.2 ⟨cS0 a,by simp [e]⟩);omega
    ·omega
   ·have r:=p j a;have F:=g _ (cS0 (fW a c));refine (dR0 ..).2 ?_;simp only [k1P,k2P,dI,if_false,<-A]
    by_cases e:-iX0 around (ptAt l j)=t
    ·have I:=n _ (bM.2 ⟨cS0 (fW a c),by simp [e]⟩);have J:¬-(ptAt l j).price=t2:=by simpa [e] using r
     omega
    ·omega
theorem iR1 {l:List Pt} (h:0<l.length):ptAt (hM0 around l) 0=iJ1 (hK0 l) (dV0 l) around l:=by
 obtain ⟨i,d,e,f⟩:=dB1 (around:=around) h;obtain ⟨g,b,a,c,_⟩:=sB0 (hK0 l) (dV0 l) around h l.length lR7;rw [rR0] at a;rw [e,a,lS1 d b f c]
theorem iS1 (l:List Pt) (around:Int):dA1 l around=aO0 l around:=by
 unfold dA1 aO0
 by_cases r:cP0 l<1
 ·rw [aB r]
  have k:rY0 (fX0 trB l)=true:=by
   by_cases b:0<l.length
   ·obtain ⟨t,e,_,z,o,d⟩:=fQ0 trB b;have i:=cS0 (hN0 trB b);rw [e] at i;have g:=bM.1 i;have j:=rS0 g.1;rw [<-e] at j;unfold rY0;rw [Bool.or_eq_true];exact aG (aE o7)
   ·have:(fX0 trB l).length=0:=by have:=rZ0 trB l;omega
    unfold rY0;simp [this]
  rw [aB k]
 ·rw [aA r]
  have b:0<l.length:=by
   rcases qQ0 l with h | ⟨x,m,_⟩
   ·omega
   ·exact fI m
  obtain ⟨t,e,E,z,o,d⟩:=fQ0 trB b;have a:=hN0 trB b
  have B:t=cP0 l:=by
   rcases qQ0 l with h | ⟨x,m,h⟩
   ·omega
   ·have J:=E x m;have i:=rS0 o;omega
  subst B;have g:=bM.1 (e ▸ cS0 a)
  have k:rY0 (fX0 trB l)=false:=by
   unfold rY0;rw [fN];refine ⟨by simp;intro C;rw [C] at a;simp at a,aD ?_⟩;have:trB (ptAt (fX0 trB l) 0)=cP0 l:=by rw [<-e] at g;simpa using g.2
   omega
  rw [aA (by rw [k];decide)]
  have A:cN0 lfP (fX0 trB l)=eI0 (cP0 l) (dP0 (cP0 l) l).1 l:=by
   obtain ⟨s,v,c,H,f,p⟩:=fQ0 (fun x=>-lfP x) a;rw [show cN0 lfP (fX0 trB l)=(fX0 trB l).filter (fun x=>-lfP x == s) from v];rcases rT0 (cP0 l) l with ⟨_,j⟩ | ⟨_,⟨y,F,n,G⟩,D⟩
   ·exact absurd d (j z o)
   ·have w:s=-(dP0 (cP0 l) l).1:=by
     rw [e] at f c;have u:=c y (bM.2 ⟨F,by simp [n]⟩);have q:=bM.1 f;have I:=D H q.1 (by simpa using q.2);rw [xS1] at u p;omega
    rw [e,cZ,eI0]
    congr 1
    funext x
    unfold nK0;rw [w,xS1,Bool.and_comm]
    congr 1
    rw [cR];first | (simp;done) | (simp;omega)
  rw [A,iR1 (rU0 o7)];rfl
theorem dM2 {l:List Pt} (h:0<l.length):ptAt (hM0 around l) 0∈l:=lQ1 (cS0 (zG0 around h))
def dS0 (w:World) (a:Option Addr) (l:List Ord):Prop:=∀k,k<l.length->∃b off,a=some ⟨b,off,none⟩/\w.cell? ⟨b,off+k*5,none⟩=some (U G (oAt l k).id)/\w.cell? ⟨b,off+k*5+1,none⟩=some (U G (oAt l k).side)/\w.cell? ⟨b,off+k*5+2,none⟩=some (U G (oAt l k).kind)/\w.cell? ⟨b,off+k*5+3,none⟩=some (U G (oAt l k).price)/\w.cell? ⟨b,off+k*5+4,none⟩=some (U G (oAt l k).qty)
theorem cM0 {p:Addr} (a:Below w.heap.size w w') (h:w.cell? p=some v):w'.cell? p=some v:=(a.cell (World.block_lt_of_cell? w _ h)).trans h
theorem dS0.below {w w':World} {a:Option Addr} {l:List Ord} (h:dS0 w a l) (c:Below w.heap.size w w'):dS0 w' a l:=fun k hk=>by
 obtain ⟨b,d,e,f,g,i,j,m⟩:=h k hk;exact ⟨b,d,e,cM0 c f,cM0 c g,cM0 c i,cM0 c j,cM0 c m⟩
theorem dS0.of_row {w:World} {base:Nat} {v:Value} {l:List Ord} (h:w.ownsRow base 92 5 v l.length (oV l)):∃a b,v=J a l.length b/\dS0 w a l:=by
 obtain ⟨a,b,rfl,_,_⟩:=bO0 h;refine ⟨a,b,rfl,fun k hk=>?_⟩;obtain ⟨g,c,e,d,f,i,j,m⟩:=cT0 h hk;simp only [aY,true_and] at e;exact ⟨g,0,e.1,by simpa using d,by simpa using f,by simpa using i,by simpa using j,by simpa using m⟩
theorem bK0 (w:World) (o:Obj):Below w.heap.size w (w.alloc o):=(aF _ _).alloc lR7 o
theorem aV0 {w1 w2:World} (h:Below w.heap.size w w1) (a:Below w1.heap.size w1 w2):Below w.heap.size w w2:=h.trans (a.mono h.size)
theorem aP0 (h:w.heap[b]? = some (R vs t (0,0))) (a:vs[j]? = some v):w.cell? ⟨b,j,none⟩=some v:=(cell_of_row w b j vs t (0,0) h).trans a
theorem cD0 (h:w.heap[b]? = some (R vs t (0,0))):w.frozen? ⟨b,j,none⟩=false:=frozen_of_row w b j vs t h
theorem eF0 (u:Value) (h:w.heap[b]? = some (R vs t (0,0))):(w.setCell ⟨b,j,none⟩ u).heap[b]? = some (R (vs.setIfInBounds j u) t (0,0)):=heap_setCell_same w b j vs t u h
theorem eX0 {o:Obj} (h:w.heap[b]? = some o) (a:Below w.heap.size w w'):w'.heap[b]? = some o:=(a.block b (lt_of_block h)).trans h
theorem infoInt:(prog.info? 3).map (fun i=>(i.zero,i.size,i.bytes))=some (some (U G 0),1,8):=k7
def ints (l:List Int):List Value:=l.map (Value.int .i64)
theorem lT1 (l:List Int) (x:Int):ints (l++[x])=ints l++[U G x]:=by simp [ints]
theorem dC1 {l:List Int} (h:k<l.length):(ints l)[k]? = some (U G (l.getD k 0)):=by simp [ints,h]
theorem dD1 {l:List Ord} {more:Int} (h:0<more):dM0 l more 0=[more]:=by simp [dM0,bL0,h]
theorem dE1 {l:List Ord} {more:Int} (h:¬0<more):dM0 l more 0=[]:=by simp [dM0,bL0,h]
theorem dF1 (l:List Ord) (more:Int) (k:Nat) (hk:k<=l.length):(dM0 l more k).length<=k+1:=by
 have:=rQ0 (l.take k) more;rw [bF] at this;unfold dM0;omega
theorem sN1 {a:List Int} (h:fstB a k=false):fW0 a (k+1)=fW0 a k:=by rw [lQ0,aA (by rw [h];decide)]
theorem lU1 {a:List Int} (h:fstB a k=true):fW0 a (k+1)=fW0 a k++[a.getD k 0]:=by rw [lQ0,aB h]
theorem lV1 (a:List Int) (k:Nat):fstB a (k+1)=!(a.getD k 0 == a.getD (k+1) 0):=by simp [fstB]
theorem dN2 {l:List Ord} (h:j<l.length) (a:fB0 p (oAt l j)=false):demO p (l.take (j+1))=demO p (l.take j):=by rw [yW0 p h,a];simp
theorem zA1 {l:List Ord} (h:j<l.length) (a:fB0 p (oAt l j)=true):demO p (l.take (j+1))=demO p (l.take j)+(oAt l j).qty:=by rw [yW0 p h,a];simp
theorem dO2 {l:List Ord} (h:j<l.length) (a:cY0 p (oAt l j)=false):supO p (l.take (j+1))=supO p (l.take j):=by rw [yX0 p h,a];simp
theorem zB1 {l:List Ord} (h:j<l.length) (a:cY0 p (oAt l j)=true):supO p (l.take (j+1))=supO p (l.take j)+(oAt l j).qty:=by rw [yX0 p h,a];simp
theorem sO1 {o:Ord} (h:okO o=false):fB0 p o=false:=by unfold fB0;rw [h];rfl
theorem lW1 {o:Ord} (h:okO o=false):cY0 p o=false:=by unfold cY0;rw [h];rfl
theorem lX1 {o:Ord} (h:o.side=2):fB0 p o=false:=by unfold fB0;rw [h];simp
theorem iT1 {o:Ord} (h:o.side=1):cY0 p o=false:=by unfold cY0;rw [h];simp
theorem zC1 {o:Ord} (h:okO o=true) (a:o.side=1) (b:o.kind=2):fB0 p o=true:=by unfold fB0;rw [h,a,b];simp
theorem sP1 {o:Ord} (h:okO o=true) (a:o.side=2) (b:o.kind=2):cY0 p o=true:=by unfold cY0;rw [h,a,b];simp
theorem sQ1 {o:Ord} (h:okO o=true) (a:o.side=1) (b:p<=o.price):fB0 p o=true:=by unfold fB0;rw [h,a];simp [b]
theorem lY1 {o:Ord} (h:okO o=true) (a:o.side=2) (b:o.price<=p):cY0 p o=true:=by unfold cY0;rw [h,a];simp [b]
theorem sR1 {o:Ord} (a:¬o.kind=2) (b:¬p<=o.price):fB0 p o=false:=by unfold fB0;simp [a,b]
theorem lZ1 {o:Ord} (a:¬o.kind=2) (b:¬o.price<=p):cY0 p o=false:=by unfold cY0;simp [a,b]
theorem bW0 {a:Nat} {xs:List Value} (h:w.ownsRow base e b v n xs) (c:a<=base):w.ownsRow a e b v n xs:=
 ⟨h.1,h.2.imp id (fun ⟨g,cap,cur,e,hg,r⟩=>⟨g,cap,cur,e,Nat.le_trans c hg,r⟩)⟩
def ptOf (l:List Ord) (p:Int):Pt:=⟨p,demO p l,supO p l⟩
def kL0 (w:World) (a:Option Addr) (l:List Pt):Prop:=∀k,k<l.length->∃b off,a=some ⟨b,off,none⟩/\w.cell? ⟨b,off+k*3,none⟩=some (U G (ptAt l k).price)/\w.cell? ⟨b,off+k*3+1,none⟩=some (U G (ptAt l k).dem)/\w.cell? ⟨b,off+k*3+2,none⟩=some (U G (ptAt l k).sup)
theorem kL0.below {w w':World} {a:Option Addr} {l:List Pt} (h:kL0 w a l) (c:Below w.heap.size w w'):kL0 w' a l:=fun k hk=>by
 obtain ⟨b,d,e,f,g,i⟩:=h k hk;exact ⟨b,d,e,cM0 c f,cM0 c g,cM0 c i⟩
theorem kL0.of_row {w:World} {base:Nat} {t:TypeId} {v:Value} {l:List Pt} (h:w.ownsRow base t 3 v l.length (ptV l)):∃a b,v=J a l.length b/\kL0 w a l:=by
 obtain ⟨a,b,rfl,_,_⟩:=bO0 h;refine ⟨a,b,rfl,fun k hk=>?_⟩;obtain ⟨g,c,e,d,f,i⟩:=fH1 h hk;simp only [aY,true_and] at e;exact ⟨g,0,e.1,by simpa using d,by simpa using f,by simpa using i⟩
def iL0 (w:World) (qb:Nat):Prop:=w.heap[qb]? = some (R #[U G 0,U G 0,U G 0] 107 (0,0))
theorem iL0.below {w w':World} {qb:Nat} (h:iL0 w qb) (a:Below w.heap.size w w'):iL0 w' qb:=eX0 h a
theorem cu_keyInt:Maps.Keyed prog 3:=Maps.int_keyed underlying3
theorem cu_keyIs {a:Int} (h:(Lit.int .i64 a).wf=true):keyOf prog 3 (.int .i64 a)=some (.int .i64 a):=Maps.keyOf_int_mk underlying3 h
theorem zeroLots (w:World):(zeroValue 257).run prog w=.ok (.agg #[U G 0,U G 0]) w:=k7
def lotR (v:Value):Option (DataW Unit×List MemPlace):=
 match v with
 | .agg ⟨[.int .i64 a,.int .i64 b]⟩=>some (.agg [.lit (.int .i64 a),.lit (.int .i64 b)],[])
 | _=>none
def lotE (a b:Int):DataW Unit:=.agg [.lit (.int .i64 a),.lit (.int .i64 b)]
theorem dG1 (a b:Int):lotR (.agg #[U G a,U G b])=some (lotE a b,[]):=rfl
theorem uY0 {y:DataW Unit×List MemPlace} (h:lotR v=some y):∃a b:Int,v=.agg #[.int .i64 a,.int .i64 b]/\y=(lotE a b,[]):=by
 unfold lotR at h;split at h
 ·rename_i a b;exact ⟨a,b,rfl,by simpa [lotE] using h.symm⟩
 ·cases h
theorem fN1 {b c b':Int} (h:lotE a b=lotE c b'):a=c/\b=b':=by simpa [lotE] using h
theorem sS1 {b:Int} {c:List MemPlace} (h:lotR v=some (lotE a b,c)):v=.agg #[U G a,U G b]:=by
 obtain ⟨d,b',rfl,e⟩:=uY0 h;obtain ⟨rfl,rfl⟩:=fN1 (Prod.mk.injEq .. ▸ e:lotE a b=lotE d b'/\c=[]).1;rfl
def LotD (D:DataW Unit) (l:List Ord) (more:Int):Prop:=
 (∀p,D.atKey (.int .i64 p) (lotE 0 0)=lotE (sumQ (dX0 p) l) (sumQ (fD0 p) l))/\∀p,Maps.has D (.int .i64 p)=true↔p∈bL0 l more
theorem wT0 (a:Int):WideAt.IsKeyLit (Lit.int .i64 a):=trivial
theorem fO1 {b:Int} (h:a≠b):(Lit.int .i64 a)≠Lit.int .i64 b:=fun e=>h (by injection e)
theorem LotD.start {more:Int} (h:¬0<more):LotD (.map []) [] more:=by
 refine ⟨fun p=>rfl,fun p=>?_⟩;rw [dL0];constructor
 ·intro e;cases e
 ·rintro (⟨a,_⟩ | ⟨o,b,_⟩)
  ·exact absurd a h
  ·cases b
theorem LotD.more {more:Int} (h:0<more):LotD ((DataW.map []).put (.int .i64 more) (lotE 0 0)) [] more:=by
 refine ⟨fun p=>?_,fun p=>?_⟩
 ·by_cases e:p=more
  ·subst e;exact Maps.atKey_put_same ⟨_,rfl⟩ (wT0 _) _ _
  ·rw [Maps.atKey_put_other (fO1 e)];rfl
 ·rw [dL0]
  by_cases e:p=more
  ·subst e;rw [Maps.has_put_same ⟨_,rfl⟩ (wT0 _)];simp [h]
  ·rw [Maps.has_put_other (fO1 e)];constructor
   ·intro a;cases a
   ·rintro (⟨_,b⟩ | ⟨o,c,_⟩)
    ·exact absurd b e
    ·cases c
theorem jU0 (q:Ord->Bool) (l:List Ord) (o:Ord):sumQ q (l++[o])=sumQ q l+(if q o=true then o.qty else 0):=by
 unfold sumQ;rw [bK,dH,nJ0]
theorem qB0 {l:List Ord} {more:Int} {o:Ord}:p∈bL0 (l++[o]) more↔(p∈bL0 l more\/(eE0 o=true/\o.price=p)):=by
 rw [dL0,dL0];constructor
 ·rintro (h | ⟨x,c,a,b⟩)
  ·exact aH (aH h)
  ·rw [bQ,bC] at c;rcases c with c | rfl
   ·exact aH (aG ⟨x,c,a,b⟩)
   ·exact aG ⟨a,b⟩
 ·rintro ((h | ⟨x,c,a,b⟩) | ⟨a,b⟩)
  ·exact aH h
  ·exact aG ⟨x,by simp [c],a,b⟩
  ·exact aG ⟨o,by simp,a,b⟩
theorem LotD.same {D:DataW Unit} {l:List Ord} {more:Int} {o:Ord} (h:LotD D l more) (hk:o.kind=2):LotD D (l++[o]) more:=by
 have c:eE0 o=false:=by unfold eE0;simp [hk]
 refine ⟨fun p=>?_,fun p=>?_⟩
 ·have a:dX0 p o=false:=by unfold dX0;simp [hk]
  have b:fD0 p o=false:=by unfold fD0;simp [hk]
  rw [h.1 p,jU0,jU0,a,b];simp
 ·rw [h.2 p,qB0,c];simp
theorem LotD.put {D:DataW Unit} {l:List Ord} {more:Int} {o:Ord} (h:LotD D l more) (b:Maps.IsMap D) (f:eE0 o=true):
  LotD (D.put (.int .i64 o.price) (lotE (sumQ (dX0 o.price) (l++[o])) (sumQ (fD0 o.price) (l++[o])))) (l++[o]) more:=by
 refine ⟨fun p=>?_,fun p=>?_⟩
 ·by_cases e:p=o.price
  ·subst e;exact Maps.atKey_put_same b (wT0 _) _ _
  ·have c:dX0 p o=false:=by unfold dX0;simp [Ne.symm e]
   have d:fD0 p o=false:=by unfold fD0;simp [Ne.symm e]
   rw [Maps.atKey_put_other (fO1 e),h.1 p,jU0,jU0,c,d];simp
 ·rw [qB0]
  by_cases e:p=o.price
  ·subst e;rw [Maps.has_put_same b (wT0 _)];simp [f]
  ·rw [Maps.has_put_other (fO1 e),h.2 p];constructor
   ·exact aH
   ·rintro (a | ⟨_,a⟩)
    ·exact a
    ·exact absurd a.symm e
def dW0 (w:World) (B:Nat) (l:List Ord) (more:Int):Prop:=∃D,w.ownsMap prog 3 lotR B (l.length+1) D/\Maps.IsMap D/\LotD D l more
theorem dW0.lt {w:World} {B:Nat} {l:List Ord} {more:Int} (h:dW0 w B l more):B<w.heap.size:=by
 obtain ⟨D,a,_⟩:=h;exact a.lt
theorem dW0.block {w w':World} {B:Nat} {l:List Ord} {more:Int} (h:dW0 w B l more) (i:w'.heap[B]? = w.heap[B]?):dW0 w' B l more:=by
 obtain ⟨D,⟨f,a,b,c,d,e⟩,g⟩:=h;exact ⟨D,⟨f,a,i.trans b,c,d,e⟩,g⟩
theorem dW0.below {w w':World} {B:Nat} {l:List Ord} {more:Int} (h:dW0 w B l more) (a:Below w.heap.size w w'):dW0 w' B l more:=h.block (a.block B h.lt)
theorem dW0.look {w:World} {B:Nat} {l:List Ord} {more:Int} (h:dW0 w B l more) {p:Int} (e:(Lit.int .i64 p).wf=true):
  (Instr.lookup 258 (.map (some B)) (.int .i64 p) false).run prog w=.ok (.agg #[.int .i64 (sumQ (dX0 p) l),.int .i64 (sumQ (fD0 p) l)]) w:=by
 obtain ⟨D,d,f,c⟩:=h;obtain ⟨v,g,a,b⟩:=d.lookup cu_keyInt underlying258 (zeroLots w) (zd:=lotE 0 0) (zp:=[]) rfl (cu_keyIs e);rw [c.1 p] at b;rw [a,sS1 b]
theorem dW0.store {w:World} {B:Nat} {l:List Ord} {more:Int} {o:Ord} (h:dW0 w B l more) (e:eE0 o=true) (g:(Lit.int .i64 o.price).wf=true) (j:l.length<=1000):
  ∃w',(Instr.mapUpdate 258 (.map (some B)) (U G o.price) (.agg #[U G (sumQ (dX0 o.price) (l++[o])),U G (sumQ (fD0 o.price) (l++[o]))])).run prog w=.ok () w'/\dW0 w' B (l++[o]) more/\w.grownBy w' (some B):=by
 obtain ⟨D,f,b,c⟩:=h;obtain ⟨w',i,a,d⟩:=f.update cu_keyInt underlying258 (by unfold maxLen;omega) (cu_keyIs g) (dG1 _ _);refine ⟨w',i,⟨_,?_,b.put _ _,c.put b e⟩,d⟩;rw [aN,bD];exact a
theorem dW0.same {w:World} {B:Nat} {l:List Ord} {more:Int} {o:Ord} (h:dW0 w B l more) (hk:o.kind=2):dW0 w B (l++[o]) more:=by
 obtain ⟨D,c,a,b⟩:=h;exact ⟨D,c.mono s7,a,b.same hk⟩
def andB (o:Ord) (a:Int):Int:=if o.side=1 then a+o.qty else a
def andS (o:Ord) (b:Int):Int:=if o.side=1 then b else b+o.qty
theorem dP2 (a b:Int) (o:Ord) (w:World) (f:-4000000000000000000<=a/\a<=4000000000000000000) (j:-4000000000000000000<=b/\b<=4000000000000000000) (m:-1000000<=o.qty/\o.qty<=1000000):
  Calls prog 192 #[.agg #[U G a,U G b],.agg #[U G o.id,U G o.side,U G o.kind,U G o.price,U G o.qty]] w fun e w'=>e=Y (.agg #[U G (andB o a),U G (andS o b)])/\Below w.heap.size w w':=by
 obtain ⟨g,i⟩:=f;obtain ⟨k,l⟩:=j;obtain ⟨n,p⟩:=m
 by_cases d:o.side=1
 ·have c:Hid (andB o a=a+o.qty/\andS o b=b):=⟨aB d,aB d⟩;go_enter func192,ntmps192;go_wp2_with fail;go_returns;refine ⟨by rw [c.out.1,c.out.2],?_⟩;go_grown
 ·have c:Hid (andB o a=a/\andS o b=b+o.qty):=⟨aA d,aA d⟩;go_enter func192,ntmps192;go_wp2_with fail;go_returns;refine ⟨by rw [c.out.1,c.out.2],?_⟩;go_grown
theorem sT1 (o:Ord) (w:World):
  Calls prog 191 #[.agg #[U G o.id,U G o.side,U G o.kind,U G o.price,U G o.qty]] w fun e w'=>e=Y (.bool (okO o))/\Below w.heap.size w w':=by
 have a:Hid (okO o=(((o.side == 1) || (o.side == 2))&& (decide (1<=o.qty)&& decide (o.qty<=1000000)))):=by
  show okO o=_;unfold okO
  congr 1
  rw [cR,cV1];simp;omega
 go_enter func191,ntmps191;go_wp2_with fail
 all_goals
  go_ret;refine ⟨?_,bK0 w _⟩;rw [a.out]
  first | (simp [*];done) | (simp [*];omega)
structure NumFn (g:Nat) (lb:Array Value) (f:Pt->Int) (l:List Pt) (w0:World):Prop where
 enters:∀args w,(callFunc g args).run prog w=.ok (.enter g args) w
 tells:∀W,Below w0.heap.size w0 W->∀x∈l,Calls prog g (#[.agg #[U G x.price,U G x.dem,U G x.sup]]++lb) W fun e W'=>e=Y (U G (f x))/\Below W.heap.size W W'
structure BoolFn (g:Nat) (lb:Array Value) (q:Pt->Bool) (l:List Pt) (w0:World):Prop where
 enters:∀args w,(callFunc g args).run prog w=.ok (.enter g args) w
 tells:∀W,Below w0.heap.size w0 W->∀x∈l,Calls prog g (#[.agg #[U G x.price,U G x.dem,U G x.sup]]++lb) W fun e W'=>e=Y (.bool (q x))/\Below W.heap.size W W'
theorem NumFn.later {g:Nat} {lb:Array Value} {f:Pt->Int} {l:List Pt} {a w1:World} (h:NumFn g lb f l a) (c:Below a.heap.size a w1):NumFn g lb f l w1:=
 ⟨h.enters,fun W b x d=>h.tells W (aV0 c b) x d⟩
theorem dH1 (q:α->Bool) {l:List α} (h:k<l.length):(l.take (k+1)).filter q=if q l[k]=true then (l.take k).filter q++[l[k]] else (l.take k).filter q:=by
 rw [aM h,cN]
 by_cases a:q l[k]=true
 ·rw [aB a];simp [a]
 ·rw [aA a];simp [a]
theorem infoCp:(prog.info? 252).map (fun i=>(i.zero,i.size,i.bytes))=some (some (.agg #[U G 0,U G 0,U G 0]),3,24):=k7
def iU1 (w:World) (b:Nat) (x:Pt):Prop:=w.heap[b]? = some (R #[U G x.price,U G x.dem,U G x.sup] 252 (0,0))
theorem iU1.below {w w':World} {b:Nat} {x:Pt} (h:iU1 w b x) (a:Below w.heap.size w w'):iU1 w' b x:=eX0 h a
theorem xT1 (a:Option Addr) (I:Nat) (l:List Pt) (g:Nat) (lb:Array Value) (q:Pt->Bool) (w:World) (h:kL0 w a l) (hl:l.length<=1000) (N:BoolFn g lb q l w):
  Calls prog 248 #[J a l.length I,.func (.func g) #[] lb] w fun e w'=>∃v',e=Y v'/\w'.ownsRow w.heap.size 252 3 v' (l.filter q).length (ptV (l.filter q))/\Below w.heap.size w w':=by
 obtain ⟨iP,O,K,L,M⟩:=info_parts infoCp;have X:=hid7 h;have Z:=hid7 N;have eg:=N.enters;clear h N;go_enter func248,ntmps248;go_wp2_with fail;go_loopw [5,10] (fun v i wr=>∃k:Nat,k<=l.length/\i=U G k/\wr.ownsRow w.heap.size 252 3 v ((l.take k).filter q).length (ptV ((l.take k).filter q))/\Below w.heap.size w wr) (fun _ i _=>l.length - (intOf i).toNat)
 case atStart=>exact ⟨0,aO _,rfl,aU _ _ _ _,aF _ _⟩
 case round=>
  obtain ⟨k,hk,rfl,n,F⟩:=hrel;have A:=hid7 n;have D:=hid7 F
  have B:((l.take k).filter q).length<=1000:=by
   have:=cE q (l.take k);rw [bF] at this;omega
  obtain ⟨P,C,rfl,_,_⟩:=bO0 n;clear n
  by_cases c:k<l.length
  ·have a0:(k:Int)<(l.length:Int):=o7;obtain ⟨b,a1,rfl,S,T,V⟩:=X.out.below F k c;have H:Hid (∀W,Below w.heap.size w W->Calls prog g (#[.agg #[U G (ptAt l k).price,U G (ptAt l k).dem,U G (ptAt l k).sup]]++lb) W fun e W'=>e=Y (.bool (q (ptAt l k)))/\Below W.heap.size W W'):=fun W hW=>Z.out.tells W hW _ (cS0 c)
   have y:Hid ((l.take (k+1)).filter q=if q (ptAt l k)=true then (l.take k).filter q++[ptAt l k] else (l.take k).filter q):=by rw [wL0 c];exact dH1 q c
   clear F;generalize ptAt l k=x at S T V H y;generalize (l.take k).filter q=acc at y A B;go_wp2_with fail;have E:iU1 (wr.alloc (R #[U G x.price,U G x.dem,U G x.sup] 252)) wr.heap.size x:=heap_alloc_new wr _;have m:=bK0 wr (R #[U G x.price,U G x.dem,U G x.sup] 252);generalize wr.alloc (R #[U G x.price,U G x.dem,U G x.sup] 252)=W at E m ⊢;generalize wr.heap.size=xb at E ⊢;refine (H.out W (aV0 D.out m)).mono ?_;rintro e Q ⟨rfl,o⟩;have f:=E.below o;have s:Hid (Q.ownsRow w.heap.size 252 3 (J P acc.length C) acc.length (ptV acc)):=cR0 A.out (aV0 m o) lR7;have d:=hid7 (aV0 D.out (aV0 m o));clear E m o A D S T V H;cases z:q x with
   | true=>
    have r:Hid ((l.take (k+1)).filter q=acc++[x]):=by rw [y.out,aB z];rfl
    have y0:=aP0 (j:=0) f rfl;have y1:=aP0 (j:=1) f rfl;have y2:=aP0 (j:=2) f rfl;clear y z f;go_wp2_with (at_builtin;refine wpList_append_own_at _ rfl _ _ 175 rfl w.heap.size 252 iP (.agg #[U G 0,U G 0,U G 0]) 3 24 underlying175 O K L M rfl d7 _ acc.length (ptV acc) rfl (s.out.alloc _) ⟨Q.heap.size,0,none⟩ 1 1 [U G x.price,U G x.dem,U G x.sup] rfl rfl (bJ (cs:=#[U G x.price,U G x.dem,U G x.sup]) (t:=252) (fr:=(0,0)) (heap_alloc_new Q _)) (by simp [Value.oneCell']) (by unfold maxLen;omega) o7 (by have:=d.out.size;simp;omega) ?_;intro v' w6 u p _ _);go_roundw
    case rel=>
     refine ⟨k+1,c,by go_num,?_,(d.out.alloc d.out.size _).grown p (by have:=d.out.size;simp;omega) (fun q z=>(s.out.lt q z).1)⟩;rw [r.out,qP0,aN,bD];exact u
    case measure=>simp [intOf];omega
   | false=>
    have r:Hid ((l.take (k+1)).filter q=acc):=by rw [y.out,aA (by rw [z];decide)];rfl
    clear y z f;go_wp2_with fail;go_roundw
    case rel=>exact ⟨k+1,c,by go_num,by rw [r.out];exact s.out,d.out⟩
    case measure=>simp [intOf];omega
  ·obtain rfl:k=l.length:=o7;rw [bI] at A B ⊢;clear F;go_wp2_with fail;go_ret;exact ⟨_,rfl,A.out,D.out⟩
theorem iV1 {q:Ord->Bool} {l:List Ord} (h:k<l.length):(l.take (k+1)).filter q=if q (oAt l k)=true then (l.take k).filter q++[oAt l k] else (l.take k).filter q:=by
 rw [aM h,cN,eJ0 h]
 by_cases a:q l[k]=true
 ·rw [aB a];simp [a]
 ·rw [aA a];simp [a]
theorem sU1 (a:List Ord) (x:Ord):oV (a++[x])=oV a++[U G x.id,U G x.side,U G x.kind,U G x.price,U G x.qty]:=by rw [cL0];rfl
theorem infoOd:(prog.info? 92).map (fun i=>(i.zero,i.size,i.bytes))=some (some (.agg #[U G 0,U G 0,U G 0,U G 0,U G 0]),5,40):=k7
def iW1 (w:World) (b:Nat) (o:Ord):Prop:=w.heap[b]? = some (R #[U G o.id,U G o.side,U G o.kind,U G o.price,U G o.qty] 92 (0,0))
theorem iW1.below {w w':World} {b:Nat} {o:Ord} (h:iW1 w b o) (a:Below w.heap.size w w'):iW1 w' b o:=eX0 h a
theorem dQ2 (a:Option Addr) (F:Nat) (l:List Ord) (w:World) (h:dS0 w a l) (hl:l.length<=1000):
  Calls prog 190 #[J a l.length F,.func (.func 191) #[] #[]] w fun e w'=>∃v',e=Y v'/\w'.ownsRow w.heap.size 92 5 v' (l.filter okO).length (oV (l.filter okO))/\Below w.heap.size w w':=by
 obtain ⟨Z,L,H,I,K⟩:=info_parts infoOd;have V:=hid7 h;clear h;go_enter func190,ntmps190;go_wp2_with fail;go_loopw [5,10] (fun v i wr=>∃k:Nat,k<=l.length/\i=U G k/\wr.ownsRow w.heap.size 92 5 v ((l.take k).filter okO).length (oV ((l.take k).filter okO))/\Below w.heap.size w wr) (fun _ i _=>l.length - (RowKit.intOf i).toNat)
 case atStart=>exact ⟨0,aO _,rfl,aU _ _ _ _,aF _ _⟩
 case round=>
  obtain ⟨k,hk,rfl,f,D⟩:=hrel;have z:=hid7 f;have E:=hid7 D
  have A:((l.take k).filter okO).length<=1000:=by
   have:=cE okO (l.take k);rw [bF] at this;omega
  obtain ⟨M,B,rfl,_,_⟩:=bO0 f;clear f
  by_cases o:k<l.length
  ·have X:(k:Int)<(l.length:Int):=o7;obtain ⟨b,a0,rfl,O,P,Q,S,T⟩:=V.out.below D k o;have u:Hid ((l.take (k+1)).filter okO=if okO (oAt l k)=true then (l.take k).filter okO++[oAt l k] else (l.take k).filter okO):=iV1 o;clear D;generalize oAt l k=x at O P Q S T u;generalize (l.take k).filter okO=acc at u z A;go_wp2_with fail;have C:iW1 (wr.alloc (R #[U G x.id,U G x.side,U G x.kind,U G x.price,U G x.qty] 92)) wr.heap.size x:=heap_alloc_new wr _;have m:=bK0 wr (R #[U G x.id,U G x.side,U G x.kind,U G x.price,U G x.qty] 92);generalize wr.alloc (R #[U G x.id,U G x.side,U G x.kind,U G x.price,U G x.qty] 92)=W at C m ⊢;generalize wr.heap.size=xb at C ⊢;refine (sT1 x W).mono ?_;rintro e N ⟨rfl,g⟩;have c:=C.below g;have r:Hid (N.ownsRow w.heap.size 92 5 (J M acc.length B) acc.length (oV acc)):=cR0 z.out (aV0 m g) lR7;have d:=hid7 (aV0 E.out (aV0 m g));clear C m g z E O P Q S T;cases y:okO x with
   | true=>
    have p:Hid ((l.take (k+1)).filter okO=acc++[x]):=by rw [u.out,aB y];rfl
    have y0:=aP0 (j:=0) c rfl;have y1:=aP0 (j:=1) c rfl;have y2:=aP0 (j:=2) c rfl;have y3:=aP0 (j:=3) c rfl;have y4:=aP0 (j:=4) c rfl;clear u y c;go_wp2_with (at_builtin;refine wpList_append_own_at _ rfl _ _ 99 rfl w.heap.size 92 Z (.agg #[U G 0,U G 0,U G 0,U G 0,U G 0]) 5 40 underlying99 L H I K rfl d7 _ acc.length (oV acc) rfl (r.out.alloc _) ⟨N.heap.size,0,none⟩ 1 1 [U G x.id,U G x.side,U G x.kind,U G x.price,U G x.qty] rfl rfl (bJ (cs:=#[U G x.id,U G x.side,U G x.kind,U G x.price,U G x.qty]) (t:=92) (fr:=(0,0)) (heap_alloc_new N _)) (by simp [Value.oneCell']) (by unfold maxLen;omega) o7 (by have:=d.out.size;simp;omega) ?_;intro v' w6 s n _ _);go_roundw
    case rel=>
     refine ⟨k+1,o,by go_num,?_,(d.out.alloc d.out.size _).grown n (by have:=d.out.size;simp;omega) (fun q y=>(r.out.lt q y).1)⟩;rw [p.out,sU1,aN,bD];exact s
    case measure=>simp [RowKit.intOf];omega
   | false=>
    have p:Hid ((l.take (k+1)).filter okO=acc):=by rw [u.out,aA (by rw [y];decide)];rfl
    clear u y c;go_wp2_with fail;go_roundw
    case rel=>exact ⟨k+1,o,by go_num,by rw [p.out];exact r.out,d.out⟩
    case measure=>simp [RowKit.intOf];omega
  ·obtain rfl:k=l.length:=o7;rw [bI] at z A ⊢;clear D;go_wp2_with fail;go_ret;exact ⟨_,rfl,z.out,E.out⟩
theorem dR2 {g:Nat} {lb:Array Value} {f:Pt->Int} {l:List Pt} (r:NumFn g lb f l w) {u v:Nat} {k:Int} (A:w.cell? ⟨u,0,none⟩=some (.func (.func g) #[] lb)) (B:w.cell? ⟨v,0,none⟩=some (U G k)):
  BoolFn 249 #[E (some ⟨u,0,none⟩),E (some ⟨v,0,none⟩)] (fun x=>f x == k) l w:=by
 refine ⟨enters_of func249 k7 rfl,fun W m x D=>?_⟩;show Calls prog 249 #[.agg #[U G x.price,U G x.dem,U G x.sup],E (some ⟨u,0,none⟩),E (some ⟨v,0,none⟩)] W _;have H:=r.enters;have c:iU1 (W.alloc (R #[U G x.price,U G x.dem,U G x.sup] 252)) W.heap.size x:=heap_alloc_new W _;have a:=bK0 W (R #[U G x.price,U G x.dem,U G x.sup] 252);have n:=cM0 a (cM0 m A);have o:=cM0 a (cM0 m B);have b:=hid7 a
 have z:∀p C,Calls prog g (#[.agg #[U G x.price,U G x.dem,U G x.sup]]++lb) (Go.Sort.grow (redrawn (W.alloc (R #[U G x.price,U G x.dem,U G x.sup] 252)) p) C) fun e y=>e=Y (U G (f x))/\∃q:Regrown,y=Go.Sort.grow (redrawn (W.alloc (R #[U G x.price,U G x.dem,U G x.sup] 252)) q.d) q.os:=fun p C=>
  Calls.regrown_of (r.tells _ (aV0 (aV0 m a) (below_regrown ..)) x D)
 clear r m A B a;go_enter func249,ntmps249;go_wp2_with fail;generalize W.alloc (R #[U G x.price,U G x.dem,U G x.sup] 252)=V at c b n o z ⊢;generalize s:W.heap.size=xb at c b ⊢;have I:=cell_regrown (aP0 (j:=0) c rfl);have k1:=cell_regrown (aP0 (j:=1) c rfl);have k2:=cell_regrown (aP0 (j:=2) c rfl);have k3:=cell_regrown n;have J:=cell_regrown o;clear c n o;refine wp_region_quiet_below k7 k7 ?_
 repeat (go_big_quiet_step (exact z _ _))
 refine wpQuiet_nil ?_;intro _ t;obtain ⟨⟨p,F⟩,i⟩:=t;subst i;go_wp2;go_ret;subst s;exact ⟨rfl,aV0 b.out (below_regrown ..)⟩
theorem zD1 {g:Nat} {lb:Array Value} {f:Pt->Int} {l:List Pt} (c:NumFn g lb f l w) (k:w.cell? ⟨i,0,none⟩=some (.func (.func g) #[] lb)) (m:∀x∈l,-9000000000000000000<=f x/\f x<=9000000000000000000):
  NumFn 250 #[E (some ⟨i,0,none⟩)] (fun x=>-f x) l w:=by
 refine ⟨enters_of func250 k7 rfl,fun W d x n=>?_⟩;show Calls prog 250 #[.agg #[U G x.price,U G x.dem,U G x.sup],E (some ⟨i,0,none⟩)] W _;have t:=c.enters;have s:=cM0 (bK0 W (R #[U G x.price,U G x.dem,U G x.sup] 252)) (cM0 d k);obtain ⟨p,q⟩:=m x n;have j:Hid (∀V,Below W.heap.size W V->Calls prog g (#[.agg #[U G x.price,U G x.dem,U G x.sup]]++lb) V fun e o=>e=Y (U G (f x))/\Below V.heap.size V o):=fun V hV=>c.tells V (aV0 d hV) x n
 clear c d k m;generalize f x=z at p q j ⊢;go_enter func250,ntmps250;go_wp2_with fail;refine (j.out _ (bK0 W _)).mono ?_;rintro e r ⟨rfl,a⟩;have b:Hid (Below W.heap.size W r):=aV0 (bK0 W _) a;clear a;go_wp2_with fail;go_ret;exact ⟨rfl,b.out⟩
theorem mA1 (a:Option Addr) (a8:Nat) (l:List Pt) (g:Nat) (lb:Array Value) (f:Pt->Int) (w:World) (h:kL0 w a l) (hl:l.length<=1000) (hf:NumFn g lb f l w):
  Calls prog 179 #[J a l.length a8,.func (.func g) #[] lb] w fun e w'=>∃v',e=Y v'/\w'.ownsRow w.heap.size 252 3 v' (fX0 f l).length (ptV (fX0 f l))/\Below w.heap.size w w':=by
 have HA:=hid7 h;have HF:=hid7 hf;have eg:=hf.enters;have c:=bK0 w (R #[.func (.func g) #[] lb] 250);have B:(w.alloc (R #[.func (.func g) #[] lb] 250)).heap[w.heap.size]? = _:=heap_alloc_new w _;clear h hf
 by_cases h0:0<l.length
 ·obtain ⟨b,n,rfl,u,y,A⟩:=HA.out.below c 0 h0;have C:((l.length:Int) == 0)=false:=aC.2 o7;have b1:(0:Int)<(l.length:Int):=o7;go_enter func179,ntmps179;go_upto_region 3 with fail;have r:=hid7 c;have t:Hid (∀W,Below w.heap.size w W->Calls prog g (#[.agg #[U G (ptAt l 0).price,U G (ptAt l 0).dem,U G (ptAt l 0).sup]]++lb) W fun e W'=>e=Y (U G (f (ptAt l 0)))/\Below W.heap.size W W'):=fun W hW=>HF.out.tells W hW _ (cS0 h0)
  have HN:=hid7 B;have n0:=aP0 (j:=0) B rfl;have p:Hid (f (ptAt l 0)=topF f (f (ptAt l 0)) (l.take 0)):=rfl;have Z:Hid (fX0 f l=l.filter fun x=>f x == topF f (f (ptAt l 0)) l):=rfl;generalize f (ptAt l 0)=z0 at t p Z;generalize ptAt l 0=I at u y A t;generalize w.alloc (R #[.func (.func g) #[] lb] 250)=V at u y A r HN n0 ⊢;clear c B C;rw [Nat.zero_mul,Nat.add_zero] at u y A;go_cut [5] from 11 to 15 (fun v wc=>∃tb:Nat,v=E (some ⟨tb,0,none⟩)/\V.heap.size<=tb/\wc.heap[tb]? = some (R #[U G z0] 3 (0,0))/\Below V.heap.size V wc)
  case first=>
   have HS:Hid (∀w',Below V.heap.size V w'->w'.cell? ⟨w.heap.size,0,none⟩=some (.func (.func g) #[] lb)/\w'.cell? ⟨b,n,none⟩=some (U G I.price)/\w'.cell? ⟨b,n+1,none⟩=some (U G I.dem)/\w'.cell? ⟨b,n+2,none⟩=some (U G I.sup)/\Below V.heap.size V w'):=fun w' o=>⟨cM0 o n0,cM0 o u,cM0 o y,cM0 o A,o⟩
   go_region_held3 (fun w'=>w'.cell? ⟨w.heap.size,0,none⟩=some (.func (.func g) #[] lb)/\w'.cell? ⟨b,n,none⟩=some (U G I.price)/\w'.cell? ⟨b,n+1,none⟩=some (U G I.dem)/\w'.cell? ⟨b,n+2,none⟩=some (U G I.sup)/\Below V.heap.size V w')
    ((refine HS.out _ ?_;(repeat' first | assumption | exact aF _ _ | exact lR7 | refine aV ?_ | refine aS ?_ ?_ _ | refine aV0 ?_ d | refine Below.setCell ?_ ?_ _ | (simp;done) | (simp;omega) | (have h9:=d.size;simp at h9 ⊢;omega))))
    (first | (go_at_fn g;refine (t.out _ ?_).mono ?_;(refine aV0 r.out ?_;go_split_ands;assumption);rintro e P ⟨rfl,d⟩;first | (have H:P.heap[V.heap.size]? = some (R #[U G 0] 3 (0,0)):=eX0 (heap_alloc_new V.drew _) d;have c5:=aP0 (j:=0) H rfl;have f5:=cD0 (j:=0) H) | skip))
   ·have HR:Hid (Below V.heap.size V (P.alloc (R #[U G z0] 3))):=by go_split_ands;assumption
    have HZ:=hid7 d.size;go_wp2_with fail;go_meet;exact ⟨_,rfl,HZ.out,heap_alloc_new P _,HR.out⟩
   ·have HR:Hid (Below V.heap.size V (P.setCell ⟨V.heap.size,0,none⟩ (U G z0))):=by go_split_ands;assumption
    have HZ:Hid _:=H;go_wp2_with fail;go_meet;exact ⟨_,rfl,lR7,eF0 (j:=0) _ HZ.out,HR.out⟩
  case rest=>
   obtain ⟨tb,rfl,a1,q,L⟩:=hcut;have X:Hid (wc.heap[tb]? = some (R #[U G (topF f z0 (l.take 0))] 3 (0,0))):=by rw [<-p.out];exact q
   have T:=hid7 (eX0 HN.out L);have Q:=hid7 (aV0 r.out L);have F:w.heap.size<tb:=aT (lt_of_block HN.out) a1;clear q L r HN a1 t u y A n0 p;go_wp2_with fail;go_loopw [18] (fun i wr=>∃k:Nat,k<=l.length/\i=U G k/\wr.heap[tb]? = some (R #[U G (topF f z0 (l.take k))] 3 (0,0))/\wr.heap[w.heap.size]? = some (R #[.func (.func g) #[] lb] 250 (0,0))/\Below w.heap.size w wr) (fun i _=>l.length - (intOf i).toNat)
   case atStart=>exact ⟨0,aO _,rfl,X.out,T.out,Q.out⟩
   case round=>
    obtain ⟨k,hk,rfl,q,B,o⟩:=hrel;clear X T Q;have HB:=hid7 o
    by_cases s:k<l.length
    ·have b0:(k:Int)<(l.length:Int):=o7;obtain ⟨b',off',he,u,y,A⟩:=HA.out.below o k s;obtain ⟨rfl,rfl⟩:b=b'/\n=off':=by simpa using he
     have K:Hid (topF f z0 (l.take (k+1))=max (topF f z0 (l.take k)) (f (ptAt l k))):=lN1 s;have t:Hid (∀W,Below w.heap.size w W->Calls prog g (#[.agg #[U G (ptAt l k).price,U G (ptAt l k).dem,U G (ptAt l k).sup]]++lb) W fun e W'=>e=Y (U G (f (ptAt l k)))/\Below W.heap.size W W'):=fun W hW=>HF.out.tells W hW _ (cS0 s)
     generalize f (ptAt l k)=z at K t;generalize ptAt l k=x at u y A t;generalize topF f z0 (l.take k)=m at K q;clear o he;go_upto_region 7 with fail;have O:iU1 (wr.alloc (R #[U G x.price,U G x.dem,U G x.sup] 252)) wr.heap.size x:=heap_alloc_new wr _;have c:=bK0 wr (R #[U G x.price,U G x.dem,U G x.sup] 252);have a9:wr.heap.size≠tb:=fun e=>by have:=lt_of_block q;omega
     generalize wr.alloc (R #[U G x.price,U G x.dem,U G x.sup] 252)=V2 at O c ⊢;generalize wr.heap.size=xb at O a9 ⊢;have S:=hid7 (aV0 HB.out c);have N:=eX0 q c;have M:=eX0 B c;have a4:=hid7 M;have t2:=aP0 (j:=0) N rfl;clear q B c HB u y A;have n2:=aP0 (j:=0) M rfl;have I:=aP0 (j:=0) O rfl;have x1:=aP0 (j:=1) O rfl;have x2:=aP0 (j:=2) O rfl;have a6:=hid7 N;clear N M O;go_region_with (go_at_fn g;refine (t.out _ ?_).mono ?_;(refine aV0 S.out ?_;(repeat' first | assumption | exact aF _ _ | exact lR7 | refine aV ?_ | refine aS ?_ ?_ _ | (simp;done) | (simp;omega)));rintro e P ⟨rfl,d⟩;(have H:P.heap[tb]? = some (R #[U G m] 3 (0,0)):=eX0 (w:=V2.drew) a6.out d;have c5:=aP0 (j:=0) H rfl;have f5:=cD0 (j:=0) H))
     all_goals
      have a7:=hid7 H;have a2:=hid7 (aV0 (w1:=V2.drew) S.out.drew d);have a5:=hid7 (eX0 (w:=V2.drew) a4.out d);clear d H c5 f5 t2 n2 I x1 x2;go_wp2_with fail;go_roundw
      case rel=>exact ⟨k+1,s,by go_num,by rw [K.out];exact eF0 (j:=0) _ a7.out,(Below.heap_setCell _ _ _ _ (Nat.ne_of_lt F)).trans a5.out,a2.out.setCell (Nat.le_of_lt F) _⟩
      case measure=>simp [intOf];omega
    ·obtain rfl:k=l.length:=o7;rw [bI] at q
     have HK:Hid (∀ca,Calls prog 248 #[J (some ⟨b,n,none⟩) l.length ca,.func (.func 249) #[] #[E (some ⟨w.heap.size,0,none⟩),E (some ⟨tb,0,none⟩)]] wr fun e w'=>∃v',e=Y v'/\w'.ownsRow wr.heap.size 252 3 v' (l.filter fun x=>f x == topF f z0 l).length (ptV (l.filter fun x=>f x == topF f z0 l))/\Below wr.heap.size wr w'):=fun ca=>
      xT1 _ ca l _ _ _ wr (HA.out.below o) hl (dR2 (HF.out.later o) (aP0 (j:=0) B rfl) (aP0 (j:=0) q rfl))
     clear o q B;go_wp2_with fail;refine (HK.out _).mono ?_;rintro e w9 ⟨v',rfl,D,a0⟩;have HO:Hid (w9.ownsRow w.heap.size 252 3 v' (fX0 f l).length (ptV (fX0 f l))):=by rw [Z.out];exact bW0 D HB.out.size
     have a3:=hid7 (aV0 HB.out a0);clear D a0;go_wp2_with fail;go_ret;exact ⟨_,rfl,HO.out,a3.out⟩
 ·have C:((l.length:Int) == 0)=true:=beq_iff_eq.2 o7
  have HE:Hid (fX0 f l=[]):=by
   obtain rfl:l=[]:=List.length_eq_zero_iff.1 o7;rfl
  go_enter func179,ntmps179;go_wp2_with fail;go_ret;refine ⟨_,rfl,?_,c⟩;rw [HE.out];exact aU _ _ _ _
theorem wU0 (a:Option Addr) (m:Nat) (l:List Pt) (g:Nat) (lb:Array Value) (f:Pt->Int) (w:World) (h:kL0 w a l) (s:l.length<=1000) (p:NumFn g lb f l w) (n:∀x∈l,-9000000000000000000<=f x/\f x<=9000000000000000000):
  Calls prog 181 #[J a l.length m,.func (.func g) #[] lb] w fun e w'=>∃v',e=Y v'/\w'.ownsRow w.heap.size 252 3 v' (cN0 f l).length (ptV (cN0 f l))/\Below w.heap.size w w':=by
 have b:=bK0 w (R #[.func (.func g) #[] lb] 250);have o:(w.alloc (R #[.func (.func g) #[] lb] 250)).heap[w.heap.size]? = _:=heap_alloc_new w _
 have q:Hid (∀k,Calls prog 179 #[J a l.length k,.func (.func 250) #[] #[E (some ⟨w.heap.size,0,none⟩)]] (w.alloc (R #[.func (.func g) #[] lb] 250)) fun e w'=>∃v',e=Y v'/\w'.ownsRow (w.alloc (R #[.func (.func g) #[] lb] 250)).heap.size 252 3 v' (cN0 f l).length (ptV (cN0 f l))/\Below (w.alloc (R #[.func (.func g) #[] lb] 250)).heap.size (w.alloc (R #[.func (.func g) #[] lb] 250)) w'):=fun k=>
  mA1 a k l _ _ (fun x=>-f x) _ (h.below b) s (zD1 (p.later b) (aP0 (j:=0) o rfl) n)
 clear o h p;go_enter func181,ntmps181;go_wp2_with fail;refine (q.out _).mono ?_;rintro e t ⟨v',rfl,c,d⟩;have r:=hid7 (bW0 c b.size);have i:=hid7 (aV0 b d);clear c d b;go_wp2_with fail;go_ret;exact ⟨_,rfl,r.out,i.out⟩
theorem dS2 (a:Option Addr) (d:Nat) (l:List Pt) (g:Nat) (lb:Array Value) (q:Pt->Bool) (w:World) (h:kL0 w a l) (n:l.length<=1000) (i:BoolFn g lb q l w):
  Calls prog 185 #[J a l.length d,.func (.func g) #[] lb] w fun e w'=>e=Y (.bool (allP q l))/\Below w.heap.size w w':=by
 have k:Hid (∀c,Calls prog 248 #[J a l.length c,.func (.func g) #[] lb] w fun e w'=>∃v',e=Y v'/\w'.ownsRow w.heap.size 252 3 v' (l.filter q).length (ptV (l.filter q))/\Below w.heap.size w w'):=fun c=>xT1 a c l g lb q w h n i
 have m:Hid (allP q l=(((l.filter q).length:Int) == (l.length:Int))):=rfl;clear h i;go_enter func185,ntmps185;go_wp2_with fail;refine (k.out _).mono ?_;rintro e p ⟨v',rfl,b,f⟩;obtain ⟨o,j,rfl,_,_⟩:=bO0 b;clear b;go_wp2_with fail;go_ret;exact ⟨by rw [m.out];rfl,f⟩
theorem iX1 (w:World):CallsD prog 287 #[] .returning w fun e c w'=>e=Y (.tuple #[])/\c=.returning/\w'=w:=by
 refine callsD_of_wpS func287 rfl fun a cs b=>?_
 apply wpS_region;simp [wpOpsS,go_sem,recoverD,b,ntmps287,bodyPostS,results,results287];cases a
 simp_all
theorem dI1 (w:World):CallsD prog 289 #[] .returning w fun e c w'=>e=Y (.tuple #[])/\c=.returning/\w'=w:=by
 refine callsD_of_wpS func289 rfl fun a cs b=>?_
 apply wpS_region;simp [wpOpsS,go_sem,recoverD,b,ntmps289,bodyPostS,results,results289];cases a
 simp_all
theorem dT2 (g:Nat) (a la:Array Value) (p:Int) (v:Bool) (W:World) (i:∀args w,(callFunc g args).run prog w=.ok (.enter g args) w) (Q:World->Prop)
  (d:Calls prog g (a++#[U G p]++la) W fun e W'=>e=Y (.bool v)/\Q W'):
  Calls prog 269 #[.func (.func g) a la,U G p] W fun e W'=>e=Y (.bool v)/\Q W':=by
 go_enter_defers func269,ntmps269;go_wp2_with fail;refine d.mono ?_;rintro e w1 ⟨rfl,b⟩;have c:=hid7 b;clear b;go_wp2_with fail;refine leaves_cons (f:=287) (args:=#[]) s7 (by simp [go_sem]) ?_;refine (iX1 _).mono ?_;rintro e k j ⟨rfl,rfl,rfl⟩;exact ⟨_,results_tmp rfl _ _ _,rfl,c.out⟩
theorem zE1 (g:Nat) (a la:Array Value) (p:Int) (W:World) (i:∀args w,(callFunc g args).run prog w=.ok (.enter g args) w) (Q:World->Prop)
  (d:Calls prog g (a++#[U G p]++la) W fun e W'=>e=Y (.tuple #[])/\Q W'):
  Calls prog 272 #[.func (.func g) a la,U G p] W fun e W'=>e=Y (.tuple #[])/\Q W':=by
 go_enter_defers func272,ntmps272;go_wp2_with fail;refine d.mono ?_;rintro e w1 ⟨rfl,b⟩;have c:=hid7 b;clear b;go_wp2_with fail;refine leaves_cons (f:=289) (args:=#[]) s7 (by simp [go_sem]) ?_;refine (dI1 _).mono ?_;rintro e k j ⟨rfl,rfl,rfl⟩;exact ⟨_,results_none rfl _ _ _,rfl,c.out⟩
theorem wV0 (x:Pt) (w:World):
  Calls prog 180 #[.agg #[U G x.price,U G x.dem,U G x.sup]] w fun e w'=>e=Y (U G (trB x))/\Below w.heap.size w w':=by
 have a:Hid (trB x=min x.dem x.sup):=rfl;go_enter func180,ntmps180;go_wp2;go_ret;exact ⟨by rw [a.out];first | rfl | (congr 2;omega),bK0 w _⟩
theorem sC0 (x:Pt) (g:x.Small) (w:World):
  Calls prog 187 #[.agg #[U G x.price,U G x.dem,U G x.sup]] w fun e w'=>e=Y (U G (surB x))/\Below w.heap.size w w':=by
 have a:Hid (surB x=x.dem - x.sup):=rfl;obtain ⟨_,⟨b,c⟩,⟨d,f⟩⟩:=g;go_enter func187,ntmps187;go_wp2;go_ret;exact ⟨by rw [a.out];rfl,bK0 w _⟩
theorem mB1 (a b:Int) (d:-1099511627776<=a/\a<=1099511627776) (i:-1099511627776<=b/\b<=1099511627776) (w:World):
  Calls prog 183 #[U G a,U G b] w fun e w'=>e=Y (U G (apB a b))/\w'=w:=by
 have c:Hid (apB a b=max a b - min a b):=rfl;obtain ⟨f,g⟩:=d;obtain ⟨j,k⟩:=i;go_enter func183,ntmps183;go_wp2;go_ret;exact ⟨by rw [c.out];rfl,rfl⟩
theorem sV1 (l:List Pt) (w:World):NumFn 180 #[] trB l w:=
 ⟨enters_of func180 k7 rfl,fun W _ x _=>wV0 x W⟩
theorem dU2 {l:List Pt} (b:∀x∈l,x.Small) (w:World):NumFn 182 #[] lfP l w:=by
 refine ⟨enters_of func182 k7 rfl,fun W _ x c=>?_⟩;show Calls prog 182 #[.agg #[U G x.price,U G x.dem,U G x.sup]] W _;have f:Hid (lfP x=apB x.dem x.sup):=rfl;have a:Hid x.Small:=b x c;clear b c;go_enter func182,ntmps182;go_wp2_with fail;refine (mB1 _ _ a.out.d a.out.s _).mono ?_;rintro e i ⟨rfl,g⟩;subst g;go_wp2_with fail;go_ret;exact ⟨by rw [f.out];rfl,bK0 W _⟩
theorem dJ1 (l:List Pt) (w:World):NumFn 184 #[] Pt.price l w:=by
 refine ⟨enters_of func184 k7 rfl,fun W _ x a=>?_⟩;show Calls prog 184 #[.agg #[U G x.price,U G x.dem,U G x.sup]] W _;go_enter func184,ntmps184;go_wp2_with fail;go_ret;exact ⟨rfl,bK0 W _⟩
theorem fnUp {l:List Pt} (b:∀x∈l,x.Small) (w:World):BoolFn 186 #[] upB l w:=by
 refine ⟨enters_of func186 k7 rfl,fun W _ x c=>?_⟩;show Calls prog 186 #[.agg #[U G x.price,U G x.dem,U G x.sup]] W _;have f:Hid (upB x=decide (surB x>0)):=rfl;have g:Hid x.Small:=b x c;clear b c;go_enter func186,ntmps186;go_wp2_with fail;refine (sC0 x g.out _).mono ?_;rintro e i ⟨rfl,a⟩;have d:Hid (Below W.heap.size W i):=aV0 (bK0 W _) a;clear a;go_wp2_with fail;go_ret;exact ⟨by rw [f.out];rfl,d.out⟩
theorem dV2 {l:List Pt} (b:∀x∈l,x.Small) (w:World):BoolFn 188 #[] kY0 l w:=by
 refine ⟨enters_of func188 k7 rfl,fun W _ x c=>?_⟩;show Calls prog 188 #[.agg #[U G x.price,U G x.dem,U G x.sup]] W _;have f:Hid (kY0 x=decide (surB x<0)):=rfl;have g:Hid x.Small:=b x c;clear b c;go_enter func188,ntmps188;go_wp2_with fail;refine (sC0 x g.out _).mono ?_;rintro e i ⟨rfl,a⟩;have d:Hid (Below W.heap.size W i):=aV0 (bK0 W _) a;clear a;go_wp2_with fail;go_ret;exact ⟨by rw [f.out];rfl,d.out⟩
theorem dW2 {l:List Pt} (d:∀x∈l,x.Small) {a:Nat} (j:-1099511627776<=around/\around<=1099511627776) (c:w.cell? ⟨a,0,none⟩=some (U G around)):NumFn 189 #[E (some ⟨a,0,none⟩)] (iX0 around) l w:=by
 refine ⟨enters_of func189 k7 rfl,fun W b x f=>?_⟩;show Calls prog 189 #[.agg #[U G x.price,U G x.dem,U G x.sup],E (some ⟨a,0,none⟩)] W _;have g:Hid (iX0 around x=apB x.price around):=rfl;have i:Hid x.Small:=d x f;have m:=cM0 (bK0 W (R #[U G x.price,U G x.dem,U G x.sup] 252)) (cM0 b c);clear d f b c;go_enter func189,ntmps189;go_wp2_with fail;refine (mB1 _ _ i.out.p j _).mono ?_;rintro e n ⟨rfl,k⟩;subst k;go_wp2_with fail;go_ret;exact ⟨by rw [g.out];rfl,bK0 W _⟩
theorem xU1 {l:List Ord} {f g:Ord->Bool} (h:∀o∈l,f o=true->g o=true) (d:∀o∈l,g o=true->0<=o.qty):(l.map fun o=>if f o=true then o.qty else 0).sum<=(l.map fun o=>if g o=true then o.qty else 0).sum:=by
 induction l with
 | nil=>simp
 | cons o l ih=>
  have j:=ih (fun o c=>h o (aQ _ c)) (fun o c=>d o (aQ _ c));have e:=h o (aK ..);have i:=d o (aK ..);rw [bW,bW,fM,fM]
  by_cases a:f o=true
  ·rw [aB a,aB (e a)];omega
  ·rw [aA a]
   by_cases b:g o=true
   ·rw [aB b];have:=i b;omega
   ·rw [aA b];omega
theorem xV1 {l:List Ord} (h:∀o∈l,fB0 p o=true->fB0 q o=true):demO p l<=demO q l:=
 xU1 h (fun o _ a=>by have:=(kW0 (fI1 a)).2;omega)
theorem xW1 {l:List Ord} (h:∀o∈l,cY0 p o=true->cY0 q o=true):supO p l<=supO q l:=
 xU1 h (fun o _ a=>by have:=(kW0 (yY0 a)).2;omega)
theorem zH0 (p:Int):∀l:List Int,(∀x∈l,p<x)\/∃q∈l,q<=p/\∀x∈l,x<=p->x<=q
 | []=>aH (fun x a=>by cases a)
 | y::l=>by
  rcases zH0 p l with h | ⟨q,f,e,d⟩
  ·by_cases c:y<=p
   ·refine aG ⟨y,aK ..,c,fun x a b=>?_⟩;rw [aR] at a;rcases a with rfl | a
    ·exact bP _
    ·have:=h x a;omega
   ·refine aH (fun x a=>?_);rw [aR] at a;rcases a with rfl | a
    ·omega
    ·exact h x a
  ·by_cases c:y<=p/\q<=y
   ·refine aG ⟨y,aK ..,c.1,fun x a b=>?_⟩;rw [aR] at a;rcases a with rfl | a
    ·exact bP _
    ·have:=d x a b;omega
   ·refine aG ⟨q,aQ _ f,e,fun x a b=>?_⟩;rw [aR] at a;rcases a with rfl | a
    ·omega
    ·exact d x a b
theorem fP1:∀l:List Int,l≠[]->∃q∈l,∀x∈l,q<=x
 | [],h=>absurd rfl h
 | [y],_=>⟨y,aK ..,fun x a=>by rw [bC] at a;omega⟩
 | y::z::l,_=>by
  obtain ⟨q,c,b⟩:=fP1 (z::l) s7
  by_cases d:y<=q
  ·refine ⟨y,aK ..,fun x a=>?_⟩;rw [aR] at a;rcases a with rfl | a
   ·exact bP _
   ·have:=b x a;omega
  ·refine ⟨q,aQ _ c,fun x a=>?_⟩;rw [aR] at a;rcases a with rfl | a
   ·omega
   ·exact b x a
theorem nL0 {o:Ord}:fB0 p o=true↔(okO o=true/\o.side=1/\(o.kind=2\/p<=o.price)):=by unfold fB0;simp
theorem lU0 {o:Ord}:cY0 p o=true↔(okO o=true/\o.side=2/\(o.kind=2\/o.price<=p)):=by unfold cY0;simp
theorem sD0 {l:List Ord} {more:Int} {o:Ord} (a:o∈l) (h:okO o=true) (hk:¬o.kind=2):o.price∈bL0 l more:=
 dL0.2 (aG ⟨o,a,by unfold eE0;simp [h,hk],rfl⟩)
theorem iY1 {l:List Ord} {more:Int} (p:Int) (f:bL0 l more≠[]):∃q∈bL0 l more,demO p l<=demO q l/\supO p l<=supO q l:=by
 rcases zH0 p (bL0 l more) with h | ⟨q,g,i,j⟩
 ·obtain ⟨q,g,i⟩:=fP1 _ f;refine ⟨q,g,xV1 fun o e d=>?_,xW1 fun o e d=>?_⟩
  ·obtain ⟨b,c,a⟩:=nL0.1 d;refine nL0.2 ⟨b,c,?_⟩
   by_cases hk:o.kind=2
   ·exact aH hk
   ·exact aG (i _ (sD0 e b hk))
  ·obtain ⟨b,c,a⟩:=lU0.1 d;refine lU0.2 ⟨b,c,?_⟩
   by_cases hk:o.kind=2
   ·exact aH hk
   ·have:=h _ (sD0 (more:=more) e b hk);rcases a with a | a
    ·exact absurd a hk
    ·omega
 ·refine ⟨q,g,xV1 fun o e d=>?_,xW1 fun o e d=>?_⟩
  ·obtain ⟨b,c,a⟩:=nL0.1 d;exact nL0.2 ⟨b,c,a.imp id (fun h=>by omega)⟩
  ·obtain ⟨b,c,a⟩:=lU0.1 d;refine lU0.2 ⟨b,c,?_⟩
   by_cases hk:o.kind=2
   ·exact aH hk
   ·rcases a with a | a
    ·exact absurd a hk
    ·exact aG (j _ (sD0 e b hk) a)
theorem mC1 {l:List Ord} {more:Int} (h:q∈bL0 l more):(⟨q,demO q l,supO q l⟩:Pt)∈aS0 l more:=
 bH.2 ⟨q,by rw [kX0 (dU0 _),iV0];exact h,rfl⟩
theorem fQ1 {l:List Ord} {more:Int} {x:Pt} (h:x∈aS0 l more):x.dem=demO x.price l/\x.sup=supO x.price l/\x.price∈bL0 l more:=by
 obtain ⟨q,a,rfl⟩:=bH.1 h;rw [kX0 (dU0 _),iV0] at a;exact ⟨rfl,rfl,a⟩
theorem oY0 (l:List Pt) (around:Int):(aO0 l around).qty=(if cP0 l<1 then 0 else cP0 l):=by
 unfold aO0
 by_cases h:cP0 l<1
 ·rw [aB h,aB h]
 ·rw [aA h,aA h];exact (oX0 around o7).2
theorem uZ0 {l:List Ord} {more:Int} (around p:Int) (a:bL0 l more≠[]):min (demO p l) (supO p l)<=(aO0 (aS0 l more) around).qty:=by
 obtain ⟨q,b,c,d⟩:=iY1 (l:=l) (more:=more) p a;have e:=rS0 (mC1 b);have f:trB ⟨q,demO q l,supO q l⟩=min (demO q l) (supO q l):=rfl;rw [oY0];split <;> omega
theorem vA0 {l:List Ord} {more:Int} (around:Int) (h:0<(aO0 (aS0 l more) around).qty):
  (aO0 (aS0 l more) around).qty=min (demO (aO0 (aS0 l more) around).price l) (supO (aO0 (aS0 l more) around).price l)/\(aO0 (aS0 l more) around).sur=demO (aO0 (aS0 l more) around).price l - supO (aO0 (aS0 l more) around).price l:=by
 have f:¬cP0 (aS0 l more)<1:=fun e=>by
  rw [oY0,aB e] at h;omega
 have d:aO0 (aS0 l more) around=quoP (jP0 (aS0 l more) around):=aA f;obtain ⟨c,_⟩:=oX0 (l:=aS0 l more) around o7;obtain ⟨a,b,_⟩:=fQ1 c;rw [d];unfold quoP trB;dsimp only;rw [a,b];exact ⟨rfl,rfl⟩
theorem sE0 {l:List Ord} {more:Int} (m:l.length<=1000) (f:∀o∈l,-1099511627776<=o.price/\o.price<=1099511627776) (n:more<=1099511627776):∀x∈aS0 l more,x.Small:=fun x g=>by
 obtain ⟨b,c,d⟩:=fQ1 g;have i:=wM0 x.price l;have j:=wN0 x.price l;refine ⟨?_,by rw [b];omega,by rw [c];omega⟩;rcases dL0.1 d with ⟨k,a⟩ | ⟨o,e,_,a⟩
 ·omega
 ·rw [<-a];exact f o e
theorem zI0 (l:List Ord) (more:Int):(aS0 l more).length<=l.length+1:=by
 unfold aS0 wO0;rw [bU];have a:=rO0 (gM0 (bL0 l more)) (gM0 (bL0 l more)).length;have b:=hJ0 (bL0 l more);have c:=rQ0 l more;omega
end
section
open Go.ChangeShapes Go.WideShapes Go.ChangeAt Go.RowKit Go.Deep
end
section
open Go.ChangeShapes Go.WideShapes Go.ChangeAt Go.RowKit
def wf64 (z:Int):Prop:=(Lit.int .i64 z).wf=true
end
end Go.Proofs.YtaelphbianmckaaGreatDoor
