/- DeskAnswers -/
import Derived.Test.YtaelphbianmckaaGreatDoorSM
import Derived.Laws.EntriesVeiled
open Go.Value renaming int->U, pointer->E, slice->J
open Go.IntKind renaming i64->G
open Go.Obj renaming cells->R
open Go.Ending renaming returned->Y
open Go.Proofs.Tryz
open Go.RowKit.Below renaming refl->aF
open List renaming take_succ_eq_append_getElem->aM, map_append->bK, take_length->bI, length_map->bU, mem_map->bH, intercalate->fE, mem_cons->aR, not_mem_nil->cL, length_append->aN, mem_singleton->bC, length_cons->aZ, length_nil->cU
open Nat renaming zero_add->bT, zero_le->aO, le_trans->aI, le_of_not_lt->gS
open Or renaming inl->aH, inr->aG
open Go.Proofs.YtaelphbianmckaaGreatDoor.Out renaming of_below->aL
open Go.Value.slice renaming injEq->aY
open Go.World renaming ownsRow_nil->aU, news_of_block->bJ, putObj_heap_other->eH
set_option maxHeartbeats 4000000
set_option maxRecDepth 100000
namespace Go.Proofs.YtaelphbianmckaaGreatDoor
variable {H:DsS} {t:List UInt8} {O base n:Nat} {v:Value} {w w1:World}
section
open Go.RowKit Go.Shelf
def MaxL (w:World):Prop:=∃m,w.cell? ⟨2,0,none⟩=some (U G m)
def qW1 (w:World):Prop:=∃t f,w.heap[0]? = some (R (Lib.asciiSpaceTab.map fun z=>Value.int .u8 z).toArray t f)
structure HsVars (w:World):Prop where
 ds:DsVars w
 ml:MaxL w
 sp:qW1 w
section
variable {w w':World} {B:Nat}
theorem HsVars.below (h:HsVars w) (a:Below B w w') (d:12<=B):HsVars w':=by
 obtain ⟨h1,⟨m,b⟩,⟨t,f,c⟩⟩:=h;exact ⟨h1.below a d,⟨m,(a.cell (p:=⟨2,0,none⟩) (show 2<B by omega)).trans b⟩,⟨t,f,(a.block _ o7).trans c⟩⟩
theorem qW1.is (h:qW1 w):Lib.TabIs prog w "strings.asciiSpace" .u8 Lib.asciiSpaceTab:=by
 obtain ⟨t,f,h⟩:=h;have a:prog.globalNamed "strings.asciiSpace" = some 0:=k7;unfold Lib.TabIs World.var?;rw [a];simp [h]
end
theorem hU1 (w:World) (xs:List (List UInt8)) (t:TypeId):qI0 (w.alloc (R ((xs.map baOf).map Value.string).toArray t)) w.heap.size 0 xs:=fun j x a=>by
 have h:=heap_alloc_new w (R ((xs.map baOf).map Value.string).toArray t);rw [bT];exact aA0 h (by simp [a])
theorem qX1 (c:UInt8) (s:ByteArray) (w:World) (b:s.size<=1000000) (a:MaxL w):
  Calls prog 14 #[.string s,.string ⟨#[c]⟩] w fun e w'=>e=Y (J (some ⟨w.heap.size,0,none⟩) (dF0 c s.data.toList).length (dF0 c s.data.toList).length)/\qI0 w' w.heap.size 0 (dF0 c s.data.toList)/\Below w.heap.size w w':=by
 obtain ⟨m,a⟩:=a;refine (Any.strings_Split { mV0 with } mV0.i9 s ⟨#[c]⟩ m w o7 a (Nat.le_refl 1)).mono ?_;rintro e w' ⟨rfl,rfl⟩;rw [bS1];refine ⟨?_,hU1 w _ _,bel1 w _⟩;rw [pT0]
def phaseL:List (List UInt8):=[[110,111,110,101],[112,114,101,111,112,101,110],[111,112,101,110,105,110,103],[116,114,97,100,105,110,103],[118,111,108,97,116,105,108,105,116,121],[99,108,111,115,105,110,103],[104,97,108,116],[101,110,100,101,100]]
def cJ1:ByteArray:=⟨#[110,111,110,101,32,112,114,101,111,112,101,110,32,111,112,101,110,105,110,103,32,116,114,97,100,105,110,103,32,118,111,108,97,116,105,108,105,116,121,32,99,108,111,115,105,110,103,32,104,97,108,116,32,101,110,100,101,100]⟩
theorem qY1:Lib.fields cJ1.data.toList=phaseL:=by decide +kernel
theorem kR1:∀(j:Nat) b,cJ1.data.toList[j]? = some b->b.toNat<128:=by
 have h:∀b∈cJ1.data.toList,b.toNat<128:=by decide +kernel
 exact fun j b a=>h b (List.mem_of_getElem? a)
theorem wQ1 (w:World) (a:qW1 w):
  Calls prog 58 #[.string cJ1] w fun e w'=>e=Y (J (some ⟨w.heap.size,0,none⟩) 8 8)/\qI0 w' w.heap.size 0 phaseL/\Below w.heap.size w w':=by
 refine (Any.strings_Fields_laid cU1 cJ1 w (by decide +kernel) kR1 a.is).mono ?_;rintro e w' ⟨rfl,rfl⟩;rw [qY1];have h:=hU1 w phaseL (ds_laysM157_ren.t 9);rw [List.map_map] at h;exact ⟨rfl,h,bel1 w _⟩
theorem qZ1 {p:Int} (h:1<=p/\p<=7):phaseL[p.toNat]? = some (phT p):=by
 have:∀n:Nat,n<8->1<=n->phaseL[n]? = some (phT n):=d7;have a:=this p.toNat o7 o7
 rwa [show ((p.toNat:Nat):Int)=p by omega] at a
theorem gB2 (b o L:Nat) (l:List Int) (w:World) (W:∀j z,l[j]? = some z->w.cell? ⟨b,o+j,none⟩=some (U G z)) (Z:∀z∈l,in64 z) (h0:0<l.length) (h9:l.length<=10) (X:gV0 w):
  Calls prog 17 #[J (some ⟨b,o,none⟩) l.length L] w fun e w'=>e=Y (.string (baOf (rowT l)))/\Below w.heap.size w w':=by
 obtain ⟨i0,M,Q,R,S⟩:=info_parts infoStr;have T:=hid7 W;have K:=hid7 Z;have HT:=hid7 X;clear W Z X;go_enter func17,ntmps17;go_wp2_with fail
 go_loopw [3,5,8] (fun u3 _ u wr=>∃k:Nat,k<=l.length/\u=U G k/\wr.ownsRow w.heap.size 9 1 u3 k (strV ((l.take k).map Lib.itoa))/\Below w.heap.size w wr)
  (fun _ _ u _=>l.length - (intOf u).toNat)
 case atStart=>exact ⟨0,aO _,rfl,aU _ _ _ _,aF _ _⟩
 case round=>
  obtain ⟨k,hk,rfl,i,V⟩:=hrel;obtain ⟨a,vc,rfl,_,_⟩:=bC0 i;have r:=hid7 V;have A:Hid _:=i;clear i V
  by_cases f:k<l.length
  ·obtain ⟨z,n⟩:∃z,l[k]? = some z:=⟨l[k],List.getElem?_eq_getElem f⟩
   have I:Hid ((l.take (k+1)).map Lib.itoa=(l.take k).map Lib.itoa++[Lib.itoa z]):=by
    show _=_;have e:z=l[k]:=by rw [List.getElem?_eq_getElem f] at n;injection n with n;exact n.symm
    rw [aM f,bK,e];rfl
   have c1:wr.cell? ⟨b,o+k,none⟩=some (U G z):=(r.out.cell (p:=⟨b,o+k,none⟩) (World.block_lt_of_cell? w _ (T.out k z n))).trans (T.out k z n);have E:=K.out z (List.mem_of_getElem? n);clear n;go_wp2_with fail;refine (pB1 z wr E.1 E.2 (HT.out.below r.out)).mono ?_;rintro e H ⟨rfl,d⟩;have B:Hid (H.ownsRow w.heap.size 9 1 (J a k vc) k (strV ((l.take k).map Lib.itoa))):=aU0 A.out d lR7;have c:=hid7 (aD0 r.out d);clear d c1;go_wp2_with (at_builtin;refine wpList_append_own_at _ rfl _ _ 49 rfl w.heap.size 9 i0 (.string ⟨#[]⟩) 1 16 underlying49 M Q R S rfl d7 _ k (strV ((l.take k).map Lib.itoa)) rfl (B.out.alloc _) ⟨H.heap.size,0,none⟩ 1 1 [.string (baOf (Lib.itoa z))] rfl rfl (bJ (cs:=#[.string (baOf (Lib.itoa z))]) (t:=9) (fr:=(0,0)) (heap_alloc_new H _)) (by simp [Value.oneCell']) (by unfold maxLen;omega) o7 (by have:=c.out.size;simp;omega) ?_;intro v' w6 y s _ _);go_roundw
   case rel=>
    refine ⟨k+1,f,by go_num,?_,(c.out.alloc c.out.size _).grown s (by have:=c.out.size;simp;omega) (fun q hq=>(B.out.lt q hq).1)⟩;rw [I.out];have:strV ((l.take k).map Lib.itoa++[Lib.itoa z])=strV ((l.take k).map Lib.itoa)++[.string (baOf (Lib.itoa z))]:=by simp [strV]
    rw [this];exact y
   case measure=>first | (simp [intOf];omega) | (show l.length - (k+1)<l.length - k;omega) | omega
  ·obtain rfl:k=l.length:=o7
   have v:Hid (wr.ownsRow w.heap.size 9 1 (J a (l.map Lib.itoa).length vc) (l.map Lib.itoa).length (strV (l.map Lib.itoa))):=by
    have:=A.out;rw [bI] at this;rw [bU];exact this
   obtain ⟨g,D,e,_,_⟩:=v.out.form (by simp;omega);simp only [aY] at e;obtain ⟨rfl,_,rfl⟩:=e;have C:=rI0 v.out
   have F:(l.map Lib.itoa).length<=vc:=by
    rcases v.out.2 with ⟨e,_⟩ | ⟨g',D,a0,e,_,_,P,_⟩
    ·cases e
    ·simp only [aY] at e;rw [e.2.2];exact P
   have O:(Lib.join (l.map Lib.itoa) [32]).length<=100000000:=by
    have:=dK0 (m:=21) (l.map Lib.itoa) [32] (fun x hx=>by
     obtain ⟨z,n,rfl⟩:=bH.1 hx;exact Lib.itoa_length_le z (K.out z n).1 (K.out z n).2)
    simp at this;omega
   have N:=bC1 g 0 vc (l.map Lib.itoa) [32] wr C (by simpa using h0) (by simp;omega) F O;rw [bU] at N;clear f C;go_wp2_with fail;refine N.mono ?_;rintro e H ⟨rfl,d⟩;have c:=hid7 (aD0 r.out d);clear d N;go_wp2_with fail;go_ret;exact ⟨rfl,c.out⟩
theorem nG0 (W:World) (l:List Int) (f:∀z∈l,in64 z) (h0:0<l.length) (b:l.length<=10) (d:gV0 W):
  Calls prog 17 #[J (some ⟨W.heap.size,0,none⟩) l.length l.length] (W.alloc (R (l.map (fun z=>Value.int .i64 z)).toArray 3)) fun e w'=>e=Y (.string (baOf (rowT l)))/\Below W.heap.size W w':=by
 have a:=bel1 W (R (l.map (fun z=>Value.int .i64 z)).toArray 3);refine (gB2 W.heap.size 0 l.length l _ (jE0 W l 3) f h0 b (d.below a)).mono ?_;rintro e w' ⟨rfl,c⟩;exact ⟨rfl,aD0 a c⟩
theorem cK1 (y sep:List UInt8):∀(x:List UInt8) (xs:List (List UInt8)),Lib.join (x::xs++[y]) sep=Lib.join (x::xs) sep++(sep++y)
 | x,[]=>by simp [Lib.join,fE]
 | x,z::xs=>by
  have e:∀r:List (List UInt8),r≠[]->Lib.join (x::r) sep=x++sep++Lib.join r sep:=fun r b=>by
   cases r with
   | nil=>exact absurd rfl b
   | cons a r=>simp [Lib.join,fE]
  show Lib.join (x::(z::xs++[y])) sep=_;rw [e _ s7,e _ s7,cK1 y sep z xs];simp
theorem rA1 (t:List UInt8) (fs:List Fil) (f:Fil):iP0 t (fs++[f])=iP0 t fs++([44,32]++filT f):=by
 unfold iP0;rw [bK];exact cK1 (filT f) [44,32] t (fs.map filT)
theorem wR1 {fs:List Fil} (c:t.length<=1000) (d:fs.length<=1000) (hi:∀f∈fs,filI f):(iP0 t fs).length<=2000000:=by
 have:=dK0 (m:=1000) (t::fs.map filT) [44,32] (fun x a=>by
  rcases aR.1 a with rfl | a
  ·exact c
  ·obtain ⟨f,b,rfl⟩:=bH.1 a;have:=rJ0 (hi f b);omega)
 unfold iP0;simp at this;omega
theorem rB1 (t:List UInt8) (a:Option Addr) (v:Nat) (fs:List Fil) (w:World) (r:pY0 w a fs) (hi:∀f∈fs,filI f) (hn:fs.length<=1000) (y:t.length<=1000) (M:gV0 w):
  Calls prog 53 #[.string (baOf t),J a fs.length v] w fun e w'=>e=Y (.string (baOf (iP0 t fs)))/\Below w.heap.size w w':=by
 have O:Hid (pY0 w a fs):=r;have A:Hid (∀f∈fs,filI f):=hi;have P:Hid (gV0 w):=M;clear r hi M;go_enter func53,ntmps53;go_wp2_with fail
 go_loopw [0,6,9] (fun u0 _ u wr=>∃k:Nat,k<=fs.length/\u=U G k/\u0=.string (baOf (iP0 t (fs.take k)))/\Below w.heap.size w wr)
  (fun _ _ u _=>fs.length - (intOf u).toNat)
 case atStart=>exact ⟨0,aO _,rfl,by simp [iP0,Lib.join,fE],aF _ _⟩
 case round=>
  obtain ⟨k,hk,rfl,rfl,L⟩:=hrel;have c:Hid (Below w.heap.size w wr):=L;clear L
  by_cases g:k<fs.length
  ·obtain ⟨b,Q,rfl,B,C,D,E⟩:=O.out k g;have F:=aQ0 c.out B;have H:=aQ0 c.out C;have I:=aQ0 c.out D;have K:=aQ0 c.out E;have d:Hid (filI (fAt fs k)):=A.out _ (qS1 g)
   have l:Hid (iP0 t (fs.take (k+1))=iP0 t (fs.take k)++([44,32]++filT (fAt fs k))):=by
    show _=_;have e:fAt fs k=fs[k]:=by simp [fAt,g]
    rw [aM g,e];exact rA1 t _ _
   have x:(iP0 t (fs.take k)).length<=2000000:=wR1 y (by rw [List.length_take];omega) (fun f r=>A.out f (List.mem_of_mem_take r));have o:=rJ0 d.out;clear B C D E;generalize fAt fs k=f at F H I K d l o;generalize iP0 t (fs.take k)=T at x l ⊢;go_upto_region 4 with fail;have m:=heap_alloc_new wr (R #[U G f.buyer,U G f.seller,U G f.price,U G f.qty] 146);have n:=bel1 wr (R #[U G f.buyer,U G f.seller,U G f.price,U G f.qty] 146);have i:Hid (Below w.heap.size w (wr.alloc (R #[U G f.buyer,U G f.seller,U G f.price,U G f.qty] 146))):=aD0 c.out n;generalize wr.alloc (R #[U G f.buyer,U G f.seller,U G f.price,U G f.qty] 146)=W at m n i ⊢;generalize wr.heap.size=xb at m ⊢;have V:=aA0 (j:=0) m rfl;have X:=aA0 (j:=1) m rfl;have Z:=aA0 (j:=2) m rfl;have y3:=aA0 (j:=3) m rfl;clear m n F H I K;go_wp2_with fail
   refine (nG0 W [f.buyer,f.seller,f.price,f.qty] (fun z N=>by
    simp only [aR,cL,or_false] at N;rcases N with rfl | rfl | rfl | rfl
    ·exact d.out.1
    ·exact d.out.2.1
    ·exact d.out.2.2.1
    ·exact d.out.2.2.2) s7 s7 (P.out.below i.out)).mono ?_
   rintro e S ⟨rfl,q⟩;have s:Hid (Below w.heap.size w S):=aD0 i.out q;have p:Hid ((⟨#[44,32]⟩:ByteArray)++baOf (rowT [f.buyer,f.seller,f.price,f.qty])=baOf ([44,32]++filT f)):=qP1 [44,32] _;have s1:=gE0 (rowT [f.buyer,f.seller,f.price,f.qty]);have s2:=gE0 T;have s3:(rowT [f.buyer,f.seller,f.price,f.qty]).length<=88:=o
   have s4:((⟨#[44,32]⟩:ByteArray)++baOf (rowT [f.buyer,f.seller,f.price,f.qty])).size<=90:=by
    rw [p.out,gE0,aN];show 2+_<=90;omega
   clear q V X Z y3 o;go_wp2_with fail;go_roundw
   case rel=>
    refine ⟨k+1,g,by go_num,?_,s.out⟩;rw [l.out,p.out,pX0]
   case measure=>first | (simp [intOf];omega) | (show fs.length - (k+1)<fs.length - k;omega) | omega
  ·obtain rfl:k=fs.length:=o7;clear g;go_wp2_with fail;go_ret;exact ⟨by first | (rw [bI];done) | (rw [bI];rfl) | simp,c.out⟩
theorem hV1 (a:Option Addr) (O:Nat) (l:List Ord) (w:World) (hl:dS0 w a l) (hi:∀o∈l,kU0 o) (hn:l.length<=1000) (ht:gV0 w):
  Calls prog 61 #[J a l.length O] w fun e w'=>e=Y (.string (baOf (pN0 l)))/\Below w.heap.size w w':=by
 obtain ⟨i0,P,T,V,X⟩:=info_parts infoStr;have HL:=hid7 hl;have Z:=hid7 hi;have HT:=hid7 ht;clear hl hi ht;go_enter func61,ntmps61;go_wp2_with fail
 go_loopw [3,5,8] (fun u3 _ u wr=>∃k:Nat,k<=l.length/\u=U G k/\wr.ownsRow w.heap.size 9 1 u3 k (strV ((l.take k).map ordT))/\Below w.heap.size w wr)
  (fun _ _ u _=>l.length - (intOf u).toNat)
 case atStart=>exact ⟨0,aO _,rfl,aU _ _ _ _,aF _ _⟩
 case round=>
  obtain ⟨k,hk,rfl,r,hb⟩:=hrel;obtain ⟨N,vc,rfl,_,_⟩:=bC0 r;have d:=hid7 hb;have D:Hid _:=r;clear r hb
  by_cases i:k<l.length
  ·obtain ⟨b,a1,rfl,c0,c1,c2,c3,c4⟩:=HL.out k i;have d0:=aQ0 d.out c0;have d1:=aQ0 d.out c1;have d2:=aQ0 d.out c2;have d3:=aQ0 d.out c3;have d4:=aQ0 d.out c4
   have HZ:Hid (l[k]? = some (oAt l k)):=by
    show _=_;simp [oAt,i]
   have p:Hid (kU0 (oAt l k)):=Z.out _ (List.mem_of_getElem? HZ.out)
   have H:Hid ((l.take (k+1)).map ordT=(l.take k).map ordT++[ordT (oAt l k)]):=by
    show _=_;have e:oAt l k=l[k]:=by simp [oAt,i]
    rw [aM i,bK,e];rfl
   clear c0 c1 c2 c3 c4;generalize oAt l k=o at d0 d1 d2 d3 d4 p HZ H;go_upto_region 5 with fail;have A:=heap_alloc_new wr (R #[U G o.id,U G o.side,U G o.kind,U G o.price,U G o.qty] 92);have s:=bel1 wr (R #[U G o.id,U G o.side,U G o.kind,U G o.price,U G o.qty] 92);have n:Hid ((wr.alloc (R #[U G o.id,U G o.side,U G o.kind,U G o.price,U G o.qty] 92)).ownsRow w.heap.size 9 1 (J N k vc) k (strV ((l.take k).map ordT))):=aU0 D.out s lR7;have y:=hid7 (aD0 d.out s);generalize wr.alloc (R #[U G o.id,U G o.side,U G o.kind,U G o.price,U G o.qty] 92)=W at A s n y ⊢;generalize wr.heap.size=xb at A ⊢;have y0:=aA0 (j:=0) A rfl;have y2:=aA0 (j:=2) A rfl;have y3:=aA0 (j:=3) A rfl;have y4:=aA0 (j:=4) A rfl;clear A s d0 d1 d2 d3 d4;go_wp2_with fail
   refine (nG0 W [o.id,o.kind,o.price,o.qty] (fun z hz=>by
    simp only [aR,cL,or_false] at hz;rcases hz with rfl | rfl | rfl | rfl
    ·exact p.out.1
    ·exact p.out.2.1
    ·exact p.out.2.2.1
    ·exact p.out.2.2.2) s7 s7 (HT.out.below y.out)).mono ?_
   rintro e M ⟨rfl,c⟩;have f:=hid7 (aD0 y.out c);have E:Hid (M.ownsRow w.heap.size 9 1 (J N k vc) k (strV ((l.take k).map ordT))):=aU0 n.out c lR7;clear c y0 y2 y3 y4;go_wp2_with (at_builtin;refine wpList_append_own_at _ rfl _ _ 49 rfl w.heap.size 9 i0 (.string ⟨#[]⟩) 1 16 underlying49 P T V X rfl d7 _ k (strV ((l.take k).map ordT)) rfl (E.out.alloc _) ⟨M.heap.size,0,none⟩ 1 1 [.string (baOf (rowT [o.id,o.kind,o.price,o.qty]))] rfl rfl (bJ (cs:=#[.string (baOf (rowT [o.id,o.kind,o.price,o.qty]))]) (t:=9) (fr:=(0,0)) (heap_alloc_new M _)) (by simp [Value.oneCell']) (by unfold maxLen;omega) o7 (by have:=f.out.size;simp;omega) ?_;intro v' w6 B v _ _);go_roundw
   case rel=>
    refine ⟨k+1,i,by go_num,?_,(f.out.alloc f.out.size _).grown v (by have:=f.out.size;simp;omega) (fun q hq=>(E.out.lt q hq).1)⟩;rw [H.out];have:strV ((l.take k).map ordT++[ordT o])=strV ((l.take k).map ordT)++[.string (baOf (rowT [o.id,o.kind,o.price,o.qty]))]:=by simp [strV,ordT]
    rw [this];exact B
   case measure=>first | (simp [intOf];omega) | (show l.length - (k+1)<l.length - k;omega) | omega
  ·obtain rfl:k=l.length:=o7
   by_cases h0:l.length=0
   ·have L:=List.length_eq_zero_iff.1 h0;have C:=tQ0 N vc (baOf [44,32]) wr;have HE:Hid (pN0 l=[]):=by show _=_;rw [L];rfl
    clear i L;rw [h0];have e0:(l.length:Int)=0:=o7;go_wp2_with fail;refine C.mono ?_;rintro e M ⟨rfl,c⟩;have f:=hid7 (aD0 d.out c);clear c C;go_wp2_with fail;go_ret;exact ⟨by rw [HE.out];rfl,f.out⟩
   ·have n:Hid (wr.ownsRow w.heap.size 9 1 (J N (l.map ordT).length vc) (l.map ordT).length (strV (l.map ordT))):=by
     have:=D.out;rw [bI] at this;rw [bU];exact this
    obtain ⟨g,I,e,_,_⟩:=n.out.form (by simp;omega);simp only [aY] at e;obtain ⟨rfl,_,rfl⟩:=e;have F:=rI0 n.out
    have K:(l.map ordT).length<=vc:=by
     rcases n.out.2 with ⟨e,_⟩ | ⟨g',I,a0,e,_,_,S,_⟩
     ·cases e
     ·simp only [aY] at e;rw [e.2.2];exact S
    have Q:(Lib.join (l.map ordT) [44,32]).length<=100000000:=by
     have:=dK0 (m:=88) (l.map ordT) [44,32] (fun x hx=>by
      obtain ⟨o,ho,rfl⟩:=bH.1 hx;exact yJ0 (Z.out o ho))
     simp at this;omega
    have C:=bC1 g 0 vc (l.map ordT) [44,32] wr F (by simp;omega) (by simp;omega) K Q;rw [bU] at C;clear i F;go_wp2_with fail;refine C.mono ?_;rintro e M ⟨rfl,c⟩;have f:=hid7 (aD0 d.out c);clear c C;go_wp2_with fail;go_ret;exact ⟨rfl,f.out⟩
def gC2 (s:ByteArray) (e:Ending):Prop:=∃z b,e=Y (.tuple #[U G z,.bool b])/\((b=true/\numB s=some z)\/(b=false/\numB s=none/\z=0))
theorem wS1 (s:ByteArray) (w:World) (y:s.size<=1000000) (k:DsVars w) (r:12<=w.heap.size):
  Calls prog 15 #[.string s] w fun e w'=>gC2 s e/\Below w.heap.size w w':=by
 have C:∀(w:World) (t:TypeId) (p:Value),(binOp .neq 43 (.iface t p) .nilIface).run prog w=.ok (.bool true) w:=fun _ _ _=>by rfl
 have B:∀(w:World),(binOp .neq 43 .nilIface .nilIface).run prog w=.ok (.bool false) w:=fun _=>by rfl
 have l:=hid7 k;clear k;go_enter func15,ntmps15;go_wp2_with fail;refine (pC1 s w y l.out.syn l.out.ran).mono ?_;rintro e A ⟨⟨v,n,rfl⟩ | ⟨j,z,t,p,rfl⟩,a⟩
 ·have o:=hid7 n;have c:=hid7 a;have m:=hid7 (l.out.below a r);have b:=yI0 n;clear n a;go_wp2_with fail;refine (gY1 v A b.1 b.2 m.out.tab).mono ?_;rintro e D ⟨rfl,i⟩;have f:=hid7 (aD0 c.out i);clear i
  by_cases d:Lib.itoa v=s.data.toList
  ·have q:numB s=some v:=by
    unfold numB;rw [o.out];dsimp only;rw [aB d]
   have g:Hid _:=q;have x:((baOf (Lib.itoa v)).toList == s.toList)=true:=by rw [ByteArray.toList_eq,ByteArray.toList_eq];exact beq_iff_eq.2 d
   clear d q;go_wp2_with fail;go_ret2;exact ⟨⟨v,true,rfl,aH ⟨rfl,g.out⟩⟩,f.out⟩
  ·have g:Hid (numB s=none):=by
    show _=_;unfold numB;rw [o.out];dsimp only;rw [aA d]
   have u:((baOf (Lib.itoa v)).toList == s.toList)=false:=by rw [ByteArray.toList_eq,ByteArray.toList_eq];exact aC.2 d
   clear d;go_wp2_with fail;go_ret2;exact ⟨⟨0,false,rfl,aG ⟨rfl,g.out,rfl⟩⟩,f.out⟩
 ·have g:Hid (numB s=none):=by
   show _=_;unfold numB;split
   ·rename_i v k;exact absurd k (j v)
   ·rfl
  have c:=hid7 a;clear j a;go_wp2_with fail;go_ret2;exact ⟨⟨0,false,rfl,aG ⟨rfl,g.out,rfl⟩⟩,c.out⟩
theorem kS1 (d:Nat) (w:World) (side:Int) (a:(side == 1 || side == 2)=false):
  Calls prog 133 #[E (some ⟨d,0,none⟩),U G side] w fun e W'=>e=Y (.tuple #[J none 0 0,.iface 26 (U G 1)])/\Below w.heap.size w W':=by
 have c:=hid7 a;clear a;go_enter func133,ntmps133;go_wp2_with fail;refine (lW0 side _).mono ?_;rintro e w1 ⟨rfl,b⟩;replace b:=b.symm;subst b;rw [c.out];go_wp2_with fail;go_ret2;exact ⟨rfl,aF _ _⟩
theorem rC1 (a:Nat) (k:EgK) (M:Mkt) (w:World) (h:Eg w a k M) (side:Int) (c:side≠1/\side≠2):
  Calls prog 78 #[E (some ⟨a,0,none⟩),U G side] w fun e w'=>e=Y (.tuple #[J none 0 0,.iface 26 (U G 1)])/\Below w.heap.size w w':=by
 have g:w.cell? ⟨a,2,none⟩=some (E (some ⟨k.bb,0,none⟩)):=aA0 (j:=2) h.box rfl;have f:Hid ((side == 1 || side == 2)=false):=by show _=_;simp [c]
 clear h c;go_enter func78,ntmps78;go_wp2_with fail;refine (kS1 k.bb w side f.out).mono ?_;rintro e w1 ⟨rfl,b⟩;have d:=hid7 b;clear b;go_wp2_with fail;go_ret2;exact ⟨rfl,d.out⟩
theorem wT1 (la:Option Addr) (cl:Nat) (l:List Int) (lo sb n:Nat) (x:DsK) (H:DsS) (M:Mkt) (w:World) (h:DsIs w lo sb x H n) (ha:ArgIs w sb la l) (hl:l.length=1) (u:H.mkt=some M) (hv:DsVars w) (hB:12<=lo):
  Calls prog 32 #[E (some ⟨sb,0,none⟩),J la l.length cl] w fun e w'=>eQ0 w w' lo sb n (aZ0 13 l H) e:=by
 have T:Hid (aZ0 13 l H=((cK0 13 l M).1,{ H with mkt:=some (cK0 13 l M).2 })):=bS0 d7 l u;have B:=hid7 h;have W:=hid7 u;have X:=hid7 hv;obtain ⟨g,rfl,hg,d0⟩:=ha.cells 0 o7;have Z:=h.mkt u;obtain ⟨D,⟨lots,side,hI,hN⟩,_⟩:=h.eg M u;have N:=hid7 D;have HO:=hid7 (yG0 hI D.lok hN);have hL:=D.few100;have O:Hid (∀V,Below w.heap.size w V->(fun w':World=>w'.cell? ⟨sb,6,none⟩=some (E (some ⟨x.eb,0,none⟩))/\w'.cell? ⟨g,0,none⟩=some (U G (nI l 0))) V):=fun V hV=>⟨aQ0 hV Z,aQ0 hV d0⟩
 clear h ha u hv D hI hN Z d0 hg;rw [hl];go_enter func32,ntmps32;go_upto_region 1 with fail;refine bB0 (fun _=>fun w':World=>w'.cell? ⟨sb,6,none⟩=some (E (some ⟨x.eb,0,none⟩))/\w'.cell? ⟨g,0,none⟩=some (U G (nI l 0))) (fun _ i=>i == 7) k7 (fun _=>O.out _ (aF _ _).drew) (fun hHeld=>?_);have p:Below w.heap.size w w.drew:=(aF _ _).drew;generalize w.drew=wz at p hHeld ⊢;refine tkM9 0 0 (hHeld 0) ?_;refine tkM9 0 1 (hHeld 0) ?_;refine tkM9 0 2 (hHeld 0) ?_;refine tkM9 0 3 (hHeld 0) ?_;refine tkM9 0 4 (hHeld 0) ?_;refine tkM9 0 5 (hHeld 0) ?_;refine tkM9 0 6 (hHeld 0) ?_;refine aT0 (i:=7) k7 rfl (fun K F=>?_);go_simp
 by_cases m:nI l 0=1\/nI l 0=2
 ·have f:Calls prog 78 #[E (some ⟨x.eb,0,none⟩),U G (nI l 0)] wz fun e w'=>∃v,e=Y (.tuple #[v,.nilIface])/\w'.ownsRow wz.heap.size 92 5 v (aR0 (nI l 0) M.L).length (oV (aR0 (nI l 0) M.L))/\Below wz.heap.size wz w':=by
   rcases m with m | m
   ·exact yQ1 x.eb 0 x.k M wz (N.out.below p) d7 (nI l 0) (by rw [m];rfl)
   ·exact yQ1 x.eb 1 x.k M wz (N.out.below p) d7 (nI l 0) (by rw [m];rfl)
  have C:Hid ((cK0 13 l M).1=(0,pN0 (aR0 (nI l 0) M.L))):=by show (if nI l 0=1\/nI l 0=2 then ((0:Int),pN0 (aR0 (nI l 0) M.L)) else (1,[]))=_;rw [aB m]
  refine f.mono ?_;rintro e w1 ⟨v,rfl,hr,d⟩;have c:=hid7 (aD0 p d);obtain ⟨a,Q,rfl,z⟩:=dS0.of_row hr;have r:=hid7 z;have t:Hid (∀o∈aR0 (nI l 0) M.L,kU0 o):=fun o ho=>HO.out o (bD0.1 ho).1
  have A:(aR0 (nI l 0) M.L).length<=1000:=by have:=iU0 (nI l 0) M.L;omega
  refine F.out _ _ (fun _ h=>by cases h) ?_;clear F K hHeld p d hr z f m;generalize aR0 (nI l 0) M.L=S at r t A C ⊢;refine puM9 8 ?_;refine puM9 9 ?_;refine puM9 10 ?_;refine puM9 11 ?_;refine puM9 12 ?_;refine bI0 k7 ?_ _;have j:Hid (DsVars w1):=X.out.below c.out (aI hB B.out.slt.2);go_wp2_with fail;refine (hH0 .nilIface 0 w1 j.out.et (aH ⟨rfl,rfl⟩)).mono ?_;rintro e w2 ⟨R,b⟩;have q:=hid7 (aD0 c.out b);have P:=hid7 (j.out.tab.below b);have s:=hid7 (r.out.below b);rcases R with ⟨_,rfl⟩ | ⟨h0,_⟩
  ·clear b;go_wp2_with fail;refine (hR1 a Q S w2 s.out t.out A P.out).mono ?_;rintro e w3 ⟨rfl,y⟩;have I:=hid7 (aD0 q.out y);clear y;go_wp2_with fail;go_ret;rw [T.out];refine B.out.asks W.out I.out ?_;rw [C.out];exact fI0.yes rfl
  ·exact absurd rfl h0
 ·have C:Hid ((cK0 13 l M).1=(1,[])):=by show (if nI l 0=1\/nI l 0=2 then ((0:Int),pN0 (aR0 (nI l 0) M.L)) else (1,[]))=_;rw [aA m]
  refine (rC1 x.eb x.k M wz (N.out.below p) (nI l 0) o7).mono ?_;rintro e w1 ⟨rfl,d⟩;have c:=hid7 (aD0 p d);refine F.out _ _ (fun _ h=>by cases h) ?_;clear F K hHeld p d m;refine puM9 8 ?_;refine puM9 9 ?_;refine puM9 10 ?_;refine puM9 11 ?_;refine puM9 12 ?_;refine bI0 k7 ?_ _;have j:Hid (DsVars w1):=X.out.below c.out (aI hB B.out.slt.2);go_wp2_with fail;refine (hH0 (.iface 26 (U G 1)) 1 w1 j.out.et (aG ⟨rfl,d7⟩)).mono ?_;rintro e w2 ⟨R,b⟩;have q:=hid7 (aD0 c.out b);rcases R with ⟨h0,_⟩ | ⟨_,rfl⟩
  ·exact absurd h0 d7
  ·clear b;go_wp2_with fail;refine ⟨rfl,?_⟩;rw [T.out];refine B.out.asks W.out q.out ?_;rw [C.out];exact aG ⟨d7,rfl⟩
theorem gD2 (la:Option Addr) (K:Nat) (l:List Int) (lo sb n:Nat) (x:DsK) (H:DsS) (M:Mkt) (w:World) (h:DsIs w lo sb x H n) (d:H.mkt=some M) (B:DsVars w) (L:12<=lo):
  Calls prog 27 #[E (some ⟨sb,0,none⟩),J la l.length K] w fun e w'=>eQ0 w w' lo sb n (aZ0 8 l H) e:=by
 have u:Hid (aZ0 8 l H=((cK0 8 l M).1,{ H with mkt:=some (cK0 8 l M).2 })):=bS0 d7 l d;have t:=hid7 h;have G:=hid7 d;have I:=hid7 B;have O:=h.mkt d;obtain ⟨v,⟨lots,side,y,p⟩,f,P,A⟩:=h.eg M d;have D:=hid7 v;have i:=hid7 f;have F:Hid (∃lots side,DayInv (fY0 M) lots side 0 true/\NumI (fY0 M) lots):=⟨lots,side,y.haltT,⟨p.kd.halt,p.lot⟩⟩;have j:=hid7 ((wA0 M).2);clear h d B v y p f;go_enter func27,ntmps27;go_wp2_with fail;refine (eW2 x.eb x.k M w D.out).mono ?_;rintro e w1 ⟨o,rfl,z,q⟩;have g:=hid7 z;have c:Hid _:=t.out.go G.out q F.out o7 (by rw [j.out];omega);have m:=hid7 (I.out.below (q.2.1.below i.out t.out.slt.2) L);clear z q;go_wp2_with fail;refine (hH0 o (kQ0 M) w1 m.out.et g.out).mono ?_;rintro e C ⟨N,a⟩;have b:Hid (∃x',DsIs C lo sb x' { H with mkt:=some (fY0 M) } (n+1)/\Out (DsW w lo sb) w C):=⟨_,c.out.1.below a,aX0 c.out.2 (aL a lR7)⟩;rcases N with ⟨h0,rfl⟩ | ⟨h0,rfl⟩
 ·clear a;go_wp2_with fail;go_ret;rw [u.out];obtain ⟨x',r,s⟩:=b.out;exact ⟨fI0.ok h0 rfl,s,x',r⟩
 ·clear a;go_wp2_with fail;refine ⟨rfl,?_⟩;rw [u.out];obtain ⟨x',r,s⟩:=b.out;exact ⟨fI0.no h0,s,x',r⟩
theorem gE2 (la:Option Addr) (N:Nat) (l:List Int) (lo sb n:Nat) (x:DsK) (H:DsS) (M:Mkt) (w:World) (h:DsIs w lo sb x H n) (d:H.mkt=some M) (D:DsVars w) (O:12<=lo) (S:n<=1900):
  Calls prog 28 #[E (some ⟨sb,0,none⟩),J la l.length N] w fun e w'=>eQ0 w w' lo sb n (aZ0 9 l H) e:=by
 have z:Hid (aZ0 9 l H=((cK0 9 l M).1,{ H with mkt:=some (cK0 9 l M).2 })):=bS0 d7 l d;have y:=hid7 h;have K:=hid7 d;have L:=hid7 D;have Q:=h.mkt d;obtain ⟨A,⟨lots,side,q,r⟩,f,R,C⟩:=h.eg M d;have G:=hid7 A;have i:=hid7 f;have I:Hid (∃lots side,DayInv (eA0 M) lots side 0 true/\NumI (eA0 M) lots):=⟨lots,side,q.openT,⟨r.kd.open_,r.lot⟩⟩;have m:=hid7 ((wB0 M).2);have j:Hid (MNum M):=q.num o7;clear h d D A q r f;go_enter func28,ntmps28;go_wp2_with fail;refine (fG2 x.eb x.k M w G.out j.out o7).mono ?_;rintro e w1 ⟨p,T,rfl,B,s,t⟩;have g:=hid7 B;have c:Hid _:=y.out.go K.out s I.out o7 (by rw [m.out];omega);have o:=hid7 (L.out.below (s.2.1.below i.out y.out.slt.2) O);clear B s t;go_wp2_with fail;refine (hH0 p (kD0 M) w1 o.out.et g.out).mono ?_;rintro e F ⟨P,a⟩;have b:Hid (∃x',DsIs F lo sb x' { H with mkt:=some (eA0 M) } (n+1)/\Out (DsW w lo sb) w F):=⟨_,c.out.1.below a,aX0 c.out.2 (aL a lR7)⟩;rcases P with ⟨h0,rfl⟩ | ⟨h0,rfl⟩
 ·clear a;go_wp2_with fail;go_ret;rw [z.out];obtain ⟨x',u,v⟩:=b.out;exact ⟨fI0.ok h0 rfl,v,x',u⟩
 ·clear a;go_wp2_with fail;refine ⟨rfl,?_⟩;rw [z.out];obtain ⟨x',u,v⟩:=b.out;exact ⟨fI0.no h0,v,x',u⟩
theorem wU1 (la:Option Addr) (cl:Nat) (l:List Int) (lo sb n:Nat) (x:DsK) (H:DsS) (M:Mkt) (w:World) (h:DsIs w lo sb x H n) (B:ArgIs w sb la l) (hl:l.length=1) (j:H.mkt=some M) (Y:DsVars w) (hB:12<=lo) (hn:n<=1900):
  Calls prog 25 #[E (some ⟨sb,0,none⟩),J la l.length cl] w fun e w'=>eQ0 w w' lo sb n (aZ0 6 l H) e:=by
 have N:Hid (aZ0 6 l H=((cK0 6 l M).1,{ H with mkt:=some (cK0 6 l M).2 })):=bS0 d7 l j;have L:=hid7 h;have HM:=hid7 j;have HV:=hid7 Y;obtain ⟨g,rfl,q,R⟩:=B.cells 0 o7;have m:=B.nums 0;have D:=WalkArith.wf_i64 m;have Q:=h.mkt j;obtain ⟨S,⟨lots,side,z,A⟩,o,hm,X⟩:=h.eg M j;have O:=hid7 S;have s:=hid7 o;have hP:M.P.length<=1000:=by have:=z.few;omega
 have HI:Hid (∃lots side,DayInv (canM M (nI l 0)) lots side 0 true/\NumI (canM M (nI l 0)) lots):=⟨lots,side,(z.cancel (nI l 0)).hT,⟨A.kd.can _,A.lot⟩⟩;have t:=hid7 ((cD1 M (nI l 0)).2);have u:Hid (∀V,Below w.heap.size w V->(fun w':World=>w'.cell? ⟨sb,6,none⟩=some (E (some ⟨x.eb,0,none⟩))/\w'.cell? ⟨g,0,none⟩=some (U G (nI l 0))) V):=fun V hV=>⟨aQ0 hV Q,aQ0 hV R⟩
 clear h B j Y S z A o Q R q m;rw [hl];go_enter func25,ntmps25;go_upto_region 1 with fail;refine bB0 (fun _=>fun w':World=>w'.cell? ⟨sb,6,none⟩=some (E (some ⟨x.eb,0,none⟩))/\w'.cell? ⟨g,0,none⟩=some (U G (nI l 0))) (fun _ i=>i == 7) k7 (fun _=>u.out _ (aF _ _).drew) (fun hHeld=>?_);have p:Below w.heap.size w w.drew:=(aF _ _).drew;generalize w.drew=wz at p hHeld ⊢;refine tkM9 0 0 (hHeld 0) ?_;refine tkM9 0 1 (hHeld 0) ?_;refine tkM9 0 2 (hHeld 0) ?_;refine tkM9 0 3 (hHeld 0) ?_;refine tkM9 0 4 (hHeld 0) ?_;refine tkM9 0 5 (hHeld 0) ?_;refine tkM9 0 6 (hHeld 0) ?_;refine aT0 (i:=7) k7 rfl (fun K f=>?_);go_simp;refine (wG1 x.eb x.k M (nI l 0) wz (O.out.below p) hP D o7).mono ?_;rintro e w1 ⟨y,k',rfl,W,q,C⟩;have r:=hid7 W;have c:=(EgGo.stay O.out p).trans q;have d:Hid _:=L.out.go HM.out c HI.out o7 (by rw [t.out];omega);have v:=hid7 (HV.out.below (c.2.1.below s.out L.out.slt.2) hB);refine f.out _ _ (fun _ h=>by cases h) ?_;clear f K hHeld p W q c C;refine aT0 (i:=8) k7 rfl (fun K f=>?_);go_simp;refine (hH0 y (kB0 M (nI l 0)) w1 v.out.et r.out).mono ?_;rintro e Z ⟨hc,a⟩;have b:Hid (∃x',DsIs Z lo sb x' { H with mkt:=some (canM M (nI l 0)) } (n+1)/\Out (DsW w lo sb) w Z):=⟨_,d.out.1.below a,aX0 d.out.2 (aL a lR7)⟩;rcases hc with ⟨h0,rfl⟩ | ⟨h0,rfl⟩
 ·refine f.out _ _ (fun _ _ T=>⟨aQ0 a T.1,aQ0 a T.2⟩) ?_;clear f K a;refine bI0 k7 ?_ _;go_wp2_with fail;go_ret;rw [N.out];obtain ⟨x',F,I⟩:=b.out;exact ⟨fI0.ok h0 rfl,I,x',F⟩
 ·clear a;go_wp2_with fail;refine ⟨rfl,?_⟩;rw [N.out];obtain ⟨x',F,I⟩:=b.out;exact ⟨fI0.no h0,I,x',F⟩
theorem pY0.below {w w':World} {a:Option Addr} {l:List Fil} (h:pY0 w a l) (c:Below w.heap.size w w'):pY0 w' a l:=fun k hk=>by
 obtain ⟨b,d,e,h0,h1,f,g⟩:=h k hk;exact ⟨b,d,e,aQ0 c h0,aQ0 c h1,aQ0 c f,aQ0 c g⟩
section
variable {M:Mkt} {lots side:Int->Int}
theorem yL0 (h:DayInv M lots side 0 true) (c:LOk M.L) (d:NumI M lots):(∀f∈(bT0 M).1,filI f)/\(∃lots side,DayInv (bT0 M).2 lots side 0 true/\NumI (bT0 M).2 lots):=by
 obtain ⟨h1,e⟩:=h.tick c;obtain ⟨b,g⟩:=LotI.fills d.lot (fun id=>(h.lb id).2) h1;refine ⟨fun f a=>?_,_,_,e.hT,⟨d.kd.tick,g⟩⟩;have:=kQ1 c h.la f a;exact ⟨(b f a).1,(b f a).2.1,bQ0 o7,(b f a).2.2⟩
theorem yM0 (h:DayInv M lots side 0 true) (k:LOk M.L) (b:NumI M lots) {o:Ord} (hi:in64 o.id) (hk:in64 o.kind) (i:in64 o.price):(∀f∈(ordM M o).1,filI f)/\(∃lots side,DayInv (ordM M o).2 lots side 0 true/\NumI (ordM M o).2 lots):=by
 by_cases d:ordN M o=0
 ·obtain ⟨h1,c,_,j⟩:=h.order_yes k (WalkArith.wf_i64 hi) d;have m:RefOk M (lieO o):=tY0 (by rw [<-rD0];exact d)
  have l:o.qty<=1000000:=by
   have:=m.right.2.2.2;have e:(lieO o).qty=o.qty:=by unfold lieO;split <;> rfl
   omega
  obtain ⟨g,n⟩:=LotI.fills (b.lot.up (v:=o.qty) hi) (fun id=>by
   by_cases e:id=o.id
   ·rw [e,eU0];exact l
   ·rw [dJ0 e];exact (h.lb id).2) h1
  refine ⟨fun f a=>?_,_,_,j.hT,⟨b.kd.ord hk i,n⟩⟩;have:=uG0 h.an h.sh.1 c f a;exact ⟨(g f a).1,(g f a).2.1,bQ0 o7,(g f a).2.2⟩
 ·obtain ⟨h1,c⟩:=h.order_no d;exact ⟨fun f a=>(by rw [h1] at a;cases a),lots,side,c.hT,⟨b.kd.ord hk i,b.lot⟩⟩
end
theorem gF2 (la:Option Addr) (cl:Nat) (l:List Int) (lo sb n:Nat) (x:DsK) (H:DsS) (M:Mkt) (w:World) (h:DsIs w lo sb x H n) (A:H.mkt=some M) (hv:DsVars w) (hB:12<=lo) (hn:n<=1900):
  Calls prog 26 #[E (some ⟨sb,0,none⟩),J la l.length cl] w fun e w'=>eQ0 w w' lo sb n (aZ0 7 l H) e:=by
 have HD:Hid (aZ0 7 l H=((cK0 7 l M).1,{ H with mkt:=some (cK0 7 l M).2 })):=bS0 d7 l A;have H1:=hid7 h;have HM:=hid7 A;have HV:=hid7 hv;have S:=h.mkt A;obtain ⟨v,⟨lots,side,I,hN⟩,F,hm,a0⟩:=h.eg M A;have HE:=hid7 v;have P:=hid7 F;obtain ⟨hF,j⟩:=yL0 I v.lok hN;have HF:=hid7 hF;have HI:=hid7 j;obtain ⟨a1,_,a2⟩:=uE0 v.lok v.few100;have Q:Hid (MNum M):=I.num o7;have K:Hid ((phaseV M.rs (M.now+1)).1=3->(phaseV M.rs M.now).1≠3->M.ph≠6->iA0 M.ph=true):=fun a b c=>I.auct a b c
 have p:in64 (bT0 M).2.now:=by
  obtain ⟨_,_,W,_⟩:=j;have:=W.now;exact bQ0 o7
 clear h A hv v I hN F hF j;go_enter func26,ntmps26;go_wp2_with fail;refine (fF2 x.eb x.k M w HE.out Q.out K.out o7).mono ?_;rintro e w1 ⟨vf,V,rfl,he,k',hr,X,Y⟩;have N:=hid7 he;have i:Hid _:=H1.out.go HM.out X HI.out o7 o7;have t:=hid7 (HV.out.below (X.2.1.below P.out H1.out.slt.2) hB);obtain ⟨a,T,rfl,D⟩:=pY0.of_row hr;have O:=hid7 D;clear he X Y hr D S;go_wp2_with fail;refine (hH0 V (pK0 M) w1 t.out.et N.out).mono ?_;rintro e q ⟨hc,f⟩;have u:Hid (DsVars q):=t.out.below f (aI hB (aI i.out.1.slt.2 lR7));have s:=hid7 (O.out.below f);have d:Hid (DsIs q lo sb { x with k:=k' } { H with mkt:=some (bT0 M).2 } (n+1)/\Out (DsW w lo sb) w q):=⟨i.out.1.below f,aX0 i.out.2 (aL f lR7)⟩;rcases hc with ⟨h0,rfl⟩ | ⟨h0,rfl⟩
 ·clear f;have S:q.cell? ⟨sb,6,none⟩=some (E (some ⟨x.eb,0,none⟩)):=d.out.1.mkt rfl;have L:Hid (Eg q x.eb k' (bT0 M).2):=(d.out.1.eg _ rfl).1;go_wp2_with fail;refine (hY2 x.eb k' (bT0 M).2 q L.out).mono ?_;rintro e w3 ⟨rfl,rfl⟩;go_wp2_with fail;have o:=bel1 w3 (R #[U G (bT0 M).2.now] 3);refine (kK1 w3.heap.size 0 1 [(bT0 M).2.now] _ (jE0 w3 [(bT0 M).2.now] 3) (fun z hz=>by rw [bC.1 hz];exact p) s7 s7 (u.out.tab.below o)).mono ?_;rintro e w4 ⟨rfl,B⟩;have g:=hid7 (aD0 o B)
  have Z:(rowT [(bT0 M).2.now]).length<=1000:=by
   have:=dK0 (m:=21) ([(bT0 M).2.now].map Lib.itoa) [32] (fun y hy=>by
    obtain ⟨z,hz,rfl⟩:=bH.1 hy;rw [bC.1 hz];exact Lib.itoa_length_le _ p.1 p.2)
   simp at this;unfold rowT;simp;omega
  clear o B S;go_wp2_with fail;refine (yX1 (rowT [(bT0 M).2.now]) a T (bT0 M).1 w4 (s.out.below g.out) HF.out o7 Z (u.out.tab.below g.out)).mono ?_;rintro e w5 ⟨rfl,C⟩;have r:=hid7 (aD0 g.out C);clear C;go_wp2_with fail;go_ret;rw [HD.out];exact ⟨fI0.ok h0 rfl,aX0 d.out.2 (aL r.out lR7),_,d.out.1.below r.out⟩
 ·clear f;go_wp2_with fail;refine ⟨rfl,?_⟩;rw [HD.out];exact ⟨fI0.no h0,d.out.2,_,d.out.1⟩
theorem rD1 (la:Option Addr) (cl:Nat) (l:List Int) (s:Int) (d:Nat) (lo sb n:Nat) (x:DsK) (H:DsS) (M:Mkt) (w:World) (h:DsIs w lo sb x H n) (j:ArgIs w sb la l) (hl:l.length=4) (F:H.mkt=some M) (hv:DsVars w) (hB:12<=lo) (hn:n<=1900)
  (hd:aZ0 d l H=(orE (ordN M (ordI s l)) (iP0 [116,97,107,101,110] (ordM M (ordI s l)).1),{ H with mkt:=some (ordM M (ordI s l)).2 })):
  Calls prog 67 #[.pointer (some ⟨sb,0,none⟩),.int .i64 s,.slice la l.length cl] w fun e w'=>eQ0 w w' lo sb n (aZ0 d l H) e:=by
 have C:Hid _:=hd;have Y:=hid7 h;have HM:=hid7 F;have HV:=hid7 hv;obtain ⟨g,rfl,G,d0⟩:=j.cells 0 o7;obtain ⟨g1,e1,_,d1⟩:=j.cells 1 o7;obtain ⟨g2,e2,_,d2⟩:=j.cells 2 o7;obtain ⟨g3,e3,_,d3⟩:=j.cells 3 o7;cases e1;cases e2;cases e3;have c6:=h.mkt F;obtain ⟨E,⟨lots,side,T,hN⟩,A,hm,a0⟩:=h.eg M F;have Z:=hid7 E;have J:=hid7 A;obtain ⟨hF,v⟩:=yM0 (o:=ordI s l) T E.lok hN (j.nums 0) (j.nums 1) (j.nums 2);have HF:=hid7 hF;have HI:=hid7 v;obtain ⟨U,_,W⟩:=rH0 (o:=ordI s l) E.few100;have L:Hid (MNum M):=T.num o7;have B:=WalkArith.wf_i64 (j.nums 0);have O:Hid (∀V,Below w.heap.size w V->(fun w':World=>w'.cell? ⟨sb,6,none⟩=some (.pointer (some ⟨x.eb,0,none⟩))/\w'.cell? ⟨g,0,none⟩=some (.int .i64 (nI l 0))/\w'.cell? ⟨g,1,none⟩=some (.int .i64 (nI l 1))/\w'.cell? ⟨g,2,none⟩=some (.int .i64 (nI l 2))/\w'.cell? ⟨g,3,none⟩=some (.int .i64 (nI l 3))) V):=fun V hV=>⟨aQ0 hV c6,aQ0 hV d0,aQ0 hV d1,aQ0 hV d2,aQ0 hV d3⟩
 clear h j F hv E T hN A c6 d0 d1 d2 d3 G hF v hd;rw [hl];go_enter func67,ntmps67;go_upto_region 1 with fail;refine bB0 (fun _=>fun w':World=>w'.cell? ⟨sb,6,none⟩=some (.pointer (some ⟨x.eb,0,none⟩))/\w'.cell? ⟨g,0,none⟩=some (.int .i64 (nI l 0))/\w'.cell? ⟨g,1,none⟩=some (.int .i64 (nI l 1))/\w'.cell? ⟨g,2,none⟩=some (.int .i64 (nI l 2))/\w'.cell? ⟨g,3,none⟩=some (.int .i64 (nI l 3))) (fun _ i=>i == 18) k7 (fun _=>O.out _ (aF _ _).drew) (fun hHeld=>?_);have D:Below w.heap.size w w.drew:=(aF _ _).drew;generalize w.drew=wz at D hHeld ⊢;refine tkM9 0 0 (hHeld 0) ?_;refine tkM9 0 1 (hHeld 0) ?_;refine tkM9 0 2 (hHeld 0) ?_;refine tkM9 0 3 (hHeld 0) ?_;refine tkM9 0 4 (hHeld 0) ?_;refine tkM9 0 5 (hHeld 0) ?_;refine tkM9 0 6 (hHeld 0) ?_;refine tkM9 0 7 (hHeld 0) ?_;refine tkM9 0 8 (hHeld 0) ?_;refine tkM9 0 9 (hHeld 0) ?_;refine tkM9 0 10 (hHeld 0) ?_;refine tkM9 0 11 (hHeld 0) ?_;refine tkM9 0 12 (hHeld 0) ?_;refine tkM9 0 13 (hHeld 0) ?_;refine tkM9 0 14 (hHeld 0) ?_;refine tkM9 0 15 (hHeld 0) ?_;refine tkM9 0 16 (hHeld 0) ?_;refine tkM9 0 17 (hHeld 0) ?_;refine aT0 (i:=18) k7 rfl (fun K hK=>?_);go_simp;refine (bH2 x.eb x.k M (ordI s l) wz (Z.out.below D) L.out B o7).mono ?_;rintro e w1 ⟨vf,S,rfl,he,k',hr,G,X⟩;have q:=hid7 he;have m:=(EgGo.stay Z.out D).trans G;have f:Hid _:=Y.out.go HM.out m HI.out o7 o7;have u:=hid7 (HV.out.below (m.2.1.below J.out Y.out.slt.2) hB);obtain ⟨a,Q,rfl,z⟩:=pY0.of_row hr;have r:=hid7 z;refine hK.out _ _ (fun _ h=>by cases h) ?_;clear hK K hHeld D he G m X hr z B;generalize ordM M (ordI s l)=R at C HF HI U W f r ⊢;generalize ordN M (ordI s l)=N at C q ⊢;refine puM9 19 ?_;refine puM9 20 ?_;refine puM9 21 ?_;refine puM9 22 ?_;refine puM9 23 ?_;refine bI0 k7 ?_ _;go_wp2_with fail;refine (hH0 S N w1 u.out.et q.out).mono ?_;rintro e I ⟨hc,c⟩;have P:Hid (DsVars I):=u.out.below c (aI hB f.out.1.slt.2);have t:=hid7 (r.out.below c);have b:Hid (DsIs I lo sb { x with k:=k' } { H with mkt:=some R.2 } (n+1)/\Out (DsW w lo sb) w I):=⟨f.out.1.below c,aX0 f.out.2 (aL c lR7)⟩;rcases hc with ⟨h0,rfl⟩ | ⟨h0,rfl⟩
 ·clear c;go_wp2_with fail;refine (yX1 [116,97,107,101,110] a Q R.1 I t.out HF.out o7 d7 P.out.tab).mono ?_;rintro e w5 ⟨rfl,y⟩;have p:=hid7 y;clear y;go_wp2_with fail;go_ret;rw [C.out];exact ⟨fI0.ok h0 rfl,aX0 b.out.2 (aL p.out lR7),_,b.out.1.below p.out⟩
 ·clear c;go_wp2_with fail;refine ⟨rfl,?_⟩;rw [C.out];exact ⟨fI0.no h0,b.out.2,_,b.out.1⟩
theorem wV1 {M:Mkt} (l:List Int) (a:H.mkt=some M):aZ0 4 l H=(orE (ordN M (ordI 1 l)) (iP0 [116,97,107,101,110] (ordM M (ordI 1 l)).1),{ H with mkt:=some (ordM M (ordI 1 l)).2 }):=by simp only [aZ0,a,cK0]
theorem rE1 {M:Mkt} (l:List Int) (a:H.mkt=some M):aZ0 5 l H=(orE (ordN M (ordI 2 l)) (iP0 [116,97,107,101,110] (ordM M (ordI 2 l)).1),{ H with mkt:=some (ordM M (ordI 2 l)).2 }):=by simp only [aZ0,a,cK0]
theorem iG2 (la:Option Addr) (g:Nat) (l:List Int) (lo sb n:Nat) (x:DsK) (H:DsS) (M:Mkt) (w:World) (h:DsIs w lo sb x H n) (i:ArgIs w sb la l) (j:l.length=4) (b:H.mkt=some M) (k:DsVars w) (m:12<=lo) (o:n<=1900):
  Calls prog 23 #[.pointer (some ⟨sb,0,none⟩),.slice la l.length g] w fun e w'=>eQ0 w w' lo sb n (aZ0 4 l H) e:=by
 have c:=rD1 la g l 1 4 lo sb n x H M w h i j b k m o (wV1 l b);clear h i b k j;generalize aZ0 4 l H=R at c ⊢;go_enter func23,ntmps23;go_wp2_with fail;refine c.mono ?_;clear c;rintro e w1 a;have d:=hid7 a.1;have f:=hid7 a.2;rcases a.1 with ⟨_,rfl⟩ | ⟨_,rfl⟩
 ·clear a;go_wp2_with fail;go_ret;exact ⟨d.out,f.out⟩
 ·clear a;go_wp2_with fail;exact ⟨rfl,d.out,f.out⟩
theorem gG2 (la:Option Addr) (g:Nat) (l:List Int) (lo sb n:Nat) (x:DsK) (H:DsS) (M:Mkt) (w:World) (h:DsIs w lo sb x H n) (i:ArgIs w sb la l) (j:l.length=4) (b:H.mkt=some M) (k:DsVars w) (m:12<=lo) (o:n<=1900):
  Calls prog 24 #[.pointer (some ⟨sb,0,none⟩),.slice la l.length g] w fun e w'=>eQ0 w w' lo sb n (aZ0 5 l H) e:=by
 have c:=rD1 la g l 2 5 lo sb n x H M w h i j b k m o (rE1 l b);clear h i b k j;generalize aZ0 5 l H=R at c ⊢;go_enter func24,ntmps24;go_wp2_with fail;refine c.mono ?_;clear c;rintro e w1 a;have d:=hid7 a.1;have f:=hid7 a.2;rcases a.1 with ⟨_,rfl⟩ | ⟨_,rfl⟩
 ·clear a;go_wp2_with fail;go_ret;exact ⟨d.out,f.out⟩
 ·clear a;go_wp2_with fail;exact ⟨rfl,d.out,f.out⟩
theorem jF0:∀l:List Int,(dI0 l).length=l.length / 2
 | []=>rfl
 | [_]=>by simp [dI0]
 | _::_::l=>by
  have:=jF0 l;simp only [dI0,aZ,this];omega
theorem rK0:∀(l:List Int) (k:Nat),2*k+1<l.length->bZ0 (dI0 l) k=(nI l (2*k),nI l (2*k+1))
 | [],k,h=>absurd h s7
 | [_],k,h=>absurd h s7
 | a::b::l,0,_=>rfl
 | a::b::l,k+1,h=>by
  have e:=rK0 l k (by simp only [aZ] at h;omega);have c:bZ0 (dI0 (a::b::l)) (k+1)=bZ0 (dI0 l) k:=by simp [bZ0,dI0]
  rw [c,e];rfl
theorem wW1 {l:List Int} (h:∀k,in64 (nI l k)):zQ0 (dI0 l):=fun k hk=>by
 rw [jF0] at hk;rw [rK0 l k o7];exact ⟨WalkArith.wf_i64 (h _),WalkArith.wf_i64 (h _)⟩
theorem iS0 {e:TypeId} {b:Nat} {xs:List Value} (h:w.ownsRow base e b v n xs):∃(a:Option Addr) (c:Nat),v=J a n c:=by
 obtain ⟨_,⟨rfl,rfl⟩ | ⟨g,c,d,rfl,_⟩⟩:=h
 ·exact ⟨_,_,rfl⟩
 ·exact ⟨_,_,rfl⟩
theorem cL2 (la:Option Addr) (cl:Nat) (l:List Int) (lo sb n:Nat) (x:DsK) (H:DsS) (w:World) (h:DsIs w lo sb x H n) (ha:ArgIs w sb la l) (hl:l.length % 2=0) (a6:l.length<=10000) (hM:H.mkt=none):
  Calls prog 19 #[E (some ⟨sb,0,none⟩),J la l.length cl] w fun e w'=>eQ0 w w' lo sb n (aZ0 0 l H) e:=by
 obtain ⟨i0,hi,K,L,N⟩:=info_parts infoRow;have y:=hid7 h;have HM:=hid7 hM;have Q:=hid7 ha;have HL:=hid7 hl;clear h ha hM hl;go_enter func19,ntmps19;go_wp2_with (at_make;refine wpList_make_own _ rfl _ _ 27 rfl w.heap.size 113 i0 (.agg #[U G 0,U G 0]) 2 underlying27 hi K L _ _ _ (l.length / 2) rfl rfl (by go_num) (by rw [N];omega) (by unfold maxLen;omega) lR7 ?_;intro w3 b C);have S:Hid (Below w.heap.size w w3):=(aF _ _).grown C lR7 (fun q hq=>by cases hq);have T:=hid7 b;clear b C;go_loopw [5,6] (fun v i wr=>∃k j:Nat,2*k<=l.length/\j=2*k/\i=U G j/\wr.ownsRow w.heap.size 113 2 v k (flat ((dI0 l).take k))/\Below w.heap.size w wr) (fun _ i _=>l.length - (intOf i).toNat)
 case atStart=>exact ⟨0,0,aO _,rfl,rfl,T.out,S.out⟩
 case round=>
  obtain ⟨k,j,hk,f,rfl,a,P⟩:=hrel;obtain ⟨r,s,rfl⟩:=iS0 a;have t:=hid7 f;have HK:=hid7 hk;have a3:=hid7 P.size;have o:Hid (wr.heap[sb]? = some (R (dsV x H) 32 (0,0))):=aE0 y.out.box P lR7;have cS:=aA0 (j:=0) o.out rfl;have fS:=aB0 (j:=0) o.out;have O:=hid7 a;have d:=hid7 P;clear a P f hk;go_wp2_with fail
  ·have D:=HL.out;have f:=t.out;have a0:j+1<l.length:=o7;clear cS fS;have a1:k<(dI0 l).length:=by rw [jF0];omega
   obtain ⟨g,rfl,_,X⟩:=Q.out.cells j o7;obtain ⟨g',Z,_,Y⟩:=Q.out.cells (j+1) a0;cases Z;have c0:=(d.out.cell (World.block_lt_of_cell? w _ X)).trans X;have c1:=(d.out.cell (World.block_lt_of_cell? w _ Y)).trans Y;clear X Y
   have C3:Hid (∀q u,[Value.int .i64 (nI l j),U G (nI l (j+1))][q]? = some u->(wr.alloc (R #[U G (nI l j),U G (nI l (j+1))] 113)).cell? ((⟨wr.heap.size,0,none⟩:Addr).add q)=some u):=fun q u f=>by
    rw [Addr.add_lit,bT,World.cell?_alloc_at _ _ _ _ rfl];simpa using f
   have HF:Hid (flat ((dI0 l).take k)++[U G (nI l j),U G (nI l (j+1))]=flat ((dI0 l).take (k+1))):=by
    have:=bG1 a1;rw [rK0 l k o7,<-f] at this;exact this
   have a4:k<=5000:=o7;clear D f;have hw:IntKind.i64.wrap ((j:Int)+1)=(j:Int)+1:=IntWalk.i64_in _ o7;have a7:(0:Int)<=(j:Int)+1:=o7;have a8:(j:Int)+1<(l.length:Int):=o7;have a9:((j:Int)+1).toNat=j+1:=o7;go_region_law (refine lJ0 rfl _ _ 27 rfl w.heap.size 113 i0 (.agg #[U G 0,U G 0]) 2 16 underlying27 hi K L N rfl d7 (J r k s) k (flat ((dI0 l).take k)) rfl (O.out.alloc _) ⟨wr.heap.size,0,none⟩ 1 1 [U G (nI l j),U G (nI l (j+1))] rfl rfl C3.out (by simp [Value.oneCell']) (by unfold maxLen;omega) o7 (aI d.out.size s7) ?_;intro v1 w1 I B)
   all_goals go_wp2
   all_goals go_roundw
   case rel=>exact ⟨k+1,j+2,(by have:=t.out;omega),(by have:=t.out;omega),by go_num,HF.out ▸ I,(d.out.alloc d.out.size _).drew.grown B (aI d.out.size s7) (xS0 O.out)⟩
   case measure=>first | (simp [intOf];omega) | omega
   case rel=>exact ⟨k+1,j+2,(by have:=t.out;omega),(by have:=t.out;omega),by go_num,HF.out ▸ I,(d.out.alloc d.out.size _).drew.grown B (aI d.out.size s7) (xS0 O.out)⟩
   case measure=>first | (simp [intOf];omega) | omega
  ·go_ret;have f:=t.out;have D:=HL.out;have a5:=HK.out;obtain rfl:k=l.length / 2:=o7;have m:=jF0 l
   have p:Hid (wr.ownsRow w.heap.size 113 2 (J r (l.length / 2) s) (l.length / 2) (flat (dI0 l))):=by
    have:=O.out;rw [<-m,bI,m] at this;exact this
   have A:=aJ0 (j:=0) (J r (l.length / 2) s) o.out;have hO:Out (fun j=>j=sb) w (wr.setCell ⟨sb,0,none⟩ (J r (l.length / 2) s)):=(aL d.out lR7).trans (aM0 wr ⟨sb,0,none⟩ _) (Went.refl _ _);refine ⟨fI0.yes rfl,hO.mono fun j f=>aH f,{ x with ta:=r,tc:=s },⟨?_,⟨y.out.slt.1,aI y.out.slt.2 hO.size⟩,fun h0=>?_,fun M e=>?_⟩⟩
   ·have Z:dsV { x with ta:=r,tc:=s } { H with rs:=dI0 l }=(dsV x H).setIfInBounds 0 (J r (l.length / 2) s):=by
     unfold dsV;rw [m];rfl
    rw [show (aZ0 0 l H).2={ H with rs:=dI0 l } from rfl,Z];exact A
   ·have h1:0<l.length / 2:=m ▸ h0;obtain ⟨V,c,e,hr⟩:=bH1 p.out h1;injection e with e2 _ e4;subst e2;have a2:=p.out.lt V rfl;have F:¬V=sb:=fun e=>by have:=y.out.slt;omega
    obtain ⟨_,⟨e,_⟩ | ⟨g,c',W,e,_,hh,_⟩⟩:=p.out
    ·cases e
    ·injection e with z _ _;injection z with z;injection z with z _ _;subst z;refine ⟨V,rfl,cX0 hr (aM0 wr ⟨sb,0,none⟩ _) F,wW1 Q.out.nums,aI y.out.slt.2 a2.1,fun ⟨M,e⟩=>?_,W,(0,0),aF0 hh (aM0 wr ⟨sb,0,none⟩ _) F⟩;rw [show (aZ0 0 l H).2.mkt=H.mkt from rfl,HM.out] at e;cases e
   ·rw [show (aZ0 0 l H).2.mkt=H.mkt from rfl,HM.out] at e;cases e
theorem Eg.outT {w w':World} {c:Nat} {k:EgK} {M:Mkt} {S:Nat->Prop} (h:Eg w c k M) (a:Out S w w') (b:∀j,k.foot c j->¬S j) (e:w'.cell? ⟨k.tb,0,none⟩=some (J (some ⟨k.cb,0,none⟩) M.rs.length k.ct)/\cV0 w' k.cb 0 M.rs):Eg w' c k M:=
 ⟨aF0 h.box a (b _ (aH rfl)),e,Nat.lt_of_lt_of_le h.tlt a.size,
  aF0 h.bn a (b _ (aG (aH rfl))),h.bk.out a (fun _ d=>b _ (aG (aG (aH d)))),h.lnk,aK0 h.pk a (fun _ d=>b _ (aG (aG (aG (aH d))))),
  h.tkn.same (a.block _ h.tkn.lt (b _ (aG (aG (aG (aG rfl)))))),h.tkf,h.few,h.far⟩
theorem yN0:∀(rs:List (Int×Int)) (j:Nat) (u:Value),(flat rs)[j]? = some u->∃z,u=U G z
 | [],j,u,h=>absurd h (by simp [flat])
 | r::rs,0,u,h=>⟨r.1,by simpa [flat] using h.symm⟩
 | r::rs,1,u,h=>⟨r.2,by simpa [flat] using h.symm⟩
 | r::rs,j+2,u,h=>yN0 rs j u (by simpa [flat] using h)
theorem wX1 (a:Option Addr) (b m:Nat) (w:World) (c:20<m) (d:m<=10000):Calls prog 112 #[J a m b] w fun e w'=>e=Y (.tuple #[E none,.iface 26 (U G 4)])/\w'=w:=by
 go_enter func112,ntmps112;go_wp2;go_ret2;exact ⟨rfl,rfl⟩
theorem kT1 (a:Option Addr) (b:Nat) (rs:List (Int×Int)) (st dy p ti mo:Int) (w:World) (f:20<rs.length) (k:rs.length<=10000):
  Calls prog 65 #[.agg #[J a rs.length b,U G st,U G dy,U G p,U G ti,U G mo]] w fun e w'=>oZ1 w rs st dy p ti mo e w':=by
 have i:Hid (newE rs st dy p ti mo=(4,-1)):=by
  show _=_;unfold newE;rw [hC0 f];rfl
 go_enter func65,ntmps65;go_upto_region 1 with fail;have d:=heap_alloc_new w (R #[J a rs.length b,U G st,U G dy,U G p,U G ti,U G mo] 29);have c:=bel1 w (R #[J a rs.length b,U G st,U G dy,U G p,U G ti,U G mo] 29);generalize w.alloc (R #[J a rs.length b,U G st,U G dy,U G p,U G ti,U G mo] 29)=w1 at d c ⊢;have m:w1.cell? ⟨w.heap.size,0,none⟩=some (J a rs.length b):=aA0 (j:=0) d rfl;have g:=hid7 c;clear d c;go_wp2_with fail;refine (wX1 a b rs.length w1 f k).mono ?_;rintro e n ⟨rfl,l⟩;subst l;go_wp2_with fail;go_ret2;exact oF0 (by rw [i.out];exact aG (aH ⟨rfl,rfl⟩)) g.out
theorem iH2 (lo sb n:Nat) (x:DsK) (H:DsS) (w:World) (h:DsIs w lo sb x H n) (j:H.rs.length<=10000):
  Calls prog 65 #[.agg #[J x.ta H.rs.length x.tc,U G H.st,U G H.dy,U G H.pr,U G H.ti,U G H.mo]] w fun e w'=>
   ((newE H.rs H.st H.dy H.pr H.ti H.mo).1=0/\H.rs.length<=60/\oX1 w H.rs H.st H.dy H.pr H.ti H.mo e w')\/((newE H.rs H.st H.dy H.pr H.ti H.mo).1≠0/\oZ1 w H.rs H.st H.dy H.pr H.ti H.mo e w'):=by
 by_cases h0:H.rs.length=0
 ·have g:=List.eq_nil_of_length_eq_zero h0;rw [h0,g];exact (kC1 x.ta x.tc H.st H.dy H.pr H.ti H.mo w).mono fun e w' a=>aG ⟨by unfold newE;rw [aB d7];decide,a⟩
 ·by_cases h1:20<H.rs.length
  ·exact (kT1 x.ta x.tc H.rs H.st H.dy H.pr H.ti H.mo w h1 j).mono fun e w' a=>aG ⟨by unfold newE;rw [hC0 h1,aB d7];decide,a⟩
  ·obtain ⟨f,i,c,d,_⟩:=h.rows o7;rw [i]
   by_cases b:(newE H.rs H.st H.dy H.pr H.ti H.mo).1=0
   ·obtain ⟨k,l,m,o,p,q,r⟩:=tR0 b;exact (vD1 f 0 x.tc H.rs H.st H.dy H.pr H.ti H.mo w c d o7 o7 k l m o).mono fun e w' a=>aH ⟨b,o7,a⟩
   ·exact (vE1 f 0 x.tc H.rs H.st H.dy H.pr H.ti H.mo w c d o7 o7 b).mono fun e w' a=>aG ⟨b,a⟩
theorem cM2 (la:Option Addr) (cl:Nat) (l:List Int) (lo sb n:Nat) (x:DsK) (H:DsS) (w:World) (h:DsIs w lo sb x H n) (hr:H.rs.length<=10000) (hM:H.mkt=none) (hv:DsVars w) (hB:12<=lo):
  Calls prog 22 #[E (some ⟨sb,0,none⟩),J la l.length cl] w fun e w'=>eQ0 w w' lo sb n (aZ0 3 l H) e:=by
 have b:=hid7 h;have HM:=hid7 hM;have Y:=hid7 hv;have Z:w.cell? ⟨sb,0,none⟩=some (J x.ta H.rs.length x.tc):=aA0 (j:=0) h.box rfl;have c1:w.cell? ⟨sb,1,none⟩=some (U G H.st):=aA0 (j:=1) h.box rfl;have c2:w.cell? ⟨sb,2,none⟩=some (U G H.dy):=aA0 (j:=2) h.box rfl;have c3:w.cell? ⟨sb,3,none⟩=some (U G H.pr):=aA0 (j:=3) h.box rfl;have c4:w.cell? ⟨sb,4,none⟩=some (U G H.ti):=aA0 (j:=4) h.box rfl;have c5:w.cell? ⟨sb,5,none⟩=some (U G H.mo):=aA0 (j:=5) h.box rfl;clear h hM hv;go_enter func22,ntmps22;go_wp2_with fail;refine (iH2 lo sb n x H w b.out hr).mono ?_;rintro e w1 hN;rcases hN with ⟨v,V,eb,k,rfl,y,S,C,i⟩ | ⟨v,O,rfl,he,i⟩
 ·have q:=hid7 v;have L:=hid7 y;have r:=hid7 C;have p:=hid7 i;have B:=aE0 b.out.box i lR7;have s:Hid (DsVars w1):=Y.out.below i (aI hB b.out.slt.2);clear v y C i Z c1 c2 c3 c4 c5;have K:Hid _:=B;clear B;go_wp2_with fail;refine (hH0 .nilIface 0 w1 s.out.et (aH ⟨rfl,rfl⟩)).mono ?_;rintro e F ⟨R,a⟩;rcases R with ⟨_,rfl⟩ | ⟨h0,_⟩
  ·have c:Hid _:=aE0 K.out a lR7;have d:=hid7 (L.out.below a);have g:=hid7 (aD0 p.out a);have c6:=aA0 (j:=6) c.out rfl;have f6:=aB0 (j:=6) c.out;clear a;go_wp2_with fail;go_ret;have A:=aJ0 (j:=6) (E (some ⟨eb,0,none⟩)) c.out;have t:Out (fun j=>j=sb) F (F.setCell ⟨sb,6,none⟩ (E (some ⟨eb,0,none⟩))):=aM0 F ⟨sb,6,none⟩ _;have Q:Out (fun j=>j=sb) w (F.setCell ⟨sb,6,none⟩ (E (some ⟨eb,0,none⟩))):=(aL g.out lR7).trans t (Went.refl _ _)
   have P:aZ0 3 l H=((0,eZ0 3),{ H with mkt:=some (newM H.rs H.st H.dy H.pr H.ti H.mo) }):=by
    show (if _ then _ else _)=_;rw [aB q.out]
   have W:¬k.foot eb sb:=fun e=>by
    have:=r.out sb e;have:=b.out.slt;omega
   obtain ⟨z1,z2,z3,z4,z5,z6,z7⟩:=tR0 q.out;rw [P];refine ⟨fI0.yes rfl,Q.mono fun j m=>aH m,{ x with eb:=eb,k:=k },⟨?_,⟨b.out.slt.1,aI b.out.slt.2 Q.size⟩,fun h0=>?_,fun M e=>?_⟩⟩
   ·have e1:dsV { x with eb:=eb,k:=k } { H with mkt:=some (newM H.rs H.st H.dy H.pr H.ti H.mo) }=(dsV x H).setIfInBounds 6 (E (some ⟨eb,0,none⟩)):=by
     unfold dsV;rfl
    rw [e1];exact A
   ·obtain ⟨X,g1,g2,g3,g4,_,cs,f,g6⟩:=b.out.rows h0;have a0:=lt_of_block g6;have D:¬X=sb:=fun e=>by have:=b.out.slt;omega
    refine ⟨X,g1,cX0 (g2.below g.out lR7) t D,g3,g4,fun _ e=>?_,cs,f,aF0 g6 Q D⟩;have:=r.out X e;omega
   ·cases e;refine ⟨d.out.outT t (fun j m=>fun e=>W (e ▸ m)) ⟨?_,?_⟩,⟨_,_,(cB1 z1 V z5 z6 z7 z3 z4).hT,⟨⟨fun o T=>(by cases T),fun o T=>(by cases T)⟩,LotI.start⟩⟩,fun j m=>aI b.out.slt.2 (r.out j m),by rw [S];exact aO _,?_⟩
    ·rw [World.cell?_setCell_other (h:=fun e=>by injection e with _ e;cases e)];exact d.out.tab.1
    ·intro j u m;have I:=d.out.tab.2 j u m
     by_cases e:(⟨sb,6,none⟩:Addr)=⟨k.cb,0+j,none⟩
     ·rw [<-e,c6] at I;obtain ⟨z,hz⟩:=yN0 _ j u m;rw [hz] at I;cases I
     ·rw [World.cell?_setCell_other (h:=e)];exact I
    ·show (0:Int)<=_;omega
  ·exact absurd rfl h0
 ·have q:=hid7 v;have p:=hid7 i;have N:Hid _:=he;have s:Hid (DsVars w1):=Y.out.below i (aI hB b.out.slt.2);clear v i he Z c1 c2 c3 c4 c5;go_wp2_with fail;refine (qR1 O _ _ w1 s.out.et N.out (aG q.out)).mono ?_;rintro e F ⟨R,a⟩;have g:=hid7 (aD0 p.out a);rcases R with ⟨h0,_⟩ | ⟨h0,rfl⟩
  ·exact absurd h0 q.out
  ·clear a;go_wp2_with fail;refine ⟨rfl,?_⟩
   have P:aZ0 3 l H=(((newE H.rs H.st H.dy H.pr H.ti H.mo).1,[]),H):=by
    show (if _ then _ else _)=_;rw [aA q.out]
   rw [P];exact b.out.stay g.out (aG ⟨q.out,rfl⟩)
theorem rF1 (p:Addr) (w:World):
  CallsD prog 41 #[E (some p)] .returning w fun e d w'=>e=Y (.tuple #[])/\d=.returning/\w'=w:=by
 have c:∀(w:World),(binOp .neq 20 .nilIface .nilIface).run prog w=.ok (.bool false) w:=fun _=>by kernel_rfl
 refine callsD_of_wpS func41 rfl fun a cs b=>?_
 apply wpS_seq;apply wpS_region;simp [wpOpsS,go_sem,recoverD,b,ntmps41,Exit.thenS];apply wpS_seq;apply wpS_region;simp [wpOpsS,go_sem,c,Exit.thenS];refine wpS_cond (t:=false) (by simp [Act.eval,Array.replicate]) ?_;simp only [Bool.false_eq_true,if_false];refine wpS_of_wp (wp_skip ?_);cases a
 simp_all [bodyPostS,results,results41]
theorem cN2 (p:Addr) (m:Int) (t:ByteArray) (a:List PanicEntry) (w:World) (d:w.cell? p=some (.string t)) (f:w.frozen? p=false) (k:in64 m) (l:gV0 w):
  CallsD prog 41 #[E (some p)] (.panicking ({ v:=.iface 26 (U G m),recovered:=false }::a)) w fun e r w'=>
   e=Y (.tuple #[])/\r=.panicking ({ v:=.iface 26 (U G m),recovered:=true }::a)/\∃w1,Below w.heap.size w w1/\w'=w1.setCell p (.string (baOf (errT m))):=by
 have q:∀(w:World) (t:TypeId) (p:Value),(binOp .neq 20 (.iface t p) .nilIface).run prog w=.ok (.bool true) w:=fun _ _ _=>by kernel_rfl
 refine callsD_of_wpS func41 rfl fun i cs n=>?_
 apply wpS_seq;apply wpS_region;simp [wpOpsS,go_sem,recoverD,n,ntmps41,Exit.thenS];apply wpS_seq;apply wpS_region;simp [wpOpsS,go_sem,q,Exit.thenS];refine wpS_cond (t:=true) (by simp [Act.eval,Array.replicate]) ?_;simp only [if_true];refine wpS_of_wp ?_;have b:Array.replicate 6 undef=#[undef,undef,undef,undef,undef,undef]:=rfl;simp [b];clear b;go_wp2_with fail;refine (qQ1 m w k l).mono ?_;rintro e w1 ⟨rfl,c⟩;have j:=(c.cell (World.block_lt_of_cell? w _ d)).trans d;have o:w1.frozen? p=false:=(c.frozen (World.block_lt_of_cell? w _ d)).trans f;have g:=hid7 c;clear c d f;go_wp2_with fail;cases i
 simp_all [bodyPostS,results,results41]
 exact ⟨_,g.out,rfl⟩
theorem lO0 (p:Nat->Bool) (s:ByteArray):∀(f b:Nat) (st:Option Nat) (acc:List (Nat×Nat)),(Lib.spansFromP p s f b st acc).1.length<=acc.length+f
 | 0,_,_,acc=>lR7
 | f+1,b,st,acc=>by
  unfold Lib.spansFromP;split
  ·split
   ·cases st with
    | some a=>
     have:=lO0 p s f (b+(Utf8.decode s b).2) none (acc++[(a,b)]);simp only [aN,aZ,cU] at this;show (Lib.spansFromP p s f (b+(Utf8.decode s b).2) none (acc++[(a,b)])).1.length<=_;omega
    | none=>
     have:=lO0 p s f (b+(Utf8.decode s b).2) none acc;show (Lib.spansFromP p s f (b+(Utf8.decode s b).2) none acc).1.length<=_;omega
   ·cases st with
    | some a=>
     have:=lO0 p s f (b+(Utf8.decode s b).2) (some a) acc;show (Lib.spansFromP p s f (b+(Utf8.decode s b).2) (some a) acc).1.length<=_;omega
    | none=>
     have:=lO0 p s f (b+(Utf8.decode s b).2) (some b) acc;show (Lib.spansFromP p s f (b+(Utf8.decode s b).2) (some b) acc).1.length<=_;omega
  ·exact Nat.le_add_right _ _
theorem rG1 (s:ByteArray) (r:List (Nat×Nat)×Option Nat):(Lib.closeSpans s r).length<=r.1.length+1:=by
 unfold Lib.closeSpans;split <;> simp
theorem cL1 (s:ByteArray):(fR0 s).length<=s.size+1:=by
 unfold fR0 Lib.goFieldsP Lib.spansOfP;rw [bU];have h1:=rG1 s (Lib.spansFromP (fun r=>r == 32) s s.size 0 none []);have a:=lO0 (fun r=>r == 32) s s.size 0 none [];simp only [cU,bT] at a;omega
theorem kU1 {s t:ByteArray} (h:t∈fR0 s):t.size<=s.size:=by
 unfold fR0 Lib.goFieldsP at h;obtain ⟨x,_,rfl⟩:=bH.1 h;rw [ByteArray.size_extract];omega
theorem cO2 (r:Int) (w:World):Calls prog 43 #[.int .i32 r] w fun e w'=>e=Y (.bool (r == 32))/\w'=w:=by
 go_enter func43,ntmps43;go_wp2;go_ret;exact ⟨rfl,rfl⟩
theorem yO0 (args:Array Value) (w:World):(callFunc 43 args).run prog w=.ok (.enter 43 args) w:=by rfl
theorem cP2 (s:ByteArray) (w:World) (a:s.size<=1000000):
  Calls prog 42 #[.string s,.func (.func 43) #[] #[]] w fun e w'=>∃A,e=Y (J (some ⟨A,0,none⟩) (fR0 s).length (fR0 s).length)/\w.heap.size<=A/\
   w'.ownsRow w.heap.size 9 1 (J (some ⟨A,0,none⟩) (fR0 s).length (fR0 s).length) (fR0 s).length ((fR0 s).map Value.string)/\Below w.heap.size w w':=
 Any.strings_FieldsFunc_runes iD1 43 #[] yO0 (fun r=>r == 32) s w o7
  (fun W x b _=>(cO2 (x:Int) W).mono fun e w' h=>⟨by
   rw [h.1]
   have:((x:Int) == 32)=(x == 32):=by
    by_cases e:x=32
    ·rw [e];rfl
    ·rw [aC.2 e];exact aC.2 o7
   rw [this],0,h.2⟩) k7 k7
theorem wY1 (d:Nat) (a:d<18) (args:Array Value) (w:World):(callFunc (bO1.getD d 0) args).run prog w=.ok (.enter (bO1.getD d 0) args) w:=by
 match d,a with
 | 0,_=>rfl
 | 1,_=>rfl
 | 2,_=>rfl
 | 3,_=>rfl
 | 4,_=>rfl
 | 5,_=>rfl
 | 6,_=>rfl
 | 7,_=>rfl
 | 8,_=>rfl
 | 9,_=>rfl
 | 10,_=>rfl
 | 11,_=>rfl
 | 12,_=>rfl
 | 13,_=>rfl
 | 14,_=>rfl
 | 15,_=>rfl
 | 16,_=>rfl
 | 17,_=>rfl
 | d+18,h=>exact absurd h o7
theorem gF0 {b:Int} (h:kT0 b n=true) (a:b≠-1):(n:Int)=b:=by
 unfold kT0 at h;rw [aA a] at h;exact of_decide_eq_true h
theorem cM1 (h:kT0 (-1) n=true):n % 2=0:=by
 have h1:=of_decide_eq_true h;omega
theorem bM0 (h:mayD 2 H=true):∃M,H.mkt=some M:=by
 cases hm:H.mkt with
 | some M=>exact ⟨M,rfl⟩
 | none=>
  unfold mayD at h;rw [hm] at h;exact absurd h d7
theorem fU0 (h:mayD 1 H=true):H.mkt=none:=by
 cases hm:H.mkt with
 | none=>rfl
 | some M=>
  unfold mayD at h;rw [hm] at h;simp at h
theorem gH2 (d:Nat) (m:d<18) (la:Option Addr) (b:Nat) (l:List Int) (lo sb n:Nat) (x:DsK) (H:DsS) (w:World) (h:DsIs w lo sb x H n) (i:ArgIs w sb la l) (j:kT0 (cE0 d) l.length=true) (c:mayD (iQ0 d) H=true) (o:l.length<=10000) (p:H.rs.length<=10000) (f:DsVars w) (g:12<=lo) (k:n<=1900):
  Calls prog (bO1.getD d 0) #[E (some ⟨sb,0,none⟩),J la l.length b] w fun e w'=>eQ0 w w' lo sb n (aZ0 d l H) e:=by
 match d,m with
 | 0,_=>exact cL2 la b l lo sb n x H w h i (cM1 j) o (fU0 c)
 | 1,_=>exact cC2 la b l lo sb n x H w h i (Int.ofNat.inj (gF0 j d7)) (fU0 c)
 | 2,_=>exact qT1 la b l lo sb n x H w h i (Int.ofNat.inj (gF0 j d7)) (fU0 c)
 | 3,_=>exact cM2 la b l lo sb n x H w h p (fU0 c) f g
 | 4,_=>
  obtain ⟨M,a⟩:=bM0 c;exact iG2 la b l lo sb n x H M w h i (Int.ofNat.inj (gF0 j d7)) a f g k
 | 5,_=>
  obtain ⟨M,a⟩:=bM0 c;exact gG2 la b l lo sb n x H M w h i (Int.ofNat.inj (gF0 j d7)) a f g k
 | 6,_=>
  obtain ⟨M,a⟩:=bM0 c;exact wU1 la b l lo sb n x H M w h i (Int.ofNat.inj (gF0 j d7)) a f g k
 | 7,_=>
  obtain ⟨M,a⟩:=bM0 c;exact gF2 la b l lo sb n x H M w h a f g k
 | 8,_=>
  obtain ⟨M,a⟩:=bM0 c;exact gD2 la b l lo sb n x H M w h a f g
 | 9,_=>
  obtain ⟨M,a⟩:=bM0 c;exact gE2 la b l lo sb n x H M w h a f g k
 | 10,_=>
  obtain ⟨M,a⟩:=bM0 c;exact cD2 la b l lo sb n x H M w h a
 | 11,_=>
  obtain ⟨M,a⟩:=bM0 c;exact cE2 la b l lo sb n x H M w h a f.tab
 | 12,_=>
  obtain ⟨M,a⟩:=bM0 c;exact fY2 la b l lo sb n x H M w h a f.tab
 | 13,_=>
  obtain ⟨M,a⟩:=bM0 c;exact wT1 la b l lo sb n x H M w h i (Int.ofNat.inj (gF0 j d7)) a f g
 | 14,_=>
  obtain ⟨M,a⟩:=bM0 c;exact wL1 la b l lo sb n x H M w h a f.tab
 | 15,_=>exact fX2 la b l lo sb n x H w h i (Int.ofNat.inj (gF0 j d7)) f g
 | 16,_=>exact cB2 la b l lo sb n x H w h
 | 17,_=>exact fW2 la b l lo sb n x H w h
 | d+18,h=>exact absurd h o7
def dA0 (e:Int):Prop:=0<=e/\e<=20
theorem oQ0 {e:Int} (h:dA0 e):in64 e:=⟨by have:=h.1;omega,by have:=h.2;omega⟩
theorem sm0:dA0 0:=⟨d7,d7⟩
theorem sm1:dA0 1:=⟨d7,d7⟩
theorem sm2:dA0 2:=⟨d7,d7⟩
theorem sm4:dA0 4:=⟨d7,d7⟩
theorem sm6:dA0 6:=⟨d7,d7⟩
theorem sm8:dA0 8:=⟨d7,d7⟩
theorem rH1 (p r:Int×Int):dA0 (rowE p r):=by
 unfold rowE jJ0 dA0;split <;> first | omega | (split <;> first | omega | (split <;> omega))
theorem wC0:∀(rs:List (Int×Int)) (p:Int×Int) (i:Nat),dA0 (gR0 p i rs).1
 | [],_,_=>sm0
 | r::rs,p,i=>by
  unfold gR0;split
  ·exact wC0 rs r (i+1)
  ·exact rH1 p r
theorem rI1 (rs:List (Int×Int)):dA0 (tabE rs).1:=by
 cases rs with
 | nil=>exact sm8
 | cons r rs=>
  rw [lY0];split
  ·exact sm4
  ·split
   ·exact wC0 rs r 1
   ·exact sm1
theorem rJ1 (rs:List (Int×Int)) (st dy p ti mo:Int):dA0 (newE rs st dy p ti mo).1:=by
 unfold newE;split
 ·exact rI1 rs
 ·split
  ·exact sm0
  ·exact sm2
theorem jG0 {e:Int} (t:List UInt8) (h:dA0 e):dA0 (orE e t).1:=by
 unfold orE;split
 ·exact sm0
 ·exact h
theorem cN1 (M:Mkt) (o:Ord):dA0 (ordN M o):=by
 unfold ordN dA0;split
 ·omega
 ·split
  ·omega
  ·split
   ·omega
   ·split
    ·omega
    ·split <;> omega
theorem rK1 (M:Mkt) (id:Int):dA0 (kB0 M id):=by
 unfold kB0 canN dA0;split
 ·omega
 ·split
  ·omega
  ·split <;> first | omega | (split <;> omega)
theorem kV1 (d:Nat) (l:List Int) (M:Mkt):dA0 (cK0 d l M).1.1:=by
 have z:∀t:List UInt8,dA0 ((0,t):Int×List UInt8).1:=fun _=>sm0
 unfold cK0;split
 ·exact jG0 _ (cN1 _ _)
 ·exact jG0 _ (cN1 _ _)
 ·exact jG0 _ (rK1 _ _)
 ·exact jG0 _ (by unfold pK0 dA0;split <;> omega)
 ·exact jG0 _ (by unfold kQ0 dA0;split <;> omega)
 ·exact jG0 _ (by unfold kD0 dA0;split <;> omega)
 ·exact z _
 ·exact z _
 ·exact z _
 ·show dA0 (if _ then _ else _:Int×List UInt8).1;split
  ·exact z _
  ·exact sm1
 ·exact z _
theorem mG0 (d:Nat) (l:List Int) (H:DsS):dA0 (aZ0 d l H).1.1:=by
 have z:∀t:List UInt8,dA0 ((0,t):Int×List UInt8).1:=fun _=>sm0
 unfold aZ0;split
 ·exact z _
 ·exact z _
 ·exact z _
 ·split
  ·exact z _
  ·exact rJ1 _ _ _ _ _ _
 ·exact jG0 _ (by unfold mZ0 dA0;split <;> omega)
 ·exact z _
 ·exact z _
 ·split
  ·exact sm6
  ·exact kV1 _ _ _
def rL1 (w:World) (lo sb n:Nat) (s:ByteArray) (r:(Int×List UInt8)×DsS) (e:Ending) (w':World):Prop:=
 e=Y (.string (baOf (ansT r.1)))/\Out (DsW w lo sb) w w'/\∃x' n',DsIs w' lo sb x' r.2 n'/\(n'=n\/(n'=n+1/\3<=s.size))
theorem rM1 {A c:Nat} {f:List ByteArray} (h:w.ownsRow base 9 1 (J (some ⟨A,0,none⟩) n c) n (f.map Value.string)) {j:Nat} {u:ByteArray} (l:f[j]? = some u):w.cell? ⟨A,j,none⟩=some (.string u):=by
 obtain ⟨o,⟨e,_⟩ | ⟨g,m,b,e,_,k,_,_,_,d⟩⟩:=h
 ·cases e
 ·injection e with a _ _;injection a with a;injection a with a _ _;subst a;have h1:(f.map Value.string)[j]? = some (.string u):=by rw [List.getElem?_map,l];rfl
  rw [<-d,List.getElem?_take] at h1;split at h1
  ·have i:b[j]? = some (.string u):=by rw [<-h1];simp
   simp [World.cell?,k,i]
  ·cases h1
def rN1:Value->Option Addr
 | J a _ _=>a
 | _=>none
theorem eZ1 {sb:Nat} {l:List Int} (h:w.ownsRow base 3 1 v l.length (pW0 l)) (i:sb<base) (f:∀z∈l,-9223372036854775808<=z/\z<=9223372036854775807):ArgIs w sb (rN1 v) l:=by
 refine ⟨fun k hk=>?_,fun k=>?_⟩
 ·obtain ⟨o,⟨e,m⟩ | ⟨g,j,a,rfl,n,d,_,_,_,b⟩⟩:=h
  ·omega
  ·refine ⟨g,rfl,fun e=>by omega,?_⟩
   have h1:(pW0 l)[k]? = some (U G (nI l k)):=by
    unfold pW0 nI;rw [List.getElem?_map,List.getElem?_eq_getElem hk];simp [hk]
   rw [<-b,List.getElem?_take] at h1;split at h1
   ·have c:a[k]? = some (U G (nI l k)):=by rw [<-h1];simp
    simp [World.cell?,d,c]
   ·cases h1
 ·by_cases hk:k<l.length
  ·unfold nI;have:l.getD k 0=l[k]:=by simp [hk]
   rw [this];exact f _ (List.getElem_mem hk)
  ·unfold nI;have:l.getD k 0=0:=by simp [gS hk]
   rw [this];exact ⟨d7,d7⟩
theorem wZ1 {d:Nat} (h:d<18):3<=(eZ0 d).length:=by
 match d,h with
 | 0,_=>decide
 | 1,_=>decide
 | 2,_=>decide
 | 3,_=>decide
 | 4,_=>decide
 | 5,_=>decide
 | 6,_=>decide
 | 7,_=>decide
 | 8,_=>decide
 | 9,_=>decide
 | 10,_=>decide
 | 11,_=>decide
 | 12,_=>decide
 | 13,_=>decide
 | 14,_=>decide
 | 15,_=>decide
 | 16,_=>decide
 | 17,_=>decide
 | d+18,h=>exact absurd h o7
theorem DsIs.setT {W:World} {lo sb n:Nat} {x:DsK} {H:DsS} (h:DsIs W lo sb x H n) {pb:Nat} {t0 t:ByteArray} (l:bJ0 W pb #[.string t0] 9) (w:lo<=pb):DsIs (W.setCell ⟨pb,0,none⟩ (.string t)) lo sb x H n:=by
 have c:Out (fun j=>j=pb) W (W.setCell ⟨pb,0,none⟩ (.string t)):=aM0 W ⟨pb,0,none⟩ _;have m:aC0 W pb 0 (.string t0):=aA0 (j:=0) l rfl;refine ⟨aF0 h.box c (fun e=>by have:=h.slt.1;omega),⟨h.slt.1,aI h.slt.2 c.size⟩,fun h0=>?_,fun M v=>?_⟩
 ·obtain ⟨o,h1,i,p,q,r,cs,f,a⟩:=h.rows h0
  have b:¬o=pb:=fun e=>by
   rw [e,l] at a;injection a with a;injection a with _ s _;exact absurd s d7
  exact ⟨o,h1,cX0 i c b,p,q,r,cs,f,aF0 a c b⟩
 ·obtain ⟨h1,i⟩:=h.eg M v;refine ⟨h1.outT c (fun j d e=>h1.farU d _ _ _ (aG rfl) (e ▸ l)) ⟨?_,fun j u d=>?_⟩,i⟩
  ·by_cases e:(⟨pb,0,none⟩:Addr)=⟨x.k.tb,0,none⟩
   ·have:=h1.tab.1;rw [<-e,m] at this;cases this
   ·rw [World.cell?_setCell_other (h:=e)];exact h1.tab.1
  ·have g:=h1.tab.2 j u d
   by_cases e:(⟨pb,0,none⟩:Addr)=⟨x.k.cb,0+j,none⟩
   ·rw [<-e,m] at g;obtain ⟨z,y⟩:=yN0 _ j u d;rw [y] at g;cases g
   ·rw [World.cell?_setCell_other (h:=e)];exact g
theorem rO1 {b w6:World} {lo sb:Nat} (d:aL0 w b) (e:Out (DsW b lo sb) b w6):Out (DsW w lo sb) w w6:=
 (aL d lR7).trans e fun k hk=>by
  by_cases a:k<w.heap.size
  ·refine aH (hk.imp id fun ⟨h1,h2⟩=>⟨h1,fun c t f g=>?_⟩);rw [<-d.block k a];exact h2 c t f g
  ·exact aG (gS a)
theorem DsVars.outW {w w':World} {lo sb:Nat} (h:DsVars w) (b:Out (DsW w lo sb) w w') (f:12<=lo) (c:12<=sb) (d:12<=w.heap.size):DsVars w':=
 h.below (b.below (fun j a=>a.elim (fun e=>by omega) (fun e=>by have:=e.1;omega)) d) lR7
section
variable {tmps:Array Value} {pb:Nat} {R:Ending->World->Prop} {W:World}
theorem fA1 (a:∀(W:World) (t:ByteArray),aC0 W pb 0 (.string t)->(results f11 tmps).run prog W=.ok (.string t) W) {t:ByteArray} (b:aC0 W pb 0 (.string t)) (h:R (.returned (.string t)) W):
  bodyPostD prog f11 R Exit.ret { tmps:=tmps,defers:=[{ target:=.fn (.func 41) #[.pointer (some ⟨pb,0,none⟩)],args:=#[] }] } W:=by
 refine leaves_cons (f:=41) (args:=#[.pointer (some ⟨pb,0,none⟩)]) s7 (by simp [go_sem]) ?_;refine (rF1 ⟨pb,0,none⟩ _).mono ?_;rintro e d c ⟨rfl,rfl,rfl⟩;exact ⟨_,a _ _ b,h⟩
theorem qK0 (a:∀(W:World) (t:ByteArray),aC0 W pb 0 (.string t)->(results f11 tmps).run prog W=.ok (.string t) W) {t:ByteArray} {m:Int} (g:bJ0 W pb #[.string t] 9) (i:in64 m) (k:gV0 W)
  (h:∀w1,aL0 W w1->R (.returned (.string (baOf (errT m)))) (w1.setCell ⟨pb,0,none⟩ (.string (baOf (errT m))))):
  bodyPostD prog f11 R (Exit.panic [{ v:=.iface 26 (.int .i64 m),recovered:=false }]) { tmps:=tmps,defers:=[{ target:=.fn (.func 41) #[.pointer (some ⟨pb,0,none⟩)],args:=#[] }] } W:=by
 have b:aC0 W pb 0 (.string t):=aA0 (j:=0) g rfl;refine leaves_cons (f:=41) (args:=#[.pointer (some ⟨pb,0,none⟩)]) s7 (by simp [go_sem]) ?_;refine (cN2 ⟨pb,0,none⟩ m t [] W b (aB0 (j:=0) g) i k).mono ?_;rintro e n l ⟨rfl,rfl,w1,d,rfl⟩;have c:=(d.cell (World.block_lt_of_cell? W _ b)).trans b;exact ⟨_,a _ _ (World.cell?_setCell_same' _ _ _ (by rw [c];rfl)),h w1 d⟩
end
section
variable {w W:World} {lo sb n n':Nat} {s:ByteArray} {x':DsK} {H':DsS} {t0:ByteArray}
theorem yP0 (c:Out (DsW w lo sb) w W) (h:DsIs W lo sb x' H' n') (d:bJ0 W w.heap.size #[.string t0] 9) (a:lo<=w.heap.size) (b:n'=n\/(n'=n+1/\3<=s.size)):
  rL1 w lo sb n s ((0,t),H') (Y (.string (baOf t))) (W.setCell ⟨w.heap.size,0,none⟩ (.string (baOf t))):=
 ⟨rfl,gP0 c lR7,x',n',h.setT d a,b⟩
theorem lP0 {m:Int} (c:m≠0) (e:Out (DsW w lo sb) w W) (h:DsIs W lo sb x' H' n') (f:bJ0 W w.heap.size #[.string t0] 9) (b:lo<=w.heap.size) (d:n'=n\/(n'=n+1/\3<=s.size)) (a:aL0 W w1):
  rL1 w lo sb n s ((m,t),H') (Y (.string (baOf (errT m)))) (w1.setCell ⟨w.heap.size,0,none⟩ (.string (baOf (errT m)))):=
 ⟨by unfold ansT;rw [aA c],gP0 (aX0 e (aL a lR7)) lR7,x',n',(h.below a).setT (aE0 f a lR7) b,d⟩
end
theorem xA1 (s:ByteArray) (lo sb mb n:Nat) (x:DsK) (H:DsS) (w:World) (h:DsIs w lo sb x H n) (hd:eO0 w mb sb) (hr:H.rs.length<=10000) (hs:s.size<=4000) (hv:DsVars w) (hB:12<=lo) (c2:12<=sb) (hn:n<=1900):
  Calls prog 11 #[.pointer (some ⟨sb,0,none⟩),.map (some mb),.string s] w fun e w'=>rL1 w lo sb n s (dC0 s H) e w':=by
 have c9:∀(fn:Fn) (first cap:Array Value) (w:World),(Instr.makeFunc fn first cap).run prog w=.ok (.func fn first cap) w:=fun _ _ _ _=>rfl
 have B:=hid7 h;have HD:=hid7 hd;have HV:=hid7 hv;clear h hd hv;go_enter_defers func11,ntmps11;go_wp2_with fail;have hx:=heap_alloc_new w (.cells #[.string ⟨#[]⟩] 9);have hb:=bel1 w (.cells #[.string ⟨#[]⟩] 9);generalize w.alloc (.cells #[.string ⟨#[]⟩] 9)=w1 at hx hb ⊢;have HX:=hid7 hx;have HB:=hid7 hb;clear hx hb;refine (cP2 s w1 o7).mono ?_;rintro e w2 ⟨A,rfl,hA,a,b2⟩;have L:=hid7 (aD0 HB.out b2);have P:Hid (w2.heap[w.heap.size]? = some (.cells #[.string ⟨#[]⟩] 9 (0,0))):=aE0 HX.out b2 lR7;have a6:=hid7 (cL1 s);have O:Hid (dC0 s H=match fR0 s with
 | []=>((0,[111,107]),H)
 | w::ws=>match jS0 w.data.toList with
  | none=>((3,[]),H)
  | some d=>if kT0 (cE0 d) ws.length=false then ((3,[]),H) else match gD0 ws with
   | none=>((3,[]),H)
   | some l=>if mayD (iQ0 d) H=false then ((6,[]),H) else aZ0 d l H):=rfl
 have Y:Hid (∀t∈fR0 s,t.size<=s.size):=fun t z=>kU1 z
 have cT:=aA0 (j:=0) P.out rfl;have fT:=aB0 (j:=0) P.out;clear b2;have a5:=hid7 (B.out.below L.out);have b8:Hid (Out (DsW w lo sb) w w2):=aL L.out lR7;cases hw:fR0 s with
 | nil=>
  rw [hw] at a O;clear a hA;simp only [cU];go_wp2_with fail;rw [O.out];refine fA1 (fun W t z=>?_) (t:=baOf [111,107]) (World.cell?_setCell_same' _ _ _ (by rw [cT];rfl)) (yP0 b8.out a5.out P.out B.out.slt.2 (aH rfl));simp [results,results11,go_sem,z]
 | cons t ws=>
  rw [hw] at a O a6 Y
  have b1:Hid (∀j u,(t::ws)[j]? = some u->w2.cell? ⟨A,j,none⟩=some (.string u)):=fun j u hj=>by
   have:=rM1 a hj;exact this
  have c6:=hid7 hA;clear a hA;simp only [aZ];have c0:w2.cell? ⟨A,0,none⟩=some (.string t):=b1.out 0 t rfl
  have HK:Hid (ws.length<=4000):=by
   have:=a6.out;simp only [aZ] at this;show ws.length<=4000;omega
  have a9:=hid7 (Y t (List.mem_cons_self ..));have a0:=HD.same (L.block mb HD.lt);have hk:=HK.out;generalize c1:ws.length=k at hk ⊢;have M:=hid7 c1;have hz:(((k:Int)+1) == 0)=false:=aC.2 o7;clear c1;cases hdi:jS0 t.data.toList with
  | none=>
   have a1:=a0.look_no (s:=t) (by have:=a9.out;unfold maxLen;omega) hdi;have G:Hid (dC0 s H=((3,[]),H)):=by show _=_;rw [O.out];simp only [hdi]
   clear a0;go_wp2_with fail;rw [G.out];have E:=bel1 w2 (.cells #[.int .i64 0,.int .i64 0,.nilFunc] 69);refine qK0 (fun W t z=>?_) (aE0 P E lR7) ⟨d7,d7⟩ ((HV.below L (aI hB B.slt.2)).below E (aI (aI hB B.slt.2) L.size)).tab (fun wq y=>lP0 d7 (aX0 b8 (aL E lR7)) (a5.below E) (aE0 P E lR7) B.slt.2 (aH rfl) y);simp [results,results11,go_sem,z]
  | some d=>
   have a1:=a0.look_yes (s:=t) (by have:=a9.out;unfold maxLen;omega) hdi;unfold vT1 at a1;have c5:=hid7 ((fH0 hdi).1)
   have H3:Hid (3<=s.size):=by
    show 3<=s.size;have h1:=a9.out;have h2:=(fH0 hdi).2;have h3:t.size=t.data.toList.length:=by rw [Array.length_toList];rfl
    have h4:=wZ1 (fH0 hdi).1;rw [h2] at h3;omega
   have G:Hid (dC0 s H=if kT0 (cE0 d) ws.length=false then ((3,[]),H) else match gD0 ws with
    | none=>((3,[]),H)
    | some l=>if mayD (iQ0 d) H=false then ((6,[]),H) else aZ0 d l H):=by show _=_;rw [O.out];simp only [hdi]
   have c4:=wY1 d (fH0 hdi).1;have a4:Hid _:=gH2 d (fH0 hdi).1;generalize bO1.getD d 0=f at a1 c4 a4;clear a0 O hdi hw;go_wp2_with fail;have E:=bel1 w2 (.cells #[.int .i64 (cE0 d),.int .i64 (iQ0 d),.func (.func f) #[.pointer (some ⟨sb,0,none⟩)] #[]] 69);have b5:=heap_alloc_new w2 (.cells #[.int .i64 (cE0 d),.int .i64 (iQ0 d),.func (.func f) #[.pointer (some ⟨sb,0,none⟩)] #[]] 69);generalize w2.alloc (.cells #[.int .i64 (cE0 d),.int .i64 (iQ0 d),.func (.func f) #[.pointer (some ⟨sb,0,none⟩)] #[]] 69)=w3 at E b5 ⊢;refine (fT2 (cE0 d) (iQ0 d) (.func (.func f) #[.pointer (some ⟨sb,0,none⟩)] #[]) k w3 o7).mono ?_;rintro e w4 ⟨rfl,b3⟩;have K:=hid7 (aD0 E b3);have I:=hid7 (aD0 L K);have Z:Hid _:=aE0 P K lR7;have S:=hid7 (a5.below K);have b6:Hid _:=aE0 b5 b3 lR7;have b9:Hid (DsVars w4):=HV.below I (aI hB B.slt.2);have c3:Hid (Out (DsW w lo sb) w w4):=aL I lR7;clear E b5 b3 a1 cT fT c0;cases hfit:kT0 (cE0 d) k with
   | false=>
    go_wp2_with fail;have N:Hid (dC0 s H=((3,[]),H)):=by show _=_;rw [G.out,M.out,aB hfit]
    rw [N.out];refine qK0 (fun W t z=>?_) Z ⟨d7,d7⟩ b9.tab (fun wq y=>lP0 d7 c3 S Z B.slt.2 (aH rfl) y);simp [results,results11,go_sem,z]
   | true=>
    have N:Hid (dC0 s H=match gD0 ws with
     | none=>((3,[]),H)
     | some l=>if mayD (iQ0 d) H=false then ((6,[]),H) else aZ0 d l H):=by show _=_;rw [G.out,M.out,aA (by rw [hfit];decide)]
    have b7:=hid7 hfit
    have a2:Hid (∀o:Nat,k=0\/o=1->Calls prog 45 #[.slice (some ⟨A,o,none⟩) k k] w4 fun e w'=>qN1 ws w4 w' e/\aL0 w4 w'):=fun o ho=>by
     have:=qO1 (some ⟨A,o,none⟩) k ws w4 (fun j u hj=>⟨A,o,rfl,by
      have c7:j<ws.length:=(List.getElem?_eq_some_iff.1 hj).1;have h1:=b1 (j+1) u hj;have h2:=(K.cell (World.block_lt_of_cell? w2 _ h1)).trans h1;have c8:=M.out;rcases ho with ho | ho
      ·omega
      ·rw [ho,Nat.add_comm 1 j];exact h2⟩) (fun u hu=>by have:=Y.out u (List.mem_cons_of_mem _ hu);omega) (by have:=HK.out;omega) b9.out (by have:=I.out.size;have:=B.out.slt.2;omega)
     rw [M.out] at this;exact this
    clear hfit G b1 Y a6;go_wp2_with fail
    ·have h0:k=0:=a7;subst h0;refine (a2 0 (aH rfl)).mono ?_;rintro e w5 ⟨hN,i⟩;have J:=hid7 (aD0 I i);have g:Hid _:=aE0 Z i lR7;have c:=hid7 (S.below i);have F:Hid _:=aE0 b6 i lR7;have D:Hid (DsVars w5):=HV.below J (aI hB B.slt.2);have U:Hid (Out (DsW w lo sb) w w5):=aL J lR7;rcases hN with ⟨r,rfl⟩ | ⟨l,v,b,rfl,a⟩
     ·have C:Hid (dC0 s H=((3,[]),H)):=by show _=_;rw [N.out,r]
      clear i r;go_wp2_with fail;rw [C.out];refine qK0 (fun W t z=>?_) g ⟨d7,d7⟩ D.tab (fun wq y=>lP0 d7 U c g B.slt.2 (aH rfl) y);simp [results,results11,go_sem,z]
     ·have T:=hid7 (kJ0 ws b);have C:Hid (dC0 s H=if mayD (iQ0 d) H=false then ((6,[]),H) else aZ0 d l H):=by show _=_;rw [N.out,b]
      have a3:Hid (ArgIs w5 sb (rN1 v) l):=eZ1 a (by have:=B.slt;have:=I.size;omega) (oP0 ws b);obtain ⟨la,cl,rfl⟩:=iS0 a;have cW:=aA0 (j:=1) F rfl;have cF:=aA0 (j:=2) F rfl;clear i a b;go_wp2_with fail;refine (fU2 lo sb n x H (iQ0 d) w5 c).mono ?_;rintro e w6 ⟨rfl,b4⟩;subst b4;cases hmay:mayD (iQ0 d) H with
      | false=>
       have p:Hid (dC0 s H=((6,[]),H)):=by show _=_;rw [C.out,aB hmay]
       clear hmay;go_wp2_with fail;rw [p.out];refine qK0 (fun W t z=>?_) g ⟨d7,d7⟩ D.tab (fun wq y=>lP0 d7 U c g B.slt.2 (aH rfl) y);simp [results,results11,go_sem,z]
      | true=>
       have p:Hid (dC0 s H=aZ0 d l H):=by show _=_;rw [C.out,aA (by rw [hmay];decide)]
       have a8:=hid7 hmay;clear hmay;go_wp2_with fail;refine (a4.out la cl l lo sb n x H w6 c.out a3.out (by rw [T.out,M.out];exact b7.out) a8.out (by rw [T.out];have:=HK.out;omega) hr D.out hB hn).mono ?_;rintro e w7 ⟨hE,hO,x',hI⟩;have X:=hid7 (mG0 d l H);have q:Hid _:=aF0 g hO (fun y=>y.elim (fun e=>by have:=B.slt;omega) (fun y=>y.2 _ _ _ (aG rfl) g));have V:=hid7 (rO1 J hO);have b0:Hid (DsVars w7):=D.outW hO hB c2 (by have:=c.slt.2;omega);have cT:=aA0 (j:=0) q rfl;have fT:=aB0 (j:=0) q;generalize aZ0 d l H=R at p X hE hI;obtain ⟨⟨m,tt⟩,H'⟩:=R;have Q:=hid7 hI;clear hI hO;rcases hE with ⟨h0,rfl⟩ | ⟨h0,rfl⟩
       ·go_wp2_with fail;rw [p.out];obtain rfl:m=0:=h0;refine fA1 (fun W t z=>?_) (t:=baOf tt) (World.cell?_setCell_same' _ _ _ (by rw [cT];rfl)) (yP0 V Q q B.slt.2 (aG ⟨rfl,H3⟩));simp [results,results11,go_sem,z]
       ·go_wp2_with fail;rw [p.out];refine qK0 (fun W t z=>?_) q (oQ0 X) b0.tab (fun wq y=>lP0 h0 V Q q B.slt.2 (aG ⟨rfl,H3⟩) y);simp [results,results11,go_sem,z]
    ·refine (a2 1 (aG rfl)).mono ?_;rintro e w5 ⟨hN,i⟩;have J:=hid7 (aD0 I i);have g:Hid _:=aE0 Z i lR7;have c:=hid7 (S.below i);have F:Hid _:=aE0 b6 i lR7;have D:Hid (DsVars w5):=HV.below J (aI hB B.slt.2);have U:Hid (Out (DsW w lo sb) w w5):=aL J lR7;rcases hN with ⟨r,rfl⟩ | ⟨l,v,b,rfl,a⟩
     ·have C:Hid (dC0 s H=((3,[]),H)):=by show _=_;rw [N.out,r]
      clear i r;go_wp2_with fail;rw [C.out];refine qK0 (fun W t z=>?_) g ⟨d7,d7⟩ D.tab (fun wq y=>lP0 d7 U c g B.slt.2 (aH rfl) y);simp [results,results11,go_sem,z]
     ·have T:=hid7 (kJ0 ws b);have C:Hid (dC0 s H=if mayD (iQ0 d) H=false then ((6,[]),H) else aZ0 d l H):=by show _=_;rw [N.out,b]
      have a3:Hid (ArgIs w5 sb (rN1 v) l):=eZ1 a (by have:=B.slt;have:=I.size;omega) (oP0 ws b);obtain ⟨la,cl,rfl⟩:=iS0 a;have cW:=aA0 (j:=1) F rfl;have cF:=aA0 (j:=2) F rfl;clear i a b;go_wp2_with fail;refine (fU2 lo sb n x H (iQ0 d) w5 c).mono ?_;rintro e w6 ⟨rfl,b4⟩;subst b4;cases hmay:mayD (iQ0 d) H with
      | false=>
       have p:Hid (dC0 s H=((6,[]),H)):=by show _=_;rw [C.out,aB hmay]
       clear hmay;go_wp2_with fail;rw [p.out];refine qK0 (fun W t z=>?_) g ⟨d7,d7⟩ D.tab (fun wq y=>lP0 d7 U c g B.slt.2 (aH rfl) y);simp [results,results11,go_sem,z]
      | true=>
       have p:Hid (dC0 s H=aZ0 d l H):=by show _=_;rw [C.out,aA (by rw [hmay];decide)]
       have a8:=hid7 hmay;clear hmay;go_wp2_with fail;refine (a4.out la cl l lo sb n x H w6 c.out a3.out (by rw [T.out,M.out];exact b7.out) a8.out (by rw [T.out];have:=HK.out;omega) hr D.out hB hn).mono ?_;rintro e w7 ⟨hE,hO,x',hI⟩;have X:=hid7 (mG0 d l H);have q:Hid _:=aF0 g hO (fun y=>y.elim (fun e=>by have:=B.slt;omega) (fun y=>y.2 _ _ _ (aG rfl) g));have V:=hid7 (rO1 J hO);have b0:Hid (DsVars w7):=D.outW hO hB c2 (by have:=c.slt.2;omega);have cT:=aA0 (j:=0) q rfl;have fT:=aB0 (j:=0) q;generalize aZ0 d l H=R at p X hE hI;obtain ⟨⟨m,tt⟩,H'⟩:=R;have Q:=hid7 hI;clear hI hO;rcases hE with ⟨h0,rfl⟩ | ⟨h0,rfl⟩
       ·go_wp2_with fail;rw [p.out];obtain rfl:m=0:=h0;refine fA1 (fun W t z=>?_) (t:=baOf tt) (World.cell?_setCell_same' _ _ _ (by rw [cT];rfl)) (yP0 V Q q B.slt.2 (aG ⟨rfl,H3⟩));simp [results,results11,go_sem,z]
       ·go_wp2_with fail;rw [p.out];refine qK0 (fun W t z=>?_) q (oQ0 X) b0.tab (fun wq y=>lP0 h0 V Q q B.slt.2 (aG ⟨rfl,H3⟩) y);simp [results,results11,go_sem,z]
theorem gI2 (s:ByteArray) (w:World) (a:s.size<=1000000):
  Calls prog 38 #[.string s,.string ⟨#[10]⟩] w fun e w'=>e=Y (.string (baOf (oG0 s.data.toList)))/\w'=w:=
 Any.strings_TrimSuffix iF1 s ⟨#[10]⟩ w o7
theorem rP1 (d:Array UInt8) (a b:Nat):(d.extract a b).toList=(d.toList.drop a).take (b - a):=by
 rw [Array.toList_extract,List.extract_eq_take_drop]
theorem cQ2 (s:ByteArray) (i:Nat):s.extract 0 i=baOf (s.data.toList.take i):=by
 apply ByteArray.ext;rw [ByteArray.data_extract];apply Array.ext';rw [rP1];rfl
theorem cR2 (s:ByteArray) (i:Nat):s.extract i s.size=baOf (s.data.toList.drop i):=by
 apply ByteArray.ext;rw [ByteArray.data_extract];apply Array.ext';rw [rP1,List.take_of_length_le]
 ·rfl
 ·rw [List.length_drop,Array.length_toList];exact lR7
theorem rQ1 (s:ByteArray) (w:World):Calls prog 138 #[.string s,.string ⟨#[10]⟩] w fun e w'=>e=Y (U G (Lib.indexByte s.data.toList 10))/\w'=w:=
 Any.stringslite_Index_one (ρ:=ds_lays143_ren) { iE1 with } s 10 w
theorem rR1 (s:ByteArray) (w:World) (q:s.size<=1000000):
  Calls prog 83 #[.string s,.string ⟨#[10]⟩] w fun e w'=>e=Y (.tuple #[.string (baOf (iH0 s.data.toList).1),.string (baOf (iH0 s.data.toList).2.1),.bool (iH0 s.data.toList).2.2])/\Below w.heap.size w w':=by
 rcases tO0 s.data.toList with ⟨hi,a⟩ | ⟨i,hi,c,a⟩
 ·rw [a];have b:=hid7 hi;clear hi a;go_enter func83,ntmps83;go_wp2_with fail;refine (rQ1 s w).mono ?_;rintro e w1 ⟨rfl,d⟩;subst d;rw [b.out];go_wp2_with fail;refine bodyPost_ret (v:=.tuple #[.string (baOf s.data.toList),.string (baOf []),.bool false]) (by simp [results,results83,go_sem,baOf]) rfl ⟨rfl,aF _ _⟩
 ·rw [a]
  have f:i<s.size:=by
   have:s.data.toList.length=s.size:=Array.length_toList;omega
  have h0:(0:Int)<=(i:Int):=o7;have b:=hid7 hi;clear hi a c;go_enter func83,ntmps83;go_wp2_with fail;refine (rQ1 s w).mono ?_;rintro e w1 ⟨rfl,d⟩;subst d;rw [b.out];go_wp2_with fail;have g:IntKind.i64.wrap ((i:Int)+1)=(i:Int)+1:=IntWalk.i64_in _ o7;have j:(0:Int)<=(i:Int)+1:=o7;have k:((i:Int)+1).toNat=i+1:=o7;have l:i+1<=s.size:=o7;have m:i<=s.size:=o7;have n:¬((s.size:Int)<(i:Int)+1):=o7;have o:¬((s.size:Int)<(i:Int)):=o7;have p:¬((i:Int)+1<0):=o7;go_region;go_wp2_with fail;rw [cQ2 s i,cR2 s (i+1)];exact bodyPost_ret (v:=.tuple #[.string (baOf (s.data.toList.take i)),.string (baOf (s.data.toList.drop (i+1))),.bool true]) (by simp [results,results83,go_sem]) rfl ⟨rfl,(aF _ _).drew⟩
theorem iI2 (s:ByteArray) (w:World) (j:s.size<=1000000):
  Calls prog 39 #[.string s,.string ⟨#[10]⟩] w fun e w'=>e=Y (.tuple #[.string (baOf (iH0 s.data.toList).1),.string (baOf (iH0 s.data.toList).2.1),.bool (iH0 s.data.toList).2.2])/\Below w.heap.size w w':=by
 have d:=rR1 s w j;generalize iH0 s.data.toList=c at d ⊢;obtain ⟨a,b,f⟩:=c;go_enter func39,ntmps39;go_wp2_with fail;refine d.mono ?_;rintro e w1 ⟨rfl,g⟩;clear d;have i:=hid7 g;clear g;go_wp2_with fail;exact bodyPost_ret (v:=.tuple #[.string (baOf a),.string (baOf b),.bool f]) (by simp [results,results39,go_sem]) rfl ⟨rfl,i.out⟩
attribute [local go_sem] Oper.semAt_some
attribute [local go_sem ↓] Go.wp_at_zero Go.wp_at_succ
def mT0 (t:ByteArray):List ByteArray:=(tP0 t.data.toList).map baOf
theorem cS2 (t:ByteArray) (w:World):Calls prog 9 #[.string t] w fun e w'=>e=Y (.func (.func 37) #[] #[E (some ⟨w.heap.size,0,none⟩)])/\w'=w.alloc (R #[.string t] 9):=by
 have b:∀(a:Fn) (first cap:Array Value) (w:World),(Instr.makeFunc a first cap).run prog w=.ok (.func a first cap) w:=fun _ _ _ _=>rfl
 go_enter func9,ntmps9;go_wp2_with fail;go_ret;exact ⟨rfl,rfl⟩
def cT2:Value->Value->Nat
 | .string s,.bool true=>s.size+1
 | _,_=>0
theorem cU2 (n:Nat) (V:1<=n) (l I:Nat) (t:ByteArray) (X:t.size<=30000) (J:List ByteArray->World->Prop) (E:∀d W W',J d W->Below W.heap.size W W'->J d W')
  (G:∀d x rest W,J d W->mT0 t=d++x::rest->YieldAt Fence.wide (n - 1) prog l #[.string x] W fun e W'=>e=.returned (.bool true)/\J (d++[x]) W') (W:World) (h0:J [] W)
  (H:W.cell? ⟨I,0,none⟩=some (.string t)):
  CallsIn Fence.wide n prog 37 #[.func (.yield l) #[] #[],.pointer (some ⟨I,0,none⟩)] W fun e W'=>(∃v,e=.returned v)/\J (mT0 t) W':=by
 refine callsIn_of_wp func37 rfl trivial ?_;simp only [ntmps37,List.size_toArray,aZ,cU,Nat.reduceAdd,Nat.reduceSub,Array.replicate_succ,Array.replicate_zero,List.push_toArray,List.append_toArray,List.nil_append,List.cons_append];have L:=hid7 E;have N:=hid7 G;clear E G
 gi_wp2_with fail
 refine ⟨trivial,?_⟩;refine (callsIn_wide.2 (gI2 t W o7)).mono ?_;rintro e S ⟨rfl,P⟩;subst P
 gi_wp2_with fail
 have M:Hid ((oG0 t.data.toList).length<=30000):=by
  show (oG0 t.data.toList).length<=30000;have h1:=gX1 t.data.toList;have B:t.data.toList.length=t.size:=Array.length_toList;omega
 gi_loopw [3,4] (fun r m wr=>∃(s:List UInt8) (b:Bool) (d:List ByteArray),r=.string (baOf s)/\m=.bool b/\s.length<=30000/\J d wr/\mT0 t=d++(if b=true then (bH0 s).map baOf else []))
  (fun r m _=>cT2 r m)
 case atStart=>exact ⟨oG0 t.data.toList,true,[],rfl,rfl,M.out,h0,rfl⟩
 case round=>
  obtain ⟨s,b,d,rfl,rfl,O,i,y⟩:=hrel;have j:=hid7 i;cases b with
  | false=>
   have q:Hid (mT0 t=d):=by show _=_;rw [y];simp
   clear y i h0 H
   gi_wp2_with fail
   go_end0;exact ⟨⟨_,rfl⟩,by rw [q.out];exact j.out⟩
  | true=>
   have hcut:=tM0 s;have g:=bB1 s
   have z:=iI2 (baOf s) wr (by
    have:(baOf s).size=s.length:=rfl;omega)
   rw [show (baOf s).data.toList=s from rfl] at z;generalize iH0 s=c at hcut g z;obtain ⟨a,w,f⟩:=c
   have q:Hid (mT0 t=d++baOf a::(if f=true then (bH0 w).map baOf else [])):=by
    show _=_;rw [y,aB rfl,hcut];cases f <;> simp
   have k:=hid7 g;clear hcut g y i h0 H
   gi_wp2_with fail
   refine ⟨trivial,?_⟩;refine (callsIn_wide.2 z).mono ?_;rintro e R ⟨rfl,p⟩;obtain ⟨U,K,u,C,Q,F⟩:=N.out d (baOf a) _ R (L.out _ _ _ j.out p) q.out;clear z p
   gi_wp2
   refine F.mono ?_;rintro e T ⟨rfl,o⟩;have A:Hid _:=o;clear o Q F
   gi_wp2
   go_roundw
   case rel=>exact ⟨w,f,d++[baOf a],rfl,rfl,by have:=k.out;omega,A.out,by rw [q.out];simp⟩
   case measure=>
    have h1:cT2 (.string (baOf s)) (.bool true)=s.length+1:=rfl
    have B:cT2 (.string (baOf w)) (.bool f)<=(if f=true then w.length+1 else 0):=by
     cases f
     ·exact lR7
     ·exact lR7
    have D:=k.out;rw [h1];cases f
    ·simp at B D ⊢;omega
    ·simp at B D ⊢;omega
end
section
open Go.RowKit Go.Shelf
section
variable {P:Program} {n:Nat}
theorem kW1 {g:Operand} {H:Array Tmp} {c j:Code} {Q:Exit->Act->World->Prop} {a:Act} (h1:1<=n) {gf:Nat} {lb:Array Value} (hg:a.eval g=.func (.func gf) #[] lb) (eg:∀args w,(callFunc gf args).run P w=.ok (.enter gf args) w) (U:H.size=1)
  (L:List ByteArray) (I:List ByteArray->World->Prop)
  (F:∀(J:List ByteArray->World->Prop),(∀b W k,J b W->Below W.heap.size W k->J b k)->
   (∀b x i W,J b W->L=b++x::i->YieldAt Fence.wide (n - 1 - 1) P (w.heap.size+1) #[.string x] W fun e k=>e=.returned (.bool true)/\J (b++[x]) k)->
   ∀W1,Below w.heap.size w W1->J [] W1->CallsIn Fence.wide (n - 1) P gf (#[.func (.yield (w.heap.size+1)) #[] #[]]++lb) W1 fun e k=>(∃v,e=.returned v)/\J L k)
  (hI:∀b W k,I b W->Below W.heap.size W k->I b k)
  (q:∀b W r r',I b W->W.heap[w.heap.size+1]? = some (.loop r)->I b (W.putObj (w.heap.size+1) (.loop r')))
  (h0:∀W1,Below w.heap.size w W1->W1.heap.size=w.heap.size+2->I [] W1)
  (Y:ByteArray->Act)
  (m:∀(x:ByteArray) (W:World) (K:Act->World->Prop),K (Y x) W->c.wpIn (Fence.wide.inRound (w.heap.size+1)) (n - 1 - 1) P (Exit.then K (fun _ _ _=>False)) { tmps:=(H.zip #[.string x]).foldl (fun t (p,v)=>t.setIfInBounds p v) a.tmps,defers:=[] } W)
  (s:∀b x i W,I b W->L=b++x::i->(∃r,W.heap[w.heap.size+1]? = some (.loop r))->W.heap[w.heap.size]? = some (.deferred (some []))->j.wpIn (Fence.wide.inRound (w.heap.size+1)) (n - 1 - 1) P (fun e _ G=>e=.normal/\I (b++[x]) G/\G.heap[w.heap.size+1]? = W.heap[w.heap.size+1]?/\G.heap[w.heap.size]? = W.heap[w.heap.size]?) (Y x) W)
  (u:∀W,I L W->W.heap[w.heap.size]? = some (.deferred (some []))->Q .normal { a with defers:={ target:=.collected w.heap.size,args:=#[] }::a.defers } W):
  (Code.rangeFunc g H c j).wpIn Fence.wide n P Q a w:=by
 refine wpIn_rangeFunc ?_;intro Z R;rw [show Fence.wide.round=none from rfl];obtain ⟨f,d⟩:∃f:LoopState->Option Code->Loop,f=fun st pe=>{ state:=st,pending:=pe,fn:=Z,tmps:=a.tmps,params:=H,assign:=c,body:=j,defers:=w.heap.size }:=⟨_,rfl⟩
 obtain ⟨W1,l⟩:∃W1,(w.alloc (.deferred (some []))).alloc (.loop (f .ready none))=W1:=⟨_,rfl⟩
 have N:W1.heap[w.heap.size+1]? = some (.loop (f .ready none)):=by
  rw [<-l];have:=World.alloc_heap_new (w.alloc (.deferred (some []))) (.loop (f .ready none));rwa [World.size_alloc] at this
 have M:W1.heap[w.heap.size]? = some (.deferred (some [])):=by
  rw [<-l];exact (Below.heap_alloc _ _ _ s7).trans (World.alloc_heap_new w _)
 have z:Below w.heap.size w W1:=by
  rw [<-l];exact (((aF _ w).alloc lR7 _).alloc s7 _)
 have V:W1.heap.size=w.heap.size+2:=by rw [<-l];simp
 refine ⟨w.heap.size+1,[{ target:=.collected w.heap.size,args:=#[] }],W1,{ target:=.fn (.func gf) lb,args:=#[.func (.yield (w.heap.size+1)) #[] #[]] },W1,gf,
  #[.func (.yield (w.heap.size+1)) #[] #[]]++lb,W1,?_,?_,?_,?_,fun _=>h1,?_⟩
 ·rw [<-l,d];exact run_enterLoop_outer _ _ _ _ _
 ·simp only [resolve,hg];simp [go_sem]
 ·intro f' a0;exact trivial
 ·simp [invoke,go_sem,eg]
 ·refine (F (fun b W=>I b W/\W.heap[w.heap.size+1]? = some (.loop (f .ready none))/\W.heap[w.heap.size]? = some (.deferred (some [])))
   (fun b W k E O=>⟨hI b W k E.1 O,(O.block _ (lt_of_block E.2.1)).trans E.2.1,(O.block _ (lt_of_block E.2.2)).trans E.2.2⟩) ?_ W1 z ⟨h0 W1 z V,N,M⟩).mono ?_
  ·rintro b x i W ⟨hi,y,hk⟩ D;have T:=lt_of_block y;have X:=run_yield (P:=P) (args:=#[.string x]) y (by rw [d];exact U.symm);rw [d] at X;refine ⟨Z,_,c,j,X,roundIn_of_wpIn R (m x W _ ?_)⟩;clear X;refine ⟨_,run_beginRound y (by rw [d]),?_⟩;have C:(W.putObj (w.heap.size+1) (.loop { f .ready none with state:=.busy })).heap[w.heap.size+1]? = some (.loop { f .ready none with state:=.busy }):=World.putObj_heap_same T;have A:(W.putObj (w.heap.size+1) (.loop { f .ready none with state:=.busy })).heap[w.heap.size]? = some (.deferred (some [])):=(eH o7).trans hk;refine wpIn_mono (s b x i _ (q _ _ _ _ hi y) D ⟨_,C⟩ A) ?_;rintro e a3 G ⟨rfl,S,o,B⟩;rw [C] at o;rw [A] at B;have hr:=run_endRound (P:=P) none o;refine ⟨_,_,hr,rfl,q _ _ _ _ S o,?_,(eH o7).trans B⟩;rw [World.putObj_heap_same (lt_of_block o),d];rfl
  ·rintro e W2 ⟨⟨v,rfl⟩,hi,y,hk⟩;exact ⟨none,_,by have:=run_endLoop (P:=P) y (by rw [d];simp);rw [d] at this;exact this,u _ (q _ _ _ _ hi y) ((eH o7).trans hk)⟩
end
abbrev BdIs (B O:Nat) (bs:List Value) (w:World):Prop:=Lib.IsBuilderF 36 5 B O bs w
abbrev BdAt (B O:Nat) (bs:List Value) (w:World):Prop:=Lib.BuilderAtF 36 5 B O (E (some ⟨O,0,none⟩)) bs w
def BdW (w:World) (O j:Nat):Prop:=j=O\/∃p v,w.heap[O]? = some (R #[p,v] 36 (0,0))/\v.ownBlock=some j
def BdE (w:World) (O:Nat) (bs:List Value):Prop:=bs=[]->∃p,w.heap[O]? = some (R #[p,J none 0 0] 36 (0,0))
theorem yY1 (B O:Nat) (a:List Value) (w:World) (h:BdIs B O a w):
  Calls prog 40 #[E (some ⟨O,0,none⟩)] w fun e w'=>e=Y (.tuple #[])/\BdAt B O a w'/\(w'=w\/w'=w.setCell ⟨O,0,none⟩ (E (some ⟨O,0,none⟩))):=by
 rcases h with h | h
 ·refine (Any.Builder_copyCheck_fresh (ρ:=ds_lays166_ren) { uU0 with } iJ0.toX72 O w h.cell0 h.shape h.frozen0).mono ?_;rintro e w' ⟨rfl,rfl⟩;exact ⟨rfl,h.used _,aG rfl⟩
 ·refine (Any.Builder_copyCheck_used (ρ:=ds_lays166_ren) { uU0 with } iJ0.toX72 O w h.cell0).mono ?_;rintro e w' ⟨rfl,rfl⟩;exact ⟨rfl,h,aH rfl⟩
theorem wD0 {w':World} {a:Option Nat} (h:w.grownBy w' a):Out (fun j=>a=some j) w w':=⟨h.os,h.tape,h.output,h.size,fun j c b=>h.block j c (fun e=>b e.symm)⟩
theorem yZ1 {g w3:World} {p:Value} {i:List Value} {B:Nat} (h:BdIs B O i w) (b:w1=w\/w1=w.setCell ⟨O,0,none⟩ (E (some ⟨O,0,none⟩))) (d:w1.heap[O]? = some (R #[p,v] 36 (0,0))) (n:Out (fun j=>v.ownBlock=some j) w1 g) (m:Out (fun j=>j=O) g w3):Out (BdW w O) w w3:=by
 have o:∀j,v.ownBlock=some j->BdW w O j:=fun j c=>by
  rcases b with e | e
  ·rw [e] at d;exact aG ⟨p,v,d,c⟩
  ·obtain ⟨f,v0,h0⟩:∃f v0,w.heap[O]? = some (R #[f,v0] 36 (0,0)):=by
    rcases h with ⟨_,v0,h0,_⟩ | ⟨_,v0,h0,_⟩
    ·exact ⟨_,v0,h0⟩
    ·exact ⟨_,v0,h0⟩
   have h1:=aJ0 (j:=0) (E (some ⟨O,0,none⟩)) h0;rw [<-e,d] at h1;injection h1 with h1;injection h1 with h1 _ _
   have l:v=v0:=by
    have:=congrArg (fun a:Array Value=>a[1]?) h1
    simpa using this
   exact aG ⟨f,v0,h0,l ▸ c⟩
 have q:Out (fun j=>j=O) w w1:=by
  rcases b with e | e
  ·rw [e];exact Out.refl _ _
  ·rw [e];exact aM0 w ⟨O,0,none⟩ _
 exact ((q.mono fun j c=>(aH c:BdW w O j)).trans n fun k hk=>aH (o k hk)).trans m fun k hk=>aH (aH hk)
theorem wE0 {p d v':Value} (c:w1=w\/w1=w.setCell ⟨O,0,none⟩ (E (some ⟨O,0,none⟩))) (h0:w.heap[O]? = some (R #[p,v'] 36 (0,0))) (b:w1.heap[O]? = some (R #[d,v] 36 (0,0))):v=v':=by
 rcases c with e | e
 ·rw [e,h0] at b;injection b with h1;injection h1 with h1 _ _;have:=congrArg (fun a:Array Value=>a[1]?) h1
  simpa using this.symm
 ·have h1:=aJ0 (j:=0) (E (some ⟨O,0,none⟩)) h0;rw [<-e,b] at h1;injection h1 with h1;injection h1 with h1 _ _;have:=congrArg (fun a:Array Value=>a[1]?) h1
  simpa using this
theorem infoU8:(prog.info? 5).map (fun i=>(i.zero,i.size,i.bytes))=some (some (.int .u8 0),1,1):=k7
theorem xB1 (B O:Nat) (k:List Value) (s:ByteArray) (w:World) (h:BdIs B O k w) (F:k.length+s.size<=1000000000) (Q:B<=w.heap.size):
  Calls prog 10 #[E (some ⟨O,0,none⟩),.string s] w fun e w'=>e=Y (.tuple #[U G s.size,.nilIface])/\BdAt B O (k++Lib.strCells s) w'/\Out (BdW w O) w w'/\(BdE w O k->BdE w' O (k++Lib.strCells s)):=by
 obtain ⟨X,hi,z,A,C⟩:=info_parts infoU8;have H:=hid7 h;clear h;go_enter func10,ntmps10;go_wp2_with fail;refine (yY1 B O k w H.out).mono ?_;rintro e w1 ⟨rfl,h1,l⟩;have n:Hid _:=l;have W:w.heap.size<=w1.heap.size:=by rcases l with e | e <;> rw [e] <;> simp
 obtain ⟨P,v,f,o,x⟩:=h1;have L:w1.cell? ⟨O,0,none⟩=some (E (some ⟨O,0,none⟩)):=aA0 (j:=0) f rfl;have M:w1.cell? ⟨O,1,none⟩=some v:=aA0 (j:=1) f rfl;have d:Hid _:=f;clear l f;go_wp2_with (at_builtin;refine Lib.wpList_append_own_stringF _ rfl _ _ 34 9 rfl B 5 X underlying34 underlying9 hi z A C _ _ _ rfl o s rfl ?c3 ?c4 ?c5 ?_)
 case c3=>unfold maxLen;omega
 case c4=>omega
 case c5=>omega
 intro v' q b a i;have t:Hid _:=i;clear i;have c:q.heap[O]? = some (R #[E (some ⟨O,0,none⟩),v] 36 (0,0)):=(a.block O (lt_of_block d.out) (fun e=>x e.symm)).trans d.out;have d0:q.cell? ⟨O,0,none⟩=some (E (some ⟨O,0,none⟩)):=aA0 (j:=0) c rfl;have d1:q.cell? ⟨O,1,none⟩=some v:=aA0 (j:=1) c rfl;have f1:=aB0 (j:=1) c
 obtain ⟨D,I,cap,rfl⟩:∃D I cap,v'=J D I cap:=by
  rcases b.2 with ⟨y,_⟩ | ⟨g,cap,N,fz,y,_⟩
  ·exact ⟨_,_,_,y⟩
  ·exact ⟨_,_,_,y⟩
 have u:Hid _:=b;have r:=hid7 (wD0 a);have m:Hid _:=c;clear b a c L M;go_wp2;go_ret2;refine ⟨rfl,?_,yZ1 H.out n.out d.out r.out (aM0 q ⟨O,1,none⟩ _),fun S h0=>?_⟩;rotate_left
 ·have Z:=(List.append_eq_nil_iff.1 h0).1;have K:s.size=0:=by have:=congrArg List.length (List.append_eq_nil_iff.1 h0).2;rwa [Lib.strCells_length] at this
  obtain ⟨p,V⟩:=S Z;have q3:=wE0 n.out V d.out;have q5:=ByteArray.size_eq_zero_iff.1 K;rw [t.out.2 ⟨q3,by first | exact q5 | exact K⟩];exact ⟨_,aJ0 (j:=1) _ m.out⟩
 exact Lib.BuilderAtF.put (T:=36) (e:=5) P m.out (bs':=k++Lib.strCells s) (by rw [aN,Lib.strCells_length];exact u.out) d7
theorem xC1 (B O:Nat) (m:List Value) (c:Int) (w:World) (h:BdIs B O m w) (F:m.length+1<=1000000000) (N:B<=w.heap.size):
  Calls prog 12 #[E (some ⟨O,0,none⟩),.int .u8 c] w fun e w'=>e=Y .nilIface/\BdAt B O (m++[.int .u8 c]) w'/\Out (BdW w O) w w':=by
 obtain ⟨Q,hi,z,A,C⟩:=info_parts infoU8;have H:=hid7 h;clear h;go_enter func12,ntmps12;go_wp2_with fail;refine (yY1 B O m w H.out).mono ?_;rintro e w1 ⟨rfl,h1,k⟩;have t:Hid _:=k;have P:w.heap.size<=w1.heap.size:=by rcases k with e | e <;> rw [e] <;> simp
 obtain ⟨M,v,f,n,x⟩:=h1;have K:w1.cell? ⟨O,0,none⟩=some (E (some ⟨O,0,none⟩)):=aA0 (j:=0) f rfl;have c1:w1.cell? ⟨O,1,none⟩=some v:=aA0 (j:=1) f rfl;have i:Hid _:=f;clear k f;have l:Hid (Below w1.heap.size w1 (w1.alloc (R #[.int .u8 c] 5))):=bel1 w1 _;go_wp2_with (at_builtin;refine wpList_append_ownF _ rfl _ _ 34 rfl B 5 Q (.int .u8 0) 1 1 underlying34 hi z A C rfl d7 _ _ _ rfl (n.alloc _) ⟨w1.heap.size,0,none⟩ 1 1 [.int .u8 c] rfl rfl ?c1 ?c2 ?c3 ?c4 ?c5 ?_)
 case c1=>
  intro j u p
  match j,p with
  | 0,p=>simp at p;subst p;simp [Addr.add]
 case c2=>intro u G;simp at G;subst G;rfl
 case c3=>unfold maxLen;omega
 case c4=>omega
 case c5=>simp;omega
 intro v' o b a _;have d:o.heap[O]? = some (R #[E (some ⟨O,0,none⟩),v] 36 (0,0)):=(a.block O (by have:=lt_of_block i.out;simp;omega) (fun e=>x e.symm)).trans (aE0 i.out l.out lR7);have S:o.cell? ⟨O,0,none⟩=some (E (some ⟨O,0,none⟩)):=aA0 (j:=0) d rfl;have U:o.cell? ⟨O,1,none⟩=some v:=aA0 (j:=1) d rfl;have V:=aB0 (j:=1) d
 obtain ⟨D,I,cap,rfl⟩:∃D I cap,v'=J D I cap:=by
  rcases b.2 with ⟨y,_⟩ | ⟨g,cap,L,W,y,_⟩
  ·exact ⟨_,_,_,y⟩
  ·exact ⟨_,_,_,y⟩
 have s:Hid _:=b;have r:Hid (Out (fun j=>v.ownBlock=some j) w1 o):=(aL l.out lR7).trans (wD0 a) (Went.refl _ _);have q:Hid _:=d;clear b a d K c1;go_wp2;go_ret;refine ⟨rfl,?_,yZ1 H.out t.out i.out r.out (aM0 o ⟨O,1,none⟩ _)⟩;exact Lib.BuilderAtF.put (T:=36) (e:=5) M q.out (bs':=m++[.int .u8 c]) (by rw [aN,List.length_singleton];exact s.out) d7
theorem oR0 {W:World} {B j:Nat} {l:List UInt8} (h:BdIs B O (Lib.byteCells l) W) (r:BdE W O (Lib.byteCells l)) (i:BdW W O j):j=O\/((∃a f,W.heap[j]? = some (R a 5 f))/\∃z,W.cell? ⟨j,0,none⟩=some (.int .u8 z)):=by
 rcases i with i | ⟨p,v,k,b⟩
 ·exact aH i
 ·right
  have d:W.ownsRowF B 5 1 v (Lib.byteCells l).length (Lib.byteCells l):=by
   rcases h with ⟨_,v0,h0,h1,_⟩ | ⟨_,v0,h0,h1,_⟩
   ·rw [wE0 (aH rfl) h0 k];exact h1
   ·rw [wE0 (aH rfl) h0 k];exact h1
  cases l with
  | nil=>
   obtain ⟨t,m⟩:=r rfl;rw [wE0 (aH rfl) m k] at b;cases b
  | cons c l=>
   obtain ⟨_,⟨e,_⟩ | ⟨g,o,a,f,e,_,n,_,_,_,_,s⟩⟩:=d
   ·rw [e] at b;cases b
   ·rw [e] at b;obtain rfl:g=j:=by simpa [Value.ownBlock] using b
    refine ⟨⟨a,f,n⟩,c.toNat,?_⟩;have h1:(a.toList.take ((Lib.byteCells (c::l)).length*1))[0]? = some (.int .u8 c.toNat):=by rw [s];rfl
    rw [List.getElem?_take] at h1;split at h1
    ·have q:a[0]? = some (.int .u8 c.toNat):=by rw [<-h1];simp
     simp [World.cell?,n,q]
    ·cases h1
theorem DsIs.bdw {W N:World} {B O lo sb n:Nat} {x:DsK} {H:DsS} {l:List UInt8} (w:DsIs W lo sb x H n) (h:BdIs B O (Lib.byteCells l) W) (F:BdE W O (Lib.byteCells l)) (hO:O<lo) (i:Out (BdW W O) W N):DsIs N lo sb x H n:=by
 have K:∃p v,W.heap[O]? = some (R #[p,v] 36 (0,0))/\(p=E none\/p=E (some ⟨O,0,none⟩)):=by
  rcases h with ⟨_,v0,h0,_⟩ | ⟨_,v0,h0,_⟩
  ·exact ⟨_,v0,h0,aH rfl⟩
  ·exact ⟨_,v0,h0,aG rfl⟩
 obtain ⟨p,v,S,A⟩:=K;have P:W.cell? ⟨O,0,none⟩=some p:=aA0 (j:=0) S rfl
 have D:∀{j:Nat} {c:Array Value} {t:TypeId} {f:Nat×Nat},W.heap[j]? = some (R c t f)->t≠5->t≠36->¬BdW W O j:=fun {j c t f} g h1 o m=>by
  rcases oR0 h F m with e | ⟨⟨I,T,d⟩,_⟩
  ·rw [e,S] at g;injection g with g;injection g with _ g _;exact o g.symm
  ·rw [g] at d;injection d with d;injection d with _ d _;exact h1 d
 refine ⟨aF0 w.box i (D w.box d7 d7),⟨w.slt.1,aI w.slt.2 i.size⟩,fun h0=>?_,fun M Z=>?_⟩
 ·obtain ⟨tb,h1,o,V,X,Y,cs,f,Q⟩:=w.rows h0;have y:=D Q d7 d7;exact ⟨tb,h1,cX0 o i y,V,X,Y,cs,f,aF0 Q i y⟩
 ·obtain ⟨h1,o⟩:=w.eg M Z;refine ⟨h1.outT i (fun j s m=>?_) ⟨?_,fun j u s=>?_⟩,o⟩
  ·rcases oR0 h F m with e | ⟨⟨I,T,d⟩,_⟩
   ·have:=o.2.1 j s;omega
   ·exact h1.farU s _ _ _ (aH rfl) d
  ·refine cH0 h1.tab.1 i fun m=>?_
   have C:=h1.tab.1;rcases oR0 h F m with e | ⟨_,z,L⟩
   ·have J:x.k.tb=O:=e;rw [J,P] at C;rcases A with q | q <;> rw [q] at C <;> cases C
   ·rw [L] at C;cases C
  ·have b:=h1.tab.2;refine cH0 (b j u s) i fun m=>?_
   have a:∃z,W.cell? ⟨x.k.cb,0,none⟩=some (U G z):=by
    cases hrs:M.rs with
    | nil=>rw [hrs] at s;exact absurd s (by simp [flat])
    | cons r rs=>
     have:=b 0 (U G r.1) (by rw [hrs];rfl);exact ⟨r.1,this⟩
   obtain ⟨z0,a⟩:=a;rcases oR0 h F m with e | ⟨_,z,L⟩
   ·have J:x.k.cb=O:=e;rw [J,P] at a;rcases A with q | q <;> rw [q] at a <;> cases a
   ·rw [L] at a;cases a
end
end Go.Proofs.YtaelphbianmckaaGreatDoor
