/- A part of the proof of EnginePlays. -/
import Derived.Test.YtjdkagafdnchhaaGreatDoorPA
import Derived.Test.YtjdkagafdnchhaaGreatDoorPI
import Derived.Lib.ReflectliteSlice
import Derived.Lib.ReflectliteSwap
import Derived.Test.YtjdkagafdnchhaaGreatDoorPF
namespace Go.Proofs.YtjdkagafdnchhaaGreatDoor
open Go.RowKit
theorem kA1 {s m e x:Nat} (h:s=m∨e=m) (h1:s≤m) (h2:m≤e):roI s m e x=x:=by
 unfold roI
 (repeat' split) <;> omega
def SymC (g sf:Nat) (lb sb:Array Value) (w0:World) (blk C N:Nat) (el:Nat→List Value) (key:Nat→Int) (d:Nat):Prop:=
 ∀(w:World) (a m b:Nat) (t:Nat→Nat),b - a≤d→Mv w0 w blk C N el t→a<m→m<b→b≤N→Srt key t a m→Srt key t m b→Apt t a m b→
  Calls Tryz.prog 178 #[.agg #[.func (.func g) #[] lb,.func (.func sf) #[] sb],.int .i64 a,.int .i64 m,.int .i64 b] w fun e w'=>e=.returned (.tuple #[])∧∃t',Mv w w' blk C N el t'∧Rea a b t t'∧Srt key t' a b
theorem uP0 {key:Nat→Int} {t:Nat→Nat} {a s m e b c:Nat} (h1:Srt key t a m) (h2:Srt key t m b) (hap:Apt t a m b) (has:a≤s) (hsm:s≤m) (hme:m≤e) (heb:e≤b) (hc:c=s+(e - m))
  (hlo:s=a∨e=b∨key (t (s - 1))≤key (t e)) (hhi:s=m∨e=m∨key (t (e - 1))<key (t s)):
  (Srt key (fun x=>t (roI s m e x)) a s∧Srt key (fun x=>t (roI s m e x)) s c∧Apt (fun x=>t (roI s m e x)) a s c)
  ∧(¬(a<s∧s<c)→Srt key (fun x=>t (roI s m e x)) a c)
  ∧(∀u,Rea a c (fun x=>t (roI s m e x)) u→Srt key u c e∧Srt key u e b∧Apt u c e b)
  ∧(¬(c<e∧e<b)→∀u,Rea a c (fun x=>t (roI s m e x)) u→Srt key u c b)
  ∧∀u u',Rea a c (fun x=>t (roI s m e x)) u→Rea c b u u'→Srt key u a c→Srt key u' c b→Rea a b t u'∧Srt key u' a b:=by
 subst hc;obtain ⟨p1,p2,p3,p4,p5,p6,p7⟩:=mU1 h1 h2 hap has hsm hme heb hlo hhi;have keep:∀u,Rea a (s+(e - m)) (fun x=>t (roI s m e x)) u→∀x,s+(e - m)≤x→u x=t (roI s m e x):=fun u hu x hx=>hu.out (Or.inr hx)
 refine ⟨⟨p1,p2,p3⟩,fun hn=>?_,fun u hu=>⟨p4.congr (fun x hx _=>keep u hu x hx),p5.congr (fun x hx _=>keep u hu x (by omega)),fun x y hx hxs hy hyb=>?_⟩,fun hn u hu=>?_,fun u u' hu hu' s1 s2=>?_⟩
 ·by_cases hs:s=a
  ·rw [hs] at p2 ⊢;exact p2
  ·have:e=m:=by omega
   subst this
   simpa using p1
 ·rw [keep u hu x hx,keep u hu y (by omega)];exact p6 x y hx hxs hy hyb
 ·by_cases he:e=b
  ·exact (p4.congr (fun x hx _=>keep u hu x hx)).sub lR7 (by omega)
  ·have:s+(e - m)=e:=by omega
   rw [this];exact p5.congr (fun x hx _=>keep u hu x (by omega))
 ·have s3:Srt key u' a (s+(e - m)):=s1.congr (fun x _ hx=>hu'.out (Or.inl hx));have:=jX1 (t:=fun x=>t (roI s m e x)) (t':=u') (a:=a) (c:=s+(e - m)) (b:=b) ⟨by omega,by omega⟩ p7 ⟨u,hu,hu'⟩ s3 s2;exact ⟨((rJ1 t hsm hme).mono has heb).trans this.2,this.1⟩
set_option maxRecDepth 4000 in
set_option maxHeartbeats 8000000 in
theorem oS1 (g sf:Nat) (lb sb:Array Value) (w0 w:World) (blk C N a m b d:Nat) (el:Nat→List Value) (t:Nat→Nat) (key:Nat→Int) (eg:∀args w,(callFunc g args).run Tryz.prog w=.ok (.enter g args) w) (hel:∀x,(el x).length=5) (hS:iJ0 Tryz.prog sf sb blk C N el)
  (hL:iI0 Tryz.prog g lb w0 blk C N el key) (h:Mv w0 w blk C N el t) (hN:N≤1000) (ham:a+1<m) (hmb:m+1<b) (hb:b≤N) (hs1:Srt key t a m) (hs2:Srt key t m b) (hap:Apt t a m b) (hd:b - a≤d+1) (hC:SymC g sf lb sb w0 blk C N el key d):
  Calls Tryz.prog 178 #[.agg #[.func (.func g) #[] lb,.func (.func sf) #[] sb],.int .i64 a,.int .i64 m,.int .i64 b] w fun e w'=>e=.returned (.tuple #[])∧∃t',Mv w w' blk C N el t'∧Rea a b t t'∧Srt key t' a b:=by
 have H0:Hid (Mv w (w.alloc (boxT g sf lb sb)) blk C N el t):=(Mv.start h.row).below ((Below.refl _ _).alloc lR7 _) lR7;have HB:Hid ((w.alloc (boxT g sf lb sb)).heap[w.heap.size]? = some (boxT g sf lb sb)):=heap_alloc_new w _;have HN:Hid (w.heap.size≠blk):=fun e=>by have:=h.row.lt;omega
 have HS:Hid (iJ0 Tryz.prog sf sb blk C N el):=hS;have HL:Hid (iI0 Tryz.prog g lb w0 blk C N el key):=hL;have HM0:Hid (Mv w0 w blk C N el t):=h;have HI:Hid (Srt key t a m∧Srt key t m b∧Apt t a m b):=⟨hs1,hs2,hap⟩;have HC:Hid (SymC g sf lb sb w0 blk C N el key d):=hC;have ht:((m:Int) - a == 1)=false:=beq_eq_false_iff_ne.2 (by omega);have ht2:((b:Int) - m == 1)=false:=beq_eq_false_iff_ne.2 (by omega);obtain ⟨c,hc⟩:∃c:Nat,(c:Int)=((a:Int)+b) / 2:=⟨(a+b) / 2,by omega⟩;have HCC:Hid ((c:Int)=((a:Int)+b) / 2):=hc;have k1:a+b≤2*c+1:=by omega
 have k2:2*c≤a+b:=by omega
 have hc':((a:Int)+b) / 2=c:=hc.symm;clear h hS hL hs1 hs2 hap hC hc
 by_cases hmm:c<m
 ·go_enter Tryz.func178,Tryz.ntmps178;go_wp2_with fail;go_loopw [18,19] (fun vs vr wr=>∃s r:Nat,c+m - b≤s∧s≤r∧r≤c∧vs=.int .i64 s∧vr=.int .i64 r∧Mv w wr blk C N el t∧wr.heap[w.heap.size]? = some (boxT g sf lb sb)∧(s=c+m - b∨key (t (s - 1))≤key (t (c+m - s)))∧(r=c∨key (t (c+m - 1 - r))<key (t r))) (fun vs vr _=>(intOf vr).toNat - (intOf vs).toNat)
  case atStart=>exact ⟨c+m - b,c,lR7,by omega,lR7,by go_num,by go_num,H0.out,HB.out,Or.inl rfl,Or.inl rfl⟩
  case round=>
   obtain ⟨s,r,hls,hsr,hrh,rfl,rfl,hm,hbx,hlo,hhi⟩:=hrel;have HM:Hid _:=hm;have HX:Hid (wr.heap[w.heap.size]? = some (boxT g sf lb sb)):=hbx;have HLO:Hid (s=c+m - b∨key (t (s - 1))≤key (t (c+m - s))):=hlo;have HHI:Hid (r=c∨key (t (c+m - 1 - r))<key (t r)):=hhi;have c0:wr.cell? ⟨w.heap.size,0,none⟩=some (.func (.func g) #[] lb):=(cell_of_row wr w.heap.size 0 _ _ (0,0) hbx).trans rfl;have c1:wr.cell? ⟨w.heap.size,1,none⟩=some (.func (.func sf) #[] sb):=(cell_of_row wr w.heap.size 1 _ _ (0,0) hbx).trans rfl;clear hm hbx hlo hhi H0 HB
   by_cases hi1:s<r
   ·obtain ⟨q,hq⟩:∃q:Nat,(q:Int)=((s:Int)+r) / 2:=⟨(s+r) / 2,by omega⟩;have k3:s+r≤2*q+1:=by omega
    have k4:2*q≤s+r:=by omega
    have hq':((s:Int)+r) / 2=q:=hq.symm;clear hq
    by_cases hlv:key (t (c+m - 1 - q))<key (t q)
    ·have HLL:Hid (Calls Tryz.prog g (#[.int .i64 ((c:Int)+m - 1 - q),.int .i64 (q:Int)]++lb) wr fun e W'=>e=.returned (.bool true)∧Below wr.heap.size wr W'):=HL.out.at (HM0.out.trans HM.out) (i:=c+m - 1 - q) (j:=q) (by omega) (by omega) (by omega) rfl rfl rfl (decide_eq_true hlv);have HLV:Hid (key (t (c+m - 1 - q))<key (t q)):=hlv;clear hlv;go_wp2_with fail;refine HLL.out.mono ?_;rintro e w5 ⟨rfl,hb5⟩;have HM5:Hid _:=HM.out.below hb5 lR7;have HX5:Hid (w5.heap[w.heap.size]? = some (boxT g sf lb sb)):=(hb5.block _ (lt_of_block HX.out)).trans HX.out;clear hb5 c0 c1 HLL;go_wp2_with fail;go_roundw
     case rel=>exact ⟨s,q,hls,by omega,by omega,rfl,by go_num,HM5.out,HX5.out,HLO.out,Or.inr HLV.out⟩
     case measure=>simp [intOf];omega
    ·have HLL:Hid (Calls Tryz.prog g (#[.int .i64 ((c:Int)+m - 1 - q),.int .i64 (q:Int)]++lb) wr fun e W'=>e=.returned (.bool false)∧Below wr.heap.size wr W'):=HL.out.at (HM0.out.trans HM.out) (i:=c+m - 1 - q) (j:=q) (by omega) (by omega) (by omega) rfl rfl rfl (decide_eq_false hlv);have HLV:Hid (key (t q)≤key (t (c+m - 1 - q))):=(show key (t q)≤key (t (c+m - 1 - q)) by omega);clear hlv;go_wp2_with fail;refine HLL.out.mono ?_;rintro e w5 ⟨rfl,hb5⟩;have HM5:Hid _:=HM.out.below hb5 lR7;have HX5:Hid (w5.heap[w.heap.size]? = some (boxT g sf lb sb)):=(hb5.block _ (lt_of_block HX.out)).trans HX.out;clear hb5 c0 c1 HLL;go_wp2_with fail;go_roundw
     case rel=>exact ⟨q+1,r,by omega,by omega,hrh,by go_num,rfl,HM5.out,HX5.out,Or.inr (by rw [show q+1 - 1=q by omega,show c+m - (q+1)=c+m - 1 - q by omega];exact HLV.out),HHI.out⟩
     case measure=>simp [intOf];omega
   ·obtain rfl:s=r:=by omega
    obtain ⟨f,hf⟩:∃f:Nat,(f:Int)=(c:Int)+m - s:=⟨c+m - s,by omega⟩;have hf':(c:Int)+m - s=f:=hf.symm;have k5:f+s=c+m:=by omega
    clear hf
    have PL:Hid _:=uP0 (key:=key) (t:=t) (a:=a) (s:=s) (m:=m) (e:=f) (b:=b) (c:=c) HI.out.1 HI.out.2.1 HI.out.2.2 (by omega) (by omega) (by omega) (by omega) (by omega)
     (by rcases HLO.out with h | h
         ·omega
         ·right;right;rwa [show f=c+m - s by omega])
     (by rcases HHI.out with h | h
         ·omega
         ·right;right;rwa [show f - 1=c+m - 1 - s by omega])
    clear HLO HHI
    by_cases g1:s<m∧m<f
    ·by_cases g2:a<s∧s<c
     ·by_cases g3:c<f∧f<b
      ·go_wp2_with fail;refine (fK0 g sf lb sb wr blk C N s m f el t hel HS.out HM.out.row hN g1.1 g1.2 (by omega)).mono ?_;rintro e w6 ⟨rfl,h6⟩;have M6:Hid (Mv w w6 blk C N el (fun x=>t (roI s m f x))):=HM.out.trans h6;have hx6:=(h6.block _ (lt_of_block HX.out) HN.out).trans HX.out;have X6:Hid (w6.heap[w.heap.size]? = some (boxT g sf lb sb)):=hx6;clear c0 c1 h6;have c0:w6.cell? ⟨w.heap.size,0,none⟩=some (.func (.func g) #[] lb):=(cell_of_row w6 w.heap.size 0 _ _ (0,0) hx6).trans rfl;have c1:w6.cell? ⟨w.heap.size,1,none⟩=some (.func (.func sf) #[] sb):=(cell_of_row w6 w.heap.size 1 _ _ (0,0) hx6).trans rfl;clear hx6;go_wp2_with fail;refine (HC.out w6 a s c _ (by omega) (HM0.out.trans M6.out) g2.1 g2.2 (by omega) PL.out.1.1 PL.out.1.2.1 PL.out.1.2.2).mono ?_;rintro e w7 ⟨rfl,u,h7,r7,s7⟩;have M7:Hid (Mv w w7 blk C N el u):=M6.out.trans h7;have hx7:=(h7.block _ (lt_of_block X6.out) HN.out).trans X6.out;have X7:Hid (w7.heap[w.heap.size]? = some (boxT g sf lb sb)):=hx7;have R7:Hid (Rea a c (fun x=>t (roI s m f x)) u):=r7;have S7:Hid (Srt key u a c):=s7;clear c0 c1 h7 r7 s7;have c0:w7.cell? ⟨w.heap.size,0,none⟩=some (.func (.func g) #[] lb):=(cell_of_row w7 w.heap.size 0 _ _ (0,0) hx7).trans rfl;have c1:w7.cell? ⟨w.heap.size,1,none⟩=some (.func (.func sf) #[] sb):=(cell_of_row w7 w.heap.size 1 _ _ (0,0) hx7).trans rfl;clear hx7;go_wp2_with fail;refine (HC.out w7 c f b _ (by omega) (HM0.out.trans M7.out) g3.1 g3.2 (by omega) (PL.out.2.2.1 _ R7.out).1 (PL.out.2.2.1 _ R7.out).2.1 (PL.out.2.2.1 _ R7.out).2.2).mono ?_;rintro e w8 ⟨rfl,u',h8,r8,s8⟩;have M8:Hid (Mv w w8 blk C N el u'):=M7.out.trans h8;have FIN:Hid _:=PL.out.2.2.2.2 _ u' R7.out r8 S7.out s8;clear c0 c1 h8 r8 s8;go_wp2_with fail
       all_goals go_end0
       all_goals exact ⟨rfl,u',M8.out,FIN.out⟩
      ·go_wp2_with fail;refine (fK0 g sf lb sb wr blk C N s m f el t hel HS.out HM.out.row hN g1.1 g1.2 (by omega)).mono ?_;rintro e w6 ⟨rfl,h6⟩;have M6:Hid (Mv w w6 blk C N el (fun x=>t (roI s m f x))):=HM.out.trans h6;have hx6:=(h6.block _ (lt_of_block HX.out) HN.out).trans HX.out;have X6:Hid (w6.heap[w.heap.size]? = some (boxT g sf lb sb)):=hx6;clear c0 c1 h6;have c0:w6.cell? ⟨w.heap.size,0,none⟩=some (.func (.func g) #[] lb):=(cell_of_row w6 w.heap.size 0 _ _ (0,0) hx6).trans rfl;have c1:w6.cell? ⟨w.heap.size,1,none⟩=some (.func (.func sf) #[] sb):=(cell_of_row w6 w.heap.size 1 _ _ (0,0) hx6).trans rfl;clear hx6;go_wp2_with fail;refine (HC.out w6 a s c _ (by omega) (HM0.out.trans M6.out) g2.1 g2.2 (by omega) PL.out.1.1 PL.out.1.2.1 PL.out.1.2.2).mono ?_;rintro e w7 ⟨rfl,u,h7,r7,s7⟩;have M7:Hid (Mv w w7 blk C N el u):=M6.out.trans h7;have hx7:=(h7.block _ (lt_of_block X6.out) HN.out).trans X6.out;have X7:Hid (w7.heap[w.heap.size]? = some (boxT g sf lb sb)):=hx7;have R7:Hid (Rea a c (fun x=>t (roI s m f x)) u):=r7;have S7:Hid (Srt key u a c):=s7;clear c0 c1 h7 r7 s7;have c0:w7.cell? ⟨w.heap.size,0,none⟩=some (.func (.func g) #[] lb):=(cell_of_row w7 w.heap.size 0 _ _ (0,0) hx7).trans rfl;have c1:w7.cell? ⟨w.heap.size,1,none⟩=some (.func (.func sf) #[] sb):=(cell_of_row w7 w.heap.size 1 _ _ (0,0) hx7).trans rfl;clear hx7;have FIN:Hid _:=PL.out.2.2.2.2 _ _ R7.out (Rea.refl c b _) S7.out (PL.out.2.2.2.1 g3 _ R7.out);go_wp2_with fail
       all_goals go_end0
       all_goals exact ⟨rfl,_,M7.out,FIN.out⟩
     ·by_cases g3:c<f∧f<b
      ·exfalso;omega
      ·go_wp2_with fail;refine (fK0 g sf lb sb wr blk C N s m f el t hel HS.out HM.out.row hN g1.1 g1.2 (by omega)).mono ?_;rintro e w6 ⟨rfl,h6⟩;have M6:Hid (Mv w w6 blk C N el (fun x=>t (roI s m f x))):=HM.out.trans h6;have hx6:=(h6.block _ (lt_of_block HX.out) HN.out).trans HX.out;have X6:Hid (w6.heap[w.heap.size]? = some (boxT g sf lb sb)):=hx6;clear c0 c1 h6;have c0:w6.cell? ⟨w.heap.size,0,none⟩=some (.func (.func g) #[] lb):=(cell_of_row w6 w.heap.size 0 _ _ (0,0) hx6).trans rfl;have c1:w6.cell? ⟨w.heap.size,1,none⟩=some (.func (.func sf) #[] sb):=(cell_of_row w6 w.heap.size 1 _ _ (0,0) hx6).trans rfl;clear hx6;have M7:Hid (Mv w w6 blk C N el (fun x=>t (roI s m f x))):=M6.out;have X7:Hid (w6.heap[w.heap.size]? = some (boxT g sf lb sb)):=X6.out;have R7:Hid (Rea a c (fun x=>t (roI s m f x)) (fun x=>t (roI s m f x))):=Rea.refl _ _ _;have S7:Hid (Srt key (fun x=>t (roI s m f x)) a c):=PL.out.2.1 g2;have FIN:Hid _:=PL.out.2.2.2.2 _ _ R7.out (Rea.refl c b _) S7.out (PL.out.2.2.2.1 g3 _ R7.out);go_wp2_with fail
       all_goals go_end0
       all_goals exact ⟨rfl,_,M7.out,FIN.out⟩
    ·by_cases g2:a<s∧s<c
     ·by_cases g3:c<f∧f<b
      ·exfalso;omega
      ·exfalso;omega
     ·by_cases g3:c<f∧f<b
      ·have M6:Hid (Mv w wr blk C N el (fun x=>t (roI s m f x))):=HM.out.congr (fun x _=>by show t (roI s m f x)=t x;rw [kA1 (by omega) (by omega) (by omega)]);have X6:Hid (wr.heap[w.heap.size]? = some (boxT g sf lb sb)):=HX.out;have M7:Hid (Mv w wr blk C N el (fun x=>t (roI s m f x))):=M6.out;have X7:Hid (wr.heap[w.heap.size]? = some (boxT g sf lb sb)):=X6.out;have R7:Hid (Rea a c (fun x=>t (roI s m f x)) (fun x=>t (roI s m f x))):=Rea.refl _ _ _;have S7:Hid (Srt key (fun x=>t (roI s m f x)) a c):=PL.out.2.1 g2;go_wp2_with fail;refine (HC.out wr c f b _ (by omega) (HM0.out.trans M7.out) g3.1 g3.2 (by omega) (PL.out.2.2.1 _ R7.out).1 (PL.out.2.2.1 _ R7.out).2.1 (PL.out.2.2.1 _ R7.out).2.2).mono ?_;rintro e w8 ⟨rfl,u',h8,r8,s8⟩;have M8:Hid (Mv w w8 blk C N el u'):=M7.out.trans h8;have FIN:Hid _:=PL.out.2.2.2.2 _ u' R7.out r8 S7.out s8;clear c0 c1 h8 r8 s8;go_wp2_with fail
       all_goals go_end0
       all_goals exact ⟨rfl,u',M8.out,FIN.out⟩
      ·have M6:Hid (Mv w wr blk C N el (fun x=>t (roI s m f x))):=HM.out.congr (fun x _=>by show t (roI s m f x)=t x;rw [kA1 (by omega) (by omega) (by omega)]);have X6:Hid (wr.heap[w.heap.size]? = some (boxT g sf lb sb)):=HX.out;have M7:Hid (Mv w wr blk C N el (fun x=>t (roI s m f x))):=M6.out;have X7:Hid (wr.heap[w.heap.size]? = some (boxT g sf lb sb)):=X6.out;have R7:Hid (Rea a c (fun x=>t (roI s m f x)) (fun x=>t (roI s m f x))):=Rea.refl _ _ _;have S7:Hid (Srt key (fun x=>t (roI s m f x)) a c):=PL.out.2.1 g2;have FIN:Hid _:=PL.out.2.2.2.2 _ _ R7.out (Rea.refl c b _) S7.out (PL.out.2.2.2.1 g3 _ R7.out);go_wp2_with fail
       all_goals go_end0
       all_goals exact ⟨rfl,_,M7.out,FIN.out⟩
 ·go_enter Tryz.func178,Tryz.ntmps178;go_wp2_with fail;go_loopw [18,19] (fun vs vr wr=>∃s r:Nat,a≤s∧s≤r∧r≤m∧vs=.int .i64 s∧vr=.int .i64 r∧Mv w wr blk C N el t∧wr.heap[w.heap.size]? = some (boxT g sf lb sb)∧(s=a∨key (t (s - 1))≤key (t (c+m - s)))∧(r=m∨key (t (c+m - 1 - r))<key (t r))) (fun vs vr _=>(intOf vr).toNat - (intOf vs).toNat)
  case atStart=>exact ⟨a,m,lR7,by omega,lR7,by go_num,by go_num,H0.out,HB.out,Or.inl rfl,Or.inl rfl⟩
  case round=>
   obtain ⟨s,r,hls,hsr,hrh,rfl,rfl,hm,hbx,hlo,hhi⟩:=hrel;have HM:Hid _:=hm;have HX:Hid (wr.heap[w.heap.size]? = some (boxT g sf lb sb)):=hbx;have HLO:Hid (s=a∨key (t (s - 1))≤key (t (c+m - s))):=hlo;have HHI:Hid (r=m∨key (t (c+m - 1 - r))<key (t r)):=hhi;have c0:wr.cell? ⟨w.heap.size,0,none⟩=some (.func (.func g) #[] lb):=(cell_of_row wr w.heap.size 0 _ _ (0,0) hbx).trans rfl;have c1:wr.cell? ⟨w.heap.size,1,none⟩=some (.func (.func sf) #[] sb):=(cell_of_row wr w.heap.size 1 _ _ (0,0) hbx).trans rfl;clear hm hbx hlo hhi H0 HB
   by_cases hi1:s<r
   ·obtain ⟨q,hq⟩:∃q:Nat,(q:Int)=((s:Int)+r) / 2:=⟨(s+r) / 2,by omega⟩;have k3:s+r≤2*q+1:=by omega
    have k4:2*q≤s+r:=by omega
    have hq':((s:Int)+r) / 2=q:=hq.symm;clear hq
    by_cases hlv:key (t (c+m - 1 - q))<key (t q)
    ·have HLL:Hid (Calls Tryz.prog g (#[.int .i64 ((c:Int)+m - 1 - q),.int .i64 (q:Int)]++lb) wr fun e W'=>e=.returned (.bool true)∧Below wr.heap.size wr W'):=HL.out.at (HM0.out.trans HM.out) (i:=c+m - 1 - q) (j:=q) (by omega) (by omega) (by omega) rfl rfl rfl (decide_eq_true hlv);have HLV:Hid (key (t (c+m - 1 - q))<key (t q)):=hlv;clear hlv;go_wp2_with fail;refine HLL.out.mono ?_;rintro e w5 ⟨rfl,hb5⟩;have HM5:Hid _:=HM.out.below hb5 lR7;have HX5:Hid (w5.heap[w.heap.size]? = some (boxT g sf lb sb)):=(hb5.block _ (lt_of_block HX.out)).trans HX.out;clear hb5 c0 c1 HLL;go_wp2_with fail;go_roundw
     case rel=>exact ⟨s,q,hls,by omega,by omega,rfl,by go_num,HM5.out,HX5.out,HLO.out,Or.inr HLV.out⟩
     case measure=>simp [intOf];omega
    ·have HLL:Hid (Calls Tryz.prog g (#[.int .i64 ((c:Int)+m - 1 - q),.int .i64 (q:Int)]++lb) wr fun e W'=>e=.returned (.bool false)∧Below wr.heap.size wr W'):=HL.out.at (HM0.out.trans HM.out) (i:=c+m - 1 - q) (j:=q) (by omega) (by omega) (by omega) rfl rfl rfl (decide_eq_false hlv);have HLV:Hid (key (t q)≤key (t (c+m - 1 - q))):=(show key (t q)≤key (t (c+m - 1 - q)) by omega);clear hlv;go_wp2_with fail;refine HLL.out.mono ?_;rintro e w5 ⟨rfl,hb5⟩;have HM5:Hid _:=HM.out.below hb5 lR7;have HX5:Hid (w5.heap[w.heap.size]? = some (boxT g sf lb sb)):=(hb5.block _ (lt_of_block HX.out)).trans HX.out;clear hb5 c0 c1 HLL;go_wp2_with fail;go_roundw
     case rel=>exact ⟨q+1,r,by omega,by omega,hrh,by go_num,rfl,HM5.out,HX5.out,Or.inr (by rw [show q+1 - 1=q by omega,show c+m - (q+1)=c+m - 1 - q by omega];exact HLV.out),HHI.out⟩
     case measure=>simp [intOf];omega
   ·obtain rfl:s=r:=by omega
    obtain ⟨f,hf⟩:∃f:Nat,(f:Int)=(c:Int)+m - s:=⟨c+m - s,by omega⟩;have hf':(c:Int)+m - s=f:=hf.symm;have k5:f+s=c+m:=by omega
    clear hf
    have PL:Hid _:=uP0 (key:=key) (t:=t) (a:=a) (s:=s) (m:=m) (e:=f) (b:=b) (c:=c) HI.out.1 HI.out.2.1 HI.out.2.2 (by omega) (by omega) (by omega) (by omega) (by omega)
     (by rcases HLO.out with h | h
         ·omega
         ·right;right;rwa [show f=c+m - s by omega])
     (by rcases HHI.out with h | h
         ·omega
         ·right;right;rwa [show f - 1=c+m - 1 - s by omega])
    clear HLO HHI
    by_cases g1:s<m∧m<f
    ·by_cases g2:a<s∧s<c
     ·by_cases g3:c<f∧f<b
      ·go_wp2_with fail;refine (fK0 g sf lb sb wr blk C N s m f el t hel HS.out HM.out.row hN g1.1 g1.2 (by omega)).mono ?_;rintro e w6 ⟨rfl,h6⟩;have M6:Hid (Mv w w6 blk C N el (fun x=>t (roI s m f x))):=HM.out.trans h6;have hx6:=(h6.block _ (lt_of_block HX.out) HN.out).trans HX.out;have X6:Hid (w6.heap[w.heap.size]? = some (boxT g sf lb sb)):=hx6;clear c0 c1 h6;have c0:w6.cell? ⟨w.heap.size,0,none⟩=some (.func (.func g) #[] lb):=(cell_of_row w6 w.heap.size 0 _ _ (0,0) hx6).trans rfl;have c1:w6.cell? ⟨w.heap.size,1,none⟩=some (.func (.func sf) #[] sb):=(cell_of_row w6 w.heap.size 1 _ _ (0,0) hx6).trans rfl;clear hx6;go_wp2_with fail;refine (HC.out w6 a s c _ (by omega) (HM0.out.trans M6.out) g2.1 g2.2 (by omega) PL.out.1.1 PL.out.1.2.1 PL.out.1.2.2).mono ?_;rintro e w7 ⟨rfl,u,h7,r7,s7⟩;have M7:Hid (Mv w w7 blk C N el u):=M6.out.trans h7;have hx7:=(h7.block _ (lt_of_block X6.out) HN.out).trans X6.out;have X7:Hid (w7.heap[w.heap.size]? = some (boxT g sf lb sb)):=hx7;have R7:Hid (Rea a c (fun x=>t (roI s m f x)) u):=r7;have S7:Hid (Srt key u a c):=s7;clear c0 c1 h7 r7 s7;have c0:w7.cell? ⟨w.heap.size,0,none⟩=some (.func (.func g) #[] lb):=(cell_of_row w7 w.heap.size 0 _ _ (0,0) hx7).trans rfl;have c1:w7.cell? ⟨w.heap.size,1,none⟩=some (.func (.func sf) #[] sb):=(cell_of_row w7 w.heap.size 1 _ _ (0,0) hx7).trans rfl;clear hx7;go_wp2_with fail;refine (HC.out w7 c f b _ (by omega) (HM0.out.trans M7.out) g3.1 g3.2 (by omega) (PL.out.2.2.1 _ R7.out).1 (PL.out.2.2.1 _ R7.out).2.1 (PL.out.2.2.1 _ R7.out).2.2).mono ?_;rintro e w8 ⟨rfl,u',h8,r8,s8⟩;have M8:Hid (Mv w w8 blk C N el u'):=M7.out.trans h8;have FIN:Hid _:=PL.out.2.2.2.2 _ u' R7.out r8 S7.out s8;clear c0 c1 h8 r8 s8;go_wp2_with fail
       all_goals go_end0
       all_goals exact ⟨rfl,u',M8.out,FIN.out⟩
      ·go_wp2_with fail;refine (fK0 g sf lb sb wr blk C N s m f el t hel HS.out HM.out.row hN g1.1 g1.2 (by omega)).mono ?_;rintro e w6 ⟨rfl,h6⟩;have M6:Hid (Mv w w6 blk C N el (fun x=>t (roI s m f x))):=HM.out.trans h6;have hx6:=(h6.block _ (lt_of_block HX.out) HN.out).trans HX.out;have X6:Hid (w6.heap[w.heap.size]? = some (boxT g sf lb sb)):=hx6;clear c0 c1 h6;have c0:w6.cell? ⟨w.heap.size,0,none⟩=some (.func (.func g) #[] lb):=(cell_of_row w6 w.heap.size 0 _ _ (0,0) hx6).trans rfl;have c1:w6.cell? ⟨w.heap.size,1,none⟩=some (.func (.func sf) #[] sb):=(cell_of_row w6 w.heap.size 1 _ _ (0,0) hx6).trans rfl;clear hx6;go_wp2_with fail;refine (HC.out w6 a s c _ (by omega) (HM0.out.trans M6.out) g2.1 g2.2 (by omega) PL.out.1.1 PL.out.1.2.1 PL.out.1.2.2).mono ?_;rintro e w7 ⟨rfl,u,h7,r7,s7⟩;have M7:Hid (Mv w w7 blk C N el u):=M6.out.trans h7;have hx7:=(h7.block _ (lt_of_block X6.out) HN.out).trans X6.out;have X7:Hid (w7.heap[w.heap.size]? = some (boxT g sf lb sb)):=hx7;have R7:Hid (Rea a c (fun x=>t (roI s m f x)) u):=r7;have S7:Hid (Srt key u a c):=s7;clear c0 c1 h7 r7 s7;have c0:w7.cell? ⟨w.heap.size,0,none⟩=some (.func (.func g) #[] lb):=(cell_of_row w7 w.heap.size 0 _ _ (0,0) hx7).trans rfl;have c1:w7.cell? ⟨w.heap.size,1,none⟩=some (.func (.func sf) #[] sb):=(cell_of_row w7 w.heap.size 1 _ _ (0,0) hx7).trans rfl;clear hx7;have FIN:Hid _:=PL.out.2.2.2.2 _ _ R7.out (Rea.refl c b _) S7.out (PL.out.2.2.2.1 g3 _ R7.out);go_wp2_with fail
       all_goals go_end0
       all_goals exact ⟨rfl,_,M7.out,FIN.out⟩
     ·by_cases g3:c<f∧f<b
      ·go_wp2_with fail;refine (fK0 g sf lb sb wr blk C N s m f el t hel HS.out HM.out.row hN g1.1 g1.2 (by omega)).mono ?_;rintro e w6 ⟨rfl,h6⟩;have M6:Hid (Mv w w6 blk C N el (fun x=>t (roI s m f x))):=HM.out.trans h6;have hx6:=(h6.block _ (lt_of_block HX.out) HN.out).trans HX.out;have X6:Hid (w6.heap[w.heap.size]? = some (boxT g sf lb sb)):=hx6;clear c0 c1 h6;have c0:w6.cell? ⟨w.heap.size,0,none⟩=some (.func (.func g) #[] lb):=(cell_of_row w6 w.heap.size 0 _ _ (0,0) hx6).trans rfl;have c1:w6.cell? ⟨w.heap.size,1,none⟩=some (.func (.func sf) #[] sb):=(cell_of_row w6 w.heap.size 1 _ _ (0,0) hx6).trans rfl;clear hx6;have M7:Hid (Mv w w6 blk C N el (fun x=>t (roI s m f x))):=M6.out;have X7:Hid (w6.heap[w.heap.size]? = some (boxT g sf lb sb)):=X6.out;have R7:Hid (Rea a c (fun x=>t (roI s m f x)) (fun x=>t (roI s m f x))):=Rea.refl _ _ _;have S7:Hid (Srt key (fun x=>t (roI s m f x)) a c):=PL.out.2.1 g2;go_wp2_with fail;refine (HC.out w6 c f b _ (by omega) (HM0.out.trans M7.out) g3.1 g3.2 (by omega) (PL.out.2.2.1 _ R7.out).1 (PL.out.2.2.1 _ R7.out).2.1 (PL.out.2.2.1 _ R7.out).2.2).mono ?_;rintro e w8 ⟨rfl,u',h8,r8,s8⟩;have M8:Hid (Mv w w8 blk C N el u'):=M7.out.trans h8;have FIN:Hid _:=PL.out.2.2.2.2 _ u' R7.out r8 S7.out s8;clear c0 c1 h8 r8 s8;go_wp2_with fail
       all_goals go_end0
       all_goals exact ⟨rfl,u',M8.out,FIN.out⟩
      ·go_wp2_with fail;refine (fK0 g sf lb sb wr blk C N s m f el t hel HS.out HM.out.row hN g1.1 g1.2 (by omega)).mono ?_;rintro e w6 ⟨rfl,h6⟩;have M6:Hid (Mv w w6 blk C N el (fun x=>t (roI s m f x))):=HM.out.trans h6;have hx6:=(h6.block _ (lt_of_block HX.out) HN.out).trans HX.out;have X6:Hid (w6.heap[w.heap.size]? = some (boxT g sf lb sb)):=hx6;clear c0 c1 h6;have c0:w6.cell? ⟨w.heap.size,0,none⟩=some (.func (.func g) #[] lb):=(cell_of_row w6 w.heap.size 0 _ _ (0,0) hx6).trans rfl;have c1:w6.cell? ⟨w.heap.size,1,none⟩=some (.func (.func sf) #[] sb):=(cell_of_row w6 w.heap.size 1 _ _ (0,0) hx6).trans rfl;clear hx6;have M7:Hid (Mv w w6 blk C N el (fun x=>t (roI s m f x))):=M6.out;have X7:Hid (w6.heap[w.heap.size]? = some (boxT g sf lb sb)):=X6.out;have R7:Hid (Rea a c (fun x=>t (roI s m f x)) (fun x=>t (roI s m f x))):=Rea.refl _ _ _;have S7:Hid (Srt key (fun x=>t (roI s m f x)) a c):=PL.out.2.1 g2;have FIN:Hid _:=PL.out.2.2.2.2 _ _ R7.out (Rea.refl c b _) S7.out (PL.out.2.2.2.1 g3 _ R7.out);go_wp2_with fail
       all_goals go_end0
       all_goals exact ⟨rfl,_,M7.out,FIN.out⟩
    ·by_cases g2:a<s∧s<c
     ·by_cases g3:c<f∧f<b
      ·exfalso;omega
      ·have M6:Hid (Mv w wr blk C N el (fun x=>t (roI s m f x))):=HM.out.congr (fun x _=>by show t (roI s m f x)=t x;rw [kA1 (by omega) (by omega) (by omega)]);have X6:Hid (wr.heap[w.heap.size]? = some (boxT g sf lb sb)):=HX.out;go_wp2_with fail;refine (HC.out wr a s c _ (by omega) (HM0.out.trans M6.out) g2.1 g2.2 (by omega) PL.out.1.1 PL.out.1.2.1 PL.out.1.2.2).mono ?_;rintro e w7 ⟨rfl,u,h7,r7,s7⟩;have M7:Hid (Mv w w7 blk C N el u):=M6.out.trans h7;have hx7:=(h7.block _ (lt_of_block X6.out) HN.out).trans X6.out;have X7:Hid (w7.heap[w.heap.size]? = some (boxT g sf lb sb)):=hx7;have R7:Hid (Rea a c (fun x=>t (roI s m f x)) u):=r7;have S7:Hid (Srt key u a c):=s7;clear c0 c1 h7 r7 s7;have c0:w7.cell? ⟨w.heap.size,0,none⟩=some (.func (.func g) #[] lb):=(cell_of_row w7 w.heap.size 0 _ _ (0,0) hx7).trans rfl;have c1:w7.cell? ⟨w.heap.size,1,none⟩=some (.func (.func sf) #[] sb):=(cell_of_row w7 w.heap.size 1 _ _ (0,0) hx7).trans rfl;clear hx7;have FIN:Hid _:=PL.out.2.2.2.2 _ _ R7.out (Rea.refl c b _) S7.out (PL.out.2.2.2.1 g3 _ R7.out);go_wp2_with fail
       all_goals go_end0
       all_goals exact ⟨rfl,_,M7.out,FIN.out⟩
     ·by_cases g3:c<f∧f<b
      ·exfalso;omega
      ·have M6:Hid (Mv w wr blk C N el (fun x=>t (roI s m f x))):=HM.out.congr (fun x _=>by show t (roI s m f x)=t x;rw [kA1 (by omega) (by omega) (by omega)]);have X6:Hid (wr.heap[w.heap.size]? = some (boxT g sf lb sb)):=HX.out;have M7:Hid (Mv w wr blk C N el (fun x=>t (roI s m f x))):=M6.out;have X7:Hid (wr.heap[w.heap.size]? = some (boxT g sf lb sb)):=X6.out;have R7:Hid (Rea a c (fun x=>t (roI s m f x)) (fun x=>t (roI s m f x))):=Rea.refl _ _ _;have S7:Hid (Srt key (fun x=>t (roI s m f x)) a c):=PL.out.2.1 g2;have FIN:Hid _:=PL.out.2.2.2.2 _ _ R7.out (Rea.refl c b _) S7.out (PL.out.2.2.2.1 g3 _ R7.out);go_wp2_with fail
       all_goals go_end0
       all_goals exact ⟨rfl,_,M7.out,FIN.out⟩
theorem eT1 (g sf:Nat) (lb sb:Array Value) (w0:World) (blk C N:Nat) (el:Nat→List Value) (key:Nat→Int) (eg:∀args w,(callFunc g args).run Tryz.prog w=.ok (.enter g args) w) (hel:∀x,(el x).length=5) (hS:iJ0 Tryz.prog sf sb blk C N el)
  (hL:iI0 Tryz.prog g lb w0 blk C N el key) (hN:N≤1000):∀d,SymC g sf lb sb w0 blk C N el key d
 | 0=>fun w a m b t hd _ h1 h2 _ _ _ _=>by omega
 | d+1=>fun w a m b t hd hm h1 h2 h3 s1 s2 ap=>by
  by_cases e1:m=a+1
  ·exact oR1 g sf lb sb w0 w blk C N a m b el t key eg hel hS hL hm hN e1 h2 h3 s2 ap
  by_cases e2:b=m+1
  ·exact jZ1 g sf lb sb w0 w blk C N a m b el t key eg hel hS hL hm hN (by omega) e2 h3 s1 ap
  exact oS1 g sf lb sb w0 w blk C N a m b d el t key eg hel hS hL hm hN (by omega) (by omega) h3 s1 s2 ap hd (eT1 g sf lb sb w0 blk C N el key eg hel hS hL hN d)
structure Blk (key:Nat→Int) (u:Nat→Nat) (bs n:Nat) (p:Nat→Prop):Prop where
 tag:∀k x,p k→k*bs≤x→x<k*bs+bs→x<n→k*bs≤u x∧u x<k*bs+bs∧u x<n
 srt:∀k x y,p k→k*bs≤x→x<y→y<k*bs+bs→y<n→Rk key (u x) (u y)
section
variable {key:Nat→Int} {u u':Nat→Nat} {bs n q:Nat} {p:Nat→Prop}
theorem jM0 (k B:Nat):(k+1)*B=k*B+B:=Nat.succ_mul k B
theorem uQ0 {k q:Nat} (B:Nat) (h:k<q):k*B+B≤q*B:=by rw [←jM0];exact Nat.mul_le_mul_right B h
theorem eX0 (q bs:Nat):(2*q)*bs=q*(2*bs):=by rw [Nat.mul_comm 2 q,Nat.mul_assoc]
theorem jX0 (q bs:Nat):(2*q+1)*bs=q*(2*bs)+bs:=by rw [jM0,eX0]
theorem Blk.all (h:Blk key u bs n (fun k=>k<q)) (hn:n≤q*bs):Blk key u bs n (fun _=>True):=by
 have out:∀k x,k*bs≤x→x<n→k<q:=fun k x hk hx=>by
  rcases Nat.lt_or_ge k q with h' | h'
  ·exact h'
  ·have:=Nat.mul_le_mul_right bs h';omega
 exact ⟨fun k x _ h1 h2 h3=>h.tag k x (out k x h1 h3) h1 h2 h3,fun k x y _ h1 h2 h3 h4=>h.srt k x y (out k x h1 (by omega)) h1 h2 h3 h4⟩
theorem Blk.one (h:Blk key u bs n (fun _=>True)) (hn:n≤bs):Srt key u 0 n:=fun x y _ hxy hy=>h.srt 0 x y trivial (by omega) hxy (by omega) hy
theorem Blk.ins {b:Nat} (h:Blk key u 20 n (fun k=>k<q)) (hid:∀x,q*20≤x→u x=x) (hb:b=q*20+20∨(b=n∧n≤q*20+20)) (hqn:q*20≤b) (hbn:b≤n) (hr:Rea (q*20) b u u') (hs:Srt key u' (q*20) b):
  Blk key u' 20 n (fun k=>k<q+1)∧∀x,b≤x→u' x=x:=by
 refine ⟨⟨fun k x hk h1 h2 h3=>?_,fun k x y hk h1 h2 h3 h4=>?_⟩,fun x hx=>by rw [hr.out (Or.inr hx)];exact hid x (by omega)⟩
 ·by_cases e:k=q
  ·subst e;obtain ⟨y,ya,yb,e⟩:=hr.mem (x:=x) h1 (by omega);rw [e,hid y ya];omega
  ·rw [hr.out (x:=x) (Or.inl (by omega))];exact h.tag k x (by omega) h1 h2 h3
 ·by_cases e:k=q
  ·subst e;exact hs x y h1 h2 (by omega)
  ·rw [hr.out (x:=x) (Or.inl (by omega)),hr.out (x:=y) (Or.inl (by omega))];exact h.srt k x y (by omega) h1 h2 h3 h4
theorem Blk.ready {a b:Nat} (h:Blk key u bs n (fun k=>2*q≤k)) (ha:a=q*(2*bs)) (hb:b≤a+2*bs) (hbn:b≤n):Srt key u a (min (a+bs) b)∧Srt key u (a+bs) b∧Apt u a (a+bs) b:=by
 have e1:(2*q)*bs=a:=by rw [eX0,ha]
 have e2:(2*q+1)*bs=a+bs:=by rw [jX0,ha]
 refine ⟨fun x y hx hxy hy=>h.srt (2*q) x y lR7 (by rw [e1];exact hx) hxy (by rw [e1];omega) (by omega),fun x y hx hxy hy=>h.srt (2*q+1) x y (by show 2*q≤2*q+1;omega) (by rw [e2];exact hx) hxy (by rw [e2];omega) (by omega),fun x y hx hxs hy hyb=>?_⟩;have t1:=h.tag (2*q) x lR7 (by rw [e1];exact hx) (by rw [e1];exact hxs) (by omega);have t2:=h.tag (2*q+1) y (by show 2*q≤2*q+1;omega) (by rw [e2];exact hy) (by rw [e2];omega) (by omega);rw [e1] at t1;rw [e2] at t2;omega
theorem Blk.merge {a b:Nat} (h2:Blk key u (2*bs) n (fun k=>k<q)) (h:Blk key u bs n (fun k=>2*q≤k)) (ha:a=q*(2*bs)) (hb:b=a+2*bs∨(b=n∧n≤a+2*bs)) (hbn:b≤n) (hr:Rea a b u u') (hs:Srt key u' a b):
  Blk key u' (2*bs) n (fun k=>k<q+1)∧Blk key u' bs n (fun k=>2*(q+1)≤k):=by
 have e1:(2*q)*bs=a:=by rw [eX0,ha]
 have e2:(2*q+1)*bs=a+bs:=by rw [jX0,ha]
 have e3:(2*(q+1))*bs=a+2*bs:=by rw [eX0,jM0,ha]
 have low:∀k,k<q→k*(2*bs)+2*bs≤a:=fun k hk=>by rw [ha];exact uQ0 _ hk
 have high:∀k,2*(q+1)≤k→a+2*bs≤k*bs:=fun k hk=>by rw [←e3];exact Nat.mul_le_mul_right bs hk
 refine ⟨⟨fun k x hk g1 g2 g3=>?_,fun k x y hk g1 g2 g3 g4=>?_⟩,⟨fun k x hk g1 g2 g3=>?_,fun k x y hk g1 g2 g3 g4=>?_⟩⟩
 ·by_cases e:k=q
  ·subst e;rw [←ha] at g1 g2 ⊢;obtain ⟨y,ya,yb,e⟩:=hr.mem (x:=x) g1 (by omega);rw [e]
   by_cases hy:y<a+bs
   ·have:=h.tag (2*k) y lR7 (by rw [e1];exact ya) (by rw [e1];exact hy) (by omega);rw [e1] at this;omega
   ·have:=h.tag (2*k+1) y (by show 2*k≤2*k+1;omega) (by rw [e2];omega) (by rw [e2];omega) (by omega);rw [e2] at this;omega
  ·have:=low k (by omega);rw [hr.out (x:=x) (Or.inl (by omega))];exact h2.tag k x (by omega) g1 g2 g3
 ·by_cases e:k=q
  ·subst e;rw [←ha] at g1 g3;exact hs x y g1 g2 (by omega)
  ·have:=low k (by omega);rw [hr.out (x:=x) (Or.inl (by omega)),hr.out (x:=y) (Or.inl (by omega))];exact h2.srt k x y (by omega) g1 g2 g3 g4
 ·have:=high k hk;rw [hr.out (x:=x) (Or.inr (by omega))];exact h.tag k x (by show 2*q≤k;omega) g1 g2 g3
 ·have:=high k hk;rw [hr.out (x:=x) (Or.inr (by omega)),hr.out (x:=y) (Or.inr (by omega))];exact h.srt k x y (by show 2*q≤k;omega) g1 g2 g3 g4
theorem Blk.rest {a:Nat} (h2:Blk key u (2*bs) n (fun k=>k<q)) (h:Blk key u bs n (fun k=>2*q≤k)) (ha:a=q*(2*bs)) (hn:n≤a+bs):Blk key u (2*bs) n (fun k=>k<q+1):=by
 have e1:(2*q)*bs=a:=by rw [eX0,ha]
 refine ⟨fun k x hk g1 g2 g3=>?_,fun k x y hk g1 g2 g3 g4=>?_⟩
 ·by_cases e:k=q
  ·subst e;rw [←ha] at g1 g2 ⊢;have:=h.tag (2*k) x lR7 (by rw [e1];exact g1) (by rw [e1];omega) g3;rw [e1] at this;omega
  ·exact h2.tag k x (by omega) g1 g2 g3
 ·by_cases e:k=q
  ·subst e;rw [←ha] at g1 g3;exact h.srt (2*k) x y lR7 (by rw [e1];exact g1) g2 (by rw [e1];omega) g4
  ·exact h2.srt k x y (by omega) g1 g2 g3 g4
theorem Blk.none (key:Nat→Int) (u:Nat→Nat) (bs n:Nat):Blk key u bs n (fun k=>k<0):=⟨fun _ _ h=>absurd h (by omega),fun _ _ _ h=>absurd h (by omega)⟩
theorem Blk.from (h:Blk key u bs n (fun _=>True)):Blk key u bs n (fun k=>2*0≤k):=⟨fun k x _=>h.tag k x trivial,fun k x y _=>h.srt k x y trivial⟩
end
set_option maxRecDepth 4000 in
set_option maxHeartbeats 8000000 in
theorem bQ1 (g sf:Nat) (lb sb:Array Value) (w:World) (blk C N:Nat) (el:Nat→List Value) (key:Nat→Int) (eg:∀args w,(callFunc g args).run Tryz.prog w=.ok (.enter g args) w) (hel:∀x,(el x).length=5) (hS:iJ0 Tryz.prog sf sb blk C N el)
  (hL:iI0 Tryz.prog g lb w blk C N el key) (h:RowT w blk C N el (fun x=>x)) (hN:N≤1000):
  Calls Tryz.prog 131 #[.agg #[.func (.func g) #[] lb,.func (.func sf) #[] sb],.int .i64 N] w fun e w'=>e=.returned (.tuple #[])∧∃u,Mv w w' blk C N el u∧Rea 0 N (fun x=>x) u∧Srt key u 0 N:=by
 have H0:Hid (Mv w (w.alloc (boxT g sf lb sb)) blk C N el (fun x=>x)):=(Mv.start h).below ((Below.refl _ _).alloc lR7 _) lR7;have HB:Hid ((w.alloc (boxT g sf lb sb)).heap[w.heap.size]? = some (boxT g sf lb sb)):=heap_alloc_new w _;have HN:Hid (w.heap.size≠blk):=fun e=>by have:=h.lt;omega
 have HS:Hid (iJ0 Tryz.prog sf sb blk C N el):=hS;have HL:Hid (iI0 Tryz.prog g lb w blk C N el key):=hL;have HSY:Hid (∀d,SymC g sf lb sb w blk C N el key d):=eT1 g sf lb sb w blk C N el key eg hel hS hL hN;clear h hS hL;go_enter Tryz.func131,Tryz.ntmps131;go_wp2_with fail;go_loopw [5,6] (fun va vb wr=>∃(q a:Nat) (u:Nat→Nat),a=q*20∧a≤N∧va=.int .i64 a∧vb=.int .i64 ((a:Int)+20)∧Mv w wr blk C N el u∧wr.heap[w.heap.size]? = some (boxT g sf lb sb)∧Rea 0 N (fun x=>x) u∧Blk key u 20 N (fun k=>k<q)∧∀x,q*20≤x→u x=x) (fun va _ _=>N - (intOf va).toNat)
 case atStart=>exact ⟨0,0,fun x=>x,rfl,Nat.zero_le _,rfl,rfl,H0.out,HB.out,Rea.refl _ _ _,Blk.none _ _ _ _,fun _ _=>rfl⟩
 case round=>
  obtain ⟨q,a,u,haq,haN,rfl,rfl,hm,hbx,hr,hblk,hid⟩:=hrel;have HM:Hid _:=hm;have HX:Hid (wr.heap[w.heap.size]? = some (boxT g sf lb sb)):=hbx;have HR:Hid (Rea 0 N (fun x=>x) u):=hr;have HK:Hid (Blk key u 20 N (fun k=>k<q)):=hblk;have HID:Hid (∀x,q*20≤x→u x=x):=hid;have HQ:Hid (a=q*20):=haq;have c0:wr.cell? ⟨w.heap.size,0,none⟩=some (.func (.func g) #[] lb):=(cell_of_row wr w.heap.size 0 _ _ (0,0) hbx).trans rfl;have c1:wr.cell? ⟨w.heap.size,1,none⟩=some (.func (.func sf) #[] sb):=(cell_of_row wr w.heap.size 1 _ _ (0,0) hbx).trans rfl;clear hm hbx hr hblk hid haq H0 HB
  by_cases hi1:a+20≤N
  ·go_wp2_with fail;refine (oZ0 g sf lb sb w wr blk C N a (a+20) el u key eg hel HS.out HL.out HM.out hN (by omega) hi1 (fun x y hx hxy hy=>by have:=HQ.out;rw [HID.out x (by omega),HID.out y (by omega)];exact hxy)).mono ?_;rintro e w5 ⟨rfl,u',h5,r5,s5⟩;have HM5:Hid (Mv w w5 blk C N el u'):=HM.out.trans h5;have HX5:Hid (w5.heap[w.heap.size]? = some (boxT g sf lb sb)):=(h5.block _ (lt_of_block HX.out) HN.out).trans HX.out;have R5:Hid (Rea a (a+20) u u'):=r5;have S5:Hid (Srt key u' a (a+20)):=s5;clear h5 r5 s5 c0 c1;go_wp2_with fail;go_roundw
   case rel=>
    have hq:=HQ.out;have r5:=R5.out;have s5:=S5.out;rw [hq] at r5 s5;obtain ⟨k1,k2⟩:=HK.out.ins HID.out (Or.inl rfl) (by omega) (by omega) r5 s5;exact ⟨q+1,a+20,u',by omega,hi1,by go_num,by go_num,HM5.out,HX5.out,HR.out.trans (R5.out.mono (Nat.zero_le _) hi1),k1,fun x hx=>k2 x (by omega)⟩
   case measure=>simp [intOf];omega
  ·go_wp2_with fail;refine (oZ0 g sf lb sb w wr blk C N a N el u key eg hel HS.out HL.out HM.out hN haN lR7 (fun x y hx hxy hy=>by have:=HQ.out;rw [HID.out x (by omega),HID.out y (by omega)];exact hxy)).mono ?_;rintro e w5 ⟨rfl,u',h5,r5,s5⟩;have HM5:Hid (Mv w w5 blk C N el u'):=HM.out.trans h5;have HX5:Hid (w5.heap[w.heap.size]? = some (boxT g sf lb sb)):=(h5.block _ (lt_of_block HX.out) HN.out).trans HX.out;have HR5:Hid (Rea 0 N (fun x=>x) u'):=HR.out.trans (r5.mono (Nat.zero_le _) lR7)
   have HK5:Hid (Blk key u' 20 N (fun _=>True)):=by
    have hq:=HQ.out;rw [hq] at r5 s5;obtain ⟨k1,k2⟩:=HK.out.ins HID.out (Or.inr ⟨rfl,by omega⟩) (by omega) lR7 r5 s5;exact k1.all (by omega)
   clear h5 r5 s5 c0 c1 HM HX HR HK HID HQ;go_wp2_with fail;go_loopw [4] (fun vs wr2=>∃(bs:Nat) (v:Nat→Nat),20≤bs∧bs≤2000∧vs=.int .i64 bs∧Mv w wr2 blk C N el v∧wr2.heap[w.heap.size]? = some (boxT g sf lb sb)∧Rea 0 N (fun x=>x) v∧Blk key v bs N (fun _=>True)) (fun vs _=>2000 - (intOf vs).toNat)
   case atStart=>exact ⟨20,u',lR7,by omega,rfl,HM5.out,HX5.out,HR5.out,HK5.out⟩
   case round=>
    obtain ⟨bs,v,hbs,hbs2,rfl,hm,hbx,hr,hblk⟩:=hrel;have HM:Hid _:=hm;have HX:Hid (wr.heap[w.heap.size]? = some (boxT g sf lb sb)):=hbx;have HR:Hid (Rea 0 N (fun x=>x) v):=hr;have HK:Hid (Blk key v bs N (fun _=>True)):=hblk;clear hm hbx hr hblk HM5 HX5 HR5 HK5
    by_cases hb1:bs<N
    ·go_wp2_with fail;go_loopw [5,6] (fun va vb wr3=>∃(q a:Nat) (u:Nat→Nat),a=q*(2*bs)∧a≤N∧va=.int .i64 a∧vb=.int .i64 ((a:Int)+2*bs)∧Mv w wr3 blk C N el u∧wr3.heap[w.heap.size]? = some (boxT g sf lb sb)∧Rea 0 N (fun x=>x) u∧Blk key u (2*bs) N (fun k=>k<q)∧Blk key u bs N (fun k=>2*q≤k)) (fun va _ _=>N - (intOf va).toNat)
     case atStart=>exact ⟨0,0,v,by simp,Nat.zero_le _,rfl,by go_num,HM.out,HX.out,HR.out,Blk.none _ _ _ _,HK.out.from⟩
     case round=>
      obtain ⟨q,a,u,haq,haN,rfl,rfl,hm,hbx,hr,hb2,hb3⟩:=hrel;have HM3:Hid _:=hm;have HX3:Hid (wr.heap[w.heap.size]? = some (boxT g sf lb sb)):=hbx;have HR3:Hid (Rea 0 N (fun x=>x) u):=hr;have HK3:Hid (Blk key u (2*bs) N (fun k=>k<q)∧Blk key u bs N (fun k=>2*q≤k)):=⟨hb2,hb3⟩;have HQ:Hid (a=q*(2*bs)):=haq;have c0:wr.cell? ⟨w.heap.size,0,none⟩=some (.func (.func g) #[] lb):=(cell_of_row wr w.heap.size 0 _ _ (0,0) hbx).trans rfl;have c1:wr.cell? ⟨w.heap.size,1,none⟩=some (.func (.func sf) #[] sb):=(cell_of_row wr w.heap.size 1 _ _ (0,0) hbx).trans rfl;clear hm hbx hr hb2 hb3 haq HM HX HR HK
      by_cases ha1:a+2*bs≤N
      ·go_wp2_with fail;have hc:=HSY.out (2*bs) wr a (a+bs) (a+2*bs) u (by omega) HM3.out (by omega) (by omega) ha1 (((HK3.out.2.ready HQ.out lR7 ha1).1).sub lR7 (by omega)) (HK3.out.2.ready HQ.out lR7 ha1).2.1 (HK3.out.2.ready HQ.out lR7 ha1).2.2;rw [show ((a+bs:Nat):Int)=(a:Int)+bs by omega,show ((a+2*bs:Nat):Int)=(a:Int)+2*bs by omega] at hc;refine hc.mono ?_;rintro e w5 ⟨rfl,u2,h5,r5,s5⟩;have HM5:Hid (Mv w w5 blk C N el u2):=HM3.out.trans h5;have HX5:Hid (w5.heap[w.heap.size]? = some (boxT g sf lb sb)):=(h5.block _ (lt_of_block HX3.out) HN.out).trans HX3.out;have R5:Hid (Rea a (a+2*bs) u u2):=r5;have S5:Hid (Srt key u2 a (a+2*bs)):=s5;clear h5 r5 s5 c0 c1 hc;go_wp2_with fail;go_roundw
       case rel=>
        obtain ⟨k1,k2⟩:=HK3.out.1.merge HK3.out.2 HQ.out (Or.inl rfl) ha1 R5.out S5.out;exact ⟨q+1,a+2*bs,u2,by rw [jM0 q (2*bs),←HQ.out],ha1,by go_num,by go_num,HM5.out,HX5.out,HR3.out.trans (R5.out.mono (Nat.zero_le _) ha1),k1,k2⟩
       case measure=>simp [intOf];omega
      ·by_cases ha2:a+bs<N
       ·go_wp2_with fail;have hc:=HSY.out (2*bs) wr a (a+bs) N u (by omega) HM3.out (by omega) ha2 lR7 (((HK3.out.2.ready HQ.out (b:=N) (by omega) lR7).1).sub lR7 (by omega)) (HK3.out.2.ready HQ.out (b:=N) (by omega) lR7).2.1 (HK3.out.2.ready HQ.out (b:=N) (by omega) lR7).2.2;rw [show ((a+bs:Nat):Int)=(a:Int)+bs by omega] at hc;refine hc.mono ?_;rintro e w5 ⟨rfl,u2,h5,r5,s5⟩;have HM5:Hid (Mv w w5 blk C N el u2):=HM3.out.trans h5;have HX5:Hid (w5.heap[w.heap.size]? = some (boxT g sf lb sb)):=(h5.block _ (lt_of_block HX3.out) HN.out).trans HX3.out;have HR5:Hid (Rea 0 N (fun x=>x) u2):=HR3.out.trans (r5.mono (Nat.zero_le _) lR7);have HK5:Hid (Blk key u2 (2*bs) N (fun _=>True)):=((HK3.out.1.merge HK3.out.2 HQ.out (Or.inr ⟨rfl,by omega⟩) lR7 r5 s5).1).all (by rw [jM0 q (2*bs),←HQ.out];omega);clear h5 r5 s5 c0 c1 hc;go_wp2_with fail;go_roundw
        case rel=>exact ⟨2*bs,u2,by omega,by omega,by go_num,HM5.out,HX5.out,HR5.out,HK5.out⟩
        case measure=>simp [intOf];omega
       ·have HK5:Hid (Blk key u (2*bs) N (fun _=>True)):=(HK3.out.1.rest HK3.out.2 HQ.out (by omega)).all (by rw [jM0 q (2*bs),←HQ.out];omega);go_wp2_with fail;go_roundw
        case rel=>exact ⟨2*bs,u,by omega,by omega,by go_num,HM3.out,HX3.out,HR3.out,HK5.out⟩
        case measure=>simp [intOf];omega
    ·go_wp2_with fail;go_end0;exact ⟨rfl,v,HM.out,HR.out,HK.out.one (by omega)⟩
end Go.Proofs.YtjdkagafdnchhaaGreatDoor
namespace Go.Proofs.YtjdkagafdnchhaaGreatDoor
open Go.RowKit Go.Extern
theorem Tryz.ordersInfo:Tryz.prog.info? 59=some Tryz.t59:=by kernel_rfl
theorem Tryz.orderInfo:Tryz.prog.info? 41=some Tryz.t41:=by kernel_rfl
theorem Tryz.ordersDesc:Tryz.t59.desc=.slice 41:=by kernel_rfl
theorem Tryz.orderKind (w:World):(Rtype.kind 41).run Tryz.prog w=.ok 25 w:=by kernel_rfl
theorem Tryz.orderAgg (w:World):(isAgg 41).run Tryz.prog w=.ok true w:=by kernel_rfl
theorem Tryz.ordersPacked:Tryz.prog.packed 59=false:=by kernel_rfl
theorem Tryz.orderSize:Tryz.t41.size=5:=by kernel_rfl
theorem lB0 {N:Nat} (h:2≤N):Lib.swapperK N Tryz.t41 25=9:=by
 unfold Lib.swapperK;rw [if_neg (by simp;omega),if_neg (by simp;omega)]
 kernel_rfl
theorem eU1 (blk C N cap:Nat) (el:Nat→List Value) (hel:∀x,(el x).length=5) (h1:∀x,∀v∈el x,v.oneCell'=true):iJ0 Tryz.prog 176 #[.slice (some ⟨blk,0,none⟩) N cap,typeHandle Tryz.prog 41] blk C N el:=by
 intro W t hr i j hi hj _
 have cc:∀x,x<N→∀k v,(el (t x))[k]? = some v→W.cell? ⟨blk,0+x*Tryz.t41.size+k,none⟩=some v:=fun x hx k v hv=>by
  have hk:k<5:=by rw [←hel (t x)];exact (List.getElem?_eq_some_iff.1 hv).1
  rw [Tryz.orderSize,Nat.zero_add,(hr.cell hx hk).1,hv]
 have ff:∀x,x<N→∀k,k<Tryz.t41.size→W.frozen? ⟨blk,0+x*Tryz.t41.size+k,none⟩=false:=fun x hx k hk=>by
  rw [Tryz.orderSize] at hk ⊢;rw [Nat.zero_add];exact (hr.cell hx hk).2
 have hs:=Lib.run_swap_cells (P:=Tryz.prog) false 41 Tryz.t41 Tryz.orderInfo Tryz.orderAgg blk 0 N cap i j hi hj (el (t i)) (el (t j)) (by rw [hel,Tryz.orderSize]) (by rw [hel,Tryz.orderSize]) (h1 _) (h1 _) W (cc i hi) (cc j hj) (ff i hi) (ff j hj);rw [Tryz.orderSize,Nat.zero_add,Nat.zero_add] at hs;have hx:=@run_callFunc_extern Tryz.prog 176 _ (ReflectliteSwapper.swap false) Tryz.func176 (by kernel_rfl) (by kernel_rfl) (by kernel_rfl) (by kernel_rfl);rw [hx];show ((ReflectliteSwapper.swap false #[.int .i64 i,.int .i64 j,.slice (some ⟨blk,0,none⟩) N cap,typeHandle Tryz.prog 41]).run Tryz.prog W).andThen _=_;rw [hs];rfl
theorem iI0.later {P:Program} {g:Nat} {lb:Array Value} {w W:World} {blk C N:Nat} {el:Nat→List Value} {key:Nat→Int} {t:Nat→Nat} (h:iI0 P g lb w blk C N el key) (hm:Mv w W blk C N el t):iI0 P g lb W blk C N el key:=fun W' t' hm' i j hi hj=>h W' t' (hm.trans hm') i j hi hj
set_option maxRecDepth 4000 in
set_option maxHeartbeats 1000000 in
theorem pA0 (g:Nat) (lb:Array Value) (w:World) (blk C N cap:Nat) (el:Nat→List Value) (key:Nat→Int) (eg:∀args w,(callFunc g args).run Tryz.prog w=.ok (.enter g args) w) (hel:∀x,(el x).length=5) (h1:∀x,∀v∈el x,v.oneCell'=true)
  (hL:iI0 Tryz.prog g lb w blk C N el key) (h:RowT w blk C N el (fun x=>x)) (hN:N≤1000) (h2:2≤N):
  Calls Tryz.prog 77 #[.iface 59 (.slice (some ⟨blk,0,none⟩) N cap),.func (.func g) #[] lb] w fun e w'=>e=.returned (.tuple #[])∧∃u,Mv w w' blk C N el u∧Rea 0 N (fun x=>x) u∧Srt key u 0 N:=by
 have hv:=Lib.run_valueOf_slice (P:=Tryz.prog) 59 41 _ Tryz.ordersInfo Tryz.ordersDesc (some ⟨blk,0,none⟩) N cap w;have hs:=fun w=>Lib.run_swapper_slice (P:=Tryz.prog) 59 41 _ _ Tryz.ordersInfo Tryz.ordersDesc Tryz.orderInfo 25 Tryz.orderKind (some ⟨blk,0,none⟩) N cap 176 (by rw [lB0 h2];kernel_rfl) w
 have hl:=fun a w ha=>Lib.run_valueLen_slice (P:=Tryz.prog) 59 41 _ Tryz.ordersInfo Tryz.ordersDesc Tryz.ordersPacked a (some ⟨blk,0,none⟩) N cap w ha
 simp only [lB0 h2,show ¬(9≤2) by decide,if_false] at hs;simp only [typeHandle] at hv hl;have x1:=@run_callFunc_extern Tryz.prog 129 _ (fun args=>ReflectliteValue.unpack (args.getD 0 (.tuple #[]))) Tryz.func129 (by kernel_rfl) (by kernel_rfl) (by kernel_rfl) (by kernel_rfl)
 have x2:∀w,(callFunc 130 #[.iface 59 (.slice (some ⟨blk,0,none⟩) N cap)]).run Tryz.prog w=.ok (.value (.func (.func 176) #[] #[.slice (some ⟨blk,0,none⟩) N cap,typeHandle Tryz.prog 41])) w:=fun w=>
  (run_callFunc_extern Tryz.func130 (by kernel_rfl) (by kernel_rfl) (by kernel_rfl) (by kernel_rfl) _ _).trans (congrArg (fun r=>Result.andThen r fun v w'=>Result.ok (Next.value v) w') (hs w))
 have x3:=@run_callFunc_extern Tryz.prog 132 _ (ReflectliteValue.method (ReflectliteValue.valueError "reflectlite.Value.Len" 0) ReflectliteValue.len) Tryz.func132 (by kernel_rfl) (by kernel_rfl) (by kernel_rfl) (by kernel_rfl);have hng:Tryz.prog.globals.size=1:=by kernel_rfl
 have hl1:=hl ⟨w.heap.size,0,none⟩ ((w.alloc (.cells #[.slice (some ⟨blk,0,none⟩) N cap] 59)).alloc (.cells #[.pointer (some ⟨1,59,none⟩),.pointer (some ⟨w.heap.size,0,none⟩),.int .u64 151] 201)) ((World.cell?_alloc_lt _ _ ⟨w.heap.size,0,none⟩ (by simp)).trans (World.cell?_alloc_at _ _ _ _ rfl));rw [hng] at hv hl1;clear hl hng;have HS:Hid (iJ0 Tryz.prog 176 #[.slice (some ⟨blk,0,none⟩) N cap,typeHandle Tryz.prog 41] blk C N el):=eU1 blk C N cap el hel h1;have HL:Hid (iI0 Tryz.prog g lb w blk C N el key):=hL;have HR:Hid (RowT w blk C N el (fun x=>x)):=h;clear hL h h1 hs;go_enter Tryz.func77,Tryz.ntmps77;go_wp2_with fail;have hbW:=((Below.refl w.heap.size w).alloc lR7 (.cells #[.slice (some ⟨blk,0,none⟩) N cap] 59)).alloc (by simp) (.cells #[.pointer (some ⟨1,59,none⟩),.pointer (some ⟨w.heap.size,0,none⟩),.int .u64 151] 201);have hmW:=(Mv.start HR.out).below hbW lR7;refine (bQ1 g _ lb _ _ blk C N el key eg hel HS.out (HL.out.later hmW) hmW.row hN).mono ?_;rintro e w5 ⟨rfl,u,h5,r5,s5⟩;have H5:Hid (Mv w w5 blk C N el u):=hmW.trans h5;have R5:Hid _:=r5;have S5:Hid _:=s5;clear h5 r5 s5 hmW hbW hv hl1 x1 x2 x3;go_wp2_with fail;go_end0;exact ⟨rfl,u,H5.out,R5.out,S5.out⟩
set_option maxHeartbeats 400000 in
theorem uR0 (x y:Value) (n:Nat) (hn:n≤1) (w:World):Calls Tryz.prog 177 #[.agg #[x,y],.int .i64 0,.int .i64 n] w fun e w'=>e=.returned (.tuple #[])∧Below w.heap.size w w':=by
 go_enter Tryz.func177,Tryz.ntmps177;go_wp2_with fail;refine wp_loop_rounds 1 ?_;rw [rounds_succ];go_wp2_with fail;go_end0;exact ⟨rfl,(Below.refl _ _).alloc lR7 _⟩
set_option maxHeartbeats 400000 in
theorem xC0 (g sf:Nat) (lb sb:Array Value) (n:Nat) (hn:n≤1) (w:World):Calls Tryz.prog 131 #[.agg #[.func (.func g) #[] lb,.func (.func sf) #[] sb],.int .i64 n] w fun e w'=>e=.returned (.tuple #[])∧Below w.heap.size w w':=by
 go_enter Tryz.func131,Tryz.ntmps131;go_wp2_with fail;refine wp_loop_rounds 1 ?_;rw [rounds_succ];go_wp2_with fail;refine (uR0 _ _ n hn _).mono ?_;rintro e w1 ⟨rfl,hb1⟩;have HB:Hid (Below w.heap.size w w1):=((Below.refl _ _).alloc lR7 _).trans (hb1.mono (by simp));clear hb1;go_wp2_with fail;refine wp_loop_rounds 1 ?_;rw [rounds_succ];go_wp2_with fail;go_end0;exact ⟨rfl,HB.out⟩
theorem sJ0 {n:Nat} (h:n≤1):Lib.swapperK n Tryz.t41 25=n+1:=by
 unfold Lib.swapperK
 by_cases h0:n=0
 ·subst h0;rfl
 ·obtain rfl:n=1:=by omega
  rfl
set_option maxRecDepth 4000 in
set_option maxHeartbeats 1000000 in
theorem mY0 (g:Nat) (lb:Array Value) (w:World) (p:Option Addr) (n cap:Nat) (hn:n≤1):
  Calls Tryz.prog 77 #[.iface 59 (.slice p n cap),.func (.func g) #[] lb] w fun e w'=>e=.returned (.tuple #[])∧Below w.heap.size w w':=by
 have hv:=Lib.run_valueOf_slice (P:=Tryz.prog) 59 41 _ Tryz.ordersInfo Tryz.ordersDesc p n cap w;have hs:=fun f hf w=>Lib.run_swapper_slice (P:=Tryz.prog) 59 41 _ _ Tryz.ordersInfo Tryz.ordersDesc Tryz.orderInfo 25 Tryz.orderKind p n cap f hf w
 have hl:=fun a w ha=>Lib.run_valueLen_slice (P:=Tryz.prog) 59 41 _ Tryz.ordersInfo Tryz.ordersDesc Tryz.ordersPacked a p n cap w ha
 obtain ⟨f,hf⟩:∃f:Nat,∀w,(callFunc 130 #[.iface 59 (.slice p n cap)]).run Tryz.prog w=.ok (.value (.func (.func f) #[] #[])) w:=by
  simp only [sJ0 hn,show n+1≤2 by omega,if_true] at hs
  by_cases h0:n=0
  ·subst h0;exact ⟨168,fun w=>(run_callFunc_extern Tryz.func130 (by kernel_rfl) (by kernel_rfl) (by kernel_rfl) (by kernel_rfl) _ _).trans (congrArg (fun r=>Result.andThen r fun v w'=>Result.ok (Next.value v) w') (hs _ (by kernel_rfl) w))⟩
  ·obtain rfl:n=1:=by omega
   exact ⟨169,fun w=>(run_callFunc_extern Tryz.func130 (by kernel_rfl) (by kernel_rfl) (by kernel_rfl) (by kernel_rfl) _ _).trans (congrArg (fun r=>Result.andThen r fun v w'=>Result.ok (Next.value v) w') (hs _ (by kernel_rfl) w))⟩
 simp only [typeHandle] at hv hl;have x1:=@run_callFunc_extern Tryz.prog 129 _ (fun args=>ReflectliteValue.unpack (args.getD 0 (.tuple #[]))) Tryz.func129 (by kernel_rfl) (by kernel_rfl) (by kernel_rfl) (by kernel_rfl);have x3:=@run_callFunc_extern Tryz.prog 132 _ (ReflectliteValue.method (ReflectliteValue.valueError "reflectlite.Value.Len" 0) ReflectliteValue.len) Tryz.func132 (by kernel_rfl) (by kernel_rfl) (by kernel_rfl) (by kernel_rfl);have hng:Tryz.prog.globals.size=1:=by kernel_rfl
 have hl1:=hl ⟨w.heap.size,0,none⟩ ((w.alloc (.cells #[.slice p n cap] 59)).alloc (.cells #[.pointer (some ⟨1,59,none⟩),.pointer (some ⟨w.heap.size,0,none⟩),.int .u64 151] 201)) ((World.cell?_alloc_lt _ _ ⟨w.heap.size,0,none⟩ (by simp)).trans (World.cell?_alloc_at _ _ _ _ rfl));rw [hng] at hv hl1;clear hl hng hs;go_enter Tryz.func77,Tryz.ntmps77;go_wp2_with fail;refine (xC0 g _ lb _ n hn _).mono ?_;rintro e w5 ⟨rfl,hb5⟩;have HB:Hid (Below w.heap.size w w5):=(((Below.refl w.heap.size w).alloc lR7 _).alloc (by simp) _).trans (hb5.mono (by simp;omega));clear hb5 hv hl1 x1 x3 hf;go_wp2_with fail;go_end0;exact ⟨rfl,HB.out⟩
end Go.Proofs.YtjdkagafdnchhaaGreatDoor
namespace Go.Proofs.YtjdkagafdnchhaaGreatDoor
open Go.RowKit
theorem pB0:∀(N:Nat) (s:Nat→Nat),(∀x,x<N→s x<N)→(∀x y,x<N→y<N→s x=s y→x=y)→∀y,y<N→∃x,x<N∧s x=y
 | 0,_,_,_,y,hy=>by omega
 | N+1,s,hs,hi,y,hy=>by
  have ih:=pB0 N (fun x=>if s x=N then s N else s x) (fun x hx=>by
   show (if s x=N then s N else s x)<N;have h1:=hs x (by omega);have h2:=hs N (by omega);split
   ·rename_i e;rcases Nat.lt_or_ge (s N) N with h | h
    ·exact h
    ·have:=hi x N (by omega) (by omega) (by omega);omega
   ·omega) (fun x z hx hz e=>by
   have e':(if s x=N then s N else s x)=(if s z=N then s N else s z):=e;split at e' <;> split at e'
   ·exact hi x z (by omega) (by omega) (by omega)
   ·have:=hi N z (by omega) (by omega) e';omega
   ·have:=hi x N (by omega) (by omega) e';omega
   ·exact hi x z (by omega) (by omega) e')
  by_cases hyN:y=N
  ·subst hyN
   by_cases hN:s y=y
   ·exact ⟨y,by omega,hN⟩
   ·obtain ⟨x,hx,e⟩:=ih (s y) (by have:=hs y (by omega);omega);have e':(if s x=y then s y else s x)=s y:=e;split at e'
    ·rename_i e1;exact ⟨x,by omega,e1⟩
    ·have:=hi x y (by omega) (by omega) e';omega
  ·obtain ⟨x,hx,e⟩:=ih y (by omega);have e':(if s x=N then s N else s x)=y:=e;split at e'
   ·exact ⟨N,by omega,e'⟩
   ·exact ⟨x,by omega,e'⟩
def insK (key:Nat→Int) (a:Nat):List Nat→List Nat
 | []=>[a]
 | x::xs=>if key x≤key a then x::insK key a xs else a::x::xs
def bR1 (key:Nat→Int):Nat→List Nat
 | 0=>[]
 | n+1=>insK key n (bR1 key n)
theorem pC0 (key:Nat→Int) (a:Nat):∀T,(insK key a T).Perm (a::T)
 | []=>List.Perm.refl _
 | x::xs=>by
  unfold insK;split
  ·exact ((pC0 key a xs).cons x).trans (List.Perm.swap a x xs)
  ·exact List.Perm.refl _
theorem kB1 {key:Nat→Int} {a y:Nat} {T:List Nat}:y∈insK key a T↔y=a∨y∈T:=by
 rw [(pC0 key a T).mem_iff];simp
theorem zR0 {key:Nat→Int} {a:Nat}:∀{T:List Nat},T.Pairwise (Rk key)→(∀x∈T,x<a)→(insK key a T).Pairwise (Rk key)
 | [],_,_=>by simp [insK]
 | x::xs,hp,hl=>by
  obtain ⟨h1,h2⟩:=List.pairwise_cons.1 hp;unfold insK;split
  ·rename_i hk;refine List.pairwise_cons.2 ⟨fun y hy=>?_,zR0 h2 (fun z hz=>hl z (by simp [hz]))⟩;rcases kB1.1 hy with rfl | hy
   ·have:=hl x (by simp);unfold Rk;omega
   ·exact h1 y hy
  ·rename_i hk;refine List.pairwise_cons.2 ⟨fun y hy=>?_,hp⟩;rcases List.mem_cons.1 hy with rfl | hy
   ·exact Or.inl (by omega)
   ·have:=(h1 y hy).le;exact Or.inl (by omega)
theorem jN0 (key:Nat→Int):∀n,(bR1 key n).Perm (List.range n)
 | 0=>List.Perm.refl _
 | n+1=>by
  rw [List.range_succ];exact ((pC0 key n _).trans ((jN0 key n).cons n)).trans (List.perm_append_singleton n _).symm
theorem uS0 (key:Nat→Int):∀n,(bR1 key n).Pairwise (Rk key)
 | 0=>List.Pairwise.nil
 | n+1=>zR0 (uS0 key n) (fun x hx=>by have:=(jN0 key n).mem_iff.1 hx;simpa using this)
theorem bS1 {key:Nat→Int} {u:Nat→Nat} {N:Nat} (hr:Rea 0 N (fun x=>x) u) (hs:Srt key u 0 N):(List.range N).map u=bR1 key N:=by
 obtain ⟨s,h1,h2,h3,h4⟩:=hr;have hu:∀x,u x=s x:=fun x=>h4 x
 have lt:∀x,x<N→u x<N:=fun x hx=>by rw [hu];exact (h2 x (Nat.zero_le _) hx).2
 have nd:((List.range N).map u).Nodup:=by
  rw [List.Nodup,List.pairwise_map];refine (List.nodup_range (n:=N)).imp (fun {x y} hne e=>hne ?_);rw [hu,hu] at e;exact h3 x y e
 have pm:((List.range N).map u).Perm (List.range N):=by
  rw [List.perm_ext_iff_of_nodup nd List.nodup_range];intro y;rw [List.mem_map,List.mem_range];constructor
  ·rintro ⟨x,hx,rfl⟩;exact lt x (by simpa using hx)
  ·intro hy;obtain ⟨x,hx,e⟩:=pB0 N u lt (fun x z _ _ e=>by rw [hu,hu] at e;exact h3 x z e) y hy;exact ⟨x,by simpa using hx,e⟩
 have sp:((List.range N).map u).Pairwise (Rk key):=by
  rw [List.pairwise_map];refine List.pairwise_iff_getElem.2 (fun i j hi hj hij=>?_);simp only [List.length_range] at hi hj;simp only [List.getElem_range];exact hs i j (Nat.zero_le _) hij hj
 exact (pm.trans (jN0 key N).symm).eq_of_pairwise (fun a b _ _ h h'=>by unfold Rk at h h';omega) sp (uS0 key N)
theorem zS0 {α:Type} {rank:α→Int} {key:Nat→Int} {f:Nat→α} {a:Nat}:∀{T:List Nat},(∀x∈T,key x=rank (f x))→key a=rank (f a)→(insK key a T).map f=insL rank (f a) (T.map f)
 | [],_,_=>rfl
 | x::xs,h,ha=>by
  have hx:=h x (by simp);unfold insK insL;simp only [List.map_cons];rw [hx,ha];split
  ·rw [List.map_cons,zS0 (fun z hz=>h z (by simp [hz])) ha]
  ·rfl
theorem uT0 {α:Type} {rank:α→Int} {key:Nat→Int} {f:Nat→α}:∀(n:Nat),(∀x,x<n→key x=rank (f x))→(bR1 key n).map f=iS0 rank ((List.range n).map f)
 | 0,_=>rfl
 | n+1,h=>by
  rw [List.range_succ,List.map_append,List.map_singleton,fG0,←uT0 n (fun x hx=>h x (by omega))];show (insK key n (bR1 key n)).map f=_;exact zS0 (fun x hx=>h x (by have:=(jN0 key n).mem_iff.1 hx;simp at this;omega)) (h n (by omega))
end Go.Proofs.YtjdkagafdnchhaaGreatDoor
