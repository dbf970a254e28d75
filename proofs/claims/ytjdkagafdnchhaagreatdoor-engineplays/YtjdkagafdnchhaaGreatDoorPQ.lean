/- A part of the proof of EnginePlays. -/
import Derived.Test.YtjdkagafdnchhaaGreatDoorPA
import Derived.Test.YtjdkagafdnchhaaGreatDoorPG
import Derived.Test.YtjdkagafdnchhaaGreatDoorPF
import Derived.Lib.MinMax
import Derived.Maps.AppendAt
import Derived.Test.YtjdkagafdnchhaaGreatDoorPH
import Derived.Test.YtjdkagafdnchhaaGreatDoorPP
namespace Go.Proofs.YtjdkagafdnchhaaGreatDoor
open Go.RowKit
theorem kH0 {S:Nat→Prop} {w w':World} {p:Addr} (h:Out S w w') (hl:p.block<w.heap.size) (hS:¬S p.block):w'.cell? p=w.cell? p:=by
 have:=h.block p.block hl hS;unfold World.cell?;rw [this]
set_option maxRecDepth 4000 in
set_option maxHeartbeats 4000000 in
theorem pI1 (bb g:Nat) (s d a l p:Int) (w:World) (h:BnAt w bb s d a l) (hp:inB 1 1000000 p=true) (hg:w.cell? ⟨g,0,none⟩=some (.int .i64 1)) (hne:g≠bb):
  Calls Tryz.prog 148 #[.pointer (some ⟨bb,0,none⟩),.int .i64 p,.slice (some ⟨g,0,none⟩) 1 1] w fun e w'=>e=.returned .nilIface∧Out (fun j=>j=bb) w w'∧BnAt w' bb s d a p:=by
 have HA:Hid (BnAt w bb s d a l):=h;have HG:Hid (w.cell? ⟨g,0,none⟩=some (.int .i64 1)):=hg;have HN:Hid (g≠bb):=hne;have HP:Hid (inB 1 1000000 p=true):=hp;clear h hg hne hp;go_enter Tryz.func148,Tryz.ntmps148;go_wp2_with fail;refine (kK0 p 1 _).mono ?_;rintro e w1 ⟨rfl,hb⟩;have HO:Hid (Out (fun j=>j=bb) w w1):=Out.of_below hb lR7;have HA1:Hid (BnAt w1 bb s d a l):=HA.out.below hb;rw [hQ0,HP.out];clear hb;go_wp2;go_loopw [15] (fun v wr=>∃k:Nat,k≤1∧v=.int .i64 k∧Out (fun j=>j=bb) w wr∧(k=0→BnAt wr bb s d a l)∧(k=1→BnAt wr bb s d a p)) (fun v _=>1 - (intOf v).toNat)
 case atStart=>exact ⟨0,by omega,rfl,HO.out,fun _=>HA1.out,fun h=>absurd h (by decide)⟩
 case round=>
  obtain ⟨k,hk,rfl,ho,hq0,hq1⟩:=hrel;have HO2:Hid (Out (fun j=>j=bb) w wr):=ho;have HQ0:Hid (k=0→BnAt wr bb s d a l):=hq0;have HQ1:Hid (k=1→BnAt wr bb s d a p):=hq1;clear ho hq0 hq1;have hk01:k=0∨k=1:=by omega
  rcases hk01 with rfl | rfl
  ·have HB0:Hid (BnAt wr bb s d a l):=HQ0.out rfl;have c0:=(kH0 (p:=⟨g,0,none⟩) HO2.out (World.block_lt_of_cell? w _ HG.out) HN.out).trans HG.out;have c3:=cT0 (j:=3) HB0.out rfl;have f3:=wQ0 (j:=3) HB0.out;go_wp2;go_roundw
   case rel=>exact ⟨1,by omega,rfl,gO0 HO2.out (lY0 wr ⟨bb,3,none⟩ _),fun h=>absurd h (by decide),fun _=>dX1 (j:=3) (.int .i64 p) HB0.out⟩
   case measure=>simp [intOf]
  ·go_wp2;go_ret;exact ⟨rfl,HO2.out,HQ1.out (by trivial)⟩
set_option maxRecDepth 4000 in
set_option maxHeartbeats 4000000 in
theorem pJ1 (bb g:Nat) (s d a l p:Int) (w:World) (h:BnAt w bb s d a l) (hp:inB 1 1000000 p=true) (hg:w.cell? ⟨g,0,none⟩=some (.int .i64 0)) (hg1:w.cell? ⟨g,1,none⟩=some (.int .i64 1)) (hne:g≠bb):
  Calls Tryz.prog 148 #[.pointer (some ⟨bb,0,none⟩),.int .i64 p,.slice (some ⟨g,0,none⟩) 2 2] w fun e w'=>e=.returned .nilIface∧Out (fun j=>j=bb) w w'∧BnAt w' bb s d p p:=by
 have HA:Hid (BnAt w bb s d a l):=h;have HG:Hid (w.cell? ⟨g,0,none⟩=some (.int .i64 0)):=hg;have HG1:Hid (w.cell? ⟨g,1,none⟩=some (.int .i64 1)):=hg1;have HN:Hid (g≠bb):=hne;have HP:Hid (inB 1 1000000 p=true):=hp;clear h hg hne hp hg1;go_enter Tryz.func148,Tryz.ntmps148;go_wp2_with fail;refine (kK0 p 1 _).mono ?_;rintro e w1 ⟨rfl,hb⟩;have HO:Hid (Out (fun j=>j=bb) w w1):=Out.of_below hb lR7;have HA1:Hid (BnAt w1 bb s d a l):=HA.out.below hb;rw [hQ0,HP.out];clear hb;go_wp2;go_loopw [15] (fun v wr=>∃k:Nat,k≤2∧v=.int .i64 k∧Out (fun j=>j=bb) w wr∧(k=0→BnAt wr bb s d a l)∧(k=1→BnAt wr bb s d p l)∧(k=2→BnAt wr bb s d p p)) (fun v _=>2 - (intOf v).toNat)
 case atStart=>exact ⟨0,by omega,rfl,HO.out,fun _=>HA1.out,fun h=>absurd h (by decide),fun h=>absurd h (by decide)⟩
 case round=>
  obtain ⟨k,hk,rfl,ho,hq0,hq1,hq2⟩:=hrel;have HO2:Hid (Out (fun j=>j=bb) w wr):=ho;have HQ0:Hid (k=0→BnAt wr bb s d a l):=hq0;have HQ1:Hid (k=1→BnAt wr bb s d p l):=hq1;have HQ2:Hid (k=2→BnAt wr bb s d p p):=hq2;clear ho hq0 hq1 hq2;have hk01:k=0∨k=1∨k=2:=by omega
  rcases hk01 with rfl | rfl | rfl
  ·have HB0:Hid (BnAt wr bb s d a l):=HQ0.out rfl;have c0:=(kH0 (p:=⟨g,0,none⟩) HO2.out (World.block_lt_of_cell? w _ HG.out) HN.out).trans HG.out;have c2:=cT0 (j:=2) HB0.out rfl;have f2:=wQ0 (j:=2) HB0.out;go_wp2;go_roundw
   case rel=>exact ⟨1,by omega,rfl,gO0 HO2.out (lY0 wr ⟨bb,2,none⟩ _),fun h=>absurd h (by decide),fun _=>dX1 (j:=2) (.int .i64 p) HB0.out,fun h=>absurd h (by decide)⟩
   case measure=>simp [intOf]
  ·have HB0:Hid (BnAt wr bb s d p l):=HQ1.out rfl;have c0:=(kH0 (p:=⟨g,1,none⟩) HO2.out (World.block_lt_of_cell? w _ HG1.out) HN.out).trans HG1.out;have c3:=cT0 (j:=3) HB0.out rfl;have f3:=wQ0 (j:=3) HB0.out;go_wp2;go_roundw
   case rel=>exact ⟨2,by omega,rfl,gO0 HO2.out (lY0 wr ⟨bb,3,none⟩ _),fun h=>absurd h (by decide),fun h=>absurd h (by decide),fun _=>dX1 (j:=3) (.int .i64 p) HB0.out⟩
   case measure=>simp [intOf]
  ·go_wp2;go_ret;exact ⟨rfl,HO2.out,HQ2.out (by trivial)⟩
theorem pK1 (bb:Nat) (s d a l p:Int) (w:World) (h:BnAt w bb s d a l) (hp:inB 1 1000000 p=true):
  Calls Tryz.prog 97 #[.pointer (some ⟨bb,0,none⟩),.int .i64 p] w fun e w'=>e=.returned .nilIface∧Out (fun j=>j=bb) w w'∧BnAt w' bb s d a p:=by
 have HA:Hid (BnAt w bb s d a l):=h;have HP:Hid (inB 1 1000000 p=true):=hp;have HL:Hid (bb<w.heap.size):=lt_of_block h;clear h hp;go_enter Tryz.func97,Tryz.ntmps97;go_wp2_with fail;refine (pI1 bb _ s d a l p _ (HA.out.below (hD0 w _)) HP.out (by simp [go_sem]) (by have:=HL.out;omega)).mono ?_;rintro e w' ⟨rfl,ho,hn⟩;have HO:Hid (Out (fun j=>j=bb) w w'):=gO0 (Out.of_below (hD0 w _) lR7) ho;have HA2:Hid (BnAt w' bb s d a p):=hn;clear ho hn;go_wp2;go_ret;exact ⟨rfl,HO.out,HA2.out⟩
theorem tM1 (bb:Nat) (s d a l p:Int) (w:World) (h:BnAt w bb s d a l) (hp:inB 1 1000000 p=true):
  Calls Tryz.prog 160 #[.pointer (some ⟨bb,0,none⟩),.int .i64 p] w fun e w'=>e=.returned .nilIface∧Out (fun j=>j=bb) w w'∧BnAt w' bb s d p p:=by
 have HA:Hid (BnAt w bb s d a l):=h;have HP:Hid (inB 1 1000000 p=true):=hp;have HL:Hid (bb<w.heap.size):=lt_of_block h;clear h hp;go_enter Tryz.func160,Tryz.ntmps160;go_wp2_with fail;refine (pJ1 bb _ s d a l p _ (HA.out.below (hD0 w _)) HP.out (by simp [go_sem]) (by simp [go_sem]) (by have:=HL.out;omega)).mono ?_;rintro e w' ⟨rfl,ho,hn⟩;have HO:Hid (Out (fun j=>j=bb) w w'):=gO0 (Out.of_below (hD0 w _) lR7) ho;have HA2:Hid (BnAt w' bb s d p p):=hn;clear ho hn;go_wp2;go_ret;exact ⟨rfl,HO.out,HA2.out⟩
def fM1 (err:Value) (n:Int):Prop:=(err=.nilIface∧n=0)∨err=.iface 32 (.int .i64 n)
section
variable {w0 w:World} {bb rb m:Nat} {b:BkS} {v:Value} {L:List Ord}
theorem sM0 {S:Nat→List Ly} {n:Nat} {rs:List Sot} {fr:List Nat} (hp:Pb n rs fr S) (hl:Lnk S L):L.length≤100:=by have:=hp.most;have:=hl.len;omega
theorem fN1 (hl:Lnk b.S L) {s:Nat} (hs:s<2) {x:Ly} (hx:x∈b.S s):∃k,k<L.length∧idxO x.o.id L=k∧oAt L k=x.o:=by
 rcases kB0 x.o.id L 0 with h | ⟨k,hk,h1,h2⟩
 ·have h3:idxO x.o.id L=-1:=h;have:=hl.idx_yes hs hx;omega
 ·exact ⟨k,hk,by have:idxO x.o.id L=((0+k:Nat):Int):=h1;rw [this];congr 1;omega,hl.at hs hx hk h2⟩
theorem kR1 (h:Bk w bb m b) (hm:m+1≤900000) (hl:Lnk b.S L) (o:Ord) (hw:(Lit.int .i64 o.id).wf=true):
  Calls Tryz.prog 98 #[.pointer (some ⟨bb,0,none⟩),o.agg] w fun e W'=>∃err,e=.returned err∧fM1 err (addN o L)∧∃b',Lnk b'.S (addL o L)∧Goes w W' bb (m+1) b b':=by
 have stay:∀n:Int,n≠0→addN o L=n→addL o L=L:=fun n h1 h2=>by unfold addL;rw [if_neg (by rw [h2];exact h1)]
 refine (tE1 bb m b o w h hm hw).mono ?_;rintro e W' (⟨h1,rfl,hg⟩ | ⟨h1,h2,h3,rfl,hg⟩ | ⟨h1,h2,h3,h4,rfl,hg⟩ | ⟨h1,h2,h3,h4,h5,rfl,hg⟩ | ⟨h1,h2,h3,h4,h5,rfl,b',s,k,a,hs,hsd,hS,hg⟩)
 ·have hn:addN o L=1:=rT0 (by rw [←kR0];exact h1);exact ⟨_,rfl,Or.inr (by rw [hn]),b,by rw [stay 1 (by decide) hn];exact hl,hg⟩
 ·have hn:addN o L=2:=qM0 (by rw [←kR0];exact h1) h2 h3;exact ⟨_,rfl,Or.inr (by rw [hn]),b,by rw [stay 2 (by decide) hn];exact hl,hg⟩
 ·have hn:addN o L=9:=by
   rw [kP0 (by rw [←kR0];exact h1) h2 h3];obtain ⟨s,hs,x,hx,he⟩:=h4;rw [if_pos (by rw [←he];exact hl.idx_yes hs hx)]
  exact ⟨_,rfl,Or.inr (by rw [hn]),b,by rw [stay 9 (by decide) hn];exact hl,hg⟩
 ·have hlen:=hl.len
  have hn:addN o L=12:=by
   rw [kP0 (by rw [←kR0];exact h1) h2 h3,hl.idx_no h4,if_neg (by decide),if_pos (by omega)]
  exact ⟨_,rfl,Or.inr (by rw [hn]),b,by rw [stay 12 (by decide) hn];exact hl,hg⟩
 ·have hlen:=hl.len
  have hn:addN o L=0:=by
   rw [kP0 (by rw [←kR0];exact h1) h2 h3,hl.idx_no h4,if_neg (by decide),if_neg (by omega)]
  obtain ⟨hp1,_⟩:inB 1 1000000 (lieP o).price=true∧inB 1 1000000 (lieP o).qty=true:=by simpa [cI0] using h3
  have hpr:=dS0 hp1;refine ⟨_,rfl,Or.inl ⟨rfl,hn⟩,b',?_,hg⟩;unfold addL;rw [if_pos hn,hS,←jE1];exact hl.add hs (by rw [tM0];exact hsd) hpr (fun y hy=>by have:=hl.ok h.ok y hy;omega) (by rw [dI1];exact hl.none h4)
theorem xO0 (h:Bk w bb m b) (hm:m+1≤900000) (hl:Lnk b.S L) (id:Int) (hw:(Lit.int .i64 id).wf=true):
  Calls Tryz.prog 54 #[.pointer (some ⟨bb,0,none⟩),.int .i64 id] w fun e W'=>∃err,e=.returned (.tuple #[(canO id L).agg,err])∧fM1 err (canN id L)∧∃b',Lnk b'.S (canL id L)∧Goes w W' bb (m+1) b b':=by
 rcases nD0 b.S id with ⟨s,hs,x,hx,rfl⟩ | hno
 ·obtain ⟨k,hk,hi,ho⟩:=fN1 hl hs hx;have hne:¬idxO x.o.id L=-1:=by omega
  have hkk:(idxO x.o.id L).toNat=k:=by omega
  refine (lT0 bb m s b x w h hm hs hx).mono ?_;rintro e W' ⟨rfl,b',⟨i,hi2,hix,hS⟩,hg⟩;refine ⟨.nilIface,by unfold canO;rw [if_neg hne,hkk,ho],Or.inl ⟨rfl,by unfold canN;rw [if_neg hne]⟩,b',?_,hg⟩;unfold canL;rw [if_neg hne,hkk,hS];exact hl.gone h.ok hs hi2 hix hk (by rw [ho])
 ·have h1:=hl.idx_no hno;refine (tQ0 bb m b id w h hw hno).mono ?_;rintro e W' ⟨rfl,hb⟩;exact ⟨_,by unfold canO;rw [if_pos h1],Or.inr (by unfold canN;rw [if_pos h1]),b,by unfold canL;rw [if_pos h1];exact hl,Goes.stay h hb (Nat.le_succ _) hm⟩
theorem kS1 (h:Bk w bb m b) (hm:m+1≤900000) (hl:Lnk b.S L) (id q:Int) (hw:(Lit.int .i64 id).wf=true):
  Calls Tryz.prog 145 #[.pointer (some ⟨bb,0,none⟩),.int .i64 id,.int .i64 q] w fun e W'=>∃err,e=.returned err∧fM1 err (cutN id q L)∧∃b',Lnk b'.S (cutM id q L)∧Goes w W' bb (m+1) b b':=by
 rcases nD0 b.S id with ⟨s,hs,x,hx,rfl⟩ | hno
 ·obtain ⟨k,hk,hi,ho⟩:=fN1 hl hs hx;have hne:¬idxO x.o.id L=-1:=by omega
  have hkk:(idxO x.o.id L).toNat=k:=by omega
  by_cases hq:q<1∨x.o.qty<q
  ·have h3:(decide (1≤q)&& decide (q≤(oAt L k).qty))=false:=by
    rw [ho];rcases hq with hq | hq
    ·rw [decide_eq_false (by omega)];rfl
    ·rw [decide_eq_false (p:=q≤x.o.qty) (by omega)];exact Bool.and_false _
   refine (dP1 bb m s b x q w h hs hx hq).mono ?_;rintro e W' ⟨rfl,hb⟩;exact ⟨_,rfl,Or.inr (by unfold cutN;rw [if_neg hne,hkk,if_pos h3]),b,by unfold cutM;rw [if_neg hne,hkk,if_pos h3];exact hl,Goes.stay h hb (Nat.le_succ _) hm⟩
  ·have h3:¬(decide (1≤q)&& decide (q≤(oAt L k).qty))=false:=by
    rw [ho,decide_eq_true (by omega:1≤q),decide_eq_true (by omega:q≤x.o.qty)];decide
   by_cases he:q=x.o.qty
   ·subst he;refine (oF1 bb m s b x w h hm hs hx (by omega)).mono ?_;rintro e W' ⟨rfl,b',⟨i,hi2,hix,hS⟩,hg⟩;refine ⟨_,rfl,Or.inl ⟨rfl,by unfold cutN;rw [if_neg hne,hkk,if_neg h3]⟩,b',?_,hg⟩;unfold cutM;rw [if_neg hne,hkk,if_neg h3,if_pos (by rw [ho]),hS];exact hl.gone h.ok hs hi2 hix hk (by rw [ho])
   ·refine (jB1 bb m s b x q w h hm hs hx (by omega) (by omega)).mono ?_;rintro e W' ⟨rfl,hg⟩;refine ⟨_,rfl,Or.inl ⟨rfl,by unfold cutN;rw [if_neg hne,hkk,if_neg h3]⟩,_,?_,hg⟩;unfold cutM;rw [if_neg hne,hkk,if_neg h3,if_neg (by rw [ho];omega)];exact hl.cut h.ok hs hx hk (by rw [ho])
 ·have h1:=hl.idx_no hno;refine (rC1 bb m b id q w h hw hno).mono ?_;rintro e W' ⟨rfl,hb⟩;exact ⟨_,rfl,Or.inr (by unfold cutN;rw [if_pos h1]),b,by unfold cutM;rw [if_pos h1];exact hl,Goes.stay h hb (Nat.le_succ _) hm⟩
end
def wilP (p:Int) (o:Ord):Bool:=if (o.kind == 2)=true then true else if (o.side == 1)=true then decide (p≤o.price) else decide (o.price≤p)
theorem pL1 {s p:Int} {o:Ord} (hs:s=1∨s=2) (ho:o.side=s):wilP p o=wilB s p o:=by
 unfold wilP wilB;rw [ho];rcases hs with rfl | rfl
 ·by_cases h:(o.kind == 2)=true
  ·rw [if_pos h,h];rfl
  ·rw [if_neg h,show (o.kind == 2)=false from Bool.eq_false_iff.2 h];simp
 ·by_cases h:(o.kind == 2)=true
  ·rw [if_pos h,h];rfl
  ·rw [if_neg h,show (o.kind == 2)=false from Bool.eq_false_iff.2 h];simp
set_option maxHeartbeats 1000000 in
theorem pH0 (p:Int) (w:World):Calls Tryz.prog 142 #[.int .i64 p] w fun e w'=>e=.returned (.func (.func 183) #[] #[.pointer (some ⟨w.heap.size,0,none⟩)])∧w'=w.alloc (.cells #[.int .i64 p] 3):=by
 go_enter Tryz.func142,Tryz.ntmps142;go_wp2;go_ret;exact ⟨rfl,rfl⟩
set_option maxRecDepth 4000 in
set_option maxHeartbeats 1000000 in
theorem rS1 (p:Int) (o:Ord) (b:Nat) (w:World) (h:w.heap[b]? = some (.cells #[.int .i64 p] 3 (0,0))):
  Calls Tryz.prog 183 #[.agg #[.int .i64 o.id,.int .i64 o.side,.int .i64 o.kind,.int .i64 o.price,.int .i64 o.qty],.pointer (some ⟨b,0,none⟩)] w fun e w'=>e=.returned (.bool (wilP p o))∧Below w.heap.size w w':=by
 have hb:=bel1 w (.cells #[.int .i64 o.id,.int .i64 o.side,.int .i64 o.kind,.int .i64 o.price,.int .i64 o.qty] 41);have c0:=aA0 (j:=0) (aC0 h hb lR7) rfl;have HB:Hid _:=hb;clear h hb;unfold wilP;cases hk:(o.kind == 2) with
 | true=>
  go_enter Tryz.func183,Tryz.ntmps183;go_wp2;go_ret;exact ⟨rfl,HB.out⟩
 | false=>
  cases hs:(o.side == 1) with
  | true=>
   go_enter Tryz.func183,Tryz.ntmps183;go_wp2;go_ret;exact ⟨rfl,HB.out⟩
  | false=>
   go_enter Tryz.func183,Tryz.ntmps183;go_wp2;go_ret;exact ⟨rfl,HB.out⟩
set_option maxHeartbeats 1000000 in
theorem fO1 (bb m s:Nat) (b:BkS) (L:List Ord) (w:World) (h:Bk w bb m b) (hl:Lnk b.S L) (hs:s<2) (side:Int) (hsd:side=(s:Int)+1):
  Calls Tryz.prog 140 #[.pointer (some ⟨bb,0,none⟩),.int .i64 side] w fun e w'=>∃v,e=.returned v∧w'.ownsRow w.heap.size 41 5 v (aJ0 side L).length (oV (aJ0 side L))∧Below w.heap.size w w':=by
 have H:Hid (Bk w bb m b):=h;have e1:(b.S s).map Ly.o=aJ0 side L:=by rw [hsd];exact hl.side s hs
 have HE:Hid ((b.S s).map Ly.o=aJ0 side L):=e1;have HSD:Hid (side=(s:Int)+1):=hsd;clear h e1 hl hsd;go_enter Tryz.func140,Tryz.ntmps140;go_wp2_with fail;refine (nF0 bb m s b w H.out hs side HSD.out).mono ?_;rintro e w1 ⟨v,rfl,h1,h2⟩;rw [HE.out,show (b.S s).length=(aJ0 side L).length by rw [←HE.out,List.length_map]] at h1;have H1:Hid _:=h1;have H2:Hid _:=h2;clear h1 h2;go_wp2_with fail;go_ret;exact ⟨v,rfl,H1.out,H2.out⟩
set_option maxHeartbeats 1000000 in
theorem pM1 (s:Int) (hs:s=1∨s=2) (w:World):Calls Tryz.prog 141 #[.int .i64 s] w fun e w'=>e=.returned (.int .i64 (3 - s))∧w'=w:=by
 rcases hs with rfl | rfl
 ·go_enter Tryz.func141,Tryz.ntmps141;go_wp2;go_ret;exact ⟨rfl,rfl⟩
 ·go_enter Tryz.func141,Tryz.ntmps141;go_wp2;go_ret;exact ⟨rfl,rfl⟩
set_option maxRecDepth 4000 in
set_option maxHeartbeats 2000000 in
theorem qX0 (o x:Ord) (p:Int) (w:World) (hs:(o.side == 2)=false):
  Calls Tryz.prog 144 #[.agg #[.int .i64 o.id,.int .i64 o.side,.int .i64 o.kind,.int .i64 o.price,.int .i64 o.qty],.agg #[.int .i64 x.id,.int .i64 x.side,.int .i64 x.kind,.int .i64 x.price,.int .i64 x.qty],.int .i64 p] w
   fun e w'=>e=.returned (.agg #[.int .i64 o.id,.int .i64 x.id,.int .i64 p,.int .i64 (min o.qty x.qty)])∧Below w.heap.size w w':=by
 have HS:Hid ((o.side == 2)=false):=hs;go_enter Tryz.func144,Tryz.ntmps144;go_wp2_with fail;refine bodyPost_ret (by simp [results,Tryz.results144,go_sem];try rfl) rfl ?_;refine ⟨rfl,?_⟩
 (repeat' first | assumption | exact Below.refl _ _ | exact lR7 | refine Below.alloc ?_ ?_ _ | refine Below.setCell ?_ ?_ _ | (simp;done) | (simp;omega))
set_option maxRecDepth 4000 in
set_option maxHeartbeats 4000000 in
theorem cA1 (o x:Ord) (p:Int) (w:World) (hs:(o.side == 2)=true):
  Calls Tryz.prog 144 #[.agg #[.int .i64 o.id,.int .i64 o.side,.int .i64 o.kind,.int .i64 o.price,.int .i64 o.qty],.agg #[.int .i64 x.id,.int .i64 x.side,.int .i64 x.kind,.int .i64 x.price,.int .i64 x.qty],.int .i64 p] w
   fun e w'=>e=.returned (.agg #[.int .i64 x.id,.int .i64 o.id,.int .i64 p,.int .i64 (min x.qty o.qty)])∧Below w.heap.size w w':=by
 have HS:Hid ((o.side == 2)=true):=hs;go_enter Tryz.func144,Tryz.ntmps144;go_wp2_with fail;refine bodyPost_ret (by simp [results,Tryz.results144,go_sem];try rfl) rfl ?_;refine ⟨rfl,?_⟩
 (repeat' first | assumption | exact Below.refl _ _ | exact lR7 | refine Below.alloc ?_ ?_ _ | refine Below.setCell ?_ ?_ _ | (simp;done) | (simp;omega))
def iO0 (p:Int) (X:List Ord):Int:=(X.map fun o=>if wilP p o=true then o.qty else 0).sum
theorem qY0 {X:List Ord} {k:Nat} (p:Int) (h:k<X.length):iO0 p (X.take (k+1))=iO0 p (X.take k)+(if wilP p (oAt X k)=true then (oAt X k).qty else 0):=by
 unfold iO0;rw [List.take_succ_eq_append_getElem h,List.map_append,List.sum_append,←dL0 h];simp
theorem kT1 {f:Ord→Int} {a b:List Ord} (h:a.Perm b):(a.map f).sum=(b.map f).sum:=by
 induction h with
 | nil=>rfl
 | cons x _ ih=>simp [ih]
 | swap x y l=>simp;omega
 | trans _ _ i1 i2=>exact i1.trans i2
theorem zY0 (s p:Int) (hs:s=1∨s=2):∀L:List Ord,iO0 p (aX0 s L)=wilL s p L
 | []=>rfl
 | o::L=>by
  have ih:=zY0 s p hs L;rw [bQ0,←ih];unfold aX0
  by_cases h:(o.side == s)=true
  ·have e:(o::L).filter (fun o=>o.side == s)=o::L.filter (fun o=>o.side == s):=List.filter_cons_of_pos (by exact h);rw [e,h,Bool.true_and,←pL1 hs (beq_iff_eq.1 h)];rfl
  ·have e:(o::L).filter (fun o=>o.side == s)=L.filter (fun o=>o.side == s):=List.filter_cons_of_neg (by exact h);rw [e,if_neg (by rw [show (o.side == s)=false from Bool.eq_false_iff.2 h];simp)];omega
theorem kU1 {s p:Int} (hs:s=1∨s=2) (L:List Ord):iO0 p (aJ0 s L)=wilL s p L:=by
 rw [←zY0 s p hs L];exact kT1 (eM0 _ _)
theorem zZ0 {p:Int} {X:List Ord} (h:∀o∈X,1≤o.qty∧o.qty≤1000000):∀k,k≤X.length→0≤iO0 p (X.take k)∧iO0 p (X.take k)≤1000000*(k:Int)
 | 0,_=>by simp [iO0]
 | k+1,hk=>by
  have ih:=zZ0 (p:=p) h k (by omega);have hx:=h (oAt X k) (oG0 (by omega));rw [qY0 p (by omega)];split <;> omega
set_option maxRecDepth 4000 in
set_option maxHeartbeats 4000000 in
theorem aA1 (bb m s:Nat) (b:BkS) (L:List Ord) (p:Int) (pb:Nat) (w:World) (h:Bk w bb m b) (hl:Lnk b.S L) (hok:LOk L) (hs:s<2) (side:Int) (hsd:side=(s:Int)+1) (hp:w.heap[pb]? = some (.cells #[.int .i64 p] 3 (0,0))):
  Calls Tryz.prog 194 #[.pointer (some ⟨bb,0,none⟩),.int .i64 side,.func (.func 183) #[] #[.pointer (some ⟨pb,0,none⟩)]] w fun e w'=>e=.returned (.int .i64 (wilL side p L))∧Below w.heap.size w w':=by
 have H:Hid (Bk w bb m b):=h;have HL:Hid (Lnk b.S L):=hl;have HP:Hid (w.heap[pb]? = some (.cells #[.int .i64 p] 3 (0,0))):=hp;have HQ:Hid (∀o∈aJ0 side L,1≤o.qty∧o.qty≤1000000):=fun o ho=>(hok.ok o (bC0.1 ho).1).2.2
 have hlen:(aJ0 side L).length≤100:=Nat.le_trans (hK0 _ _) (sM0 h.ok hl);have HW:Hid (iO0 p (aJ0 side L)=wilL side p L):=kU1 (by omega) L;have HSD:Hid (side=(s:Int)+1):=hsd;clear h hl hp hok hsd;go_enter Tryz.func194,Tryz.ntmps194;go_wp2_with fail;refine (fO1 bb m s b L w H.out HL.out hs side HSD.out).mono ?_;rintro e w1 ⟨v,rfl,h1,h2⟩;obtain ⟨xa,xc,rfl,_,_⟩:=bB0 h1;have HR:Hid _:=h1;have HB:Hid (Below w.heap.size w w1):=h2;have HP1:Hid (w1.heap[pb]? = some (.cells #[.int .i64 p] 3 (0,0))):=aC0 HP.out h2 lR7;clear h1 h2 HL H HP;generalize aJ0 side L=X at *;go_wp2_with fail;go_loopw [7,9,14] (fun u7 _ u14 wr=>∃k:Nat,k≤X.length∧u14=.int .i64 k∧u7=.int .i64 (iO0 p (X.take k))∧Below w1.heap.size w1 wr) (fun _ _ u14 _=>X.length - (intOf u14).toNat)
 case atStart=>exact ⟨0,Nat.zero_le _,rfl,rfl,Below.refl _ _⟩
 case round=>
  obtain ⟨k,hk,rfl,rfl,hb⟩:=hrel;have HBR:Hid (Below w1.heap.size w1 wr):=hb
  by_cases hk1:k<X.length
  ·have hlt:(k:Int)<(X.length:Int):=by omega
   obtain ⟨g,cap,e,d0,d1,d2,d3,d4⟩:=cD0 (aO0 HR.out hb lR7) hk1;injection e with e1 _ e2;subst e1 e2;have hin:=zZ0 (p:=p) HQ.out k hk;have HT:Hid (iO0 p (X.take (k+1))=iO0 p (X.take k)+(if wilP p (oAt X k)=true then (oAt X k).qty else 0)):=qY0 p hk1;have hq:=HQ.out (oAt X k) (oG0 hk1);generalize oAt X k=x at d0 d1 d2 d3 d4 HT hq;generalize iO0 p (X.take k)=n at *;clear hb;go_wp2_with fail;have hbA:=bel1 wr (.cells #[.int .i64 x.id,.int .i64 x.side,.int .i64 x.kind,.int .i64 x.price,.int .i64 x.qty] 41);have hxA:=heap_alloc_new wr (.cells #[.int .i64 x.id,.int .i64 x.side,.int .i64 x.kind,.int .i64 x.price,.int .i64 x.qty] 41);generalize wr.alloc (.cells #[.int .i64 x.id,.int .i64 x.side,.int .i64 x.kind,.int .i64 x.price,.int .i64 x.qty] 41)=W at hbA hxA ⊢;have HBW:Hid (Below w1.heap.size w1 W):=aD0 HBR.out hbA;refine (rS1 p x pb W (aC0 HP1.out HBW.out lR7)).mono ?_;rintro e w4 ⟨rfl,hb4⟩;have x4:=aA0 (j:=4) (aC0 hxA hb4 lR7) rfl;have HB4:Hid (Below w1.heap.size w1 w4):=aD0 HBW.out hb4;clear hbA hxA hb4 d0 d1 d2 d3 d4;cases hw:wilP p x with
   | true=>
    have HT2:Hid (iO0 p (X.take (k+1))=n+x.qty):=by have:=HT.out;rw [hw,if_pos rfl] at this;exact this
    go_wp2_with fail;go_roundw
    case rel=>exact ⟨k+1,hk1,by go_num,by rw [HT2.out],HB4.out⟩
    case measure=>simp [intOf];omega
   | false=>
    have HT2:Hid (iO0 p (X.take (k+1))=n):=by have:=HT.out;rw [hw,if_neg (by decide)] at this;rw [this];exact Int.add_zero _
    go_wp2_with fail;go_roundw
    case rel=>exact ⟨k+1,hk1,by go_num,by rw [HT2.out],HB4.out⟩
    case measure=>simp [intOf];omega
  ·have hkx:k=X.length:=by omega
   have HT2:Hid (iO0 p (X.take k)=iO0 p X):=by show _=_;rw [List.take_of_length_le (by omega)]
   generalize iO0 p (X.take k)=n at *;clear hb;go_wp2_with fail;go_ret;exact ⟨by rw [HT2.out,HW.out];rfl,aD0 HB.out HBR.out⟩
theorem Tryz.infoFp:(Tryz.prog.info? 115).map (fun i=>(i.zero,i.size,i.bytes))=some (some (.agg #[.int .i64 0,.int .i64 0,.int .i64 0,.int .i64 0]),4,32):=by kernel_rfl
theorem Bk.farAny {w:World} {bb m base size n:Nat} {e:TypeId} {b:BkS} {v:Value} {xs:List Value} (h:Bk w bb m b) (hr:w.ownsRow base e size v n xs) (h1:e≠157) (h2:e≠221) (h3:e≠237) (h4:e≠3) (h5:e≠169):∀k,v.ownBlock=some k→¬b.foot bb k:=fun k hk f=>by
 rcases f with f | f | f | f | f
 ·exact aG0 hr h.at_.box h1.symm (by rw [hk,f])
 ·rcases f with f | f | f
  ·exact aG0 hr h.at_.ar.box h2.symm (by rw [hk,f])
  ·exact bG0 hr h.at_.ar.slots h3 hk f
  ·exact bG0 hr h.at_.ar.free h4 hk f
 ·exact cS0 hr h.at_.map (by rw [hk,f])
 ·exact bG0 hr h.at_.row0 h5 hk f
 ·exact bG0 hr h.at_.row1 h5 hk f
theorem Bk.farBox {w:World} {bb m k:Nat} {b:BkS} {vs:Array Value} {t:TypeId} (h:Bk w bb m b) (hk:w.heap[k]? = some (.cells vs t (0,0))) (h1:t≠157) (h2:t≠221) (h3:t≠237) (h4:t≠3) (h5:t≠169):¬b.foot bb k:=fun e=>by
 rcases e with e | e | e | e | e
 ·exact cV0 hk h.at_.box h1 e
 ·rcases e with e | e | e
  ·exact cV0 hk h.at_.ar.box h2 e
  ·exact aG0 h.at_.ar.slots hk h3 e
  ·exact aG0 h.at_.ar.free hk h4 e
 ·exact h.at_.map.ne hk e
 ·exact aG0 h.at_.row0 hk h5 e
 ·exact aG0 h.at_.row1 hk h5 e
set_option maxRecDepth 4000 in
set_option maxHeartbeats 4000000 in
theorem cpFills_no (bb m:Nat) (b:BkS) (L:List Ord) (p q:Int) (w:World) (h:Bk w bb m b) (hl:Lnk b.S L) (hok:LOk L) (hno:¬(1≤q∧q≤min (wilL 1 p L) (wilL 2 p L))):
  Calls Tryz.prog 159 #[.pointer (some ⟨bb,0,none⟩),.int .i64 p,.int .i64 q] w fun e w'=>e=.returned (.tuple #[.slice none 0 0,.iface 32 (.int .i64 2)])∧Below w.heap.size w w':=by
 have H:Hid (Bk w bb m b):=h;have HL:Hid (Lnk b.S L):=hl;have HK:Hid (LOk L):=hok;clear h hl hok;go_enter Tryz.func159,Tryz.ntmps159;go_wp2_with fail;refine (pH0 p w).mono ?_;rintro e w1 ⟨rfl,rfl⟩;have hb1:=bel1 w (.cells #[.int .i64 p] 3);have hp1:=heap_alloc_new w (.cells #[.int .i64 p] 3);generalize w.alloc (.cells #[.int .i64 p] 3)=w1 at hb1 hp1 ⊢;have HB1:Hid (Below w.heap.size w w1):=hb1;have HP1:Hid _:=hp1;clear hb1 hp1
 by_cases hq:q<1
 ·go_wp2_with fail;go_ret2;exact ⟨rfl,HB1.out⟩
 ·have hq2:decide (q>min (wilL 1 p L) (wilL 2 p L))=true:=decide_eq_true (by omega);go_wp2_with fail;refine (aA1 bb m 0 b L p w.heap.size w1 (H.out.below HB1.out lR7) HL.out HK.out (by decide) 1 rfl HP1.out).mono ?_;rintro e w2 ⟨rfl,hb2⟩;have HB2:Hid (Below w.heap.size w w2):=aD0 HB1.out hb2;have HP2:Hid _:=aC0 HP1.out hb2 lR7;clear hb2;go_wp2_with fail;refine (aA1 bb m 1 b L p w.heap.size w2 (H.out.below HB2.out lR7) HL.out HK.out (by decide) 2 rfl HP2.out).mono ?_;rintro e w3 ⟨rfl,hb3⟩;have HB3:Hid (Below w.heap.size w w3):=aD0 HB2.out hb3;clear hb3;go_wp2_with fail;go_ret2;exact ⟨rfl,HB3.out⟩
def FBox (w:World) (b:Nat) (f:Fil):Prop:=w.heap[b]? = some (.cells #[.int .i64 f.buyer,.int .i64 f.seller,.int .i64 f.price,.int .i64 f.qty] 115 (0,0))
structure Cpt (w W:World) (bb m:Nat) (b b':BkS) (L:List Ord) (fs:List Fil) (vf:Value):Prop where
 bk:Bk W bb m b'
 lnk:Lnk b'.S L
 since:oC0 w W bb b b'
 fils:W.ownsRow w.heap.size 115 4 vf fs.length (fV fs)
section
variable {w W W':World} {bb m m' k:Nat} {b b' b2:BkS} {L L':List Ord} {fs:List Fil} {vf v':Value} {x:Ord} {f:Fil} {obj:Obj}
theorem Cpt.below (h:Cpt w W bb m b b' L fs vf) (hb:Below W.heap.size W W'):Cpt w W' bb m b b' L fs vf:=⟨h.bk.below hb lR7,h.lnk,h.since.below hb,aO0 h.fils hb lR7⟩
theorem Cpt.goes (h:Cpt w W bb m b b' L fs vf) (hg:Goes W W' bb m' b' b2) (hl:Lnk b2.S L'):Cpt w W' bb m' b b2 L' fs vf:=
 ⟨hg.1,hl,h.since.goes hg,aI0 h.fils hg.2.1 (h.bk.farAny h.fils (by decide) (by decide) (by decide) (by decide) (by decide))⟩
theorem Cpt.pushed (_:Cpt w W bb m b b' L fs vf) (hg:(W.alloc obj).grownBy W' vf.ownBlock):Out (fun j=>vf.ownBlock=some j) W W':=bE0 (cP0 (Out.refl _ _) _) (Out.of_grown hg (fun _ hk=>hk))
theorem Cpt.push (h:Cpt w W bb m b b' L fs vf) (hg:(W.alloc obj).grownBy W' vf.ownBlock) (hn:W'.ownsRow w.heap.size 115 4 v' (fs.length+1) (fV fs++[.int .i64 f.buyer,.int .i64 f.seller,.int .i64 f.price,.int .i64 f.qty])):Cpt w W' bb m b b' L (fs++[f]) v':=by
 have h6:=h.pushed hg;refine ⟨h.bk.out h6 (fun k hk e=>h.bk.farAny h.fils (by decide) (by decide) (by decide) (by decide) (by decide) k e hk),h.lnk,⟨h.since.1.trans h6 (fun k hk=>Or.inr (h.fils.lt k hk).1),h.since.2⟩,?_⟩;rw [rW0,List.length_append,List.length_singleton];exact hn
theorem Cpt.boxF (h:Cpt w W bb m b b' L fs vf) (hg:Goes W W' bb m' b' b2) (hx:FBox W k f):FBox W' k f:=aE0 hx hg.2.1 (h.bk.farBox hx (by decide) (by decide) (by decide) (by decide) (by decide))
theorem fP1 (hl:Lnk b.S L) {s:Nat} (hs:s<2) {T:List Ord} (h:aJ0 ((s:Int)+1) L=x::T):wM0 ((b.S s).map Ly.o)=.tuple #[.agg #[.int .i64 x.id,.int .i64 x.side,.int .i64 x.kind,.int .i64 x.price,.int .i64 x.qty],.nilIface]:=by
 rw [hl.side s hs,h];rfl
theorem nD1 (h:Bk w bb m b) (hl:Lnk b.S L) (hx:x∈L):(Lit.int .i64 x.id).wf=true:=by
 obtain ⟨s,hs,y,hy,rfl⟩:=hl.mem.1 hx;exact (h.ok.ok s hs y hy).2.1
end
theorem pI0 (bb m:Nat) (b:BkS) (L:List Ord) (o:Ord) (n:Int) (w:World) (h:Bk w bb m b) (hm:m+1≤900000) (hl:Lnk b.S L) (hok:LOk L) (ho:o∈L) (hn:1≤n∧n≤o.qty):
  Calls Tryz.prog 145 #[.pointer (some ⟨bb,0,none⟩),.int .i64 o.id,.int .i64 n] w fun e w'=>∃err,e=.returned err∧∃b',Lnk b'.S (bH0 o.id n L)∧Goes w w' bb (m+1) b b':=by
 refine (kS1 h hm hl o.id n (nD1 h hl ho)).mono ?_;rintro e w' ⟨err,rfl,_,b',h1,h2⟩;rw [(tY0 hok ho hn).1] at h1;exact ⟨err,rfl,b',h1,h2⟩
set_option maxRecDepth 4000 in
set_option maxHeartbeats 8000000 in
theorem pN1 (bb m:Nat) (b:BkS) (L:List Ord) (p q:Int) (w:World) (h:Bk w bb m b) (hm:m≤800000) (hl:Lnk b.S L) (hok:LOk L) (hq:1≤q∧q≤min (wilL 1 p L) (wilL 2 p L)):
  Calls Tryz.prog 159 #[.pointer (some ⟨bb,0,none⟩),.int .i64 p,.int .i64 q] w fun e w'=>∃(K:Nat) (vf:Value),e=.returned (.tuple #[vf,.nilIface])∧(aT0 p ⟨[],L,q⟩ K).q=0∧(∀j,j<K→0<(aT0 p ⟨[],L,q⟩ j).q)∧∃b',Cpt w w' bb (m+2*K) b b' (aT0 p ⟨[],L,q⟩ K).L (aT0 p ⟨[],L,q⟩ K).fs vf:=by
 obtain ⟨iF,hiF,hF0,hF1,hF2⟩:=info_parts Tryz.infoFp;have H:Hid (Bk w bb m b):=h;have HL:Hid (Lnk b.S L):=hl;have HK:Hid (LOk L):=hok;have HF0:Hid (FOk p ⟨[],L,q⟩):=⟨hok,by show 0≤q;omega,by show q≤wilL 1 p L;omega,by show q≤wilL 2 p L;omega⟩;have hL100:L.length≤100:=sM0 h.ok hl;have hqs:q≤100000000:=by have:=oJ0 1 p hok;omega
 have hq1:¬q<1:=by omega
 have hq2:decide (q>min (wilL 1 p L) (wilL 2 p L))=false:=decide_eq_false (by omega);clear h hl hok hq;go_enter Tryz.func159,Tryz.ntmps159;go_wp2_with fail;refine (pH0 p w).mono ?_;rintro e w1 ⟨rfl,rfl⟩;have hb1:=bel1 w (.cells #[.int .i64 p] 3);have hp1:=heap_alloc_new w (.cells #[.int .i64 p] 3);generalize w.alloc (.cells #[.int .i64 p] 3)=w1 at hb1 hp1 ⊢;have HB1:Hid (Below w.heap.size w w1):=hb1;have HP1:Hid _:=hp1;clear hb1 hp1;go_wp2_with fail;refine (aA1 bb m 0 b L p w.heap.size w1 (H.out.below HB1.out lR7) HL.out HK.out (by decide) 1 rfl HP1.out).mono ?_;rintro e w2 ⟨rfl,hb2⟩;have HB2:Hid (Below w.heap.size w w2):=aD0 HB1.out hb2;have HP2:Hid _:=aC0 HP1.out hb2 lR7;clear hb2;go_wp2_with fail;refine (aA1 bb m 1 b L p w.heap.size w2 (H.out.below HB2.out lR7) HL.out HK.out (by decide) 2 rfl HP2.out).mono ?_;rintro e w3 ⟨rfl,hb3⟩;have HB3:Hid (Below w.heap.size w w3):=aD0 HB2.out hb3;clear hb3;go_wp2_with fail;clear hq2 hq1;go_loopw [2,9,10,11,12,13,14] (fun u2 u9 _ _ _ _ _ wr=>∃(k:Nat) (b':BkS),u2=.int .i64 (aT0 p ⟨[],L,q⟩ k).q∧(∀j,j<k→0<(aT0 p ⟨[],L,q⟩ j).q)∧(aT0 p ⟨[],L,q⟩ k).fs.length=k∧(k:Int)+(aT0 p ⟨[],L,q⟩ k).q≤q∧Cpt w wr bb (m+2*k) b b' (aT0 p ⟨[],L,q⟩ k).L (aT0 p ⟨[],L,q⟩ k).fs u9) (fun u2 _ _ _ _ _ _ _=>(intOf u2).toNat)
 case atStart=>exact ⟨0,b,rfl,fun j hj=>absurd hj (by omega),rfl,by show (0:Int)+q≤q;omega,H.out.below HB3.out lR7,HL.out,(oC0.refl _ _ _).below HB3.out,World.ownsRow_nil _ _ _ _⟩
 case round=>
  obtain ⟨k,b',rfl,hj,hfl,hkq,hC⟩:=hrel;have HJ:Hid (∀j,j<k→0<(aT0 p ⟨[],L,q⟩ j).q):=hj;have HFO:Hid (FOk p (aT0 p ⟨[],L,q⟩ k)):=gG0 HF0.out k hj;have hq0:=HFO.out.nn;have HC:Hid (Cpt w wr bb (m+2*k) b b' (aT0 p ⟨[],L,q⟩ k).L (aT0 p ⟨[],L,q⟩ k).fs u9):=hC;obtain ⟨fa,fc,rfl,_,_⟩:=bB0 hC.fils;have HFL:Hid ((aT0 p ⟨[],L,q⟩ k).fs.length=k):=hfl;clear hj hfl
  by_cases hq1:0<(aT0 p ⟨[],L,q⟩ k).q
  ·have HST:Hid (aT0 p ⟨[],L,q⟩ (k+1)=eD0 p (aT0 p ⟨[],L,q⟩ k)):=rfl
   have HJ2:Hid (∀j,j<k+1→0<(aT0 p ⟨[],L,q⟩ j).q):=fun j hj=>by
    by_cases e:j=k
    ·subst e;exact hq1
    ·exact HJ.out j (by omega)
   have hfew:k+(aT0 p ⟨[],L,q⟩ k).L.length≤L.length:=hN0 HF0.out k HJ2.out;obtain ⟨⟨x,T,y,U,hS1,hS2,hbx,hby,hxL,hyL,hy1,n1,n2,n3,n4,c1,hL2,c2,c4,ok1⟩,hFO2⟩:=gZ0 HFO.out hq1;generalize aT0 p ⟨[],L,q⟩ k=s at *;have HLN:Hid (lotN s=min x.qty (min y.qty s.q)):=by show lotN s=_;unfold lotN;rw [hbx,hby];omega
   have HFS:Hid ((eD0 p s).fs=s.fs++[⟨x.id,y.id,p,lotN s⟩]∧(eD0 p s).q=s.q - lotN s):=⟨by show s.fs++[_]=_;rw [hbx,hby],rfl⟩;have HBX:Hid (wM0 ((b'.S 0).map Ly.o)=.tuple #[.agg #[.int .i64 x.id,.int .i64 x.side,.int .i64 x.kind,.int .i64 x.price,.int .i64 x.qty],.nilIface]):=fP1 hC.lnk (by decide) hS1;have HBY:Hid (wM0 ((b'.S 1).map Ly.o)=.tuple #[.agg #[.int .i64 y.id,.int .i64 y.side,.int .i64 y.kind,.int .i64 y.price,.int .i64 y.qty],.nilIface]):=fP1 hC.lnk (by decide) hS2;have HM:Hid (x∈s.L∧y∈bH0 x.id (lotN s) s.L∧LOk (bH0 x.id (lotN s) s.L)∧(eD0 p s).L=bH0 y.id (lotN s) (bH0 x.id (lotN s) s.L)∧lotN s≤x.qty∧lotN s≤y.qty):=⟨hxL,hy1,ok1,hL2,n3,n4⟩;have px:=HFO.out.ok.ok x hxL;have py:=HFO.out.ok.ok y hyL
   have hxs:(x.side == 2)=false:=by
    have:x∈aJ0 1 s.L:=by rw [hS1];exact List.mem_cons_self ..
    rw [(bC0.1 this).2];rfl
   clear hS1 hS2 hbx hby hxL hyL hy1 c1 hL2 c2 c4 ok1 n3 n4 HJ hC;go_wp2_with fail;refine (mP1 bb (m+2*k) 0 b' wr HC.out.bk (by decide) 1 rfl).mono ?_;rintro e w4 ⟨rfl,hb4⟩;rw [HBX.out];have HC4:Hid _:=HC.out.below hb4;clear hb4 HC;go_wp2_with fail;have hb5:=bel1 w4 (.cells #[.int .i64 x.id,.int .i64 x.side,.int .i64 x.kind,.int .i64 x.price,.int .i64 x.qty] 41);have hx5:=heap_alloc_new w4 (.cells #[.int .i64 x.id,.int .i64 x.side,.int .i64 x.kind,.int .i64 x.price,.int .i64 x.qty] 41);generalize w4.alloc (.cells #[.int .i64 x.id,.int .i64 x.side,.int .i64 x.kind,.int .i64 x.price,.int .i64 x.qty] 41)=w5 at hb5 hx5 ⊢;have HC5:Hid _:=HC4.out.below hb5;clear hb5 HC4;refine (mP1 bb (m+2*k) 1 b' w5 HC5.out.bk (by decide) 2 rfl).mono ?_;rintro e w6 ⟨rfl,hb6⟩;rw [HBY.out];have HC6:Hid _:=HC5.out.below hb6;have hx6:=aC0 hx5 hb6 lR7;clear hb6 HC5 hx5;have HX6:Hid _:=hx6;clear hx6;have hne:∀j,(Value.slice fa s.fs.length fc).ownBlock=some j→j<w6.heap.size:=fun j hj=>(HC6.out.fils.lt j hj).2
   have HNE:Hid _:=hne;clear hne;go_upto_region 8 with fail;have hb7:=bel1 w6 (.cells #[.int .i64 y.id,.int .i64 y.side,.int .i64 y.kind,.int .i64 y.price,.int .i64 y.qty] 41);have hy7:=heap_alloc_new w6 (.cells #[.int .i64 y.id,.int .i64 y.side,.int .i64 y.kind,.int .i64 y.price,.int .i64 y.qty] 41);generalize w6.alloc (.cells #[.int .i64 y.id,.int .i64 y.side,.int .i64 y.kind,.int .i64 y.price,.int .i64 y.qty] 41)=w7 at hb7 hy7 ⊢;have HC7:Hid _:=HC6.out.below hb7;have hx7:=aC0 HX6.out hb7 lR7;have hz7:w6.heap.size≤w7.heap.size:=hb7.size;have x0:=aA0 (j:=0) hx7 rfl;have x1:=aA0 (j:=1) hx7 rfl;have x2:=aA0 (j:=2) hx7 rfl;have x3:=aA0 (j:=3) hx7 rfl;have x4:=aA0 (j:=4) hx7 rfl;have y0:=aA0 (j:=0) hy7 rfl;have y1:=aA0 (j:=1) hy7 rfl;have y2:=aA0 (j:=2) hy7 rfl;have y3:=aA0 (j:=3) hy7 rfl;have y4:=aA0 (j:=4) hy7 rfl;clear hb7 hx7 hy7 HX6 HC6;generalize w4.heap.size=xb at *;generalize w6.heap.size=yb at *;go_wp2_with fail;refine (qX0 x y p w7 hxs).mono ?_;rintro e w8 ⟨rfl,hb8⟩;have HC8:Hid _:=HC7.out.below hb8;have hz8:w7.heap.size≤w8.heap.size:=hb8.size;clear hb8 HC7 x0 x1 x2 x3 x4 y0 y1 y2 y3 y4;go_upto_region 9 with fail;have hb9:=bel1 w8 (.cells #[.int .i64 x.id,.int .i64 y.id,.int .i64 p,.int .i64 (min x.qty y.qty)] 115);have hf9:=heap_alloc_new w8 (.cells #[.int .i64 x.id,.int .i64 y.id,.int .i64 p,.int .i64 (min x.qty y.qty)] 115);generalize w8.alloc (.cells #[.int .i64 x.id,.int .i64 y.id,.int .i64 p,.int .i64 (min x.qty y.qty)] 115)=w9 at hb9 hf9 ⊢;have f3:=aA0 (j:=3) hf9 rfl;have ff3:=aB0 (j:=3) hf9;have HF9:Hid _:=hf9;have HB9:Hid _:=hb9;clear hf9 hb9;go_upto_region 10 with fail;have hb10:=HB9.out.setCell (p:=⟨w8.heap.size,3,none⟩) lR7 (.int .i64 (min x.qty (min y.qty s.q)));have hf10:FBox (w9.setCell ⟨w8.heap.size,3,none⟩ (.int .i64 (min x.qty (min y.qty s.q)))) w8.heap.size ⟨x.id,y.id,p,min x.qty (min y.qty s.q)⟩:=aK0 (j:=3) (.int .i64 (min x.qty (min y.qty s.q))) HF9.out;generalize w9.setCell ⟨w8.heap.size,3,none⟩ (.int .i64 (min x.qty (min y.qty s.q)))=w10 at hb10 hf10 ⊢;have HC10:Hid _:=HC8.out.below hb10;have hnb:(Value.slice fa s.fs.length fc).ownBlock≠some w8.heap.size:=fun e=>by have:=HNE.out _ e;omega
   have HNB:Hid _:=hnb;clear hb10 HC8 HB9 HF9 f3 ff3 hnb HNE hz7 hz8;generalize w8.heap.size=fb at *;have HF10:Hid (FBox w10 fb ⟨x.id,y.id,p,min x.qty (min y.qty s.q)⟩):=hf10;have f0:w10.cell? ⟨fb,0,none⟩=some (.int .i64 x.id):=aA0 (j:=0) hf10 rfl;have f3:w10.cell? ⟨fb,3,none⟩=some (.int .i64 (min x.qty (min y.qty s.q))):=aA0 (j:=3) hf10 rfl;rw [HLN.out] at HFS HM n1 n2;clear hf10;go_wp2_with fail;refine (pI0 bb (m+2*k) b' s.L x (min x.qty (min y.qty s.q)) w10 HC10.out.bk (by omega) HC10.out.lnk HFO.out.ok HM.out.1 ⟨n1,HM.out.2.2.2.2.1⟩).mono ?_;rintro e w11 ⟨err1,rfl,b1,hl1,hg1⟩;have hf11:=HC10.out.boxF hg1 HF10.out;have HC11:Hid _:=HC10.out.goes hg1 hl1;have HF11:Hid (FBox w11 fb ⟨x.id,y.id,p,min x.qty (min y.qty s.q)⟩):=hf11;clear f0 f3 hl1 hg1 HC10 HF10;have f1:w11.cell? ⟨fb,1,none⟩=some (.int .i64 y.id):=aA0 (j:=1) hf11 rfl;have f3:w11.cell? ⟨fb,3,none⟩=some (.int .i64 (min x.qty (min y.qty s.q))):=aA0 (j:=3) hf11 rfl;clear hf11;go_wp2_with fail;refine (pI0 bb (m+2*k+1) b1 (bH0 x.id (min x.qty (min y.qty s.q)) s.L) y (min x.qty (min y.qty s.q)) w11 HC11.out.bk (by omega) HC11.out.lnk HM.out.2.2.1 HM.out.2.1 ⟨n1,HM.out.2.2.2.2.2⟩).mono ?_;rintro e w12 ⟨err2,rfl,b2,hl2,hg2⟩;have hf12:=HC11.out.boxF hg2 HF11.out;have HC12:Hid _:=HC11.out.goes hg2 hl2;have HF12:Hid (FBox w12 fb ⟨x.id,y.id,p,min x.qty (min y.qty s.q)⟩):=hf12;clear f1 f3 hl2 hg2 HC11 HF11;have g0:w12.cell? ⟨fb,0,none⟩=some (.int .i64 x.id):=aA0 (j:=0) hf12 rfl;have g1:w12.cell? ⟨fb,1,none⟩=some (.int .i64 y.id):=aA0 (j:=1) hf12 rfl;have g2:w12.cell? ⟨fb,2,none⟩=some (.int .i64 p):=aA0 (j:=2) hf12 rfl;have g3:w12.cell? ⟨fb,3,none⟩=some (.int .i64 (min x.qty (min y.qty s.q))):=aA0 (j:=3) hf12 rfl;clear hf12;have hln:s.fs.length≤100:=by have:=HFL.out;omega
   have hwz:w.heap.size≤w12.heap.size:=HC12.out.since.1.size;go_wp2_with (at_builtin;refine wpList_append_own_at _ rfl _ _ 44 rfl w.heap.size 115 iF (.agg #[.int .i64 0,.int .i64 0,.int .i64 0,.int .i64 0]) 4 32 Tryz.underlying44 hiF hF0 hF1 hF2 rfl (by decide) _ s.fs.length (fV s.fs) rfl (HC12.out.fils.alloc _) ⟨w12.heap.size,0,none⟩ 1 1 [.int .i64 x.id,.int .i64 y.id,.int .i64 p,.int .i64 (min x.qty (min y.qty s.q))] rfl rfl (World.news_of_block (cs:=#[.int .i64 x.id,.int .i64 y.id,.int .i64 p,.int .i64 (min x.qty (min y.qty s.q))]) (t:=115) (fr:=(0,0)) (heap_alloc_new w12 _)) (by simp [Value.oneCell']) (by unfold maxLen;omega) (by omega) (by simp;omega) ?_;intro v13 w13 hown13 hgrow13 _ _;have f13:=aE0 HF12.out (HC12.out.pushed hgrow13) HNB.out;have c13:w13.cell? ⟨fb,3,none⟩=some (.int .i64 (min x.qty (min y.qty s.q))):=aA0 (j:=3) f13 rfl;have HC13:Hid _:=HC12.out.push (f:=⟨x.id,y.id,p,min x.qty (min y.qty s.q)⟩) hgrow13 hown13;clear f13 hown13 hgrow13 g0 g1 g2 g3);go_roundw
   case rel=>
    have hk0:s.fs.length=k:=HFL.out;refine ⟨k+1,b2,?_,HJ2.out,?_,?_,?_⟩
    ·rw [HST.out,HFS.out.2];try go_num
    ·rw [HST.out,HFS.out.1,List.length_append,List.length_singleton,hk0]
    ·rw [HST.out,HFS.out.2];omega
    ·rw [HST.out,HFS.out.1,HM.out.2.2.2.1];exact HC13.out
   case measure=>simp [intOf];omega
  ·go_wp2_with fail;go_ret2;exact ⟨k,_,rfl,by omega,HJ.out,b',HC.out⟩
end Go.Proofs.YtjdkagafdnchhaaGreatDoor
namespace Go.Proofs.YtjdkagafdnchhaaGreatDoor
open Go.RowKit Go.Maps
def fQ1 (v:Value):Option (DataW Unit×List MemPlace):=
 match v with
 | .agg ⟨[]⟩=>some (.agg [],[])
 | _=>none
theorem fR1 {v:Value} {d:DataW Unit} {ps:List MemPlace} (h:fQ1 v=some (d,ps)):v=.agg #[]:=by
 unfold fQ1 at h;split at h
 ·rfl
 ·cases h
theorem Tryz.zeroUnit (w:World):(zeroValue 111).run Tryz.prog w=.ok (.agg #[]) w:=by kernel_rfl
def jB0 (w:World) (mb n:Nat) (I:List Int):Prop:=∃D:DataW Unit,w.ownsMap Tryz.prog 3 fQ1 mb n D∧∀id:Int,Maps.has D (.int .i64 id)=decide (id∈I)
section
variable {w w':World} {mb n:Nat} {I:List Int}
theorem jB0.same (h:jB0 w mb n I) (hb:w'.heap[mb]? = w.heap[mb]?):jB0 w' mb n I:=by
 obtain ⟨D,h1,r⟩:=h;exact ⟨D,yR0 h1 hb,r⟩
theorem jB0.lt (h:jB0 w mb n I):mb<w.heap.size:=by
 obtain ⟨D,h1,r⟩:=h;exact h1.lt
theorem jB0.ne {b:Nat} {vs:Array Value} {t:TypeId} {f:Nat×Nat} (h:jB0 w mb n I) (hb:w.heap[b]? = some (.cells vs t f)):b≠mb:=fun e=>by
 obtain ⟨D,⟨es,clock,h1,_⟩,_⟩:=h;rw [e,h1] at hb;cases hb
theorem jB0.look (h:jB0 w mb n I) {id:Int} (hw:(Lit.int .i64 id).wf=true):
  (Instr.lookup 96 (.map (some mb)) (.int .i64 id) true).run Tryz.prog w=.ok (.tuple #[.agg #[],.bool (decide (id∈I))]) w:=by
 obtain ⟨D,h1,h2⟩:=h;obtain ⟨v,ps,hr,hv⟩:=h1.look_ok Tryz.keyI Tryz.underlying96 (Tryz.zeroUnit w) (zd:=.agg []) (zp:=[]) rfl (Tryz.keyAt hw);rw [hr,fR1 hv,h2 id]
theorem jB0.put (h:jB0 w mb n I) {id:Int} (hw:(Lit.int .i64 id).wf=true) (hn:n<1000000):
  ∃w',(Instr.mapUpdate 96 (.map (some mb)) (.int .i64 id) (.agg #[])).run Tryz.prog w=.ok () w'∧jB0 w' mb (n+1) (I++[id])∧Out (fun j=>j=mb) w w':=by
 obtain ⟨D,h1,h2⟩:=h;obtain ⟨w',hr,h4,h5⟩:=h1.store Tryz.keyI Tryz.underlying96 (by unfold maxLen;omega) (Tryz.keyAt hw) (show fQ1 (.agg #[])=some (.agg [],[]) from rfl);refine ⟨w',hr,⟨_,h4,fun x=>?_⟩,lP0 h5⟩
 by_cases e:x=id
 ·subst e;rw [Maps.has_put_same h1.isMap (nV1 _) _];simp
 ·have hne:Lit.int .i64 x≠Lit.int .i64 id:=fun e'=>e (nW0 e')
  rw [Maps.has_put_other hne,h2 x];simp [e]
end
structure EgK where
 tb:Nat
 cb:Nat
 ct:Nat
 nb:Nat
 bb:Nat
 m:Nat
 b:BkS
 vp:Value
 tk:Nat
 n:Nat
def EgK.foot (eb:Nat) (k:EgK) (j:Nat):Prop:=j=eb∨j=k.nb∨k.b.foot k.bb j∨k.vp.ownBlock=some j∨j=k.tk
def egV (k:EgK) (M:Mkt):Array Value:=#[.pointer (some ⟨k.tb,0,none⟩),.pointer (some ⟨k.nb,0,none⟩),.pointer (some ⟨k.bb,0,none⟩),k.vp,.map (some k.tk),.int .i64 M.ph,.int .i64 M.now,.int .i64 M.ti,.int .i64 M.mo,.int .i64 M.en,.int .i64 M.lo]
structure Eg (w:World) (eb:Nat) (k:EgK) (M:Mkt):Prop where
 box:w.heap[eb]? = some (.cells (egV k M) 98 (0,0))
 tab:w.cell? ⟨k.tb,0,none⟩=some (.slice (some ⟨k.cb,0,none⟩) M.rs.length k.ct)∧bK0 w k.cb 0 M.rs
 tlt:k.cb<w.heap.size
 bn:BnAt w k.nb M.st M.dy M.an M.la
 bk:Bk w k.bb k.m k.b
 lnk:Lnk k.b.S M.L
 pk:w.ownsRow 0 41 5 k.vp M.P.length (oV M.P)
 tkn:jB0 w k.tk k.n M.I
 tkf:¬k.b.foot k.bb k.tk
 few:k.n≤k.m
 far:∀j,j=k.tb∨j=k.cb→¬k.foot eb j
theorem fA0 {S:Nat→Prop} {w w':World} {b off:Nat} {rs:List (Int×Int)} (h:bK0 w b off rs) (ho:Out S w w') (hS:¬S b):bK0 w' b off rs:=fun j u hj=>by
 have h1:=h j u hj;have hlt:b<w.heap.size:=World.block_lt_of_cell? w _ h1;have e:=ho.block b hlt hS;rw [←h1];simp only [World.cell?,e]
theorem cQ0 {S:Nat→Prop} {w w':World} {a:Addr} {v:Value} (h:w.cell? a=some v) (ho:Out S w w') (hS:¬S a.block):w'.cell? a=some v:=by
 have e:=ho.block a.block (World.block_lt_of_cell? w _ h) hS;rw [←h];simp only [World.cell?,e]
section
variable {w w':World} {eb:Nat} {k:EgK} {M:Mkt}
theorem Eg.tlt' (h:Eg w eb k M):k.tb<w.heap.size:=World.block_lt_of_cell? w _ h.tab.1
theorem Eg.lt (h:Eg w eb k M) {j:Nat} (hj:k.foot eb j):j<w.heap.size:=by
 rcases hj with rfl | rfl | hj | hj | rfl
 ·exact lt_of_block h.box
 ·exact lt_of_block h.bn
 ·exact h.bk.lt hj
 ·exact (h.pk.lt j hj).2
 ·exact h.tkn.lt
theorem Eg.table (h:Eg w eb k M):mA0 w k.tb M.rs:=⟨k.cb,k.ct,h.tab.1,h.tab.2⟩
theorem Eg.out {S:Nat→Prop} (h:Eg w eb k M) (ho:Out S w w') (hS:∀j,k.foot eb j∨j=k.tb∨j=k.cb→¬S j):Eg w' eb k M:=
 ⟨aE0 h.box ho (hS _ (Or.inl (Or.inl rfl))),⟨cQ0 h.tab.1 ho (hS _ (Or.inr (Or.inl rfl))),fA0 h.tab.2 ho (hS _ (Or.inr (Or.inr rfl)))⟩,Nat.lt_of_lt_of_le h.tlt ho.size,
  aE0 h.bn ho (hS _ (Or.inl (Or.inr (Or.inl rfl)))),h.bk.out ho (fun _ hj=>hS _ (Or.inl (Or.inr (Or.inr (Or.inl hj))))),h.lnk,aI0 h.pk ho (fun _ hj=>hS _ (Or.inl (Or.inr (Or.inr (Or.inr (Or.inl hj)))))),
  h.tkn.same (ho.block _ h.tkn.lt (hS _ (Or.inl (Or.inr (Or.inr (Or.inr (Or.inr rfl))))))),h.tkf,h.few,h.far⟩
theorem Eg.below (h:Eg w eb k M) (hb:Below w.heap.size w w'):Eg w' eb k M:=h.out (S:=fun _=>False) (Out.of_below hb lR7) (fun _ _ e=>e)
theorem Eg.drew (h:Eg w eb k M):Eg w.drew eb k M:=h.below (Below.refl _ _).drew
theorem Eg.few100 (h:Eg w eb k M):M.L.length≤100:=sM0 h.bk.ok h.lnk
theorem Eg.lok (h:Eg w eb k M):LOk M.L:=by
 refine ⟨fun o ho=>?_,h.lnk.ids,fun o ho=>h.lnk.ok h.bk.ok o ho⟩;obtain ⟨s,hs,x,hx,rfl⟩:=h.lnk.mem.1 ho;have:=h.bk.ok.side s hs x hx;omega
theorem Eg.ebnb (h:Eg w eb k M):eb≠k.nb:=cV0 h.box h.bn (by decide)
theorem Eg.ebbk (h:Eg w eb k M):¬k.b.foot k.bb eb:=h.bk.farBox h.box (by decide) (by decide) (by decide) (by decide) (by decide)
theorem Eg.nbbk (h:Eg w eb k M):¬k.b.foot k.bb k.nb:=h.bk.farBox h.bn (by decide) (by decide) (by decide) (by decide) (by decide)
theorem Eg.ebpk (h:Eg w eb k M):k.vp.ownBlock≠some eb:=aG0 h.pk h.box (by decide)
theorem Eg.nbpk (h:Eg w eb k M):k.vp.ownBlock≠some k.nb:=aG0 h.pk h.bn (by decide)
theorem Eg.pkbk (h:Eg w eb k M) {j:Nat} (hj:k.vp.ownBlock=some j):¬k.b.foot k.bb j:=fun e=>h.bk.farAny h.pk (by decide) (by decide) (by decide) (by decide) (by decide) j hj e
theorem Eg.ebtk (h:Eg w eb k M):eb≠k.tk:=h.tkn.ne h.box
theorem Eg.nbtk (h:Eg w eb k M):k.nb≠k.tk:=h.tkn.ne h.bn
theorem Eg.pktk (h:Eg w eb k M):k.vp.ownBlock≠some k.tk:=fun hv=>by
 rcases h.pk.2 with ⟨e,_⟩ | ⟨g,cap,cur,e,_,hh,_⟩
 ·rw [e] at hv;cases hv
 ·rw [e] at hv;have e':g=k.tk:=by simpa [Value.ownBlock] using hv
  exact h.tkn.ne hh e'
def EgGo (w w':World) (eb:Nat) (k k':EgK) (M':Mkt):Prop:=Eg w' eb k' M'∧Out (k.foot eb) w w'∧Went w (k.foot eb) (k'.foot eb)∧k'.tb=k.tb∧k'.cb=k.cb
theorem EgGo.stay (h:Eg w eb k M) (hb:Below w.heap.size w w'):EgGo w w' eb k k M:=⟨h.below hb,Out.of_below hb lR7,Went.refl _ _,rfl,rfl⟩
theorem EgGo.refl (h:Eg w eb k M):EgGo w w eb k k M:=⟨h,Out.refl _ _,Went.refl _ _,rfl,rfl⟩
theorem EgGo.trans {w1 w2:World} {k1 k2:EgK} {M1 M2:Mkt} (h:EgGo w w1 eb k k1 M1) (h1:EgGo w1 w2 eb k1 k2 M2):EgGo w w2 eb k k2 M2:=⟨h1.1,h.2.1.trans h1.2.1 h.2.2.1,h.2.2.1.trans h1.2.2.1 h.2.1.size,h1.2.2.2.1.trans h.2.2.2.1,h1.2.2.2.2.trans h.2.2.2.2⟩
theorem EgGo.bel {w1 w2:World} {k1:EgK} {M1:Mkt} (h:EgGo w w1 eb k k1 M1) (h1:Below w1.heap.size w1 w2):EgGo w w2 eb k k1 M1:=h.trans (EgGo.stay h.1 h1)
theorem Eg.write (h:Eg w eb k M) {M':Mkt} {j:Nat} {u:Value} (he:(egV k M).setIfInBounds j u=egV k M') (h1:M'.rs=M.rs) (h2:M'.L=M.L) (h3:M'.P=M.P) (h4:M'.I=M.I) (h5:M'.st=M.st∧M'.dy=M.dy∧M'.an=M.an∧M'.la=M.la):
  EgGo w (w.setCell ⟨eb,j,none⟩ u) eb k k M':=by
 have ho:=aQ0 w ⟨eb,j,none⟩ u;have hb:=aK0 (j:=j) u h.box;rw [he] at hb;obtain ⟨e1,e2,e3,e4⟩:=h5;refine ⟨⟨hb,?_,Nat.lt_of_lt_of_le h.tlt ho.size,?_,h.bk.out ho (fun i hi e=>h.ebbk (by rw [←show i=eb from e];exact hi)),by rw [h2];exact h.lnk,?_,?_,h.tkf,h.few,h.far⟩,?_,Went.refl _ _,rfl,rfl⟩
 ·rw [h1];exact ⟨cQ0 h.tab.1 ho (fun e=>h.far _ (Or.inl rfl) (Or.inl e)),fA0 h.tab.2 ho (fun e=>h.far _ (Or.inr rfl) (Or.inl e))⟩
 ·rw [e1,e2,e3,e4];exact aE0 h.bn ho (fun e=>h.ebnb e.symm)
 ·rw [h3];exact aI0 h.pk ho (fun i hi e=>h.ebpk (by rw [←show i=eb from e];exact hi))
 ·rw [h4];exact h.tkn.same (ho.block _ h.tkn.lt (fun e=>h.ebtk e.symm))
 ·exact ⟨ho.os,ho.tape,ho.output,ho.size,fun i hi hn=>ho.block i hi (fun e=>hn (Or.inl e))⟩
theorem Eg.ofBook (h:Eg w eb k M) {m':Nat} {b':BkS} {L':List Ord} (hg:Goes w w' k.bb m' k.b b') (hl:Lnk b'.S L') (hm:k.m≤m'):EgGo w w' eb k { k with m:=m',b:=b' } { M with L:=L' }:=by
 obtain ⟨g1,g2,g3⟩:=hg;refine ⟨⟨aE0 h.box g2 h.ebbk,⟨cQ0 h.tab.1 g2 (fun e=>h.far _ (Or.inl rfl) (Or.inr (Or.inr (Or.inl e)))),fA0 h.tab.2 g2 (fun e=>h.far _ (Or.inr rfl) (Or.inr (Or.inr (Or.inl e))))⟩,Nat.lt_of_lt_of_le h.tlt g2.size,aE0 h.bn g2 h.nbbk,g1,hl,aI0 h.pk g2 (fun j hj=>h.pkbk hj),h.tkn.same (g2.block _ h.tkn.lt h.tkf),fun e=>?_,Nat.le_trans h.few hm,fun j hj e=>?_⟩,?_,?_,rfl,rfl⟩
 ·rcases g3 _ e with e | e
  ·exact h.tkf e
  ·have e':w.heap.size≤k.tk:=e;have:=h.tkn.lt;omega
 ·have hlt:j<w.heap.size:=by
   rcases hj with rfl | rfl
   ·exact h.tlt'
   ·exact h.tlt
  rcases e with e | e | e | e | e
  ·exact h.far j hj (Or.inl e)
  ·exact h.far j hj (Or.inr (Or.inl e))
  ·rcases g3 j e with e | e
   ·exact h.far j hj (Or.inr (Or.inr (Or.inl e)))
   ·omega
  ·exact h.far j hj (Or.inr (Or.inr (Or.inr (Or.inl e))))
  ·exact h.far j hj (Or.inr (Or.inr (Or.inr (Or.inr e))))
 ·exact ⟨g2.os,g2.tape,g2.output,g2.size,fun i hi hn=>g2.block i hi (fun e=>hn (Or.inr (Or.inr (Or.inl e))))⟩
 ·intro j hj;rcases hj with e | e | e | e | e
  ·exact Or.inl (Or.inl e)
  ·exact Or.inl (Or.inr (Or.inl e))
  ·exact (g3 j e).imp (fun e=>Or.inr (Or.inr (Or.inl e))) id
  ·exact Or.inl (Or.inr (Or.inr (Or.inr (Or.inl e))))
  ·exact Or.inl (Or.inr (Or.inr (Or.inr (Or.inr e))))
theorem Eg.ofBands (h:Eg w eb k M) {an' la':Int} (hb:BnAt w' k.nb M.st M.dy an' la') (ho:Out (fun j=>j=k.nb) w w'):EgGo w w' eb k k { M with an:=an',la:=la' }:=by
 refine ⟨⟨aE0 h.box ho h.ebnb,⟨cQ0 h.tab.1 ho (fun e=>h.far _ (Or.inl rfl) (Or.inr (Or.inl e))),fA0 h.tab.2 ho (fun e=>h.far _ (Or.inr rfl) (Or.inr (Or.inl e)))⟩,Nat.lt_of_lt_of_le h.tlt ho.size,hb,h.bk.out ho (fun j hj e=>h.nbbk (by rw [←show j=k.nb from e];exact hj)),h.lnk,aI0 h.pk ho (fun j hj e=>h.nbpk (by rw [←show j=k.nb from e];exact hj)),h.tkn.same (ho.block _ h.tkn.lt (fun e=>h.nbtk e.symm)),h.tkf,h.few,h.far⟩,?_,Went.refl _ _,rfl,rfl⟩;exact ⟨ho.os,ho.tape,ho.output,ho.size,fun i hi hn=>ho.block i hi (fun e=>hn (Or.inr (Or.inl e)))⟩
theorem Eg.ofTaken (h:Eg w eb k M) {id:Int} (ht:jB0 w' k.tk (k.n+1) (M.I++[id])) (ho:Out (fun j=>j=k.tk) w w') (hm:k.m+1≤900000):EgGo w w' eb k { k with m:=k.m+1,n:=k.n+1 } { M with I:=M.I++[id] }:=by
 refine ⟨⟨aE0 h.box ho h.ebtk,⟨cQ0 h.tab.1 ho (fun e=>h.far _ (Or.inl rfl) (Or.inr (Or.inr (Or.inr (Or.inr e))))),fA0 h.tab.2 ho (fun e=>h.far _ (Or.inr rfl) (Or.inr (Or.inr (Or.inr (Or.inr e)))))⟩,Nat.lt_of_lt_of_le h.tlt ho.size,aE0 h.bn ho h.nbtk,(h.bk.out ho (fun j hj e=>h.tkf (by rw [←show j=k.tk from e];exact hj))).more (Nat.le_succ _) hm,h.lnk,aI0 h.pk ho (fun j hj e=>h.pktk (by rw [←show j=k.tk from e];exact hj)),ht,h.tkf,Nat.succ_le_succ h.few,h.far⟩,?_,Went.refl _ _,rfl,rfl⟩;exact ⟨ho.os,ho.tape,ho.output,ho.size,fun i hi hn=>ho.block i hi (fun e=>hn (Or.inr (Or.inr (Or.inr (Or.inr e)))))⟩
end
end Go.Proofs.YtjdkagafdnchhaaGreatDoor
namespace Go.Proofs.YtjdkagafdnchhaaGreatDoor
open Go.RowKit
def fk (k:EgK) (eb:Nat):Nat→Prop:=fun j=>k.foot eb j∨j=k.tb∨j=k.cb
structure Duo (W:World) (eb:Nat) (k:EgK) (M1:Mkt) (base mb bt ct:Nat) (M2:Mkt) (vb vp vi:Value):Prop where
 eg:Eg W eb k M1
 mkt:MkIs W (fk k eb) base mb bt ct M2 vb vp vi
 n1:¬fk k eb mb
 n2:¬fk k eb bt
 bs:base≤W.heap.size
 b2:bt<base
section
variable {W W':World} {eb:Nat} {k k':EgK} {M1 M1':Mkt} {base mb bt ct:Nat} {M2 M2':Mkt} {vb vp vi vb' vp' vi':Value}
theorem fS1 (h:Eg W eb k M1) {j:Nat} (hj:fk k eb j):j<W.heap.size:=by
 rcases hj with hj | rfl | rfl
 ·exact h.lt hj
 ·exact World.block_lt_of_cell? W _ h.tab.1
 ·exact h.tlt
theorem Duo.below (h:Duo W eb k M1 base mb bt ct M2 vb vp vi) (hb:Below W.heap.size W W'):Duo W' eb k M1 base mb bt ct M2 vb vp vi:=⟨h.eg.below hb,h.mkt.below hb,h.n1,h.n2,Nat.le_trans h.bs hb.size,h.b2⟩
theorem Duo.market (h:Duo W eb k M1 base mb bt ct M2 vb vp vi) (hm:MkIs W' (fk k eb) base mb bt ct M2' vb' vp' vi') (ho:Out (inM mb vi) W W'):Duo W' eb k M1 base mb bt ct M2' vb' vp' vi':=
 ⟨h.eg.out ho (fun j hj e=>e.elim (fun e1=>h.n1 (by rw [←show j=mb from e1];exact hj)) (fun e1=>h.mkt.fari j e1 hj)),hm,h.n1,h.n2,Nat.le_trans h.bs ho.size,h.b2⟩
theorem Duo.engine (h:Duo W eb k M1 base mb bt ct M2 vb vp vi) (hg:EgGo W W' eb k k' M1'):Duo W' eb k' M1' base mb bt ct M2 vb vp vi:=by
 obtain ⟨g1,g2,g3,g4,g5⟩:=hg
 have key:∀{j:Nat},j<W.heap.size→¬fk k eb j→¬fk k' eb j:=fun {j} hj hn e=>by
  rcases e with e | e | e
  ·rcases g3 j e with e | e
   ·exact hn (Or.inl e)
   ·omega
  ·exact hn (Or.inr (Or.inl (by rw [←g4];exact e)))
  ·exact hn (Or.inr (Or.inr (by rw [←g5];exact e)))
 have no:∀{j:Nat},¬fk k eb j→¬k.foot eb j:=fun hn e=>hn (Or.inl e)
 have hmb:mb<W.heap.size:=lt_of_block h.mkt.box;have hm:=h.mkt;refine ⟨g1,⟨aE0 hm.box g2 (no h.n1),eI0 hm.tab g2 (no h.n2),hm.tne,aI0 hm.bk g2 (fun j hj=>no (hm.farb j hj)),aI0 hm.pk g2 (fun j hj=>no (hm.farp j hj)),aI0 hm.ids g2 (fun j hj=>no (hm.fari j hj)),fun j hj=>fS1 g1 hj,fun j hj=>key (hm.bk.lt j hj).2 (hm.farb j hj),fun j hj=>key (hm.pk.lt j hj).2 (hm.farp j hj),fun j hj=>key (hm.ids.lt j hj).2 (hm.fari j hj)⟩,key hmb h.n1,key (Nat.lt_of_lt_of_le h.b2 h.bs) h.n2,Nat.le_trans h.bs g2.size,h.b2⟩
end
def eatL:Int→List Ord→List Ord
 | _,[]=>[]
 | n,x::T=>if n<x.qty then (if n≤0 then x::T else cutO n x::T) else eatL (n - x.qty) T
theorem lF0:∀{Z:List Ord},(∀o∈Z,1≤o.qty)→eatL 0 Z=Z
 | [],_=>rfl
 | x::T,h=>by
  have:=h x (List.mem_cons_self ..);rw [eatL,if_pos (by omega),if_pos (by omega)]
theorem sN0:∀{Z:List Ord} {n0 n:Int} {x:Ord} {T:List Ord},(∀o∈Z,1≤o.qty)→0≤n0→eatL n0 Z=x::T→1≤n→n≤x.qty→eatL (n0+n) Z=if x.qty=n then T else cutO n x::T
 | [],_,_,_,_,_,_,h,_,_=>by cases h
 | z::Z,n0,n,x,T,hz,h0,h,h1,h2=>by
  have hz1:=hz z (List.mem_cons_self ..);have hzs:∀o∈Z,1≤o.qty:=fun o ho=>hz o (List.mem_cons_of_mem _ ho)
  rw [eatL] at h ⊢
  by_cases hn:n0<z.qty
  ·rw [if_pos hn] at h
   by_cases hn0:n0≤0
   ·obtain rfl:n0=0:=by omega
    rw [if_pos hn0] at h;injection h with e1 e2;subst e1 e2;rw [Int.zero_add]
    by_cases e:z.qty=n
    ·rw [if_neg (by omega),if_pos e,show n - z.qty=0 by omega,lF0 hzs]
    ·rw [if_pos (by omega),if_neg (by omega),if_neg e]
   ·rw [if_neg hn0] at h;injection h with e1 e2;subst e1 e2;have hq:(cutO n0 z).qty=z.qty - n0:=rfl;rw [hq] at h2 ⊢
    by_cases e:z.qty - n0=n
    ·rw [if_neg (by omega),if_pos e,show n0+n - z.qty=0 by omega,lF0 hzs]
    ·rw [if_pos (by omega),if_neg (by omega),if_neg e]
     congr 1
     show ({ z with qty:=z.qty - (n0+n) }:Ord)={ z with qty:=z.qty - n0 - n };rw [Int.sub_sub]
  ·rw [if_neg hn] at h;rw [if_neg (by omega),show n0+n - z.qty=n0 - z.qty+n by omega];exact sN0 hzs (by omega) h h1 h2
theorem fT1 {p:Int} {s:FS} (h:FOk p s):∀k,(∀j,j<k→0<(aT0 p s j).q)→0≤(aT0 p s k).q∧(aT0 p s k).q≤s.q
 | 0,_=>⟨h.nn,Int.le_refl _⟩
 | k+1,hq=>by
  have h1:=gG0 h (k+1) hq;obtain ⟨_,h2⟩:=fT1 h k (fun j hj=>hq j (by omega));obtain ⟨⟨x,T,y,U,hr⟩,_⟩:=gZ0 (gG0 h k (fun j hj=>hq j (by omega))) (hq k (by omega));have n1:=hr.2.2.2.2.2.2.2.1;have e:(aT0 p s (k+1)).q=(aT0 p s k).q - lotN (aT0 p s k):=rfl;exact ⟨h1.nn,by omega⟩
theorem vC0 {p:Int} {s:FS} (h:FOk p s):∀k,(∀j,j<k→0<(aT0 p s j).q)→aJ0 1 (aT0 p s k).L=eatL (s.q - (aT0 p s k).q) (aJ0 1 s.L)∧aJ0 2 (aT0 p s k).L=eatL (s.q - (aT0 p s k).q) (aJ0 2 s.L)
 | 0,_=>by
  have hq:∀t,∀o∈aJ0 t s.L,1≤o.qty:=fun t o ho=>(h.ok.ok o (bC0.1 ho).1).2.2.1
  show aJ0 1 s.L=eatL (s.q - s.q) _∧aJ0 2 s.L=eatL (s.q - s.q) _;rw [Int.sub_self,lF0 (hq 1),lF0 (hq 2)];exact ⟨rfl,rfl⟩
 | k+1,hq=>by
  have hk:∀j,j<k→0<(aT0 p s j).q:=fun j hj=>hq j (by omega)
  have hz:∀t,∀o∈aJ0 t s.L,1≤o.qty:=fun t o ho=>(h.ok.ok o (bC0.1 ho).1).2.2.1
  obtain ⟨i1,i2⟩:=vC0 h k hk;have hb:=fT1 h k hk;have hO:=gG0 h k hk;obtain ⟨⟨x,T,y,U,hS1,hS2,_,_,hxL,hyL,_,n1,n2,n3,n4,_,hL,_,_,ok1⟩,_⟩:=gZ0 hO (hq k (by omega));have e:(aT0 p s (k+1)).q=(aT0 p s k).q - lotN (aT0 p s k):=rfl;have eL:(aT0 p s (k+1)).L=bH0 y.id (lotN (aT0 p s k)) (bH0 x.id (lotN (aT0 p s k)) (aT0 p s k).L):=hL;rw [e,eL,show s.q - ((aT0 p s k).q - lotN (aT0 p s k))=s.q - (aT0 p s k).q+lotN (aT0 p s k) by omega];rw [hS1] at i1;rw [hS2] at i2;have hx1:x∈aJ0 1 (aT0 p s k).L:=by rw [hS1];exact List.mem_cons_self ..
  have s2:aJ0 2 (bH0 x.id (lotN (aT0 p s k)) (aT0 p s k).L)=y::U:=(lV0 hO.ok hx1 (by decide)).trans hS2;have hy2:y∈aJ0 2 (bH0 x.id (lotN (aT0 p s k)) (aT0 p s k).L):=by rw [s2];exact List.mem_cons_self ..
  refine ⟨?_,?_⟩
  ·rw [lV0 ok1 hy2 (by decide),uA0 hO.ok hS1 n3,sN0 (hz 1) (by omega) i1.symm n1 n3]
  ·rw [uA0 ok1 s2 n4,sN0 (hz 2) (by omega) i2.symm n1 n4]
def sumO:List Ord→Int
 | []=>0
 | o::T=>o.qty+sumO T
theorem fU1:∀{l:List Ord},(∀o∈l,1≤o.qty)→0≤sumO l
 | [],_=>Int.le_refl _
 | o::T,h=>by
  have:=fU1 (l:=T) (fun x hx=>h x (List.mem_cons_of_mem _ hx));have:=h o (List.mem_cons_self ..);rw [sumO];omega
section
variable {p q:Int} {L:List Ord} {k:Nat}
end
end Go.Proofs.YtjdkagafdnchhaaGreatDoor
