/- DeskPieces: a part of the proof, packed (the readable form: the templates). -/
import Derived.Test.YtaelphbianmckaaGreatDoorQF
import Derived.Test.YtaelphbianmckaaGreatDoorQA
import Derived.WalkSpells
import Derived.WalkLawsBesides
import Derived.Handy
import Derived.BigQuiet
import Derived.OwnWalk
import Derived.OneCell
import Derived.Deep.QuietTactic
import Derived.Lib.QuietBelow
import Derived.Test.YtaelphbianmckaaGreatDoorRows
import Derived.WalkKit
import Derived.StillTailTactics
import Derived.Maps.OwnOps
import Derived.Maps.Views
namespace Go.Proofs.YtaelphbianmckaaGreatDoor
open Go.RowKit
theorem cV0 {w:World} {b j:Nat} {vs:Array Value} {t:TypeId} {v:Value} (h:w.heap[b]? = some (.cells vs t (0,0))) (hj:vs[j]? = some v):w.cell? ⟨b,j,none⟩=some v:=(cell_of_row w b j vs t (0,0) h).trans hj
theorem vU0 {w:World} {b j:Nat} {vs:Array Value} {t:TypeId} (h:w.heap[b]? = some (.cells vs t (0,0))):w.frozen? ⟨b,j,none⟩=false:=frozen_of_row w b j vs t h
theorem dB1 {w:World} {b j:Nat} {vs:Array Value} {t:TypeId} (u:Value) (h:w.heap[b]? = some (.cells vs t (0,0))):(w.setCell ⟨b,j,none⟩ u).heap[b]? = some (.cells (vs.setIfInBounds j u) t (0,0)):=heap_setCell_same w b j vs t u h
theorem jA1 {w w':World} {b B:Nat} {o:Obj} (h:w.heap[b]? = some o) (hb:Below B w w') (hB:w.heap.size≤B):w'.heap[b]? = some o:=(hb.block b (Nat.lt_of_lt_of_le (lt_of_block h) hB)).trans h
theorem lI0 (w:World) (a:Addr) (u:Value):Out (fun j=>j=a.block) w (w.setCell a u):=⟨rfl,rfl,rfl,by simp,fun j _ hj=>Below.heap_setCell _ _ _ _ (fun e=>hj e)⟩
theorem gK0 (w:World) (o:Obj):Below w.heap.size w (w.alloc o):=(Below.refl _ _).alloc lR7 o
theorem hN0 {w w1 w2:World} (h:Below w.heap.size w w1) (h1:Below w1.heap.size w1 w2):Below w.heap.size w w2:=h.trans (h1.mono h.size)
theorem fV0 {S:Nat→Prop} {w w1 w2:World} (h:Out S w w1) (h1:Out S w1 w2):Out S w w2:=h.trans h1 (Went.refl _ _)
def BnAt (w:World) (bb:Nat) (s d a l:Int):Prop:=w.heap[bb]? = some (.cells #[.int .i64 s,.int .i64 d,.int .i64 a,.int .i64 l] 225 (0,0))
theorem BnAt.below {w w':World} {bb:Nat} {s d a l:Int} (h:BnAt w bb s d a l) (hb:Below w.heap.size w w'):BnAt w' bb s d a l:=jA1 h hb lR7
def fW0 (p s:Int):Value:=if bW0 p s=true then .nilIface else .iface 26 (.int .i64 2)
theorem jO0 (p s:Int) (w:World):
  Calls Tryz.prog 81 #[.int .i64 p,.int .i64 s] w fun e w'=>e=.returned (.tuple #[.int .i64 (bandL p s),.int .i64 (bandH p s),fW0 p s])∧Below w.heap.size w w':=by
 cases h:bW0 p s with
 | true=>
  obtain ⟨hp,hs⟩:=vT0 h;exact (oA1 p s w hp hs).mono fun _ _ ⟨he,hb⟩=>⟨by rw [he,iW1 h,iX1 h,show fW0 p s=.nilIface from if_pos h],hb⟩
 | false=>exact (oB1 p s w h).mono fun _ _ ⟨he,hb⟩=>⟨by rw [he,iY1 h,iZ1 h,show fW0 p s=.iface 26 (.int .i64 2) from if_neg (by rw [h];decide)],hb⟩
set_option maxRecDepth 4000 in
set_option maxHeartbeats 1000000 in
theorem dC1 (bb:Nat) (s d a l:Int) (w:World) (h:BnAt w bb s d a l):
  Calls Tryz.prog 280 #[.pointer (some ⟨bb,0,none⟩),.int .i64 0] w fun e w'=>e=.returned (.tuple #[.int .i64 (bandL a s),.int .i64 (bandH a s)])∧Below w.heap.size w w':=by
 have k0:=cell_regrown (cV0 (j:=0) h rfl);have k2:=cell_regrown (cV0 (j:=2) h rfl);have cB:∀dq os,Calls Tryz.prog 81 #[.int .i64 a,.int .i64 s] (Go.Sort.grow (redrawn w dq) os) fun e w''=>e=.returned (.tuple #[.int .i64 (bandL a s),.int .i64 (bandH a s),fW0 a s])∧∃p:Regrown,w''=Go.Sort.grow (redrawn w p.d) p.os:=fun dq os=>Calls.regrown_of (jO0 a s _)
 clear h;go_enter Tryz.func280,Tryz.ntmps280;go_wp2_with fail;refine wp_region_quiet_below (by kernel_rfl) (by kernel_rfl) ?_
 repeat (go_big_quiet_step (exact cB _ _))
 refine wpQuiet_nil ?_;intro _ hw';obtain ⟨⟨dq,osq⟩,hw''⟩:=hw';subst hw'';go_wp2;go_ret2;exact ⟨rfl,below_regrown w dq osq⟩
set_option maxRecDepth 4000 in
set_option maxHeartbeats 1000000 in
theorem oC1 (bb:Nat) (s d a l:Int) (w:World) (h:BnAt w bb s d a l):
  Calls Tryz.prog 280 #[.pointer (some ⟨bb,0,none⟩),.int .i64 1] w fun e w'=>e=.returned (.tuple #[.int .i64 (bandL l d),.int .i64 (bandH l d)])∧Below w.heap.size w w':=by
 have k1:=cell_regrown (cV0 (j:=1) h rfl);have k3:=cell_regrown (cV0 (j:=3) h rfl);have cB:∀dq os,Calls Tryz.prog 81 #[.int .i64 l,.int .i64 d] (Go.Sort.grow (redrawn w dq) os) fun e w''=>e=.returned (.tuple #[.int .i64 (bandL l d),.int .i64 (bandH l d),fW0 l d])∧∃p:Regrown,w''=Go.Sort.grow (redrawn w p.d) p.os:=fun dq os=>Calls.regrown_of (jO0 l d _)
 clear h;go_enter Tryz.func280,Tryz.ntmps280;go_wp2_with fail;refine wp_region_quiet_below (by kernel_rfl) (by kernel_rfl) ?_
 repeat (go_big_quiet_step (exact cB _ _))
 refine wpQuiet_nil ?_;intro _ hw';obtain ⟨⟨dq,osq⟩,hw''⟩:=hw';subst hw'';go_wp2;go_ret2;exact ⟨rfl,below_regrown w dq osq⟩
def lJ0 (s d p:Int):Bool:=bW0 p s&& bW0 p d
theorem nX0 {p s:Int} (h:bW0 p s=true):fW0 p s=.nilIface:=if_pos h
theorem tI0 {p s:Int} (h:bW0 p s=false):fW0 p s=.iface 26 (.int .i64 2):=if_neg (by rw [h];decide)
set_option maxRecDepth 4000 in
set_option maxHeartbeats 4000000 in
theorem jB1 (s d p:Int) (w:World) (h:lJ0 s d p=false):
  Calls Tryz.prog 113 #[.int .i64 s,.int .i64 d,.int .i64 p] w fun e w'=>e=.returned (.tuple #[.pointer none,.iface 26 (.int .i64 2)])∧Below w.heap.size w w':=by
 have HN:Hid (lJ0 s d p=false):=h;clear h;go_enter Tryz.func113,Tryz.ntmps113;go_wp2_with fail;have hb0:=gK0 w (.cells #[.int .i64 s,.int .i64 d,.int .i64 p,.int .i64 p] 225);have hn0:BnAt (w.alloc (.cells #[.int .i64 s,.int .i64 d,.int .i64 p,.int .i64 p] 225)) w.heap.size s d p p:=heap_alloc_new w _;generalize w.alloc (.cells #[.int .i64 s,.int .i64 d,.int .i64 p,.int .i64 p] 225)=w0 at hb0 hn0 ⊢;have HB:Hid (Below w.heap.size w w0):=hb0;have HA:Hid (BnAt w0 w.heap.size s d p p):=hn0;clear hb0 hn0;go_loopw [21] (fun v wr=>∃k:Nat,k≤1∧v=.int .i64 k∧Below w.heap.size w wr∧BnAt wr w.heap.size s d p p∧(k=1→bW0 p s=true)) (fun v _=>2 - (intOf v).toNat)
 case atStart=>exact ⟨0,by omega,rfl,HB.out,HA.out,fun h=>absurd h (by decide)⟩
 case round=>
  obtain ⟨k,hk,rfl,hb,ha,hq⟩:=hrel;have HQ:Hid (k=1→bW0 p s=true):=hq;have HB:Hid (Below w.heap.size w wr):=hb;have HA:Hid (BnAt wr w.heap.size s d p p):=ha;have k0:=cell_regrown (cV0 (j:=0) ha rfl);have k1:=cell_regrown (cV0 (j:=1) ha rfl);have k2:=cell_regrown (cV0 (j:=2) ha rfl);have k3:=cell_regrown (cV0 (j:=3) ha rfl);clear hq hb ha;have hk01:k=0∨k=1:=by omega
  rcases hk01 with rfl | rfl
  ·have cB:∀dq os,Calls Tryz.prog 81 #[.int .i64 p,.int .i64 s] (Go.Sort.grow (redrawn wr dq) os) fun e w''=>e=.returned (.tuple #[.int .i64 (bandL p s),.int .i64 (bandH p s),fW0 p s])∧∃p:Regrown,w''=Go.Sort.grow (redrawn wr p.d) p.os:=fun dq os=>Calls.regrown_of (jO0 p s _)
   go_wp2_with fail;refine wp_region_quiet_below (by kernel_rfl) (by kernel_rfl) ?_
   repeat (go_big_quiet_step (exact cB _ _))
   refine wpQuiet_nil ?_;intro _ hw';obtain ⟨⟨dq,osq⟩,hw''⟩:=hw';subst hw'';have hbw:=below_regrown wr dq osq;generalize Go.Sort.grow (redrawn wr dq) osq=w5 at hbw ⊢;have HB5:Hid (Below w.heap.size w w5):=hN0 HB.out hbw;have HA5:Hid (BnAt w5 w.heap.size s d p p):=HA.out.below hbw;clear hbw k0 k1 k2 k3 cB;cases ho:bW0 p s with
   | true=>
    have HO:Hid (bW0 p s=true):=ho;rw [nX0 ho];clear ho;go_wp2;go_roundw
    case rel=>exact ⟨1,by omega,rfl,HB5.out,HA5.out,fun _=>HO.out⟩
    case measure=>simp [intOf]
   | false=>
    rw [tI0 ho];clear ho;go_wp2;go_ret2;exact ⟨rfl,HB5.out⟩
  ·have cB:∀dq os,Calls Tryz.prog 81 #[.int .i64 p,.int .i64 d] (Go.Sort.grow (redrawn wr dq) os) fun e w''=>e=.returned (.tuple #[.int .i64 (bandL p d),.int .i64 (bandH p d),fW0 p d])∧∃p:Regrown,w''=Go.Sort.grow (redrawn wr p.d) p.os:=fun dq os=>Calls.regrown_of (jO0 p d _)
   go_wp2_with fail;refine wp_region_quiet_below (by kernel_rfl) (by kernel_rfl) ?_
   repeat (go_big_quiet_step (exact cB _ _))
   refine wpQuiet_nil ?_;intro _ hw';obtain ⟨⟨dq,osq⟩,hw''⟩:=hw';subst hw'';have hbw:=below_regrown wr dq osq;generalize Go.Sort.grow (redrawn wr dq) osq=w5 at hbw ⊢;have HB5:Hid (Below w.heap.size w w5):=hN0 HB.out hbw;clear hbw k0 k1 k2 k3 cB
   have ho:bW0 p d=false:=by
    have h:=HN.out;unfold lJ0 at h;rw [HQ.out (by trivial)] at h
    simpa using h
   rw [tI0 ho];clear ho;go_wp2;go_ret2;exact ⟨rfl,HB5.out⟩
set_option maxRecDepth 4000 in
set_option maxHeartbeats 4000000 in
theorem yC0 (s d p:Int) (w:World) (h:lJ0 s d p=true):
  Calls Tryz.prog 113 #[.int .i64 s,.int .i64 d,.int .i64 p] w fun e w'=>e=.returned (.tuple #[.pointer (some ⟨w.heap.size,0,none⟩),.nilIface])∧Below w.heap.size w w'∧BnAt w' w.heap.size s d p p:=by
 have h2:bW0 p s=true∧bW0 p d=true:=by unfold lJ0 at h;simpa using h
 have HN:Hid (bW0 p s=true∧bW0 p d=true):=h2;clear h2;clear h;go_enter Tryz.func113,Tryz.ntmps113;go_wp2_with fail;have hb0:=gK0 w (.cells #[.int .i64 s,.int .i64 d,.int .i64 p,.int .i64 p] 225);have hn0:BnAt (w.alloc (.cells #[.int .i64 s,.int .i64 d,.int .i64 p,.int .i64 p] 225)) w.heap.size s d p p:=heap_alloc_new w _;generalize w.alloc (.cells #[.int .i64 s,.int .i64 d,.int .i64 p,.int .i64 p] 225)=w0 at hb0 hn0 ⊢;have HB:Hid (Below w.heap.size w w0):=hb0;have HA:Hid (BnAt w0 w.heap.size s d p p):=hn0;clear hb0 hn0;go_loopw [21] (fun v wr=>∃k:Nat,k≤2∧v=.int .i64 k∧Below w.heap.size w wr∧BnAt wr w.heap.size s d p p) (fun v _=>2 - (intOf v).toNat)
 case atStart=>exact ⟨0,by omega,rfl,HB.out,HA.out⟩
 case round=>
  obtain ⟨k,hk,rfl,hb,ha⟩:=hrel;have HB:Hid (Below w.heap.size w wr):=hb;have HA:Hid (BnAt wr w.heap.size s d p p):=ha;have k0:=cell_regrown (cV0 (j:=0) ha rfl);have k1:=cell_regrown (cV0 (j:=1) ha rfl);have k2:=cell_regrown (cV0 (j:=2) ha rfl);have k3:=cell_regrown (cV0 (j:=3) ha rfl);clear hb ha;have hk01:k=0∨k=1∨k=2:=by omega
  rcases hk01 with rfl | rfl | rfl
  ·have cB:∀dq os,Calls Tryz.prog 81 #[.int .i64 p,.int .i64 s] (Go.Sort.grow (redrawn wr dq) os) fun e w''=>e=.returned (.tuple #[.int .i64 (bandL p s),.int .i64 (bandH p s),fW0 p s])∧∃p:Regrown,w''=Go.Sort.grow (redrawn wr p.d) p.os:=fun dq os=>Calls.regrown_of (jO0 p s _)
   go_wp2_with fail;refine wp_region_quiet_below (by kernel_rfl) (by kernel_rfl) ?_
   repeat (go_big_quiet_step (exact cB _ _))
   refine wpQuiet_nil ?_;intro _ hw';obtain ⟨⟨dq,osq⟩,hw''⟩:=hw';subst hw'';have hbw:=below_regrown wr dq osq;generalize Go.Sort.grow (redrawn wr dq) osq=w5 at hbw ⊢;have HB5:Hid (Below w.heap.size w w5):=hN0 HB.out hbw;have HA5:Hid (BnAt w5 w.heap.size s d p p):=HA.out.below hbw;clear hbw k0 k1 k2 k3 cB;rw [nX0 HN.out.1];go_wp2;go_roundw
   case rel=>exact ⟨1,by omega,rfl,HB5.out,HA5.out⟩
   case measure=>simp [intOf]
  ·have cB:∀dq os,Calls Tryz.prog 81 #[.int .i64 p,.int .i64 d] (Go.Sort.grow (redrawn wr dq) os) fun e w''=>e=.returned (.tuple #[.int .i64 (bandL p d),.int .i64 (bandH p d),fW0 p d])∧∃p:Regrown,w''=Go.Sort.grow (redrawn wr p.d) p.os:=fun dq os=>Calls.regrown_of (jO0 p d _)
   go_wp2_with fail;refine wp_region_quiet_below (by kernel_rfl) (by kernel_rfl) ?_
   repeat (go_big_quiet_step (exact cB _ _))
   refine wpQuiet_nil ?_;intro _ hw';obtain ⟨⟨dq,osq⟩,hw''⟩:=hw';subst hw'';have hbw:=below_regrown wr dq osq;generalize Go.Sort.grow (redrawn wr dq) osq=w5 at hbw ⊢;have HB5:Hid (Below w.heap.size w w5):=hN0 HB.out hbw;have HA5:Hid (BnAt w5 w.heap.size s d p p):=HA.out.below hbw;clear hbw k0 k1 k2 k3 cB;rw [nX0 HN.out.2];go_wp2;go_roundw
   case rel=>exact ⟨2,by omega,rfl,HB5.out,HA5.out⟩
   case measure=>simp [intOf]
  ·clear k0 k1 k2 k3;go_wp2;go_ret2;exact ⟨rfl,HB.out,HA.out⟩
theorem jC1 (bb:Nat) (s d a l:Int) (w:World) (h:BnAt w bb s d a l):
  Calls Tryz.prog 132 #[.pointer (some ⟨bb,0,none⟩)] w fun e w'=>e=.returned (.int .i64 a)∧Below w.heap.size w w':=by
 have c:=cV0 (j:=2) h rfl;clear h;go_enter Tryz.func132,Tryz.ntmps132;go_wp2;go_ret;exact ⟨rfl,Below.refl _ _⟩
theorem mI1 (bb:Nat) (s d a l:Int) (w:World) (h:BnAt w bb s d a l):
  Calls Tryz.prog 128 #[.pointer (some ⟨bb,0,none⟩)] w fun e w'=>e=.returned (.int .i64 l)∧Below w.heap.size w w':=by
 have c:=cV0 (j:=3) h rfl;clear h;go_enter Tryz.func128,Tryz.ntmps128;go_wp2;go_ret;exact ⟨rfl,Below.refl _ _⟩
def eV0 (s a p:Int):Bool:=inB (bandL a s) (bandH a s) p
def dX0 (s d a l p:Int):Bool:=eV0 s a p&& eV0 d l p
set_option maxRecDepth 4000 in
set_option maxHeartbeats 4000000 in
theorem dD1 (bb g:Nat) (s d a l p:Int) (w:World) (h:BnAt w bb s d a l) (hg:w.cell? ⟨g,0,none⟩=some (.int .i64 0)):
  Calls Tryz.prog 247 #[.pointer (some ⟨bb,0,none⟩),.int .i64 p,.slice (some ⟨g,0,none⟩) 1 1] w fun e w'=>e=.returned (.bool (eV0 s a p))∧Below w.heap.size w w':=by
 have HA:Hid (BnAt w bb s d a l):=h;have HG:Hid (w.cell? ⟨g,0,none⟩=some (.int .i64 0)):=hg;clear h hg;go_enter Tryz.func247,Tryz.ntmps247;go_wp2;go_loopw [13] (fun v wr=>∃k:Nat,k≤1∧v=.int .i64 k∧Below w.heap.size w wr∧(k=1→eV0 s a p=true)) (fun v _=>1 - (intOf v).toNat)
 case atStart=>exact ⟨0,by omega,rfl,Below.refl _ _,fun h=>absurd h (by decide)⟩
 case round=>
  obtain ⟨k,hk,rfl,hb,hq⟩:=hrel;have HB:Hid (Below w.heap.size w wr):=hb;have HQ:Hid (k=1→eV0 s a p=true):=hq;clear hb hq;have hk01:k=0∨k=1:=by omega
  rcases hk01 with rfl | rfl
  ·have c0:=(HB.out.cell (p:=⟨g,0,none⟩) (World.block_lt_of_cell? w _ HG.out)).trans HG.out;go_wp2_with fail;refine (dC1 bb s d a l _ (HA.out.below HB.out)).mono ?_;rintro e w1 ⟨rfl,hb1⟩;have HB1:Hid (Below w.heap.size w w1):=hN0 HB.out hb1;clear hb1 c0;cases hc:eV0 s a p with
   | true=>
    obtain ⟨h1,h2⟩:=dW0 (lo:=bandL a s) (hi:=bandH a s) (z:=p) hc;have HC:Hid (eV0 s a p=true):=hc;clear hc;go_wp2;go_roundw
    case rel=>exact ⟨1,by omega,rfl,HB1.out,fun _=>HC.out⟩
    case measure=>simp [intOf]
   | false=>
    have h1:=nM0 (lo:=bandL a s) (hi:=bandH a s) (z:=p) hc;have HC:Hid (eV0 s a p=false):=hc;clear hc
    by_cases h2:p<bandL a s
    ·go_wp2;go_ret;exact ⟨by rw [HC.out];rfl,HB1.out⟩
    ·have h3:bandH a s<p:=by omega
     go_wp2;go_ret;exact ⟨by rw [HC.out];rfl,HB1.out⟩
  ·go_wp2;go_ret;exact ⟨by rw [HQ.out (by trivial)];rfl,HB.out⟩
set_option maxRecDepth 4000 in
set_option maxHeartbeats 4000000 in
theorem dE1 (bb g:Nat) (s d a l p:Int) (w:World) (h:BnAt w bb s d a l) (hg:w.cell? ⟨g,0,none⟩=some (.int .i64 0)) (hg1:w.cell? ⟨g,1,none⟩=some (.int .i64 1)):
  Calls Tryz.prog 247 #[.pointer (some ⟨bb,0,none⟩),.int .i64 p,.slice (some ⟨g,0,none⟩) 2 2] w fun e w'=>e=.returned (.bool (dX0 s d a l p))∧Below w.heap.size w w':=by
 have HA:Hid (BnAt w bb s d a l):=h;have HG:Hid (w.cell? ⟨g,0,none⟩=some (.int .i64 0)):=hg;have HG1:Hid (w.cell? ⟨g,1,none⟩=some (.int .i64 1)):=hg1;clear h hg hg1;go_enter Tryz.func247,Tryz.ntmps247;go_wp2;go_loopw [13] (fun v wr=>∃k:Nat,k≤2∧v=.int .i64 k∧Below w.heap.size w wr∧(1≤k→eV0 s a p=true)∧(k=2→eV0 d l p=true)) (fun v _=>2 - (intOf v).toNat)
 case atStart=>exact ⟨0,by omega,rfl,Below.refl _ _,fun h=>absurd h (by decide),fun h=>absurd h (by decide)⟩
 case round=>
  obtain ⟨k,hk,rfl,hb,hq,hq2⟩:=hrel;have HB:Hid (Below w.heap.size w wr):=hb;have HQ:Hid (1≤k→eV0 s a p=true):=hq;have HQ2:Hid (k=2→eV0 d l p=true):=hq2;clear hb hq hq2;have hk01:k=0∨k=1∨k=2:=by omega
  rcases hk01 with rfl | rfl | rfl
  ·have c0:=(HB.out.cell (p:=⟨g,0,none⟩) (World.block_lt_of_cell? w _ HG.out)).trans HG.out;go_wp2_with fail;refine (dC1 bb s d a l _ (HA.out.below HB.out)).mono ?_;rintro e w1 ⟨rfl,hb1⟩;have HB1:Hid (Below w.heap.size w w1):=hN0 HB.out hb1;clear hb1 c0;cases hc:eV0 s a p with
   | true=>
    obtain ⟨h1,h2⟩:=dW0 (lo:=bandL a s) (hi:=bandH a s) (z:=p) hc;have HC:Hid (eV0 s a p=true):=hc;clear hc;go_wp2;go_roundw
    case rel=>exact ⟨1,by omega,rfl,HB1.out,fun _=>HC.out,fun h=>absurd h (by decide)⟩
    case measure=>simp [intOf]
   | false=>
    have h1:=nM0 (lo:=bandL a s) (hi:=bandH a s) (z:=p) hc;have HC:Hid (dX0 s d a l p=false):=by unfold dX0;rw [hc];rfl
    clear hc
    by_cases h2:p<bandL a s
    ·go_wp2;go_ret;exact ⟨by rw [HC.out];rfl,HB1.out⟩
    ·have h3:bandH a s<p:=by omega
     go_wp2;go_ret;exact ⟨by rw [HC.out];rfl,HB1.out⟩
  ·have c1:=(HB.out.cell (p:=⟨g,1,none⟩) (World.block_lt_of_cell? w _ HG1.out)).trans HG1.out;have HC0:Hid (eV0 s a p=true):=HQ.out lR7;go_wp2_with fail;refine (oC1 bb s d a l _ (HA.out.below HB.out)).mono ?_;rintro e w1 ⟨rfl,hb1⟩;have HB1:Hid (Below w.heap.size w w1):=hN0 HB.out hb1;clear hb1 c1;cases hc:eV0 d l p with
   | true=>
    obtain ⟨h1,h2⟩:=dW0 (lo:=bandL l d) (hi:=bandH l d) (z:=p) hc;have HC:Hid (eV0 d l p=true):=hc;clear hc;go_wp2;go_roundw
    case rel=>exact ⟨2,by omega,rfl,HB1.out,fun _=>HC0.out,fun _=>HC.out⟩
    case measure=>simp [intOf]
   | false=>
    have h1:=nM0 (lo:=bandL l d) (hi:=bandH l d) (z:=p) hc;have HC:Hid (dX0 s d a l p=false):=by unfold dX0;rw [HC0.out,hc];rfl
    clear hc
    by_cases h2:p<bandL l d
    ·go_wp2;go_ret;exact ⟨by rw [HC.out];rfl,HB1.out⟩
    ·have h3:bandH l d<p:=by omega
     go_wp2;go_ret;exact ⟨by rw [HC.out];rfl,HB1.out⟩
  ·have HC:Hid (dX0 s d a l p=true):=by unfold dX0;rw [HQ.out (by decide),HQ2.out rfl];rfl
   go_wp2;go_ret;exact ⟨by rw [HC.out];rfl,HB.out⟩
theorem qX1 (bb:Nat) (s d a l p:Int) (w:World) (h:BnAt w bb s d a l):
  Calls Tryz.prog 177 #[.pointer (some ⟨bb,0,none⟩),.int .i64 p] w fun e w'=>e=.returned (.bool (eV0 s a p))∧Below w.heap.size w w':=by
 have HA:Hid (BnAt w bb s d a l):=h;clear h;go_enter Tryz.func177,Tryz.ntmps177;go_wp2_with fail;refine (dD1 bb _ s d a l p _ (HA.out.below (gK0 w _)) (by simp [go_sem])).mono ?_;rintro e w' ⟨rfl,hb⟩;have HB:Hid (Below w.heap.size w w'):=hN0 (gK0 w _) hb;clear hb;go_wp2;go_ret;exact ⟨rfl,HB.out⟩
theorem jD1 (bb:Nat) (s d a l p:Int) (w:World) (h:BnAt w bb s d a l):
  Calls Tryz.prog 239 #[.pointer (some ⟨bb,0,none⟩),.int .i64 p] w fun e w'=>e=.returned (.bool (dX0 s d a l p))∧Below w.heap.size w w':=by
 have HA:Hid (BnAt w bb s d a l):=h;clear h;go_enter Tryz.func239,Tryz.ntmps239;go_wp2_with fail;refine (dE1 bb _ s d a l p _ (HA.out.below (gK0 w _)) (by simp [go_sem]) (by simp [go_sem])).mono ?_;rintro e w' ⟨rfl,hb⟩;have HB:Hid (Below w.heap.size w w'):=hN0 (gK0 w _) hb;clear hb;go_wp2;go_ret;exact ⟨rfl,HB.out⟩
def hasB:List Int→Int→Bool
 | [],_=>false
 | z::r,x=>x == z || hasB r x
theorem dF1 {x:Int} {zs:List Int} {k:Nat} (h:k<zs.length) (hx:(x == zs[k])=false):hasB (zs.drop (k+1)) x=hasB (zs.drop k) x:=by
 rw [List.drop_eq_getElem_cons h];simp [hasB,hx]
theorem jE1 {x:Int} {zs:List Int} {k:Nat} (h:k<zs.length) (hx:(x == zs[k])=true):hasB (zs.drop k) x=true:=by
 rw [List.drop_eq_getElem_cons h];simp [hasB,hx]
theorem jF1 {x:Int} {zs:List Int} {k:Nat} (h:¬k<zs.length):hasB (zs.drop k) x=false:=by
 rw [List.drop_eq_nil_of_le (by omega)];rfl
def folL (p:Int):List Int:=if p=1 then [2] else if p=2 then [3] else if p=3 then [5,7] else if p=5 then [7] else []
def jF0 (zs:List Int) (a0 a1 p1:Int):Int:=if hasB zs p1=true then (if a1≤a0 then 10 else if 1000000<a1 then 2 else 0) else 1
theorem tJ0 {w:World} {a:Addr} {v:Value} (h:w.cell? a=some v):a.block<w.heap.size:=by
 rcases Nat.lt_or_ge a.block w.heap.size with h' | h'
 ·exact h'
 ·simp [World.cell?,Array.getElem?_eq_none h'] at h
theorem rI0 {a b:Int} (h:a=b):Ending.returned (.int .i64 a)=.returned (.int .i64 b):=by rw [h]
theorem jG1 {a b:Bool} (h:a=b):Ending.returned (.bool a)=.returned (.bool b):=by rw [h]
def iF0 (w:World) (v:Value) (zs:List Int):Prop:=
 (zs=[]∧v=.slice none 0 0)∨∃b:Nat,v=.slice (some ⟨b,0,none⟩) zs.length zs.length∧zs.length≤1000∧(∀j,j<zs.length→w.cell? ⟨b,j,none⟩=some (.int .i64 (zs.getD j 0)))
theorem iF0.below {w w':World} {v:Value} {zs:List Int} {B:Nat} (h:iF0 w v zs) (hb:Below B w w') (hB:w.heap.size≤B):iF0 w' v zs:=by
 rcases h with h | ⟨b,h1,h2,h3⟩
 ·exact Or.inl h
 ·exact Or.inr ⟨b,h1,h2,fun j hj=>(hb.cell (p:=⟨b,j,none⟩) (Nat.lt_of_lt_of_le (tJ0 (a:=⟨b,j,none⟩) (h3 j hj)) hB)).trans (h3 j hj)⟩
set_option maxHeartbeats 400000 in
theorem dG1 (x:Int) (b:Nat) (zs:List Int) (w:World) (hbig:zs.length≤1000)
  (hc:∀j,j<zs.length→w.cell? ⟨b,j,none⟩=some (.int .i64 (zs.getD j 0))):
  Calls Tryz.prog 261 #[.slice (some ⟨b,0,none⟩) zs.length zs.length,.int .i64 x] w fun e w'=>(∃r:Int,e=.returned (.int .i64 r)∧decide (0≤r)=hasB zs x)∧w'=w:=by
 go_enter Tryz.func261,Tryz.ntmps261;go_wp2;go_loop [5,8] (fun _ i=>∃k:Nat,k≤zs.length∧i=.int .i64 k∧hasB (zs.drop k) x=hasB zs x) (fun _ i=>zs.length - (intOf i).toNat)
 case atStart=>exact ⟨0,Nat.zero_le _,rfl,rfl⟩
 case round=>
  obtain ⟨k,hk,rfl,hq⟩:=hrel;have HQ:Hid (hasB (zs.drop k) x=hasB zs x):=hq;clear hq;have hcell:k<zs.length→w.cell? ⟨b,k,none⟩=some (.int .i64 (zs.getD k 0)):=fun h=>hc k h
  go_wp2
  ·go_ret;exact ⟨⟨_,rfl,by rw [←HQ.out,jE1 (by assumption) (by assumption)];simp⟩,rfl⟩
  ·go_round
   case rel=>exact ⟨k+1,by omega,by go_num,by rw [←HQ.out];exact dF1 (by assumption) (by assumption)⟩
   case measure=>simp [intOf];omega
  ·go_ret;exact ⟨⟨_,rfl,by rw [←HQ.out,jF1 (by assumption)];rfl⟩,rfl⟩
theorem dH1 (x:Int) (w:World):Calls Tryz.prog 261 #[.slice none 0 0,.int .i64 x] w fun e w'=>(∃r:Int,e=.returned (.int .i64 r)∧decide (0≤r)=hasB [] x)∧w'=w:=by
 go_enter Tryz.func261,Tryz.ntmps261;go_wp2_with fail;refine wp_loop_rounds 1 ?_;rw [rounds_succ];go_wp2;go_ret;exact ⟨⟨_,rfl,rfl⟩,rfl⟩
theorem dI1 (x:Int) (v:Value) (zs:List Int) (w:World) (h:iF0 w v zs):
  Calls Tryz.prog 261 #[v,.int .i64 x] w fun e w'=>(∃r:Int,e=.returned (.int .i64 r)∧decide (0≤r)=hasB zs x)∧w'=w:=by
 rcases h with ⟨rfl,rfl⟩ | ⟨b,rfl,h1,h2⟩
 ·exact dH1 x w
 ·exact dG1 x b zs w h1 h2
theorem tK0 (x:Int) (v:Value) (zs:List Int) (w:World) (h:iF0 w v zs):
  Calls Tryz.prog 230 #[v,.int .i64 x] w fun e w'=>e=.returned (.bool (hasB zs x))∧w'=w:=by
 have HI:Hid (iF0 w v zs):=h;clear h;go_enter Tryz.func230,Tryz.ntmps230;go_wp2_with fail;refine (dI1 x v zs _ HI.out).mono ?_;rintro e w1 ⟨⟨r,rfl,hr⟩,hw⟩;subst hw;have HR:Hid (decide (0≤r)=hasB zs x):=hr;clear hr;go_wp2;go_ret;exact ⟨jG1 HR.out,rfl⟩
set_option maxHeartbeats 400000 in
theorem dJ1 (v:Value) (zs:List Int) (a0 p0 a1 p1:Int) (w:World) (h:iF0 w v zs):
  Calls Tryz.prog 163 #[v,.agg #[.int .i64 a0,.int .i64 p0],.agg #[.int .i64 a1,.int .i64 p1]] w fun e w'=>e=.returned (.int .i64 (jF0 zs a0 a1 p1))∧Below w.heap.size w w':=by
 have HI:Hid (iF0 w v zs):=h;clear h;go_enter Tryz.func163,Tryz.ntmps163;go_wp2_with fail;refine (tK0 p1 v zs _ (HI.out.below (B:=w.heap.size) (by go_grown) lR7)).mono ?_;rintro e w1 ⟨rfl,hw⟩;subst hw;cases hh:hasB zs p1 with
 | false=>
  go_wp2;go_ret;exact ⟨rI0 (by unfold jF0;rw [hh];rfl),by go_grown⟩
 | true=>
  go_wp2
  all_goals go_ret
  ·exact ⟨rI0 (by unfold jF0;rw [if_pos hh,if_pos (by assumption)]),by go_grown⟩
  ·exact ⟨rI0 (by unfold jF0;rw [if_pos hh,if_neg (by omega),if_pos (by assumption)]),by go_grown⟩
  ·exact ⟨rI0 (by unfold jF0;rw [if_pos hh,if_neg (by omega),if_neg (by omega)]),by go_grown⟩
theorem Tryz.keyInt:Maps.Keyed Tryz.prog 3:=Maps.int_keyed Tryz.underlying3
theorem Tryz.keyIs {a:Int} (h:(Lit.int .i64 a).wf=true):keyOf Tryz.prog 3 (.int .i64 a)=some (.int .i64 a):=Maps.keyOf_int_mk Tryz.underlying3 h
theorem Tryz.zeroInts (w:World):(zeroValue 59).run Tryz.prog w=.ok (.slice none 0 0) w:=by kernel_rfl
def folR (v:Value):Option (DataW Unit×List MemPlace):=
 match v with
 | .slice none 0 0=>some (.nil,[])
 | .slice (some ⟨b,0,none⟩) n c=>some (.agg [.lit (.int .i64 b),.lit (.int .i64 n),.lit (.int .i64 c)],[])
 | _=>none
def folE (b n:Nat):DataW Unit:=.agg [.lit (.int .i64 b),.lit (.int .i64 n),.lit (.int .i64 n)]
theorem jH1 (b n:Nat):folR (.slice (some ⟨b,0,none⟩) n n)=some (folE b n,[]):=rfl
theorem jI1 {v:Value} {ps:List MemPlace} (h:folR v=some (.nil,ps)):v=.slice none 0 0:=by
 unfold folR at h;split at h
 ·rfl
 ·simp at h
 ·simp at h
theorem mT0 {v:Value} {b n:Nat} {ps:List MemPlace} (h:folR v=some (folE b n,ps)):v=.slice (some ⟨b,0,none⟩) n n:=by
 unfold folR at h;split at h
 ·simp [folE] at h
 ·simp [folE] at h;simp;omega
 ·simp at h
def folD (b1 b2 b3 b4:Nat):DataW Unit:=((((DataW.map []).put (.int .i64 1) (folE b1 1)).put (.int .i64 2) (folE b2 1)).put (.int .i64 3) (folE b3 2)).put (.int .i64 5) (folE b4 1)
theorem oD1 (b1 b2 b3 b4:Nat) (key:Int):(folD b1 b2 b3 b4).atKey (.int .i64 key) .nil=if key=1 then folE b1 1 else if key=2 then folE b2 1 else if key=3 then folE b3 2 else if key=5 then folE b4 1 else .nil:=by
 have ne:∀a b:Int,a≠b→(Lit.int .i64 a)≠Lit.int .i64 b:=fun a b h e=>h (by injection e)
 have wf:∀a:Int,WideAt.IsKeyLit (Lit.int .i64 a):=fun a=>trivial
 unfold folD
 by_cases h5:key=5
 ·subst h5;exact (Maps.atKey_put_same ⟨_,rfl⟩ (wf _) _ _).trans rfl
 rw [Maps.atKey_put_other (ne _ _ h5)]
 by_cases h3:key=3
 ·subst h3;exact (Maps.atKey_put_same ⟨_,rfl⟩ (wf _) _ _).trans rfl
 rw [Maps.atKey_put_other (ne _ _ h3)]
 by_cases h2:key=2
 ·subst h2;exact (Maps.atKey_put_same ⟨_,rfl⟩ (wf _) _ _).trans rfl
 rw [Maps.atKey_put_other (ne _ _ h2)]
 by_cases h1:key=1
 ·subst h1;exact (Maps.atKey_put_same ⟨_,rfl⟩ (wf _) _ _).trans rfl
 rw [Maps.atKey_put_other (ne _ _ h1),if_neg h1,if_neg h2,if_neg h3,if_neg h5];rfl
def pJ0 (w:World) (B:Nat):Prop:=
 ∃b1 b2 b3 b4:Nat,w.ownsMap Tryz.prog 3 folR B 4 (folD b1 b2 b3 b4)∧w.cell? ⟨b1,0,none⟩=some (.int .i64 2)∧w.cell? ⟨b2,0,none⟩=some (.int .i64 3)∧w.cell? ⟨b3,0,none⟩=some (.int .i64 5)∧w.cell? ⟨b3,1,none⟩=some (.int .i64 7)∧w.cell? ⟨b4,0,none⟩=some (.int .i64 7)
theorem pJ0.below {w w':World} {B n:Nat} (h:pJ0 w B) (hb:Below n w w') (hn:w.heap.size≤n):pJ0 w' B:=by
 obtain ⟨b1,b2,b3,b4,ho,c1,c2,c3,c4,c5⟩:=h;have hl:=ho.lt;obtain ⟨es,clock,e1,e2,e3,e4⟩:=ho
 have keep:∀(b j:Nat) (v:Value),w.cell? ⟨b,j,none⟩=some v→w'.cell? ⟨b,j,none⟩=some v:=fun b j v hv=>
  (hb.cell (p:=⟨b,j,none⟩) (Nat.lt_of_lt_of_le (tJ0 (a:=⟨b,j,none⟩) hv) hn)).trans hv
 exact ⟨b1,b2,b3,b4,⟨es,clock,(hb.block B (Nat.lt_of_lt_of_le hl hn)).trans e1,e2,e3,e4⟩,keep _ _ _ c1,keep _ _ _ c2,keep _ _ _ c3,keep _ _ _ c4,keep _ _ _ c5⟩
theorem pJ0.look {w:World} {B:Nat} (h:pJ0 w B) {key:Int} (hk:(Lit.int .i64 key).wf=true):
  ∃v,(Instr.lookup 217 (.map (some B)) (.int .i64 key) false).run Tryz.prog w=.ok v w∧iF0 w v (folL key):=by
 obtain ⟨b1,b2,b3,b4,ho,c1,c2,c3,c4,c5⟩:=h;obtain ⟨v,ps,hrun,hv⟩:=ho.lookup Tryz.keyInt Tryz.underlying217 (Tryz.zeroInts w) (zd:=.nil) (zp:=[]) rfl (Tryz.keyIs hk);refine ⟨v,hrun,?_⟩;rw [oD1] at hv;unfold folL;split at hv
 ·rename_i e1;rw [if_pos e1];refine Or.inr ⟨_,mT0 hv,by decide,fun j hj=>?_⟩;have:j=0:=by simp at hj;omega
  subst this;exact c1
 split at hv
 ·rename_i e1 e2;rw [if_neg e1,if_pos e2];refine Or.inr ⟨_,mT0 hv,by decide,fun j hj=>?_⟩;have:j=0:=by simp at hj;omega
  subst this;exact c2
 split at hv
 ·rename_i e1 e2 e3;rw [if_neg e1,if_neg e2,if_pos e3];refine Or.inr ⟨_,mT0 hv,by decide,fun j hj=>?_⟩;have:j=0∨j=1:=by simp at hj;omega
  rcases this with rfl | rfl
  ·exact c3
  ·exact c4
 split at hv
 ·rename_i e1 e2 e3 e4;rw [if_neg e1,if_neg e2,if_neg e3,if_pos e4];refine Or.inr ⟨_,mT0 hv,by decide,fun j hj=>?_⟩;have:j=0:=by simp at hj;omega
  subst this;exact c5
 ·rename_i e1 e2 e3 e4;rw [if_neg e1,if_neg e2,if_neg e3,if_neg e4];exact Or.inl ⟨rfl,jI1 hv⟩
theorem rJ0 {w:World} {B n:Nat} {D:DataW Unit} (ho:w.ownsMap Tryz.prog 3 folR B n D) (hn:n<100) (key:Int) (hk:(Lit.int .i64 key).wf=true) (o:Obj) (len:Nat):
  ∃w',(Instr.mapUpdate 217 (.map (some B)) (.int .i64 key) (.slice (some ⟨w.heap.size,0,none⟩) len len)).run Tryz.prog (w.alloc o)=.ok () w'
   ∧w'.ownsMap Tryz.prog 3 folR B (n+1) (D.put (.int .i64 key) (folE w.heap.size len))∧(w.alloc o).grownBy w' (some B):=
 (ho.alloc o).update Tryz.keyInt Tryz.underlying217 (by unfold maxLen;omega) (Tryz.keyIs hk) (jH1 _ _)
theorem kJ0 {w w1:World} {B:Nat} {vs:Array Value} {t:TypeId} (hg:(w.alloc (.cells vs t)).grownBy w1 (some B)) (hB:B<w.heap.size) {j:Nat} {v:Value} (hv:vs[j]? = some v):w1.cell? ⟨w.heap.size,j,none⟩=some v:=by
 have h1:=hg.block w.heap.size (by simp) (by intro e;injection e with e;omega);exact (World.cell?_of_block (w:=w.alloc (.cells vs t)) (a:=⟨w.heap.size,j,none⟩) h1).trans ((World.cell?_alloc_at _ _ _ _ rfl).trans hv)
theorem hQ0 {w w1:World} {B:Nat} {o:Obj} (hg:(w.alloc o).grownBy w1 (some B)) {b j:Nat} {v:Value} (hb:b≠B) (hv:w.cell? ⟨b,j,none⟩=some v):w1.cell? ⟨b,j,none⟩=some v:=by
 have hl:=tJ0 (a:=⟨b,j,none⟩) hv;have h1:=hg.block b (by simp;simp at hl;omega) (by intro e;injection e with e;omega);exact (World.cell?_of_block (w:=w.alloc o) (a:=⟨b,j,none⟩) h1).trans ((World.cell?_alloc_lt _ _ _ hl).trans hv)
set_option maxHeartbeats 400000 in
theorem rK0 (w:World):Calls Tryz.prog 162 #[] w fun e w'=>e=.returned (.map (some w.heap.size))∧pJ0 w' w.heap.size∧Below w.heap.size w w':=by
 have hmm:=@run_makeMap Tryz.prog;have h0:=World.ownsMap_made w Tryz.prog 3 folR;have s0:(w.alloc (.map #[] 0)).heap.size=w.heap.size+1:=by simp
 obtain ⟨w1,r1,o1,g1⟩:=rJ0 h0 (by omega) 1 (by decide) (.cells #[.int .i64 2] 3) 1;obtain ⟨w2,r2,o2,g2⟩:=rJ0 o1 (by omega) 2 (by decide) (.cells #[.int .i64 3] 3) 1;obtain ⟨w3,r3,o3,g3⟩:=rJ0 o2 (by omega) 3 (by decide) (.cells #[.int .i64 5,.int .i64 7] 3) 2;obtain ⟨w4,r4,o4,g4⟩:=rJ0 o3 (by omega) 5 (by decide) (.cells #[.int .i64 7] 3) 1;have l1:=o1.lt;have l2:=o2.lt;have l3:=o3.lt;have z1:=g1.size;have z2:=g2.size;have z3:=g3.size;simp only [World.size_alloc] at z1 z2 z3;have c1:=kJ0 (j:=0) g1 (by rw [s0];omega) rfl;have c2:=kJ0 (j:=0) g2 l1 rfl;have c3:=kJ0 (j:=0) g3 l2 rfl;have c4:=kJ0 (j:=1) g3 l2 rfl;have c5:=kJ0 (j:=0) g4 l3 rfl;have hF:Hid (pJ0 w4 w.heap.size):=⟨_,_,_,_,o4,hQ0 g4 (by omega) (hQ0 g3 (by omega) (hQ0 g2 (by omega) c1)),hQ0 g4 (by omega) (hQ0 g3 (by omega) c2),hQ0 g4 (by omega) c3,hQ0 g4 (by omega) c4,c5⟩
 have one:∀{a b:World} {o:Obj},(a.alloc o).grownBy b (some w.heap.size)→w.heap.size≤a.heap.size→Below w.heap.size a b:=fun {a b o} g hs=>
  ((Below.refl _ a).alloc hs o).grown g (by simp;omega) (fun k hk=>by injection hk with e;omega)
 have hB:Hid (Below w.heap.size w w4):=(((((Below.refl _ w).alloc lR7 _).trans (one g1 (by simp))).trans (one g2 (by omega))).trans (one g3 (by omega))).trans (one g4 (by omega));rw [s0] at r1;clear o1 o2 o3 o4 g1 g2 g3 g4 l1 l2 l3 z1 z2 z3 c1 c2 c3 c4 c5 one h0 s0;go_enter Tryz.func162,Tryz.ntmps162;go_wp2;go_ret;exact ⟨rfl,hF.out,hB.out⟩
def flat:List (Int×Int)→List Value
 | []=>[]
 | r::rs=>.int .i64 r.1::.int .i64 r.2::flat rs
def bU0 (rs:List (Int×Int)) (k:Nat):Int×Int:=rs.getD k (0,0)
theorem vV0 (rs:List (Int×Int)):(flat rs).length=rs.length*2:=by
 induction rs with
 | nil=>rfl
 | cons r rs ih=>simp [flat,ih];omega
theorem dK1 (rs:List (Int×Int)) (k:Nat) (h:k<rs.length):(flat rs)[k*2]? = some (.int .i64 (bU0 rs k).1)∧(flat rs)[k*2+1]? = some (.int .i64 (bU0 rs k).2):=by
 induction rs generalizing k with
 | nil=>simp at h
 | cons r rs ih=>
  cases k with
  | zero=>exact ⟨rfl,rfl⟩
  | succ k=>
   have:=ih k (by simpa using h);rw [show (k+1)*2=k*2+1+1 by omega]
   simpa [flat,bU0] using this
theorem jJ1 (rs:List (Int×Int)):∀u∈flat rs,u.oneCell'=true:=by
 induction rs with
 | nil=>simp [flat]
 | cons r rs ih=>
  intro u hu;simp only [flat,List.mem_cons] at hu;rcases hu with rfl | rfl | hu
  ·rfl
  ·rfl
  ·exact ih u hu
def cI0 (w:World) (b off:Nat) (rs:List (Int×Int)):Prop:=∀j u,(flat rs)[j]? = some u→w.cell? ⟨b,off+j,none⟩=some u
theorem cI0.below {w w':World} {b off n:Nat} {rs:List (Int×Int)} (h:cI0 w b off rs) (hb:Below n w w') (hn:w.heap.size≤n):cI0 w' b off rs:=fun j u hj=>
 (hb.cell (p:=⟨b,off+j,none⟩) (Nat.lt_of_lt_of_le (tJ0 (a:=⟨b,off+j,none⟩) (h j u hj)) hn)).trans (h j u hj)
theorem cI0.row {w:World} {b off:Nat} {rs:List (Int×Int)} (h:cI0 w b off rs) {k:Nat} (hk:k<rs.length):
  w.cell? ⟨b,off+k*2,none⟩=some (.int .i64 (bU0 rs k).1)∧w.cell? ⟨b,off+k*2+1,none⟩=some (.int .i64 (bU0 rs k).2):=
 ⟨h _ _ (dK1 rs k hk).1,by have:=h _ _ (dK1 rs k hk).2;rwa [←Nat.add_assoc] at this⟩
def rowE (p r:Int×Int):Int:=jF0 (folL p.2) p.1 r.1 r.2
def eW0:Int×Int→Nat→List (Int×Int)→Int×Int
 | _,_,[]=>(0,-1)
 | p,i,r::rs=>if rowE p r=0 then eW0 r (i+1) rs else (rowE p r,(i:Int))
def tabE:List (Int×Int)→Int×Int
 | []=>(8,-1)
 | r::rs=>if 20<(r::rs).length then (4,-1) else if r=(0,1) then eW0 r 1 rs else (1,0)
def lK0 (w:World) (b:Nat) (rs:List (Int×Int)):Prop:=∃cb c:Nat,w.cell? ⟨b,0,none⟩=some (.slice (some ⟨cb,0,none⟩) rs.length c)∧cI0 w cb 0 rs
theorem lK0.below {w w':World} {b n:Nat} {rs:List (Int×Int)} (h:lK0 w b rs) (hb:Below n w w') (hn:w.heap.size≤n):lK0 w' b rs:=by
 obtain ⟨cb,c,h1,h2⟩:=h;exact ⟨cb,c,(hb.cell (p:=⟨b,0,none⟩) (Nat.lt_of_lt_of_le (tJ0 (a:=⟨b,0,none⟩) h1) hn)).trans h1,h2.below hb hn⟩
def tC1 (w:World) (rs:List (Int×Int)) (t err:Value):Prop:=
 (tabE rs=(0,-1)∧err=.nilIface∧∃b:Nat,t=.pointer (some ⟨b,0,none⟩)∧lK0 w b rs)
 ∨(¬(tabE rs).1=0∧t=.pointer none∧(((tabE rs).2=-1∧err=.iface 26 (.int .i64 (tabE rs).1))
   ∨∃b:Nat,err=.iface 215 (.pointer (some ⟨b,0,none⟩))∧w.cell? ⟨b,0,none⟩=some (.int .i64 (tabE rs).1)∧w.cell? ⟨b,1,none⟩=some (.int .i64 (tabE rs).2)))
theorem Tryz.sliceNot (a:Addr) (n c:Nat) (w:World):(binOp .eql 27 (.slice (some a) n c) (.slice none 0 0)).run Tryz.prog w=.ok (.bool false) w:=by kernel_rfl
theorem Tryz.infoRow:(Tryz.prog.info? 113).map (fun i=>(i.zero,i.size,i.bytes))=some (some (.agg #[.int .i64 0,.int .i64 0]),2,16):=by kernel_rfl
set_option maxHeartbeats 400000 in
theorem dL1 (b off cap:Nat) (rs:List (Int×Int)) (w:World) (h:cI0 w b off rs) (hne:0<rs.length) (hlen:rs.length≤60):
  Calls Tryz.prog 164 #[.slice (some ⟨b,off,none⟩) rs.length cap] w
   fun e w'=>∃cb c:Nat,e=.returned (.slice (some ⟨cb,0,none⟩) rs.length c)∧cI0 w' cb 0 rs∧Below w.heap.size w w':=by
 have hs:=Tryz.sliceNot ⟨b,off,none⟩ rs.length cap;obtain ⟨i0,hi,hz0,hz1,hz2⟩:=info_parts Tryz.infoRow;have hb0:Below w.heap.size w (w.alloc (.cells #[] 113)):=(Below.refl _ _).alloc lR7 _
 have h1:Hid (∀j u,(flat rs)[j]? = some u→(w.alloc (.cells #[] 113)).cell? ((⟨b,off,none⟩:Addr).add j)=some u):=fun j u hj=>by
  rw [Addr.add_lit];exact (h.below hb0 lR7) j u hj
 have h2:Hid ((w.alloc (.cells #[] 113)).ownsRow w.heap.size 113 2 (.slice (some ⟨w.heap.size,0,none⟩) 0 0) 0 []):=
  ⟨rfl,Or.inr ⟨w.heap.size,0,#[],rfl,lR7,(MapKept.heap_alloc w _).1,lR7,Nat.zero_le _,rfl,rfl⟩⟩
 clear h hb0;go_enter Tryz.func164,Tryz.ntmps164;go_wp2_with (at_builtin;go_loud (refine wpList_append_own _ rfl _ _ 27 rfl w.heap.size 113 i0 (.agg #[.int .i64 0,.int .i64 0]) 2 16 Tryz.underlying27 hi hz0 hz1 hz2 rfl (by decide) _ 0 [] rfl h2.out ⟨b,off,none⟩ rs.length cap (flat rs) rfl (vV0 rs) h1.out (jJ1 rs) (by unfold maxLen;omega) (by omega) (by simp) ?_);intro v1 w1 hown hg hnil);go_ret;obtain ⟨hl,⟨rfl,h0⟩ | ⟨g,c,cur,rfl,hbg,hh,hnc,hcm,hcs,hct⟩⟩:=hown
 ·omega
 ·refine ⟨g,c,by simp,fun j u hj=>?_,((Below.refl _ w).alloc lR7 _).grown hg (by simp) (fun k hk=>by cases hk;exact lR7)⟩;rw [List.nil_append] at hct
  have h3:cur.toList[j]? = some u:=by
   rw [←hct,List.getElem?_take] at hj;split at hj
   ·exact hj
   ·cases hj
  have h4:cur[j]? = some u:=by rw [←h3];simp
  simp [World.cell?,hh,h4]
theorem vW0 {P:Program} {id:Nat} {Q:Exit→Act→World→Prop} {a:Act} {w:World} {l:List Oper} (n:Nat) (hm:P.follows .mixedOrders=true) (hB:Region.lexTailB .any l.toArray n=true)
  (h:wpStill P l.toArray w.drew (fun a'=>wpList P l.toArray Q (l.drop n) a' w.drew) (l.take n) a):(Code.region id l.toArray true).wp P Q a w:=wp_region_still_tail n hm hB h
theorem dM1 (a:Option Addr) (cap:Nat) (w:World):Calls Tryz.prog 112 #[.slice a 0 cap] w fun e w'=>e=.returned (.tuple #[.pointer none,.iface 26 (.int .i64 8)])∧w'=w:=by
 go_enter Tryz.func112,Tryz.ntmps112;go_wp2;go_ret2;exact ⟨rfl,rfl⟩
def mD0 (rs:List (Int×Int)):Prop:=∀k,k<rs.length→(Lit.int .i64 (bU0 rs k).1).wf=true∧(Lit.int .i64 (bU0 rs k).2).wf=true
theorem dN1 {p:Int×Int} {rs:List (Int×Int)} {k:Nat} (h:k<rs.length) (he:rowE p (bU0 rs k)=0):eW0 p k (rs.drop k)=eW0 (bU0 rs k) (k+1) (rs.drop (k+1)):=by
 rw [List.drop_eq_getElem_cons h];have:rs[k]=bU0 rs k:=by simp [bU0,h]
 rw [this];simp [eW0,he]
theorem dO1 {p:Int×Int} {rs:List (Int×Int)} {k:Nat} (h:k<rs.length) (he:¬rowE p (bU0 rs k)=0):eW0 p k (rs.drop k)=(rowE p (bU0 rs k),(k:Int)):=by
 rw [List.drop_eq_getElem_cons h];have:rs[k]=bU0 rs k:=by simp [bU0,h]
 rw [this];simp [eW0,he]
theorem jK1 {p:Int×Int} {rs:List (Int×Int)} {k:Nat} (h:rs.length≤k):eW0 p k (rs.drop k)=(0,-1):=by
 rw [List.drop_eq_nil_of_le h];rfl
theorem iX0 (r:Int×Int) (rs:List (Int×Int)):tabE (r::rs)=if 20<(r::rs).length then (4,-1) else if r=(0,1) then eW0 r 1 rs else (1,0):=rfl
theorem mU0 {rs:List (Int×Int)} (h:20<rs.length):tabE rs=(4,-1):=by
 cases rs with
 | nil=>simp at h
 | cons r rs=>rw [iX0,if_pos h]
theorem tL0 {rs:List (Int×Int)} (h0:0<rs.length) (h:rs.length≤20) (he:¬bU0 rs 0=(0,1)):tabE rs=(1,0):=by
 cases rs with
 | nil=>simp at h0
 | cons r rs=>rw [iX0,if_neg (by omega),if_neg (by exact he)]
theorem jL1 {rs:List (Int×Int)} (h0:0<rs.length) (h:rs.length≤20) (he:bU0 rs 0=(0,1)):tabE rs=eW0 (bU0 rs 0) 1 (rs.drop 1):=by
 cases rs with
 | nil=>simp at h0
 | cons r rs=>rw [iX0,if_neg (by omega),if_pos (by exact he)];rfl
theorem dP1 {a:Int} (h:(a != 0)=true):¬a=0:=by simpa using h
theorem qY1 {a:Int} (h:(a != 0)=false):a=0:=by simpa using h
theorem dQ1 (v:Value) (p r:Int×Int) (w:World) (h:iF0 w v (folL p.2)):
  Calls Tryz.prog 163 #[v,.agg #[.int .i64 p.1,.int .i64 p.2],.agg #[.int .i64 r.1,.int .i64 r.2]] w fun e w'=>e=.returned (.int .i64 (rowE p r))∧Below w.heap.size w w':=dJ1 v _ _ _ _ _ w h
set_option maxRecDepth 4000 in
set_option maxHeartbeats 1000000 in
theorem dR1 (b off cap:Nat) (rs:List (Int×Int)) (w:World) (h:cI0 w b off rs) (hwf:mD0 rs) (hne:0<rs.length) (hlen:rs.length≤60):
  Calls Tryz.prog 112 #[.slice (some ⟨b,off,none⟩) rs.length cap] w fun e w'=>∃t err,e=.returned (.tuple #[t,err])∧tC1 w' rs t err∧Below w.heap.size w w':=by
 have HR:Hid (cI0 w b off rs):=h;have HW:Hid (mD0 rs):=hwf;obtain ⟨hc0,hc1⟩:=h.row hne;simp only [Nat.zero_mul,Nat.add_zero] at hc0 hc1;clear h hwf;go_enter Tryz.func112,Tryz.ntmps112;go_wp2_with fail
 ·go_ret2;exact ⟨_,_,rfl,Or.inr ⟨by rw [mU0 (by omega)];decide,rfl,Or.inl (by rw [mU0 (by omega)];exact ⟨rfl,rfl⟩)⟩,Below.refl _ _⟩
 ·refine (rK0 _).mono ?_;rintro e w1 ⟨rfl,hF,hb1⟩;have H0:Hid (tabE rs=eW0 (bU0 rs 0) 1 (rs.drop 1)):=jL1 hne (by omega) (by apply Prod.ext <;> assumption);have HF:Hid (pJ0 w1 w.heap.size):=hF;have HB:Hid (Below w.heap.size w w1):=hb1;clear hF hb1 hc0 hc1;go_wp2_with fail;go_loopw [5,6] (fun i _ wr=>∃m:Nat,m<rs.length∧i=.int .i64 ((m+1:Nat):Int)∧pJ0 wr w.heap.size∧Below w.heap.size w wr∧eW0 (bU0 rs m) (m+1) (rs.drop (m+1))=tabE rs) (fun i _ _=>rs.length - (intOf i).toNat)
  case atStart=>exact ⟨0,hne,rfl,HF.out,HB.out,H0.out.symm⟩
  case round=>
   obtain ⟨m,hm,rfl,hf,hb,hq⟩:=hrel;have HF:Hid (pJ0 wr w.heap.size):=hf;have HB:Hid (Below w.heap.size w wr):=hb;have HQ:Hid (eW0 (bU0 rs m) (m+1) (rs.drop (m+1))=tabE rs):=hq;obtain ⟨c0,c1⟩:=(HR.out.below hb lR7).row hm;clear hf hb hq;go_wp2_with fail
   ·have hm1:m+1<rs.length:=by omega
    obtain ⟨d0,d1⟩:=(HR.out.below HB.out lR7).row hm1;obtain ⟨v,hrun,hv⟩:=(HF.out.below (Below.refl wr.heap.size wr).drew lR7).look (HW.out m hm).2;have HV:Hid (iF0 wr.drew v (folL (bU0 rs m).2)):=hv;clear hv;have q1:IntKind.i64.wrap (m:Int)=m:=IntWalk.i64_in _ (by omega);have q2:(m:Int)<rs.length:=by omega
    have q3:(m:Int)+1<rs.length:=by omega
    have q4:(0:Int)≤(m:Int)+1:=by omega
    have q5:((m:Int)+1).toNat=m+1:=by omega
    refine vW0 17 (by kernel_rfl) (by kernel_rfl) ?_;simp only [List.take_succ_cons,List.take_zero,List.drop_succ_cons,List.drop_zero]
    repeat still_step
    try refine wpStill_nil ?_
    clear hrun q1 q2 q3 q4 q5 c0 c1 d0 d1;go_wp2_with fail;refine (dQ1 v (bU0 rs m) (bU0 rs (m+1)) _ HV.out).mono ?_;rintro e w2 ⟨rfl,hb2⟩;have HB2:Hid (Below wr.heap.size wr w2):=(Below.refl _ wr).drew.trans hb2;clear hb2;go_wp2_with fail
    ·go_ret2;have hT:tabE rs=(rowE (bU0 rs m) (bU0 rs (m+1)),((m+1:Nat):Int)):=HQ.out.symm.trans (dO1 hm1 (dP1 (by assumption)))
     exact ⟨_,_,rfl,Or.inr ⟨by rw [hT];exact dP1 (by assumption),rfl,Or.inr ⟨w2.heap.size,rfl,by rw [hT];exact World.cell?_alloc_at _ _ _ _ rfl,by rw [hT];exact World.cell?_alloc_at _ _ _ _ rfl⟩⟩,
      (HB.out.trans (HB2.out.mono HB.out.size)).alloc (Nat.le_trans HB.out.size HB2.out.size) _⟩
    ·go_roundw
     case rel=>exact ⟨m+1,hm1,by go_num,HF.out.below HB2.out lR7,HB.out.trans (HB2.out.mono HB.out.size),(dN1 hm1 (qY1 (by assumption))).symm.trans HQ.out⟩
     case measure=>simp [intOf];omega
   ·refine (dL1 b off cap rs _ (HR.out.below HB.out lR7) hne hlen).mono ?_;rintro e w2 ⟨cb,c,rfl,hr,hb2⟩;have hT:Hid (tabE rs=(0,-1)):=HQ.out.symm.trans (jK1 (by omega));have HR2:Hid (cI0 w2 cb 0 rs):=hr;have HB2:Hid (Below wr.heap.size wr w2):=hb2;clear hb2 hr;go_wp2;go_ret2
    exact ⟨_,_,rfl,Or.inl ⟨hT.out,rfl,w2.heap.size,rfl,cb,c,World.cell?_alloc_at _ _ _ _ rfl,HR2.out.below ((Below.refl _ _).alloc lR7 _) lR7⟩,
     (HB.out.trans (HB2.out.mono HB.out.size)).alloc (Nat.le_trans HB.out.size HB2.out.size) _⟩
 ·go_ret2;have hT:tabE rs=(1,0):=tL0 hne (by omega) (fun e=>absurd (congrArg Prod.snd e) (by assumption));exact ⟨_,_,rfl,Or.inr ⟨by rw [hT];decide,rfl,Or.inr ⟨w.heap.size,rfl,by rw [hT];exact World.cell?_alloc_at _ _ _ _ rfl,by rw [hT];exact World.cell?_alloc_at _ _ _ _ rfl⟩⟩,(Below.refl _ _).alloc lR7 _⟩
 ·go_ret2;have hT:tabE rs=(1,0):=tL0 hne (by omega) (fun e=>absurd (congrArg Prod.fst e) (by assumption));exact ⟨_,_,rfl,Or.inr ⟨by rw [hT];decide,rfl,Or.inr ⟨w.heap.size,rfl,by rw [hT];exact World.cell?_alloc_at _ _ _ _ rfl,by rw [hT];exact World.cell?_alloc_at _ _ _ _ rfl⟩⟩,(Below.refl _ _).alloc lR7 _⟩
def aR0 (cur now:Int):List (Int×Int)→Int×Int
 | []=>(cur,-1)
 | r::rs=>if now<r.1 then (cur,r.1) else aR0 r.2 now rs
def phaseV (rs:List (Int×Int)) (now:Int):Int×Int:=aR0 (bU0 rs 0).2 now (rs.drop 1)
theorem aI1 {p now:Int} {rs:List (Int×Int)} {k:Nat} (h:k<rs.length) (he:(bU0 rs k).1≤now):aR0 p now (rs.drop k)=aR0 (bU0 rs k).2 now (rs.drop (k+1)):=by
 rw [List.drop_eq_getElem_cons h];have:rs[k]=bU0 rs k:=by simp [bU0,h]
 rw [this];simp [aR0];omega
theorem aJ1 {p now:Int} {rs:List (Int×Int)} {k:Nat} (h:k<rs.length) (he:now<(bU0 rs k).1):aR0 p now (rs.drop k)=(p,(bU0 rs k).1):=by
 rw [List.drop_eq_getElem_cons h];have:rs[k]=bU0 rs k:=by simp [bU0,h]
 rw [this];simp [aR0];omega
theorem dS1 {p now:Int} {rs:List (Int×Int)} {k:Nat} (h:rs.length≤k):aR0 p now (rs.drop k)=(p,-1):=by
 rw [List.drop_eq_nil_of_le h];rfl
theorem tM0 {v:Int×Int} {a b:Int} (h:v=(a,b)):Ending.returned (.tuple #[.int .i64 a,.int .i64 b])=.returned (.tuple #[.int .i64 v.1,.int .i64 v.2]):=by rw [h]
set_option maxHeartbeats 1000000 in
theorem dT1 (tb:Nat) (now:Int) (rs:List (Int×Int)) (w:World) (h:lK0 w tb rs) (hne:0<rs.length) (hlen:rs.length≤60):
  Calls Tryz.prog 174 #[.pointer (some ⟨tb,0,none⟩),.int .i64 now] w
   fun e w'=>e=.returned (.tuple #[.int .i64 (phaseV rs now).1,.int .i64 (phaseV rs now).2])∧Below w.heap.size w w':=by
 obtain ⟨cb,c,ht,hr⟩:=h;have HR:Hid (cI0 w cb 0 rs):=hr;clear hr;go_enter Tryz.func174,Tryz.ntmps174;go_wp2_with fail;go_loopw [4,13] (fun p i wr=>∃(k:Nat) (q:Int),k≤rs.length∧i=.int .i64 k∧p=.int .i64 q∧Below w.heap.size w wr∧(k=0∨(0<k∧aR0 q now (rs.drop k)=phaseV rs now))) (fun _ i _=>rs.length - (intOf i).toNat)
 case atStart=>exact ⟨0,0,Nat.zero_le _,rfl,rfl,Below.refl _ _,Or.inl rfl⟩
 case round=>
  obtain ⟨k,q,hk,rfl,rfl,hb,hq⟩:=hrel;have HB:Hid (Below w.heap.size w wr):=hb;have hc0:k<rs.length→wr.cell? ⟨cb,k*2,none⟩=some (.int .i64 (bU0 rs k).1):=fun hk=>by simpa using ((HR.out.below hb lR7).row hk).1
  have hc1:k<rs.length→wr.cell? ⟨cb,k*2+1,none⟩=some (.int .i64 (bU0 rs k).2):=fun hk=>by simpa using ((HR.out.below hb lR7).row hk).2
  clear hb;rcases hq with rfl | ⟨hk0,hq⟩
  ·go_wp2_with fail;go_roundw
   case rel=>exact ⟨1,(bU0 rs 0).2,hne,rfl,rfl,HB.out.alloc HB.out.size _,Or.inr ⟨Nat.one_pos,rfl⟩⟩
   case measure=>simp [intOf];omega
  ·have HQ:Hid (aR0 q now (rs.drop k)=phaseV rs now):=hq;clear hq;go_wp2_with fail
   ·go_quiet (fail);go_wp2;go_ret2;exact ⟨tM0 (HQ.out.symm.trans (aJ1 (by assumption) (by assumption))),below_drewN (HB.out.alloc HB.out.size _) _⟩
   ·go_roundw
    case rel=>exact ⟨k+1,(bU0 rs k).2,by omega,by go_num,rfl,HB.out.alloc HB.out.size _,Or.inr ⟨Nat.succ_pos _,(aI1 (by assumption) (by assumption)).symm.trans HQ.out⟩⟩
    case measure=>simp [intOf];omega
   ·go_ret2;exact ⟨tM0 (HQ.out.symm.trans (dS1 (by omega))),HB.out⟩
def inC (lo hi z:Int):Bool:=decide (lo≤z)&& decide (z≤hi)
theorem vX0 {lo hi z:Int}:inC lo hi z=true↔(lo≤z∧z≤hi):=by unfold inC;simp
structure Pt where
 price:Int
 dem:Int
 sup:Int
def Pt.none_:Pt:=⟨0,0,0⟩
def ptV:List Pt→List Value
 | []=>[]
 | x::l=>.int .i64 x.price::.int .i64 x.dem::.int .i64 x.sup::ptV l
def ptAt (l:List Pt) (k:Nat):Pt:=l.getD k Pt.none_
theorem aK1 (a b:List Pt):ptV (a++b)=ptV a++ptV b:=by
 induction a with
 | nil=>rfl
 | cons o a ih=>simp [ptV,ih]
theorem yD0 (a:List Pt) (x:Pt):ptV (a++[x])=ptV a++[.int .i64 x.price,.int .i64 x.dem,.int .i64 x.sup]:=by rw [aK1];rfl
theorem mJ1 {l:List Pt} {k:Nat} (h:k<l.length):(ptV l)[k*3]? = some (.int .i64 (ptAt l k).price)∧(ptV l)[k*3+1]? = some (.int .i64 (ptAt l k).dem)∧(ptV l)[k*3+2]? = some (.int .i64 (ptAt l k).sup):=by
 induction l generalizing k with
 | nil=>simp at h
 | cons o l ih=>
  cases k with
  | zero=>exact ⟨rfl,rfl,rfl⟩
  | succ k=>
   have:=ih (k:=k) (by simpa using h);rw [show (k+1)*3=k*3+1+1+1 by omega];have e:ptAt (o::l) (k+1)=ptAt l k:=by simp [ptAt]
   rw [e]
   simpa [ptV] using this
theorem vY0 {l:List Pt} {k:Nat} (h:k<l.length):ptAt l k=l[k]:=by simp [ptAt,h]
theorem cA0 {l:List Pt} {k:Nat} (h:k<l.length):ptAt l k∈l:=by rw [vY0 h];exact List.getElem_mem h
theorem mK1 {w:World} {base:Nat} {t:TypeId} {v:Value} {l:List Pt} (h:w.ownsRow base t 3 v l.length (ptV l)) {k:Nat} (hk:k<l.length):
  ∃g cap,v=.slice (some ⟨g,0,none⟩) l.length cap∧w.cell? ⟨g,k*3,none⟩=some (.int .i64 (ptAt l k).price)∧w.cell? ⟨g,k*3+1,none⟩=some (.int .i64 (ptAt l k).dem)∧w.cell? ⟨g,k*3+2,none⟩=some (.int .i64 (ptAt l k).sup):=by
 obtain ⟨g,cap,rfl,_,_⟩:=h.form (by omega);obtain ⟨h1,h2,h3⟩:=mJ1 hk;exact ⟨g,cap,rfl,(h.cellAt _ (by omega)).trans h1,(h.cellAt _ (by omega)).trans h2,(h.cellAt _ (by omega)).trans h3⟩
def okO (o:Ord):Bool:=inC 1 2 o.side&& inC 1 1000000 o.qty
def dP0 (o:Ord):Bool:=okO o&& !(o.kind == 2)
def aW0 (l:List Ord) (more:Int):List Int:=(if 0<more then [more] else [])++(l.filter dP0).map Ord.price
def iG0 (p:Int) (o:Ord):Bool:=okO o&& ((o.side == 1)&& ((o.kind == 2) || decide (p≤o.price)))
def eX0 (p:Int) (o:Ord):Bool:=okO o&& ((o.side == 2)&& ((o.kind == 2) || decide (o.price≤p)))
def demO (p:Int) (l:List Ord):Int:=(l.map fun o=>if iG0 p o=true then o.qty else 0).sum
def supO (p:Int) (l:List Ord):Int:=(l.map fun o=>if eX0 p o=true then o.qty else 0).sum
theorem rL0 (a:List Int) (x:Int):(a++[x]).sum=a.sum+x:=by simp
theorem jP0 {o:Ord} (h:okO o=true):(1≤o.side∧o.side≤2)∧1≤o.qty∧o.qty≤1000000:=by
 unfold okO at h;rw [Bool.and_eq_true] at h;exact ⟨vX0.1 h.1,vX0.1 h.2⟩
theorem yE0 {p:Int} {o:Ord} (h:iG0 p o=true):okO o=true:=by unfold iG0 at h;rw [Bool.and_eq_true] at h;exact h.1
theorem tN0 {p:Int} {o:Ord} (h:eX0 p o=true):okO o=true:=by unfold eX0 at h;rw [Bool.and_eq_true] at h;exact h.1
theorem vZ0 (p:Int):∀l:List Ord,0≤demO p l∧demO p l≤1000000*(l.length:Int)
 | []=>by simp [demO]
 | o::l=>by
  have ih:=vZ0 p l;have e:demO p (o::l)=(if iG0 p o=true then o.qty else 0)+demO p l:=by simp [demO]
  rw [e,List.length_cons];split
  ·rename_i hx;have:=(jP0 (yE0 hx)).2;omega
  ·omega
theorem wA0 (p:Int):∀l:List Ord,0≤supO p l∧supO p l≤1000000*(l.length:Int)
 | []=>by simp [supO]
 | o::l=>by
  have ih:=wA0 p l;have e:supO p (o::l)=(if eX0 p o=true then o.qty else 0)+supO p l:=by simp [supO]
  rw [e,List.length_cons];split
  ·rename_i hx;have:=(jP0 (tN0 hx)).2;omega
  ·omega
def fO0 (xs:List Int):List Int:=xs.mergeSort fun x y=>decide (x≤y)
theorem iH0 (xs:List Int):(fO0 xs).length=xs.length:=List.length_mergeSort _
theorem fX0 {xs:List Int} {p:Int}:p∈fO0 xs↔p∈xs:=List.mem_mergeSort
theorem cN0 (xs:List Int):(fO0 xs).Pairwise (·≤·):=by
 have h:=List.pairwise_mergeSort (le:=fun x y:Int=>decide (x≤y)) (fun a b c h1 h2=>by simp at *;omega) (fun a b=>by simp;omega) xs;exact h.imp (fun h=>by simpa using h)
def fstB (xs:List Int) (i:Nat):Bool:=(i == 0) || !(xs.getD (i - 1) 0 == xs.getD i 0)
def nY0 (xs:List Int) (k:Nat):List Int:=((List.range k).filter (fstB xs)).map fun i=>xs.getD i 0
def tO0 (xs:List Int):List Int:=nY0 xs xs.length
theorem pX0 (xs:List Int) (k:Nat):nY0 xs (k+1)=if fstB xs k=true then nY0 xs k++[xs.getD k 0] else nY0 xs k:=by
 unfold nY0;rw [List.range_succ,List.filter_append,List.map_append]
 by_cases h:fstB xs k=true
 ·rw [if_pos h];simp [h]
 ·rw [if_neg h];simp [h]
theorem tP0 (xs:List Int):∀k,(nY0 xs k).length≤k
 | 0=>by simp [nY0]
 | k+1=>by
  rw [pX0];have:=tP0 xs k;split
  ·simp;omega
  ·omega
def aM0 (l:List Ord) (more:Int):List Pt:=(tO0 (fO0 (aW0 l more))).map fun p=>⟨p,demO p l,supO p l⟩
theorem tQ0 {xs:List Int} (h:xs.Pairwise (·≤·)) {i j:Nat} (hij:i≤j) (hj:j<xs.length):xs.getD i 0≤xs.getD j 0:=by
 rw [List.getD_eq_getElem?_getD,List.getD_eq_getElem?_getD,List.getElem?_eq_getElem (by omega),List.getElem?_eq_getElem hj,Option.getD_some,Option.getD_some];rcases Nat.lt_or_eq_of_le hij with h1 | rfl
 ·exact List.pairwise_iff_getElem.1 h i j (by omega) hj h1
 ·exact Int.le_refl _
theorem lL0 {xs:List Int} (h:xs.Pairwise (·≤·)):∀k,k≤xs.length→(nY0 xs k).Pairwise (· < ·)∧∀p,p∈nY0 xs k↔∃i,i<k∧xs.getD i 0=p
 | 0,_=>⟨by simp [nY0],fun p=>by simp [nY0]⟩
 | k+1,hk=>by
  obtain ⟨h1,h2⟩:=lL0 h k (by omega);rw [pX0]
  by_cases hf:fstB xs k=true
  ·rw [if_pos hf];refine ⟨?_,fun p=>?_⟩
   ·rw [List.pairwise_append];refine ⟨h1,by simp,fun a ha b hb=>?_⟩;rw [List.mem_singleton] at hb;subst hb;obtain ⟨i,hi,rfl⟩:=(h2 a).1 ha;have hk0:k≠0:=by omega
    have hne:xs.getD (k - 1) 0≠xs.getD k 0:=by
     unfold fstB at hf
     simpa [hk0] using hf
    have a1:=tQ0 h (i:=i) (j:=k - 1) (by omega) (by omega);have a2:=tQ0 h (i:=k - 1) (j:=k) (by omega) (by omega);omega
   ·rw [List.mem_append,List.mem_singleton,h2];constructor
    ·rintro (⟨i,hi,e⟩ | e)
     ·exact ⟨i,by omega,e⟩
     ·exact ⟨k,by omega,e.symm⟩
    ·rintro ⟨i,hi,e⟩
     by_cases hik:i=k
     ·subst hik;exact Or.inr e.symm
     ·exact Or.inl ⟨i,by omega,e⟩
  ·rw [if_neg hf];refine ⟨h1,fun p=>?_⟩;rw [h2];constructor
   ·rintro ⟨i,hi,e⟩;exact ⟨i,by omega,e⟩
   ·rintro ⟨i,hi,e⟩
    by_cases hik:i=k
    ·subst hik;have hf':fstB xs i=false:=by simpa using hf
     unfold fstB at hf';rw [Bool.or_eq_false_iff] at hf';have hi0:i≠0:=by simpa using hf'.1
     have he:xs.getD (i - 1) 0=xs.getD i 0:=by simpa using hf'.2
     exact ⟨i - 1,by omega,he.trans e⟩
    ·exact ⟨i,by omega,e⟩
theorem nZ0 {xs:List Int} (h:xs.Pairwise (·≤·)):(tO0 xs).Pairwise (· < ·):=(lL0 h _ lR7).1
theorem iI0 {xs:List Int} (h:xs.Pairwise (·≤·)) {p:Int}:p∈tO0 xs↔p∈xs:=by
 rw [tO0,(lL0 h _ lR7).2,List.mem_iff_getElem];constructor
 ·rintro ⟨i,hi,e⟩;exact ⟨i,hi,by simpa [List.getD_eq_getElem?_getD,hi] using e⟩
 ·rintro ⟨i,hi,e⟩;exact ⟨i,hi,by simpa [List.getD_eq_getElem?_getD,hi] using e⟩
theorem yF0:∀{a b:List Int},a.Pairwise (· < ·)→b.Pairwise (· < ·)→(∀p,p∈a↔p∈b)→a=b
 | [],[],_,_,_=>rfl
 | [],y::b,_,_,h=>absurd ((h y).2 (List.mem_cons_self ..)) (by simp)
 | x::a,[],_,_,h=>absurd ((h x).1 (List.mem_cons_self ..)) (by simp)
 | x::a,y::b,ha,hb,h=>by
  rw [List.pairwise_cons] at ha hb
  have hxy:x=y:=by
   have h1:=(h x).1 (List.mem_cons_self ..);have h2:=(h y).2 (List.mem_cons_self ..);rw [List.mem_cons] at h1 h2;rcases h1 with h1 | h1
   ·exact h1
   ·rcases h2 with h2 | h2
    ·exact h2.symm
    ·have:=ha.1 y h2;have:=hb.1 x h1;omega
  subst hxy;rw [yF0 ha.2 hb.2 (fun p=>?_)];constructor
  ·intro hp;have:=(h p).1 (List.mem_cons_of_mem _ hp);rw [List.mem_cons] at this;rcases this with rfl | h1
   ·exact absurd (ha.1 p hp) (by omega)
   ·exact h1
  ·intro hp;have:=(h p).2 (List.mem_cons_of_mem _ hp);rw [List.mem_cons] at this;rcases this with rfl | h1
   ·exact absurd (hb.1 p hp) (by omega)
   ·exact h1
theorem mE0 {l:List Ord} {more:Int} {xs:List Int} (h:xs.Pairwise (· < ·)) (hm:∀p,p∈xs↔p∈aW0 l more):tO0 (fO0 (aW0 l more))=xs:=
 yF0 (nZ0 (cN0 _)) h (fun p=>by rw [iI0 (cN0 _),fX0,hm])
theorem cF0 {l:List Ord} {more p:Int}:p∈aW0 l more↔((0<more∧p=more)∨∃o∈l,dP0 o=true∧o.price=p):=by
 unfold aW0;rw [List.mem_append,List.mem_map];constructor
 ·rintro (h | ⟨o,ho,e⟩)
  ·split at h
   ·rw [List.mem_singleton] at h;exact Or.inl ⟨by assumption,h⟩
   ·simp at h
  ·rw [List.mem_filter] at ho;exact Or.inr ⟨o,ho.1,ho.2,e⟩
 ·rintro (⟨h,rfl⟩ | ⟨o,ho,h1,e⟩)
  ·exact Or.inl (by rw [if_pos h];simp)
  ·exact Or.inr ⟨o,List.mem_filter.2 ⟨ho,h1⟩,e⟩
theorem wB0 (l:List Ord) (more:Int):(aW0 l more).length≤l.length+1:=by
 unfold aW0;rw [List.length_append,List.length_map];have:=List.length_filter_le dP0 l;split <;> simp <;> omega
end Go.Proofs.YtaelphbianmckaaGreatDoor
