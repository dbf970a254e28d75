/- DeskAnswers -/
import Derived.Test.YtaelphbianmckaaGreatDoorSB
import Derived.Test.YtaelphbianmckaaGreatDoorSD
import Derived.Shelf.SlIterI.Sorted
open Go.Value renaming int->U, pointer->E, slice->J
open Go.IntKind renaming i64->G
open Go.Obj renaming cells->R
open Go.Ending renaming returned->Y
open Go.Proofs.Tryz
open Go.RowKit.Below renaming heap_setCell->cK, refl->aF, heap_alloc->dD
open Bool renaming true_and->eV, false_and->eZ
open Int renaming add_assoc->hZ
open List renaming length_map->bU, length_take->bF, getElem_mem->dB, length_append->aN, length_singleton->bD, take_length->bI, take_succ_eq_append_getElem->aM, mem_filter->bM, length_filter_le->cE, pairwise_cons->cV, mem_cons->aR, range->dF, range_succ->gV, nodup_range->gQ, map_cons->bW
open Nat renaming le_trans->aI, zero_le->aO, zero_mul->eN, zero_add->bT, le_succ->cH
open Or renaming inr->aG, inl->aH
open Go.Proofs.YtaelphbianmckaaGreatDoor.Out renaming of_below->aL
open Go.Value.slice renaming injEq->aY
open Go.World renaming news_of_block->bJ, ownsMap_made->eC, ownsRow_nil->aU
set_option maxHeartbeats 8000000
set_option maxRecDepth 100000
namespace Go.Proofs.YtaelphbianmckaaGreatDoor
variable {vs:Array Value} {D:DataW Unit} {side:Int} {F l:List Ord} {xs:List Value} {B N a b base g j k n:Nat} {key:Nat->Int} {u:Nat->Nat} {o:Ord} {e t:TypeId} {v:Value} {W w w':World}
section
open Go.RowKit
theorem dO0 (h:w.heap[b]? = some (R vs t (0,0))) (a:vs[j]? = some v):w.cell? ⟨b,j,none⟩=some v:=(cell_of_row w b j vs t (0,0) h).trans a
theorem dX1 (h:w.heap[b]? = some (R vs t (0,0))):w.frozen? ⟨b,j,none⟩=false:=frozen_of_row w b j vs t h
theorem nN1 (u:Value) (h:w.heap[b]? = some (R vs t (0,0))):(w.setCell ⟨b,j,none⟩ u).heap[b]? = some (R (vs.setIfInBounds j u) t (0,0)):=heap_setCell_same w b j vs t u h
theorem gI1 {o:Obj} (h:w.heap[b]? = some o) (c:Below B w w') (a:w.heap.size<=B):w'.heap[b]? = some o:=(c.block b (Nat.lt_of_lt_of_le (lt_of_block h) a)).trans h
theorem pG0 (w:World) (a:Addr) (u:Value):Out (fun j=>j=a.block) w (w.setCell a u):=⟨rfl,rfl,rfl,by simp,fun j _ b=>cK _ _ _ _ (fun e=>b e)⟩
theorem jQ0 (w:World) (o:Obj):Below w.heap.size w (w.alloc o):=(aF _ _).alloc lR7 o
theorem jR0 {w1 w2:World} (h:Below w.heap.size w w1) (a:Below w1.heap.size w1 w2):Below w.heap.size w w2:=h.trans (a.mono h.size)
theorem iY0 {S:Nat->Prop} {w1 w2:World} (h:Out S w w1) (a:Out S w1 w2):Out S w w2:=h.trans a (Went.refl _ _)
def BnAt (w:World) (bb:Nat) (s d a l:Int):Prop:=w.heap[bb]? = some (R #[U G s,U G d,U G a,U G l] 225 (0,0))
theorem BnAt.below {w w':World} {b:Nat} {s d a l:Int} (h:BnAt w b s d a l) (c:Below w.heap.size w w'):BnAt w' b s d a l:=gI1 h c lR7
def iZ0 (p s:Int):Value:=if cO0 p s=true then .nilIface else .iface 26 (U G 2)
theorem nB0 (p s:Int) (w:World):
  Calls prog 81 #[U G p,U G s] w fun e w'=>e=Y (.tuple #[U G (bandL p s),U G (bandH p s),iZ0 p s])/\Below w.heap.size w w':=by
 cases h:cO0 p s with
 | true=>
  obtain ⟨a,b⟩:=dO1 h;exact (zQ1 p s w a b).mono fun _ _ ⟨he,hb⟩=>⟨by rw [he,fW1 h,fX1 h,show iZ0 p s=.nilIface from aB h],hb⟩
 | false=>exact (zR1 p s w h).mono fun _ _ ⟨he,hb⟩=>⟨by rw [he,wZ0 h,xA0 h,show iZ0 p s=.iface 26 (U G 2) from aA (by rw [h];decide)],hb⟩
theorem nO1 (k:Nat) (s d a l:Int) (w:World) (h:BnAt w k s d a l):
  Calls prog 280 #[E (some ⟨k,0,none⟩),U G 0] w fun e w'=>e=Y (.tuple #[U G (bandL a s),U G (bandH a s)])/\Below w.heap.size w w':=by
 have o:=cell_regrown (dO0 (j:=0) h rfl);have k2:=cell_regrown (dO0 (j:=2) h rfl);have n:∀c m,Calls prog 81 #[U G a,U G s] (Go.Sort.grow (redrawn w c) m) fun e i=>e=Y (.tuple #[U G (bandL a s),U G (bandH a s),iZ0 a s])/\∃p:Regrown,i=Go.Sort.grow (redrawn w p.d) p.os:=fun c m=>Calls.regrown_of (nB0 a s _)
 clear h;go_enter func280,ntmps280;go_wp2_with fail;refine wp_region_quiet_below k7 k7 ?_
 repeat (go_big_quiet_step (exact n _ _))
 refine wpQuiet_nil ?_;intro _ f;obtain ⟨⟨c,g⟩,b⟩:=f;subst b;go_wp2;go_ret2;exact ⟨rfl,below_regrown w c g⟩
theorem aD2 (k:Nat) (s d a l:Int) (w:World) (h:BnAt w k s d a l):
  Calls prog 280 #[E (some ⟨k,0,none⟩),U G 1] w fun e w'=>e=Y (.tuple #[U G (bandL l d),U G (bandH l d)])/\Below w.heap.size w w':=by
 have k1:=cell_regrown (dO0 (j:=1) h rfl);have k3:=cell_regrown (dO0 (j:=3) h rfl);have n:∀c m,Calls prog 81 #[U G l,U G d] (Go.Sort.grow (redrawn w c) m) fun e i=>e=Y (.tuple #[U G (bandL l d),U G (bandH l d),iZ0 l d])/\∃p:Regrown,i=Go.Sort.grow (redrawn w p.d) p.os:=fun c m=>Calls.regrown_of (nB0 l d _)
 clear h;go_enter func280,ntmps280;go_wp2_with fail;refine wp_region_quiet_below k7 k7 ?_
 repeat (go_big_quiet_step (exact n _ _))
 refine wpQuiet_nil ?_;intro _ f;obtain ⟨⟨c,g⟩,b⟩:=f;subst b;go_wp2;go_ret2;exact ⟨rfl,below_regrown w c g⟩
def nV0 (s d p:Int):Bool:=cO0 p s&& cO0 p d
theorem sW0 {p s:Int} (h:cO0 p s=true):iZ0 p s=.nilIface:=aB h
theorem aD1 {p s:Int} (h:cO0 p s=false):iZ0 p s=.iface 26 (U G 2):=aA (by rw [h];decide)
theorem tV1 (s d p:Int) (w:World) (h:nV0 s d p=false):
  Calls prog 113 #[U G s,U G d,U G p] w fun e w'=>e=Y (.tuple #[E none,.iface 26 (U G 2)])/\Below w.heap.size w w':=by
 have D:=hid7 h;clear h;go_enter func113,ntmps113;go_wp2_with fail;have l:=jQ0 w (R #[U G s,U G d,U G p,U G p] 225);have m:BnAt (w.alloc (R #[U G s,U G d,U G p,U G p] 225)) w.heap.size s d p p:=heap_alloc_new w _;generalize w.alloc (R #[U G s,U G d,U G p,U G p] 225)=w0 at l m ⊢;have x:=hid7 l;have y:=hid7 m;clear l m;go_loopw [21] (fun v wr=>∃k:Nat,k<=1/\v=U G k/\Below w.heap.size w wr/\BnAt wr w.heap.size s d p p/\(k=1->cO0 p s=true)) (fun v _=>2 - (intOf v).toNat)
 case atStart=>exact ⟨0,o7,rfl,x.out,y.out,fun h=>absurd h d7⟩
 case round=>
  obtain ⟨k,hk,rfl,A,q,B⟩:=hrel;have H:=hid7 B;have x:=hid7 A;have y:=hid7 q;have C:=cell_regrown (dO0 (j:=0) q rfl);have k1:=cell_regrown (dO0 (j:=1) q rfl);have k2:=cell_regrown (dO0 (j:=2) q rfl);have k3:=cell_regrown (dO0 (j:=3) q rfl);clear B A q;have t:k=0\/k=1:=o7;rcases t with rfl | rfl
  ·have r:∀b u,Calls prog 81 #[U G p,U G s] (Go.Sort.grow (redrawn wr b) u) fun e o=>e=Y (.tuple #[U G (bandL p s),U G (bandH p s),iZ0 p s])/\∃p:Regrown,o=Go.Sort.grow (redrawn wr p.d) p.os:=fun b u=>Calls.regrown_of (nB0 p s _)
   go_wp2_with fail;refine wp_region_quiet_below k7 k7 ?_
   repeat (go_big_quiet_step (exact r _ _))
   refine wpQuiet_nil ?_;intro _ n;obtain ⟨⟨b,f⟩,c⟩:=n;subst c;have a:=below_regrown wr b f;generalize Go.Sort.grow (redrawn wr b) f=w5 at a ⊢;have g:=hid7 (jR0 x.out a);have z:=hid7 (y.out.below a);clear a C k1 k2 k3 r;cases i:cO0 p s with
   | true=>
    have F:=hid7 i;rw [sW0 i];clear i;go_wp2;go_roundw
    case rel=>exact ⟨1,o7,rfl,g.out,z.out,fun _=>F.out⟩
    case measure=>simp [intOf]
   | false=>
    rw [aD1 i];clear i;go_wp2;go_ret2;exact ⟨rfl,g.out⟩
  ·have r:∀b u,Calls prog 81 #[U G p,U G d] (Go.Sort.grow (redrawn wr b) u) fun e o=>e=Y (.tuple #[U G (bandL p d),U G (bandH p d),iZ0 p d])/\∃p:Regrown,o=Go.Sort.grow (redrawn wr p.d) p.os:=fun b u=>Calls.regrown_of (nB0 p d _)
   go_wp2_with fail;refine wp_region_quiet_below k7 k7 ?_
   repeat (go_big_quiet_step (exact r _ _))
   refine wpQuiet_nil ?_;intro _ n;obtain ⟨⟨b,f⟩,c⟩:=n;subst c;have a:=below_regrown wr b f;generalize Go.Sort.grow (redrawn wr b) f=w5 at a ⊢;have g:=hid7 (jR0 x.out a);clear a C k1 k2 k3 r
   have i:cO0 p d=false:=by
    have h:=D.out;unfold nV0 at h;rw [H.out (by trivial)] at h
    simpa using h
   rw [aD1 i];clear i;go_wp2;go_ret2;exact ⟨rfl,g.out⟩
theorem gJ1 (s d p:Int) (w:World) (h:nV0 s d p=true):
  Calls prog 113 #[U G s,U G d,U G p] w fun e w'=>e=Y (.tuple #[E (some ⟨w.heap.size,0,none⟩),.nilIface])/\Below w.heap.size w w'/\BnAt w' w.heap.size s d p p:=by
 have B:cO0 p s=true/\cO0 p d=true:=by unfold nV0 at h;simpa using h
 have A:=hid7 B;clear B;clear h;go_enter func113,ntmps113;go_wp2_with fail;have l:=jQ0 w (R #[U G s,U G d,U G p,U G p] 225);have m:BnAt (w.alloc (R #[U G s,U G d,U G p,U G p] 225)) w.heap.size s d p p:=heap_alloc_new w _;generalize w.alloc (R #[U G s,U G d,U G p,U G p] 225)=w0 at l m ⊢;have t:=hid7 l;have r:=hid7 m;clear l m;go_loopw [21] (fun v wr=>∃k:Nat,k<=2/\v=U G k/\Below w.heap.size w wr/\BnAt wr w.heap.size s d p p) (fun v _=>2 - (intOf v).toNat)
 case atStart=>exact ⟨0,o7,rfl,t.out,r.out⟩
 case round=>
  obtain ⟨k,hk,rfl,C,q⟩:=hrel;have t:=hid7 C;have r:=hid7 q;have z:=cell_regrown (dO0 (j:=0) q rfl);have k1:=cell_regrown (dO0 (j:=1) q rfl);have k2:=cell_regrown (dO0 (j:=2) q rfl);have k3:=cell_regrown (dO0 (j:=3) q rfl);clear C q;have x:k=0\/k=1\/k=2:=o7;rcases x with rfl | rfl | rfl
  ·have u:∀b y,Calls prog 81 #[U G p,U G s] (Go.Sort.grow (redrawn wr b) y) fun e o=>e=Y (.tuple #[U G (bandL p s),U G (bandH p s),iZ0 p s])/\∃p:Regrown,o=Go.Sort.grow (redrawn wr p.d) p.os:=fun b y=>Calls.regrown_of (nB0 p s _)
   go_wp2_with fail;refine wp_region_quiet_below k7 k7 ?_
   repeat (go_big_quiet_step (exact u _ _))
   refine wpQuiet_nil ?_;intro _ n;obtain ⟨⟨b,f⟩,c⟩:=n;subst c;have a:=below_regrown wr b f;generalize Go.Sort.grow (redrawn wr b) f=w5 at a ⊢;have i:=hid7 (jR0 t.out a);have g:=hid7 (r.out.below a);clear a z k1 k2 k3 u;rw [sW0 A.out.1];go_wp2;go_roundw
   case rel=>exact ⟨1,o7,rfl,i.out,g.out⟩
   case measure=>simp [intOf]
  ·have u:∀b y,Calls prog 81 #[U G p,U G d] (Go.Sort.grow (redrawn wr b) y) fun e o=>e=Y (.tuple #[U G (bandL p d),U G (bandH p d),iZ0 p d])/\∃p:Regrown,o=Go.Sort.grow (redrawn wr p.d) p.os:=fun b y=>Calls.regrown_of (nB0 p d _)
   go_wp2_with fail;refine wp_region_quiet_below k7 k7 ?_
   repeat (go_big_quiet_step (exact u _ _))
   refine wpQuiet_nil ?_;intro _ n;obtain ⟨⟨b,f⟩,c⟩:=n;subst c;have a:=below_regrown wr b f;generalize Go.Sort.grow (redrawn wr b) f=w5 at a ⊢;have i:=hid7 (jR0 t.out a);have g:=hid7 (r.out.below a);clear a z k1 k2 k3 u;rw [sW0 A.out.2];go_wp2;go_roundw
   case rel=>exact ⟨2,o7,rfl,i.out,g.out⟩
   case measure=>simp [intOf]
  ·clear z k1 k2 k3;go_wp2;go_ret2;exact ⟨rfl,t.out,r.out⟩
theorem tW1 (b:Nat) (s d a l:Int) (w:World) (h:BnAt w b s d a l):
  Calls prog 132 #[E (some ⟨b,0,none⟩)] w fun e w'=>e=Y (U G a)/\Below w.heap.size w w':=by
 have c:=dO0 (j:=2) h rfl;clear h;go_enter func132,ntmps132;go_wp2;go_ret;exact ⟨rfl,aF _ _⟩
theorem yF1 (b:Nat) (s d a l:Int) (w:World) (h:BnAt w b s d a l):
  Calls prog 128 #[E (some ⟨b,0,none⟩)] w fun e w'=>e=Y (U G l)/\Below w.heap.size w w':=by
 have c:=dO0 (j:=3) h rfl;clear h;go_enter func128,ntmps128;go_wp2;go_ret;exact ⟨rfl,aF _ _⟩
def gI0 (s a p:Int):Bool:=inB (bandL a s) (bandH a s) p
def dZ0 (s d a l p:Int):Bool:=gI0 s a p&& gI0 d l p
theorem nP1 (m g:Nat) (s d a l p:Int) (w:World) (h:BnAt w m s d a l) (q:w.cell? ⟨g,0,none⟩=some (U G 0)):
  Calls prog 247 #[E (some ⟨m,0,none⟩),U G p,J (some ⟨g,0,none⟩) 1 1] w fun e w'=>e=Y (.bool (gI0 s a p))/\Below w.heap.size w w':=by
 have t:=hid7 h;have n:=hid7 q;clear h q;go_enter func247,ntmps247;go_wp2;go_loopw [13] (fun v wr=>∃k:Nat,k<=1/\v=U G k/\Below w.heap.size w wr/\(k=1->gI0 s a p=true)) (fun v _=>1 - (intOf v).toNat)
 case atStart=>exact ⟨0,o7,rfl,aF _ _,fun h=>absurd h d7⟩
 case round=>
  obtain ⟨k,hk,rfl,o,r⟩:=hrel;have i:=hid7 o;have u:=hid7 r;clear o r;have f:k=0\/k=1:=o7;rcases f with rfl | rfl
  ·have x:=(i.out.cell (p:=⟨g,0,none⟩) (World.block_lt_of_cell? w _ n.out)).trans n.out;go_wp2_with fail;refine (nO1 m s d a l _ (t.out.below i.out)).mono ?_;rintro e w1 ⟨rfl,c⟩;have b:=hid7 (jR0 i.out c);clear c x;cases hc:gI0 s a p with
   | true=>
    obtain ⟨y,A⟩:=eR0 (lo:=bandL a s) (hi:=bandH a s) (z:=p) hc;have j:=hid7 hc;clear hc;go_wp2;go_roundw
    case rel=>exact ⟨1,o7,rfl,b.out,fun _=>j.out⟩
    case measure=>simp [intOf]
   | false=>
    have y:=sO0 (lo:=bandL a s) (hi:=bandH a s) (z:=p) hc;have j:=hid7 hc;clear hc
    by_cases A:p<bandL a s
    ·go_wp2;go_ret;exact ⟨by rw [j.out];rfl,b.out⟩
    ·have B:bandH a s<p:=o7;go_wp2;go_ret;exact ⟨by rw [j.out];rfl,b.out⟩
  ·go_wp2;go_ret;exact ⟨by rw [u.out (by trivial)];rfl,i.out⟩
theorem nQ1 (r g:Nat) (s d a l p:Int) (w:World) (h:BnAt w r s d a l) (D:w.cell? ⟨g,0,none⟩=some (U G 0)) (n:w.cell? ⟨g,1,none⟩=some (U G 1)):
  Calls prog 247 #[E (some ⟨r,0,none⟩),U G p,J (some ⟨g,0,none⟩) 2 2] w fun e w'=>e=Y (.bool (dZ0 s d a l p))/\Below w.heap.size w w':=by
 have y:=hid7 h;have A:=hid7 D;have m:=hid7 n;clear h D n;go_enter func247,ntmps247;go_wp2;go_loopw [13] (fun v wr=>∃k:Nat,k<=2/\v=U G k/\Below w.heap.size w wr/\(1<=k->gI0 s a p=true)/\(k=2->gI0 d l p=true)) (fun v _=>2 - (intOf v).toNat)
 case atStart=>exact ⟨0,o7,rfl,aF _ _,fun h=>absurd h d7,fun h=>absurd h d7⟩
 case round=>
  obtain ⟨k,hk,rfl,C,F,q⟩:=hrel;have i:=hid7 C;have B:=hid7 F;have t:=hid7 q;clear C F q;have o:k=0\/k=1\/k=2:=o7;rcases o with rfl | rfl | rfl
  ·have H:=(i.out.cell (p:=⟨g,0,none⟩) (World.block_lt_of_cell? w _ A.out)).trans A.out;go_wp2_with fail;refine (nO1 r s d a l _ (y.out.below i.out)).mono ?_;rintro e w1 ⟨rfl,f⟩;have b:=hid7 (jR0 i.out f);clear f H;cases hc:gI0 s a p with
   | true=>
    obtain ⟨u,x⟩:=eR0 (lo:=bandL a s) (hi:=bandH a s) (z:=p) hc;have c:=hid7 hc;clear hc;go_wp2;go_roundw
    case rel=>exact ⟨1,o7,rfl,b.out,fun _=>c.out,fun h=>absurd h d7⟩
    case measure=>simp [intOf]
   | false=>
    have u:=sO0 (lo:=bandL a s) (hi:=bandH a s) (z:=p) hc;have c:Hid (dZ0 s d a l p=false):=by unfold dZ0;rw [hc];rfl
    clear hc
    by_cases x:p<bandL a s
    ·go_wp2;go_ret;exact ⟨by rw [c.out];rfl,b.out⟩
    ·have K:bandH a s<p:=o7;go_wp2;go_ret;exact ⟨by rw [c.out];rfl,b.out⟩
  ·have I:=(i.out.cell (p:=⟨g,1,none⟩) (World.block_lt_of_cell? w _ m.out)).trans m.out;have j:Hid (gI0 s a p=true):=B.out lR7;go_wp2_with fail;refine (aD2 r s d a l _ (y.out.below i.out)).mono ?_;rintro e w1 ⟨rfl,f⟩;have b:=hid7 (jR0 i.out f);clear f I;cases hc:gI0 d l p with
   | true=>
    obtain ⟨u,x⟩:=eR0 (lo:=bandL l d) (hi:=bandH l d) (z:=p) hc;have c:=hid7 hc;clear hc;go_wp2;go_roundw
    case rel=>exact ⟨2,o7,rfl,b.out,fun _=>j.out,fun _=>c.out⟩
    case measure=>simp [intOf]
   | false=>
    have u:=sO0 (lo:=bandL l d) (hi:=bandH l d) (z:=p) hc;have c:Hid (dZ0 s d a l p=false):=by unfold dZ0;rw [j.out,hc];rfl
    clear hc
    by_cases x:p<bandL l d
    ·go_wp2;go_ret;exact ⟨by rw [c.out];rfl,b.out⟩
    ·have K:bandH l d<p:=o7;go_wp2;go_ret;exact ⟨by rw [c.out];rfl,b.out⟩
  ·have c:Hid (dZ0 s d a l p=true):=by unfold dZ0;rw [B.out d7,t.out rfl];rfl
   go_wp2;go_ret;exact ⟨by rw [c.out];rfl,i.out⟩
theorem eM2 (b:Nat) (s d a l p:Int) (w:World) (h:BnAt w b s d a l):
  Calls prog 177 #[E (some ⟨b,0,none⟩),U G p] w fun e w'=>e=Y (.bool (gI0 s a p))/\Below w.heap.size w w':=by
 have f:=hid7 h;clear h;go_enter func177,ntmps177;go_wp2_with fail;refine (nP1 b _ s d a l p _ (f.out.below (jQ0 w _)) (by simp [go_sem])).mono ?_;rintro e w' ⟨rfl,c⟩;have g:Hid (Below w.heap.size w w'):=jR0 (jQ0 w _) c;clear c;go_wp2;go_ret;exact ⟨rfl,g.out⟩
theorem tX1 (b:Nat) (s d a l p:Int) (w:World) (h:BnAt w b s d a l):
  Calls prog 239 #[E (some ⟨b,0,none⟩),U G p] w fun e w'=>e=Y (.bool (dZ0 s d a l p))/\Below w.heap.size w w':=by
 have f:=hid7 h;clear h;go_enter func239,ntmps239;go_wp2_with fail;refine (nQ1 b _ s d a l p _ (f.out.below (jQ0 w _)) (by simp [go_sem]) (by simp [go_sem])).mono ?_;rintro e w' ⟨rfl,c⟩;have g:Hid (Below w.heap.size w w'):=jR0 (jQ0 w _) c;clear c;go_wp2;go_ret;exact ⟨rfl,g.out⟩
theorem nC0 {S:Nat->Prop} {p:Addr} (h:Out S w w') (b:p.block<w.heap.size) (a:¬S p.block):w'.cell? p=w.cell? p:=by
 have:=h.block p.block b a;unfold World.cell?;rw [this]
theorem aE2 (b g:Nat) (s d a l p:Int) (w:World) (h:BnAt w b s d a l) (A:inB 1 1000000 p=true) (y:w.cell? ⟨g,0,none⟩=some (U G 1)) (m:g≠b):
  Calls prog 273 #[E (some ⟨b,0,none⟩),U G p,J (some ⟨g,0,none⟩) 1 1] w fun e w'=>e=Y .nilIface/\Out (fun j=>j=b) w w'/\BnAt w' b s d a p:=by
 have B:=hid7 h;have x:=hid7 y;have C:=hid7 m;have F:=hid7 A;clear h y m A;go_enter func273,ntmps273;go_wp2_with fail;refine (nN0 p 1 _).mono ?_;rintro e w1 ⟨rfl,u⟩;have D:Hid (Out (fun j=>j=b) w w1):=aL u lR7;have q:=hid7 (B.out.below u);rw [jW0,F.out];clear u;go_wp2;go_loopw [15] (fun v wr=>∃k:Nat,k<=1/\v=U G k/\Out (fun j=>j=b) w wr/\(k=0->BnAt wr b s d a l)/\(k=1->BnAt wr b s d a p)) (fun v _=>1 - (intOf v).toNat)
 case atStart=>exact ⟨0,o7,rfl,D.out,fun _=>q.out,fun h=>absurd h d7⟩
 case round=>
  obtain ⟨k,hk,rfl,z,n,o⟩:=hrel;have f:=hid7 z;have r:=hid7 n;have t:=hid7 o;clear z n o;have i:k=0\/k=1:=o7;rcases i with rfl | rfl
  ·have c:Hid (BnAt wr b s d a l):=r.out rfl;have H:=(nC0 (p:=⟨g,0,none⟩) f.out (World.block_lt_of_cell? w _ x.out) C.out).trans x.out;have I:=dO0 (j:=3) c.out rfl;have K:=dX1 (j:=3) c.out;go_wp2;go_roundw
   case rel=>exact ⟨1,o7,rfl,iY0 f.out (pG0 wr ⟨b,3,none⟩ _),fun h=>absurd h d7,fun _=>nN1 (j:=3) (U G p) c.out⟩
   case measure=>simp [intOf]
  ·go_wp2;go_ret;exact ⟨rfl,f.out,t.out (by trivial)⟩
theorem aF2 (c g:Nat) (s d a l p:Int) (w:World) (h:BnAt w c s d a l) (H:inB 1 1000000 p=true) (D:w.cell? ⟨g,0,none⟩=some (U G 0)) (m:w.cell? ⟨g,1,none⟩=some (U G 1)) (o:g≠c):
  Calls prog 273 #[E (some ⟨c,0,none⟩),U G p,J (some ⟨g,0,none⟩) 2 2] w fun e w'=>e=Y .nilIface/\Out (fun j=>j=c) w w'/\BnAt w' c s d p p:=by
 have I:=hid7 h;have B:=hid7 D;have i:=hid7 m;have C:=hid7 o;have L:=hid7 H;clear h D o H m;go_enter func273,ntmps273;go_wp2_with fail;refine (nN0 p 1 _).mono ?_;rintro e w1 ⟨rfl,A⟩;have K:Hid (Out (fun j=>j=c) w w1):=aL A lR7;have u:=hid7 (I.out.below A);rw [jW0,L.out];clear A;go_wp2;go_loopw [15] (fun v wr=>∃k:Nat,k<=2/\v=U G k/\Out (fun j=>j=c) w wr/\(k=0->BnAt wr c s d a l)/\(k=1->BnAt wr c s d p l)/\(k=2->BnAt wr c s d p p)) (fun v _=>2 - (intOf v).toNat)
 case atStart=>exact ⟨0,o7,rfl,K.out,fun _=>u.out,fun h=>absurd h d7,fun h=>absurd h d7⟩
 case round=>
  obtain ⟨k,hk,rfl,F,q,r,t⟩:=hrel;have f:=hid7 F;have x:=hid7 q;have y:=hid7 r;have z:=hid7 t;clear F q r t;have n:k=0\/k=1\/k=2:=o7;rcases n with rfl | rfl | rfl
  ·have b:Hid (BnAt wr c s d a l):=x.out rfl;have M:=(nC0 (p:=⟨g,0,none⟩) f.out (World.block_lt_of_cell? w _ B.out) C.out).trans B.out;have N:=dO0 (j:=2) b.out rfl;have P:=dX1 (j:=2) b.out;go_wp2;go_roundw
   case rel=>exact ⟨1,o7,rfl,iY0 f.out (pG0 wr ⟨c,2,none⟩ _),fun h=>absurd h d7,fun _=>nN1 (j:=2) (U G p) b.out,fun h=>absurd h d7⟩
   case measure=>simp [intOf]
  ·have b:Hid (BnAt wr c s d p l):=y.out rfl;have M:=(nC0 (p:=⟨g,1,none⟩) f.out (World.block_lt_of_cell? w _ i.out) C.out).trans i.out;have O:=dO0 (j:=3) b.out rfl;have Q:=dX1 (j:=3) b.out;go_wp2;go_roundw
   case rel=>exact ⟨2,o7,rfl,iY0 f.out (pG0 wr ⟨c,3,none⟩ _),fun h=>absurd h d7,fun h=>absurd h d7,fun _=>nN1 (j:=3) (U G p) b.out⟩
   case measure=>simp [intOf]
  ·go_wp2;go_ret;exact ⟨rfl,f.out,z.out (by trivial)⟩
theorem aG2 (b:Nat) (s d a l p:Int) (w:World) (h:BnAt w b s d a l) (i:inB 1 1000000 p=true):
  Calls prog 241 #[E (some ⟨b,0,none⟩),U G p] w fun e w'=>e=Y .nilIface/\Out (fun j=>j=b) w w'/\BnAt w' b s d a p:=by
 have k:=hid7 h;have o:=hid7 i;have m:=hid7 (lt_of_block h);clear h i;go_enter func241,ntmps241;go_wp2_with fail;refine (aE2 b _ s d a l p _ (k.out.below (jQ0 w _)) o.out (by simp [go_sem]) (by have:=m.out;omega)).mono ?_;rintro e w' ⟨rfl,g,f⟩;have n:Hid (Out (fun j=>j=b) w w'):=iY0 (aL (jQ0 w _) lR7) g;have c:=hid7 f;clear g f;go_wp2;go_ret;exact ⟨rfl,n.out,c.out⟩
theorem hJ2 (b:Nat) (s d a l p:Int) (w:World) (h:BnAt w b s d a l) (i:inB 1 1000000 p=true):
  Calls prog 246 #[E (some ⟨b,0,none⟩),U G p] w fun e w'=>e=Y .nilIface/\Out (fun j=>j=b) w w'/\BnAt w' b s d p p:=by
 have k:=hid7 h;have o:=hid7 i;have m:=hid7 (lt_of_block h);clear h i;go_enter func246,ntmps246;go_wp2_with fail;refine (aF2 b _ s d a l p _ (k.out.below (jQ0 w _)) o.out (by simp [go_sem]) (by simp [go_sem]) (by have:=m.out;omega)).mono ?_;rintro e w' ⟨rfl,g,f⟩;have n:Hid (Out (fun j=>j=b) w w'):=iY0 (aL (jQ0 w _) lR7) g;have c:=hid7 f;clear g f;go_wp2;go_ret;exact ⟨rfl,n.out,c.out⟩
end
section
open Go.RowKit Go.Maps Go.Sort Go.Shelf
def laysK_ren:Go.Shelf.Ren:=⟨fun | 7=>252 | 10=>282 | n=>n,fun | 23=>258 | 26=>3 | 3=>257 | 28=>318 | 0=>0 | 27=>317 | 33=>76 | 4=>4 | n=>n,fun n=>n⟩
theorem eN2:Go.Proofs.SlLaysZI.n7 prog laysK_ren:={
 mixed:=k7
 f7:=⟨f252.name,k7,func252.trans (congrArg some k7)⟩
 f10:=⟨f282.name,k7,func282.trans (congrArg some k7)⟩
 t0:=underlying0
 a0:=isAgg0
 z0:=sizeOf0
 v0:=zeroValue0
 t4:=underlying4
 a4:=isAgg4
 z4:=sizeOf4
 v4:=zeroValue4
 t23:=underlying258
 a23:=isAgg258
 z23:=sizeOf258
 v23:=zeroValue258
 t26:=underlying3
 a26:=isAgg3
 z26:=sizeOf3
 v26:=zeroValue3
 t27:=underlying317
 a27:=isAgg317
 z27:=sizeOf317
 v27:=zeroValue317
 t28:=underlying318
 a28:=isAgg318
 z28:=sizeOf318
 v28:=zeroValue318
 t33:=underlying76
 a33:=isAgg76
 z33:=sizeOf76
 v33:=zeroValue76 }
def laysS_ren:Go.Shelf.Ren:=⟨fun | 6=>251 | 8=>281 | 9=>259 | 11=>294 | n=>n,fun | 26=>3 | 28=>318 | 24=>59 | 0=>0 | 3=>3 | 33=>76 | 4=>4 | n=>n,fun n=>n⟩
theorem hK2:Go.Proofs.SlLaysZI.n6 prog laysS_ren:={
 mixed:=k7
 f6:=⟨f251.name,k7,func251.trans (congrArg some k7)⟩
 f8:=⟨f281.name,k7,func281.trans (congrArg some k7)⟩
 f11:=⟨f294.name,k7,func294.trans (congrArg some k7)⟩
 t0:=underlying0
 a0:=isAgg0
 z0:=sizeOf0
 v0:=zeroValue0
 t24:=underlying59
 a24:=isAgg59
 z24:=sizeOf59
 v24:=zeroValue59
 t26:=underlying3
 a26:=isAgg3
 z26:=sizeOf3
 v26:=zeroValue3
 t28:=underlying318
 a28:=isAgg318
 z28:=sizeOf318
 v28:=zeroValue318
 i26:=by kernel_rfl }
theorem eO2 (m:Nat):AnyZI.SortsIn prog laysS_ren Fence.wide m:=
 ⟨fun c e a g W f b d=>callsIn_wide.2 (Any.slices_Sort_int { nC1 with } c e a g W f b d),
  fun p a W=>callsIn_wide.2 (Any.slices_Sort_int_none { nC1 with } p a W)⟩
theorem tY1 (mb:Option Nat) (W:World):Calls prog 252 #[.map mb] W fun e w'=>e=Y (.func (.func 282) #[] #[E (some ⟨W.heap.size,0,none⟩)])/\w'=W.alloc (R #[.map mb] 258):=
 (callsIn_wide (n:=5)).1 (AnyZI.keys_in eN2 Fence.wide 5 trivial rfl mb W)
theorem jN1 {R:Value->Option (DataW Unit×List MemPlace)} (b k:Nat) (d:DataW Unit) (w:World) (a:w.ownsMap prog 3 R b k d) (j:Maps.size d<=100000):
  Calls prog 251 #[.func (.func 282) #[] #[.pointer (some ⟨w.heap.size,0,none⟩)]] (w.alloc (.cells #[.map (some b)] 258)) fun e w'=>∃(v:Value) (f:List Int),e=.returned v/\f.Perm (intKeys d)/\
   w'.ownsRow (w.alloc (.cells #[.map (some b)] 258)).heap.size 3 1 v f.length ((f.mergeSort (fun x y=>decide (x<=y))).map encZ)/\(v=.slice none 0 0↔f=[])/\Below (w.alloc (.cells #[.map (some b)] 258)).heap.size (w.alloc (.cells #[.map (some b)] 258)) w':=by
 have i:=a.lt
 have g:SeqGives Fence.wide 2 prog 282 #[.pointer (some ⟨w.heap.size,0,none⟩)] encZ (fun f=>f.Perm (intKeys d)) (Maps.size d) (w.alloc (.cells #[.map (some b)] 258)):=
  AnyZI.keys_gives (ρ:=laysK_ren) { eN2 with } Fence.wide _ trivial rfl o7 w.heap.size b k d _ s7 s7 (by
   obtain ⟨o,c,q,l,r,p⟩:=a;exact ⟨o,c,(dD _ _ b i).trans q,l,r,p⟩)
 have m:=AnyZI.sorted_in hK2 Fence.wide 5 trivial trivial trivial trivial rfl o7 (eO2 _) (enters_of func259 k7 rfl) 282 #[.pointer (some ⟨w.heap.size,0,none⟩)] trivial (enters_of func282 k7 rfl) _ _ (by unfold maxLen;omega) o7 _ g;exact (callsIn_wide (n:=5)).1 m
end
section
open Go.RowKit
theorem infoCq:(prog.info? 252).map (fun i=>(i.zero,i.size,i.bytes))=some (some (.agg #[U G 0,U G 0,U G 0]),3,24):=k7
theorem aH2 {more:Int} (h:LotD D F more) {e:Lit} {x:Int} (hk:e=.int .i64 x) {c:Int×Int} {y:DataW Unit×List MemPlace} (d:lotR (.agg #[.int .i64 c.1,.int .i64 c.2])=some y) (a:∀zd,D.atKey e zd=y.1):c.1=sumQ (dX0 x) F/\c.2=sumQ (fD0 x) F:=by
 subst hk;have b:=h.1 x;rw [a] at b;rw [dG1] at d;cases d;exact fN1 b
theorem aE1 {more:Int} (h:LotD D F more) {left:Lit->Bool} {a:List Int} (b:CollectedI D left a) (c:∀kl,left kl=false):a.Nodup/\∀p,p∈a↔p∈bL0 F more:=
 ⟨b.1,fun p=>by rw [b.2 p,h.2 p,c];simp⟩
theorem jO1 {more:Int} (h:LotD D F more) {left:Lit->Bool} {j:List Int} (c:CollectedI D left j) (f:∀kl,left kl=false) (g:w.ownsMap prog 3 lotR B n D) {b:List Int} (d:b.Perm (intKeys D)):(gM0 b).Pairwise (· < ·)/\(∀p,p∈gM0 b↔p∈bL0 F more)/\∀p∈gM0 b,(Lit.int .i64 p).wf=true:=by
 have e:=c.perm g cu_keyInt underlying3 f;have i:b.Nodup:=(d.trans e.symm).nodup_iff.2 c.1;refine ⟨zF0 i,fun p=>?_,fun p a=>?_⟩
 ·rw [iV0,(d.trans e.symm).mem_iff];exact (aE1 h c f).2 p
 ·rw [iV0,d.mem_iff] at a;exact intKeys_wf g underlying3 p a
theorem fld0 (a b:Int) (W:World):(Instr.field 257 (.agg #[U G a,U G b]) 0).run prog W=.ok (U G a) W:=k7
theorem fld1 (a b:Int) (W:World):(Instr.field 257 (.agg #[U G a,U G b]) 1).run prog W=.ok (U G b) W:=k7
theorem aF1 {b:Option Nat} (h:w.ownsRow base e a v n xs) (f:w.grownBy w' b) (c:∀k,v.ownBlock=some k->b≠some k):w'.ownsRow base e a v n xs:=by
 refine ⟨h.1,h.2.imp id (fun ⟨g,cap,cur,e1,hb,hh,r⟩=>⟨g,cap,cur,e1,hb,(f.block g (lt_of_block hh) (fun d=>c g (by rw [e1];rfl) d.symm)).trans hh,r⟩)⟩
theorem nR1 {o:TypeId} {f d:Nat} {v':Value} {u:Nat} {j:List Value} (h:w.ownsRow base e f v n xs) (r:w.ownsRow a o d v' u j) (t:e≠o):∀k,v.ownBlock=some k->v'.ownBlock≠some k:=fun k i c=>by
 rcases h.2 with ⟨rfl,_⟩ | ⟨g,p,q,rfl,_,s,_⟩
 ·simp [Value.ownBlock] at i
 ·rcases r.2 with ⟨rfl,_⟩ | ⟨x,l,m,rfl,_,b,_⟩
  ·simp [Value.ownBlock] at c
  ·simp [Value.ownBlock] at i c;subst i;subst c;rw [s] at b;simp at b;exact t b.2
theorem tZ1 (B:Nat) (F:List Ord) (more:Int) (w:World) (hL:dW0 w B F more) (hF:∀o∈F,okO o=true) (L:F.length<=1000):
  Calls prog 193 #[.map (some B),.agg #[U G (sumQ mkBB F),U G (sumQ mkSB F)]] w fun e w'=>∃(v':Value) (xs:List Int),e=Y v'/\xs.Pairwise (· < ·)/\(∀p,p∈xs↔p∈bL0 F more)/\w'.ownsRow w.heap.size 252 3 v' (ptsX xs F).length (ptV (ptsX xs F))/\Below w.heap.size w w':=by
 obtain ⟨iP,e0,d1,d2,d3⟩:=info_parts infoCq;have HL:=hid7 hL;have A:=hid7 hF;obtain ⟨D,N,hD,d0⟩:=hL;have HO:=hid7 N;have HD:Hid (LotD D F more):=d0;have g6:=N.size_le;have h5:=dB0 (q:=mkBB) hF L;have h6:=dB0 (q:=mkSB) hF L;clear N hD d0 hF;go_enter func193,ntmps193;go_wp2_with fail;go_quiet (fail);have a7:Below w.heap.size w ((w.alloc (R #[U G (sumQ mkBB F),U G (sumQ mkSB F)] 257)).drewN nq):=below_drewN (bK0 w _) _;have z:=hid7 a7
 have b9:Hid (((w.alloc (R #[U G (sumQ mkBB F),U G (sumQ mkSB F)] 257)).drewN nq).ownsMap prog 3 lotR B (F.length+1) D):=by
  obtain ⟨es,a5,e1,e2,e3,e4⟩:=HO.out;exact ⟨es,a5,(a7.block B HO.out.lt).trans e1,e2,e3,e4⟩
 clear a7;generalize (w.alloc (R #[U G (sumQ mkBB F),U G (sumQ mkSB F)] 257)).drewN nq=W at z b9 ⊢;have hM:sumQ mkBB F=sumQ mkBB F+sumX dX0 [] F:=by rw [fK1];omega
 have HM:=hid7 hM.symm;clear hM;go_wp2_with (first | (at_range;refine wpList_range_own _ rfl _ 258 rfl 3 257 cu_keyInt underlying258 _ B (F.length+1) _ rfl b9.out ?_;intro w0 T d8 g4) | go_in);go_frame;have c2:=hid7 T;have b4:Hid (Below w.heap.size w w0):=z.out.grown d8 z.out.size (fun q hq=>by cases hq);clear T d8 g4;go_loopw [5] (fun v wr=>∃(left:Lit->Bool) (c8:Nat) (O:List Int),v=U G (sumQ mkBB F+sumX dX0 O F)/\wr.ranges prog 3 lotR B W.heap.size (F.length+1) D left c8/\CollectedI D left O/\Below w.heap.size w wr) (fun _ wr=>wr.rangeLeft B W.heap.size)
 case atStart=>exact ⟨_,_,[],by rw [HM.out],c2.out,CollectedI.start D,b4.out⟩
 case round=>
  obtain ⟨left,c8,O,rfl,e8,hC,hb⟩:=hrel;have H:=hid7 e8;have HC:=hid7 hC;have m:=hid7 hb;have f9:0<=sumX dX0 O F/\sumX dX0 O F<=1000000000:=by rw [rX0 hC.1];exact dB0 A.out L
  clear e8 hC hb c2 b4 HM;go_wp2_with (first | (at_next;refine wpList_next_ranges _ rfl _ rfl 3 cu_keyInt lotR (Value.int .i64) (fun c:Int×Int=>.agg #[U G c.1,U G c.2]) (fun key kl hk=>by obtain ⟨x,hx,_⟩:=Maps.keyOf_i64 underlying3 hk;exact ⟨x,hx⟩) (fun v y hv=>by obtain ⟨a,b,hx,_⟩:=uY0 hv;exact ⟨(a,b),hx⟩) B W.heap.size (F.length+1) _ _ _ rfl H.out ?_ ?_) | go_in)
  ·intro g0 b1;have a2:=hid7 H.out.owns;have a3:=hid7 (aE1 HD.out HC.out b1);have b8:Hid (∀{W3:World},W3.ownsMap prog 3 lotR B (F.length+1) D->∀{P:List Int},P.Perm (intKeys D)->(gM0 P).Pairwise (· < ·)/\(∀p,p∈gM0 P↔p∈bL0 F more)/\∀p∈gM0 P,(Lit.int .i64 p).wf=true):=fun f8 _ hp=>jO1 HD.out HC.out b1 f8 hp
   clear g0 b1 H HC;go_wp2_with (first | (at_len;refine wpList_len_own _ rfl _ 258 rfl 3 257 underlying258 _ B (F.length+1) D rfl a2.out ?_) | (at_make;refine wpList_make_own _ rfl _ _ 175 rfl wr.heap.size 252 iP (.agg #[U G 0,U G 0,U G 0]) 3 underlying175 e0 d1 d2 _ _ _ (Maps.size D) rfl rfl rfl (by rw [d3];omega) (by unfold maxLen;omega) lR7 ?_;intro Z u b0));refine (tY1 (some B) Z).mono ?_;rintro e w4 ⟨rfl,g7⟩;subst g7;have a0:Hid (Below w.heap.size w Z):=m.out.grown b0 m.out.size (fun q hq=>by cases hq);have E:Hid (Z.ownsMap prog 3 lotR B (F.length+1) D):=a2.out.kept b0 s7;have c5:=hid7 (bW0 u m.out.size);clear u b0 a2;go_wp2_with fail;refine (jN1 B (F.length+1) D Z E.out o7).mono ?_;rintro e w5 ⟨v5,P,rfl,hp,X,_,d5⟩;obtain ⟨f0,f1,f2⟩:=b8.out E.out hp;have r:Below Z.heap.size Z w5:=aV0 (bK0 Z _) d5;have b6:=hid7 (aV0 a0.out r);have c6:Hid (w5.ownsRow w.heap.size 252 3 (J (some ⟨wr.heap.size,0,none⟩) 0 (Maps.size D)) 0 []):=cR0 c5.out r lR7
   have C:Hid (w5.ownsRow w.heap.size 3 1 v5 (gM0 P).length (ints (gM0 P))):=by
    rw [hJ0];exact bW0 X (aI a0.out.size (bK0 Z _).size)
   have g8:(gM0 P).length<=1001:=by
    rw [hJ0,hp.length_eq];have:=g6;obtain ⟨es,rfl,_⟩:=E.out.keysOf;simp only [intKeys,bU];rw [Maps.size_eq] at this;omega
   have j:=hid7 f0;have K:=hid7 f1;have c7:=hid7 f2;clear hp X d5 r f0 f1 f2 b8 E a0 c5 m;generalize gM0 P=xs at C g8 j K c7;have c4:Hid (sumX dX0 O F=sumX dX0 (xs.drop 0) F):=lJ1 a3.out.1 (iW0 j.out) (fun p=>by rw [a3.out.2,K.out]) F;have b7:Hid (∀o∈F,eE0 o=true->o.price∈xs):=fun o N hn=>(K.out _).2 (dL0.2 (aG ⟨o,N,hn,rfl⟩))
   rw [c4.out];have d4:sumQ mkSB F=sumQ mkSB F+sumX fD0 (xs.take 0) F:=by rw [List.take_zero,fK1];omega
   have c3:=hid7 d4;clear c4 a3 d4 f9;obtain ⟨ai,ci,rfl,_,_⟩:=bO0 C.out;go_wp2_with fail;go_loopw [5,6,9,11,33] (fun d s o _ i w6=>∃k:Nat,k<=xs.length/\i=U G k/\d=U G (sumQ mkBB F+sumX dX0 (xs.drop k) F)/\s=U G (sumQ mkSB F+sumX fD0 (xs.take k) F)/\w6.ownsRow w.heap.size 252 3 o (ptsX (xs.take k) F).length (ptV (ptsX (xs.take k) F))/\w6.ownsRow w.heap.size 3 1 (J ai xs.length ci) xs.length (ints xs)/\Below w.heap.size w w6) (fun _ _ _ _ i _=>xs.length - (RowKit.intOf i).toNat)
   case atStart=>exact ⟨0,aO _,rfl,rfl,by rw [<-c3.out],c6.out,C.out,b6.out⟩
   case round=>
    obtain ⟨k,hk,rfl,rfl,rfl,N,hi,hb⟩:=hrel;have HW:=hid7 N;have HI:=hid7 hi;have m:=hid7 hb
    have g1:(ptsX (xs.take k) F).length<=1001:=by
     unfold ptsX;rw [bU,bF];omega
    obtain ⟨h8,h1,rfl,_,_⟩:=bO0 N;clear c6 C b6 c3 N
    by_cases f:k<xs.length
    ·have b2:(k:Int)<(xs.length:Int):=o7;obtain ⟨g,g9,hv,_,_⟩:=hi.form o7;simp only [aY,true_and] at hv;obtain ⟨rfl,rfl⟩:=hv;have c0:wr.cell? ⟨g,k,none⟩=some (U G (xs.getD k 0)):=(hi.cellAt k o7).trans (dC1 f)
     have S:xs.getD k 0∈xs:=by
      rw [List.getD_eq_getElem?_getD,List.getElem?_eq_getElem f];exact dB f
     have a4:Hid ((Lit.int .i64 (xs.getD k 0)).wf=true):=c7.out _ S;have I:Hid (sumX fD0 (xs.take (k+1)) F=sumX fD0 (xs.take k) F+sumQ (fD0 (xs.getD k 0)) F):=lH1 F f;have a1:Hid (sumX dX0 (xs.drop k) F=sumQ (dX0 (xs.getD k 0)) F+sumX dX0 (xs.drop (k+1)) F):=lG1 F f
     have n:Hid (ptsX (xs.take (k+1)) F=ptsX (xs.take k) F++[⟨xs.getD k 0,sumQ mkBB F+sumX dX0 (xs.drop k) F,sumQ mkSB F+sumX fD0 (xs.take k) F+sumQ (fD0 (xs.getD k 0)) F⟩]):=by
      rw [lL1 F f,dK2 A.out j.out b7.out f,<-dL2 A.out j.out b7.out f,I.out,hZ];rfl
     have M:=(HL.out.below hb).look a4.out;have e6:=dB0 (q:=dX0 (xs.getD k 0)) A.out L;have e7:=dB0 (q:=fD0 (xs.getD k 0)) A.out L
     have g2:0<=sumX dX0 (xs.drop k) F/\sumX dX0 (xs.drop k) F<=1000000000:=by
      rw [rX0 ((iW0 j.out).sublist (List.drop_sublist ..))];exact dB0 A.out L
     have g3:0<=sumX fD0 (xs.take k) F/\sumX fD0 (xs.take k) F<=1000000000:=by
      rw [lI1 ((iW0 j.out).sublist (List.take_sublist ..))];exact dB0 A.out L
     clear hb hi S;generalize xs.getD k 0=p at c0 a4 I a1 n M e6 e7;generalize f6:sumX dX0 (xs.drop k) F=dk at a1 n g2 ⊢;generalize f7:sumX fD0 (xs.take k) F=sk at I n g3 ⊢;generalize ptsX (xs.take k) F=acc at n HW g1 ⊢;clear f6 f7;have h3:=fld0;have h4:=fld1;go_wp2_with (at_builtin;refine wpList_append_own_at _ rfl _ _ 175 rfl w.heap.size 252 iP (.agg #[U G 0,U G 0,U G 0]) 3 24 underlying175 e0 d1 d2 d3 rfl d7 _ acc.length (ptV acc) rfl (HW.out.alloc _) ⟨wr.heap.size,0,none⟩ 1 1 [U G p,U G (sumQ mkBB F+dk),U G (sumQ mkSB F+sk+sumQ (fD0 p) F)] rfl rfl (bJ (cs:=#[U G p,U G (sumQ mkBB F+dk),U G (sumQ mkSB F+sk+sumQ (fD0 p) F)]) (t:=252) (fr:=(0,0)) (heap_alloc_new wr _)) (by simp [Value.oneCell']) (by unfold maxLen;omega) o7 (by have:=m.out.size;simp;omega) ?_;intro v' w6 b3 l _ _;have d6:=(m.out.alloc m.out.size _).grown l (by have:=m.out.size;simp;omega) (fun q hq=>(HW.out.lt q hq).1);have h0:=(HL.out.below d6).look a4.out);go_roundw
     case rel=>
      refine ⟨k+1,f,by go_num,?_,?_,?_,aF1 (HI.out.alloc _) l (nR1 (w:=wr) HI.out HW.out d7),d6⟩
      ·rw [a1.out];congr 1;omega
      ·rw [I.out,hZ]
      ·rw [n.out,qP0,aN,bD];exact b3
     case measure=>simp [RowKit.intOf];omega
    ·obtain rfl:k=xs.length:=o7;rw [bI] at HW ⊢;clear hb hi;go_wp2_with fail;go_ret;exact ⟨_,xs,rfl,j.out,K.out,HW.out,m.out⟩
  ·intro x ca cb kl yd yp w2 c9 Q M hv a6 V b2 d9 g5 h2;obtain ⟨x',e9,e5,h7⟩:=Maps.keyOf_i64 underlying3 Q;obtain rfl:x=x':=by simpa using e9
   obtain ⟨a8,a9⟩:=aH2 (c:=(ca,cb)) HD.out e5 hv a6;replace a8:ca=_:=a8;replace a9:cb=_:=a9;subst a8 a9 e5;have c1:=hid7 V;have f3:=hid7 (HC.out.step M a6);have b5:Hid (Below w.heap.size w w2):=m.out.grown d9 m.out.size (fun q hq=>by cases hq;exact z.out.size);have f4:=hid7 b2;have f5:Hid (sumX dX0 (O++[x]) F=sumX dX0 O F+sumQ (dX0 x) F):=zC0 _ _ _ _;have e6:=dB0 (q:=dX0 x) A.out L;have e7:=dB0 (q:=fD0 x) A.out L;clear Q M hv a6 V b2 d9 g5 e9;go_wp2_with fail;go_roundw
   case rel=>exact ⟨_,c9,O++[x],by rw [f5.out,hZ],c1.out.alloc _,f3.out,b5.out.alloc b5.out.size _⟩
   case measure=>rw [(c1.out.alloc _).left_eq,H.out.left_eq];exact f4.out
def lC0 (w:World) (mb:Nat) (a b:Int):Prop:=w.heap[mb]? = some (R #[U G a,U G b] 257 (0,0))
theorem lC0.below {w w':World} {mb:Nat} {a b:Int} (h:lC0 w mb a b) (c:Below w.heap.size w w'):lC0 w' mb a b:=eX0 h c
theorem lC0.set {w:World} {mb:Nat} {a b:Int} (h:lC0 w mb a b) (c b':Int):lC0 ((w.setCell ⟨mb,0,none⟩ (U G c)).setCell ⟨mb,1,none⟩ (U G b')) mb c b':=
 eF0 (j:=1) _ (eF0 (j:=0) (U G c) h)
theorem nS1 {mb:Nat} {u:Value} (h:w.ownsRow base e a v n xs) (d:w.heap[mb]? = some (R vs t (0,0))) (f:e≠t):(w.setCell ⟨mb,j,none⟩ u).ownsRow base e a v n xs:=by
 refine ⟨h.1,h.2.imp id (fun ⟨g,cap,cur,e1,hg,hh,r⟩=>⟨g,cap,cur,e1,hg,(cK _ _ _ _ (fun b=>?_)).trans hh,r⟩)⟩;have c:=b;rw [c,d] at hh;simp at hh;exact f hh.2.symm
theorem aI2 {more:Int} (h:w.ownsRow base e a v n xs) (j:dW0 w B l more):∀k,v.ownBlock=some k->(some B:Option Nat)≠some k:=fun k hk c=>by
 obtain ⟨D,⟨o,b,d,_⟩,_⟩:=j;rcases h.2 with ⟨rfl,_⟩ | ⟨g,f,i,rfl,_,m,_⟩
 ·simp [Value.ownBlock] at hk
 ·simp [Value.ownBlock] at hk;injection c with c;subst hk;subst c;rw [m] at d;simp at d
theorem aJ2 (h:k<F.length) (a:oAt F k=o) (hk:o.kind=2):andB o (sumQ mkBB (F.take k))=sumQ mkBB (F.take (k+1)):=by
 rw [rW0 _ h,a];unfold andB mkBB
 by_cases b:o.side=1 <;> simp [b,hk]
theorem aK2 (h:k<F.length) (a:oAt F k=o) (hk:o.kind=2):andS o (sumQ mkSB (F.take k))=sumQ mkSB (F.take (k+1)):=by
 rw [rW0 _ h,a];unfold andS mkSB
 by_cases b:o.side=1 <;> simp [b,hk]
theorem uA1 (l:List Ord) (hk:o.kind≠2):andB o (sumQ (dX0 o.price) l)=sumQ (dX0 o.price) (l++[o]):=by
 rw [jU0];unfold andB dX0
 by_cases a:o.side=1 <;> simp [a,hk]
theorem uB1 (l:List Ord) (hk:o.kind≠2):andS o (sumQ (fD0 o.price) l)=sumQ (fD0 o.price) (l++[o]):=by
 rw [jU0];unfold andS fD0
 by_cases a:o.side=1 <;> simp [a,hk]
theorem dY1 (h:k<F.length):F.take (k+1)=F.take k++[oAt F k]:=by rw [aM h,eJ0 h]
theorem uC1 (h:okO o=true) (hk:o.kind≠2):eE0 o=true:=by unfold eE0;rw [h];simp [hk]
theorem nT1 (w:World) (o:Obj) (more:Int) (a:¬0<more):dW0 ((w.alloc o).alloc (.map #[] 0)) (w.heap.size+1) [] more:=by
 have h:=eC (w.alloc o) prog 3 lotR;rw [show (w.alloc o).heap.size=w.heap.size+1 by simp] at h;exact ⟨_,h.mono s7,⟨_,rfl⟩,LotD.start a⟩
theorem nU1 (w:World) (o:Obj) {more:Int} (c:0<more) (e:(Lit.int .i64 more).wf=true):
  ∃w',(Instr.mapUpdate 258 (.map (some (w.heap.size+1))) (U G more) (.agg #[U G 0,U G 0])).run prog ((w.alloc o).alloc (.map #[] 0))=.ok () w'/\dW0 w' (w.heap.size+1) [] more/\((w.alloc o).alloc (.map #[] 0)).grownBy w' (some (w.heap.size+1)):=by
 have h:=eC (w.alloc o) prog 3 lotR;rw [show (w.alloc o).heap.size=w.heap.size+1 by simp] at h;obtain ⟨w',d,a,b⟩:=h.update cu_keyInt underlying258 (by unfold maxLen;omega) (cu_keyIs e) (dG1 _ _);exact ⟨w',d,⟨_,a.mono s7,⟨_,rfl⟩,LotD.more c⟩,b⟩
theorem hM2 (a:Option Addr) (d9:Nat) (l:List Ord) (more:Int) (w:World) (h:dS0 w a l) (hl:l.length<=1000) (hw:∀o∈l,wf64 o.price) (hm:wf64 more):
  Calls prog 130 #[J a l.length d9,U G more] w fun e w'=>∃v',e=Y v'/\w'.ownsRow w.heap.size 252 3 v' (aS0 l more).length (ptV (aS0 l more))/\Below w.heap.size w w':=by
 have HA:=hid7 h;have b1:=hid7 hw;have e2:=@run_makeMap prog;clear h hw;go_enter func130,ntmps130;go_upto_if 11 with fail;go_cut [] from 10 to 14 (fun wc=>dW0 wc (w.heap.size+1) [] more/\lC0 wc w.heap.size 0 0/\Below w.heap.size w wc)
 case first=>
  have n:Below w.heap.size w ((w.alloc (R #[U G 0,U G 0] 257)).alloc (.map #[] 0)):=aV0 (bK0 w _) (bK0 _ _);have y:lC0 ((w.alloc (R #[U G 0,U G 0] 257)).alloc (.map #[] 0)) w.heap.size 0 0:=eX0 (heap_alloc_new w _) (bK0 _ _)
  by_cases b8:0<more
  ·obtain ⟨w1,r1,b2,a2⟩:=nU1 w (R #[U G 0,U G 0] 257) b8 hm;have T:=hid7 b2;have P:Hid (lC0 w1 w.heap.size 0 0):=(a2.block w.heap.size (lt_of_block y) s7).trans y;have O:Hid (Below w.heap.size w w1):=n.grown a2 (by simp;omega) (fun q hq=>by injection hq with hq;omega);clear b2 a2 n y;go_wp2_with fail;go_meet;exact ⟨T.out,P.out,O.out⟩
  ·have T:Hid (dW0 ((w.alloc (R #[U G 0,U G 0] 257)).alloc (.map #[] 0)) (w.heap.size+1) [] more):=nT1 w _ more b8;have O:=hid7 n;have P:=hid7 y;clear n y;go_wp2_with fail;go_meet;exact ⟨T.out,P.out,O.out⟩
 case rest=>
  obtain ⟨hL,hK,hb⟩:=hcut;have N:=hid7 hL;have t:=hid7 hK;have B:=hid7 hb;clear hL hK hb e2;go_wp2_with fail;refine (dQ2 a _ l wc (HA.out.below B.out) hl).mono ?_;rintro e w2 ⟨v2,rfl,z,n⟩;have a1:=hid7 (bW0 z B.out.size);have W:=hid7 (N.out.below n);have Q:=hid7 (t.out.below n);have a6:=hid7 (aV0 B.out n);have HF:Hid (∀o∈l.filter okO,okO o=true):=fun o ho=>(bM.1 ho).2
  have a8:Hid (∀o∈l.filter okO,wf64 o.price):=fun o ho=>b1.out o (bM.1 ho).1
  have b5:(l.filter okO).length<=1000:=aI (cE _ _) hl;have a7:Hid (∀xs:List Int,xs.Pairwise (· < ·)->(∀p,p∈xs↔p∈bL0 (l.filter okO) more)->ptsX xs (l.filter okO)=aS0 l more):=fun xs h1 h2=>iQ1 h1 h2
  obtain ⟨ao,vc,rfl,_,_⟩:=bO0 z;clear z n N t B HA b1;generalize l.filter okO=F at a1 W Q HF a8 b5 a7 ⊢;go_wp2_with fail;go_loopw [18] (fun i wr=>∃k:Nat,k<=F.length/\i=U G k/\lC0 wr w.heap.size (sumQ mkBB (F.take k)) (sumQ mkSB (F.take k))/\dW0 wr (w.heap.size+1) (F.take k) more/\wr.ownsRow w.heap.size 92 5 (J ao F.length vc) F.length (oV F)/\Below w.heap.size w wr) (fun i _=>F.length - (RowKit.intOf i).toNat)
  case atStart=>exact ⟨0,aO _,rfl,Q.out,W.out,a1.out,a6.out⟩
  case round=>
   obtain ⟨k,hk,rfl,b7,b6,M,hb⟩:=hrel;have t:=hid7 b7;have N:=hid7 b6;have HR:=hid7 M;have B:=hid7 hb;clear Q W a1 a6 b7 b6 hb
   by_cases c:k<F.length
   ·have e8:(k:Int)<(F.length:Int):=o7;obtain ⟨g,e7,hv,d0,d1,d2,d3,d4⟩:=cT0 M c;simp only [aY,true_and] at hv;obtain ⟨rfl,rfl⟩:=hv;have X:Hid (okO (oAt F k)=true):=HF.out _ (by rw [eJ0 c];exact dB c);have Z:Hid (wf64 (oAt F k).price):=a8.out _ (by rw [eJ0 c];exact dB c);have a0:=hid7 (dY1 c);have e3:=(kW0 X.out).2;have e5:=dB0 (q:=mkBB) (cY1 HF.out k) (by rw [bF];omega);have e6:=dB0 (q:=mkSB) (cY1 HF.out k) (by rw [bF];omega);have E:Hid ((oAt F k).kind=2->andB (oAt F k) (sumQ mkBB (F.take k))=sumQ mkBB (F.take (k+1))):=aJ2 c rfl;have H:Hid ((oAt F k).kind=2->andS (oAt F k) (sumQ mkSB (F.take k))=sumQ mkSB (F.take (k+1))):=aK2 c rfl;have I:Hid ((oAt F k).kind≠2->sumQ mkBB (F.take (k+1))=sumQ mkBB (F.take k)):=fun e=>lE1 c (by unfold mkBB;simp [e])
    have K:Hid ((oAt F k).kind≠2->sumQ mkSB (F.take (k+1))=sumQ mkSB (F.take k)):=fun e=>lE1 c (by unfold mkSB;simp [e])
    have a5:(F.take k).length<=1000:=by rw [bF];omega
    have b0:=hid7 (cY1 HF.out k);clear M;generalize oAt F k=x at d0 d1 d2 d3 d4 X Z a0 e3 E H I K;have hX:iW1 (wr.alloc (R #[U G x.id,U G x.side,U G x.kind,U G x.price,U G x.qty] 92)) wr.heap.size x:=heap_alloc_new wr _;have s:=bK0 wr (R #[U G x.id,U G x.side,U G x.kind,U G x.price,U G x.qty] 92)
    by_cases f:x.kind=2
    ·have e0:=beq_iff_eq.2 f;have m0:=aP0 (j:=0) (t.out.below s) rfl;have m1:=aP0 (j:=1) (t.out.below s) rfl;have a9:Hid (dW0 wr (w.heap.size+1) (F.take (k+1)) more):=by rw [a0.out];exact N.out.same f
     have C:=hid7 (E.out f);have D:=hid7 (H.out f);clear hX E H I K N f;generalize sumQ mkBB (F.take k)=sb at e5 t m0 C;generalize sumQ mkSB (F.take k)=ssl at e6 t m1 D;go_wp2_with fail;have v:Hid (iW1 (wr.alloc (R #[U G x.id,U G x.side,U G x.kind,U G x.price,U G x.qty] 92)) wr.heap.size x):=heap_alloc_new wr _;have m:=hid7 s;clear s;generalize wr.alloc (R #[U G x.id,U G x.side,U G x.kind,U G x.price,U G x.qty] 92)=V at m0 m1 v m ⊢;refine (dP2 sb ssl x V o7 o7 o7).mono ?_;rintro e w5 ⟨rfl,d⟩;have r:=(t.out.below m.out).below d;have S:=hid7 r;have n0:=aP0 (j:=0) r rfl;have n1:=aP0 (j:=1) r rfl;have f0:=cD0 (j:=0) r;have f1:=cD0 (j:=1) r;have b:=aV0 m.out d;have c7:=hid7 (a9.out.below b);have d6:Hid (w5.ownsRow w.heap.size 92 5 (J (some ⟨g,0,none⟩) F.length vc) F.length (oV F)):=cR0 HR.out b lR7;have c3:=hid7 (aV0 B.out b);clear r d b m0 m1 v m a9 t HR B;rw [C.out,D.out];go_wp2_with fail;go_roundw
     case rel=>
      refine ⟨k+1,c,by go_num,S.out.set _ _,c7.out.block ?_,nS1 (nS1 d6.out S.out d7) (eF0 (j:=0) _ S.out) d7,(c3.out.setCell lR7 _).setCell lR7 _⟩;exact (cK _ _ _ _ s7).trans (cK _ _ _ _ s7)
     case measure=>simp [RowKit.intOf];omega
    ·have e0:=aC.2 f;have C:=hid7 (I.out f);have D:=hid7 (K.out f);have e9:=dB0 (q:=dX0 x.price) b0.out a5;have f2:=dB0 (q:=fD0 x.price) b0.out a5;have c1:Hid (andB x (sumQ (dX0 x.price) (F.take k))=sumQ (dX0 x.price) (F.take k++[x])):=uA1 _ f;have c2:Hid (andS x (sumQ (fD0 x.price) (F.take k))=sumQ (fD0 x.price) (F.take k++[x])):=uB1 _ f;have c9:=hid7 (uC1 X.out f);clear E H I K;go_upto_region 10 with fail;have v:=hid7 hX;have m:=hid7 s;have u:=hid7 (N.out.below s);clear hX s d0 d1 d2 d3 d4;generalize wr.alloc (R #[U G x.id,U G x.side,U G x.kind,U G x.price,U G x.qty] 92)=V at v m u ⊢;generalize wr.heap.size=xb at v ⊢;have e1:(Instr.lookup 258 (.map (some (w.heap.size+1))) (U G x.price) false).run prog V.drew=.ok (.agg #[U G (sumQ (dX0 x.price) (F.take k)),U G (sumQ (fD0 x.price) (F.take k))]) V.drew:=(u.out.block (w':=V.drew) rfl).look Z.out;have x0:=aP0 (j:=0) v.out rfl;have x1:=aP0 (j:=1) v.out rfl;have x2:=aP0 (j:=2) v.out rfl;have x3:=aP0 (j:=3) v.out rfl;have x4:=aP0 (j:=4) v.out rfl;go_region_with (go_at_call 192;refine (dP2 _ _ x _ ?_ ?_ ?_).mono ?_;(omega);(omega);(omega);rintro e w5 ⟨rfl,d⟩;rw [c1.out,c2.out];(have y3:=aP0 (j:=3) (eX0 (w:=V.drew) v.out d) rfl;obtain ⟨w6,e4,b3,L⟩:=dW0.store (u.out.block (w':=w5) (d.block _ u.out.lt)) c9.out Z.out a5))
     all_goals
      have c8:Hid (dW0 w6 (w.heap.size+1) (F.take (k+1)) more):=by rw [a0.out];exact b3
      have r:=(t.out.below m.out).below (w:=V) (w':=V.drew) (aF _ V).drew;have a3:=r.below d;have c6:Hid (lC0 w6 w.heap.size (sumQ mkBB (F.take k)) (sumQ mkSB (F.take k))):=(L.block w.heap.size (lt_of_block a3) s7).trans a3;have a4:=cR0 HR.out (aV0 m.out (aV0 (w1:=V.drew) (aF _ V).drew d)) lR7;have d8:Hid (w6.ownsRow w.heap.size 92 5 (J (some ⟨g,0,none⟩) F.length vc) F.length (oV F)):=aF1 a4 L (aI2 a4 (u.out.block (w':=w5) (d.block _ u.out.lt)));have b:=aV0 B.out (aV0 m.out (aV0 (w1:=V.drew) (aF _ V).drew d));have c4:Hid (Below w.heap.size w w6):=b.grown L b.size (fun q hq=>by injection hq with hq;omega);clear b a4 a3 r b3 L e4 y3 d x0 x1 x2 x3 x4 e1;go_wp2_with fail;go_roundw
      case rel=>exact ⟨k+1,c,by go_num,by rw [C.out,D.out];exact c6.out,c8.out,d8.out,c4.out⟩
      case measure=>simp [RowKit.intOf];omega
   ·obtain rfl:k=F.length:=o7;rw [bI] at t N;have m0:=aP0 (j:=0) t.out rfl;have m1:=aP0 (j:=1) t.out rfl;clear M;go_wp2_with fail;refine (tZ1 _ F more wr N.out HF.out b5).mono ?_;rintro e w7 ⟨v7,xs,rfl,b9,c0,A,b4⟩
    have d5:Hid (w7.ownsRow w.heap.size 252 3 v7 (aS0 l more).length (ptV (aS0 l more))):=by
     rw [<-a7.out xs b9 c0];exact bW0 A B.out.size
    have c5:=hid7 (aV0 B.out b4);clear b9 c0 A b4 m0 m1;go_wp2_with fail;go_ret;exact ⟨_,rfl,d5.out,c5.out⟩
theorem yG1 {a b:Int} (c:-1099511627776<=a/\a<=1099511627776) (d:-1099511627776<=b/\b<=1099511627776):-9000000000000000000<=apB a b/\apB a b<=9000000000000000000:=by
 unfold apB;omega
theorem aL2 {l:List Pt} (h:w.ownsRow base t 3 v l.length (ptV l)) (hk:k<l.length):
  ∃g a,v=J (some ⟨g,0,none⟩) l.length a/\base<=g/\aC0 w g (k*3) (U G (ptAt l k).price)/\aC0 w g (k*3+1) (U G (ptAt l k).dem)/\aC0 w g (k*3+2) (U G (ptAt l k).sup):=by
 obtain ⟨g,a,rfl,e,_⟩:=h.form o7;obtain ⟨b,c,d⟩:=xP1 hk;exact ⟨g,a,rfl,e,(h.cellAt _ o7).trans b,(h.cellAt _ o7).trans c,(h.cellAt _ o7).trans d⟩
theorem uD1 (a:Option Addr) (e4:Nat) (l:List Pt) (around:Int) (w:World) (h:kL0 w a l) (hl:l.length<=1000) (hs:∀x∈l,x.Small) (ha:-1099511627776<=around/\around<=1099511627776):
  Calls prog 129 #[J a l.length e4,U G around] w fun e w'=>e=Y (.agg #[U G (aO0 l around).price,U G (aO0 l around).qty,U G (aO0 l around).sur])/\aL0 w w':=by
 have HA:=hid7 h;have HS:=hid7 hs;have HR:=hid7 ha;have HC:Hid (aO0 l around=dA1 l around):=(iS1 l around).symm;clear h hs ha;go_enter func129,ntmps129;go_wp2_with fail
 have b5:iL0 ((w.alloc (R #[U G around] 3)).alloc (R #[U G 0,U G 0,U G 0] 107)) (w.heap.size+1):=by
  have:=heap_alloc_new (w.alloc (R #[U G around] 3)) (R #[U G 0,U G 0,U G 0] 107);unfold iL0
  simpa using this
 have b2:aC0 ((w.alloc (R #[U G around] 3)).alloc (R #[U G 0,U G 0,U G 0] 107)) w.heap.size 0 (U G around):=cM0 (bK0 _ _) (aP0 (j:=0) (heap_alloc_new w _) rfl);have F:aL0 w ((w.alloc (R #[U G around] 3)).alloc (R #[U G 0,U G 0,U G 0] 107)):=aV0 (bK0 w _) (bK0 _ _);generalize (w.alloc (R #[U G around] 3)).alloc (R #[U G 0,U G 0,U G 0] 107)=W0 at b5 b2 F ⊢;refine (mA1 a _ l _ _ trB W0 (HA.below F) hl (sV1 l W0)).mono ?_;rintro e w1 ⟨v1,rfl,L,a0⟩;have i:Hid (iL0 w1 (w.heap.size+1)):=b5.below a0;have b7:Hid (aC0 w1 w.heap.size 0 (U G around)):=cM0 a0 b2;have a7:Hid (aL0 w w1):=aV0 F a0;have E:Hid (aO0 l around=if rY0 (fX0 trB l)=true then ⟨0,0,0⟩ else quoP (ptAt (hM0 around (cN0 lfP (fX0 trB l))) 0)):=HC;have A:Hid (∀x∈fX0 trB l,x.Small):=fun x C=>HS x (sA0 C)
 have a3:(fX0 trB l).length<=1000:=aI (rZ0 trB l) hl;have Z:Hid (w1.ownsRow w.heap.size 252 3 v1 (fX0 trB l).length (ptV (fX0 trB l))):=bW0 L F.size;obtain ⟨ao,c1,rfl,_,_⟩:=bO0 L;clear b5 b2 F L a0 HS HC HA hl;generalize fX0 trB l=l1 at E A a3 Z ⊢
 by_cases h0:0<l1.length
 ·have y:((l1.length:Int) == 0)=false:=aC.2 o7;have b4:(0:Int)<(l1.length:Int):=o7;obtain ⟨g,e6,hv,d0,d1,d2⟩:=fH1 Z h0;simp only [aY,true_and] at hv;obtain ⟨rfl,rfl⟩:=hv
  have W:Hid (rY0 l1=decide (trB (ptAt l1 0)<1)):=by
   show rY0 l1=_;unfold rY0;rw [y];rfl
  rw [eN] at d0;rw [eN,bT] at d1 d2;generalize ptAt l1 0=x0 at d0 d1 d2 W;go_wp2_with fail;refine (wV0 x0 _).mono ?_;rintro e P ⟨rfl,H⟩;have k:Hid (iL0 P (w.heap.size+1)):=i.below H;have b8:Hid (aC0 P w.heap.size 0 (U G around)):=cM0 H b7;have a8:Hid (aL0 w P):=aV0 a7 H;have c8:Hid (P.ownsRow w.heap.size 252 3 (J (some ⟨g,0,none⟩) l1.length c1) l1.length (ptV l1)):=cR0 Z H lR7;clear H i b7 a7 Z d0 d1 d2
  by_cases ht:trB x0<1
  ·have n:Hid (aO0 l around=⟨0,0,0⟩):=by rw [E.out,W.out,aE ht];rfl
   have q0:=aP0 (j:=0) k rfl;have q1:=aP0 (j:=1) k rfl;have q2:=aP0 (j:=2) k rfl;have f0:=cD0 (j:=0) k;have f1:=cD0 (j:=1) k;have f2:=cD0 (j:=2) k;have t:=eF0 (j:=2) (U G 0) (eF0 (j:=1) (U G 0) (eF0 (j:=0) (U G 0) k));have m:Hid (aL0 w (((P.setCell ⟨w.heap.size+1,0,none⟩ (U G 0)).setCell ⟨w.heap.size+1,1,none⟩ (U G 0)).setCell ⟨w.heap.size+1,2,none⟩ (U G 0))):=((a8.setCell (cH _) _).setCell (cH _) _).setCell (cH _) _;go_wp2_with fail;generalize ((P.setCell ⟨w.heap.size+1,0,none⟩ (U G 0)).setCell ⟨w.heap.size+1,1,none⟩ (U G 0)).setCell ⟨w.heap.size+1,2,none⟩ (U G 0)=V at t m ⊢;have z0:=aP0 (j:=0) t rfl;have z1:=aP0 (j:=1) t rfl;have z2:=aP0 (j:=2) t rfl;refine bodyPost_ret (by simp [results,results129,go_sem,z0,z1,z2];try rfl) rfl ?_;exact ⟨by rw [n.out],m⟩
  ·have n:Hid (aO0 l around=quoP (ptAt (hM0 around (cN0 lfP l1)) 0)):=by rw [E.out,W.out,aD ht];rfl
   clear E W;have c5:Hid (∀x∈l1,-9000000000000000000<=lfP x/\lfP x<=9000000000000000000):=fun x C=>yG1 (A x C).d (A x C).s
   have X:Hid (0<(cN0 lfP l1).length):=hN0 _ h0;have o:Hid (∀x∈cN0 lfP l1,x.Small):=fun x C=>A x (jT0 C)
   have u:(cN0 lfP l1).length<=1000:=aI (uX0 lfP l1) a3;obtain ⟨aw,cw,d5,b⟩:=kL0.of_row c8;simp only [aY,true_and] at d5;obtain ⟨rfl,rfl⟩:=d5;have c4:Hid (∀ca,Calls prog 181 #[J (some ⟨g,0,none⟩) l1.length ca,.func (.func 182) #[] #[]] P fun e w'=>∃v',e=Y v'/\w'.ownsRow P.heap.size 252 3 v' (cN0 lfP l1).length (ptV (cN0 lfP l1))/\aL0 P w'):=fun ca=>wU0 _ ca l1 _ _ lfP P b a3 (dU2 A P) c5
   clear b c5 A;go_wp2_with fail;refine (c4 _).mono ?_;rintro e r ⟨v2,rfl,M,a1⟩;have b1:Hid (iL0 r (w.heap.size+1)):=k.below a1;have b9:Hid (aC0 r w.heap.size 0 (U G around)):=cM0 a1 b8;have c0:Hid (aL0 w r):=aV0 a8 a1;obtain ⟨a2,c2,rfl,b⟩:=kL0.of_row M;have HI:Hid (kL0 r a2 (cN0 lfP l1)):=b;clear M a1 b k b8 a8 c8 c4 a3 h0 y b4 ht;generalize cN0 lfP l1=l2 at X o u HI n ⊢;have T:Hid (hM0 around l2=if allP upB l2=true then fX0 Pt.price l2 else if allP kY0 l2=true then cN0 Pt.price l2 else cN0 Pt.price (cN0 (iX0 around) l2)):=rfl;have b0:Hid (∀x∈l2,-9000000000000000000<=Pt.price x/\Pt.price x<=9000000000000000000):=fun x C=>by have:=(o x C).p;omega
   have c7:Hid (∀x∈l2,-9000000000000000000<=iX0 around x/\iX0 around x<=9000000000000000000):=fun x C=>yG1 (o x C).p HR
   go_upto_block 0 with fail;go_cut [0] from 21 to 38 (fun v wc=>wc.ownsRow r.heap.size 252 3 v (hM0 around l2).length (ptV (hM0 around l2))/\aL0 r wc)
   case first=>
    go_wp2_with fail;refine (dS2 a2 _ l2 _ _ upB r HI u (fnUp o r)).mono ?_;rintro e w4 ⟨rfl,c9⟩;have D:=hid7 c9;clear c9;cases hup:allP upB l2 with
    | true=>
     have HL:Hid (hM0 around l2=fX0 Pt.price l2):=by rw [T.out,hup];rfl
     go_wp2_with fail;refine (mA1 a2 _ l2 _ _ Pt.price w4 (HI.below D) u (dJ1 l2 w4)).mono ?_;rintro e S ⟨v5,rfl,N,I⟩;have d8:Hid (S.ownsRow r.heap.size 252 3 v5 (hM0 around l2).length (ptV (hM0 around l2))):=by rw [HL.out];exact bW0 N D.size
     have f:Hid (aL0 r S):=aV0 D I;clear N I;go_wp2_with fail;go_meet;exact ⟨d8,f⟩
    | false=>
     go_wp2_with fail;refine (dS2 a2 _ l2 _ _ kY0 w4 (HI.below D) u (dV2 o w4)).mono ?_;rintro e S ⟨rfl,I⟩;have f:Hid (aL0 r S):=aV0 D I;clear I;cases hdn:allP kY0 l2 with
     | true=>
      have HL:Hid (hM0 around l2=cN0 Pt.price l2):=by rw [T.out,hup,hdn];rfl
      go_wp2_with fail;refine (wU0 a2 _ l2 _ _ Pt.price S (HI.below f) u (dJ1 l2 S) b0).mono ?_;rintro e Q ⟨v6,rfl,c,K⟩;have d9:Hid (Q.ownsRow r.heap.size 252 3 v6 (hM0 around l2).length (ptV (hM0 around l2))):=by rw [HL.out];exact bW0 c f.size
      have z:Hid (aL0 r Q):=aV0 f K;clear c K;go_wp2_with fail;go_meet;exact ⟨d9,z⟩
     | false=>
      have HL:Hid (hM0 around l2=cN0 Pt.price (cN0 (iX0 around) l2)):=by rw [T.out,hup,hdn];rfl
      go_wp2_with fail;refine (wU0 a2 _ l2 _ _ (iX0 around) S (HI.below f) u (dW2 o HR (cM0 f b9)) c7).mono ?_;rintro e Q ⟨v6,rfl,c,K⟩;have z:Hid (aL0 r Q):=aV0 f K;obtain ⟨a6,c6,rfl,b⟩:=kL0.of_row c;have c3:=hid7 b;have d4:(cN0 (iX0 around) l2).length<=1000:=aI (uX0 (iX0 around) l2) u;have a4:Hid (∀x∈cN0 (iX0 around) l2,-9000000000000000000<=Pt.price x/\Pt.price x<=9000000000000000000):=fun x C=>b0 x (jT0 C)
      clear c K b;generalize cN0 (iX0 around) l2=l6 at c3 d4 a4 HL ⊢;go_wp2_with fail;refine (wU0 a6 _ l6 _ _ Pt.price Q c3 d4 (dJ1 l6 Q) a4).mono ?_;rintro e w7 ⟨v7,rfl,O,d3⟩;have e0:Hid (w7.ownsRow r.heap.size 252 3 v7 (hM0 around l2).length (ptV (hM0 around l2))):=by rw [HL.out];exact bW0 O z.size
      have d6:Hid (aL0 r w7):=aV0 z d3;clear O d3;go_wp2_with fail;go_meet;exact ⟨e0,d6⟩
   case rest=>
    obtain ⟨ho,b3⟩:=hcut;have a5:=zG0 around X;have b6:=o _ (dM2 (around:=around) X);obtain ⟨g3,e7,rfl,e9,d0,d1,d2⟩:=aL2 ho a5;have b4:(0:Int)<((hM0 around l2).length:Int):=o7;have e3:Hid (iL0 wc.drew (w.heap.size+1)):=(b1.below b3:iL0 wc (w.heap.size+1));have e5:¬w.heap.size+1=g3:=fun e=>by have:=lt_of_block b1;omega
    have e8:¬g3=w.heap.size+1:=fun e=>e5 e.symm
    have d7:Hid (aL0 w wc.drew):=(aV0 c0 b3).drew;rw [eN] at d0;rw [eN,bT] at d1 d2;generalize (hM0 around l2).length=n3 at b4 a5 ⊢;generalize ptAt (hM0 around l2) 0=x at d0 d1 d2 n b6;have HX:Hid x.Small:=b6;have a9:Hid ((aO0 l around).price=x.price/\(aO0 l around).qty=trB x/\(aO0 l around).sur=surB x):=by rw [n.out];exact ⟨rfl,rfl,rfl⟩
    clear ho b3 b6 T b0 c7 HI o X b1 b9 c0 n;go_wp2_with fail
    go_region_held3 (fun w'=>w'.cell? ⟨g3,0,none⟩=some (.int .i64 x.price)/\w'.cell? ⟨g3,1,none⟩=some (.int .i64 x.dem)/\w'.cell? ⟨g3,2,none⟩=some (.int .i64 x.sup))
     (first | go_keep | (go_split_ands;refine ⟨?_,?_,?_⟩ <;> (refine cM0 B ?_;assumption)))
     (first | (go_at_call 180;refine (wV0 x _).mono ?_;rintro e S ⟨rfl,B⟩;have e1:Hid (iL0 S (w.heap.size+1)):=e3.out.below B;have f:Hid (aL0 w S):=aV0 d7.out B) | (go_at_call 187;refine (sC0 x HX _).mono ?_;rintro e Q ⟨rfl,B⟩;have q:=e1.below B;have q0:=aP0 (j:=0) q rfl;have q1:=aP0 (j:=1) q rfl;have q2:=aP0 (j:=2) q rfl;have f0:=cD0 (j:=0) q;have f1:=cD0 (j:=1) q;have f2:=cD0 (j:=2) q;have z:Hid (aL0 w Q):=aV0 f B;have e2:Hid (iL0 Q (w.heap.size+1)):=q;clear q))
    have t:=eF0 (j:=2) (U G (surB x)) (eF0 (j:=1) (U G (trB x)) (eF0 (j:=0) (U G x.price) e2));have m:Hid (aL0 w (((Q.setCell ⟨w.heap.size+1,0,none⟩ (U G x.price)).setCell ⟨w.heap.size+1,1,none⟩ (U G (trB x))).setCell ⟨w.heap.size+1,2,none⟩ (U G (surB x)))):=((z.setCell (cH _) _).setCell (cH _) _).setCell (cH _) _;rename_i hHeld9;clear hHeld9 q0 q1 q2 f0 f1 f2 d0 d1 d2;generalize ((Q.setCell ⟨w.heap.size+1,0,none⟩ (U G x.price)).setCell ⟨w.heap.size+1,1,none⟩ (U G (trB x))).setCell ⟨w.heap.size+1,2,none⟩ (U G (surB x))=V at t m ⊢;have z0:=aP0 (j:=0) t rfl;have z1:=aP0 (j:=1) t rfl;have z2:=aP0 (j:=2) t rfl;clear t;go_wp2_with fail;refine bodyPost_ret (by simp [results,results129,go_sem,z0,z1,z2];try rfl) rfl ?_;exact ⟨by rw [a9.out.1,a9.out.2.1,a9.out.2.2],m⟩
 ·have y:((l1.length:Int) == 0)=true:=beq_iff_eq.2 o7
  have n:Hid (aO0 l around=⟨0,0,0⟩):=by
   show aO0 l around=_;rw [E.out];exact aB (by unfold rY0;rw [y];rfl)
  have q0:=aP0 (j:=0) i rfl;have q1:=aP0 (j:=1) i rfl;have q2:=aP0 (j:=2) i rfl;have f0:=cD0 (j:=0) i;have f1:=cD0 (j:=1) i;have f2:=cD0 (j:=2) i;have t:=eF0 (j:=2) (U G 0) (eF0 (j:=1) (U G 0) (eF0 (j:=0) (U G 0) i));have m:Hid (aL0 w (((w1.setCell ⟨w.heap.size+1,0,none⟩ (U G 0)).setCell ⟨w.heap.size+1,1,none⟩ (U G 0)).setCell ⟨w.heap.size+1,2,none⟩ (U G 0))):=((a7.setCell (cH _) _).setCell (cH _) _).setCell (cH _) _;go_wp2_with fail;generalize ((w1.setCell ⟨w.heap.size+1,0,none⟩ (U G 0)).setCell ⟨w.heap.size+1,1,none⟩ (U G 0)).setCell ⟨w.heap.size+1,2,none⟩ (U G 0)=V at t m ⊢;have z0:=aP0 (j:=0) t rfl;have z1:=aP0 (j:=1) t rfl;have z2:=aP0 (j:=2) t rfl;refine bodyPost_ret (by simp [results,results129,go_sem,z0,z1,z2];try rfl) rfl ?_;exact ⟨by rw [n.out],m⟩
theorem jP1 (g p:Nat) (lb sb:Array Value) (w:World) (f C N:Nat) (B:Nat->List Value) (key:Nat->Int) (eg:∀args w,(callFunc g args).run prog w=.ok (.enter g args) w) (R:∀x,(B x).length=5) (hS:sQ0 prog p sb f C N B)
  (hL:pC0 prog g lb w f C N B key) (h:RowT w f C N B (fun x=>x)) (hN:N<=1000):
  Calls prog 159 #[.agg #[.func (.func g) #[] lb,.func (.func p) #[] sb],U G N] w fun e w'=>e=Y (.tuple #[])/\∃u,Mv w w' f C N B u/\Rea 0 N (fun x=>x) u/\Srt key u 0 N:=by
 have H0:Hid (Mv w (w.alloc (boxT g p lb sb)) f C N B (fun x=>x)):=(Mv.start h).below ((aF _ _).alloc lR7 _) lR7;have HB:Hid ((w.alloc (boxT g p lb sb)).heap[w.heap.size]? = some (boxT g p lb sb)):=heap_alloc_new w _;have HN:Hid (w.heap.size≠f):=fun e=>by have:=h.lt;omega
 have HS:=hid7 hS;have HL:=hid7 hL;have X:=hid7 (mP1 g p lb sb w f C N B key eg R hS hL hN);clear h hS hL;go_enter func159,ntmps159;go_wp2_with fail;go_loopw [5,6] (fun V vb wr=>∃(q a:Nat) (u:Nat->Nat),a=q*20/\a<=N/\V=U G a/\vb=U G ((a:Int)+20)/\Mv w wr f C N B u/\wr.heap[w.heap.size]? = some (boxT g p lb sb)/\Rea 0 N (fun x=>x) u/\Blk key u 20 N (fun k=>k<q)/\∀x,q*20<=x->u x=x) (fun V _ _=>N - (intOf V).toNat)
 case atStart=>exact ⟨0,0,fun x=>x,rfl,aO _,rfl,rfl,H0.out,HB.out,Rea.refl _ _ _,Blk.none _ _ _ _,fun _ _=>rfl⟩
 case round=>
  obtain ⟨q,a,u,F,a0,rfl,rfl,K,i,L,n,a3⟩:=hrel;have H:Hid _:=K;have J:=hid7 i;have O:=hid7 L;have M:=hid7 n;have r:=hid7 a3;have j:=hid7 F;have c0:wr.cell? ⟨w.heap.size,0,none⟩=some (.func (.func g) #[] lb):=(cell_of_row wr w.heap.size 0 _ _ (0,0) i).trans rfl;have c1:wr.cell? ⟨w.heap.size,1,none⟩=some (.func (.func p) #[] sb):=(cell_of_row wr w.heap.size 1 _ _ (0,0) i).trans rfl;clear K i L n a3 F H0 HB
  by_cases S:a+20<=N
  ·go_wp2_with fail;refine (sR0 g p lb sb w wr f C N a (a+20) B u key eg R HS.out HL.out H.out hN o7 S (fun x y hx T hy=>by have:=j.out;rw [r.out x o7,r.out y o7];exact T)).mono ?_;rintro e W ⟨rfl,u',s,o,z⟩;have l:=hid7 (H.out.trans s);have m:Hid (W.heap[w.heap.size]? = some (boxT g p lb sb)):=(s.block _ (lt_of_block J.out) HN.out).trans J.out;have Z:=hid7 o;have S5:=hid7 z;clear s o z c0 c1;go_wp2_with fail;go_roundw
   case rel=>
    have hq:=j.out;have o:=Z.out;have z:=S5.out;rw [hq] at o z;obtain ⟨k1,k2⟩:=M.out.ins r.out (aH rfl) o7 o7 o z;exact ⟨q+1,a+20,u',o7,S,by go_num,by go_num,l.out,m.out,O.out.trans (Z.out.mono (aO _) S),k1,fun x hx=>k2 x o7⟩
   case measure=>simp [intOf];omega
  ·go_wp2_with fail;refine (sR0 g p lb sb w wr f C N a N B u key eg R HS.out HL.out H.out hN a0 lR7 (fun x y hx T hy=>by have:=j.out;rw [r.out x o7,r.out y o7];exact T)).mono ?_;rintro e W ⟨rfl,u',s,o,z⟩;have l:=hid7 (H.out.trans s);have m:Hid (W.heap[w.heap.size]? = some (boxT g p lb sb)):=(s.block _ (lt_of_block J.out) HN.out).trans J.out;have I:Hid (Rea 0 N (fun x=>x) u'):=O.out.trans (o.mono (aO _) lR7)
   have A:Hid (Blk key u' 20 N (fun _=>True)):=by
    have hq:=j.out;rw [hq] at o z;obtain ⟨k1,k2⟩:=M.out.ins r.out (aG ⟨rfl,o7⟩) o7 lR7 o z;exact k1.all o7
   clear s o z c0 c1 H J O M r j;go_wp2_with fail;go_loopw [4] (fun vs a4=>∃(c:Nat) (v:Nat->Nat),20<=c/\c<=2000/\vs=U G c/\Mv w a4 f C N B v/\a4.heap[w.heap.size]? = some (boxT g p lb sb)/\Rea 0 N (fun x=>x) v/\Blk key v c N (fun _=>True)) (fun vs _=>2000 - (intOf vs).toNat)
   case atStart=>exact ⟨20,u',lR7,o7,rfl,l.out,m.out,I.out,A.out⟩
   case round=>
    obtain ⟨c,v,a9,a7,rfl,K,i,L,n⟩:=hrel;have H:Hid _:=K;have J:=hid7 i;have O:=hid7 L;have M:=hid7 n;clear K i L n l m I A
    by_cases a8:c<N
    ·go_wp2_with fail;go_loopw [5,6] (fun V vb a5=>∃(q a:Nat) (u:Nat->Nat),a=q*(2*c)/\a<=N/\V=U G a/\vb=U G ((a:Int)+2*c)/\Mv w a5 f C N B u/\a5.heap[w.heap.size]? = some (boxT g p lb sb)/\Rea 0 N (fun x=>x) u/\Blk key u (2*c) N (fun k=>k<q)/\Blk key u c N (fun k=>2*q<=k)) (fun V _ _=>N - (intOf V).toNat)
     case atStart=>exact ⟨0,0,v,by simp,aO _,rfl,by go_num,H.out,J.out,O.out,Blk.none _ _ _ _,M.out.from⟩
     case round=>
      obtain ⟨q,a,u,F,a0,rfl,rfl,K,i,L,a1,a2⟩:=hrel;have D:Hid _:=K;have E:=hid7 i;have P:=hid7 L;have d:Hid (Blk key u (2*c) N (fun k=>k<q)/\Blk key u c N (fun k=>2*q<=k)):=⟨a1,a2⟩;have j:=hid7 F;have c0:wr.cell? ⟨w.heap.size,0,none⟩=some (.func (.func g) #[] lb):=(cell_of_row wr w.heap.size 0 _ _ (0,0) i).trans rfl;have c1:wr.cell? ⟨w.heap.size,1,none⟩=some (.func (.func p) #[] sb):=(cell_of_row wr w.heap.size 1 _ _ (0,0) i).trans rfl;clear K i L a1 a2 F H J O M
      by_cases t:a+2*c<=N
      ·go_wp2_with fail;have Q:=X.out (2*c) wr a (a+c) (a+2*c) u o7 D.out o7 o7 t (((d.out.2.ready j.out lR7 t).1).sub lR7 o7) (d.out.2.ready j.out lR7 t).2.1 (d.out.2.ready j.out lR7 t).2.2;rw [show ((a+c:Nat):Int)=(a:Int)+c by omega,show ((a+2*c:Nat):Int)=(a:Int)+2*c by omega] at Q;refine Q.mono ?_;rintro e W ⟨rfl,u2,s,o,z⟩;have l:=hid7 (D.out.trans s);have m:Hid (W.heap[w.heap.size]? = some (boxT g p lb sb)):=(s.block _ (lt_of_block E.out) HN.out).trans E.out;have Z:=hid7 o;have S5:=hid7 z;clear s o z c0 c1 Q;go_wp2_with fail;go_roundw
       case rel=>
        obtain ⟨k1,k2⟩:=d.out.1.merge d.out.2 j.out (aH rfl) t Z.out S5.out;exact ⟨q+1,a+2*c,u2,by rw [lZ0 q (2*c),<-j.out],t,by go_num,by go_num,l.out,m.out,P.out.trans (Z.out.mono (aO _) t),k1,k2⟩
       case measure=>simp [intOf];omega
      ·by_cases a6:a+c<N
       ·go_wp2_with fail;have Q:=X.out (2*c) wr a (a+c) N u o7 D.out o7 a6 lR7 (((d.out.2.ready j.out (b:=N) o7 lR7).1).sub lR7 o7) (d.out.2.ready j.out (b:=N) o7 lR7).2.1 (d.out.2.ready j.out (b:=N) o7 lR7).2.2;rw [show ((a+c:Nat):Int)=(a:Int)+c by omega] at Q;refine Q.mono ?_;rintro e W ⟨rfl,u2,s,o,z⟩;have l:=hid7 (D.out.trans s);have m:Hid (W.heap[w.heap.size]? = some (boxT g p lb sb)):=(s.block _ (lt_of_block E.out) HN.out).trans E.out;have I:Hid (Rea 0 N (fun x=>x) u2):=P.out.trans (o.mono (aO _) lR7);have A:Hid (Blk key u2 (2*c) N (fun _=>True)):=((d.out.1.merge d.out.2 j.out (aG ⟨rfl,o7⟩) lR7 o z).1).all (by rw [lZ0 q (2*c),<-j.out];omega);clear s o z c0 c1 Q;go_wp2_with fail;go_roundw
        case rel=>exact ⟨2*c,u2,o7,o7,by go_num,l.out,m.out,I.out,A.out⟩
        case measure=>simp [intOf];omega
       ·have A:Hid (Blk key u (2*c) N (fun _=>True)):=(d.out.1.rest d.out.2 j.out o7).all (by rw [lZ0 q (2*c),<-j.out];omega);go_wp2_with fail;go_roundw
        case rel=>exact ⟨2*c,u,o7,o7,by go_num,D.out,E.out,P.out,A.out⟩
        case measure=>simp [intOf];omega
    ·go_wp2_with fail;go_end0;exact ⟨rfl,v,H.out,O.out,M.out.one o7⟩
end
section
open Go.RowKit Go.Extern
theorem ordersInfo:prog.info? 99=some t99:=k7
theorem orderInfo:prog.info? 92=some t92:=k7
theorem ordersDesc:t99.desc=.slice 92:=by kernel_rfl
theorem orderKind (w:World):(Rtype.kind 92).run prog w=.ok 25 w:=k7
theorem orderAgg (w:World):(isAgg 92).run prog w=.ok true w:=k7
theorem ordersPacked:prog.packed 99=false:=k7
theorem orderSize:t92.size=5:=k7
theorem nW0 (h:2<=N):Lib.swapperK N t92 25=9:=by
 unfold Lib.swapperK;rw [aA (by simp;omega),aA (by simp;omega)]
 kernel_rfl
theorem nV1 (a C N b:Nat) (el:Nat->List Value) (c:∀x,(el x).length=5) (l:∀x,∀v∈el x,v.oneCell'=true):sQ0 prog 226 #[J (some ⟨a,0,none⟩) N b,typeHandle prog 92] a C N el:=by
 intro W t m i j hi e _
 have f:∀x,x<N->∀k v,(el (t x))[k]? = some v->W.cell? ⟨a,0+x*t92.size+k,none⟩=some v:=fun x d k v o=>by
  have hk:k<5:=by rw [<-c (t x)];exact (List.getElem?_eq_some_iff.1 o).1
  rw [orderSize,bT,(m.cell d hk).1,o]
 have g:∀x,x<N->∀k,k<t92.size->W.frozen? ⟨a,0+x*t92.size+k,none⟩=false:=fun x d k hk=>by
  rw [orderSize] at hk ⊢;rw [bT];exact (m.cell d hk).2
 have n:=Lib.run_swap_cells (P:=prog) false 92 t92 orderInfo orderAgg a 0 N b i j hi e (el (t i)) (el (t j)) (by rw [c,orderSize]) (by rw [c,orderSize]) (l _) (l _) W (f i hi) (f j e) (g i hi) (g j e);rw [orderSize,bT,bT] at n;have d:=@run_callFunc_extern prog 226 _ (ReflectliteSwapper.swap false) func226 k7 k7 k7 k7;rw [d];show ((ReflectliteSwapper.swap false #[U G i,U G j,J (some ⟨a,0,none⟩) N b,typeHandle prog 92]).run prog W).andThen _=_;rw [n];rfl
theorem pC0.later {P:Program} {g:Nat} {lb:Array Value} {w W:World} {a C N:Nat} {b:Nat->List Value} {key:Nat->Int} {t:Nat->Nat} (h:pC0 P g lb w a C N b key) (f:Mv w W a C N b t):pC0 P g lb W a C N b key:=fun d t' c i j hi e=>h d t' (f.trans c) i j hi e
theorem sX0 (g:Nat) (lb:Array Value) (w:World) (b C N c:Nat) (f:Nat->List Value) (key:Nat->Int) (I:∀args w,(callFunc g args).run prog w=.ok (.enter g args) w) (j:∀x,(f x).length=5) (p:∀x,∀v∈f x,v.oneCell'=true)
  (t:pC0 prog g lb w b C N f key) (h:RowT w b C N f (fun x=>x)) (K:N<=1000) (q:2<=N):
  Calls prog 109 #[.iface 99 (J (some ⟨b,0,none⟩) N c),.func (.func g) #[] lb] w fun e w'=>e=Y (.tuple #[])/\∃u,Mv w w' b C N f u/\Rea 0 N (fun x=>x) u/\Srt key u 0 N:=by
 have o:=Lib.run_valueOf_slice (P:=prog) 99 92 _ ordersInfo ordersDesc (some ⟨b,0,none⟩) N c w;have n:=fun w=>Lib.run_swapper_slice (P:=prog) 99 92 _ _ ordersInfo ordersDesc orderInfo 25 orderKind (some ⟨b,0,none⟩) N c 226 (by rw [nW0 q];kernel_rfl) w
 have m:=fun a w L=>Lib.run_valueLen_slice (P:=prog) 99 92 _ ordersInfo ordersDesc ordersPacked a (some ⟨b,0,none⟩) N c w L
 simp only [nW0 q,show ¬(9<=2) by decide,if_false] at n;simp only [typeHandle] at o m;have M:=@run_callFunc_extern prog 157 _ (fun args=>ReflectliteValue.unpack (args.getD 0 (.tuple #[]))) func157 k7 k7 k7 k7
 have O:∀w,(callFunc 158 #[.iface 99 (J (some ⟨b,0,none⟩) N c)]).run prog w=.ok (.value (.func (.func 226) #[] #[J (some ⟨b,0,none⟩) N c,typeHandle prog 92])) w:=fun w=>
  (run_callFunc_extern func158 k7 k7 k7 k7 _ _).trans (congrArg (fun r=>Result.andThen r fun v w'=>Result.ok (Next.value v) w') (n w))
 have Q:=@run_callFunc_extern Tryz.prog 160 _ (ReflectliteValue.method (ReflectliteValue.valueError "reflectlite.Value.Len" 0) ReflectliteValue.len) Tryz.func160 k7 k7 k7 k7;have l:Tryz.prog.globals.size=12:=k7;have k:=m ⟨w.heap.size,0,none⟩ ((w.alloc (R #[J (some ⟨b,0,none⟩) N c] 99)).alloc (R #[E (some ⟨12,99,none⟩),E (some ⟨w.heap.size,0,none⟩),.int .u64 151] 208)) ((World.cell?_alloc_lt _ _ ⟨w.heap.size,0,none⟩ s7).trans (World.cell?_alloc_at _ _ _ _ rfl));rw [l] at o k;clear m l;have F:=hid7 (nV1 b C N c f j p);have B:=hid7 t;have D:=hid7 h;clear t h p n;go_enter Tryz.func109,Tryz.ntmps109;go_wp2_with fail;have i:=((Below.refl w.heap.size w).alloc lR7 (R #[J (some ⟨b,0,none⟩) N c] 99)).alloc s7 (R #[E (some ⟨12,99,none⟩),E (some ⟨w.heap.size,0,none⟩),.int .u64 151] 208);have d:=(Mv.start D.out).below i lR7;refine (jP1 g _ lb _ _ b C N f key I j F.out (B.out.later d) d.row K).mono ?_;rintro e S ⟨rfl,u,s,y,z⟩;have A:=hid7 (d.trans s);have G:Hid _:=y;have H:Hid _:=z;clear s y z d i o k M O Q;go_wp2_with fail;go_end0;exact ⟨rfl,u,A.out,G.out,H.out⟩
theorem aG1 (x y:Value) (n:Nat) (a:n<=1) (w:World):Calls prog 227 #[.agg #[x,y],U G 0,U G n] w fun e w'=>e=Y (.tuple #[])/\Below w.heap.size w w':=by
 go_enter func227,ntmps227;go_wp2_with fail;refine wp_loop_rounds 1 ?_;rw [rounds_succ];go_wp2_with fail;go_end0;exact ⟨rfl,(aF _ _).alloc lR7 _⟩
theorem dZ1 (g d:Nat) (lb sb:Array Value) (n:Nat) (c:n<=1) (w:World):Calls prog 159 #[.agg #[.func (.func g) #[] lb,.func (.func d) #[] sb],U G n] w fun e w'=>e=Y (.tuple #[])/\Below w.heap.size w w':=by
 go_enter func159,ntmps159;go_wp2_with fail;refine wp_loop_rounds 1 ?_;rw [rounds_succ];go_wp2_with fail;refine (aG1 _ _ n c _).mono ?_;rintro e w1 ⟨rfl,a⟩;have b:Hid (Below w.heap.size w w1):=((aF _ _).alloc lR7 _).trans (a.mono s7);clear a;go_wp2_with fail;refine wp_loop_rounds 1 ?_;rw [rounds_succ];go_wp2_with fail;go_end0;exact ⟨rfl,b.out⟩
theorem xI0 (h:n<=1):Lib.swapperK n t92 25=n+1:=by
 unfold Lib.swapperK
 by_cases a:n=0
 ·subst a;rfl
 ·obtain rfl:n=1:=o7;rfl
theorem qM0 (g:Nat) (lb:Array Value) (w:World) (p:Option Addr) (n b:Nat) (o:n<=1):
  Calls prog 109 #[.iface 99 (J p n b),.func (.func g) #[] lb] w fun e w'=>e=Y (.tuple #[])/\Below w.heap.size w w':=by
 have m:=Lib.run_valueOf_slice (P:=prog) 99 92 _ ordersInfo ordersDesc p n b w;have j:=fun f k w=>Lib.run_swapper_slice (P:=prog) 99 92 _ _ ordersInfo ordersDesc orderInfo 25 orderKind p n b f k w
 have l:=fun a w t=>Lib.run_valueLen_slice (P:=prog) 99 92 _ ordersInfo ordersDesc ordersPacked a p n b w t
 obtain ⟨f,k⟩:∃f:Nat,∀w,(callFunc 158 #[.iface 99 (J p n b)]).run prog w=.ok (.value (.func (.func f) #[] #[])) w:=by
  simp only [xI0 o,show n+1<=2 by omega,if_true] at j
  by_cases s:n=0
  ·subst s;exact ⟨218,fun w=>(run_callFunc_extern func158 k7 k7 k7 k7 _ _).trans (congrArg (fun r=>Result.andThen r fun v w'=>Result.ok (Next.value v) w') (j _ k7 w))⟩
  ·obtain rfl:n=1:=o7;exact ⟨219,fun w=>(run_callFunc_extern func158 k7 k7 k7 k7 _ _).trans (congrArg (fun r=>Result.andThen r fun v w'=>Result.ok (Next.value v) w') (j _ k7 w))⟩
 simp only [typeHandle] at m l;have x:=@run_callFunc_extern Tryz.prog 157 _ (fun args=>ReflectliteValue.unpack (args.getD 0 (.tuple #[]))) Tryz.func157 k7 k7 k7 k7;have y:=@run_callFunc_extern Tryz.prog 160 _ (ReflectliteValue.method (ReflectliteValue.valueError "reflectlite.Value.Len" 0) ReflectliteValue.len) Tryz.func160 k7 k7 k7 k7;have i:Tryz.prog.globals.size=12:=k7;have d:=l ⟨w.heap.size,0,none⟩ ((w.alloc (R #[J p n b] 99)).alloc (R #[E (some ⟨12,99,none⟩),E (some ⟨w.heap.size,0,none⟩),.int .u64 151] 208)) ((World.cell?_alloc_lt _ _ ⟨w.heap.size,0,none⟩ s7).trans (World.cell?_alloc_at _ _ _ _ rfl));rw [i] at m d;clear l i j;go_enter Tryz.func109,Tryz.ntmps109;go_wp2_with fail;refine (dZ1 g _ lb _ n o _).mono ?_;rintro e u ⟨rfl,c⟩;have q:Hid (Below w.heap.size w u):=(((Below.refl w.heap.size w).alloc lR7 _).alloc s7 _).trans (c.mono (by simp;omega));clear c m d x y k;go_wp2_with fail;go_end0;exact ⟨rfl,q.out⟩
end
section
open Go.RowKit
theorem sY0:∀(N:Nat) (s:Nat->Nat),(∀x,x<N->s x<N)->(∀x y,x<N->y<N->s x=s y->x=y)->∀y,y<N->∃x,x<N/\s x=y
 | 0,_,_,_,y,hy=>by omega
 | N+1,s,hs,hi,y,hy=>by
  have d:=sY0 N (fun x=>if s x=N then s N else s x) (fun x b=>by
   show (if s x=N then s N else s x)<N;have g:=hs x o7;have i:=hs N o7;split
   ·rename_i e;rcases Nat.lt_or_ge (s N) N with h | h
    ·exact h
    ·have:=hi x N o7 o7 o7;omega
   ·omega) (fun x z b j e=>by
   have a:(if s x=N then s N else s x)=(if s z=N then s N else s z):=e;split at a <;> split at a
   ·exact hi x z o7 o7 o7
   ·have:=hi N z o7 o7 a;omega
   ·have:=hi x N o7 o7 a;omega
   ·exact hi x z o7 o7 a)
  by_cases c:y=N
  ·subst c
   by_cases f:s y=y
   ·exact ⟨y,o7,f⟩
   ·obtain ⟨x,b,e⟩:=d (s y) (by have:=hs y o7;omega);have a:(if s x=y then s y else s x)=s y:=e;split at a
    ·rename_i e1;exact ⟨x,o7,e1⟩
    ·have:=hi x y o7 o7 a;omega
  ·obtain ⟨x,b,e⟩:=d y o7;have a:(if s x=N then s N else s x)=y:=e;split at a
   ·exact ⟨N,o7,a⟩
   ·exact ⟨x,o7,a⟩
def insK (key:Nat->Int) (a:Nat):List Nat->List Nat
 | []=>[a]
 | x::xs=>if key x<=key a then x::insK key a xs else a::x::xs
def jQ1 (key:Nat->Int):Nat->List Nat
 | 0=>[]
 | n+1=>insK key n (jQ1 key n)
theorem sZ0 (key:Nat->Int) (a:Nat):∀T,(insK key a T).Perm (a::T)
 | []=>List.Perm.refl _
 | x::xs=>by
  unfold insK;split
  ·exact ((sZ0 key a xs).cons x).trans (List.Perm.swap a x xs)
  ·exact List.Perm.refl _
theorem uE1 {y:Nat} {T:List Nat}:y∈insK key a T↔y=a\/y∈T:=by
 rw [(sZ0 key a T).mem_iff];simp
theorem gK1:∀{T:List Nat},T.Pairwise (Rk key)->(∀x∈T,x<a)->(insK key a T).Pairwise (Rk key)
 | [],_,_=>by simp [insK]
 | x::xs,hp,hl=>by
  obtain ⟨c,d⟩:=cV.1 hp;unfold insK;split
  ·rename_i hk;refine cV.2 ⟨fun y b=>?_,gK1 d (fun z e=>hl z (by simp [e]))⟩;rcases uE1.1 b with rfl | b
   ·have:=hl x s7;unfold Rk;omega
   ·exact c y b
  ·rename_i hk;refine cV.2 ⟨fun y b=>?_,hp⟩;rcases aR.1 b with rfl | b
   ·exact aH o7
   ·have:=(c y b).le;exact aH o7
theorem mA0 (key:Nat->Int):∀n,(jQ1 key n).Perm (dF n)
 | 0=>List.Perm.refl _
 | n+1=>by
  rw [gV];exact ((sZ0 key n _).trans ((mA0 key n).cons n)).trans (List.perm_append_singleton n _).symm
theorem aH1 (key:Nat->Int):∀n,(jQ1 key n).Pairwise (Rk key)
 | 0=>List.Pairwise.nil
 | n+1=>gK1 (aH1 key n) (fun x a=>by have:=(mA0 key n).mem_iff.1 a;simpa using this)
theorem jR1 (q:Rea 0 N (fun x=>x) u) (r:Srt key u 0 N):(dF N).map u=jQ1 key N:=by
 obtain ⟨s,B,o,g,p⟩:=q;have c:∀x,u x=s x:=fun x=>p x
 have l:∀x,x<N->u x<N:=fun x d=>by rw [c];exact (o x (aO _) d).2
 have v:((dF N).map u).Nodup:=by
  rw [List.Nodup,List.pairwise_map];refine (gQ (n:=N)).imp (fun {x y} hne e=>hne ?_);rw [c,c] at e;exact g x y e
 have w:((dF N).map u).Perm (dF N):=by
  rw [List.perm_ext_iff_of_nodup v gQ];intro y;rw [List.mem_map,List.mem_range];constructor
  ·rintro ⟨x,d,rfl⟩;exact l x (by simpa using d)
  ·intro t;obtain ⟨x,d,e⟩:=sY0 N u l (fun x z _ _ e=>by rw [c,c] at e;exact g x z e) y t;exact ⟨x,by simpa using d,e⟩
 have A:((dF N).map u).Pairwise (Rk key):=by
  rw [List.pairwise_map];refine List.pairwise_iff_getElem.2 (fun i j hi k f=>?_);simp only [List.length_range] at hi k;simp only [List.getElem_range];exact r i j (aO _) f k
 exact (w.trans (mA0 key N).symm).eq_of_pairwise (fun a b _ _ h m=>by unfold Rk at h m;omega) A (aH1 key N)
theorem gL1 {α:Type} {rank:α->Int} {f:Nat->α}:∀{T:List Nat},(∀x∈T,key x=rank (f x))->key a=rank (f a)->(insK key a T).map f=insL rank (f a) (T.map f)
 | [],_,_=>rfl
 | x::xs,h,ha=>by
  have b:=h x s7;unfold insK insL;simp only [bW];rw [b,ha];split
  ·rw [bW,gL1 (fun z c=>h z (by simp [c])) ha]
  ·rfl
theorem aI1 {α:Type} {rank:α->Int} {f:Nat->α}:∀(n:Nat),(∀x,x<n->key x=rank (f x))->(jQ1 key n).map f=kV0 rank ((dF n).map f)
 | 0,_=>rfl
 | n+1,h=>by
  rw [gV,List.map_append,List.map_singleton,gL0,<-aI1 n (fun x a=>h x o7)];show (insK key n (jQ1 key n)).map f=_;exact gL1 (fun x a=>h x (by have:=(mA0 key n).mem_iff.1 a;simp at this;omega)) (h n o7)
theorem nX0 {a:World} {p:Addr} (h:W.cell? p=some v) (b:Below W.heap.size W a):a.cell? p=some v:=(b.cell (World.block_lt_of_cell? W p h)).trans h
theorem aM2 (id l f c k side:Int) (b:Nat) (w:World) (h:w.cell? ⟨b,0,none⟩=some (U G side)) (n:-1000000000<=c/\c<=1000000000):
  Calls prog 108 #[.agg #[U G id,U G l,U G f,U G c,U G k],E (some ⟨b,0,none⟩)] w fun e w'=>e=Y (U G (oU0 side f c))/\Below w.heap.size w w':=by
 have m:b<w.heap.size:=World.block_lt_of_cell? w _ h
 by_cases hk:f=2
 ·subst hk;go_enter func108,ntmps108;go_wp2_with fail;go_ret;exact ⟨rfl,(aF _ _).alloc lR7 _⟩
 ·have i:=aC.2 hk;have g:=hid7 hk;clear hk
  by_cases a:side=1
  ·subst a;go_enter func108,ntmps108;go_wp2_with fail;go_ret;exact ⟨by unfold oU0;rw [aA g.out,aB rfl];rfl,(aF _ _).alloc lR7 _⟩
  ·have j:=aC.2 a;have d:=hid7 a;clear a;go_enter func108,ntmps108;go_wp2_with fail;go_ret;exact ⟨by unfold oU0;rw [aA g.out,aA d.out];rfl,(aF _ _).alloc lR7 _⟩
theorem uF1 (W:World) (k f sb g N b i j:Nat) (side:Int) (x y:Ord) (hi:i<N) (m:j<N) (o:W.cell? ⟨k,0,none⟩=some (.func (.func 108) #[] #[E (some ⟨sb,0,none⟩)])) (n:W.cell? ⟨f,0,none⟩=some (J (some ⟨g,0,none⟩) N b)) (p:W.cell? ⟨sb,0,none⟩=some (U G side))
  (w:W.cell? ⟨g,i*5,none⟩=some (U G x.id)) (z:W.cell? ⟨g,i*5+1,none⟩=some (U G x.side)) (A:W.cell? ⟨g,i*5+2,none⟩=some (U G x.kind)) (B:W.cell? ⟨g,i*5+3,none⟩=some (U G x.price)) (C:W.cell? ⟨g,i*5+4,none⟩=some (U G x.qty))
  (D:W.cell? ⟨g,j*5,none⟩=some (U G y.id)) (F:W.cell? ⟨g,j*5+1,none⟩=some (U G y.side)) (H:W.cell? ⟨g,j*5+2,none⟩=some (U G y.kind)) (I:W.cell? ⟨g,j*5+3,none⟩=some (U G y.price)) (K:W.cell? ⟨g,j*5+4,none⟩=some (U G y.qty))
  (q:-1000000000<=x.price/\x.price<=1000000000) (r:-1000000000<=y.price/\y.price<=1000000000):
  Calls prog 110 (#[U G i,U G j]++#[E (some ⟨k,0,none⟩),E (some ⟨f,0,none⟩)]) W fun e W'=>e=Y (.bool (decide (oU0 side x.kind x.price<oU0 side y.kind y.price)))/\Below W.heap.size W W':=by
 have s:(0:Int)<=(i:Int):=o7;have t:(i:Int)<N:=o7;have u:(0:Int)<=(j:Int):=o7;have v:(j:Int)<N:=o7;have l:Below W.heap.size W W:=aF _ _;show Calls prog 110 #[U G i,U G j,E (some ⟨k,0,none⟩),E (some ⟨f,0,none⟩)] W _;go_enter func110,ntmps110;go_wp2_with fail
 go_region_held3 (fun w'=>w'.cell? ⟨k,0,none⟩=some (.func (.func 108) #[] #[E (some ⟨sb,0,none⟩)])/\w'.cell? ⟨f,0,none⟩=some (J (some ⟨g,0,none⟩) N b)/\w'.cell? ⟨sb,0,none⟩=some (U G side)/\w'.cell? ⟨g,i*5,none⟩=some (U G x.id)/\w'.cell? ⟨g,i*5+1,none⟩=some (U G x.side)/\w'.cell? ⟨g,i*5+2,none⟩=some (U G x.kind)/\w'.cell? ⟨g,i*5+3,none⟩=some (U G x.price)/\w'.cell? ⟨g,i*5+4,none⟩=some (U G x.qty)/\w'.cell? ⟨g,j*5,none⟩=some (U G y.id)/\w'.cell? ⟨g,j*5+1,none⟩=some (U G y.side)/\w'.cell? ⟨g,j*5+2,none⟩=some (U G y.kind)/\w'.cell? ⟨g,j*5+3,none⟩=some (U G y.price)/\w'.cell? ⟨g,j*5+4,none⟩=some (U G y.qty))
  (first | go_keep | (go_split_ands;refine ⟨?_,?_,?_,?_,?_,?_,?_,?_,?_,?_,?_,?_,?_⟩ <;> (refine nX0 ?_ a;assumption)))
  (first | (go_at_call 108;refine (aM2 _ _ _ _ _ side sb _ (by go_split_ands;assumption) a7).mono ?_;rintro e w5 ⟨rfl,a⟩;first | (have c:Below W.heap.size W w5:=l.drew.trans a) | (have d:Below W.heap.size W w5:=c.trans (a.mono c.size))))
 go_wp2;go_ret;exact ⟨rfl,d⟩
theorem jS1 (e:World) (n m sb g C N l:Nat) (side:Int) (F:List Ord) (o:∀k,-1000000000<=(oAt F k).price/\(oAt F k).price<=1000000000) (u:e.cell? ⟨n,0,none⟩=some (.func (.func 108) #[] #[E (some ⟨sb,0,none⟩)])) (s:e.cell? ⟨m,0,none⟩=some (J (some ⟨g,0,none⟩) N l)) (y:e.cell? ⟨sb,0,none⟩=some (U G side)) (p:n≠g) (q:m≠g) (r:sb≠g):
  pC0 prog 110 #[E (some ⟨n,0,none⟩),E (some ⟨m,0,none⟩)] e g C N (fun x=>(oAt F x).vals) (fun x=>oU0 side (oAt F x).kind (oAt F x).price):=by
 intro W t c i j hi f;have d:∀{b:Nat} {v:Value},b≠g->e.cell? ⟨b,0,none⟩=some v->W.cell? ⟨b,0,none⟩=some v:=fun {b v} hb hv=>(World.cell?_of_block (w:=e) (a:=⟨b,0,none⟩) (c.block b (World.block_lt_of_cell? e _ hv) hb)).trans hv
 exact uF1 W n m sb g N l i j side (oAt F (t i)) (oAt F (t j)) hi f (d p u) (d q s) (d r y)
  (c.row.cell hi (j:=0) d7).1 (c.row.cell hi (j:=1) d7).1 (c.row.cell hi (j:=2) d7).1 (c.row.cell hi (j:=3) d7).1 (c.row.cell hi (j:=4) d7).1
  (c.row.cell f (j:=0) d7).1 (c.row.cell f (j:=1) d7).1 (c.row.cell f (j:=2) d7).1 (c.row.cell f (j:=3) d7).1 (c.row.cell f (j:=4) d7).1
  (o _) (o _)
theorem tA0 (h:k<l.length):bE0 side (l.take (k+1))=bE0 side (l.take k)++(if (oAt l k).side == side then [oAt l k] else []):=by
 unfold bE0;rw [aM h,List.filter_append,<-eJ0 h]
 by_cases e:((oAt l k).side == side)=true
 ·rw [aB e];simp [e]
 ·rw [aA e];simp [e]
theorem jT1 (side:Int) (l:List Ord) (k:Nat):(bE0 side (l.take k)).length<=l.length:=by
 unfold bE0;have a:=cE (fun o:Ord=>o.side == side) (l.take k);have b:=List.length_take_le' k l;omega
theorem aJ1 (a:∀o∈l,-1000000000<=o.price/\o.price<=1000000000) (k:Nat):-1000000000<=(oAt (bE0 side l) k).price/\(oAt (bE0 side l) k).price<=1000000000:=by
 by_cases h:k<(bE0 side l).length
 ·rw [eJ0 h];exact a _ (iG1 (dB h))
 ·have:oAt (bE0 side l) k=Ord.none_:=by simp [oAt,h]
  rw [this];decide
theorem eA1 (h:w.ownsRow base 92 5 (J (some ⟨g,0,none⟩) N a) N (oV F)) (v:F.length=N):RowT w g (a*5) N (fun x=>(oAt F x).vals) (fun x=>x):=by
 rcases h.2 with ⟨c,_⟩ | ⟨u,i,b,c,_,r,f,_,d,t⟩
 ·simp at c
 ·simp only [aY,Option.some.injEq,Addr.mk.injEq,and_true,true_and] at c;obtain ⟨rfl,rfl⟩:=c;refine ⟨b,r,d,Nat.mul_le_mul_right 5 f,fun x y j s=>?_⟩
  have e:b[x*5+j]? = (oV F)[x*5+j]? :=by
   rw [<-t,List.getElem?_take,aB o7];simp
  rw [e];obtain ⟨m,n,o,p,q⟩:=sJ1 (l:=F) (k:=x) o7
  match j,s with
  | 0,_=>exact m
  | 1,_=>exact n
  | 2,_=>exact o
  | 3,_=>exact p
  | 4,_=>exact q
theorem jU1 (l:List Ord) (x j:Nat) (g:x<l.length) (f:j<5):(oV l)[x*5+j]? = (oAt l x).vals[j]? :=by
 obtain ⟨a,b,c,d,e⟩:=sJ1 g
 match j,f with
 | 0,_=>exact a
 | 1,_=>exact b
 | 2,_=>exact c
 | 3,_=>exact d
 | 4,_=>exact e
theorem eB1 (h:RowT w g (a*5) N (fun x=>(oAt F x).vals) u) (m:base<=g) (n:N<=a) (p:a<=maxLen):w.ownsRow base 92 5 (J (some ⟨g,0,none⟩) N a) N (oV ((dF N).map fun x=>oAt F (u x))):=by
 obtain ⟨c,o,f,_,q⟩:=h;have b:((dF N).map fun x=>oAt F (u x)).length=N:=by simp
 refine ⟨by rw [cB0,b],.inr ⟨g,a,c,rfl,m,o,n,p,f,?_⟩⟩;apply List.ext_getElem?;intro k;rw [List.getElem?_take]
 by_cases hk:k<N*5
 ·rw [aB hk];have e:k=k / 5*5+k % 5:=o7;have d:k / 5<N:=o7;have i:=q (k / 5) d (k % 5) o7;have j:=jU1 ((dF N).map fun x=>oAt F (u x)) (k / 5) (k % 5) (by rw [b];exact d) o7;rw [<-e] at i j;rw [j];have l:oAt ((dF N).map fun x=>oAt F (u x)) (k / 5)=oAt F (u (k / 5)):=by simp [oAt,d]
  rw [l,<-i];simp
 ·rw [aA hk]
  symm
  rw [List.getElem?_eq_none_iff,cB0,b];omega
theorem nW1 (a:F.length=N) (d:Rea 0 N (fun x=>x) u) (e:Srt (fun x=>oU0 side (oAt F x).kind (oAt F x).price) u 0 N):((dF N).map fun x=>oAt F (u x))=kV0 (fV0 side) F:=by
 have b:=jR1 d e;have c:((dF N).map fun x=>oAt F (u x))=((dF N).map u).map (oAt F):=by rw [List.map_map];rfl
 rw [c,b,aI1 (rank:=fV0 side) (key:=fun x=>oU0 side (oAt F x).kind (oAt F x).price) (f:=oAt F) N (fun x _=>rfl)]
 congr 1
 apply List.ext_getElem?;intro k
 by_cases hk:k<N
 ·simp [hk,oAt,a]
 ·simp [hk,a]
theorem infoOrd:(prog.info? 92).map (fun i=>(i.zero,i.size,i.bytes))=some (some (.agg #[U G 0,U G 0,U G 0,U G 0,U G 0]),5,40):=k7
theorem jV1 {c:Nat} {f:Nat×Nat} (h:w.ownsRow base e c v n xs) (k:w.heap[b]? = some (R vs t f)) (l:t≠e):v.ownBlock≠some b:=fun d=>by
 rcases h.2 with ⟨rfl,_⟩ | ⟨g,i,j,rfl,_,a,_⟩
 ·cases d
 ·simp [Value.ownBlock] at d;subst d;rw [k] at a;injection a with a;injection a with _ a _;exact l a
theorem yH1 (w:World) (o o':Obj):((w.alloc o).alloc o').heap[w.heap.size+1]? = some o':=by
 have:=heap_alloc_new (w.alloc o) o'
 rwa [show (w.alloc o).heap.size=w.heap.size+1 by simp] at this
theorem gK0 (base:Nat) (sp:Spot) (v:Value) (l:List Ord) (side:Int) (w:World) (h:BookIs w base sp v l) (hl:l.length<=1000) (hp:∀o∈l,-1000000000<=o.price/\o.price<=1000000000):
  Calls prog 62 #[E (some ⟨sp.bb,sp.off,none⟩),U G side] w fun e w'=>∃v',e=Y v'/\w'.ownsRow w.heap.size 92 5 v' (aR0 side l).length (oV (aR0 side l))/\aL0 w w':=by
 obtain ⟨i0,hi,a6,a7,a8⟩:=info_parts infoOrd;have c0:=h.cell;have lb:=lt_of_block h.box;have HA:=hid7 h;have HP:=hid7 hp;obtain ⟨ao,b1,rfl,_,_⟩:=bO0 h.all;have O:Hid (aL0 w ((w.alloc (R #[U G side] 3)).alloc (R #[J none 0 0] 99))):=((aF w.heap.size w).alloc lR7 _).alloc s7 _;have Q:Hid (bJ0 ((w.alloc (R #[U G side] 3)).alloc (R #[J none 0 0] 99)) w.heap.size #[U G side] 3):=(dD _ _ _ s7).trans (heap_alloc_new w _)
 have V:bJ0 ((w.alloc (R #[U G side] 3)).alloc (R #[J none 0 0] 99)) (w.heap.size+1) #[J none 0 0] 99:=by
  have:=heap_alloc_new (w.alloc (R #[U G side] 3)) (R #[J none 0 0] 99)
  rwa [show (w.alloc (R #[U G side] 3)).heap.size=w.heap.size+1 by simp] at this
 have P:=hid7 V;clear V;clear h hp;go_enter func62,ntmps62;go_wp2_with fail;go_loopw [14] (fun vi wr=>∃(k:Nat) (vo:Value),k<=l.length/\vi=U G k/\aL0 w wr/\bJ0 wr w.heap.size #[U G side] 3/\bJ0 wr (w.heap.size+1) #[vo] 99/\wr.ownsRow w.heap.size 92 5 vo (bE0 side (l.take k)).length (oV (bE0 side (l.take k)))) (fun vi _=>l.length - (intOf vi).toNat)
 case atStart=>exact ⟨0,_,aO _,rfl,O,Q,P,aU _ _ _ _⟩
 case round=>
  obtain ⟨k,vo,hk,rfl,hb,hs,ho,c⟩:=hrel;have n:=hid7 hb;have H:Hid _:=hs;have A:Hid _:=ho;have r:=hid7 c;have s0:=cell_of_one hs;have o0:=cell_of_one ho;have lo:=lt_of_block ho;have ls:=lt_of_block hs;have T:=jT1 side l k;obtain ⟨f,b,rfl,_,_⟩:=bO0 c;clear hb hs ho c O Q P
  by_cases m:k<l.length
  ·obtain ⟨g,a9,C,d0,d1,d2,d3,d4⟩:=cT0 (HA.below n lR7).all m;simp only [aY,true_and] at C;obtain ⟨rfl,rfl⟩:=C
   by_cases M:(oAt l k).side=side
   ·have HT:Hid (bE0 side (l.take (k+1))=bE0 side (l.take k)++[oAt l k]):=by
     have:=tA0 (side:=side) m;rw [aB (by simpa using M)] at this;exact this
    have a5:((oAt l k).side == side)=true:=by simpa using M
    clear M;have A1:(Value.slice f (bE0 side (l.take k)).length b).ownBlock≠some (w.heap.size+1):=jV1 r A d7;have A2:(Value.slice f (bE0 side (l.take k)).length b).ownBlock≠some w.heap.size:=jV1 r H d7;go_wp2_with (at_builtin;go_loud (refine wpList_append_lies _ rfl _ _ 99 rfl w.heap.size 92 i0 (.agg #[U G 0,U G 0,U G 0,U G 0,U G 0]) 5 40 underlying99 hi a6 a7 a8 rfl d7 (J f (bE0 side (l.take k)).length b) (bE0 side (l.take k)).length (oV (bE0 side (l.take k))) rfl ((r.out.alloc _).alloc _) ⟨wr.heap.size+1,0,none⟩ 1 1 [U G (oAt l k).id,U G (oAt l k).side,U G (oAt l k).kind,U G (oAt l k).price,U G (oAt l k).qty] rfl rfl (bJ (cs:=#[U G (oAt l k).id,U G (oAt l k).side,U G (oAt l k).kind,U G (oAt l k).price,U G (oAt l k).qty]) (t:=92) (fr:=(0,0)) (yH1 wr _ _)) (by simp [Value.oneCell']) d7 (by unfold maxLen;omega) o7 (aI n.out.size (by simp;omega)) (wr.heap.size+2) s7 ?_);intro g2 cg w1 c d b2 b3;have s:=(d.block (w.heap.size+1) (by simp;omega) (Ne.symm A1)).trans ((dD _ _ _ (by simp;omega)).trans ((dD _ _ _ lo).trans A.out));have z1:=cell_of_one s;have z2:=free_of_one s);go_roundw
    case rel=>
     have a2:=(d.block w.heap.size (by simp;omega) (Ne.symm A2)).trans ((dD _ _ _ (by simp;omega)).trans ((dD _ _ _ ls).trans H));have a1:aL0 w w1:=((n.alloc n.size _).alloc (by simp;omega) _).grown d (by simp;omega) (fun q hq=>(r.lt q hq).1);refine ⟨k+1,_,m,by go_num,a1.setCell s7 _,(cK _ _ _ _ s7).trans a2,one_setCell s,?_⟩;rw [HT.out,aN,bD,cL0];exact ownsRow_setCell_other c (jV1 c s d7) _
    case measure=>simp [intOf];omega
   ·have HT:Hid (bE0 side (l.take (k+1))=bE0 side (l.take k)):=by
     have:=tA0 (side:=side) m;rw [aA (by simpa using M),List.append_nil] at this;exact this
    have a5:=aC.2 M;clear M;go_wp2_with fail;go_roundw
    case rel=>exact ⟨k+1,_,m,by go_num,n.alloc n.size _,(dD _ _ _ (lt_of_block H)).trans H,(dD _ _ _ (lt_of_block A)).trans A,by rw [HT.out];exact r.alloc _⟩
    case measure=>simp [intOf];omega
  ·obtain rfl:k=l.length:=o7;rw [bI] at r o0 A T
   have a4:(store ⟨wr.heap.size,0,none⟩ (.func (.func 108) #[] #[E (some ⟨w.heap.size,0,none⟩)])).run prog (wr.alloc (R #[.nilFunc] 153))=.ok () ((wr.alloc (R #[.nilFunc] 153)).setCell ⟨wr.heap.size,0,none⟩ (.func (.func 108) #[] #[E (some ⟨w.heap.size,0,none⟩)])):=by
    rw [run_store prog _ _ _ _ r7];simp
   go_wp2_with fail;clear a4;obtain ⟨W,hW⟩:∃W,W=wr.alloc (R #[.func (.func 108) #[] #[E (some ⟨w.heap.size,0,none⟩)]] 153):=⟨_,rfl⟩;have I:aL0 wr W:=by rw [hW];exact (aF _ _).alloc lR7 _
   have rW:aC0 W wr.heap.size 0 (.func (.func 108) #[] #[E (some ⟨w.heap.size,0,none⟩)]):=by rw [hW];exact World.cell?_alloc_at _ _ _ _ rfl
   have sW:=nX0 s0 I;have oW:=nX0 o0 I;have z:=cR0 r I lR7;have p:=hid7 (n.trans (I.mono n.size));rw [<-hW];have D:Hid (bJ0 W (w.heap.size+1) #[J f (bE0 side l).length b] 99):=(I.block _ (lt_of_block A)).trans A;have a0:Hid (bJ0 W w.heap.size #[U G side] 3):=(I.block _ (lt_of_block H)).trans H;have K:∀g,(Value.slice f (bE0 side l).length b).ownBlock=some g->g<wr.heap.size/\w.heap.size<=g:=fun g S=>⟨(r.lt g S).2,(r.lt g S).1⟩
   clear hW I s0 o0 n H A
   by_cases h2:2<=(bE0 side l).length
   ·obtain ⟨g,cg,C,a3,b0⟩:=z.form o7;simp only [aY,true_and] at C;obtain ⟨rfl,rfl⟩:=C;have S:=K g rfl;have hL:=jS1 W wr.heap.size (w.heap.size+1) w.heap.size g (b*5) (bE0 side l).length b side (bE0 side l) (aJ1 HP) rW oW sW o7 (fun e=>jV1 z D d7 (by rw [e];rfl)) (fun e=>jV1 z a0 d7 (by rw [e];rfl));refine (sX0 110 _ W g (b*5) (bE0 side l).length b (fun x=>(oAt (bE0 side l) x).vals) _ (fun args w=>by rfl) (fun x=>rfl) (fun x v C=>?_) hL (eA1 z rfl) o7 h2).mono ?_
    ·simp only [Ord.vals,aR,List.mem_nil_iff,or_false] at C;rcases C with rfl | rfl | rfl | rfl | rfl <;> rfl
    rintro e N ⟨rfl,u,B,X,Z⟩;have o5:aC0 N (w.heap.size+1) 0 (J (some ⟨g,0,none⟩) (bE0 side l).length b):=(World.cell?_of_block (w:=W) (a:=⟨w.heap.size+1,0,none⟩) (B.block _ (lt_of_block D) (fun e=>jV1 z D d7 (congrArg some e.symm)))).trans oW;have es:=nW1 (side:=side) (F:=bE0 side l) rfl X Z
    have j:(bE0 side l).length<=b/\b<=maxLen:=by
     obtain ⟨_,_,e,h3,h4⟩:=bO0 z;simp at e;omega
    have i:Hid (N.ownsRow w.heap.size 92 5 (J (some ⟨g,0,none⟩) (bE0 side l).length b) (aR0 side l).length (oV (aR0 side l))/\aL0 w N):=by
     have h5:=eB1 (base:=w.heap.size) (F:=bE0 side l) B.row S.2 j.1 j.2;rw [es] at h5
     have L:(aR0 side l).length=(bE0 side l).length:=by
      show (kV0 (fV0 side) (bE0 side l)).length=_;rw [<-es];simp
     refine ⟨by rw [L];exact h5,?_⟩;exact p.trans ⟨B.os,B.tape,B.output,B.size,fun k hk=>B.block k (by have:=p.size;omega) o7⟩
    clear B X Z es j hL z rW oW sW K S;go_wp2_with fail;go_ret;exact ⟨_,rfl,i⟩
   ·refine (qM0 110 _ W f (bE0 side l).length b o7).mono ?_;rintro e N ⟨rfl,y⟩;have o5:=nX0 oW y
    have i:Hid (N.ownsRow w.heap.size 92 5 (J f (bE0 side l).length b) (aR0 side l).length (oV (aR0 side l))/\aL0 w N):=by
     have e:aR0 side l=bE0 side l:=iH1 _ o7;rw [e];exact ⟨cR0 z y lR7,p.trans (y.mono p.size)⟩
    clear y z rW oW sW K;go_wp2_with fail;go_ret;exact ⟨_,rfl,i⟩
theorem bkIn (x a b:Int) (w:World):Calls prog 60 #[U G x,U G a,U G b] w fun e w'=>e=Y (.bool (decide (a<=x)&& decide (x<=b)))/\w'=w:=by
 by_cases h:a<=x
 ·go_enter func60,ntmps60;go_wp2;go_ret;exact ⟨by rw [aE h,eV];rfl,rfl⟩
 ·go_enter func60,ntmps60;go_wp2;go_ret;exact ⟨by rw [aD o7,eZ];rfl,rfl⟩
theorem eC1 (p q:Int) (w:World):Calls prog 91 #[U G p,U G q] w fun e w'=>e=Y (.bool (fA0 p q))/\w'=w:=by
 go_enter func91,ntmps91;go_wp2_with fail;refine (bkIn p 1 1000000 _).mono ?_;rintro e w1 ⟨rfl,b⟩;subst b;cases hp:(decide (1<=p)&& decide (p<=1000000)) with
 | false=>
  have a:=hid7 hp;clear hp;go_wp2_with fail;go_ret;exact ⟨by unfold fA0;rw [a.out,eZ];rfl,rfl⟩
 | true=>
  have a:=hid7 hp;clear hp;go_wp2_with fail;refine (bkIn q 1 1000000 _).mono ?_;rintro e f ⟨rfl,b⟩;subst b;generalize c:(decide (1<=q)&& decide (q<=1000000))=bq;have d:=hid7 c;clear c;go_wp2_with fail;go_ret;exact ⟨by unfold fA0;rw [a.out,d.out,eV];rfl,rfl⟩
theorem eK0 (h:W.heap[b]? = some (R #[] 92 (0,0))) (a:base<=b):W.ownsRow base 92 5 (J (some ⟨b,0,none⟩) 0 0) 0 []:=⟨rfl,aG ⟨b,0,#[],rfl,a,h,lR7,aO _,rfl,rfl⟩⟩
theorem eD1 (h:w.ownsRow base 92 5 (J (some ⟨g,0,none⟩) n a) n xs) (c:Below w.heap.size w W):∀j u,xs[j]? = some u->W.cell? ((⟨g,0,none⟩:Addr).add j)=some u:=fun j u d=>by
 have b:=h.cells rfl j u d;rw [Addr.add_lit] at b ⊢;exact (c.cell (World.block_lt_of_cell? w _ b)).trans b
theorem aK1 (w:World) (o:Obj):Below w.heap.size w (w.alloc o):=(aF _ _).alloc lR7 o
theorem yI1 (w:World) (o a:Obj):((w.alloc o).alloc a).heap[w.heap.size]? = some o:=(dD (w.alloc o) a w.heap.size s7).trans (heap_alloc_new w o)
theorem nX1 (w:World) (o o':Obj):((w.alloc o).alloc o').heap[w.heap.size+1]? = some o':=by
 have:=heap_alloc_new (w.alloc o) o'
 rwa [show (w.alloc o).heap.size=w.heap.size+1 by simp] at this
end
section
open Go.Shelf
def lays191_ren:Go.Shelf.Ren:=⟨fun | 191=>215 | 189=>259 | 125=>284 | 257=>283 | 128=>304 | 129=>207 | 294=>295 | 295=>296 | 296=>297 | 297=>298 | 298=>299 | 299=>300 | 216=>301 | 300=>302 | 301=>303 | 328=>306 | 329=>307 | 330=>308 | 331=>309 | 332=>310 | 215=>311 | 343=>313 | n=>n,fun | 28=>59 | 0=>0 | 3=>3 | 46=>188 | 51=>203 | 53=>185 | 4=>4 | 183=>367 | 182=>366 | 131=>58 | 5=>5 | 9=>9 | 218=>372 | 222=>376 | 228=>379 | 229=>123 | n=>n,fun | n=>n⟩
theorem nY1:Go.Proofs.Lays.n191 prog lays191_ren:=g7
open Go.Sort Go.RowKit in
theorem sort_Ints (a b c:Nat) (f:List Int) (w:World) (i:Holds (Value.int .i64) w a b f.toArray) (d:a<w.heap.size) (g:f.length<4611686018427387904):
  Calls prog 215 #[.slice (some ⟨a,b,none⟩) f.length c] w fun e w'=>
   e=.returned (.tuple #[])/\∃n os,w'=grow (putRow (Value.int .i64) (Sort.ahead w n) a b (f.mergeSort fun x y=>decide (x<=y)).toArray) os:=Any.sort_Ints nY1 a b c f w i d g
open Go.RowKit Go.Sort in
theorem sort_Ints_none (p:Option Addr) (a:Nat) (w:World):
  Calls prog 215 #[.slice p 0 a] w fun e w'=>e=.returned (.tuple #[])/\w'=w:=Any.sort_Ints_none nY1 p a w
end
section
open Go.RowKit
theorem infoPt:(prog.info? 274).map (fun i=>(i.zero,i.size,i.bytes))=some (some (.agg #[U G 0,U G 0,U G 0]),3,24):=k7
theorem cuIn (n lo hi:Int) (w:World):
  Calls prog 60 #[U G n,U G lo,U G hi] w fun e w'=>e=Y (.bool (inC lo hi n))/\w'=w:=by
 go_enter func60,ntmps60;go_wp2
 all_goals
  go_ret;refine ⟨?_,rfl⟩;have e:∀{a b:Bool},a=b->Ending.returned (.bool a)=Y (.bool b):=fun h=>by rw [h]
  exact e (by unfold inC;first | (simp [*];done) | (simp [*];omega))
theorem cuOk (o:Ord) (w:World):
  Calls prog 214 #[.agg #[U G o.id,U G o.side,U G o.kind,U G o.price,U G o.qty]] w fun e w'=>e=Y (.bool (okO o))/\Below w.heap.size w w':=by
 go_enter func214,ntmps214;go_wp2_with fail;refine (cuIn _ _ _ _).mono ?_;rintro e w1 ⟨rfl,b⟩;subst b;cases h:inC 1 2 o.side with
 | false=>
  have a:Hid (okO o=false):=by unfold okO;rw [h];rfl
  clear h;go_wp2_with fail;go_ret;exact ⟨by rw [a.out];rfl,bK0 w _⟩
 | true=>
  have a:Hid (okO o=inC 1 1000000 o.qty):=by unfold okO;rw [h];rfl
  clear h;go_wp2_with fail;refine (cuIn _ _ _ _).mono ?_;rintro e w1 ⟨rfl,b⟩;subst b;go_wp2_with fail;go_ret;exact ⟨by rw [a.out];rfl,bK0 w _⟩
theorem eP2 {xs:List Int} (h:w.ownsRow base 3 1 v xs.length (ints xs)) (p:xs.length<=100000):
  Calls prog 215 #[v] w fun e w'=>e=Y (.tuple #[])/\w'.ownsRow base 3 1 v xs.length (ints (gM0 xs))/\w.grownBy w' v.ownBlock:=by
 rcases h.2 with ⟨rfl,o⟩ | ⟨g,a,b,rfl,l,c,f,i,j,k⟩
 ·have d:xs=[]:=by
   cases xs with
   | nil=>rfl
   | cons x xs=>cases o
  subst d;refine (sort_Ints_none none 0 w).mono fun e w' ⟨he,hw⟩=>⟨he,?_,?_⟩
  ·rw [hw,show ints (gM0 [])=[] by simp [gM0,ints]];exact aU _ _ _ _
  ·rw [hw];exact ⟨rfl,rfl,rfl,lR7,fun _ _ _=>rfl⟩
 ·have m:b.toList.take xs.length=xs.map (Value.int .i64):=by simpa [ints] using k
  refine (sort_Ints g 0 a xs w (holds_of_blockI c m) (lt_of_block c) o7).mono fun e w' ⟨he,n,os,hw⟩=>⟨he,?_,?_⟩
  ·rw [hw];exact ownsRow_sortedI (ts:=gM0 xs) (hJ0 xs) l c f i j
  ·rw [hw];exact grownBy_sortedI _
end
end Go.Proofs.YtaelphbianmckaaGreatDoor
