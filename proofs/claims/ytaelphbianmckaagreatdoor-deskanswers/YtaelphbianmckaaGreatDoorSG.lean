/- DeskAnswers -/
import Derived.Test.YtaelphbianmckaaGreatDoorSE
import Derived.Test.YtaelphbianmckaaGreatDoorSF
open Go.Value renaming int->U, pointer->E, slice->J
open Go.IntKind renaming i64->G
open Go.Obj renaming cells->R
open Go.Ending renaming returned->Y
open Go.Proofs.Tryz
open Go.RowKit.Below renaming refl->aF, alloc->aS, setCell->eO
open Bool renaming and_comm->gL, false_or->eD, eq_false_iff->dN
open Int renaming le_refl->bP
open List renaming length_cons->aZ, mem_map->bH, pairwise_cons->cV, mem_cons->aR, filter_cons_of_pos->bZ, filter_cons_of_neg->cC, filter_eq_self->eK, filter_append->cN, filter_sublist->fG, filter_filter->cZ, filter_congr->eG, map_cons->bW, map_append->bK, takeWhile_cons->eJ, nodup_cons->cP, nodup_append->dO, map_id->hQ, map_congr_left->cJ, length_map->bU, map_drop->gM, mem_filter->bM, map_map->dS, mem_cons_of_mem->aQ, mem_cons_self->aK, mem_map_of_mem->dM, length_append->aN, length_singleton->bD
open Nat renaming lt_of_lt_of_le->aT, le_trans->aI, le_succ->cH, le_add_right->bV
open Or renaming inr->aG, inl->aH
open Go.Proofs.YtaelphbianmckaaGreatDoor.Out renaming refl->bL, of_below->aL
open Go.Proofs.YtaelphbianmckaaGreatDoor.Went renaming refl->aJ
open Go.World renaming ownsRow->iA, ownsRow_nil->aU
set_option maxHeartbeats 8000000
set_option maxRecDepth 100000
namespace Go.Proofs.YtaelphbianmckaaGreatDoor
variable {id n p s side:Int} {L l:List Ord} {k:Nat} {o x:Ord} {w:World}
section
open Go.RowKit Go.Shelf
attribute [local go_sem] Oper.semAt_some
def eE1 (l:List Ord):Value:=match l with
 | []=>.tuple #[Ord.none_.agg,.iface 26 (U G 8)]
 | o::_=>.tuple #[o.agg,.nilIface]
theorem jW1 {o:Obj} (h:w.heap[k]? = some o):k<w.heap.size:=(Array.getElem?_eq_some_iff.1 h).1
theorem gM1 {W:World} {D:Nat} {e:Value} {c:Array Value} (s:hU0 W w.heap.size x) (t:W.heap[w.heap.size+1]? = some (R #[e] 43 (0,0))) (f:W.heap[D]? = some (.deferred (some []))) (d:Below w.heap.size w W) (A:w.heap.size+2<=D)
  (y:c.getD 4 undef=E (some ⟨w.heap.size,0,none⟩):=by rfl) (z:c.getD 5 undef=E (some ⟨w.heap.size+1,0,none⟩):=by rfl):
  bodyPostM Fence.wide 4 prog f279 (fun r k=>r=Y (.tuple #[x.agg,e])/\Below w.heap.size w k) Exit.ret { tmps:=c,defers:=[{ target:=Target.collected D,args:=#[] }] } W:=by
 have u:=belowK_b (n₀:=w.heap.size) (w:=w) lR7 W D _ (.deferred none) o7 f rfl rfl;have a:=belowK_b (n₀:=w.heap.size+2) (w:=(w.alloc (.deferred none)).alloc (.deferred none)) s7 W D _ (.deferred none) (by simp;omega) f rfl rfl;have b:hU0 (W.putObj D (.deferred none)) w.heap.size x:=(a.block w.heap.size o7).trans s;have v:(W.putObj D (.deferred none)).heap[w.heap.size+1]? = some (R #[e] 43 (0,0)):=(a.block (w.heap.size+1) o7).trans t;have g:c[4]?.getD undef=E (some ⟨w.heap.size,0,none⟩):=by simpa using y
 have i:c[5]?.getD undef=E (some ⟨w.heap.size+1,0,none⟩):=by simpa using z
 have l:=aA0 (j:=0) b rfl;have m:=aA0 (j:=1) b rfl;have n:=aA0 (j:=2) b rfl;have o:=aA0 (j:=3) b rfl;have p:=aA0 (j:=4) b rfl;have q:=aA0 (j:=0) v rfl;refine ⟨by simp,.inl ⟨_,_,rfl,run_takeDeferred f,?_⟩⟩;refine ⟨.tuple #[x.agg,e],?_,rfl,d.trans u⟩;unfold Ord.agg;simp [results,results279,go_sem,g,i,l,m,n,o,p,q];try rfl
theorem uG1 (g ab mb nn s:Nat) (vs vf v0 v1:Value) (rs:List Sot) (fr:List Nat) (S:Nat->List Ly) (q:s<2) (O:(S s).length<=1000)
  (a2:∀x∈S s,soAt rs x.slot=(some x.o,x.age)) (w:World) (hB:BookAt w g ab mb nn vs vf v0 v1 rs fr S) (side:Int) (G:side=(s:Int)+1):
  Calls prog 279 #[.pointer (some ⟨g,0,none⟩),.int .i64 side] w fun e W'=>e=.returned (eE1 ((S s).map Ly.o))/\Below w.heap.size w W':=by
 have Q:(side == 1 || side == 2)=true:=by
  subst G
  match s,q with
  | 0,_=>rfl
  | 1,_=>rfl
 have HS:=hid7 Q;have a4:IntKind.i64.wrap (side - 1)=(s:Int):=by rw [G,show (s:Int)+1 - 1=s by omega];exact IntWalk.i64_in _ o7
 clear Q G;refine (callsIn_wide (n:=4)).1 ?_;refine callsIn_of_wp_marks func279 rfl trivial ?_ rfl;simp only [ntmps279,List.size_toArray,aZ,List.length_nil,Nat.reduceAdd,Nat.reduceSub,Array.replicate_succ,Array.replicate_zero,List.push_toArray,List.append_toArray,List.nil_append,List.cons_append]
 gi_wp2_with fail
 refine ⟨trivial,(callsIn_wide.2 (lW0 side _)).mono ?_⟩;rintro e w' ⟨rfl,hw⟩;replace hw:=hw.symm;subst hw;rw [HS.out]
 gi_wp2_with fail
 refine ⟨trivial,(callsIn_wide.2 (sM0 g _ _)).mono ?_⟩;rintro e w' ⟨rfl,rfl⟩
 gi_wp2_with fail
 have v:=bel2 w (.cells #[.int .i64 0,.int .i64 0,.int .i64 0,.int .i64 0,.int .i64 0] 92) (.cells #[.nilIface] 43);have U:=gA0 w (.cells #[.int .i64 0,.int .i64 0,.int .i64 0,.int .i64 0,.int .i64 0] 92) (.cells #[.nilIface] 43);have T:=eY0 w (.cells #[.int .i64 0,.int .i64 0,.int .i64 0,.int .i64 0,.int .i64 0] 92) (.cells #[.nilIface] 43);obtain ⟨w2,H⟩:∃w2,(w.alloc (.cells #[.int .i64 0,.int .i64 0,.int .i64 0,.int .i64 0,.int .i64 0] 92)).alloc (.cells #[.nilIface] 43)=w2:=⟨_,rfl⟩;have a3:w2.heap.size=w.heap.size+1+1:=by rw [<-H];simp
 rw [H] at v U T ⊢;clear H;have i:=bel2 w2 (.cells #[.pointer (some ⟨g,0,none⟩)] 161) (.cells #[.int .i64 s] 3);have bB:=gA0 w2 (.cells #[.pointer (some ⟨g,0,none⟩)] 161) (.cells #[.int .i64 s] 3);have bS:=eY0 w2 (.cells #[.pointer (some ⟨g,0,none⟩)] 161) (.cells #[.int .i64 s] 3);obtain ⟨W0,z⟩:∃W0,(w2.alloc (.cells #[.pointer (some ⟨g,0,none⟩)] 161)).alloc (.cells #[.int .i64 s] 3)=W0:=⟨_,rfl⟩;have a6:W0.heap.size=w.heap.size+4:=by rw [<-z];simp;omega
 rw [z] at i bB bS ⊢;clear z;have U:=aE0 U i lR7;have T:=aE0 T i lR7;have N:=aD0 v i;rw [a3] at bB bS;have HK:∀k,pbB g ab mb vs vf v0 v1 k->k<w.heap.size:=fun k hk=>hB.lt hk
 clear v i
 refine wpIn_rangeFunc_ownH (F:=Fence.wide) (n:=4) rfl d7 (gf:=254) (lb:=#[.pointer (some ⟨w.heap.size+1+1,0,none⟩),.pointer (some ⟨w.heap.size+1+1+1,0,none⟩)]) rfl trivial (enters_of func254 k7 rfl)
  (zO1 3 d7 (w.heap.size+1+1) (w.heap.size+1+1+1) w.heap.size g ab mb nn s vs vf v0 v1 rs fr S q O a2 HK W0 o7 (hB.below N lR7) bB bS) zM1 (zN1 o7) (aF _ _) (fun _=>rfl)
  (fun f W=>(f=[]/\hU0 W w.heap.size Ord.none_/\W.heap[w.heap.size+1]? = some (.cells #[.nilIface] 43 (0,0)))/\Below w.heap.size w W)
  (fun c f W=>(c=.ret/\∃x,f=[x]/\hU0 W w.heap.size x/\W.heap[w.heap.size+1]? = some (.cells #[.nilIface] 43 (0,0)))/\Below w.heap.size w W)
  (OwnFrom.and (Own.from (fun s A B R q E m=>⟨q.1,gY0 q.2.1 E m,gY0 q.2.2 E m⟩) _) (ownFrom_below lR7 o7))
  (fun c=>OwnFrom.and (Own.from (fun s A B R q E m=>by obtain ⟨g0,x,g1,t,M⟩:=q;exact ⟨g0,x,g1,gY0 t E m,gY0 M E m⟩) _) (ownFrom_below lR7 o7))
  ⟨⟨rfl,U,T⟩,N⟩
  (fun x Z W=>∃L,hU0 W L x/\Z={ tmps:=#[.pointer (some ⟨g,0,none⟩),.int .i64 side,undef,undef,.pointer (some ⟨w.heap.size,0,none⟩),.pointer (some ⟨w.heap.size+1,0,none⟩),.pointer (some ⟨L,0,none⟩),.int .i64 side,.bool true,.bool false,undef,undef,.pointer (some ⟨g,0,none⟩),.int .i64 side,.int .i64 s,.func (.func 254) #[] #[.pointer (some ⟨w.heap.size+1+1,0,none⟩),.pointer (some ⟨w.heap.size+1+1+1,0,none⟩)],Ord.agg x,undef,undef,undef],defers:=[] })
  (fun x Z _ X Y R q E m=>by obtain ⟨L,a,d⟩:=q;exact ⟨L,gY0 a E (fun r e=>(m r e).2),d⟩)
  ?assign ?body ?done ?stop
 case assign=>
  rintro l f x W K ⟨⟨h1,a,d⟩,b⟩ y;have lS:=b.size;unfold Ord.agg at y ⊢
  gi_wp2
  refine y _ _ ((KeepsOthers.alloc _ _).from _) (KpL.of_below (bel1 _ _) lS) ⟨⟨h1,aE0 a (bel1 _ _) lR7,aE0 d (bel1 _ _) lR7⟩,b.alloc b.size _⟩ ⟨W.heap.size,heap_alloc_new _ _,rfl⟩
 case body=>
  rintro l f x Z W hl ⟨r,m⟩ ⟨⟨rfl,a,d⟩,b⟩ ⟨L,I,rfl⟩ a5;have c0:=aA0 (j:=0) I rfl;have c1:=aA0 (j:=1) I rfl;have c2:=aA0 (j:=2) I rfl;have c3:=aA0 (j:=3) I rfl;have c4:=aA0 (j:=4) I rfl;have d0:=aB0 (j:=0) a;have d1:=aB0 (j:=1) a;have d2:=aB0 (j:=2) a;have d3:=aB0 (j:=3) a;have d4:=aB0 (j:=4) a;have e0:=aB0 (j:=0) d;have E0:=aA0 (j:=0) d rfl;have D0:=aA0 (j:=0) a rfl;have D1:=aA0 (j:=1) a rfl;have D2:=aA0 (j:=2) a rfl;have D3:=aA0 (j:=3) a rfl;have D4:=aA0 (j:=4) a rfl;have H2:Hid _:=a;have H3:Hid _:=d;have V:=hid7 b;clear a d b I m;unfold Ord.agg
  gi_wp2_with fail
  have J:Out (fun j=>j=w.heap.size) W _:=cU0 (p:=⟨w.heap.size,4,none⟩) (u:=.int .i64 x.qty) (cU0 (p:=⟨w.heap.size,3,none⟩) (u:=.int .i64 x.price) (cU0 (p:=⟨w.heap.size,2,none⟩) (u:=.int .i64 x.kind) (cU0 (p:=⟨w.heap.size,1,none⟩) (u:=.int .i64 x.side) (cU0 (p:=⟨w.heap.size,0,none⟩) (u:=.int .i64 x.id) (bL _ _) rfl) rfl) rfl) rfl) rfl;have t:=aJ0 (j:=4) (.int .i64 x.qty) (aJ0 (j:=3) (.int .i64 x.price) (aJ0 (j:=2) (.int .i64 x.kind) (aJ0 (j:=1) (.int .i64 x.side) (aJ0 (j:=0) (.int .i64 x.id) H2.out))));have M:=aJ0 (j:=0) .nilIface (aF0 H3.out J s7);refine ⟨((((((KeepsOthers.setCell _ _ _).trans (KeepsOthers.setCell _ _ _)).trans (KeepsOthers.setCell _ _ _)).trans (KeepsOthers.setCell _ _ _)).trans (KeepsOthers.setCell _ _ _)).trans (KeepsOthers.setCell _ _ _)).from _,⟨rfl,x,rfl,aF0 t (aM0 _ ⟨w.heap.size+1,0,none⟩ _) s7,M⟩,?_⟩;exact V.out.trans (((((((aF _ W).setCell (p:=⟨w.heap.size,0,none⟩) s7 _).setCell (p:=⟨w.heap.size,1,none⟩) s7 _).setCell (p:=⟨w.heap.size,2,none⟩) s7 _).setCell (p:=⟨w.heap.size,3,none⟩) s7 _).setCell (p:=⟨w.heap.size,4,none⟩) s7 _).setCell (p:=⟨w.heap.size+1,0,none⟩) s7 _)
 case done=>
  rintro D ys W hD rfl ⟨⟨h1,a,d⟩,b⟩ y;have d0:=aB0 (j:=0) a;have d1:=aB0 (j:=1) a;have d2:=aB0 (j:=2) a;have d3:=aB0 (j:=3) a;have d4:=aB0 (j:=4) a;have e0:=aB0 (j:=0) d;have E0:=aA0 (j:=0) d rfl;have D0:=aA0 (j:=0) a rfl;have D1:=aA0 (j:=1) a rfl;have D2:=aA0 (j:=2) a rfl;have D3:=aA0 (j:=3) a rfl;have D4:=aA0 (j:=4) a rfl
  gi_wp2
  have J:Out (fun j=>j=w.heap.size) W _:=cU0 (p:=⟨w.heap.size,4,none⟩) (u:=.int .i64 0) (cU0 (p:=⟨w.heap.size,3,none⟩) (u:=.int .i64 0) (cU0 (p:=⟨w.heap.size,2,none⟩) (u:=.int .i64 0) (cU0 (p:=⟨w.heap.size,1,none⟩) (u:=.int .i64 0) (cU0 (p:=⟨w.heap.size,0,none⟩) (u:=.int .i64 0) (bL _ _) rfl) rfl) rfl) rfl) rfl;have t:=aJ0 (j:=4) (.int .i64 0) (aJ0 (j:=3) (.int .i64 0) (aJ0 (j:=2) (.int .i64 0) (aJ0 (j:=1) (.int .i64 0) (aJ0 (j:=0) (.int .i64 0) a))));have t:=aF0 t (aM0 _ ⟨w.heap.size+1,0,none⟩ (.iface 26 (.int .i64 8))) s7;have M:=aJ0 (j:=0) (.iface 26 (.int .i64 8)) (aF0 d J s7);have a1:=b.trans (((((((aF _ W).setCell (p:=⟨w.heap.size,0,none⟩) s7 (.int .i64 0)).setCell (p:=⟨w.heap.size,1,none⟩) s7 (.int .i64 0)).setCell (p:=⟨w.heap.size,2,none⟩) s7 (.int .i64 0)).setCell (p:=⟨w.heap.size,3,none⟩) s7 (.int .i64 0)).setCell (p:=⟨w.heap.size,4,none⟩) s7 (.int .i64 0)).setCell (p:=⟨w.heap.size+1,0,none⟩) s7 (.iface 26 (.int .i64 8)));have lD:=jW1 y;have a0:=((aM0 _ ⟨w.heap.size+1,0,none⟩ (.iface 26 (.int .i64 8))).block D (aT lD J.size) (by show ¬(D=w.heap.size+1);omega)).trans ((J.block D lD (by show ¬(D=w.heap.size);omega)).trans y);clear J;have C:eE1 ((S s).map Ly.o)=.tuple #[Ord.none_.agg,.iface 26 (.int .i64 8)]:=by rw [h1];rfl
  rw [C];exact gM1 t M a0 a1 o7
 case stop=>
  rintro D c f W hD P ⟨⟨rfl,x,rfl,a,d⟩,b⟩ y
  have C:eE1 ((S s).map Ly.o)=.tuple #[x.agg,.nilIface]:=by
   obtain ⟨r,m⟩:=P;rw [<-m];rfl
  gi_wp2
  rw [C];exact gM1 a d y b o7
theorem yJ1 (a m s:Nat) (b:BkS) (w:World) (h:Bk w a m b) (c:s<2) (side:Int) (d:side=(s:Int)+1):
  Calls prog 279 #[E (some ⟨a,0,none⟩),U G side] w fun e W'=>e=Y (eE1 ((b.S s).map Ly.o))/\Below w.heap.size w W':=
 uG1 a b.ab b.mb b.n s b.vs b.vf b.v0 b.v1 b.rs b.fr b.S c (by have h1:=(sI0 b.S [] c).2;have f:=h.ok.most;omega) (h.ok.there s c) w h.at_ side d
theorem qY0 (a m s:Nat) (b:BkS) (w:World) (h:Bk w a m b) (c:s<2) (side:Int) (d:side=(s:Int)+1):
  Calls prog 133 #[E (some ⟨a,0,none⟩),U G side] w
   fun e W'=>∃v,e=Y (.tuple #[v,.nilIface])/\W'.ownsRow w.heap.size 92 5 v (b.S s).length (oV ((b.S s).map Ly.o))/\Below w.heap.size w W':=
 eB2 a b.ab b.mb b.n s b.vs b.vf b.v0 b.v1 b.rs b.fr b.S c (by have h1:=(sI0 b.S [] c).2;have f:=h.ok.most;omega) (h.ok.there s c) w h.at_ side d
end
section
open Go.RowKit
def tB0 (w W:World) (bb:Nat) (b b':BkS):Prop:=Out (b.foot bb) w W/\Went w (b.foot bb) (b'.foot bb)
theorem tB0.refl (w:World) (a:Nat) (b:BkS):tB0 w w a b b:=⟨bL _ _,aJ _ _⟩
theorem tB0.goes {w W c:World} {a m:Nat} {b d b2:BkS} (h:tB0 w W a b d) (f:Goes W c a m d b2):tB0 w c a b b2:=
 ⟨h.1.trans f.2.1 h.2,fun k hk=>(f.2.2 k hk).elim (h.2 k) (fun e=>aG (aI h.1.size e))⟩
theorem tB0.below {w W c:World} {a:Nat} {b b1:BkS} (h:tB0 w W a b b1) (d:Below W.heap.size W c):tB0 w c a b b1:=
 ⟨h.1.trans (aL (S:=b1.foot a) d lR7) h.2,h.2⟩
def BkS.cut (b:BkS) (s:Nat) (x:Ly) (o':Ord):BkS:={ b with rs:=b.rs.set x.slot (some o',x.age),S:=upS b.S s (cutL x o' (b.S s)) }
theorem Goes.cut {w w':World} {q m s:Nat} {b:BkS} {x:Ly} {a:Ord} (h:Bk w q m b) (B:m+1<=900000) (C:s<2) (n:x∈b.S s) (h1:a.id=x.o.id) (u:a.side=x.o.side) (v:1<=a.price/\a.price<=1000000/\1<=a.qty/\a.qty<=1000000)
  (A:ArOr w' b.ab 100 b.vs b.vf (b.rs.set x.slot (some a,x.age)) b.fr) (r:Out (aoB b.ab b.vs b.vf) w w'):Goes w w' q (m+1) b (b.cut s x a):=by
 have d:=BookAt.newAr h.at_ r A
 have j:∀t,t<2->∀y,y∈upS b.S s (cutL x a (b.S s)) t->∃z∈b.S t,z.o.id=y.o.id/\z.slot=y.slot/\z.age=y.age:=fun t f y p=>by
  rcases vB0 p with ⟨rfl,l⟩ | ⟨_,l⟩
  ·obtain ⟨z,g,rfl⟩:=bH.1 l;refine ⟨z,g,?_⟩;split
   ·rename_i e;obtain rfl:=h.ok.one_slot f f g n e;exact ⟨h1.symm,rfl,rfl⟩
   ·exact ⟨rfl,rfl,rfl⟩
  ·exact ⟨y,l,rfl,rfl,rfl⟩
 have i:∀t,t<2->∀z,z∈b.S t->∃y∈upS b.S s (cutL x a (b.S s)) t,y.o.id=z.o.id:=fun t f z g=>by
  by_cases e:t=s
  ·subst e;rw [jI0];refine ⟨_,bH.2 ⟨z,g,rfl⟩,?_⟩;split
   ·rename_i e;obtain rfl:=h.ok.one_slot f f g n e;exact h1
   ·rfl
  ·exact ⟨z,by rw [hQ0 _ e];exact g,rfl⟩
 have c:∀t,hV (upS b.S s (cutL x a (b.S s)) t)=hV (b.S t)/\(upS b.S s (cutL x a (b.S s)) t).length=(b.S t).length:=fun t=>by
  by_cases e:t=s
  ·subst e;rw [jI0];exact ⟨zI1 _ _ _,sK0 _ _ _⟩
  ·rw [hQ0 _ e];exact ⟨rfl,rfl⟩
 refine ⟨⟨⟨d.box,d.ar,d.map.like (fun t f y p=>j t f y p) (fun t f z g=>i t f z g),?_,?_,d.apart⟩,h.ok.cut C n h1 u v,aI h.small (cH _),B⟩,r.mono (fun k hk=>aG (aH hk)),aJ _ _⟩
 ·show iA _ _ _ _ _ (upS b.S s (cutL x a (b.S s)) 0).length (hV (upS b.S s (cutL x a (b.S s)) 0));rw [(c 0).1,(c 0).2];exact d.row0
 ·show iA _ _ _ _ _ (upS b.S s (cutL x a (b.S s)) 1).length (hV (upS b.S s (cutL x a (b.S s)) 1));rw [(c 1).1,(c 1).2];exact d.row1
theorem eQ2 (f m:Nat) (b:BkS) (id q:Int) (w:World) (h:Bk w f m b) (i:(Lit.int .i64 id).wf=true) (c:∀s,s<2->∀x∈b.S s,x.o.id≠id):
  Calls prog 271 #[E (some ⟨f,0,none⟩),U G id,U G q] w fun e W'=>e=Y (.iface 26 (U G 7))/\Below w.heap.size w W':=by
 have H:=hid7 h;have g:=hid7 c;clear h c;go_enter func271,ntmps271;go_wp2_with fail;refine (nM1 f m b id _ H.out i g.out).mono ?_;rintro e w1 ⟨rfl,a⟩;unfold Ord.agg Ord.none_;have d:=hid7 a;clear a;go_wp2_with fail;go_ret;exact ⟨rfl,aD0 d.out (bel2 _ _ _)⟩
theorem nZ1 (f m s:Nat) (b:BkS) (x:Ly) (q:Int) (w:World) (h:Bk w f m b) (k:s<2) (g:x∈b.S s) (l:q<1\/x.o.qty<q):
  Calls prog 271 #[E (some ⟨f,0,none⟩),U G x.o.id,U G q] w fun e W'=>e=Y (.iface 26 (U G 2))/\Below w.heap.size w W':=by
 have H:=hid7 h;have i:=hid7 g;clear h g;go_enter func271,ntmps271;go_wp2_with fail;refine (qX0 f m s b x _ H.out k i.out).mono ?_;rintro e w1 ⟨rfl,c⟩;unfold Ord.agg plV;have a:=hid7 c;clear c;have n:((w1.alloc (R #[U G x.o.id,U G x.o.side,U G x.o.kind,U G x.o.price,U G x.o.qty] 92)).alloc (R #[U G x.slot,U G x.age,U G s] 242)).cell? ⟨w1.heap.size,4,none⟩=some (U G x.o.qty):=aA0 (j:=4) (gA0 w1 _ _) rfl
 by_cases d:q<1
 ·have k1:=aE d;go_wp2_with fail;go_ret;exact ⟨rfl,aD0 a.out (bel2 _ _ _)⟩
 ·have k1:=aD d;have k2:decide (q>x.o.qty)=true:=aE o7;go_wp2_with fail;go_ret;exact ⟨rfl,aD0 a.out (bel2 _ _ _)⟩
theorem aN2 (c m s:Nat) (b:BkS) (x:Ly) (w:World) (h:Bk w c m b) (v:m+1<=900000) (r:s<2) (t:x∈b.S s) (z:¬x.o.qty<1):
  Calls prog 271 #[E (some ⟨c,0,none⟩),U G x.o.id,U G x.o.qty] w fun e u=>e=Y .nilIface/\∃b':BkS,(∃i,i<(b.S s).length/\lyAt (b.S s) i=x/\b'.S=upS b.S s (fJ0 i (b.S s)))/\Goes w u c (m+1) b b':=by
 have H:=hid7 h;have p:=hid7 t;clear h t;go_enter func271,ntmps271;go_wp2_with fail;refine (qX0 c m s b x _ H.out r p.out).mono ?_;rintro e w1 ⟨rfl,f⟩;unfold Ord.agg plV;have l:=hid7 f;clear f;have y:((w1.alloc (R #[U G x.o.id,U G x.o.side,U G x.o.kind,U G x.o.price,U G x.o.qty] 92)).alloc (R #[U G x.slot,U G x.age,U G s] 242)).cell? ⟨w1.heap.size,4,none⟩=some (U G x.o.qty):=aA0 (j:=4) (gA0 w1 _ _) rfl;have k1:decide (x.o.qty<1)=false:=aD o7;go_wp2_with fail;have a:Hid (Below w.heap.size w _):=aD0 l.out (bel2 w1 (R #[U G x.o.id,U G x.o.side,U G x.o.kind,U G x.o.price,U G x.o.qty] 92) (R #[U G x.slot,U G x.age,U G s] 242));clear y k1;generalize (w1.alloc (R #[U G x.o.id,U G x.o.side,U G x.o.kind,U G x.o.price,U G x.o.qty] 92)).alloc (R #[U G x.slot,U G x.age,U G s] 242)=w2 at a ⊢;refine (pF0 c m s b x w2 (H.out.below a.out lR7) v r p.out).mono ?_;rintro e A ⟨rfl,b',d,q⟩;have n:=hid7 q;have g:Hid (∃i,i<(b.S s).length/\lyAt (b.S s) i=x/\b'.S=upS b.S s (fJ0 i (b.S s))):=d;clear q d;unfold Ord.agg;go_wp2_with fail;go_ret;refine ⟨rfl,b',g.out,n.out.1,(aL a.out lR7).trans n.out.2.1 (aJ _ _),fun k hk=>(n.out.2.2 k hk).elim aH (fun e=>aG (aI a.out.size e))⟩
def jX1 (q:Int) (o:Ord):Ord:=⟨o.id,o.side,o.kind,o.price,o.qty - q⟩
theorem uH1 (i m s:Nat) (b:BkS) (x:Ly) (q:Int) (w:World) (h:Bk w i m b) (N:m+1<=900000) (y:s<2) (z:x∈b.S s) (V:¬q<1) (O:q<x.o.qty):
  Calls prog 271 #[E (some ⟨i,0,none⟩),U G x.o.id,U G q] w fun e J=>e=Y .nilIface/\Goes w J i (m+1) b (b.cut s x (jX1 q x.o)):=by
 have H:=hid7 h;have D:=hid7 z;have I:=hid7 (h.ok.there s y x z);have C:=h.ok.ok s y x z;clear h z;go_enter func271,ntmps271;go_wp2_with fail;refine (qX0 i m s b x _ H.out y D.out).mono ?_;rintro e w1 ⟨rfl,v⟩;unfold Ord.agg plV;have l:=hid7 v;clear v;go_upto_region 4 with fail;have g:=bel2 w1 (R #[U G x.o.id,U G x.o.side,U G x.o.kind,U G x.o.price,U G x.o.qty] 92) (R #[U G x.slot,U G x.age,U G s] 242);have a:=gA0 w1 (R #[U G x.o.id,U G x.o.side,U G x.o.kind,U G x.o.price,U G x.o.qty] 92) (R #[U G x.slot,U G x.age,U G s] 242);have c:=eY0 w1 (R #[U G x.o.id,U G x.o.side,U G x.o.kind,U G x.o.price,U G x.o.qty] 92) (R #[U G x.slot,U G x.age,U G s] 242);generalize (w1.alloc (R #[U G x.o.id,U G x.o.side,U G x.o.kind,U G x.o.price,U G x.o.qty] 92)).alloc (R #[U G x.slot,U G x.age,U G s] 242)=w2 at g a c ⊢;have n:=hid7 (aD0 l.out g);have P:w.heap.size<=w1.heap.size:=l.out.size;have k1:decide (q<1)=false:=aD o7;have k2:decide (q>x.o.qty)=false:=aD o7;have k3:(q == x.o.qty)=false:=aC.2 o7;have K:=aA0 (j:=4) a rfl;have L:=aB0 (j:=4) a;have t:Hid _:=a;have u:Hid _:=c;clear g a c;go_wp2_with fail;have a:=aJ0 (j:=4) (U G (x.o.qty - q)) t.out;have c:=aF0 u.out (aM0 w2 ⟨w1.heap.size,4,none⟩ (U G (x.o.qty - q))) s7;have d:=n.out.setCell (p:=⟨w1.heap.size,4,none⟩) P (U G (x.o.qty - q));generalize w2.setCell ⟨w1.heap.size,4,none⟩ (U G (x.o.qty - q))=w3 at a c d ⊢;have r:=hid7 d;have f:Hid (Bk w3 i m b):=H.out.below d lR7;have Z:=aA0 (j:=0) a rfl;have x1:=aA0 (j:=1) a rfl;have x2:=aA0 (j:=2) a rfl;have x3:=aA0 (j:=3) a rfl;have x4:=aA0 (j:=4) a rfl;have W:=aA0 (j:=0) c rfl;have X:=aA0 (j:=1) c rfl;have T:=aA0 (j:=0) f.out.at_.box rfl;clear a c d t u n K L k1 k2 k3;go_region_with (go_at_call 288;refine (hE2 b.ab 100 b.vs b.vf b.rs b.fr x.slot x.o (jX1 q x.o) x.age _ (f.out.at_.ar.below (B:=w3.heap.size) ?_ lR7) I.out).mono ?_;(repeat' first | assumption | exact aF _ _ | exact lR7 | refine Below.drew ?_ | refine aS ?_ ?_ _ | (simp;done) | (simp;omega));rintro e Q ⟨rfl,M,F⟩)
 all_goals go_wp2_with fail
 all_goals go_ret
 all_goals (
  have A:Goes w3 Q i (m+1) b (b.cut s x (jX1 q x.o)):=Goes.cut f.out N y D.out rfl rfl (by have:=C;simp only [jX1];omega) M (by first | exact F | exact (aW0 (bL _ _)).trans F (aJ _ _));exact ⟨rfl,A.1,(aL r.out lR7).trans A.2.1 (aJ _ _),fun k hk=>(A.2.2 k hk).elim aH (fun e=>aG (aI r.out.size e))⟩)
theorem xJ0 {α:Type} {P:List α->Prop} (h0:P []) (h1:∀l a,P l->P (l++[a])) (l:List α):P l:=by
 rw [<-List.reverse_reverse l];generalize l.reverse=r
 induction r with
 | nil=>exact h0
 | cons a r ih=>rw [List.reverse_cons];exact h1 _ _ ih
section
variable {α:Type} {rank:α->Int}
theorem uI1 {o y:α} {l:List α}:y∈insL rank o l↔y=o\/y∈l:=by rw [(rN0 rank o l).mem_iff];simp
theorem gN1 {o:α}:∀{l:List α},l.Pairwise (fun a b=>rank a<=rank b)->(insL rank o l).Pairwise (fun a b=>rank a<=rank b)
 | [],_=>by simp [insL]
 | x::xs,hp=>by
  obtain ⟨h1,d⟩:=cV.1 hp;unfold insL;split
  ·rename_i hk;refine cV.2 ⟨fun y c=>?_,gN1 d⟩;rcases uI1.1 c with rfl | c
   ·exact hk
   ·exact h1 y c
  ·rename_i hk;refine cV.2 ⟨fun y c=>?_,hp⟩;rcases aR.1 c with rfl | c
   ·omega
   ·have:=h1 y c;omega
theorem jX0 (l:List α):(kV0 rank l).Pairwise (fun a b=>rank a<=rank b):=by
 induction l using xJ0 with
 | h0=>exact List.Pairwise.nil
 | h1 l a ih=>rw [gL0];exact gN1 ih
theorem eF1 {o:α}:∀{l:List α},l.Pairwise (fun a b=>rank a<=rank b)->insL rank o l=l.filter (fun y=>decide (rank y<=rank o))++o::l.filter (fun y=>!decide (rank y<=rank o))
 | [],_=>rfl
 | x::xs,hp=>by
  obtain ⟨h1,f⟩:=cV.1 hp;unfold insL;split
  ·rename_i hk;rw [bZ (by simpa using hk),cC (by simpa using hk),eF1 f];rfl
  ·rename_i hk
   have d:(x::xs).filter (fun y=>decide (rank y<=rank o))=[]:=by
    rw [List.filter_eq_nil_iff];intro y c;rcases aR.1 c with rfl | c
    ·simpa using hk
    ·have:=h1 y c;simp;omega
   have e:(x::xs).filter (fun y=>!decide (rank y<=rank o))=x::xs:=by
    rw [eK];intro y c;rcases aR.1 c with rfl | c
    ·simpa using hk
    ·have:=h1 y c;simp;omega
   rw [d,e];rfl
theorem aL1 (p:α->Bool) (l:List α):kV0 rank (l.filter p)=(kV0 rank l).filter p:=by
 induction l using xJ0 with
 | h0=>rfl
 | h1 l a ih=>
  rw [cN,gL0,eF1 (jX0 l),cN]
  by_cases f:p a=true
  ·have g:[a].filter p=[a]:=by rw [bZ f,List.filter_nil]
   rw [g,bZ f,gL0,ih,eF1 ((jX0 l).sublist fG),cZ,cZ,cZ,cZ]
   congr 1
   ·congr 1;funext y;exact gL _ _
   ·congr 2;funext y;exact gL _ _
  ·have g:[a].filter p=[]:=by rw [cC f,List.filter_nil]
   rw [g,cC f,List.append_nil,ih,cZ,cZ];have j:=jX0 (rank:=rank) l;clear ih;generalize kV0 rank l=r at j
   induction r with
   | nil=>rfl
   | cons x xs ih2=>
    obtain ⟨h1,n⟩:=cV.1 j;have e:=ih2 n
    by_cases d:rank x<=rank a
    ·by_cases b:p x=true
     ·rw [bZ b,bZ (by simp [d,b]),cC (by simp [d]),e];rfl
     ·rw [cC b,cC (by simp [b]),cC (by simp [d]),e]
    ·have k:(x::xs).filter (fun y=>p y&& decide (rank y<=rank a))=[]:=by
      rw [List.filter_eq_nil_iff];intro y c;rcases aR.1 c with rfl | c
      ·simp [d]
      ·have:=h1 y c;have i:¬rank y<=rank a:=o7;simp [i]
     have m:(x::xs).filter (fun y=>p y&& !decide (rank y<=rank a))=(x::xs).filter p:=by
      apply eG;intro y c
      have i:¬rank y<=rank a:=by
       rcases aR.1 c with rfl | c
       ·exact d
       ·have:=h1 y c;omega
      simp [i]
     rw [k,m];rfl
theorem aM1 {f:α->α} (b:∀a,rank (f a)=rank a) (o:α):∀l:List α,insL rank (f o) (l.map f)=(insL rank o l).map f
 | []=>rfl
 | x::xs=>by
  simp only [bW,insL];rw [b,b];split
  ·rw [bW,aM1 b o xs]
  ·rfl
theorem oA1 {f:α->α} (b:∀a,rank (f a)=rank a) (l:List α):kV0 rank (l.map f)=(kV0 rank l).map f:=by
 induction l using xJ0 with
 | h0=>rfl
 | h1 l a ih=>rw [bK,List.map_singleton,gL0,gL0,ih,aM1 b]
theorem aN1 {o:α}:∀l:List α,insL rank o l=l.take (l.takeWhile fun y=>decide (rank y<=rank o)).length++o::l.drop (l.takeWhile fun y=>decide (rank y<=rank o)).length
 | []=>rfl
 | x::xs=>by
  unfold insL;split
  ·rename_i hk;rw [eJ,aB (by simpa using hk),aZ,List.take_succ_cons,List.drop_succ_cons,aN1 xs];rfl
  ·rename_i hk;rw [eJ,aA (by simpa using hk)];rfl
end
theorem qF0 (side:Int) (p:Ord->Bool) (l:List Ord):aR0 side (l.filter p)=(aR0 side l).filter p:=by
 unfold aR0 bE0;rw [<-aL1,cZ,cZ]
 congr 2
 funext y
 exact gL _ _
theorem aO1 (side:Int) {f:Ord->Ord} (h1:∀o,(f o).side=o.side) (b:∀o,(f o).kind=o.kind) (c:∀o,(f o).price=o.price) (l:List Ord):aR0 side (l.map f)=(aR0 side l).map f:=by
 unfold aR0;rw [<-oA1 (fun a=>by unfold fV0;rw [b,c])]
 congr 1
 unfold bE0;rw [List.filter_map]
 congr 1
 apply eG;intro o _;simp [h1]
theorem tC0 {p:Ord} (h:p.side=side):aR0 side (l++[p])=insL (fV0 side) p (aR0 side l):=by
 unfold aR0;rw [<-gL0]
 congr 1
 unfold bE0;rw [cN,bZ (by simpa using h)];rfl
theorem qN0 {p:Ord} (h:p.side≠side):aR0 side (l++[p])=aR0 side l:=by
 unfold aR0
 congr 1
 unfold bE0;rw [cN,cC (by simpa using h)];simp
theorem eG1 {p y:Ord} (b:side=1\/side=2) (c:p.side=side) (h1:1<=p.price/\p.price<=1000000) (d:1<=y.price/\y.price<=1000000):(!eD0 p y)=decide (fV0 side y<=fV0 side p):=by
 unfold eD0 fV0 oU0
 by_cases k1:y.kind=2
 ·rw [aB k1,aB k1]
  by_cases k2:p.kind=2
  ·rw [aB k2];rfl
  ·rw [aA k2];rcases b with rfl | rfl
   ·rw [aB rfl];simp;omega
   ·rw [aA d7];simp;omega
 ·rw [aA k1,aA k1]
  by_cases k2:p.kind=2
  ·rw [aB k2,aB k2];rcases b with rfl | rfl
   ·rw [aB rfl];simp;omega
   ·rw [aA d7];simp;omega
  ·rw [aA k2,aA k2,c];rcases b with rfl | rfl
   ·rw [aB rfl,aB rfl,aB rfl];by_cases a:y.price<p.price <;> simp [a] <;> omega
   ·rw [aA d7,aA d7,aA d7];by_cases a:p.price<y.price <;> simp [a] <;> omega
theorem uJ1 {p:Ord} (c:side=1\/side=2) (b:p.side=side) (h1:1<=p.price/\p.price<=1000000) (a:∀y∈l,1<=y.price/\y.price<=1000000):hV0 p l=(l.takeWhile fun y=>decide (fV0 side y<=fV0 side p)).length:=by
 unfold hV0
 congr 1
 induction l with
 | nil=>rfl
 | cons y l ih=>rw [eJ,eJ,eG1 c b h1 (a y s7),ih (fun z d=>a z (by simp [d]))]
theorem qG0:∀{l:List Ord},(l.map Ord.id).Nodup->∀{a b:Ord},a∈l->b∈l->a.id=b.id->a=b
 | [],_,_,_,h,_,_=>by cases h
 | x::l,hn,a,b,ha,hb,e=>by
  rw [bW,cP] at hn;rcases aR.1 ha with f | h1
  ·rcases aR.1 hb with c | d
   ·rw [f,c]
   ·exact (hn.1 (bH.2 ⟨b,d,by rw [<-e,f]⟩)).elim
  ·rcases aR.1 hb with c | d
   ·exact (hn.1 (bH.2 ⟨a,h1,by rw [e,c]⟩)).elim
   ·exact qG0 hn.2 h1 d e
theorem qH0 (h:k<l.length):oAt l k∈l:=by rw [eJ0 h];exact List.getElem_mem h
theorem aP1 (id:Int):∀(l:List Ord) (i:Nat),(∀o∈l,o.id≠id)->idxF id i l=-1
 | [],_,_=>rfl
 | o::l,i,h=>by
  show (if o.id=id then (i:Int) else idxF id (i+1) l)=-1;rw [aA (h o s7),aP1 id l (i+1) (fun y a=>h y (by simp [a]))]
theorem lD0 (id:Int):∀(l:List Ord) (i:Nat),(∃o∈l,o.id=id)->0<=idxF id i l
 | [],_,h=>by obtain ⟨_,h,_⟩:=h;cases h
 | o::l,i,h=>by
  show 0<=(if o.id=id then (i:Int) else idxF id (i+1) l);split
  ·omega
  ·rename_i hne;obtain ⟨y,a,e⟩:=h;rcases aR.1 a with rfl | a
   ·exact absurd e hne
   ·exact lD0 id l (i+1) ⟨y,a,e⟩
theorem xK0 (h:k<l.length):l=l.take k++oAt l k::l.drop (k+1):=by rw [eJ0 h,<-List.drop_eq_getElem_cons h,List.take_append_drop]
theorem others (c:(l.map Ord.id).Nodup) (hk:k<l.length):(∀o∈l.take k,o.id≠(oAt l k).id)/\(∀o∈l.drop (k+1),o.id≠(oAt l k).id):=by
 rw [xK0 hk,bK,bW,dO] at c;obtain ⟨_,b,d⟩:=c;rw [cP] at b;refine ⟨fun o a e=>?_,fun o a e=>?_⟩
 ·exact d o.id (bH.2 ⟨o,a,rfl⟩) (oAt l k).id s7 e
 ·exact b.1 (bH.2 ⟨o,a,e⟩)
theorem jL0 (d:(l.map Ord.id).Nodup) (hk:k<l.length):dT0 k l=l.filter (fun o=>decide (o.id≠(oAt l k).id)):=by
 obtain ⟨h1,c⟩:=others d hk;have a:=xK0 hk;generalize oAt l k=x at h1 c a ⊢
 conv=>rhs;rw [a]
 rw [cN,cC s7,eK.2 (fun o b=>by simpa using h1 o b),eK.2 (fun o b=>by simpa using c o b)];rfl
def cutF (id q:Int) (o:Ord):Ord:=if o.id=id then cutO q o else o
theorem tD0 (id q:Int) (o:Ord):(cutF id q o).id=o.id:=by unfold cutF;split <;> rfl
theorem jA0 (id q:Int) (o:Ord):(cutF id q o).side=o.side:=by unfold cutF;split <;> rfl
theorem tE0 (id q:Int) (o:Ord):(cutF id q o).kind=o.kind:=by unfold cutF;split <;> rfl
theorem mB0 (id q:Int) (o:Ord):(cutF id q o).price=o.price:=by unfold cutF;split <;> rfl
theorem oB1 (q:Int) (g:(l.map Ord.id).Nodup) (hk:k<l.length):l.set k (cutO q (oAt l k))=l.map (cutF (oAt l k).id q):=by
 obtain ⟨h1,c⟩:=others g hk;have a:=xK0 hk;rw [List.set_eq_take_append_cons_drop,aB hk];generalize oAt l k=x at h1 c a ⊢
 have d:(l.take k).map (cutF x.id q)=l.take k:=by
  conv=>rhs;rw [<-hQ (l.take k)]
  apply cJ;intro o b;unfold cutF;rw [aA (h1 o b)];rfl
 have e:(l.drop (k+1)).map (cutF x.id q)=l.drop (k+1):=by
  conv=>rhs;rw [<-hQ (l.drop (k+1))]
  apply cJ;intro o b;unfold cutF;rw [aA (c o b)];rfl
 have f:cutF x.id q x=cutO q x:=aB rfl
 conv=>rhs;rw [a]
 rw [bK,bW,d,e,f]
structure Lnk (S:Nat->List Ly) (L:List Ord):Prop where
 side:∀s,s<2->(S s).map Ly.o=aR0 ((s:Int)+1) L
 all:∀o∈L,o.side=1\/o.side=2
 ids:(L.map Ord.id).Nodup
theorem Lnk.start:Lnk (fun _=>[]) []:=⟨fun _ _=>rfl,fun _ h=>(by cases h),List.nodup_nil⟩
section
variable {S:Nat->List Ly} {L:List Ord} {m:Nat} {rs:List Sot} {fr:List Nat}
theorem Lnk.mem (h:Lnk S L) {o:Ord}:o∈L↔∃s,s<2/\∃x∈S s,x.o=o:=by
 constructor
 ·intro c
  have key:∀s:Nat,s<2->o.side=(s:Int)+1->∃s,s<2/\∃x∈S s,x.o=o:=fun s a e=>by
   have h1:o∈aR0 ((s:Int)+1) L:=bD0.2 ⟨c,e⟩;rw [<-h.side s a] at h1;obtain ⟨x,b,rfl⟩:=bH.1 h1;exact ⟨s,a,x,b,rfl⟩
  rcases h.all o c with e | e
  ·exact key 0 d7 (by rw [e];rfl)
  ·exact key 1 d7 (by rw [e];rfl)
 ·rintro ⟨s,a,x,b,rfl⟩;have h1:x.o∈(S s).map Ly.o:=bH.2 ⟨x,b,rfl⟩;rw [h.side s a] at h1;exact (bD0.1 h1).1
theorem Lnk.none (h:Lnk S L) {id:Int} (a:∀s,s<2->∀x∈S s,x.o.id≠id):∀o∈L,o.id≠id:=fun o b=>by
 obtain ⟨s,c,x,d,rfl⟩:=h.mem.1 b;exact a s c x d
theorem Lnk.idx_no (h:Lnk S L) {id:Int} (a:∀s,s<2->∀x∈S s,x.o.id≠id):idxO id L=-1:=aP1 id L 0 (h.none a)
theorem Lnk.idx_yes (h:Lnk S L) {s:Nat} (a:s<2) {x:Ly} (b:x∈S s):0<=idxO x.o.id L:=lD0 _ L 0 ⟨x.o,h.mem.2 ⟨s,a,x,b,rfl⟩,rfl⟩
theorem Lnk.at (h:Lnk S L) {s k:Nat} (a:s<2) {x:Ly} (b:x∈S s) (hk:k<L.length) (e:(oAt L k).id=x.o.id):oAt L k=x.o:=qG0 h.ids (qH0 hk) (h.mem.2 ⟨s,a,x,b,rfl⟩) e
theorem Lnk.len (h:Lnk S L):L.length=(S 0).length+(S 1).length:=by
 have c:∀s,s<2->(S s).length=(bE0 ((s:Int)+1) L).length:=fun s d=>by
  have:=congrArg List.length (h.side s d);rw [bU] at this;rw [this];exact (fP0 _ _).length_eq
 have a:∀l:List Ord,(∀o∈l,o.side=1\/o.side=2)->l.length=(bE0 1 l).length+(bE0 2 l).length:=fun l=>by
  induction l with
  | nil=>intro _;rfl
  | cons o l ih=>
   intro b;have:=ih (fun y f=>b y (by simp [f]));unfold bE0 at *;rcases b o s7 with e | e
   ·rw [bZ (by simp [e]),cC (by simp [e])];simp;omega
   ·rw [cC (by simp [e]),bZ (by simp [e])];simp;omega
 rw [c 0 d7,c 1 d7];exact a L h.all
theorem Lnk.ok (h:Lnk S L) (b:Pb m rs fr S):∀o∈L,1<=o.price/\o.price<=1000000/\1<=o.qty/\o.qty<=1000000:=fun o a=>by
 obtain ⟨s,c,x,d,rfl⟩:=h.mem.1 a;have:=b.ok s c x d;omega
theorem Lnk.add (h:Lnk S L) {s k:Nat} {a:Int} {p:Ord} (q:s<2) (d:p.side=(s:Int)+1) (h1:1<=p.price/\p.price<=1000000) (g:∀o∈L,1<=o.price/\o.price<=1000000) (f:∀o∈L,o.id≠p.id):
  Lnk (upS S s (eS0 (hV0 p ((S s).map Ly.o)) ⟨k,a,p⟩ (S s))) (L++[p]):=by
 have c:(s:Int)+1=1\/(s:Int)+1=2:=o7;refine ⟨fun t m=>?_,fun o b=>?_,?_⟩
 ·by_cases e:t=s
  ·subst e;rw [jI0,tC0 d,aN1];unfold eS0;rw [bK,bW,List.map_take,gM,h.side t m,uJ1 c d h1 (fun y n=>g y (bD0.1 n).1)]
  ·rw [hQ0 _ e,qN0 (by rw [d];omega)];exact h.side t m
 ·rcases List.mem_append.1 b with b | b
  ·exact h.all o b
  ·simp at b;subst b;rw [d];exact c
 ·rw [bK,dO];refine ⟨h.ids,by simp,fun i hi j l=>?_⟩;obtain ⟨o,b,rfl⟩:=bH.1 hi;simp at l;subst l;exact f o b
theorem Lnk.gone (h:Lnk S L) (j:Pb m rs fr S) {s i k:Nat} {x:Ly} (p:s<2) (hi:i<(S s).length) (q:lyAt (S s) i=x) (hk:k<L.length) (f:(oAt L k).id=x.o.id):Lnk (upS S s (fJ0 i (S s))) (dT0 k L):=by
 have b:x∈S s:=by rw [<-q];exact fT1 hi
 rw [jL0 h.ids hk,f];refine ⟨fun t c=>?_,fun o g=>h.all o (bM.1 g).1,?_⟩
 ·rw [qF0,<-h.side t c]
  by_cases e:t=s
  ·subst e
   have z:(((S t).map Ly.o).map Ord.id).Nodup:=by
    rw [dS];have w:=(sH0 S c).map (fun x=>x.o.id);have l:=w.nodup_iff.1 j.ids;rw [bK] at l;exact (dO.1 l).1
   have a:i<((S t).map Ly.o).length:=by rw [bU];exact hi
   have d:oAt ((S t).map Ly.o) i=x.o:=by rw [<-q,lA0 hi,eJ0 a,List.getElem_map]
   have n:=jL0 z a;rw [d] at n;rw [jI0,<-n];unfold fJ0 dT0;rw [bK,List.map_take,gM]
  ·rw [hQ0 _ e]
   symm
   rw [eK];intro o g;obtain ⟨y,r,rfl⟩:=bH.1 g;simp only [decide_eq_true_eq];intro u;have v:=j.one_id c p r b u;subst v;exact e (j.one_side c p r b)
 ·exact h.ids.sublist (fG.map _)
theorem Lnk.cut (h:Lnk S L) (d:Pb m rs fr S) {s k:Nat} {q:Int} {x:Ly} (j:s<2) (f:x∈S s) (hk:k<L.length) (i:(oAt L k).id=x.o.id):Lnk (upS S s (cutL x (jX1 q x.o) (S s))) (L.set k (cutO q (oAt L k))):=by
 rw [oB1 q h.ids hk,i]
 have c:∀t,t<2->(upS S s (cutL x (jX1 q x.o) (S s)) t).map Ly.o=((S t).map Ly.o).map (cutF x.o.id q):=fun t a=>by
  by_cases e:t=s
  ·subst e;rw [jI0];unfold cutL;rw [dS,dS];apply cJ;intro y b;simp only [Function.comp];split
   ·rename_i e1;obtain rfl:=d.one_slot a a b f e1;unfold cutF;rw [aB rfl];rfl
   ·rename_i e1;unfold cutF;rw [aA (fun g=>e1 (by rw [d.one_id a a b f g]))]
  ·rw [hQ0 _ e,dS];apply cJ;intro y b;simp only [Function.comp];unfold cutF
   rw [aA (fun g=>by
    have l:=d.one_id a j b f g;subst l;exact e (d.one_side a j b f))]
 refine ⟨fun t a=>?_,fun o n=>?_,?_⟩
 ·rw [c t a,aO1 _ (jA0 _ _) (tE0 _ _) (mB0 _ _),h.side t a]
 ·obtain ⟨y,b,rfl⟩:=bH.1 n;rw [jA0];exact h.all y b
 ·rw [dS];have:(Ord.id∘ cutF x.o.id q)=Ord.id:=by funext o;exact tD0 _ _ _
  rw [this];exact h.ids
end
theorem uK1 (o:Ord):lieP o=lieO o:=rfl
theorem nY0 (s:Int):nT0 s=(decide (1<=s)&& decide (s<=2)):=by
 unfold nT0
 by_cases h:s=1
 ·subst h;rfl
 by_cases a:s=2
 ·subst a;rfl
 have h1:=aC.2 h;have b:=aC.2 a;rw [h1,b]
 by_cases c:1<=s
 ·have:¬s<=2:=o7;simp [this]
 ·simp [c]
def canO (id:Int) (L:List Ord):Ord:=if idxO id L=-1 then Ord.none_ else oAt L (idxO id L).toNat
def canN (id:Int) (L:List Ord):Int:=if idxO id L=-1 then 7 else 0
def canL (id:Int) (L:List Ord):List Ord:=if idxO id L=-1 then L else dT0 (idxO id L).toNat L
def cutN (id q:Int) (L:List Ord):Int:=if idxO id L=-1 then 7 else if (decide (1<=q)&& decide (q<=(oAt L (idxO id L).toNat).qty))=false then 2 else 0
def cutM (id q:Int) (L:List Ord):List Ord:=if idxO id L=-1 then L else if (decide (1<=q)&& decide (q<=(oAt L (idxO id L).toNat).qty))=false then L else if (oAt L (idxO id L).toNat).qty=q then dT0 (idxO id L).toNat L else L.set (idxO id L).toNat (cutO q (oAt L (idxO id L).toNat))
structure Fil where
 buyer:Int
 seller:Int
 price:Int
 qty:Int
def fV:List Fil->List Value
 | []=>[]
 | x::l=>U G x.buyer::U G x.seller::U G x.price::U G x.qty::fV l
def Fil.none_:Fil:=⟨0,0,0,0⟩
def fAt (l:List Fil) (k:Nat):Fil:=l.getD k Fil.none_
theorem oC1 (a b:List Fil):fV (a++b)=fV a++fV b:=by
 induction a with
 | nil=>rfl
 | cons o a ih=>simp [fV,ih]
theorem xL0 (a:List Fil) (x:Fil):fV (a++[x])=fV a++[U G x.buyer,U G x.seller,U G x.price,U G x.qty]:=by rw [oC1];rfl
theorem hQ2 {l:List Fil} (h:k<l.length):(fV l)[k*4]? = some (U G (fAt l k).buyer)/\(fV l)[k*4+1]? = some (U G (fAt l k).seller)/\(fV l)[k*4+2]? = some (U G (fAt l k).price)/\(fV l)[k*4+3]? = some (U G (fAt l k).qty):=by
 induction l generalizing k with
 | nil=>simp at h
 | cons o l ih=>
  cases k with
  | zero=>exact ⟨rfl,rfl,rfl,rfl⟩
  | succ k=>
   have:=ih (k:=k) (by simpa using h);rw [show (k+1)*4=k*4+1+1+1+1 by omega];have e:fAt (o::l) (k+1)=fAt l k:=by simp [fAt]
   rw [e]
   simpa [fV] using this
structure LOk (L:List Ord):Prop where
 side:∀o∈L,o.side=1\/o.side=2
 ids:(L.map Ord.id).Nodup
 ok:∀o∈L,1<=o.price/\o.price<=1000000/\1<=o.qty/\o.qty<=1000000
def bR0 (id n:Int) (L:List Ord):List Ord:=(L.map (cutF id n)).filter fun o=>decide (0<o.qty)
theorem kO0 (h:o.id≠id):cutF id n o=o:=aA h
theorem xM0 (n:Int) (o:Ord):cutF o.id n o=cutO n o:=aB rfl
theorem aQ1 (id n:Int):∀L:List Ord,(∀o∈L,o.id=id->o.qty=n)->(∀o∈L,1<=o.qty)->bR0 id n L=L.filter (fun o=>decide (o.id≠id))
 | [],_,_=>rfl
 | o::L,h1,h2=>by
  have b:=aQ1 id n L (fun x a=>h1 x (aQ _ a)) (fun x a=>h2 x (aQ _ a));unfold bR0 at b ⊢;have f:=h2 o (aK ..)
  by_cases e:o.id=id
  ·have d:=h1 o (aK ..) e;have c:(cutF id n o).qty=0:=by unfold cutF;rw [aB e];show o.qty - n=0;omega
   rw [bW,cC (by rw [c];decide),b,cC (by simp [e])]
  ·rw [bW,kO0 e,bZ (by simpa using (show 0<o.qty by omega)),b,bZ (by simpa using e)]
theorem vL0 (id n:Int):∀L:List Ord,(∀o∈L,o.id=id->n<o.qty)->(∀o∈L,1<=o.qty)->bR0 id n L=L.map (cutF id n)
 | [],_,_=>rfl
 | o::L,h1,h2=>by
  have b:=vL0 id n L (fun x a=>h1 x (aQ _ a)) (fun x a=>h2 x (aQ _ a));unfold bR0 at b ⊢;have f:=h2 o (aK ..)
  have c:0<(cutF id n o).qty:=by
   by_cases e:o.id=id
   ·have d:=h1 o (aK ..) e;unfold cutF;rw [aB e];show 0<o.qty - n;omega
   ·rw [kO0 e];omega
  rw [bW,bZ (by simpa using c),b]
theorem oD1 (h:LOk L) (a:o∈L):∃k:Nat,k<L.length/\idxO o.id L=k/\oAt L k=o:=by
 rcases mW0 o.id L 0 with h1 | ⟨k,hk,h1,b⟩
 ·have:=lD0 o.id L 0 ⟨o,a,rfl⟩;omega
 ·exact ⟨k,hk,by show idxF o.id 0 L=k;rw [h1];congr 1;omega,qG0 h.ids (qH0 hk) a b⟩
theorem aR1 (h:LOk L) (l:o∈L) (j:1<=n/\n<=o.qty):cutM o.id n L=bR0 o.id n L/\cutN o.id n L=0:=by
 obtain ⟨k,hk,h1,f⟩:=oD1 h l;have c:¬idxO o.id L=-1:=o7;have g:(idxO o.id L).toNat=k:=o7;have i:¬(decide (1<=n)&& decide (n<=o.qty))=false:=by simp [j.1,j.2]
 have b:∀x∈L,x.id=o.id->x=o:=fun x a e=>qG0 h.ids a l e
 unfold cutM cutN;rw [aA c,aA c,g,f,aA i,aA i];refine ⟨?_,rfl⟩
 by_cases e:o.qty=n
 ·rw [aB e,jL0 h.ids hk,f,aQ1 o.id n L (fun x a d=>by rw [b x a d];exact e) (fun x a=>(h.ok x a).2.2.1)]
 ·rw [aA e];have:=oB1 n h.ids hk;rw [f] at this;rw [this,vL0 o.id n L (fun x a d=>by rw [b x a d];omega) (fun x a=>(h.ok x a).2.2.1)]
theorem nZ0 (h:x∈bR0 id n L):∃y∈L,x=cutF id n y/\0<x.qty:=by
 unfold bR0 at h;rw [bM,bH] at h;obtain ⟨⟨y,b,rfl⟩,a⟩:=h;exact ⟨y,b,rfl,by simpa using a⟩
theorem aO2 (a:0<=n):(cutF id n o).qty<=o.qty:=by
 unfold cutF;split
 ·show o.qty - n<=o.qty;omega
 ·exact bP _
theorem LOk.less {L:List Ord} (h:LOk L) (id:Int) {n:Int} (c:0<=n):LOk (bR0 id n L):=by
 refine ⟨fun x a=>?_,?_,fun x a=>?_⟩
 ·obtain ⟨y,b,rfl,_⟩:=nZ0 a;rw [jA0];exact h.side y b
 ·unfold bR0;refine (List.Nodup.sublist ?_ h.ids)
  have e:(L.map (cutF id n)).map Ord.id=L.map Ord.id:=by
   rw [dS];exact cJ (fun o _=>tD0 id n o)
  rw [<-e];exact (fG).map _
 ·obtain ⟨y,b,rfl,d⟩:=nZ0 a;have f:=h.ok y b;have g:=aO2 (id:=id) (o:=y) c;rw [mB0];omega
theorem aS1 (s id n:Int) (L:List Ord):aR0 s (bR0 id n L)=((aR0 s L).map (cutF id n)).filter fun o=>decide (0<o.qty):=by
 unfold bR0;rw [qF0,aO1 s (jA0 id n) (tE0 id n) (mB0 id n)]
theorem oA0 {id n:Int}:∀{l:List Ord},(∀o∈l,o.id≠id)->(∀o∈l,1<=o.qty)->(l.map (cutF id n)).filter (fun o=>decide (0<o.qty))=l
 | [],_,_=>rfl
 | o::l,h1,h2=>by
  have b:=h2 o (aK ..);rw [bW,kO0 (h1 o (aK ..)),bZ (by simpa using (show 0<o.qty by omega)),oA0 (fun x a=>h1 x (aQ _ a)) (fun x a=>h2 x (aQ _ a))]
theorem gO1 (h:LOk L) (s:Int):((aR0 s L).map Ord.id).Nodup:=by
 have h1:(bE0 s L).Sublist L:=fG;have a:=(h1.map Ord.id).nodup h.ids;exact ((fP0 (fV0 s) (bE0 s L)).map Ord.id).nodup_iff.2 a
theorem aT1 (h:LOk L) {T:List Ord} (d:aR0 s L=x::T) (g:n<=x.qty):aR0 s (bR0 x.id n L)=if x.qty=n then T else cutO n x::T:=by
 have b:=gO1 h s;rw [d,bW,cP] at b;have f:∀o∈T,o.id≠x.id:=fun o c e=>b.1 (bH.2 ⟨o,c,e⟩)
 have a:∀o∈T,1<=o.qty:=fun o c=>(h.ok o (bD0.1 (show o∈aR0 s L by rw [d];exact aQ _ c)).1).2.2.1
 rw [aS1,d,bW,xM0]
 by_cases e:x.qty=n
 ·rw [aB e,cC (by show ¬decide (0<x.qty - n)=true;simp;omega),oA0 f a]
 ·rw [aA e,bZ (by show decide (0<x.qty - n)=true;simp;omega),oA0 f a]
theorem pH0 (h:LOk L) {t:Int} (i:x∈aR0 s L) (b:t≠s):aR0 t (bR0 x.id n L)=aR0 t L:=by
 obtain ⟨f,g⟩:=bD0.1 i;rw [aS1];refine oA0 (fun o c e=>?_) (fun o c=>(h.ok o (bD0.1 c).1).2.2.1);obtain ⟨d,a⟩:=bD0.1 c;have:=qG0 h.ids d f e;rw [this,g] at a;exact b a.symm
def wilB (s p:Int) (o:Ord):Bool:=(o.kind == 2) || (((s == 1)&& decide (p<=o.price)) || ((s == 2)&& decide (o.price<=p)))
def wilL (s p:Int) (L:List Ord):Int:=(L.map fun o=>if (o.side == s&& wilB s p o)=true then o.qty else 0).sum
theorem bY0 (s p:Int) (o:Ord) (L:List Ord):wilL s p (o::L)=(if (o.side == s&& wilB s p o)=true then o.qty else 0)+wilL s p L:=by simp [wilL]
theorem tF0 (s p:Int):∀{L:List Ord},LOk L->0<=wilL s p L/\wilL s p L<=1000000*(L.length:Int)
 | [],_=>by simp [wilL]
 | o::L,h=>by
  have b:LOk L:=⟨fun x a=>h.side x (aQ _ a),(cP.1 h.ids).2,fun x a=>h.ok x (aQ _ a)⟩;have d:=tF0 s p b;have c:=h.ok o (aK ..);rw [bY0,aZ];split <;> omega
theorem gP1 {s p:Int}:∀{L:List Ord},(∀o∈L,1<=o.qty)->0<wilL s p L->∃o∈L,o.side=s/\wilB s p o=true
 | [],_,h=>by simp [wilL] at h
 | o::L,hq,h=>by
  rw [bY0] at h
  by_cases e:(o.side == s&& wilB s p o)=true
  ·rw [Bool.and_eq_true,beq_iff_eq] at e;exact ⟨o,aK ..,e.1,e.2⟩
  ·rw [aA e] at h;obtain ⟨x,a,h1⟩:=gP1 (fun y b=>hq y (aQ _ b)) (show 0<wilL s p L by omega);exact ⟨x,aQ _ a,h1⟩
theorem gQ1 {s p id n:Int}:∀{L:List Ord},(L.map Ord.id).Nodup->(∀o∈L,1<=o.qty)->(∀o∈L,o.id=id->n<=o.qty)->wilL s p (bR0 id n L)=wilL s p L - (if ∃o∈L,o.id=id/\(o.side == s&& wilB s p o)=true then n else 0)
 | [],_,_,_=>by simp [wilL,bR0]
 | o::L,hd,hq,hn=>by
  rw [bW,cP] at hd;have d:=gQ1 (s:=s) (p:=p) (id:=id) (n:=n) hd.2 (fun x a=>hq x (aQ _ a)) (fun x a=>hn x (aQ _ a));have w:=hq o (aK ..);have t:∀(q:Int),(({ o with qty:=q }:Ord).side == s&& wilB s p { o with qty:=q })=(o.side == s&& wilB s p o):=fun q=>rfl
  by_cases e:o.id=id
  ·have g:¬∃x∈L,x.id=id/\(x.side == s&& wilB s p x)=true:=fun ⟨x,a,h1,_⟩=>hd.1 (bH.2 ⟨x,a,by rw [h1,e]⟩)
   rw [aA g] at d;have v:=hn o (aK ..) e;have u:cutF id n o={ o with qty:=o.qty - n }:=by unfold cutF;rw [aB e];rfl
   have k:bR0 id n (o::L)=if 0<o.qty - n then { o with qty:=o.qty - n }::bR0 id n L else bR0 id n L:=by
    unfold bR0;rw [bW,u,List.filter_cons];simp
   by_cases b:(o.side == s&& wilB s p o)=true
   ·have r:∃x∈o::L,x.id=id/\(x.side == s&& wilB s p x)=true:=⟨o,aK ..,e,b⟩;have l:wilL s p (o::L)=o.qty+wilL s p L:=by rw [bY0,aB b]
    rw [k,l,aB r]
    by_cases j:0<o.qty - n
    ·have m:wilL s p ({ o with qty:=o.qty - n }::bR0 id n L)=(o.qty - n)+wilL s p (bR0 id n L):=by rw [bY0,t,aB b]
     rw [aB j,m,d];omega
    ·rw [aA j,d];omega
   ·have i:¬∃x∈o::L,x.id=id/\(x.side == s&& wilB s p x)=true:=fun ⟨x,a,h1,c⟩=>by
     rw [aR] at a;rcases a with rfl | a
     ·exact b c
     ·exact g ⟨x,a,h1,c⟩
    have l:wilL s p (o::L)=0+wilL s p L:=by rw [bY0,aA b]
    rw [k,l,aA i]
    by_cases j:0<o.qty - n
    ·have m:wilL s p ({ o with qty:=o.qty - n }::bR0 id n L)=0+wilL s p (bR0 id n L):=by rw [bY0,t,aA b]
     rw [aB j,m,d];omega
    ·rw [aA j,d];omega
  ·have k:bR0 id n (o::L)=o::bR0 id n L:=by
    unfold bR0;rw [bW,kO0 e,bZ (by simpa using (show 0<o.qty by omega))]
   have f:(∃x∈o::L,x.id=id/\(x.side == s&& wilB s p x)=true)↔∃x∈L,x.id=id/\(x.side == s&& wilB s p x)=true:=by
    constructor
    ·rintro ⟨x,a,h1,c⟩;rw [aR] at a;rcases a with rfl | a
     ·exact absurd h1 e
     ·exact ⟨x,a,h1,c⟩
    ·rintro ⟨x,a,h1,c⟩;exact ⟨x,aQ _ a,h1,c⟩
   rw [k,bY0,bY0,d];simp only [f];omega
theorem gR1 (h:LOk L) (m:s=1\/s=2) (n:0<wilL s p L):∃x T,aR0 s L=x::T/\x∈L/\x.side=s/\wilB s p x=true:=by
 obtain ⟨o,l,h1,e⟩:=gP1 (fun y r=>(h.ok y r).2.2.1) n;have c:o∈aR0 s L:=bD0.2 ⟨l,h1⟩
 match hS:aR0 s L with
 | []=>rw [hS] at c;cases c
 | x::T=>
  have q:x∈aR0 s L:=by rw [hS];exact aK ..
  obtain ⟨d,f⟩:=bD0.1 q;refine ⟨x,T,rfl,d,f,?_⟩
  have b:fV0 s x<=fV0 s o:=by
   have a:=jX0 (rank:=fV0 s) (bE0 s L);rw [show kV0 (fV0 s) (bE0 s L)=x::T from hS,cV] at a;rw [hS,aR] at c;rcases c with rfl | c
   ·exact bP _
   ·exact a.1 o c
  have u:=h.ok x d;have t:=h.ok o l;unfold fV0 oU0 at b;unfold wilB at e ⊢
  by_cases j:x.kind=2
  ·rw [j];rfl
  ·rw [aA j] at b
   by_cases g:o.kind=2
   ·rw [aB g] at b;split at b <;> omega
   ·rw [aA g] at b;have i:=aC.2 g;have k:=aC.2 j;rw [i,eD] at e;rw [k,eD];rcases m with rfl | rfl
    ·rw [aB rfl,aB rfl] at b;simp at e ⊢;omega
    ·rw [aA d7,aA d7] at b;simp at e ⊢;omega
structure FS where
 fs:List Fil
 L:List Ord
 q:Int
def mI0 (s:Int) (L:List Ord):Ord:=oAt (aR0 s L) 0
def lotN (s:FS):Int:=min s.q (min (mI0 1 s.L).qty (mI0 2 s.L).qty)
def fF0 (p:Int) (s:FS):FS:=⟨s.fs++[⟨(mI0 1 s.L).id,(mI0 2 s.L).id,p,lotN s⟩],cutM (mI0 2 s.L).id (lotN s) (cutM (mI0 1 s.L).id (lotN s) s.L),s.q - lotN s⟩
def aY0 (p:Int) (s:FS):Nat->FS
 | 0=>s
 | k+1=>fF0 p (aY0 p s k)
structure FOk (p:Int) (s:FS):Prop where
 ok:LOk s.L
 nn:0<=s.q
 buy:s.q<=wilL 1 p s.L
 sell:s.q<=wilL 2 p s.L
theorem jM0 {s:FS} (h:FOk p s) (R:0<s.q):
  (∃x T y U,aR0 1 s.L=x::T/\aR0 2 s.L=y::U/\mI0 1 s.L=x/\mI0 2 s.L=y/\x∈s.L/\y∈s.L/\y∈bR0 x.id (lotN s) s.L/\1<=lotN s/\lotN s<=s.q/\lotN s<=x.qty/\lotN s<=y.qty/\cutM x.id (lotN s) s.L=bR0 x.id (lotN s) s.L/\(fF0 p s).L=bR0 y.id (lotN s) (bR0 x.id (lotN s) s.L)
   /\cutN x.id (lotN s) s.L=0/\cutN y.id (lotN s) (bR0 x.id (lotN s) s.L)=0/\LOk (bR0 x.id (lotN s) s.L))/\FOk p (fF0 p s):=by
 obtain ⟨a,_,P,S⟩:=h;obtain ⟨x,T,j,b,w,D⟩:=gR1 a (s:=1) (p:=p) (aH rfl) o7;obtain ⟨y,U,k,A,B,E⟩:=gR1 a (s:=2) (p:=p) (aG rfl) o7;have l:mI0 1 s.L=x:=by unfold mI0;rw [j];rfl
 have m:mI0 2 s.L=y:=by unfold mI0;rw [k];rfl
 have V:=a.ok x b;have W:=a.ok y A;have Q:lotN s=min s.q (min x.qty y.qty):=by unfold lotN;rw [l,m]
 obtain ⟨n,r⟩:∃n,lotN s=n:=⟨_,rfl⟩;have i:1<=n/\n<=s.q/\n<=x.qty/\n<=y.qty:=o7;obtain ⟨G,M⟩:=aR1 a b (n:=n) o7;have c:=a.less x.id (n:=n) o7
 have f:y∈bR0 x.id n s.L:=by
  have:y∈aR0 2 (bR0 x.id n s.L):=by
   rw [pH0 a (s:=1) (t:=2) (x:=x) (by rw [j];exact aK ..) d7,k];exact aK ..
  exact (bD0.1 this).1
 obtain ⟨N,O⟩:=aR1 c f (n:=n) o7;have F:=c.less y.id (n:=n) o7
 have d:(fF0 p s).L=bR0 y.id n (bR0 x.id n s.L):=by
  show cutM (mI0 2 s.L).id (lotN s) (cutM (mI0 1 s.L).id (lotN s) s.L)=_;rw [l,m,r,G,N]
 have u:(fF0 p s).q=s.q - n:=by show s.q - lotN s=_;rw [r]
 have g:∀{L:List Ord},LOk L->∀{z:Ord},z∈L->n<=z.qty->∀t,wilL t p (bR0 z.id n L)=wilL t p L - (if (z.side == t&& wilB t p z)=true then n else 0):=fun {L} d {z} hz hzq t=>by
  rw [gQ1 d.ids (fun o v=>(d.ok o v).2.2.1) (fun o v e=>by rw [qG0 d.ids v hz e];exact hzq)]
  congr 1
  by_cases C:(z.side == t&& wilB t p z)=true
  ·rw [aB C,aB ⟨z,hz,rfl,C⟩]
  ·rw [aA C,aA];rintro ⟨o,v,e,H⟩;rw [qG0 d.ids v hz e] at H;exact C H
 have w1:=g a b i.2.2.1 1;have I:=g a b i.2.2.1 2;have J:=g c f i.2.2.2 1;have K:=g c f i.2.2.2 2;rw [aB (by rw [w,D];rfl)] at w1;rw [aA (by rw [w];simp)] at I;rw [aA (by rw [B];simp)] at J;rw [aB (by rw [B,E];rfl)] at K;rw [r];refine ⟨⟨x,T,y,U,j,k,l,m,b,A,f,i.1,i.2.1,i.2.2.1,i.2.2.2,G,d,M,O,c⟩,?_⟩;refine ⟨by rw [d];exact F,by rw [u];omega,?_,?_⟩
 ·rw [d,u,J,w1];omega
 ·rw [d,u,K,I];omega
theorem iM0 {p:Int} {s:FS} (h:FOk p s):∀k,(∀j,j<k->0<(aY0 p s j).q)->FOk p (aY0 p s k)
 | 0,_=>h
 | k+1,hq=>(jM0 (iM0 h k (fun j a=>hq j o7)) (hq k o7)).2
def oE1 (err:Value) (n:Int):Prop:=(err=.nilIface/\n=0)\/err=.iface 26 (U G n)
section
variable {w0 w:World} {bb rb m:Nat} {b:BkS} {v:Value} {L:List Ord}
theorem xN0 {S:Nat->List Ly} {n:Nat} {rs:List Sot} {fr:List Nat} (b:Pb n rs fr S) (a:Lnk S L):L.length<=100:=by have:=b.most;have:=a.len;omega
theorem oF1 (a:Lnk b.S L) {s:Nat} (c:s<2) {x:Ly} (d:x∈b.S s):∃k,k<L.length/\idxO x.o.id L=k/\oAt L k=x.o:=by
 rcases mW0 x.o.id L 0 with h | ⟨k,hk,h1,e⟩
 ·have f:idxO x.o.id L=-1:=h;have:=a.idx_yes c d;omega
 ·exact ⟨k,hk,by have:idxO x.o.id L=((0+k:Nat):Int):=h1;rw [this];congr 1;omega,a.at c d hk e⟩
theorem uL1 (h:Bk w bb m b) (C:m+1<=900000) (f:Lnk b.S L) (o:Ord) (D:(Lit.int .i64 o.id).wf=true):
  Calls prog 242 #[E (some ⟨bb,0,none⟩),o.agg] w fun e v=>∃err,e=Y err/\oE1 err (addN o L)/\∃b',Lnk b'.S (addL o L)/\Goes w v bb (m+1) b b':=by
 have d:∀n:Int,n≠0->addN o L=n->addL o L=L:=fun n h1 g=>by unfold addL;rw [aA (by rw [g];exact h1)]
 refine (hH2 bb m b o w h C D).mono ?_;rintro e v (⟨h1,rfl,i⟩ | ⟨h1,g,j,rfl,i⟩ | ⟨h1,g,j,l,rfl,i⟩ | ⟨h1,g,j,l,z,rfl,i⟩ | ⟨h1,g,j,l,z,rfl,b',s,k,a,t,u,A,i⟩)
 ·have c:addN o L=1:=wK0 (by rw [<-nY0];exact h1);exact ⟨_,rfl,aG (by rw [c]),b,by rw [d 1 d7 c];exact f,i⟩
 ·have c:addN o L=2:=uV0 (by rw [<-nY0];exact h1) g j;exact ⟨_,rfl,aG (by rw [c]),b,by rw [d 2 d7 c];exact f,i⟩
 ·have c:addN o L=9:=by
   rw [nI0 (by rw [<-nY0];exact h1) g j];obtain ⟨s,t,x,F,B⟩:=l;rw [aB (by rw [<-B];exact f.idx_yes t F)]
  exact ⟨_,rfl,aG (by rw [c]),b,by rw [d 9 d7 c];exact f,i⟩
 ·have p:=f.len
  have c:addN o L=12:=by
   rw [nI0 (by rw [<-nY0];exact h1) g j,f.idx_no l,aA d7,aB o7]
  exact ⟨_,rfl,aG (by rw [c]),b,by rw [d 12 d7 c];exact f,i⟩
 ·have p:=f.len
  have c:addN o L=0:=by
   rw [nI0 (by rw [<-nY0];exact h1) g j,f.idx_no l,aA d7,aA o7]
  obtain ⟨q,_⟩:inB 1 1000000 (lieP o).price=true/\inB 1 1000000 (lieP o).qty=true:=by simpa [cZ0] using j
  have r:=eR0 q;refine ⟨_,rfl,aH ⟨rfl,c⟩,b',?_,i⟩;unfold addL;rw [aB c,A,<-uK1];exact f.add t (by rw [zY0];exact u) r (fun y G=>by have:=f.ok h.ok y G;omega) (by rw [nG1];exact f.none l)
theorem eH1 (h:Bk w bb m b) (p:m+1<=900000) (f:Lnk b.S L) (id:Int) (y:(Lit.int .i64 id).wf=true):
  Calls prog 120 #[E (some ⟨bb,0,none⟩),U G id] w fun e g=>∃err,e=Y (.tuple #[(canO id L).agg,err])/\oE1 err (canN id L)/\∃b',Lnk b'.S (canL id L)/\Goes w g bb (m+1) b b':=by
 rcases qW0 b.S id with ⟨s,n,x,r,rfl⟩ | d
 ·obtain ⟨k,hk,hi,q⟩:=oF1 f n r;have a:¬idxO x.o.id L=-1:=o7;have c:(idxO x.o.id L).toNat=k:=o7;refine (pF0 bb m s b x w h p n r).mono ?_;rintro e g ⟨rfl,b',⟨i,j,l,t⟩,v⟩;refine ⟨.nilIface,by unfold canO;rw [aA a,c,q],aH ⟨rfl,by unfold canN;rw [aA a]⟩,b',?_,v⟩;unfold canL;rw [aA a,c,t];exact f.gone h.ok n j l hk (by rw [q])
 ·have h1:=f.idx_no d;refine (aC1 bb m b id w h y d).mono ?_;rintro e g ⟨rfl,u⟩;exact ⟨_,by unfold canO;rw [aB h1],aG (by unfold canN;rw [aB h1]),b,by unfold canL;rw [aB h1];exact f,Goes.stay h u (cH _) p⟩
theorem uM1 (h:Bk w bb m b) (t:m+1<=900000) (f:Lnk b.S L) (id q:Int) (D:(Lit.int .i64 id).wf=true):
  Calls prog 271 #[E (some ⟨bb,0,none⟩),U G id,U G q] w fun e l=>∃err,e=Y err/\oE1 err (cutN id q L)/\∃b',Lnk b'.S (cutM id q L)/\Goes w l bb (m+1) b b':=by
 rcases qW0 b.S id with ⟨s,j,x,r,rfl⟩ | n
 ·obtain ⟨k,hk,hi,g⟩:=oF1 f j r;have c:¬idxO x.o.id L=-1:=o7;have a:(idxO x.o.id L).toNat=k:=o7
  by_cases u:q<1\/x.o.qty<q
  ·have d:(decide (1<=q)&& decide (q<=(oAt L k).qty))=false:=by
    rw [g];rcases u with u | u
    ·rw [aD o7];rfl
    ·rw [aD (p:=q<=x.o.qty) o7];exact Bool.and_false _
   refine (nZ1 bb m s b x q w h j r u).mono ?_;rintro e l ⟨rfl,v⟩;exact ⟨_,rfl,aG (by unfold cutN;rw [aA c,a,aB d]),b,by unfold cutM;rw [aA c,a,aB d];exact f,Goes.stay h v (cH _) t⟩
  ·have d:¬(decide (1<=q)&& decide (q<=(oAt L k).qty))=false:=by
    rw [g,aE (by omega:1<=q),aE (by omega:q<=x.o.qty)];decide
   by_cases C:q=x.o.qty
   ·subst C;refine (aN2 bb m s b x w h t j r o7).mono ?_;rintro e l ⟨rfl,b',⟨i,z,A,B⟩,y⟩;refine ⟨_,rfl,aH ⟨rfl,by unfold cutN;rw [aA c,a,aA d]⟩,b',?_,y⟩;unfold cutM;rw [aA c,a,aA d,aB (by rw [g]),B];exact f.gone h.ok j z A hk (by rw [g])
   ·refine (uH1 bb m s b x q w h t j r o7 o7).mono ?_;rintro e l ⟨rfl,y⟩;refine ⟨_,rfl,aH ⟨rfl,by unfold cutN;rw [aA c,a,aA d]⟩,_,?_,y⟩;unfold cutM;rw [aA c,a,aA d,aA (by rw [g];omega)];exact f.cut h.ok j r hk (by rw [g])
 ·have h1:=f.idx_no n;refine (eQ2 bb m b id q w h D n).mono ?_;rintro e l ⟨rfl,v⟩;exact ⟨_,rfl,aG (by unfold cutN;rw [aB h1]),b,by unfold cutM;rw [aB h1];exact f,Goes.stay h v (cH _) t⟩
end
def wilP (p:Int) (o:Ord):Bool:=if (o.kind == 2)=true then true else if (o.side == 1)=true then decide (p<=o.price) else decide (o.price<=p)
theorem aP2 (b:s=1\/s=2) (a:o.side=s):wilP p o=wilB s p o:=by
 unfold wilP wilB;rw [a];rcases b with rfl | rfl
 ·by_cases h:(o.kind == 2)=true
  ·rw [aB h,h];rfl
  ·rw [aA h,show (o.kind == 2)=false from dN.2 h];simp
 ·by_cases h:(o.kind == 2)=true
  ·rw [aB h,h];rfl
  ·rw [aA h,show (o.kind == 2)=false from dN.2 h];simp
theorem tG0 (p:Int) (w:World):Calls prog 268 #[U G p] w fun e w'=>e=Y (.func (.func 286) #[] #[E (some ⟨w.heap.size,0,none⟩)])/\w'=w.alloc (R #[U G p] 3):=by
 go_enter func268,ntmps268;go_wp2;go_ret;exact ⟨rfl,rfl⟩
theorem eR2 (p:Int) (o:Ord) (b:Nat) (w:World) (h:w.heap[b]? = some (R #[U G p] 3 (0,0))):
  Calls prog 286 #[.agg #[U G o.id,U G o.side,U G o.kind,U G o.price,U G o.qty],E (some ⟨b,0,none⟩)] w fun e w'=>e=Y (.bool (wilP p o))/\Below w.heap.size w w':=by
 have c:=bel1 w (R #[U G o.id,U G o.side,U G o.kind,U G o.price,U G o.qty] 92);have d:=aA0 (j:=0) (aE0 h c lR7) rfl;have a:Hid _:=c;clear h c;unfold wilP;cases hk:(o.kind == 2) with
 | true=>
  go_enter func286,ntmps286;go_wp2;go_ret;exact ⟨rfl,a.out⟩
 | false=>
  cases hs:(o.side == 1) with
  | true=>
   go_enter func286,ntmps286;go_wp2;go_ret;exact ⟨rfl,a.out⟩
  | false=>
   go_enter func286,ntmps286;go_wp2;go_ret;exact ⟨rfl,a.out⟩
theorem oG1 (d m s:Nat) (b:BkS) (L:List Ord) (w:World) (h:Bk w d m b) (j:Lnk b.S L) (k:s<2) (side:Int) (a:side=(s:Int)+1):
  Calls prog 266 #[E (some ⟨d,0,none⟩),U G side] w fun e w'=>∃v,e=Y v/\w'.ownsRow w.heap.size 92 5 v (aR0 side L).length (oV (aR0 side L))/\Below w.heap.size w w':=by
 have H:=hid7 h;have g:(b.S s).map Ly.o=aR0 side L:=by rw [a];exact j.side s k
 have f:=hid7 g;have c:=hid7 a;clear h g j a;go_enter func266,ntmps266;go_wp2_with fail;refine (qY0 d m s b w H.out k side c.out).mono ?_;rintro e w1 ⟨v,rfl,h1,i⟩;rw [f.out,show (b.S s).length=(aR0 side L).length by rw [<-f.out,bU]] at h1;have l:Hid _:=h1;have n:Hid _:=i;clear h1 i;go_wp2_with fail;go_ret;exact ⟨v,rfl,l.out,n.out⟩
theorem aQ2 (s:Int) (a:s=1\/s=2) (w:World):Calls prog 267 #[U G s] w fun e w'=>e=Y (U G (3 - s))/\w'=w:=by
 rcases a with rfl | rfl
 ·go_enter func267,ntmps267;go_wp2;go_ret;exact ⟨rfl,rfl⟩
 ·go_enter func267,ntmps267;go_wp2;go_ret;exact ⟨rfl,rfl⟩
theorem vM0 (o x:Ord) (p:Int) (w:World) (a:(o.side == 2)=false):
  Calls prog 270 #[.agg #[U G o.id,U G o.side,U G o.kind,U G o.price,U G o.qty],.agg #[U G x.id,U G x.side,U G x.kind,U G x.price,U G x.qty],U G p] w
   fun e w'=>e=Y (.agg #[U G o.id,U G x.id,U G p,U G (min o.qty x.qty)])/\Below w.heap.size w w':=by
 have b:=hid7 a;go_enter func270,ntmps270;go_wp2_with fail;refine bodyPost_ret (by simp [results,results270,go_sem];try rfl) rfl ?_;refine ⟨rfl,?_⟩
 (repeat' first | assumption | exact aF _ _ | exact lR7 | refine aS ?_ ?_ _ | refine eO ?_ ?_ _ | (simp;done) | (simp;omega))
theorem jY1 (o x:Ord) (p:Int) (w:World) (a:(o.side == 2)=true):
  Calls prog 270 #[.agg #[U G o.id,U G o.side,U G o.kind,U G o.price,U G o.qty],.agg #[U G x.id,U G x.side,U G x.kind,U G x.price,U G x.qty],U G p] w
   fun e w'=>e=Y (.agg #[U G x.id,U G o.id,U G p,U G (min x.qty o.qty)])/\Below w.heap.size w w':=by
 have b:=hid7 a;go_enter func270,ntmps270;go_wp2_with fail;refine bodyPost_ret (by simp [results,results270,go_sem];try rfl) rfl ?_;refine ⟨rfl,?_⟩
 (repeat' first | assumption | exact aF _ _ | exact lR7 | refine aS ?_ ?_ _ | refine eO ?_ ?_ _ | (simp;done) | (simp;omega))
def mJ0 (p:Int) (X:List Ord):Int:=(X.map fun o=>if wilP p o=true then o.qty else 0).sum
theorem vN0 {X:List Ord} (p:Int) (h:k<X.length):mJ0 p (X.take (k+1))=mJ0 p (X.take k)+(if wilP p (oAt X k)=true then (oAt X k).qty else 0):=by
 unfold mJ0;rw [List.take_succ_eq_append_getElem h,bK,List.sum_append,<-eJ0 h];simp
theorem uN1 {f:Ord->Int} {a b:List Ord} (h:a.Perm b):(a.map f).sum=(b.map f).sum:=by
 induction h with
 | nil=>rfl
 | cons x _ ih=>simp [ih]
 | swap x y l=>simp;omega
 | trans _ _ i1 i2=>exact i1.trans i2
theorem gS1 (s p:Int) (a:s=1\/s=2):∀L:List Ord,mJ0 p (bE0 s L)=wilL s p L
 | []=>rfl
 | o::L=>by
  have b:=gS1 s p a L;rw [bY0,<-b];unfold bE0
  by_cases h:(o.side == s)=true
  ·have e:(o::L).filter (fun o=>o.side == s)=o::L.filter (fun o=>o.side == s):=bZ (by exact h);rw [e,h,Bool.true_and,<-aP2 a (beq_iff_eq.1 h)];rfl
  ·have e:(o::L).filter (fun o=>o.side == s)=L.filter (fun o=>o.side == s):=cC (by exact h);rw [e,aA (by rw [show (o.side == s)=false from dN.2 h];simp)];omega
theorem uO1 (a:s=1\/s=2) (L:List Ord):mJ0 p (aR0 s L)=wilL s p L:=by
 rw [<-gS1 s p a L];exact uN1 (fP0 _ _)
theorem gT1 {p:Int} {X:List Ord} (h:∀o∈X,1<=o.qty/\o.qty<=1000000):∀k,k<=X.length->0<=mJ0 p (X.take k)/\mJ0 p (X.take k)<=1000000*(k:Int)
 | 0,_=>by simp [mJ0]
 | k+1,hk=>by
  have b:=gT1 (p:=p) h k o7;have a:=h (oAt X k) (qH0 o7);rw [vN0 p o7];split <;> omega
theorem gU1 (D m s:Nat) (b:BkS) (L:List Ord) (p:Int) (z:Nat) (w:World) (h:Bk w D m b) (I:Lnk b.S L) (t:LOk L) (hs:s<2) (side:Int) (u:side=(s:Int)+1) (Z:w.heap[z]? = some (R #[U G p] 3 (0,0))):
  Calls prog 278 #[E (some ⟨D,0,none⟩),U G side,.func (.func 286) #[] #[E (some ⟨z,0,none⟩)]] w fun e w'=>e=Y (U G (wilL side p L))/\Below w.heap.size w w':=by
 have H:=hid7 h;have J:=hid7 I;have K:=hid7 Z;have M:Hid (∀o∈aR0 side L,1<=o.qty/\o.qty<=1000000):=fun o ho=>(t.ok o (bD0.1 ho).1).2.2
 have V:(aR0 side L).length<=100:=aI (iU0 _ _) (xN0 h.ok I);have HW:Hid (mJ0 p (aR0 side L)=wilL side p L):=uO1 o7 L;have B:=hid7 u;clear h I Z t u;go_enter func278,ntmps278;go_wp2_with fail;refine (oG1 D m s b L w H.out J.out hs side B.out).mono ?_;rintro e w1 ⟨v,rfl,h1,F⟩;obtain ⟨xa,xc,rfl,_,_⟩:=bC0 h1;have HR:Hid _:=h1;have HB:=hid7 F;have A:Hid (w1.heap[z]? = some (R #[U G p] 3 (0,0))):=aE0 K.out F lR7;clear h1 F J H K;generalize aR0 side L=X at *;go_wp2_with fail;go_loopw [7,9,14] (fun u7 _ u14 wr=>∃k:Nat,k<=X.length/\u14=U G k/\u7=U G (mJ0 p (X.take k))/\Below w1.heap.size w1 wr) (fun _ _ u14 _=>X.length - (intOf u14).toNat)
 case atStart=>exact ⟨0,Nat.zero_le _,rfl,rfl,aF _ _⟩
 case round=>
  obtain ⟨k,hk,rfl,rfl,y⟩:=hrel;have q:=hid7 y
  by_cases c:k<X.length
  ·have a3:(k:Int)<(X.length:Int):=o7;obtain ⟨g,a0,e,N,O,P,Q,T⟩:=cT0 (aU0 HR.out y lR7) c;injection e with e1 _ e2;subst e1 e2;have a1:=gT1 (p:=p) M.out k hk;have C:=hid7 (vN0 p c);have hq:=M.out (oAt X k) (qH0 c);generalize oAt X k=x at N O P Q T C hq;generalize mJ0 p (X.take k)=n at *;clear y;go_wp2_with fail;have f:=bel1 wr (R #[U G x.id,U G x.side,U G x.kind,U G x.price,U G x.qty] 92);have i:=heap_alloc_new wr (R #[U G x.id,U G x.side,U G x.kind,U G x.price,U G x.qty] 92);generalize wr.alloc (R #[U G x.id,U G x.side,U G x.kind,U G x.price,U G x.qty] 92)=W at f i ⊢;have r:=hid7 (aD0 q.out f);refine (eR2 p x z W (aE0 A.out r.out lR7)).mono ?_;rintro e w4 ⟨rfl,d⟩;have x4:=aA0 (j:=4) (aE0 i d lR7) rfl;have l:=hid7 (aD0 r.out d);clear f i d N O P Q T;cases hw:wilP p x with
   | true=>
    have a:Hid (mJ0 p (X.take (k+1))=n+x.qty):=by have:=C.out;rw [hw,aB rfl] at this;exact this
    go_wp2_with fail;go_roundw
    case rel=>exact ⟨k+1,c,by go_num,by rw [a.out],l.out⟩
    case measure=>simp [intOf];omega
   | false=>
    have a:Hid (mJ0 p (X.take (k+1))=n):=by have:=C.out;rw [hw,aA d7] at this;rw [this];exact Int.add_zero _
    go_wp2_with fail;go_roundw
    case rel=>exact ⟨k+1,c,by go_num,by rw [a.out],l.out⟩
    case measure=>simp [intOf];omega
  ·have a2:k=X.length:=o7;have a:Hid (mJ0 p (X.take k)=mJ0 p X):=by show _=_;rw [List.take_of_length_le o7]
   generalize mJ0 p (X.take k)=n at *;clear y;go_wp2_with fail;go_ret;exact ⟨by rw [a.out,HW.out];rfl,aD0 HB.out q.out⟩
theorem pI0 (id n:Int) (L:List Ord):(bR0 id n L).length<=L.length:=by
 unfold bR0;exact aI (List.length_filter_le _ _) (by rw [bU];exact lR7)
theorem oH1 (a:x∈L):(bR0 x.id x.qty L).length<L.length:=by
 have h:((L.map (cutF x.id x.qty)).filter fun o=>decide (0<o.qty)).length<(L.map (cutF x.id x.qty)).length:=by
  refine List.length_filter_lt_length_iff_exists.2 ⟨cutF x.id x.qty x,dM a,?_⟩;rw [xM0];show ¬decide (0<x.qty - x.qty)=true;simp
 rw [bU] at h;exact h
theorem oI1 {s:FS} (h:FOk p s) (g:0<s.q) (i:0<(fF0 p s).q):(fF0 p s).L.length<s.L.length:=by
 obtain ⟨⟨x,T,y,U,_,_,d,e,f,_,b,_,_,l,m,_,c,_,_,_⟩,_⟩:=jM0 h g;have j:lotN s=min s.q (min x.qty y.qty):=by unfold lotN;rw [d,e]
 have k:(fF0 p s).q=s.q - lotN s:=rfl;rw [c];have a:lotN s=x.qty\/lotN s=y.qty:=o7;rcases a with a | a
 ·rw [a];exact Nat.lt_of_le_of_lt (pI0 _ _ _) (oH1 f)
 ·rw [a] at b ⊢;exact aT (oH1 b) (pI0 _ _ _)
theorem jY0 {p:Int} {s:FS} (h:FOk p s):∀k,(∀j,j<k+1->0<(aY0 p s j).q)->k+(aY0 p s k).L.length<=s.L.length
 | 0,_=>by show 0+s.L.length<=s.L.length;omega
 | k+1,hq=>by
  have b:=jY0 h k (fun j a=>hq j o7);have h1:=oI1 (iM0 h k (fun j a=>hq j o7)) (hq k o7) (hq (k+1) o7);have e:aY0 p s (k+1)=fF0 p (aY0 p s k):=rfl;rw [e];omega
theorem infoFp:(prog.info? 146).map (fun i=>(i.zero,i.size,i.bytes))=some (some (.agg #[U G 0,U G 0,U G 0,U G 0]),4,32):=k7
theorem Bk.farAny {w:World} {bb m base c n:Nat} {e:TypeId} {b:BkS} {v:Value} {xs:List Value} (h:Bk w bb m b) (a:w.ownsRow base e c v n xs) (h1:e≠233) (g:e≠297) (i:e≠312) (j:e≠3) (d:e≠240):∀k,v.ownBlock=some k->¬b.foot bb k:=fun k hk f=>by
 rcases f with f | f | f | f | f
 ·exact aH0 a h.at_.box h1.symm (by rw [hk,f])
 ·rcases f with f | f | f
  ·exact aH0 a h.at_.ar.box g.symm (by rw [hk,f])
  ·exact bP0 a h.at_.ar.slots i hk f
  ·exact bP0 a h.at_.ar.free j hk f
 ·exact dN0 a h.at_.map (by rw [hk,f])
 ·exact bP0 a h.at_.row0 d hk f
 ·exact bP0 a h.at_.row1 d hk f
theorem Bk.farBox {w:World} {bb m k:Nat} {b:BkS} {vs:Array Value} {t:TypeId} (h:Bk w bb m b) (hk:bJ0 w k vs t) (h1:t≠233) (c:t≠297) (d:t≠312) (f:t≠3) (a:t≠240):¬b.foot bb k:=fun e=>by
 rcases e with e | e | e | e | e
 ·exact dQ0 hk h.at_.box h1 e
 ·rcases e with e | e | e
  ·exact dQ0 hk h.at_.ar.box c e
  ·exact aH0 h.at_.ar.slots hk d e
  ·exact aH0 h.at_.ar.free hk f e
 ·exact h.at_.map.ne hk e
 ·exact aH0 h.at_.row0 hk a e
 ·exact aH0 h.at_.row1 hk a e
theorem cpFills_no (bb m:Nat) (b:BkS) (L:List Ord) (p q:Int) (w:World) (h:Bk w bb m b) (s:Lnk b.S L) (k:LOk L) (t:¬(1<=q/\q<=min (wilL 1 p L) (wilL 2 p L))):
  Calls prog 245 #[E (some ⟨bb,0,none⟩),U G p,U G q] w fun e w'=>e=Y (.tuple #[J none 0 0,.iface 26 (U G 2)])/\aL0 w w':=by
 have H:=hid7 h;have r:=hid7 s;have o:=hid7 k;clear h s k;go_enter func245,ntmps245;go_wp2_with fail;refine (tG0 p w).mono ?_;rintro e w1 ⟨rfl,rfl⟩;have c:=bel1 w (R #[U G p] 3);have f:=heap_alloc_new w (R #[U G p] 3);generalize w.alloc (R #[U G p] 3)=w1 at c f ⊢;have a:=hid7 c;have i:Hid _:=f;clear c f
 by_cases x:q<1
 ·go_wp2_with fail;go_ret2;exact ⟨rfl,a⟩
 ·have u:decide (q>min (wilL 1 p L) (wilL 2 p L))=true:=aE o7;go_wp2_with fail;refine (gU1 bb m 0 b L p w.heap.size w1 (H.below a lR7) r o d7 1 rfl i).mono ?_;rintro e v ⟨rfl,d⟩;have g:=hid7 (aD0 a d);have n:Hid _:=aE0 i d lR7;clear d;go_wp2_with fail;refine (gU1 bb m 1 b L p w.heap.size v (H.below g lR7) r o d7 2 rfl n).mono ?_;rintro e y ⟨rfl,j⟩;have l:=hid7 (aD0 g j);clear j;go_wp2_with fail;go_ret2;exact ⟨rfl,l⟩
def FBox (w:World) (b:Nat) (f:Fil):Prop:=w.heap[b]? = some (R #[U G f.buyer,U G f.seller,U G f.price,U G f.qty] 146 (0,0))
structure Cpt (w W:World) (bb m:Nat) (b b':BkS) (L:List Ord) (fs:List Fil) (vf:Value):Prop where
 bk:Bk W bb m b'
 lnk:Lnk b'.S L
 since:tB0 w W bb b b'
 fils:W.ownsRow w.heap.size 146 4 vf fs.length (fV fs)
section
variable {w W W':World} {bb m m' k:Nat} {b b' b2:BkS} {L L':List Ord} {fs:List Fil} {vf v':Value} {x:Ord} {f:Fil} {obj:Obj}
theorem Cpt.below (h:Cpt w W bb m b b' L fs vf) (a:aL0 W W'):Cpt w W' bb m b b' L fs vf:=⟨h.bk.below a lR7,h.lnk,h.since.below a,aU0 h.fils a lR7⟩
theorem Cpt.goes (h:Cpt w W bb m b b' L fs vf) (a:Goes W W' bb m' b' b2) (c:Lnk b2.S L'):Cpt w W' bb m' b b2 L' fs vf:=
 ⟨a.1,c,h.since.goes a,aK0 h.fils a.2.1 (h.bk.farAny h.fils d7 d7 d7 d7 d7)⟩
theorem Cpt.pushed (_:Cpt w W bb m b b' L fs vf) (a:(W.alloc obj).grownBy W' vf.ownBlock):Out (fun j=>vf.ownBlock=some j) W W':=aX0 (dD0 (bL _ _) _) (Out.of_grown a (fun _ hk=>hk))
theorem Cpt.push (h:Cpt w W bb m b b' L fs vf) (c:(W.alloc obj).grownBy W' vf.ownBlock) (d:W'.ownsRow w.heap.size 146 4 v' (fs.length+1) (fV fs++[U G f.buyer,U G f.seller,U G f.price,U G f.qty])):Cpt w W' bb m b b' L (fs++[f]) v':=by
 have a:=h.pushed c;refine ⟨h.bk.out a (fun k hk e=>h.bk.farAny h.fils d7 d7 d7 d7 d7 k e hk),h.lnk,⟨h.since.1.trans a (fun k hk=>aG (h.fils.lt k hk).1),h.since.2⟩,?_⟩;rw [xL0,aN,bD];exact d
theorem Cpt.boxF (h:Cpt w W bb m b b' L fs vf) (c:Goes W W' bb m' b' b2) (a:FBox W k f):FBox W' k f:=aF0 a c.2.1 (h.bk.farBox a d7 d7 d7 d7 d7)
theorem oJ1 (a:Lnk b.S L) {s:Nat} (c:s<2) {T:List Ord} (h:aR0 ((s:Int)+1) L=x::T):eE1 ((b.S s).map Ly.o)=.tuple #[.agg #[U G x.id,U G x.side,U G x.kind,U G x.price,U G x.qty],.nilIface]:=by
 rw [a.side s c,h];rfl
theorem yK1 (h:Bk w bb m b) (a:Lnk b.S L) (d:x∈L):(Lit.int .i64 x.id).wf=true:=by
 obtain ⟨s,c,y,e,rfl⟩:=a.mem.1 d;exact (h.ok.ok s c y e).2.1
end
theorem tH0 (bb m:Nat) (b:BkS) (L:List Ord) (o:Ord) (n:Int) (w:World) (h:Bk w bb m b) (i:m+1<=900000) (d:Lnk b.S L) (c:LOk L) (f:o∈L) (j:1<=n/\n<=o.qty):
  Calls prog 271 #[E (some ⟨bb,0,none⟩),U G o.id,U G n] w fun e w'=>∃a,e=Y a/\∃b',Lnk b'.S (bR0 o.id n L)/\Goes w w' bb (m+1) b b':=by
 refine (uM1 h i d o.id n (yK1 h d f)).mono ?_;rintro e w' ⟨a,rfl,_,b',h1,g⟩;rw [(aR1 c f j).1] at h1;exact ⟨a,rfl,b',h1,g⟩
theorem aR2 (bb m:Nat) (b:BkS) (L:List Ord) (p q:Int) (w:World) (h:Bk w bb m b) (hm:m<=800000) (hl:Lnk b.S L) (G:LOk L) (hq:1<=q/\q<=min (wilL 1 p L) (wilL 2 p L)):
  Calls prog 245 #[.pointer (some ⟨bb,0,none⟩),.int .i64 p,.int .i64 q] w fun e w'=>∃(K:Nat) (vf:Value),e=.returned (.tuple #[vf,.nilIface])/\(aY0 p ⟨[],L,q⟩ K).q=0/\(∀j,j<K->0<(aY0 p ⟨[],L,q⟩ j).q)/\∃b',Cpt w w' bb (m+2*K) b b' (aY0 p ⟨[],L,q⟩ K).L (aY0 p ⟨[],L,q⟩ K).fs vf:=by
 obtain ⟨iF,f8,f4,f5,f6⟩:=info_parts infoFp;have H:=hid7 h;have HL:=hid7 hl;have HK:=hid7 G;have b9:Hid (FOk p ⟨[],L,q⟩):=⟨G,by show 0<=q;omega,by show q<=wilL 1 p L;omega,by show q<=wilL 2 p L;omega⟩;have f7:=xN0 h.ok hl;have h7:q<=100000000:=by have:=tF0 1 p G;omega
 have I:¬q<1:=o7;have g4:decide (q>min (wilL 1 p L) (wilL 2 p L))=false:=aD o7;clear h hl G hq;go_enter func245,ntmps245;go_wp2_with fail;refine (tG0 p w).mono ?_;rintro e w1 ⟨rfl,rfl⟩;have V:=bel1 w (.cells #[.int .i64 p] 3);have a5:=heap_alloc_new w (.cells #[.int .i64 p] 3);generalize w.alloc (.cells #[.int .i64 p] 3)=w1 at V a5 ⊢;have a9:=hid7 V;have c8:Hid _:=a5;clear V a5;go_wp2_with fail;refine (gU1 bb m 0 b L p w.heap.size w1 (H.below a9 lR7) HL HK d7 1 rfl c8).mono ?_;rintro e w2 ⟨rfl,W⟩;have b0:=hid7 (aD0 a9 W);have e9:Hid _:=aE0 c8 W lR7;clear W;go_wp2_with fail;refine (gU1 bb m 1 b L p w.heap.size w2 (H.below b0 lR7) HL HK d7 2 rfl e9).mono ?_;rintro e w3 ⟨rfl,d3⟩;have b3:=hid7 (aD0 b0 d3);clear d3;go_wp2_with fail;clear g4 I;go_loopw [2,9,10,11,12,13,14] (fun u2 u9 _ _ _ _ _ wr=>∃(k:Nat) (b':BkS),u2=.int .i64 (aY0 p ⟨[],L,q⟩ k).q/\(∀j,j<k->0<(aY0 p ⟨[],L,q⟩ j).q)/\(aY0 p ⟨[],L,q⟩ k).fs.length=k/\(k:Int)+(aY0 p ⟨[],L,q⟩ k).q<=q/\Cpt w wr bb (m+2*k) b b' (aY0 p ⟨[],L,q⟩ k).L (aY0 p ⟨[],L,q⟩ k).fs u9) (fun u2 _ _ _ _ _ _ _=>(intOf u2).toNat)
 case atStart=>exact ⟨0,b,rfl,fun j N=>absurd N o7,rfl,by show (0:Int)+q<=q;omega,H.below b3 lR7,HL,(tB0.refl _ _ _).below b3,aU _ _ _ _⟩
 case round=>
  obtain ⟨k,b',rfl,N,d5,h4,hC⟩:=hrel;have HJ:=hid7 N;have A:Hid (FOk p (aY0 p ⟨[],L,q⟩ k)):=iM0 b9 k N;have h6:=A.out.nn;have HC:=hid7 hC;obtain ⟨fa,fc,rfl,_,_⟩:=bC0 hC.fils;have c5:=hid7 d5;clear N d5
  by_cases I:0<(aY0 p ⟨[],L,q⟩ k).q
  ·have F:Hid (aY0 p ⟨[],L,q⟩ (k+1)=fF0 p (aY0 p ⟨[],L,q⟩ k)):=rfl
   have c6:Hid (∀j,j<k+1->0<(aY0 p ⟨[],L,q⟩ j).q):=fun j N=>by
    by_cases e:j=k
    ·subst e;exact I
    ·exact HJ j o7
   have h2:=jY0 b9 k c6;obtain ⟨⟨x,T,y,U,R,d2,a1,a2,a7,e3,e2,n1,n2,n3,n4,c1,d1,c2,c4,e4⟩,h1⟩:=jM0 A I;generalize aY0 p ⟨[],L,q⟩ k=s at *;have e7:Hid (lotN s=min x.qty (min y.qty s.q)):=by show lotN s=_;unfold lotN;rw [a1,a2];omega
   have B:Hid ((fF0 p s).fs=s.fs++[⟨x.id,y.id,p,lotN s⟩]/\(fF0 p s).q=s.q - lotN s):=⟨by show s.fs++[_]=_;rw [a1,a2],rfl⟩;have e5:Hid (eE1 ((b'.S 0).map Ly.o)=.tuple #[.agg #[.int .i64 x.id,.int .i64 x.side,.int .i64 x.kind,.int .i64 x.price,.int .i64 x.qty],.nilIface]):=oJ1 hC.lnk d7 R;have e6:Hid (eE1 ((b'.S 1).map Ly.o)=.tuple #[.agg #[.int .i64 y.id,.int .i64 y.side,.int .i64 y.kind,.int .i64 y.price,.int .i64 y.qty],.nilIface]):=oJ1 hC.lnk d7 d2;have Q:Hid (x∈s.L/\y∈bR0 x.id (lotN s) s.L/\LOk (bR0 x.id (lotN s) s.L)/\(fF0 p s).L=bR0 y.id (lotN s) (bR0 x.id (lotN s) s.L)/\lotN s<=x.qty/\lotN s<=y.qty):=⟨a7,e2,e4,d1,n3,n4⟩;have px:=A.ok.ok x a7;have py:=A.ok.ok y e3
   have g5:(x.side == 2)=false:=by
    have:x∈aR0 1 s.L:=by rw [R];exact aK ..
    rw [(bD0.1 this).2];rfl
   clear R d2 a1 a2 a7 e3 e2 c1 d1 c2 c4 e4 n3 n4 HJ hC;go_wp2_with fail;refine (yJ1 bb (m+2*k) 0 b' wr HC.bk d7 1 rfl).mono ?_;rintro e w4 ⟨rfl,d4⟩;rw [e5.out];have b6:Hid _:=HC.below d4;clear d4 HC;go_wp2_with fail;have X:=bel1 w4 (.cells #[.int .i64 x.id,.int .i64 x.side,.int .i64 x.kind,.int .i64 x.price,.int .i64 x.qty] 92);have a6:=heap_alloc_new w4 (.cells #[.int .i64 x.id,.int .i64 x.side,.int .i64 x.kind,.int .i64 x.price,.int .i64 x.qty] 92);generalize w4.alloc (.cells #[.int .i64 x.id,.int .i64 x.side,.int .i64 x.kind,.int .i64 x.price,.int .i64 x.qty] 92)=w5 at X a6 ⊢;have O:Hid _:=b6.below X;clear X b6;refine (yJ1 bb (m+2*k) 1 b' w5 O.bk d7 2 rfl).mono ?_;rintro e w6 ⟨rfl,Y⟩;rw [e6.out];have P:Hid _:=O.below Y;have e1:=aE0 a6 Y lR7;clear Y O a6;have c9:Hid _:=e1;clear e1;have e0:∀j,(Value.slice fa s.fs.length fc).ownBlock=some j->j<w6.heap.size:=fun j N=>(P.fils.lt j N).2
   have c7:Hid _:=e0;clear e0;go_upto_region 8 with fail;have D:=bel1 w6 (.cells #[.int .i64 y.id,.int .i64 y.side,.int .i64 y.kind,.int .i64 y.price,.int .i64 y.qty] 92);have l:=heap_alloc_new w6 (.cells #[.int .i64 y.id,.int .i64 y.side,.int .i64 y.kind,.int .i64 y.price,.int .i64 y.qty] 92);generalize w6.alloc (.cells #[.int .i64 y.id,.int .i64 y.side,.int .i64 y.kind,.int .i64 y.price,.int .i64 y.qty] 92)=w7 at D l ⊢;have b7:Hid _:=P.below D;have z:=aE0 c9 D lR7;have g6:=D.size;have x0:=aA0 (j:=0) z rfl;have x1:=aA0 (j:=1) z rfl;have x2:=aA0 (j:=2) z rfl;have x3:=aA0 (j:=3) z rfl;have x4:=aA0 (j:=4) z rfl;have y0:=aA0 (j:=0) l rfl;have y1:=aA0 (j:=1) l rfl;have y2:=aA0 (j:=2) l rfl;have y3:=aA0 (j:=3) l rfl;have y4:=aA0 (j:=4) l rfl;clear D z l c9 P;generalize w4.heap.size=xb at *;generalize w6.heap.size=yb at *;go_wp2_with fail;refine (vM0 x y p w7 g5).mono ?_;rintro e w8 ⟨rfl,Z⟩;have b8:Hid _:=b7.below Z;have g7:=Z.size;clear Z b7 x0 x1 x2 x3 x4 y0 y1 y2 y3 y4;go_upto_region 9 with fail;have a0:=bel1 w8 (.cells #[.int .i64 x.id,.int .i64 y.id,.int .i64 p,.int .i64 (min x.qty y.qty)] 146);have E:=heap_alloc_new w8 (.cells #[.int .i64 x.id,.int .i64 y.id,.int .i64 p,.int .i64 (min x.qty y.qty)] 146);generalize w8.alloc (.cells #[.int .i64 x.id,.int .i64 y.id,.int .i64 p,.int .i64 (min x.qty y.qty)] 146)=w9 at a0 E ⊢;have f3:=aA0 (j:=3) E rfl;have f2:=aB0 (j:=3) E;have c3:Hid _:=E;have b4:Hid _:=a0;clear E a0;go_upto_region 10 with fail;have C:=b4.setCell (p:=⟨w8.heap.size,3,none⟩) lR7 (.int .i64 (min x.qty (min y.qty s.q)));have i:=aJ0 (j:=3) (.int .i64 (min x.qty (min y.qty s.q))) c3;generalize w9.setCell ⟨w8.heap.size,3,none⟩ (.int .i64 (min x.qty (min y.qty s.q)))=w10 at C i ⊢;have d:Hid _:=b8.below C;have d9:(Value.slice fa s.fs.length fc).ownBlock≠some w8.heap.size:=fun e=>by have:=c7 _ e;omega
   have e8:Hid _:=d9;clear C b8 b4 c3 f3 f2 d9 c7 g6 g7;generalize w8.heap.size=fb at *;have J:Hid (FBox w10 fb ⟨x.id,y.id,p,min x.qty (min y.qty s.q)⟩):=i;have f0:aC0 w10 fb 0 (.int .i64 x.id):=aA0 (j:=0) i rfl;have f3:aC0 w10 fb 3 (.int .i64 (min x.qty (min y.qty s.q))):=aA0 (j:=3) i rfl;rw [e7.out] at B Q n1 n2;clear i;go_wp2_with fail;refine (tH0 bb (m+2*k) b' s.L x (min x.qty (min y.qty s.q)) w10 d.bk o7 d.lnk A.ok Q.out.1 ⟨n1,Q.out.2.2.2.2.1⟩).mono ?_;rintro e a8 ⟨g9,rfl,b1,d6,a3⟩;have u:=d.boxF a3 J;have g:Hid _:=d.goes a3 d6;have M:=hid7 u;clear f0 f3 d6 a3 d J;have f1:aC0 a8 fb 1 (.int .i64 y.id):=aA0 (j:=1) u rfl;have f3:aC0 a8 fb 3 (.int .i64 (min x.qty (min y.qty s.q))):=aA0 (j:=3) u rfl;clear u;go_wp2_with fail;refine (tH0 bb (m+2*k+1) b1 (bR0 x.id (min x.qty (min y.qty s.q)) s.L) y (min x.qty (min y.qty s.q)) a8 g.bk o7 g.lnk Q.out.2.2.1 Q.out.2.1 ⟨n1,Q.out.2.2.2.2.2⟩).mono ?_;rintro e n ⟨h0,rfl,b2,d8,a4⟩;have c:=g.boxF a4 M;have r:Hid _:=g.goes a4 d8;have c0:=hid7 c;clear f1 f3 d8 a4 g M;have g0:aC0 n fb 0 (.int .i64 x.id):=aA0 (j:=0) c rfl;have g1:aC0 n fb 1 (.int .i64 y.id):=aA0 (j:=1) c rfl;have g2:aC0 n fb 2 (.int .i64 p):=aA0 (j:=2) c rfl;have g3:aC0 n fb 3 (.int .i64 (min x.qty (min y.qty s.q))):=aA0 (j:=3) c rfl;clear c;have h5:s.fs.length<=100:=by have:=c5.out;omega
   have h8:w.heap.size<=n.heap.size:=r.since.1.size;go_wp2_with (at_builtin;refine wpList_append_own_at _ rfl _ _ 93 rfl w.heap.size 146 iF (.agg #[.int .i64 0,.int .i64 0,.int .i64 0,.int .i64 0]) 4 32 underlying93 f8 f4 f5 f6 rfl d7 _ s.fs.length (fV s.fs) rfl (r.out.fils.alloc _) ⟨n.heap.size,0,none⟩ 1 1 [.int .i64 x.id,.int .i64 y.id,.int .i64 p,.int .i64 (min x.qty (min y.qty s.q))] rfl rfl (World.news_of_block (cs:=#[.int .i64 x.id,.int .i64 y.id,.int .i64 p,.int .i64 (min x.qty (min y.qty s.q))]) (t:=146) (fr:=(0,0)) (heap_alloc_new n _)) (by simp [Value.oneCell']) (by unfold maxLen;omega) o7 (by simp;omega) ?_;intro h9 g8 v a _ _;have d0:=aF0 c0.out (r.out.pushed a) e8.out;have h3:aC0 g8 fb 3 (.int .i64 (min x.qty (min y.qty s.q))):=aA0 (j:=3) d0 rfl;have b5:Hid _:=r.out.push (f:=⟨x.id,y.id,p,min x.qty (min y.qty s.q)⟩) a v;clear d0 v a g0 g1 g2 g3);go_roundw
   case rel=>
    have f9:=c5.out;refine ⟨k+1,b2,?_,c6,?_,?_,?_⟩
    ·rw [F.out,B.out.2];try go_num
    ·rw [F.out,B.out.1,aN,bD,f9]
    ·rw [F.out,B.out.2];omega
    ·rw [F.out,B.out.1,Q.out.2.2.2.1];exact b5.out
   case measure=>simp [intOf];omega
  ·go_wp2_with fail;go_ret2;exact ⟨k,_,rfl,o7,HJ,b',HC⟩
structure MS where
 fs:List Fil
 L:List Ord
 q:Int
 ts:List Int
def mK0 (o x:Ord) (n:Int):Fil:=if o.side=1 then ⟨o.id,x.id,x.price,n⟩ else ⟨x.id,o.id,x.price,n⟩
def iN0 (o x:Ord) (s:MS):MS:=⟨s.fs++[mK0 o x (min s.q x.qty)],bR0 x.id (min s.q x.qty) s.L,s.q - min s.q x.qty,s.ts++[x.price]⟩
def farB (o x:Ord):Bool:=!decide (o.kind=2)&& (decide (o.side=1)&& decide (o.price<x.price) || decide (o.side=2)&& decide (x.price<o.price))
variable {al:Int->Bool} {o x:Ord} {T X:List Ord} {s:MS}
structure MOk (X:List Ord) (s:MS):Prop where
 ok:LOk s.L
 here:∀x∈X,x∈s.L
 ids:(X.map Ord.id).Nodup
 one:s.ts.length=s.fs.length
theorem MOk.pass (h:MOk (x::T) s):MOk T s:=⟨h.ok,fun y a=>h.here y (aQ _ a),(cP.1 h.ids).2,h.one⟩
theorem MOk.lots (h:MOk (x::T) s) (a:0<s.q):1<=min s.q x.qty/\min s.q x.qty<=x.qty/\min s.q x.qty<=s.q:=by
 have:=h.ok.ok x (h.here x (aK ..));omega
theorem MOk.step (o:Ord) (h:MOk (x::T) s) (d:0<s.q):MOk T (iN0 o x s):=by
 have h1:=(cP.1 h.ids);have f:=h.lots d;refine ⟨h.ok.less _ o7,fun y c=>?_,h1.2,?_⟩
 ·have a:y.id≠x.id:=fun e=>h1.1 (by rw [<-e];exact dM c)
  have b:=h.here y (aQ _ c);show y∈bR0 _ _ _;unfold bR0;rw [bM,bH];exact ⟨⟨y,b,kO0 a⟩,by have:=h.ok.ok y b;simpa using (show 0<y.qty by omega)⟩
 ·show (s.ts++[_]).length=(s.fs++[_]).length;rw [aN,aN,h.one];rfl
theorem MOk.start {l:List Ord} (h:LOk l) (t q:Int):MOk (aR0 t l) ⟨[],l,q,[]⟩:=⟨h,fun _ a=>(bD0.1 a).1,gO1 h t,rfl⟩
end
section
open Go.RowKit
def cC0 (al:List Int->Int->Bool) (o:Ord):List Ord->MS->MS×Bool
 | [],s=>(s,false)
 | x::T,s=>if s.q<=0 then (s,false) else if x.kind=2 then cC0 al o T s else if farB o x=true then (s,false) else if al s.ts x.price=true then cC0 al o T (iN0 o x s) else (s,true)
section
variable {al:List Int->Int->Bool} {o x:Ord} {T X:List Ord} {s:MS}
theorem eC0 (h:s.q<=0):∀X,cC0 al o X s=(s,false)
 | []=>rfl
 | _::_=>by unfold cC0;rw [aB h]
theorem vO0 (h:0<s.q) (hk:x.kind=2):cC0 al o (x::T) s=cC0 al o T s:=by
 rw [cC0,aA o7,aB hk]
theorem jZ0 (hk:x.kind=2):cC0 al o (x::T) s=cC0 al o T s:=by
 by_cases h:s.q<=0
 ·rw [eC0 h,eC0 h]
 ·exact vO0 o7 hk
theorem jB0 (h:0<s.q) (hk:x.kind≠2) (a:farB o x=true):cC0 al o (x::T) s=(s,false):=by
 rw [cC0,aA o7,aA hk,aB a]
theorem gT0 (h:0<s.q) (hk:x.kind≠2) (b:farB o x=false) (a:al s.ts x.price=false):cC0 al o (x::T) s=(s,true):=by
 rw [cC0,aA o7,aA hk,aA (by rw [b];decide),aA (by rw [a];decide)]
theorem fK0 (h:0<s.q) (hk:x.kind≠2) (b:farB o x=false) (a:al s.ts x.price=true):cC0 al o (x::T) s=cC0 al o T (iN0 o x s):=by
 rw [cC0,aA o7,aA hk,aA (by rw [b];decide),aB a]
end
theorem tI0 (al:List Int->Int->Bool) (o:Ord):∀(X:List Ord) (s:MS),(cC0 al o X s).1.fs.length<=s.fs.length+X.length/\(cC0 al o X s).1.ts.length<=s.ts.length+X.length
 | [],s=>⟨lR7,lR7⟩
 | x::T,s=>by
  have a:s.fs.length<=s.fs.length+(x::T).length/\s.ts.length<=s.ts.length+(x::T).length:=⟨bV _ _,bV _ _⟩;unfold cC0;split
  ·exact a
  ·split
   ·have:=tI0 al o T s;rw [aZ];omega
   ·split
    ·exact a
    ·split
     ·have h:=tI0 al o T (iN0 o x s);have b:(iN0 o x s).fs.length=s.fs.length+1:=by show (s.fs++[_]).length=_;rw [aN];rfl
      have c:(iN0 o x s).ts.length=s.ts.length+1:=by show (s.ts++[_]).length=_;rw [aN];rfl
      rw [aZ];omega
     ·exact a
structure StE (St:World->List Int->(Nat->Prop)->Prop):Prop where
 keep:∀{w w' ts D} {S:Nat->Prop},St w ts D->Out S w w'->(∀j,D j->¬S j)->St w' ts D
 far:∀{w ts D},St w ts D->∀j,D j->j<w.heap.size/\∀vs t fr,w.heap[j]? = some (R vs t fr)->t≠92/\t≠146
structure AskE (g:Nat) (fa la:Array Value) (al:List Int->Int->Bool) (St:World->List Int->(Nat->Prop)->Prop):Prop where
 enters:∀args w,(callFunc g args).run prog w=.ok (.enter g args) w
 tells:∀{W ts D},St W ts D->∀p:Int,1<=p->p<=1000000->Calls prog g (fa++#[U G p]++la) W fun e W'=>e=Y (.bool (al ts p))/\Below W.heap.size W W'
structure TellE (g:Nat) (fa la:Array Value) (St:World->List Int->(Nat->Prop)->Prop):Prop where
 enters:∀args w,(callFunc g args).run prog w=.ok (.enter g args) w
 tells:∀{W ts D},St W ts D->ts.length<=1000->∀p:Int,1<=p->p<=1000000->Calls prog g (fa++#[U G p]++la) W fun e W'=>e=Y (.tuple #[])/\∃D',St W' (ts++[p]) D'/\Out D W W'/\∀j,D' j->D j\/W.heap.size<=j
theorem aS2 (a:o.side=1\/o.side=2):wilP x.price o=!farB o x:=by
 unfold wilP farB;rcases a with h | h
 ·rw [h]
  by_cases hk:o.kind=2
  ·simp [hk]
  ·simp [hk];rw [<-decide_not];exact decide_eq_decide.2 o7
 ·rw [h]
  by_cases hk:o.kind=2
  ·simp [hk]
  ·simp [hk];rw [<-decide_not];exact decide_eq_decide.2 o7
theorem oK1 (o x:Ord) (w:World) (a:o.side=1\/o.side=2):
  Calls prog 270 #[.agg #[U G o.id,U G o.side,U G o.kind,U G o.price,U G o.qty],.agg #[U G x.id,U G x.side,U G x.kind,U G x.price,U G x.qty],U G x.price] w
   fun e w'=>e=Y (.agg #[U G (mK0 o x (min o.qty x.qty)).buyer,U G (mK0 o x (min o.qty x.qty)).seller,U G (mK0 o x (min o.qty x.qty)).price,U G (mK0 o x (min o.qty x.qty)).qty])/\Below w.heap.size w w':=by
 rcases a with h | h
 ·have e:mK0 o x (min o.qty x.qty)=⟨o.id,x.id,x.price,min o.qty x.qty⟩:=aB h;rw [e];exact vM0 o x x.price w (by rw [h];rfl)
 ·have e:mK0 o x (min o.qty x.qty)=⟨x.id,o.id,x.price,min x.qty o.qty⟩:=by unfold mK0;rw [aA o7,Int.min_comm]
  rw [e];exact jY1 o x x.price w (by rw [h];rfl)
structure Mp (w W:World) (bb m ob rb B:Nat) (vx vf:Value) (b b':BkS) (X:List Ord) (o:Ord) (s:MS) (St:World->List Int->(Nat->Prop)->Prop) (D0 D:Nat->Prop):Prop where
 old:w.heap.size<=ob/\w.heap.size<=rb/\ob≠rb/\ob<B/\rb<B
 row:W.ownsRow B 92 5 vx X.length (oV X)
 box:hU0 W ob (bX0 o s.q)
 res:ZBox W rb
 bk:Bk W bb m b'
 lnk:Lnk b'.S s.L
 fils:W.ownsRow w.heap.size 146 4 vf s.fs.length (fV s.fs)
 told:St W s.ts D
 out:Out (fun j=>b.foot bb j\/D0 j) w W
 went:Went w (b.foot bb) (b'.foot bb)
 dees:∀j,D j->D0 j\/w.heap.size<=j
 apart:∀j,D j->¬b'.foot bb j
section
variable {w W W':World} {bb m m' ob rb B:Nat} {vx vf:Value} {b b' b2:BkS} {X:List Ord} {o x:Ord} {s:MS} {St:World->List Int->(Nat->Prop)->Prop} {D0 D:Nat->Prop}
theorem Mp.below (c:StE St) (h:Mp w W bb m ob rb B vx vf b b' X o s St D0 D) (a:Below W.heap.size W W'):Mp w W' bb m ob rb B vx vf b b' X o s St D0 D:=
 ⟨h.old,aU0 h.row a lR7,aE0 h.box a lR7,aE0 h.res a lR7,h.bk.below a lR7,h.lnk,aU0 h.fils a lR7,c.keep h.told (aL (S:=fun _=>False) a lR7) (fun _ _ e=>e),aX0 h.out (aL a lR7),h.went,h.dees,h.apart⟩
theorem Mp.pushed (_:Mp w W bb m ob rb B vx vf b b' X o s St D0 D) {a:Obj} (c:(W.alloc a).grownBy W' vf.ownBlock):Out (fun j=>vf.ownBlock=some j) W W':=aX0 (dD0 (bL _ _) _) (Out.of_grown c (fun _ hk=>hk))
theorem Mp.push (d:StE St) (h:Mp w W bb m ob rb B vx vf b b' X o s St D0 D) {c:Obj} {v':Value} {f:Fil} (p:(W.alloc c).grownBy W' vf.ownBlock) (u:W'.ownsRow w.heap.size 146 4 v' (s.fs.length+1) (fV s.fs++[U G f.buyer,U G f.seller,U G f.price,U G f.qty])):
  Mp w W' bb m ob rb B vx v' b b' X o ⟨s.fs++[f],s.L,s.q,s.ts⟩ St D0 D:=by
 have a:=h.pushed p;refine ⟨h.old,aK0 h.row a (fun k hk=>bP0 h.row h.fils d7 hk),aF0 h.box a (aH0 h.fils h.box d7),aF0 h.res a (aH0 h.fils h.res d7),h.bk.out a (fun k hk e=>h.bk.farAny h.fils d7 d7 d7 d7 d7 k e hk),h.lnk,?_,d.keep h.told a (fun j t e=>?_),h.out.trans a (fun k hk=>aG (h.fils.lt k hk).1),h.went,h.dees,h.apart⟩
 ·rw [xL0,aN,bD];exact u
 ·rcases h.fils.2 with ⟨rfl,_⟩ | ⟨g,i,l,rfl,_,r,_⟩
  ·cases e
  ·have n:g=j:=by simpa [Value.ownBlock] using e
   subst n;exact ((d.far h.told _ t).2 _ _ _ r).2 rfl
theorem Mp.cut (d:StE St) (h:Mp w W bb m ob rb B vx vf b b' X o s St D0 D) {L':List Ord} (i:Goes W W' bb m' b' b2) (l:Lnk b2.S L'):
  Mp w W' bb m' ob rb B vx vf b b2 X o ⟨s.fs,L',s.q,s.ts⟩ St D0 D:=by
 obtain ⟨g,a,c⟩:=i;refine ⟨h.old,aK0 h.row a (h.bk.farAny h.row d7 d7 d7 d7 d7),aF0 h.box a (h.bk.farBox h.box d7 d7 d7 d7 d7),aF0 h.res a (h.bk.farBox h.res d7 d7 d7 d7 d7),g,l,aK0 h.fils a (h.bk.farAny h.fils d7 d7 d7 d7 d7),d.keep h.told a h.apart,h.out.trans a (fun k hk=>(h.went k hk).elim (fun e=>aH (aH e)) aG),fun k hk=>?_,h.dees,fun j f e=>?_⟩
 ·exact (c k hk).elim (h.went k) (fun e=>aG (aI h.out.size e))
 ·rcases c j e with e | e
  ·exact h.apart j f e
  ·have:=(d.far h.told _ f).1;omega
theorem Mp.left (d:StE St) (h:Mp w W bb m ob rb B vx vf b b' X o s St D0 D) (q:Int):
  Mp w (W.setCell ⟨ob,4,none⟩ (U G q)) bb m ob rb B vx vf b b' X o ⟨s.fs,s.L,q,s.ts⟩ St D0 D:=by
 have a:Out (fun j=>j=ob) W (W.setCell ⟨ob,4,none⟩ (U G q)):=aM0 W ⟨ob,4,none⟩ _;obtain ⟨i,n,l,p,r⟩:=h.old;have f:¬b'.foot bb ob:=h.bk.farBox h.box d7 d7 d7 d7 d7;refine ⟨h.old,aK0 h.row a (fun k hk e=>?_),aJ0 (j:=4) (U G q) h.box,aF0 h.res a (fun e=>l e.symm),h.bk.out a (fun k hk e=>f (by rw [<-show k=ob from e];exact hk)),h.lnk,aK0 h.fils a (fun k hk e=>aH0 h.fils h.box d7 (hk.trans (congrArg some e))),d.keep h.told a (fun j g e=>?_),h.out.trans a (fun k hk=>aG (by rw [show k=ob from hk];exact i)),h.went,h.dees,h.apart⟩
 ·have:=(h.row.lt k hk).1;have c:k=ob:=e;omega
 ·have c:j=ob:=e;subst c;exact ((d.far h.told _ g).2 _ _ _ h.box).1 rfl
theorem Mp.tell (A:StE St) (h:Mp w W bb m ob rb B vx vf b b' X o s St D0 D) {D':Nat->Prop} {p:Int} (i:St W' (s.ts++[p]) D') (c:Out D W W') (r:∀j,D' j->D j\/W.heap.size<=j):
  Mp w W' bb m ob rb B vx vf b b' X o ⟨s.fs,s.L,s.q,s.ts++[p]⟩ St D0 D':=by
 have H:=h.out.size
 have l:∀{k:Nat} {vs:Array Value} {t:TypeId} {fr:Nat×Nat},W.heap[k]? = some (R vs t fr)->(t=92\/t=146)->¬D k:=fun C i z=>by
  have:=(A.far h.told _ z).2 _ _ _ C;rcases i with e | e
  ·exact this.1 e
  ·exact this.2 e
 have u:∀{a:Nat} {e:TypeId} {size n:Nat} {v:Value} {xs:List Value},W.ownsRow a e size v n xs->(e=92\/e=146)->∀k,v.ownBlock=some k->¬D k:=fun G E k hk=>by
  rcases G.2 with ⟨rfl,_⟩ | ⟨g,x,y,rfl,_,F,_⟩
  ·cases hk
  ·have d:g=k:=by simpa [Value.ownBlock] using hk
   subst d;exact l F E
 refine ⟨h.old,aK0 h.row c (u h.row (aH rfl)),aF0 h.box c (l h.box (aH rfl)),aF0 h.res c (l h.res (aH rfl)),h.bk.out c (fun k hk e=>h.apart k e hk),h.lnk,aK0 h.fils c (u h.fils (aG rfl)),i,h.out.trans c (fun k hk=>(h.dees k hk).elim (fun e=>aH (aG e)) aG),h.went,fun j f=>?_,fun j f e=>?_⟩
 ·rcases r j f with e | e
  ·exact h.dees j e
  ·exact aG (aI H e)
 ·rcases r j f with d | d
  ·exact h.apart j d e
  ·have:=h.bk.lt e;omega
theorem Mp.start (n:StE St) {V:World} {L:List Ord} (h:Bk w bb m b) (r:Lnk b.S L) (f:St w [] D) (d:∀j,D j->¬b.foot bb j) (p:Below w.heap.size w V) (g:hU0 V ob o) (i:ZBox V rb) (h1:w.heap.size<=ob) (k:w.heap.size<=rb) (l:ob≠rb) (s:W.ownsRow V.heap.size 92 5 vx X.length (oV X)) (a:Below V.heap.size V W):
  Mp w W bb m ob rb V.heap.size vx (J none 0 0) b b X o ⟨[],L,o.qty,[]⟩ St D D:=by
 have c:=aD0 p a;exact ⟨⟨h1,k,l,lt_of_block g,lt_of_block i⟩,s,aE0 g a lR7,aE0 i a lR7,h.below c lR7,r,aU _ _ _ _,n.keep f (aL (S:=fun _=>False) c lR7) (fun _ _ e=>e),aL c lR7,aJ _ _,fun j q=>aH q,d⟩
theorem Mp.done (c:StE St) (h:Mp w W bb m ob rb B vx vf b b' X o s St D0 D):
  DBox (boxed W rb (bX0 o s.q)).drew rb (bX0 o s.q)/\(boxed W rb (bX0 o s.q)).drew.ownsRow w.heap.size 146 4 vf s.fs.length (fV s.fs)/\Bk (boxed W rb (bX0 o s.q)).drew bb m b'/\Lnk b'.S s.L/\St (boxed W rb (bX0 o s.q)).drew s.ts D/\Out (fun j=>b.foot bb j\/D0 j) w (boxed W rb (bX0 o s.q)).drew/\Went w (b.foot bb) (b'.foot bb)/\(∀j,D j->D0 j\/w.heap.size<=j):=by
 have a:=aW0 (hY0 W rb (bX0 o s.q))
 have d:DBox (boxed W rb (bX0 o s.q)).drew rb (bX0 o s.q):=by
  unfold DBox;rw [lB0];exact lX0 (bX0 o s.q) h.res
 generalize (boxed W rb (bX0 o s.q)).drew=W' at a d ⊢;obtain ⟨n,l,p,r,t⟩:=h.old;have g:¬b'.foot bb rb:=h.bk.farBox h.res d7 d7 d7 d7 d7;refine ⟨d,aK0 h.fils a (fun k hk e=>aH0 h.fils h.res d7 (hk.trans (congrArg some e))),h.bk.out a (fun k hk e=>g (by rw [<-show k=rb from e];exact hk)),h.lnk,c.keep h.told a (fun j i e=>?_),h.out.trans a (fun k hk=>aG (by rw [show k=rb from hk];exact l)),h.went,h.dees⟩;have f:j=rb:=e;subst f;exact ((c.far h.told _ i).2 _ _ _ h.res).1 rfl
end
def yL1 (al:List Int->Int->Bool) (o:Ord) (L:List Ord) (bb m:Nat) (b:BkS) (St:World->List Int->(Nat->Prop)->Prop) (D:Nat->Prop) (w:World) (e:Ending) (w':World):Prop:=
 ∃(s:MS) (t:Bool) (vf:Value) (b':BkS) (m':Nat) (D':Nat->Prop),cC0 al o (aR0 (3 - o.side) L) ⟨[],L,o.qty,[]⟩=(s,t)/\m'<=m+100/\e=Y (.tuple #[vf,.agg #[U G o.id,U G o.side,U G o.kind,U G o.price,U G s.q],.bool t])/\w'.ownsRow w.heap.size 146 4 vf s.fs.length (fV s.fs)/\Bk w' bb m' b'/\Lnk b'.S s.L/\St w' s.ts D'/\Out (fun j=>b.foot bb j\/D j) w w'/\Went w (b.foot bb) (b'.foot bb)/\∀j,D' j->D j\/w.heap.size<=j
theorem eI1 {c:List Int->Int->Bool} {bb m m':Nat} {b b':BkS} {St:World->List Int->(Nat->Prop)->Prop} {D a:Nat->Prop} {w':World} {s:MS} {t:Bool} {vf:Value} (h:cC0 c o (aR0 (3 - o.side) L) ⟨[],L,o.qty,[]⟩=(s,t)) (e:m'<=m+100) (d:w'.ownsRow w.heap.size 146 4 vf s.fs.length (fV s.fs)/\Bk w' bb m' b'/\Lnk b'.S s.L/\St w' s.ts a/\Out (fun j=>b.foot bb j\/D j) w w'/\Went w (b.foot bb) (b'.foot bb)/\∀j,a j->D j\/w.heap.size<=j):
  yL1 c o L bb m b St D w (Y (.tuple #[vf,.agg #[U G o.id,U G o.side,U G o.kind,U G o.price,U G s.q],.bool t])) w':=⟨s,t,vf,b',m',a,h,e,rfl,d⟩
structure Mkt where
 rs:List (Int×Int)
 st:Int
 dy:Int
 an:Int
 la:Int
 ti:Int
 mo:Int
 L:List Ord
 P:List Ord
 I:List Int
 ph:Int
 now:Int
 en:Int
 lo:Int
def jN0 (p:Int):Nat->FS->FS
 | 0,s=>s
 | n+1,s=>if s.q<=0 then s else jN0 p n (fF0 p s)
theorem fL0 (p:Int) (s:FS):∀k,aY0 p (fF0 p s) k=aY0 p s (k+1)
 | 0=>rfl
 | k+1=>by
  show fF0 p (aY0 p (fF0 p s) k)=fF0 p (aY0 p s (k+1));rw [fL0 p s k]
theorem aU1 {p:Int}:∀{K n:Nat} {s:FS},(aY0 p s K).q=0->(∀j,j<K->0<(aY0 p s j).q)->K<=n->jN0 p n s=aY0 p s K
 | 0,0,_,_,_,_=>rfl
 | 0,n+1,s,h,_,_=>by
  have b:s.q=0:=h;show (if s.q<=0 then s else _)=s;rw [aB o7]
 | K+1,0,_,_,_,hn=>by omega
 | K+1,n+1,s,h,hj,hn=>by
  have h0:0<s.q:=hj 0 o7;show (if s.q<=0 then s else jN0 p n (fF0 p s))=_;rw [aA o7,aU1 (K:=K) (by rw [fL0];exact h) (fun j a=>by rw [fL0];exact hj (j+1) o7) o7,fL0]
def kA0 (p q:Int) (L:List Ord):FS:=jN0 p (L.length+1) ⟨[],L,q⟩
theorem aV1 {q:Int} {K:Nat} (h:FOk p ⟨[],L,q⟩) (h0:(aY0 p ⟨[],L,q⟩ K).q=0) (a:∀j,j<K->0<(aY0 p ⟨[],L,q⟩ j).q):kA0 p q L=aY0 p ⟨[],L,q⟩ K:=by
 refine aU1 h0 a ?_;cases K with
 | zero=>omega
 | succ K=>
  have:=jY0 h K a;have e:(⟨[],L,q⟩:FS).L.length=L.length:=rfl;omega
def aI0 (m:Mkt):Quo:=aO0 (aS0 m.L m.la) m.la
def cW0 (m:Mkt):Quo:=if iA0 m.ph=true then aI0 m else ⟨0,0,0⟩
def dE0 (la:Int):List Int->Int
 | []=>la
 | p::ts=>dE0 p ts
theorem pJ0 (la:Int):∀(ts:List Int) (p:Int),dE0 la (ts++[p])=p
 | [],_=>rfl
 | x::ts,p=>pJ0 x ts p
def alM (m:Mkt) (ts:List Int) (p:Int):Bool:=dZ0 m.st m.dy m.an (dE0 m.la ts) p
def volM (m:Mkt):Mkt:={ m with ph:=4,en:=m.now+m.ti,lo:=0 }
def ordN (m:Mkt) (o:Ord):Int:=
 if (decide (1<=o.side)&& decide (o.side<=2))=false\/(decide (1<=o.kind)&& decide (o.kind<=4))=false\/o.id<1 then 1
 else if fA0 (lieO o).price o.qty=false then 2 else if eV0 m.ph o.kind=false then 6 else if o.id∈m.I then 9 else if 100<=m.L.length+m.P.length then 12 else 0
def bN0 (m:Mkt) (o:Ord):MS×Bool:=cC0 (alM m) o (aR0 (3 - o.side) m.L) ⟨[],m.L,o.qty,[]⟩
def eB0 (m:Mkt) (o:Ord):List Fil×Mkt:=
 ((bN0 m o).1.fs,if (bN0 m o).2=true then volM { m with L:=if 0<(bN0 m o).1.q/\o.kind≠2 then addL (bX0 o (bN0 m o).1.q) (bN0 m o).1.L else (bN0 m o).1.L,la:=dE0 m.la (bN0 m o).1.ts }
  else { m with L:=if 0<(bN0 m o).1.q/\o.kind≠2 then addL (bX0 o (bN0 m o).1.q) (bN0 m o).1.L else (bN0 m o).1.L,la:=dE0 m.la (bN0 m o).1.ts })
def eW0 (m:Mkt) (o:Ord):List Fil×Mkt:=
 if o.kind=4/\m.ph≠5 then ([],{ m with P:=m.P++[o] }) else if m.ph≠3 then ([],{ m with L:=addL o m.L }) else eB0 m o
def ordM (m:Mkt) (o:Ord):List Fil×Mkt:=if ordN m o=0 then eW0 { m with I:=m.I++[o.id] } (lieO o) else ([],m)
def kB0 (m:Mkt) (id:Int):Int:=if m.ph=7 then 6 else if 0<=idxO id m.P then 0 else canN id m.L
def canM (m:Mkt) (id:Int):Mkt:=if m.ph=7 then m else if 0<=idxO id m.P then { m with P:=dT0 (idxO id m.P).toNat m.P } else { m with L:=canL id m.L }
def limL (L:List Ord):List Ord:=L.filter fun o=>o.kind == 1
def uncM (m:Mkt):List Fil×Mkt:=
 if 0<(aI0 m).qty then ((kA0 (aI0 m).price (aI0 m).qty m.L).fs,{ m with L:=limL (kA0 (aI0 m).price (aI0 m).qty m.L).L,an:=(aI0 m).price,la:=(aI0 m).price })
 else ([],{ m with L:=limL m.L })
def kC0 (m:Mkt):Mkt:={ m with ph:=5,L:=m.P.foldl (fun L o=>addL o L) m.L,P:=[] }
def pK0 (m:Mkt):Int:=if m.ph=7 then 6 else 0
def kP0 (was is:Int) (m:Mkt):List Fil×Mkt:=
 if is=7 then ((if m.ph=5 then (uncM m).1 else []),{ (if m.ph=5 then (uncM m).2 else m) with L:=[],P:=[],ph:=7 })
 else if m.ph=6 then ([],m)
 else if was≠is/\is=3 then ((uncM m).1,{ (uncM m).2 with ph:=is })
 else if was≠is/\is=5 then ([],kC0 m)
 else if was≠is then ([],{ m with ph:=is })
 else if m.ph=4/\m.en<=m.now then
  (if (aI0 m).qty=0\/gI0 m.st m.an (aI0 m).price=true then ((uncM m).1,{ (uncM m).2 with ph:=3 })
   else if m.lo<m.mo then ([],{ m with lo:=m.lo+1,en:=m.now+m.ti })
   else ([],{ m with ph:=6 }))
 else ([],m)
def bT0 (m:Mkt):List Fil×Mkt:=if m.ph=7 then ([],m) else kP0 (phaseV m.rs m.now).1 (phaseV m.rs (m.now+1)).1 { m with now:=m.now+1 }
def kQ0 (m:Mkt):Int:=if m.ph=6\/m.ph=7 then 6 else 0
def fY0 (m:Mkt):Mkt:=if m.ph=6\/m.ph=7 then m else { m with ph:=6 }
def kD0 (m:Mkt):Int:=if m.ph=6 then 0 else 6
def eA0 (m:Mkt):Mkt:=if m.ph=6 then (if (phaseV m.rs m.now).1=3 then volM m else if (phaseV m.rs m.now).1=5 then kC0 m else { m with ph:=(phaseV m.rs m.now).1 }) else m
def eatL:Int->List Ord->List Ord
 | _,[]=>[]
 | n,x::T=>if n<x.qty then (if n<=0 then x::T else cutO n x::T) else eatL (n - x.qty) T
theorem oB0:∀{Z:List Ord},(∀o∈Z,1<=o.qty)->eatL 0 Z=Z
 | [],_=>rfl
 | x::T,h=>by
  have:=h x (aK ..);rw [eatL,aB o7,aB o7]
theorem xO0:∀{Z:List Ord} {n0 n:Int} {x:Ord} {T:List Ord},(∀o∈Z,1<=o.qty)->0<=n0->eatL n0 Z=x::T->1<=n->n<=x.qty->eatL (n0+n) Z=if x.qty=n then T else cutO n x::T
 | [],_,_,_,_,_,_,h,_,_=>by cases h
 | z::Z,n0,n,x,T,hz,h0,h,h1,h2=>by
  have j:=hz z (aK ..);have a:∀o∈Z,1<=o.qty:=fun o g=>hz o (aQ _ g)
  rw [eatL] at h ⊢
  by_cases f:n0<z.qty
  ·rw [aB f] at h
   by_cases b:n0<=0
   ·obtain rfl:n0=0:=o7;rw [aB b] at h;injection h with c d;subst c d;rw [Int.zero_add]
    by_cases e:z.qty=n
    ·rw [aA o7,aB e,show n - z.qty=0 by omega,oB0 a]
    ·rw [aB o7,aA o7,aA e]
   ·rw [aA b] at h;injection h with c d;subst c d;have i:(cutO n0 z).qty=z.qty - n0:=rfl;rw [i] at h2 ⊢
    by_cases e:z.qty - n0=n
    ·rw [aA o7,aB e,show n0+n - z.qty=0 by omega,oB0 a]
    ·rw [aB o7,aA o7,aA e]
     congr 1
     show ({ z with qty:=z.qty - (n0+n) }:Ord)={ z with qty:=z.qty - n0 - n };rw [Int.sub_sub]
  ·rw [aA f] at h;rw [aA o7,show n0+n - z.qty=n0 - z.qty+n by omega];exact xO0 a o7 h h1 h2
theorem oL1 {p:Int} {s:FS} (h:FOk p s):∀k,(∀j,j<k->0<(aY0 p s j).q)->0<=(aY0 p s k).q/\(aY0 p s k).q<=s.q
 | 0,_=>⟨h.nn,bP _⟩
 | k+1,hq=>by
  have h1:=iM0 h (k+1) hq;obtain ⟨_,c⟩:=oL1 h k (fun j a=>hq j o7);obtain ⟨⟨x,T,y,U,b⟩,_⟩:=jM0 (iM0 h k (fun j a=>hq j o7)) (hq k o7);have d:=b.2.2.2.2.2.2.2.1;have e:(aY0 p s (k+1)).q=(aY0 p s k).q - lotN (aY0 p s k):=rfl;exact ⟨h1.nn,o7⟩
theorem aW1 {p:Int} {s:FS} (h:FOk p s):∀k,(∀j,j<k->0<(aY0 p s j).q)->aR0 1 (aY0 p s k).L=eatL (s.q - (aY0 p s k).q) (aR0 1 s.L)/\aR0 2 (aY0 p s k).L=eatL (s.q - (aY0 p s k).q) (aR0 2 s.L)
 | 0,_=>by
  have c:∀t,∀o∈aR0 t s.L,1<=o.qty:=fun t o g=>(h.ok.ok o (bD0.1 g).1).2.2.1
  show aR0 1 s.L=eatL (s.q - s.q) _/\aR0 2 s.L=eatL (s.q - s.q) _;rw [Int.sub_self,oB0 (c 1),oB0 (c 2)];exact ⟨rfl,rfl⟩
 | k+1,c=>by
  have hk:∀j,j<k->0<(aY0 p s j).q:=fun j F=>c j o7
  have m:∀t,∀o∈aR0 t s.L,1<=o.qty:=fun t o g=>(h.ok.ok o (bD0.1 g).1).2.2.1
  obtain ⟨n,r⟩:=aW1 h k hk;have E:=oL1 h k hk;have f:=iM0 h k hk;obtain ⟨⟨x,T,y,U,a,b,_,_,C,D,_,u,G,v,w,_,B,_,_,d⟩,_⟩:=jM0 f (c k o7);have e:(aY0 p s (k+1)).q=(aY0 p s k).q - lotN (aY0 p s k):=rfl;have A:(aY0 p s (k+1)).L=bR0 y.id (lotN (aY0 p s k)) (bR0 x.id (lotN (aY0 p s k)) (aY0 p s k).L):=B;rw [e,A,show s.q - ((aY0 p s k).q - lotN (aY0 p s k))=s.q - (aY0 p s k).q+lotN (aY0 p s k) by omega];rw [a] at n;rw [b] at r;have i:x∈aR0 1 (aY0 p s k).L:=by rw [a];exact aK ..
  have z:aR0 2 (bR0 x.id (lotN (aY0 p s k)) (aY0 p s k).L)=y::U:=(pH0 f.ok i d7).trans b;have l:y∈aR0 2 (bR0 x.id (lotN (aY0 p s k)) (aY0 p s k).L):=by rw [z];exact aK ..
  refine ⟨?_,?_⟩
  ·rw [pH0 d l d7,aT1 f.ok a v,xO0 (m 1) o7 n.symm u v]
  ·rw [aT1 d z w,xO0 (m 2) o7 r.symm u w]
end
end Go.Proofs.YtaelphbianmckaaGreatDoor
