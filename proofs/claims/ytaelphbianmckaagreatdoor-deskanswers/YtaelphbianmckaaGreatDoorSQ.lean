/- DeskAnswers -/
import Derived.Test.YtaelphbianmckaaGreatDoorSO
import Derived.Test.YtaelphbianmckaaGreatDoorSP
import Derived.Test.YtaelphbianmckaaGreatDoorSN
open Go.Value renaming int->U, pointer->E, slice->J
open Go.IntKind renaming i64->G
open Go.Obj renaming cells->R
open Go.Ending renaming returned->Y
open Go.Proofs.Tryz
open Go.RowKit.Below renaming refl->aF
open Bool renaming true_and->eV
open List renaming mem_cons->aR, not_mem_nil->cL, mem_map->bH, mem_singleton->bC, cons_append->dL, length_map->bU, length_cons->aZ, length_append->aN, map_cons->bW, map_append->bK, take_succ_eq_append_getElem->aM
open Nat renaming le_trans->aI, le_succ->cH, lt_irrefl->eP, zero_add->bT, zero_le->aO, mul_le_mul_right->eF, le_of_eq->dA, mul_le_mul_left->fU
open Or renaming inr->aG, inl->aH
open Go.Proofs.YtaelphbianmckaaGreatDoor.Out renaming of_below->aL, refl->bL
open Go.Proofs.YtaelphbianmckaaGreatDoor.Went renaming refl->aJ
open Go.World renaming ownsRow_nil->aU
set_option maxHeartbeats 4000000
set_option maxRecDepth 100000
namespace Go.Proofs.YtaelphbianmckaaGreatDoor
variable {H:DsS} {bs:List Value} {B j:Nat} {W w:World}
section
open Go.RowKit
structure HsK where
 ta:Option Addr
 tc:Nat
 mb:Nat
 base:Nat
 bt:Nat
 ct:Nat
 vb:Value
 vp:Value
 vi:Value
def hsV (x:HsK) (H:DsS):Array Value:=#[J x.ta H.rs.length x.tc,U G H.st,U G H.dy,U G H.pr,U G H.ti,U G H.mo,E (match H.mkt with | some _=>some ⟨x.mb,0,none⟩ | none=>none)]
structure HsM (M:Mkt) (n:Nat):Prop where
 inv:∃lots side,DayInv M lots side 0 true/\NumI M lots
 lok:LOk M.L
 now:M.now<=(n:Int)
 ids:M.I.length<=n
def noF:Nat->Prop:=fun _=>False
structure HsIs (w:World) (lo hb:Nat) (x:HsK) (H:DsS) (n:Nat):Prop where
 box:w.heap[hb]? = some (R (hsV x H) 57 (0,0))
 slt:hb<lo/\lo<=w.heap.size
 rows:0<H.rs.length->∃tb,x.ta=some ⟨tb,0,none⟩/\cV0 w tb 0 H.rs/\lo<=tb/\∃cs f,w.heap[tb]? = some (R cs 86 f)
 mkt:∀M,H.mkt=some M->MkIs w noF x.base x.mb x.bt x.ct M x.vb x.vp x.vi/\HsM M n/\lo<=x.mb/\lo<=x.base/\x.base<=w.heap.size/\x.bt<x.base
def HsW (lo hb:Nat) (j:Nat):Prop:=j=hb\/lo<=j
section
variable {w w':World} {lo hb n:Nat} {x:HsK} {H:DsS} {M:Mkt}
theorem HsM.more {n':Nat} (h:HsM M n) (a:n<=n'):HsM M n':=⟨h.inv,h.lok,by have:=h.now;omega,aI h.ids a⟩
theorem HsM.num (h:HsM M n) (b:n<=1000000):MNum M:=by
 obtain ⟨lots,side,a,_⟩:=h.inv;exact a.num (by have:=h.now;omega)
theorem HsM.few (h:HsM M n):M.L.length+M.P.length<=100:=by
 obtain ⟨lots,side,a,_⟩:=h.inv;exact a.few
theorem HsIs.below (h:HsIs w lo hb x H n) (a:Below w.heap.size w w'):HsIs w' lo hb x H n:=by
 refine ⟨aE0 h.box a lR7,⟨h.slt.1,aI h.slt.2 a.size⟩,fun h0=>?_,fun M i=>?_⟩
 ·obtain ⟨j,h1,b,c,cs,f,d⟩:=h.rows h0;exact ⟨j,h1,b.below a lR7,c,cs,f,aE0 d a lR7⟩
 ·obtain ⟨h1,b,e,c,g,d⟩:=h.mkt M i;exact ⟨h1.below a,b,e,c,aI g a.size,d⟩
theorem HsIs.more {n':Nat} (h:HsIs w lo hb x H n) (d:n<=n'):HsIs w lo hb x H n':=⟨h.box,h.slt,h.rows,fun M c=>by
 obtain ⟨h1,a,b⟩:=h.mkt M c;exact ⟨h1,a.more d,b⟩⟩
theorem HsIs.ptr (h:HsIs w lo hb x H n):w.cell? ⟨hb,6,none⟩=some (E (match H.mkt with | some _=>some ⟨x.mb,0,none⟩ | none=>none)):=aA0 (j:=6) h.box rfl
theorem HsIs.ptr_no (h:HsIs w lo hb x H n) (a:H.mkt=none):w.cell? ⟨hb,6,none⟩=some (E none):=by rw [h.ptr,a]
theorem HsIs.ptr_yes (h:HsIs w lo hb x H n) (a:H.mkt=some M):w.cell? ⟨hb,6,none⟩=some (E (some ⟨x.mb,0,none⟩)):=by rw [h.ptr,a]
theorem HsIs.go {M':Mkt} {d i g:Value} (h:HsIs w lo hb x H n) (o:H.mkt=some M) (hk:MkIs w' noF x.base x.mb x.bt x.ct M' d i g) (c:Out (fun j=>j=x.mb\/x.vi.ownBlock=some j) w w') (y:HsM M' (n+1)):
  HsIs w' lo hb { x with vb:=d,vp:=i,vi:=g } { H with mkt:=some M' } (n+1)/\Out (HsW lo hb) w w':=by
 obtain ⟨h1,A,t,m,u,v⟩:=h.mkt M o;have b:∀j,j=x.mb\/x.vi.ownBlock=some j->lo<=j:=fun j k=>k.elim (fun e=>by omega) (fun e=>aI m (h1.ids.lt j e).1)
 refine ⟨⟨?_,⟨h.slt.1,aI h.slt.2 c.size⟩,fun h0=>?_,fun z e=>?_⟩,c.mono fun j k=>aG (b j k)⟩
 ·have:=aF0 h.box c (fun e=>by have:=b hb e;have:=h.slt.1;omega);unfold hsV at this ⊢;rw [o] at this;exact this
 ·obtain ⟨l,q,r,s,cs,f,a⟩:=h.rows h0
  have p:¬(l=x.mb\/x.vi.ownBlock=some l):=fun e=>by
   rcases e with e | e
   ·rw [e,h1.box] at a;injection a with a;injection a with _ a _;exact absurd a d7
   ·exact aH0 h1.ids a d7 e
  exact ⟨l,q,eG0 r c p,s,cs,f,aF0 a c p⟩
 ·cases e;exact ⟨hk,y,t,m,aI u c.size,v⟩
end
def oS0 (r:Int×List UInt8) (e:Ending):Prop:=∃t:ByteArray,e=Y (.tuple #[.string t,U G r.1])/\(r.1=0->t=baOf r.2)
def cF0 (w w':World) (lo hb n:Nat) (r:(Int×List UInt8)×DsS) (e:Ending):Prop:=oS0 r.1 e/\Out (HsW lo hb) w w'/\∃x',HsIs w' lo hb x' r.2 (n+1)
theorem oS0.ok {m:Int} {t:List UInt8} {v:ByteArray} (a:v=baOf t):oS0 (orE m t) (Y (.tuple #[.string v,U G m])):=by
 unfold orE;split
 ·rename_i h;exact ⟨v,by rw [h],fun _=>a⟩
 ·rename_i h;exact ⟨v,rfl,fun e=>absurd e h⟩
section
variable {w w':World} {lo hb n:Nat} {x:HsK} {H:DsS}
theorem HsIs.stay (h:HsIs w lo hb x H n) (a:Below w.heap.size w w') {r:Int×List UInt8} {e:Ending} (b:oS0 r e):cF0 w w' lo hb n (r,H) e:=
 ⟨b,aL a lR7,x,(h.below a).more (cH n)⟩
theorem HsIs.told (h:HsIs w lo hb x H n) {H':DsS} (b:Out (fun j=>j=hb) w w') (a:w'.heap[hb]? = some (R (hsV x H') 57 (0,0))) (p:H'.rs=H.rs) (o:H'.mkt=none):
  HsIs w' lo hb x H' (n+1)/\Out (HsW lo hb) w w':=by
 refine ⟨⟨a,⟨h.slt.1,aI h.slt.2 b.size⟩,fun h0=>?_,fun M e=>by rw [o] at e;cases e⟩,b.mono fun j m=>aH m⟩;rw [p] at h0 ⊢;obtain ⟨d,g,i,k,cs,f,l⟩:=h.rows h0;have c:¬d=hb:=fun e=>by have:=h.slt.1;omega
 exact ⟨d,g,eG0 i b c,k,cs,f,aF0 l b c⟩
end
end
section
open Go.RowKit Go.Shelf
theorem gJ2 (la:Option Addr) (c:Nat) (l:List Int) (lo a n:Nat) (x:HsK) (H:DsS) (w:World) (h:HsIs w lo a x H n):
  Calls prog 16 #[E (some ⟨a,0,none⟩),.string ⟨#[104,101,108,112]⟩,J la l.length c] w fun e w'=>cF0 w w' lo a n (aZ0 17 l H) e:=by
 have b:=hid7 h;clear h;go_enter func16,ntmps16;go_wp2_with fail;go_ret2;exact b.out.stay (aF _ _) ⟨_,rfl,fun _=>rfl⟩
theorem cX2 (la:Option Addr) (f:Nat) (l:List Int) (lo a n:Nat) (x:HsK) (H:DsS) (w:World) (h:HsIs w lo a x H n):
  Calls prog 16 #[E (some ⟨a,0,none⟩),.string ⟨#[99,108,101,97,114]⟩,J la l.length f] w fun e w'=>cF0 w w' lo a n (aZ0 16 l H) e:=by
 have b:=hid7 h;have i:=aA0 (j:=0) h.box rfl;have k:=aA0 (j:=1) h.box rfl;have m:=aA0 (j:=2) h.box rfl;have o:=aA0 (j:=3) h.box rfl;have p:=aA0 (j:=4) h.box rfl;have q:=aA0 (j:=5) h.box rfl;have r:=aA0 (j:=6) h.box rfl;have s:=aB0 (j:=0) h.box;have t:=aB0 (j:=1) h.box;have u:=aB0 (j:=2) h.box;have v:=aB0 (j:=3) h.box;have y:=aB0 (j:=4) h.box;have z:=aB0 (j:=5) h.box;have A:=aB0 (j:=6) h.box;have d:Hid _:=aJ0 (j:=6) (E none) (aJ0 (j:=5) (U G 0) (aJ0 (j:=4) (U G 0) (aJ0 (j:=3) (U G 0) (aJ0 (j:=2) (U G 0) (aJ0 (j:=1) (U G 0) (aJ0 (j:=0) (J none 0 0) h.box))))));have c:Hid _:=(((((((bL (fun j=>j=a) w).trans (aM0 w ⟨a,0,none⟩ (J none 0 0)) (aJ _ _)).trans (aM0 _ ⟨a,1,none⟩ (U G 0)) (aJ _ _)).trans (aM0 _ ⟨a,2,none⟩ (U G 0)) (aJ _ _)).trans (aM0 _ ⟨a,3,none⟩ (U G 0)) (aJ _ _)).trans (aM0 _ ⟨a,4,none⟩ (U G 0)) (aJ _ _)).trans (aM0 _ ⟨a,5,none⟩ (U G 0)) (aJ _ _)).trans (aM0 _ ⟨a,6,none⟩ (E none)) (aJ _ _);clear h;go_enter func16,ntmps16;go_wp2_with fail;go_ret2;refine ⟨⟨_,rfl,fun _=>rfl⟩,c.out.mono fun j g=>aH g,{ x with ta:=none,tc:=0 },⟨d.out,⟨b.out.slt.1,aI b.out.slt.2 c.out.size⟩,fun h0=>?_,fun M e=>?_⟩⟩
 ·exact absurd h0 (eP 0)
 ·cases e
theorem cY2 (la:Option Addr) (m:Nat) (l:List Int) (lo a n:Nat) (x:HsK) (H:DsS) (w:World) (h:HsIs w lo a x H n) (b:ArgIs w a la l) (q:l.length=3) (c:H.mkt=none):
  Calls prog 16 #[E (some ⟨a,0,none⟩),.string ⟨#[98,97,110,100,115]⟩,J la l.length m] w fun e w'=>cF0 w w' lo a n (aZ0 1 l H) e:=by
 have d:=hid7 h;have f:=hid7 c;obtain ⟨g,rfl,L,z⟩:=b.cells 0 o7;obtain ⟨I,o,_,A⟩:=b.cells 1 o7;obtain ⟨K,p,_,B⟩:=b.cells 2 o7;cases o;cases p;have y:=h.ptr_no c;have t:=aA0 (j:=1) h.box rfl;have u:=aA0 (j:=2) h.box rfl;have v:=aA0 (j:=3) h.box rfl;have C:=aB0 (j:=1) h.box;have D:=aB0 (j:=2) h.box;have F:=aB0 (j:=3) h.box;have k:Hid _:=aJ0 (j:=3) (U G (nI l 2)) (aJ0 (j:=2) (U G (nI l 1)) (aJ0 (j:=1) (U G (nI l 0)) h.box));have i:Hid _:=(((bL (fun j=>j=a) w).trans (aM0 w ⟨a,1,none⟩ (U G (nI l 0))) (aJ _ _)).trans (aM0 _ ⟨a,2,none⟩ (U G (nI l 1))) (aJ _ _)).trans (aM0 _ ⟨a,3,none⟩ (U G (nI l 2))) (aJ _ _);clear h b c;rw [q];go_enter func16,ntmps16;go_upto_region 27 with fail;go_region;go_wp2_with fail;go_ret2;obtain ⟨r,s⟩:=d.out.told (H':={ H with st:=nI l 0,dy:=nI l 1,pr:=nI l 2 }) (aW0 i.out) k.out rfl f.out;exact ⟨⟨_,rfl,fun _=>rfl⟩,s,x,r⟩
theorem rT1 (la:Option Addr) (m:Nat) (l:List Int) (lo a n:Nat) (x:HsK) (H:DsS) (w:World) (h:HsIs w lo a x H n) (c:ArgIs w a la l) (p:l.length=2) (b:H.mkt=none):
  Calls prog 16 #[E (some ⟨a,0,none⟩),.string ⟨#[97,117,99,116,105,111,110]⟩,J la l.length m] w fun e w'=>cF0 w w' lo a n (aZ0 2 l H) e:=by
 have d:=hid7 h;have f:=hid7 b;obtain ⟨g,rfl,C,v⟩:=c.cells 0 o7;obtain ⟨B,o,_,y⟩:=c.cells 1 o7;cases o;have u:=h.ptr_no b;have s:=aA0 (j:=4) h.box rfl;have t:=aA0 (j:=5) h.box rfl;have z:=aB0 (j:=4) h.box;have A:=aB0 (j:=5) h.box;have k:Hid _:=aJ0 (j:=5) (U G (nI l 1)) (aJ0 (j:=4) (U G (nI l 0)) h.box);have i:Hid _:=((bL (fun j=>j=a) w).trans (aM0 w ⟨a,4,none⟩ (U G (nI l 0))) (aJ _ _)).trans (aM0 _ ⟨a,5,none⟩ (U G (nI l 1))) (aJ _ _);clear h c b;rw [p];go_enter func16,ntmps16;go_upto_region 29 with fail;go_region;go_wp2_with fail;go_ret2;obtain ⟨q,r⟩:=d.out.told (H':={ H with ti:=nI l 0,mo:=nI l 1 }) (aW0 i.out) k.out rfl f.out;exact ⟨⟨_,rfl,fun _=>rfl⟩,r,x,q⟩
theorem gK2 (la:Option Addr) (A:Nat) (l:List Int) (lo c n:Nat) (x:HsK) (H:DsS) (w:World) (h:HsIs w lo c x H n) (p:ArgIs w c la l) (D:l.length=2) (t:DsVars w):
  Calls prog 16 #[E (some ⟨c,0,none⟩),.string ⟨#[98,97,110,100]⟩,J la l.length A] w fun e w'=>cF0 w w' lo c n (aZ0 15 l H) e:=by
 have v:=hid7 h;have y:=hid7 t;obtain ⟨g,rfl,C,q⟩:=p.cells 0 o7;obtain ⟨F,B,_,r⟩:=p.cells 1 o7;cases B;have f:Hid (∀V,Below w.heap.size w V->(fun w':World=>w'.cell? ⟨g,0,none⟩=some (U G (nI l 0))/\w'.cell? ⟨g,1,none⟩=some (U G (nI l 1))) V):=fun V hV=>⟨aQ0 hV q,aQ0 hV r⟩
 clear h p t q r C;rw [D];go_enter func16,ntmps16;go_upto_region 16 with fail;refine bB0 (fun _=>fun w':World=>w'.cell? ⟨g,0,none⟩=some (U G (nI l 0))/\w'.cell? ⟨g,1,none⟩=some (U G (nI l 1))) (fun _ i=>i == 6) k7 (fun _=>f.out _ (aF _ _).drew) (fun hHeld=>?_);have o:Below w.heap.size w w.drew:=(aF _ _).drew;generalize w.drew=wz at o hHeld ⊢;refine tkM9 0 0 (hHeld 0) ?_;refine tkM9 0 1 (hHeld 0) ?_;refine tkM9 0 2 (hHeld 0) ?_;refine tkM9 0 3 (hHeld 0) ?_;refine tkM9 0 4 (hHeld 0) ?_;refine tkM9 0 5 (hHeld 0) ?_;refine aT0 (i:=6) k7 rfl (fun K s=>?_);go_simp;refine (nF0 (nI l 0) (nI l 1) wz).mono ?_;rintro e w1 ⟨rfl,rfl⟩;have a:=hid7 o;refine s.out _ _ (fun _ h=>by cases h) ?_;clear s K hHeld o;refine puM9 7 ?_;refine puM9 8 ?_;refine puM9 9 ?_;refine puM9 10 ?_;refine puM9 11 ?_;refine puM9 12 ?_;refine puM9 13 ?_;refine bI0 k7 ?_ _;obtain ⟨k,m⟩:=yK0 (nI l 0) (nI l 1);have j:=hid7 (y.out.tab.below a.out);go_wp2_with fail
 refine (nG0 w1 [bandL (nI l 0) (nI l 1),bandH (nI l 0) (nI l 1)] (fun z u=>by
  simp only [aR,cL,or_false] at u;rcases u with rfl | rfl
  ·exact k
  ·exact m) s7 s7 j.out).mono ?_
 rintro e I ⟨rfl,b⟩;have d:=hid7 (aD0 a.out b);clear b;go_wp2_with fail;go_ret2;exact v.out.stay d.out (oS0.ok rfl)
section
variable {M:Mkt} {n:Nat}
theorem HsM.halt (h:HsM M n):HsM (fY0 M) (n+1):=by
 obtain ⟨lots,side,b,a⟩:=h.inv;exact ⟨⟨lots,side,b.haltT,⟨a.kd.halt,a.lot⟩⟩,xE1 h.lok,by rw [(wA0 M).2];have:=h.now;omega,by rw [bW2];have:=h.ids;omega⟩
theorem HsM.open_ (h:HsM M n):HsM (eA0 M) (n+1):=by
 obtain ⟨lots,side,b,a⟩:=h.inv;exact ⟨⟨lots,side,b.openT,⟨a.kd.open_,a.lot⟩⟩,xF1 h.lok,by rw [(wB0 M).2];have:=h.now;omega,by rw [bX2];have:=h.ids;omega⟩
theorem HsM.can (h:HsM M n) (id:Int):HsM (canM M id) (n+1):=by
 obtain ⟨lots,side,b,a⟩:=h.inv;exact ⟨⟨lots,side,(b.cancel id).hT,⟨a.kd.can _,a.lot⟩⟩,cW2 h.lok id,by rw [(cD1 M id).2];have:=h.now;omega,by rw [fR2];have:=h.ids;omega⟩
theorem HsM.tick (h:HsM M n) (k:n<=5000):HsM (bT0 M).2 (n+1)/\(∀f∈(bT0 M).1,filI f)/\(bT0 M).1.length<=101/\in64 (bT0 M).2.now:=by
 obtain ⟨lots,side,c,g⟩:=h.inv;obtain ⟨h1,b⟩:=yL0 c h.lok g;have j:=c.few;obtain ⟨e,_,i⟩:=uE0 h.lok o7;have d:=h.now;refine ⟨⟨b,xD1 h.lok,o7,by rw [bV2];have:=h.ids;omega⟩,h1,e,?_⟩;obtain ⟨_,_,a,_⟩:=b;have:=a.now;exact bQ0 o7
theorem HsM.ord (h:HsM M n) {o:Ord} (h1:in64 o.id) (b:in64 o.kind) (c:in64 o.price):HsM (ordM M o).2 (n+1)/\(∀f∈(ordM M o).1,filI f)/\(ordM M o).1.length<=101:=by
 obtain ⟨lots,side,a,j⟩:=h.inv;obtain ⟨d,e⟩:=yM0 (o:=o) a h.lok j h1 b c;have k:=a.few;obtain ⟨g,_,i⟩:=rH0 (M:=M) (o:=o) o7;exact ⟨⟨e,cV2 h.lok o,by rw [i];have:=h.now;omega,by have:=fS2 M o;have:=h.ids;omega⟩,d,g⟩
theorem HsM.ph (h:HsM M n):1<=M.ph/\M.ph<=7:=by
 obtain ⟨lots,side,a,_⟩:=h.inv;have b:=pM0 (now:=M.now) a.tab;rcases a.ph with e | ⟨e,_⟩ | e <;> omega
end
section
variable {w w':World} {lo hb n:Nat} {x:HsK} {H:DsS} {M:Mkt}
theorem HsIs.asks (h:HsIs w lo hb x H n) (c:H.mkt=some M) (b:aL0 w w') {r:Int×List UInt8} {e:Ending} (d:oS0 r e):cF0 w w' lo hb n (r,{ H with mkt:=some M }) e:=by
 have a:{ H with mkt:=some M }=H:=by rw [<-c]
 rw [a];exact h.stay b d
theorem HsIs.turned {M':Mkt} {W:World} {a c b:Value} (h:HsIs w lo hb x H n) (g:H.mkt=some M) (hk:MkIs W noF x.base x.mb x.bt x.ct M' a c b) (k:Out (fun j=>j=x.mb\/x.vi.ownBlock=some j) w W) (f:HsM M' (n+1)) (d:aL0 W w') {r:Int×List UInt8} {e:Ending} (i:oS0 r e):
  cF0 w w' lo hb n (r,{ H with mkt:=some M' }) e:=by
 obtain ⟨l,m⟩:=h.go g hk k f;exact ⟨i,aX0 m (aL d lR7),_,l.below d⟩
end
theorem hY1 {w':World} {x:HsK} (h:Out (fun j=>j=x.mb) w w'):Out (fun j=>j=x.mb\/x.vi.ownBlock=some j) w w':=h.mono fun _ e=>aH e
theorem gL2 (la:Option Addr) (q:Nat) (l:List Int) (lo hb n:Nat) (x:HsK) (H:DsS) (M:Mkt) (w:World) (h:HsIs w lo hb x H n) (b:H.mkt=some M) (A:n<=5000):
  Calls prog 16 #[E (some ⟨hb,0,none⟩),.string ⟨#[104,97,108,116]⟩,J la l.length q] w fun e w'=>cF0 w w' lo hb n (aZ0 8 l H) e:=by
 have j:Hid (aZ0 8 l H=((cK0 8 l M).1,{ H with mkt:=some (cK0 8 l M).2 })):=bS0 d7 l b;have i:=hid7 h;have o:=hid7 b;have z:=h.ptr_yes b;obtain ⟨hk,a,v,u,s,t⟩:=h.mkt M b;have m:=hid7 hk;have y:=hid7 a;have p:Hid (MNum M):=a.num o7;have g:=a.few;have f:=hid7 a.halt;clear h b hk a;go_enter func16,ntmps16;go_wp2_with fail;refine (fB2 noF x.base x.mb x.bt x.ct M x.vb x.vp x.vi w m).mono ?_;rintro e w1 ⟨rfl,c,d⟩;have k:Hid _:=i.turned (r:=orE (kQ0 M) (eZ0 8)) (e:=Y (.tuple #[.string ⟨#[104,97,108,116]⟩,U G (kQ0 M)])) o c (hY1 d) f (aF _ _) (oS0.ok rfl);clear c d;go_wp2_with fail;go_ret2;rw [j.out];exact k
theorem gM2 (la:Option Addr) (s:Nat) (l:List Int) (lo hb n:Nat) (x:HsK) (H:DsS) (M:Mkt) (w:World) (h:HsIs w lo hb x H n) (c:H.mkt=some M) (C:n<=5000):
  Calls prog 16 #[E (some ⟨hb,0,none⟩),.string ⟨#[111,112,101,110]⟩,J la l.length s] w fun e w'=>cF0 w w' lo hb n (aZ0 9 l H) e:=by
 have m:Hid (aZ0 9 l H=((cK0 9 l M).1,{ H with mkt:=some (cK0 9 l M).2 })):=bS0 d7 l c;have k:=hid7 h;have q:=hid7 c;have B:=h.ptr_yes c;obtain ⟨hk,b,v,u,i,t⟩:=h.mkt M c;have p:=hid7 hk;have A:=hid7 b;have a:Hid (MNum M):=b.num o7;have j:=b.few;have g:=hid7 b.open_;clear h c hk b;go_enter func16,ntmps16;go_wp2_with fail;refine (fK2 noF x.base x.mb x.bt x.ct M x.vb x.vp x.vi w p o7 o7 i a.rs (by have:=a.now;omega) (by have:=a.ti;omega)).mono ?_;rintro e w1 ⟨rfl,y,z,d,f⟩;have o:Hid _:=k.turned (r:=orE (kD0 M) (eZ0 9)) (e:=Y (.tuple #[.string ⟨#[111,112,101,110]⟩,U G (kD0 M)])) q d (hY1 f) g (aF _ _) (oS0.ok rfl);clear d f;go_wp2_with fail;go_ret2;rw [m.out];exact o
theorem xG1 (la:Option Addr) (u:Nat) (l:List Int) (lo hb n:Nat) (x:HsK) (H:DsS) (M:Mkt) (w:World) (h:HsIs w lo hb x H n) (j:ArgIs w hb la l) (z:l.length=1) (b:H.mkt=some M) (L:n<=5000):
  Calls prog 16 #[E (some ⟨hb,0,none⟩),.string ⟨#[99,97,110,99,101,108]⟩,J la l.length u] w fun e w'=>cF0 w w' lo hb n (aZ0 6 l H) e:=by
 have o:Hid (aZ0 6 l H=((cK0 6 l M).1,{ H with mkt:=some (cK0 6 l M).2 })):=bS0 d7 l b;have m:=hid7 h;have s:=hid7 b;have I:=h.ptr_yes b;obtain ⟨hk,a,B,A,i,y⟩:=h.mkt M b;have q:=hid7 hk;have F:=hid7 a;have t:Hid (MNum M):=a.num o7;have k:=a.few;have f:Hid (HsM (canM M (nI l 0)) (n+1)):=a.can _;obtain ⟨g,rfl,K,v⟩:=j.cells 0 o7;clear h b hk a j;rw [z];go_enter func16,ntmps16;go_wp2_with fail;refine (vX1 noF x.base x.mb x.bt x.ct M x.vb x.vp x.vi (nI l 0) w q o7 o7 i).mono ?_;rintro e w1 ⟨rfl,C,D,c,d⟩;have p:Hid _:=m.turned (r:=orE (kB0 M (nI l 0)) (eZ0 6)) (e:=Y (.tuple #[.string ⟨#[99,97,110,99,101,108]⟩,U G (kB0 M (nI l 0))])) s c (hY1 d) f (aF _ _) (oS0.ok rfl);clear c d v;go_wp2_with fail;go_ret2;rw [o.out];exact p
theorem cZ2 (la:Option Addr) (N:Nat) (l:List Int) (lo hb n:Nat) (x:HsK) (H:DsS) (M:Mkt) (w:World) (h:HsIs w lo hb x H n) (g:H.mkt=some M) (Z:n<=5000) (v:gV0 w):
  Calls prog 16 #[E (some ⟨hb,0,none⟩),.string ⟨#[113,117,111,116,101]⟩,J la l.length N] w fun e w'=>cF0 w w' lo hb n (aZ0 11 l H) e:=by
 have B:Hid (aZ0 11 l H=((cK0 11 l M).1,{ H with mkt:=some (cK0 11 l M).2 })):=bS0 d7 l g;have A:=hid7 h;have F:=hid7 g;have L:=h.ptr_yes g;obtain ⟨hk,f,T,S,O,P⟩:=h.mkt M g;have D:=hid7 hk;have C:=hid7 f;have d:Hid (MNum M):=f.num o7;have u:=f.few;have K:=hid7 v;obtain ⟨m,o,p⟩:=eW1 f.lok o7 d.la;clear h g hk f v;go_enter func16,ntmps16;go_wp2_with fail;refine (bD2 noF x.base x.mb x.bt x.ct M x.vb x.vp x.vi w D o7 C.lok d.la).mono ?_;rintro e w1 ⟨rfl,i⟩;have r:=hid7 i;have q:qAgg (cW0 M)=.agg #[U G (cW0 M).price,U G (cW0 M).qty,U G (cW0 M).sur]:=rfl;rw [q];clear i q L;generalize t:cW0 M=Q at m o p ⊢;have I:=hid7 t;clear t;go_upto_region 55 with fail;have c:=heap_alloc_new w1 (R #[U G Q.price,U G Q.qty,U G Q.sur] 107);have b:=bel1 w1 (R #[U G Q.price,U G Q.qty,U G Q.sur] 107);have a:=hid7 (aD0 r b);generalize w1.alloc (R #[U G Q.price,U G Q.qty,U G Q.sur] 107)=W at c b a ⊢;generalize w1.heap.size=xb at c ⊢;have V:=aA0 (j:=0) c rfl;have X:=aA0 (j:=1) c rfl;have Y:=aA0 (j:=2) c rfl;clear c b;go_wp2_with fail
 refine (nG0 W [Q.price,Q.qty,Q.sur] (fun z y=>by
  simp only [aR,cL,or_false] at y;rcases y with rfl | rfl | rfl
  ·exact m
  ·exact o
  ·exact p) s7 s7 (K.below a)).mono ?_
 rintro e w3 ⟨rfl,k⟩;have s:=hid7 (aD0 a k);clear k V X Y;go_wp2_with fail;go_ret2;rw [B.out];refine A.asks F s ?_;show oS0 (0,rowT [(cW0 M).price,(cW0 M).qty,(cW0 M).sur]) _;rw [I.out];exact ⟨_,rfl,fun _=>rfl⟩
theorem gN2 (la:Option Addr) (C:Nat) (l:List Int) (lo hb n:Nat) (x:HsK) (H:DsS) (M:Mkt) (w:World) (h:HsIs w lo hb x H n) (g:H.mkt=some M) (Q:n<=5000) (s:gV0 w):
  Calls prog 16 #[E (some ⟨hb,0,none⟩),.string ⟨#[114,101,102,115]⟩,J la l.length C] w fun e w'=>cF0 w w' lo hb n (aZ0 12 l H) e:=by
 have v:Hid (aZ0 12 l H=((cK0 12 l M).1,{ H with mkt:=some (cK0 12 l M).2 })):=bS0 d7 l g;have u:=hid7 h;have y:=hid7 g;have P:=h.ptr_yes g;obtain ⟨hk,d,L,I,D,F⟩:=h.mkt M g;have O:=hid7 hk;have N:=hid7 d;have A:Hid (MNum M):=d.num o7;have r:=d.few;have B:=hid7 s
 have k:in64 M.an/\in64 M.la:=by
  obtain ⟨lots,side,q,_⟩:=d.inv;exact ⟨bQ0 (by have:=q.an;omega),bQ0 (by have:=q.la;omega)⟩
 have o:aC0 w x.mb 3 (U G M.an):=aA0 (j:=3) hk.box rfl;have p:aC0 w x.mb 4 (U G M.la):=aA0 (j:=4) hk.box rfl;have a:Hid (∀V,aL0 w V->(fun w':World=>aC0 w' x.mb 3 (U G M.an)/\aC0 w' x.mb 4 (U G M.la)) V):=fun V hV=>⟨aQ0 hV o,aQ0 hV p⟩
 clear h g hk d s o p;go_enter func16,ntmps16;go_upto_region 57 with fail;refine bB0 (fun _=>fun w':World=>aC0 w' x.mb 3 (U G M.an)/\aC0 w' x.mb 4 (U G M.la)) (fun _ _=>false) k7 (fun _=>a _ (aF _ _).drew) (fun hHeld=>?_);have c:aL0 w w.drew:=(aF _ _).drew;generalize w.drew=wz at c hHeld ⊢;refine tkM9 0 0 (hHeld 0) ?_;refine tkM9 0 1 (hHeld 0) ?_;refine tkM9 0 2 (hHeld 0) ?_;refine tkM9 0 3 (hHeld 0) ?_;refine tkM9 0 4 (hHeld 0) ?_;refine tkM9 0 5 (hHeld 0) ?_;refine tkM9 0 6 (hHeld 0) ?_;refine tkM9 0 7 (hHeld 0) ?_;refine aT0 (i:=8) k7 rfl (fun K f=>?_);go_simp;refine f.out _ _ (fun _ _ _=>a _ (aD0 c (bel1 wz _))) ?_;clear f K hHeld;refine aT0 (i:=9) k7 rfl (fun K f=>?_);go_simp
 refine (nG0 wz [M.an,M.la] (fun z t=>by
  simp only [aR,cL,or_false] at t;rcases t with rfl | rfl
  ·exact k.1
  ·exact k.2) s7 s7 (B.below c)).mono ?_
 rintro e R ⟨rfl,m⟩;have b:=hid7 (aD0 c m);refine f.out _ _ (fun _ _ _=>a _ b) ?_;clear f K m c;refine puM9 10 ?_;refine puM9 11 ?_;refine bI0 k7 ?_ _;go_wp2_with fail;go_ret2;rw [v.out];refine u.asks y b ?_;exact ⟨_,rfl,fun _=>rfl⟩
theorem xH1 (la:Option Addr) (z:Nat) (l:List Int) (lo hb n:Nat) (x:HsK) (H:DsS) (M:Mkt) (w:World) (h:HsIs w lo hb x H n) (d:H.mkt=some M) (O:n<=5000) (q:gV0 w):
  Calls prog 16 #[E (some ⟨hb,0,none⟩),.string ⟨#[112,97,114,107,101,100]⟩,J la l.length z] w fun e w'=>cF0 w w' lo hb n (aZ0 14 l H) e:=by
 have s:Hid (aZ0 14 l H=((cK0 14 l M).1,{ H with mkt:=some (cK0 14 l M).2 })):=bS0 d7 l d;have r:=hid7 h;have t:=hid7 d;have N:=h.ptr_yes d;obtain ⟨hk,c,I,G,D,F⟩:=h.mkt M d;have L:=hid7 hk;have K:=hid7 c;have u:Hid (MNum M):=c.num o7;have p:=c.few;have y:=hid7 q
 have v:Hid (∀o∈M.P,kU0 o):=by
  obtain ⟨lots,side,B,C⟩:=c.inv;exact yH0 B C
 obtain ⟨a,b,m,g⟩:=dS0.of_row hk.pk;have k:=hid7 g;have A:aC0 w x.mb 8 (J a M.P.length b):=by rw [<-m];exact aA0 (j:=8) hk.box rfl
 clear h d hk c q m g;go_enter func16,ntmps16;go_wp2_with fail;refine (hV1 a b M.P w k v o7 y).mono ?_;rintro e Q ⟨rfl,f⟩;have i:=hid7 f;clear f A;go_wp2_with fail;go_ret2;rw [s.out];refine r.asks t i ?_;exact ⟨_,rfl,fun _=>rfl⟩
theorem hsIn (z:Int) (w:World):Calls prog 60 #[U G z,U G 1,U G 2] w fun e w'=>e=Y (.bool (decide (1<=z)&& decide (z<=2)))/\w'=w:=by
 go_enter func60,ntmps60;cases h1:decide (1<=z) <;> cases h2:decide (z<=2) <;> (go_wp2_with fail;go_ret;exact ⟨by first | rfl | simp_all,rfl⟩)
theorem rU1 (la:Option Addr) (cl:Nat) (l:List Int) (lo hb n:Nat) (x:HsK) (H:DsS) (M:Mkt) (w:World) (h:HsIs w lo hb x H n) (P:ArgIs w hb la l) (hl:l.length=1) (q:H.mkt=some M) (hn:n<=5000) (T:gV0 w):
  Calls prog 16 #[E (some ⟨hb,0,none⟩),.string ⟨#[111,114,100,101,114,115]⟩,J la l.length cl] w fun e w'=>cF0 w w' lo hb n (aZ0 13 l H) e:=by
 have N:Hid (aZ0 13 l H=((cK0 13 l M).1,{ H with mkt:=some (cK0 13 l M).2 })):=bS0 d7 l q;have I:=hid7 h;have O:=hid7 q;have c6:=h.ptr_yes q;obtain ⟨hk,d,a3,a2,a0,a1⟩:=h.mkt M q;have X:=hid7 hk;have W:=hid7 d;have Y:Hid (MNum M):=d.num o7;have Q:=d.few;have HT:=hid7 T
 have Z:Hid (∀o∈M.L,kU0 o):=by
  obtain ⟨lots,side,hD,hN⟩:=d.inv;exact yG0 hD d.lok hN
 obtain ⟨g,rfl,hg,C⟩:=P.cells 0 o7;have c:Hid (∀V,aL0 w V->(fun w':World=>aC0 w' g 0 (U G (nI l 0))) V):=fun V hV=>aQ0 hV C
 clear h q hk d T P hg;rw [hl];go_enter func16,ntmps16;go_wp2_with fail;refine (hsIn (nI l 0) w).mono ?_;rintro e w1 ⟨rfl,F⟩;replace F:=F.symm;subst F
 by_cases A:nI l 0=1\/nI l 0=2
 ·have y:Hid ((cK0 13 l M).1=(0,pN0 (aR0 (nI l 0) M.L))):=by show (if nI l 0=1\/nI l 0=2 then ((0:Int),pN0 (aR0 (nI l 0) M.L)) else (1,[]))=_;rw [aB A]
  have m:(decide (1<=nI l 0)&& decide (nI l 0<=2))=true:=by simp;omega
  rw [m];clear m C A;go_upto_region 61 with fail;refine bB0 (fun _=>fun w':World=>aC0 w' g 0 (U G (nI l 0))) (fun _ _=>false) k7 (fun _=>c _ (aF _ _).drew) (fun hHeld=>?_);have z:aL0 w w.drew:=(aF _ _).drew;generalize w.drew=wz at z hHeld ⊢;refine tkM9 0 0 (hHeld 0) ?_;refine tkM9 0 1 (hHeld 0) ?_;refine tkM9 0 2 (hHeld 0) ?_;refine tkM9 0 3 (hHeld 0) ?_;refine tkM9 0 4 (hHeld 0) ?_;refine tkM9 0 5 (hHeld 0) ?_;refine aT0 (i:=6) k7 rfl (fun K p=>?_);go_simp;refine (gK0 x.base (spM noF x.mb x.bt x.ct M x.vb x.vp x.vi) x.vb M.L (nI l 0) wz (X.below z).book o7 (fun o D=>by have:=W.lok.ok o D;omega)).mono ?_;rintro e w1 ⟨v,rfl,R,r⟩;have b:=hid7 (aD0 z r);obtain ⟨a,B,rfl,t⟩:=dS0.of_row R;have j:=hid7 t;have k:Hid (∀o∈aR0 (nI l 0) M.L,kU0 o):=fun o D=>Z o (bD0.1 D).1
  have u:(aR0 (nI l 0) M.L).length<=1000:=by have:=iU0 (nI l 0) M.L;omega
  refine p.out _ _ (fun _ _ _=>c _ b) ?_;clear p K hHeld z r R t;generalize aR0 (nI l 0) M.L=S at j k u y ⊢;refine aT0 (i:=7) k7 rfl (fun K p=>?_);go_simp;refine (hV1 a B S w1 j k u (HT.below b)).mono ?_;rintro e w3 ⟨rfl,s⟩;have f:=hid7 (aD0 b s);refine p.out _ _ (fun _ _ _=>c _ f) ?_;clear p K s;refine puM9 8 ?_;refine puM9 9 ?_;refine bI0 k7 ?_ _;go_wp2_with fail;go_ret2;rw [N.out];refine I.asks O f ?_;rw [y.out];exact ⟨_,rfl,fun _=>rfl⟩
 ·have y:Hid ((cK0 13 l M).1=(1,[])):=by show (if nI l 0=1\/nI l 0=2 then ((0:Int),pN0 (aR0 (nI l 0) M.L)) else (1,[]))=_;rw [aA A]
  have m:(decide (1<=nI l 0)&& decide (nI l 0<=2))=false:=by simp;omega
  rw [m];clear m C A;go_wp2_with fail;go_ret2;rw [N.out];refine I.asks O (aF _ _) ?_;rw [y.out];exact ⟨_,rfl,fun e=>by cases e⟩
theorem dA2 (la:Option Addr) (A:Nat) (l:List Int) (lo hb n:Nat) (x:HsK) (H:DsS) (M:Mkt) (w:World) (h:HsIs w lo hb x H n) (g:H.mkt=some M) (Y:n<=5000) (s:HsVars w):
  Calls prog 16 #[E (some ⟨hb,0,none⟩),.string ⟨#[112,104,97,115,101]⟩,J la l.length A] w fun e w'=>cF0 w w' lo hb n (aZ0 10 l H) e:=by
 have u:Hid (aZ0 10 l H=((cK0 10 l M).1,{ H with mkt:=some (cK0 10 l M).2 })):=bS0 d7 l g;have t:=hid7 h;have v:=hid7 g;have X:=h.ptr_yes g;obtain ⟨hk,d,P,O,D,F⟩:=h.mkt M g;have T:=hid7 hk;have S:=hid7 d;have y:Hid (MNum M):=d.num o7;have r:=d.few;have z:=hid7 s;have q:=d.ph;have p:aC0 w x.mb 10 (U G M.ph):=aA0 (j:=10) hk.box rfl;have c:Hid (∀V,aL0 w V->(fun w':World=>aC0 w' x.mb 10 (U G M.ph)) V):=fun V hV=>aQ0 hV p
 clear h g hk d s;go_enter func16,ntmps16;go_upto_region 52 with fail;refine bB0 (fun _=>fun w':World=>aC0 w' x.mb 10 (U G M.ph)) (fun _ _=>false) k7 (fun _=>c _ (aF _ _).drew) (fun hHeld=>?_);have o:aL0 w w.drew:=(aF _ _).drew;generalize w.drew=wz at o hHeld ⊢;refine tkM9 0 1 (hHeld 0) ?_;refine tkM9 0 2 (hHeld 0) ?_;refine tkM9 0 3 (hHeld 0) ?_;refine tkM9 0 4 (hHeld 0) ?_;refine aT0 (i:=0) k7 rfl (fun K f=>?_);go_simp;obtain ⟨R,B,a⟩:=z.sp;refine (wQ1 wz ⟨R,B,(o.block _ (lt_of_block a)).trans a⟩).mono ?_;rintro e w1 ⟨rfl,m,k⟩;have b:=hid7 (aD0 o k);have Q:=qZ1 q
 have W:aC0 w1 wz.heap.size M.ph.toNat (.string (baOf (phT M.ph))):=by
  have:=m _ _ Q
  rwa [bT] at this
 refine f.out _ _ (fun _ _ _=>c _ b) ?_;clear f K hHeld o k m a;have I:0<=M.ph:=o7;have L:M.ph<8:=o7;have N:M.ph.toNat<8:=o7;refine puM9 5 ?_;refine aT0 (i:=6) k7 rfl (fun K f=>?_);go_simp;refine f.out _ _ (fun _ _ C=>C) ?_;clear f K;refine puM9 7 ?_;refine puM9 8 ?_;refine bI0 k7 ?_ _;go_wp2_with fail;go_ret2;rw [u.out];refine t.asks v b ?_;exact ⟨_,rfl,fun _=>rfl⟩
theorem hZ1 {z:Int} (h:in64 z):(rowT [z]).length<=1000:=by
 have:=dK0 (m:=21) ([z].map Lib.itoa) [32] (fun y b=>by
  obtain ⟨u,a,rfl⟩:=bH.1 b;rw [bC.1 a];exact Lib.itoa_length_le _ h.1 h.2)
 simp at this;unfold rowT;simp;omega
theorem DsVars.outM {w w':World} {lo:Nat} {S:Nat->Prop} (h:DsVars w) (d:Out S w w') (b:∀j,S j->lo<=j) (c:lo<=w.heap.size) (a:12<=lo):DsVars w':=h.below (d.below b c) a
theorem gO2 (la:Option Addr) (W:Nat) (l:List Int) (lo C n:Nat) (x:HsK) (H:DsS) (M:Mkt) (w:World) (h:HsIs w lo C x H n) (k:H.mkt=some M) (hn:n<=5000) (N:DsVars w) (X:12<=lo):
  Calls prog 16 #[E (some ⟨C,0,none⟩),.string ⟨#[116,105,99,107]⟩,J la l.length W] w fun e w'=>cF0 w w' lo C n (aZ0 7 l H) e:=by
 have O:Hid (aZ0 7 l H=((cK0 7 l M).1,{ H with mkt:=some (cK0 7 l M).2 })):=bS0 d7 l k;have I:=hid7 h;have S:=hid7 k;have V:=h.ptr_yes k;obtain ⟨hk,g,a0,Z,D,Y⟩:=h.mkt M k;have R:=hid7 hk;have Q:=hid7 g;have b:Hid (MNum M):=g.num o7;have L:=g.few;have T:=hid7 N;obtain ⟨i,K,a1,r⟩:=g.tick hn;have t:=hid7 i;have P:=hid7 K;clear h k hk g N i K;go_enter func16,ntmps16;go_wp2_with fail;refine (gA2 noF x.base x.mb x.bt x.ct M x.vb x.vp x.vi w R.out o7 Q.out.lok b.out.la o7 D b.out.rs (by have:=b.out.now;omega) (by have:=b.out.ti;omega) (by have:=b.out.lo;omega)).mono ?_;rintro e w1 ⟨vf,rfl,m⟩;obtain ⟨a2,a3,d⟩:=m.is;obtain ⟨a,A,rfl,q⟩:=pY0.of_row m.row;have v:Hid _:=d;have y:=hid7 m.out;have u:=hid7 q;have f:Hid (DsVars w1):=T.out.outM m.out (lo:=lo) (fun j e=>by have e:j=x.mb:=e;omega) I.out.slt.2 X;have B:w1.cell? ⟨x.mb,11,none⟩=some (U G (bT0 M).2.now):=aA0 (j:=11) d.box rfl;have F:=hZ1 r;clear m d q V;go_wp2_with fail;refine (nG0 w1 [(bT0 M).2.now] (fun z hz=>by rw [bC.1 hz];exact r) s7 s7 f.out.tab).mono ?_;rintro e w2 ⟨rfl,o⟩;have c:=hid7 o;clear o B;go_wp2_with fail;refine (rB1 (rowT [(bT0 M).2.now]) a A (bT0 M).1 w2 (u.out.below c.out) P.out o7 F (f.out.tab.below c.out)).mono ?_;rintro e w3 ⟨rfl,p⟩;have s:=hid7 (aD0 c.out p);clear p;go_wp2_with fail;go_ret2;rw [O.out];exact I.out.turned S.out v.out (hY1 y.out) t.out s.out (oS0.ok rfl)
theorem iJ2 (la:Option Addr) (cl:Nat) (l:List Int) (lo G n:Nat) (x:HsK) (H:DsS) (M:Mkt) (w:World) (h:HsIs w lo G x H n) (d:ArgIs w G la l) (hl:l.length=4) (z:H.mkt=some M) (hn:n<=5000) (hv:DsVars w) (hB:12<=lo):
  Calls prog 16 #[.pointer (some ⟨G,0,none⟩),.string ⟨#[98,117,121]⟩,.slice la l.length cl] w fun e w'=>cF0 w w' lo G n (aZ0 4 l H) e:=by
 have HD:Hid (aZ0 4 l H=((cK0 4 l M).1,{ H with mkt:=some (cK0 4 l M).2 })):=bS0 d7 l z;have Z:=hid7 h;have HM:=hid7 z;have c6:=h.ptr_yes z;obtain ⟨hk,u,a1,X,T,U⟩:=h.mkt M z;have HK:=hid7 hk;have HI:=hid7 u;have k:Hid (MNum M):=u.num o7;have a0:=u.few;have HV:=hid7 hv;obtain ⟨v,hF,Y⟩:=u.ord (o:=ordI 1 l) (d.nums 0) (d.nums 1) (d.nums 2);have p:=hid7 v;have HF:=hid7 hF;obtain ⟨g,rfl,hg,d0⟩:=d.cells 0 o7;obtain ⟨g1,e1,_,d1⟩:=d.cells 1 o7;obtain ⟨g2,e2,_,d2⟩:=d.cells 2 o7;obtain ⟨g3,e3,_,d3⟩:=d.cells 3 o7;cases e1;cases e2;cases e3;clear h z hk u hv v hF d hg;rw [hl];have s:Hid (∀V,Below w.heap.size w V->(fun w':World=>w'.cell? ⟨g,0,none⟩=some (.int .i64 (nI l 0))/\w'.cell? ⟨g,1,none⟩=some (.int .i64 (nI l 1))/\w'.cell? ⟨g,2,none⟩=some (.int .i64 (nI l 2))/\w'.cell? ⟨g,3,none⟩=some (.int .i64 (nI l 3))) V):=fun V hV=>⟨aQ0 hV d0,aQ0 hV d1,aQ0 hV d2,aQ0 hV d3⟩
 clear d0 d1 d2 d3;go_enter func16,ntmps16;go_upto_region 37 with fail;refine bB0 (fun _=>fun w':World=>w'.cell? ⟨g,0,none⟩=some (.int .i64 (nI l 0))/\w'.cell? ⟨g,1,none⟩=some (.int .i64 (nI l 1))/\w'.cell? ⟨g,2,none⟩=some (.int .i64 (nI l 2))/\w'.cell? ⟨g,3,none⟩=some (.int .i64 (nI l 3))) (fun _ i=>i == 14) k7 (fun _=>s.out _ (aF _ _).drew) (fun hHeld=>?_);have t:Below w.heap.size w w.drew:=(aF _ _).drew;generalize w.drew=wz at t hHeld ⊢;refine tkM9 0 0 (hHeld 0) ?_;refine tkM9 0 1 (hHeld 0) ?_;refine tkM9 0 2 (hHeld 0) ?_;refine tkM9 0 3 (hHeld 0) ?_;refine tkM9 0 4 (hHeld 0) ?_;refine tkM9 0 5 (hHeld 0) ?_;refine tkM9 0 6 (hHeld 0) ?_;refine tkM9 0 7 (hHeld 0) ?_;refine tkM9 0 8 (hHeld 0) ?_;refine tkM9 0 9 (hHeld 0) ?_;refine tkM9 0 10 (hHeld 0) ?_;refine tkM9 0 11 (hHeld 0) ?_;refine puM9 12 ?_;refine aT0 (i:=13) k7 rfl (fun K y=>?_);go_simp;refine y.out _ _ (fun _ _ _=>s.out _ (aD0 t (bel1 wz _))) ?_;clear y K hHeld;have f0:=aB0 (j:=0) (heap_alloc_new wz (.cells #[.int .i64 0,.int .i64 0,.int .i64 0,.int .i64 0,.int .i64 0] 92));refine aT0 (i:=14) k7 rfl (fun K y=>?_);go_simp;refine y.out _ _ (fun _ h=>by cases h) ?_;clear y K;refine bI0 k7 ?_ _;have c:=heap_alloc_new wz (.cells #[.int .i64 (nI l 0),.int .i64 1,.int .i64 (nI l 1),.int .i64 (nI l 2),.int .i64 (nI l 3)] 92);have b:=aD0 t (bel1 wz (.cells #[.int .i64 (nI l 0),.int .i64 1,.int .i64 (nI l 1),.int .i64 (nI l 2),.int .i64 (nI l 3)] 92));generalize wz.alloc (.cells #[.int .i64 (nI l 0),.int .i64 1,.int .i64 (nI l 1),.int .i64 (nI l 2),.int .i64 (nI l 3)] 92)=W at c b ⊢;have F:=t.size;generalize wz.heap.size=xb at c F ⊢;have y1:=aA0 (j:=1) c rfl;have f1:=aB0 (j:=1) c;clear t f0;go_upto_region 40 with fail;have O:=hid7 (HK.out.below b);have L:=hid7 b;have B:x.base<=W.heap.size:=aI T b.size;have y0:=aA0 (j:=0) c rfl;have y1:=aA0 (j:=1) c rfl;have y2:=aA0 (j:=2) c rfl;have y3:=aA0 (j:=3) c rfl;have y4:=aA0 (j:=4) c rfl;have f:M.I.length<=100000:=by have:=HI.out.ids;omega
 clear c b c6 F;go_wp2_with fail;refine (qU1 noF x.base x.mb x.bt x.ct M x.vb x.vp x.vi (ordI 1 l) W O.out o7 HI.out.lok o7 f B U k.out.rs.1 (by have:=k.out.now;omega) (by have:=k.out.ti;omega)).mono ?_;rintro e w1 ⟨vf,a2,a4,a3,rfl,hr,D,E⟩;obtain ⟨a,S,rfl,C⟩:=pY0.of_row hr;have r:Hid _:=D;have m:Out (fun j=>j=x.mb\/x.vi.ownBlock=some j) w w1:=aX0 (aL L.out lR7) E;have P:=hid7 m;have q:=hid7 C;have Q:Hid (DsVars w1):=HV.out.outM m (lo:=lo) (fun j e=>e.elim (fun e=>by omega) (fun e=>aI X (HK.out.ids.lt j e).1)) Z.out.slt.2 hB;clear hr D E m C y0 y1 y2 y3 y4 f;generalize hR:ordM M (ordI 1 l)=R at Y p HF r q ⊢;generalize hN:ordN M (ordI 1 l)=N
 have HR:Hid ((cK0 4 l M)=(orE N (iP0 [116,97,107,101,110] R.1),R.2)):=by
  show (orE (ordN M (ordI 1 l)) (iP0 [116,97,107,101,110] (ordM M (ordI 1 l)).1),(ordM M (ordI 1 l)).2)=_;rw [hN,hR]
 clear hR hN;go_wp2_with fail;refine (rB1 [116,97,107,101,110] a S R.1 w1 q.out HF.out o7 d7 Q.out.tab).mono ?_;rintro e w3 ⟨rfl,A⟩;have J:=hid7 A;clear A;go_wp2_with fail;go_ret2;rw [HD.out,HR.out];exact Z.out.turned HM.out r.out P.out p.out J.out (oS0.ok rfl)
theorem gP2 (la:Option Addr) (cl:Nat) (l:List Int) (lo O n:Nat) (x:HsK) (H:DsS) (M:Mkt) (w:World) (h:HsIs w lo O x H n) (f:ArgIs w O la l) (hl:l.length=4) (D:H.mkt=some M) (hn:n<=5000) (hv:DsVars w) (hB:12<=lo):
  Calls prog 16 #[.pointer (some ⟨O,0,none⟩),.string ⟨#[115,101,108,108]⟩,.slice la l.length cl] w fun e w'=>cF0 w w' lo O n (aZ0 5 l H) e:=by
 have HD:Hid (aZ0 5 l H=((cK0 5 l M).1,{ H with mkt:=some (cK0 5 l M).2 })):=bS0 d7 l D;have H1:=hid7 h;have HM:=hid7 D;have c6:=h.ptr_yes D;obtain ⟨hk,A,a3,a0,Y,Z⟩:=h.mkt M D;have HK:=hid7 hk;have HI:=hid7 A;have m:Hid (MNum M):=A.num o7;have a2:=A.few;have HV:=hid7 hv;obtain ⟨B,hF,a1⟩:=A.ord (o:=ordI 2 l) (f.nums 0) (f.nums 1) (f.nums 2);have t:=hid7 B;have HF:=hid7 hF;obtain ⟨g,rfl,hg,d0⟩:=f.cells 0 o7;obtain ⟨g1,e1,_,d1⟩:=f.cells 1 o7;obtain ⟨g2,e2,_,d2⟩:=f.cells 2 o7;obtain ⟨g3,e3,_,d3⟩:=f.cells 3 o7;cases e1;cases e2;cases e3;clear h D hk A hv B hF f hg;rw [hl];have y:Hid (∀V,Below w.heap.size w V->(fun w':World=>w'.cell? ⟨g,0,none⟩=some (.int .i64 (nI l 0))/\w'.cell? ⟨g,1,none⟩=some (.int .i64 (nI l 1))/\w'.cell? ⟨g,2,none⟩=some (.int .i64 (nI l 2))/\w'.cell? ⟨g,3,none⟩=some (.int .i64 (nI l 3))) V):=fun V hV=>⟨aQ0 hV d0,aQ0 hV d1,aQ0 hV d2,aQ0 hV d3⟩
 clear d0 d1 d2 d3;go_enter func16,ntmps16;go_upto_region 37 with fail;refine bB0 (fun _=>fun w':World=>w'.cell? ⟨g,0,none⟩=some (.int .i64 (nI l 0))/\w'.cell? ⟨g,1,none⟩=some (.int .i64 (nI l 1))/\w'.cell? ⟨g,2,none⟩=some (.int .i64 (nI l 2))/\w'.cell? ⟨g,3,none⟩=some (.int .i64 (nI l 3))) (fun _ i=>i == 14) k7 (fun _=>y.out _ (aF _ _).drew) (fun hHeld=>?_);have z:Below w.heap.size w w.drew:=(aF _ _).drew;generalize w.drew=wz at z hHeld ⊢;refine tkM9 0 0 (hHeld 0) ?_;refine tkM9 0 1 (hHeld 0) ?_;refine tkM9 0 2 (hHeld 0) ?_;refine tkM9 0 3 (hHeld 0) ?_;refine tkM9 0 4 (hHeld 0) ?_;refine tkM9 0 5 (hHeld 0) ?_;refine tkM9 0 6 (hHeld 0) ?_;refine tkM9 0 7 (hHeld 0) ?_;refine tkM9 0 8 (hHeld 0) ?_;refine tkM9 0 9 (hHeld 0) ?_;refine tkM9 0 10 (hHeld 0) ?_;refine tkM9 0 11 (hHeld 0) ?_;refine puM9 12 ?_;refine aT0 (i:=13) k7 rfl (fun K C=>?_);go_simp;refine C.out _ _ (fun _ _ _=>y.out _ (aD0 z (bel1 wz _))) ?_;clear C K hHeld;have f0:=aB0 (j:=0) (heap_alloc_new wz (.cells #[.int .i64 0,.int .i64 0,.int .i64 0,.int .i64 0,.int .i64 0] 92));refine aT0 (i:=14) k7 rfl (fun K C=>?_);go_simp;refine C.out _ _ (fun _ h=>by cases h) ?_;clear C K;refine bI0 k7 ?_ _;have c:=heap_alloc_new wz (.cells #[.int .i64 (nI l 0),.int .i64 1,.int .i64 (nI l 1),.int .i64 (nI l 2),.int .i64 (nI l 3)] 92);have b:=aD0 z (bel1 wz (.cells #[.int .i64 (nI l 0),.int .i64 1,.int .i64 (nI l 1),.int .i64 (nI l 2),.int .i64 (nI l 3)] 92));generalize wz.alloc (.cells #[.int .i64 (nI l 0),.int .i64 1,.int .i64 (nI l 1),.int .i64 (nI l 2),.int .i64 (nI l 3)] 92)=W at c b ⊢;have s:=z.size;generalize wz.heap.size=xb at c s ⊢;have y1:=aA0 (j:=1) c rfl;have f1:=aB0 (j:=1) c;clear z f0;go_upto_region 40 with fail;have q:=aJ0 (j:=1) (.int .i64 2) c;have d:Below w.heap.size w (W.setCell ⟨xb,1,none⟩ (.int .i64 2)):=b.setCell (p:=⟨xb,1,none⟩) s _;clear c b y1 f1;generalize W.setCell ⟨xb,1,none⟩ (.int .i64 2)=W at q d ⊢;have c:=q;have b:=d;clear q d;have S:=hid7 (HK.out.below b);have Q:=hid7 b;have F:x.base<=W.heap.size:=aI Y b.size;have y0:=aA0 (j:=0) c rfl;have y1:=aA0 (j:=1) c rfl;have y2:=aA0 (j:=2) c rfl;have y3:=aA0 (j:=3) c rfl;have y4:=aA0 (j:=4) c rfl;have k:M.I.length<=100000:=by have:=HI.out.ids;omega
 clear c b c6 s;go_wp2_with fail;refine (qU1 noF x.base x.mb x.bt x.ct M x.vb x.vp x.vi (ordI 2 l) W S.out o7 HI.out.lok o7 k F Z m.out.rs.1 (by have:=m.out.now;omega) (by have:=m.out.ti;omega)).mono ?_;rintro e w1 ⟨vf,a4,a6,a5,rfl,hr,J,L⟩;obtain ⟨a,X,rfl,G⟩:=pY0.of_row hr;have v:Hid _:=J;have r:Out (fun j=>j=x.mb\/x.vi.ownBlock=some j) w w1:=aX0 (aL Q.out lR7) L;have T:=hid7 r;have u:=hid7 G;have U:Hid (DsVars w1):=HV.out.outM r (lo:=lo) (fun j e=>e.elim (fun e=>by omega) (fun e=>aI a0 (HK.out.ids.lt j e).1)) H1.out.slt.2 hB;clear hr J L r G y0 y1 y2 y3 y4 k;generalize hR:ordM M (ordI 2 l)=R at a1 t HF v u ⊢;generalize hN:ordN M (ordI 2 l)=N
 have HR:Hid ((cK0 5 l M)=(orE N (iP0 [116,97,107,101,110] R.1),R.2)):=by
  show (orE (ordN M (ordI 2 l)) (iP0 [116,97,107,101,110] (ordM M (ordI 2 l)).1),(ordM M (ordI 2 l)).2)=_;rw [hN,hR]
 clear hR hN;go_wp2_with fail;refine (rB1 [116,97,107,101,110] a X R.1 w1 u.out HF.out o7 d7 U.out.tab).mono ?_;rintro e w3 ⟨rfl,E⟩;have P:=hid7 E;clear E;go_wp2_with fail;go_ret2;rw [HD.out,HR.out];exact H1.out.turned HM.out v.out T.out t.out P.out (oS0.ok rfl)
theorem infoRowD:(prog.info? 86).map (fun i=>(i.zero,i.size,i.bytes))=some (some (.agg #[U G 0,U G 0]),2,16):=k7
theorem uI0 {S:Nat->Prop} {w':World} {p:Addr} {v:Value} (b:Out S w w') (h:w.cell? p=some v) (a:¬S p.block):w'.cell? p=some v:=by
 have e:=b.block p.block (World.block_lt_of_cell? w _ h) a;rw [<-h];simp only [World.cell?,e]
theorem kX1 {S:Nat->Prop} {w1:World} (h:Out S w W) (a:Below w.heap.size W w1):Out S w w1:=⟨a.os.trans h.os,a.tape.trans h.tape,a.output.trans h.output,aI h.size a.size,fun k hk b=>(a.block k hk).trans (h.block k hk b)⟩
structure HtLp (w:World) (hb:Nat) (x:HsK) (H:DsS) (l:List Int) (k:Nat) (wr:World):Prop where
 is:∃vt,bJ0 wr hb ((hsV x H).setIfInBounds 0 vt) 57/\wr.ownsRow w.heap.size 86 2 vt k (flat ((dI0 l).take k))
 out:Out (fun j=>j=hb) w wr
theorem dB2 (la:Option Addr) (cl:Nat) (l:List Int) (lo hb n:Nat) (x:HsK) (H:DsS) (w:World) (h:HsIs w lo hb x H n) (ha:ArgIs w hb la l) (hl:l.length % 2=0) (b1:l.length<=10000) (hM:H.mkt=none):
  Calls prog 16 #[E (some ⟨hb,0,none⟩),.string ⟨#[116,97,98,108,101]⟩,J la l.length cl] w fun e w'=>cF0 w w' lo hb n (aZ0 0 l H) e:=by
 obtain ⟨i0,hi,a6,a7,a8⟩:=info_parts infoRowD;have H1:=hid7 h;have HM:=hid7 hM;have HA:=hid7 ha;have HL:=hid7 hl;have c6:=h.ptr_no hM;have c0:=aA0 (j:=0) h.box rfl;have f0:=aB0 (j:=0) h.box;have a1:Hid (HtLp w hb x H l 0 (w.setCell ⟨hb,0,none⟩ (J none 0 0))):=⟨⟨J none 0 0,aJ0 (j:=0) (J none 0 0) h.box,aU _ _ _ _⟩,aM0 w ⟨hb,0,none⟩ _⟩;have r:=lt_of_block h.box;clear h ha hM hl;go_enter func16,ntmps16;go_wp2_with fail;go_loopw [12] (fun u wr=>∃k j:Nat,2*k<=l.length/\j=2*k/\u=U G j/\HtLp w hb x H l k wr) (fun u _=>l.length - (intOf u).toNat)
 case atStart=>exact ⟨0,0,aO _,rfl,rfl,a1⟩
 case round=>
  obtain ⟨k,j,hk,o,rfl,⟨⟨vt,z,m⟩,f⟩⟩:=hrel;obtain ⟨a,b,rfl⟩:=iS0 m;have HJ:=hid7 o;have HK:=hid7 hk;have HO:=hid7 m;have B:=hid7 z;have d:=hid7 f;have Y:=f.size;clear m z f o hk c0 f0 c6;go_wp2_with fail
  ·have X:=HL.out;have o:=HJ.out;have a4:j+1<l.length:=o7;have a5:k<(dI0 l).length:=by rw [jF0];omega
   obtain ⟨g,rfl,hg,d0⟩:=HA.cells j o7;obtain ⟨g',e1,_,d1⟩:=HA.cells (j+1) a4;cases e1;have T:=World.block_lt_of_cell? w _ d0;have c0:=uI0 d d0 hg;have c1:=uI0 d d1 hg;have cT:aC0 wr hb 0 (J a k b):=aA0 (j:=0) B rfl;have KS:Hid (∀V V',Below w.heap.size V V'->(fun w':World=>aC0 w' hb 0 (J a k b)/\aC0 w' g j (U G (nI l j))/\aC0 w' g (j+1) (U G (nI l (j+1)))) V->(fun w':World=>aC0 w' hb 0 (J a k b)/\aC0 w' g j (U G (nI l j))/\aC0 w' g (j+1) (U G (nI l (j+1)))) V'):=fun V V' hV F=>⟨(hV.cell (p:=⟨hb,0,none⟩) r).trans F.1,(hV.cell (p:=⟨g,j,none⟩) T).trans F.2.1,(hV.cell (p:=⟨g,j+1,none⟩) T).trans F.2.2⟩
   have a0:Hid ((fun w':World=>aC0 w' hb 0 (J a k b)/\aC0 w' g j (U G (nI l j))/\aC0 w' g (j+1) (U G (nI l (j+1)))) wr):=⟨cT,c0,c1⟩
   have HF:Hid (flat ((dI0 l).take k)++[U G (nI l j),U G (nI l (j+1))]=flat ((dI0 l).take (k+1))):=by
    have:=bG1 a5;rw [rK0 l k o7,<-o] at this;exact this
   have a9:k<=5000:=o7;clear X o d0 d1 c0 c1 cT hg;have hw:IntKind.i64.wrap ((j:Int)+1)=(j:Int)+1:=IntWalk.i64_in _ o7;have b2:(0:Int)<=(j:Int)+1:=o7;have b3:(j:Int)+1<(l.length:Int):=o7;have b4:((j:Int)+1).toNat=j+1:=o7;have b5:j<l.length:=o7;refine bB0 (fun _=>fun w':World=>aC0 w' hb 0 (J a k b)/\aC0 w' g j (U G (nI l j))/\aC0 w' g (j+1) (U G (nI l (j+1)))) (fun _ i=>i == 19) k7 (fun _=>KS wr _ (aF _ _).drew a0) (fun hHeld=>?_);have bz:aL0 wr wr.drew:=(aF _ _).drew;generalize wr.drew=wz at bz hHeld ⊢;refine puM9 0 ?_;refine puM9 1 ?_;refine puM9 2 ?_;refine puM9 3 ?_;refine tkM9 0 4 (hHeld 0) ?_;refine puM9 5 ?_;refine puM9 6 ?_;refine puM9 7 ?_;refine tkM9 0 8 (hHeld 0) ?_;refine puM9 9 ?_;refine puM9 10 ?_;refine puM9 11 ?_;refine puM9 12 ?_;refine tkM9 0 13 (hHeld 0) ?_;refine puM9 14 ?_;refine aT0 (i:=15) k7 rfl (fun K y=>?_);go_simp;have bA:aL0 wz (wz.alloc (R #[U G (nI l j),U G (nI l (j+1))] 86)):=bel1 wz _
   have Z:Hid (∀q u,[Value.int .i64 (nI l j),U G (nI l (j+1))][q]? = some u->(wz.alloc (R #[U G (nI l j),U G (nI l (j+1))] 86)).cell? ((⟨wz.heap.size,0,none⟩:Addr).add q)=some u):=fun q u o=>by
    rw [Addr.add_lit,bT,World.cell?_alloc_at _ _ _ _ rfl];simpa using o
   refine y.out _ _ (fun _ _ F=>KS _ _ (bA.mono (aI Y bz.size)) F) ?_;clear y K;have N:=aD0 bz bA;have D:Hid ((wz.alloc (R #[U G (nI l j),U G (nI l (j+1))] 86)).ownsRow w.heap.size 86 2 (J a k b) k (flat ((dI0 l).take k))):=aU0 HO N lR7;generalize wz.alloc (R #[U G (nI l j),U G (nI l (j+1))] 86)=W at Z N D ⊢;generalize wz.heap.size=zb at Z ⊢;have I:w.heap.size<=W.heap.size:=aI Y N.size;refine aT0 (i:=16) k7 rfl (fun K y=>?_);refine lJ0 rfl _ _ 53 rfl w.heap.size 86 i0 (.agg #[U G 0,U G 0]) 2 16 underlying53 hi a6 a7 a8 rfl d7 (J a k b) k (flat ((dI0 l).take k)) rfl D ⟨zb,0,none⟩ 1 1 [U G (nI l j),U G (nI l (j+1))] rfl rfl Z (by simp [Value.oneCell']) (by unfold maxLen;omega) o7 I ?_;intro v1 w1 L S;have bG:Below w.heap.size W w1:=(aF _ _).grown S I (xS0 D);obtain ⟨t,v,rfl⟩:=iS0 L
   have P:Hid (w1.ownsRow w.heap.size 86 2 (J t (k+1) v) (k+1) (flat ((dI0 l).take (k+1)))):=by
    show World.ownsRow _ _ _ _ _ _ _;rw [<-HF.out];exact L
   have A:Hid (bJ0 w1 hb ((hsV x H).setIfInBounds 0 (J a k b)) 57):=(bG.block _ r).trans (aE0 B N lR7);have a2:Hid (Out (fun j=>j=hb) w w1):=kX1 (aX0 d (aL N lR7)) bG;refine y.out _ _ (fun _ _ F=>KS _ _ bG F) ?_;clear y K hHeld bz bA N I Z L S bG;refine puM9 17 ?_;refine puM9 18 ?_;have cB:=aA0 (j:=0) A rfl;have fB:=aB0 (j:=0) A;refine aT0 (i:=19) k7 rfl (fun K y=>?_);go_simp;refine y.out _ _ (fun _ h=>by cases h) ?_;clear y K;refine bI0 k7 ?_ _
   have O:Hid (HtLp w hb x H l (k+1) (w1.setCell ⟨hb,0,none⟩ (J t (k+1) v))):=⟨⟨J t (k+1) v,by
    have h1:=aJ0 (j:=0) (J t (k+1) v) A;rw [Array.setIfInBounds_setIfInBounds] at h1
    exact h1,aK0 P (aM0 w1 ⟨hb,0,none⟩ _) (fun q hq e=>by
     have e:q=hb:=e;have:=(P.lt q hq).1;omega)⟩,a2.trans (aM0 w1 ⟨hb,0,none⟩ _) (aJ _ _)⟩
   go_wp2_with fail;go_roundw
   case rel=>exact ⟨k+1,j+2,(by have:=HJ.out;omega),(by have:=HJ.out;omega),by go_num,O.out⟩
   case measure=>first | (simp [intOf];omega) | omega
  ·go_ret2;have o:=HJ.out;have X:=HL.out;have b0:=HK.out;obtain rfl:k=l.length / 2:=o7;have s:=jF0 l
   have C:Hid (wr.ownsRow w.heap.size 86 2 (J a (l.length / 2) b) (l.length / 2) (flat (dI0 l))):=by
    have:=HO;rw [<-s,List.take_length,s] at this;exact this
   refine ⟨⟨_,rfl,fun _=>rfl⟩,d.mono fun j o=>aH o,{ x with ta:=a,tc:=b },⟨?_,⟨H1.slt.1,aI H1.slt.2 d.size⟩,fun h0=>?_,fun M e=>?_⟩⟩
   ·have e1:hsV { x with ta:=a,tc:=b } { H with rs:=dI0 l }=(hsV x H).setIfInBounds 0 (J a (l.length / 2) b):=by
     unfold hsV;rw [s];rfl
    rw [show (aZ0 0 l H).2={ H with rs:=dI0 l } from rfl,e1];exact B
   ·have h1:0<l.length / 2:=s ▸ h0;obtain ⟨cb,c,e,hr⟩:=bH1 C h1;injection e with e2 _ e4;subst e2;have r:=C.lt cb rfl;obtain ⟨_,⟨e,_⟩ | ⟨g,c',a3,e,_,hh,_⟩⟩:=C
    ·cases e
    ·injection e with Q _ _;injection Q with Q;injection Q with Q _ _;subst Q;exact ⟨cb,rfl,hr,aI H1.slt.2 r.1,a3,(0,0),hh⟩
   ·rw [show (aZ0 0 l H).2.mkt=H.mkt from rfl,HM.out] at e;cases e
theorem wF0 {lo hb n mb b:Nat} {x:HsK} (h:HsIs w lo hb x H n) (C:(newE H.rs H.st H.dy H.pr H.ti H.mo).1=0) (l:aL0 w W) (A:x.ta=some ⟨b,0,none⟩) (t:w.heap.size<=mb)
  (r:bJ0 W mb (mkV (J (some ⟨b,0,none⟩) H.rs.length x.tc) (newM H.rs H.st H.dy H.pr H.ti H.mo) (J none 0 0) (J none 0 0) (J none 0 0)) 103):
  cF0 w (W.setCell ⟨hb,6,none⟩ (E (some ⟨mb,0,none⟩))) lo hb n ((0,eZ0 3),{ H with mkt:=some (newM H.rs H.st H.dy H.pr H.ti H.mo) }) (Y (.tuple #[.string ⟨#[115,116,97,114,116]⟩,U G 0])):=by
 obtain ⟨p,P,F,I,K,L,N⟩:=tR0 C;have D:=(aY1 p).1
 have v:H.rs.length<=60:=by
  by_cases q:20<H.rs.length
  ·rw [hC0 q] at p;cases p
  ·omega
 obtain ⟨O,g,y,B,cs,f,z⟩:=h.rows D;rw [A] at g;injection g with g;injection g with g _ _;subst g;have s:=lt_of_block z;have a:=h.slt;have c:Out (fun j=>j=hb) W (W.setCell ⟨hb,6,none⟩ (E (some ⟨mb,0,none⟩))):=aM0 W ⟨hb,6,none⟩ _;have m:Out (fun j=>j=hb) w (W.setCell ⟨hb,6,none⟩ (E (some ⟨mb,0,none⟩))):=(aL l lR7).trans c (aJ _ _);have i:¬b=hb:=fun e=>by omega
 refine ⟨⟨_,rfl,fun _=>rfl⟩,m.mono fun j d=>aH d,{ x with mb:=mb,base:=w.heap.size,bt:=b,ct:=x.tc,vb:=J none 0 0,vp:=J none 0 0,vi:=J none 0 0 },⟨?_,⟨a.1,aI a.2 m.size⟩,fun _=>?_,fun M e=>?_⟩⟩
 ·have k:=aJ0 (j:=6) (E (some ⟨mb,0,none⟩)) (aE0 h.box l lR7)
  have g:hsV { x with mb:=mb,base:=w.heap.size,bt:=b,ct:=x.tc,vb:=J none 0 0,vp:=J none 0 0,vi:=J none 0 0 } { H with mkt:=some (newM H.rs H.st H.dy H.pr H.ti H.mo) }=(hsV x H).setIfInBounds 6 (E (some ⟨mb,0,none⟩)):=by
   unfold hsV;rfl
  rw [g];exact k
 ·exact ⟨b,A,eG0 (y.below l lR7) c i,B,cs,f,aF0 z m i⟩
 ·cases e;refine ⟨⟨aF0 r c (fun e=>by have e:mb=hb:=e;omega),eG0 (y.below l lR7) c i,fun e=>?_,aU _ _ _ _,aU _ _ _ _,aU _ _ _ _,fun j d=>d.elim,fun j d=>(by cases d),fun j d=>(by cases d),fun j d=>(by cases d)⟩,⟨⟨_,_,(cB1 p v K L N F I).hT,⟨⟨fun o u=>(by cases u),fun o u=>(by cases u)⟩,LotI.start⟩⟩,LOk.nil,?_,aO _⟩,aI a.2 t,a.2,m.size,s⟩
  ·have e:b=mb:=e;omega
  ·show (0:Int)<=_;omega
theorem dC2 (la:Option Addr) (cl:Nat) (l:List Int) (lo k n:Nat) (x:HsK) (H:DsS) (w:World) (h:HsIs w lo k x H n) (hr:H.rs.length<=10000) (hM:H.mkt=none):
  Calls prog 16 #[E (some ⟨k,0,none⟩),.string ⟨#[115,116,97,114,116]⟩,J la l.length cl] w fun e w'=>cF0 w w' lo k n (aZ0 3 l H) e:=by
 have X:=hid7 h;have HM:=hid7 hM;have P:=h.ptr_no hM;have s:Hid (∀V,aL0 w V->(fun w':World=>aC0 w' k 0 (J x.ta H.rs.length x.tc)/\aC0 w' k 1 (U G H.st)/\aC0 w' k 2 (U G H.dy)/\aC0 w' k 3 (U G H.pr)/\aC0 w' k 4 (U G H.ti)/\aC0 w' k 5 (U G H.mo)) V):=fun V hV=>⟨aQ0 hV (aA0 (j:=0) h.box rfl),aQ0 hV (aA0 (j:=1) h.box rfl),aQ0 hV (aA0 (j:=2) h.box rfl),aQ0 hV (aA0 (j:=3) h.box rfl),aQ0 hV (aA0 (j:=4) h.box rfl),aQ0 hV (aA0 (j:=5) h.box rfl)⟩
 have N:Hid (∀V,aL0 w V->0<H.rs.length->∃b,x.ta=some ⟨b,0,none⟩/\cV0 V b 0 H.rs):=fun V hV h0=>by
  obtain ⟨tb,e1,e2,_⟩:=h.rows h0;exact ⟨tb,e1,e2.below hV lR7⟩
 have M:Hid (∀V,aL0 w V->aC0 V k 6 (E none)/\V.frozen? ⟨k,6,none⟩=false):=fun V hV=>⟨aQ0 hV P,aB0 (j:=6) (aE0 h.box hV lR7)⟩
 have I:Hid ((newE H.rs H.st H.dy H.pr H.ti H.mo).1=0->aZ0 3 l H=((0,eZ0 3),{ H with mkt:=some (newM H.rs H.st H.dy H.pr H.ti H.mo) })):=fun e=>by
  show (if _ then _ else _)=_;rw [aB e]
 have L:Hid ((newE H.rs H.st H.dy H.pr H.ti H.mo).1≠0->aZ0 3 l H=(((newE H.rs H.st H.dy H.pr H.ti H.mo).1,[]),H)):=fun e=>by
  show (if _ then _ else _)=_;rw [aA e]
 clear h hM;go_enter func16,ntmps16;go_upto_region 31 with fail;refine bB0 (fun _=>fun w':World=>aC0 w' k 0 (J x.ta H.rs.length x.tc)/\aC0 w' k 1 (U G H.st)/\aC0 w' k 2 (U G H.dy)/\aC0 w' k 3 (U G H.pr)/\aC0 w' k 4 (U G H.ti)/\aC0 w' k 5 (U G H.mo)) (fun _ i=>i == 35) k7 (fun _=>s _ (aF _ _).drew) (fun hHeld=>?_);have y:aL0 w w.drew:=(aF _ _).drew;generalize w.drew=wz at y hHeld ⊢;refine puM9 0 ?_;refine puM9 1 ?_;refine puM9 2 ?_;refine tkM9 0 3 (hHeld 0) ?_;refine puM9 4 ?_;refine puM9 5 ?_;refine puM9 6 ?_;refine puM9 7 ?_;refine tkM9 0 8 (hHeld 0) ?_;refine puM9 9 ?_;refine puM9 10 ?_;refine puM9 11 ?_;refine puM9 12 ?_;refine tkM9 0 13 (hHeld 0) ?_;refine puM9 14 ?_;refine puM9 15 ?_;refine puM9 16 ?_;refine puM9 17 ?_;refine tkM9 0 18 (hHeld 0) ?_;refine puM9 19 ?_;refine puM9 20 ?_;refine puM9 21 ?_;refine puM9 22 ?_;refine tkM9 0 23 (hHeld 0) ?_;refine puM9 24 ?_;refine puM9 25 ?_;refine puM9 26 ?_;refine puM9 27 ?_;refine tkM9 0 28 (hHeld 0) ?_;refine mF0 (i:=29) (j:=33) k7 rfl rfl (fun K g=>?_) (fun K g=>?_)
 ·go_simp;refine (bY1 x.ta x.tc H.rs H.st H.dy H.pr H.ti H.mo wz (N wz y) hr).mono ?_;rintro e w1 ⟨F,rfl,o,v⟩;have C:=aD0 y o;refine g.out _ _ (fun _ _ _=>s _ C) ?_;clear g K;refine puM9 30 ?_;refine puM9 31 ?_;refine puM9 32 ?_;refine aT0 (i:=33) k7 rfl (fun K g=>?_);go_simp;refine g.out _ _ (fun _ _ _=>s _ (aD0 C (bel1 w1 _))) ?_;clear g K;refine puM9 34 ?_;have Z:=aB0 (j:=0) (heap_alloc_new w1 (R #[U G 0,U G 0] 88));refine aT0 (i:=35) k7 rfl (fun K g=>?_);go_simp;refine g.out _ _ (fun _ h=>by cases h) ?_;clear g K;refine bI0 k7 ?_ _;have q:=heap_alloc_new w1 (R #[U G (newE H.rs H.st H.dy H.pr H.ti H.mo).1,U G (newE H.rs H.st H.dy H.pr H.ti H.mo).2] 88);have gF:=bel1 w1 (R #[U G (newE H.rs H.st H.dy H.pr H.ti H.mo).1,U G (newE H.rs H.st H.dy H.pr H.ti H.mo).2] 88)
  have f:Hid ((newE H.rs H.st H.dy H.pr H.ti H.mo).1=0->∃mb b,x.ta=some ⟨b,0,none⟩/\F=E (some ⟨mb,0,none⟩)/\w.heap.size<=mb/\bJ0 (w1.alloc (R #[U G (newE H.rs H.st H.dy H.pr H.ti H.mo).1,U G (newE H.rs H.st H.dy H.pr H.ti H.mo).2] 88)) mb (mkV (J (some ⟨b,0,none⟩) H.rs.length x.tc) (newM H.rs H.st H.dy H.pr H.ti H.mo) (J none 0 0) (J none 0 0) (J none 0 0)) 103):=fun e=>by
   obtain ⟨mb,b,h1,h2,z,A⟩:=v e;exact ⟨mb,b,h1,h2,aI y.size z,aE0 A gF lR7⟩
  have c:=hid7 (aD0 C gF);generalize w1.alloc (R #[U G (newE H.rs H.st H.dy H.pr H.ti H.mo).1,U G (newE H.rs H.st H.dy H.pr H.ti H.mo).2] 88)=W at q f c ⊢;generalize w1.heap.size=fb at q ⊢;clear gF Z C o v y hHeld;have T:=aA0 (j:=0) q rfl;have z1:=aA0 (j:=1) q rfl
  by_cases a:(newE H.rs H.st H.dy H.pr H.ti H.mo).1=0
  ·obtain ⟨mb,b,h1,rfl,z,A⟩:=f a;have Y:Hid _:=wF0 X a c h1 z A;have d:Hid _:=I a;obtain ⟨p0,p1⟩:=M W c;rw [a] at T;clear a f h1 z A q P;go_wp2_with fail;go_ret2;rw [d.out];exact Y
  ·have d:Hid _:=L a;have D:((newE H.rs H.st H.dy H.pr H.ti H.mo).1 != 0)=true:=by simpa using a
   have t:((newE H.rs H.st H.dy H.pr H.ti H.mo).1 == 0)=false:=by simpa using a
   have r:=hid7 a;clear f q P a;generalize (newE H.rs H.st H.dy H.pr H.ti H.mo).1=ev at T d r D t ⊢;go_upto_region 33 with fail;go_region;go_wp2_with fail;go_ret2;rw [d.out];exact X.stay c.drew ⟨_,rfl,fun e=>absurd e r⟩
 ·go_simp;refine g.out _ _ (fun _ _ _=>s _ (aD0 y (bel1 wz _))) ?_;clear g K;have u:=heap_alloc_new wz (R #[U G 0,U G 0] 88);have O:=aD0 y (bel1 wz (R #[U G 0,U G 0] 88));generalize wz.alloc (R #[U G 0,U G 0] 88)=wa at u O ⊢;have B:=y.size;generalize wz.heap.size=fb at u B ⊢;clear y;refine aT0 (i:=29) k7 rfl (fun K g=>?_);go_simp;refine (bY1 x.ta x.tc H.rs H.st H.dy H.pr H.ti H.mo wa (N wa O) hr).mono ?_;rintro e w1 ⟨F,rfl,o,v⟩;have C:=aD0 O o;have m:=aE0 u o lR7;refine g.out _ _ (fun _ _ _=>s _ C) ?_;clear g K;refine puM9 30 ?_;refine puM9 31 ?_;refine puM9 32 ?_;refine puM9 34 ?_;have y0:=aA0 (j:=0) m rfl;have y1:=aA0 (j:=1) m rfl;have Z:=aB0 (j:=0) m;have f1:=aB0 (j:=1) m;refine aT0 (i:=35) k7 rfl (fun K g=>?_);go_simp;refine g.out _ _ (fun _ h=>by cases h) ?_;clear g K;refine bI0 k7 ?_ _;have Q:=aJ0 (j:=1) (U G (newE H.rs H.st H.dy H.pr H.ti H.mo).2) (aJ0 (j:=0) (U G (newE H.rs H.st H.dy H.pr H.ti H.mo).1) m);have S:Out (fun j=>j=fb) w1 ((w1.setCell ⟨fb,0,none⟩ (U G (newE H.rs H.st H.dy H.pr H.ti H.mo).1)).setCell ⟨fb,1,none⟩ (U G (newE H.rs H.st H.dy H.pr H.ti H.mo).2)):=(aM0 w1 ⟨fb,0,none⟩ _).trans (aM0 _ ⟨fb,1,none⟩ _) (aJ _ _);have c:Hid (aL0 w ((w1.setCell ⟨fb,0,none⟩ (U G (newE H.rs H.st H.dy H.pr H.ti H.mo).1)).setCell ⟨fb,1,none⟩ (U G (newE H.rs H.st H.dy H.pr H.ti H.mo).2))):=(C.setCell (p:=⟨fb,0,none⟩) B _).setCell (p:=⟨fb,1,none⟩) B _;have a0:=lt_of_block u
  have f:Hid ((newE H.rs H.st H.dy H.pr H.ti H.mo).1=0->∃mb b,x.ta=some ⟨b,0,none⟩/\F=E (some ⟨mb,0,none⟩)/\w.heap.size<=mb/\bJ0 ((w1.setCell ⟨fb,0,none⟩ (U G (newE H.rs H.st H.dy H.pr H.ti H.mo).1)).setCell ⟨fb,1,none⟩ (U G (newE H.rs H.st H.dy H.pr H.ti H.mo).2)) mb (mkV (J (some ⟨b,0,none⟩) H.rs.length x.tc) (newM H.rs H.st H.dy H.pr H.ti H.mo) (J none 0 0) (J none 0 0) (J none 0 0)) 103):=fun e=>by
   obtain ⟨mb,b,h1,h2,z,A⟩:=v e;exact ⟨mb,b,h1,h2,aI O.size z,aF0 A S (fun e=>by have e:mb=fb:=e;omega)⟩
  have q:=Q;generalize (w1.setCell ⟨fb,0,none⟩ (U G (newE H.rs H.st H.dy H.pr H.ti H.mo).1)).setCell ⟨fb,1,none⟩ (U G (newE H.rs H.st H.dy H.pr H.ti H.mo).2)=W at q f c ⊢;clear Q S y0 y1 Z f1 C o v hHeld O u m a0 B;have T:=aA0 (j:=0) q rfl;have z1:=aA0 (j:=1) q rfl
  by_cases a:(newE H.rs H.st H.dy H.pr H.ti H.mo).1=0
  ·obtain ⟨mb,b,h1,rfl,z,A⟩:=f a;have Y:Hid _:=wF0 X a c h1 z A;have d:Hid _:=I a;obtain ⟨p0,p1⟩:=M W c;rw [a] at T;clear a f h1 z A q P;go_wp2_with fail;go_ret2;rw [d.out];exact Y
  ·have d:Hid _:=L a;have D:((newE H.rs H.st H.dy H.pr H.ti H.mo).1 != 0)=true:=by simpa using a
   have t:((newE H.rs H.st H.dy H.pr H.ti H.mo).1 == 0)=false:=by simpa using a
   have r:=hid7 a;clear f q P a;generalize (newE H.rs H.st H.dy H.pr H.ti H.mo).1=ev at T d r D t ⊢;go_upto_region 33 with fail;go_region;go_wp2_with fail;go_ret2;rw [d.out];exact X.stay c.drew ⟨_,rfl,fun e=>absurd e r⟩
theorem iK2 (la:Option Addr) (d:Nat) (l:List Int) (lo a n:Nat) (x:HsK) (H:DsS) (M:Mkt) (w:World) (h:HsIs w lo a x H n) (b:H.mkt=some M):
  Calls prog 16 #[E (some ⟨a,0,none⟩),.string ⟨#[116,97,98,108,101]⟩,J la l.length d] w fun e w'=>cF0 w w' lo a n ((6,[]),H) e:=by
 have c:=hid7 h;have f:=h.ptr_yes b;clear h b;go_enter func16,ntmps16;go_wp2_with fail;go_ret2;exact c.out.stay (aF _ _) ⟨_,rfl,fun e=>absurd e d7⟩
theorem iL2 (la:Option Addr) (d:Nat) (l:List Int) (lo a n:Nat) (x:HsK) (H:DsS) (M:Mkt) (w:World) (h:HsIs w lo a x H n) (b:H.mkt=some M):
  Calls prog 16 #[E (some ⟨a,0,none⟩),.string ⟨#[98,97,110,100,115]⟩,J la l.length d] w fun e w'=>cF0 w w' lo a n ((6,[]),H) e:=by
 have c:=hid7 h;have f:=h.ptr_yes b;clear h b;go_enter func16,ntmps16;go_wp2_with fail;go_ret2;exact c.out.stay (aF _ _) ⟨_,rfl,fun e=>absurd e d7⟩
theorem iM2 (la:Option Addr) (d:Nat) (l:List Int) (lo a n:Nat) (x:HsK) (H:DsS) (M:Mkt) (w:World) (h:HsIs w lo a x H n) (b:H.mkt=some M):
  Calls prog 16 #[E (some ⟨a,0,none⟩),.string ⟨#[97,117,99,116,105,111,110]⟩,J la l.length d] w fun e w'=>cF0 w w' lo a n ((6,[]),H) e:=by
 have c:=hid7 h;have f:=h.ptr_yes b;clear h b;go_enter func16,ntmps16;go_wp2_with fail;go_ret2;exact c.out.stay (aF _ _) ⟨_,rfl,fun e=>absurd e d7⟩
theorem iN2 (la:Option Addr) (d:Nat) (l:List Int) (lo a n:Nat) (x:HsK) (H:DsS) (M:Mkt) (w:World) (h:HsIs w lo a x H n) (b:H.mkt=some M):
  Calls prog 16 #[E (some ⟨a,0,none⟩),.string ⟨#[115,116,97,114,116]⟩,J la l.length d] w fun e w'=>cF0 w w' lo a n ((6,[]),H) e:=by
 have c:=hid7 h;have f:=h.ptr_yes b;clear h b;go_enter func16,ntmps16;go_wp2_with fail;go_ret2;exact c.out.stay (aF _ _) ⟨_,rfl,fun e=>absurd e d7⟩
theorem iO2 (la:Option Addr) (d:Nat) (l:List Int) (lo a n:Nat) (x:HsK) (H:DsS) (w:World) (h:HsIs w lo a x H n) (b:H.mkt=none):
  Calls prog 16 #[E (some ⟨a,0,none⟩),.string ⟨#[98,117,121]⟩,J la l.length d] w fun e w'=>cF0 w w' lo a n ((6,[]),H) e:=by
 have c:=hid7 h;have f:=h.ptr_no b;clear h b;go_enter func16,ntmps16;go_wp2_with fail;go_ret2;exact c.out.stay (aF _ _) ⟨_,rfl,fun e=>absurd e d7⟩
theorem iP2 (la:Option Addr) (d:Nat) (l:List Int) (lo a n:Nat) (x:HsK) (H:DsS) (w:World) (h:HsIs w lo a x H n) (b:H.mkt=none):
  Calls prog 16 #[E (some ⟨a,0,none⟩),.string ⟨#[115,101,108,108]⟩,J la l.length d] w fun e w'=>cF0 w w' lo a n ((6,[]),H) e:=by
 have c:=hid7 h;have f:=h.ptr_no b;clear h b;go_enter func16,ntmps16;go_wp2_with fail;go_ret2;exact c.out.stay (aF _ _) ⟨_,rfl,fun e=>absurd e d7⟩
theorem iQ2 (la:Option Addr) (d:Nat) (l:List Int) (lo a n:Nat) (x:HsK) (H:DsS) (w:World) (h:HsIs w lo a x H n) (b:H.mkt=none):
  Calls prog 16 #[E (some ⟨a,0,none⟩),.string ⟨#[99,97,110,99,101,108]⟩,J la l.length d] w fun e w'=>cF0 w w' lo a n ((6,[]),H) e:=by
 have c:=hid7 h;have f:=h.ptr_no b;clear h b;go_enter func16,ntmps16;go_wp2_with fail;go_ret2;exact c.out.stay (aF _ _) ⟨_,rfl,fun e=>absurd e d7⟩
theorem iR2 (la:Option Addr) (d:Nat) (l:List Int) (lo a n:Nat) (x:HsK) (H:DsS) (w:World) (h:HsIs w lo a x H n) (b:H.mkt=none):
  Calls prog 16 #[E (some ⟨a,0,none⟩),.string ⟨#[116,105,99,107]⟩,J la l.length d] w fun e w'=>cF0 w w' lo a n ((6,[]),H) e:=by
 have c:=hid7 h;have f:=h.ptr_no b;clear h b;go_enter func16,ntmps16;go_wp2_with fail;go_ret2;exact c.out.stay (aF _ _) ⟨_,rfl,fun e=>absurd e d7⟩
theorem iS2 (la:Option Addr) (d:Nat) (l:List Int) (lo a n:Nat) (x:HsK) (H:DsS) (w:World) (h:HsIs w lo a x H n) (b:H.mkt=none):
  Calls prog 16 #[E (some ⟨a,0,none⟩),.string ⟨#[104,97,108,116]⟩,J la l.length d] w fun e w'=>cF0 w w' lo a n ((6,[]),H) e:=by
 have c:=hid7 h;have f:=h.ptr_no b;clear h b;go_enter func16,ntmps16;go_wp2_with fail;go_ret2;exact c.out.stay (aF _ _) ⟨_,rfl,fun e=>absurd e d7⟩
theorem iT2 (la:Option Addr) (d:Nat) (l:List Int) (lo a n:Nat) (x:HsK) (H:DsS) (w:World) (h:HsIs w lo a x H n) (b:H.mkt=none):
  Calls prog 16 #[E (some ⟨a,0,none⟩),.string ⟨#[111,112,101,110]⟩,J la l.length d] w fun e w'=>cF0 w w' lo a n ((6,[]),H) e:=by
 have c:=hid7 h;have f:=h.ptr_no b;clear h b;go_enter func16,ntmps16;go_wp2_with fail;go_ret2;exact c.out.stay (aF _ _) ⟨_,rfl,fun e=>absurd e d7⟩
theorem gQ2 (la:Option Addr) (d:Nat) (l:List Int) (lo a n:Nat) (x:HsK) (H:DsS) (w:World) (h:HsIs w lo a x H n) (b:H.mkt=none):
  Calls prog 16 #[E (some ⟨a,0,none⟩),.string ⟨#[112,104,97,115,101]⟩,J la l.length d] w fun e w'=>cF0 w w' lo a n ((6,[]),H) e:=by
 have c:=hid7 h;have f:=h.ptr_no b;clear h b;go_enter func16,ntmps16;go_wp2_with fail;go_ret2;exact c.out.stay (aF _ _) ⟨_,rfl,fun e=>absurd e d7⟩
theorem gR2 (la:Option Addr) (d:Nat) (l:List Int) (lo a n:Nat) (x:HsK) (H:DsS) (w:World) (h:HsIs w lo a x H n) (b:H.mkt=none):
  Calls prog 16 #[E (some ⟨a,0,none⟩),.string ⟨#[113,117,111,116,101]⟩,J la l.length d] w fun e w'=>cF0 w w' lo a n ((6,[]),H) e:=by
 have c:=hid7 h;have f:=h.ptr_no b;clear h b;go_enter func16,ntmps16;go_wp2_with fail;go_ret2;exact c.out.stay (aF _ _) ⟨_,rfl,fun e=>absurd e d7⟩
theorem gS2 (la:Option Addr) (d:Nat) (l:List Int) (lo a n:Nat) (x:HsK) (H:DsS) (w:World) (h:HsIs w lo a x H n) (b:H.mkt=none):
  Calls prog 16 #[E (some ⟨a,0,none⟩),.string ⟨#[114,101,102,115]⟩,J la l.length d] w fun e w'=>cF0 w w' lo a n ((6,[]),H) e:=by
 have c:=hid7 h;have f:=h.ptr_no b;clear h b;go_enter func16,ntmps16;go_wp2_with fail;go_ret2;exact c.out.stay (aF _ _) ⟨_,rfl,fun e=>absurd e d7⟩
theorem gT2 (la:Option Addr) (d:Nat) (l:List Int) (lo a n:Nat) (x:HsK) (H:DsS) (w:World) (h:HsIs w lo a x H n) (b:H.mkt=none):
  Calls prog 16 #[E (some ⟨a,0,none⟩),.string ⟨#[111,114,100,101,114,115]⟩,J la l.length d] w fun e w'=>cF0 w w' lo a n ((6,[]),H) e:=by
 have c:=hid7 h;have f:=h.ptr_no b;clear h b;go_enter func16,ntmps16;go_wp2_with fail;go_ret2;exact c.out.stay (aF _ _) ⟨_,rfl,fun e=>absurd e d7⟩
theorem gU2 (la:Option Addr) (d:Nat) (l:List Int) (lo a n:Nat) (x:HsK) (H:DsS) (w:World) (h:HsIs w lo a x H n) (b:H.mkt=none):
  Calls prog 16 #[E (some ⟨a,0,none⟩),.string ⟨#[112,97,114,107,101,100]⟩,J la l.length d] w fun e w'=>cF0 w w' lo a n ((6,[]),H) e:=by
 have c:=hid7 h;have f:=h.ptr_no b;clear h b;go_enter func16,ntmps16;go_wp2_with fail;go_ret2;exact c.out.stay (aF _ _) ⟨_,rfl,fun e=>absurd e d7⟩
theorem gG0 (h:mayD 2 H=false):H.mkt=none:=by
 cases hm:H.mkt with
 | none=>rfl
 | some M=>
  unfold mayD at h;rw [hm] at h;simp at h
theorem rL0 (h:mayD 1 H=false):∃M,H.mkt=some M:=by
 cases hm:H.mkt with
 | some M=>exact ⟨M,rfl⟩
 | none=>
  unfold mayD at h;rw [hm] at h;simp at h
theorem hsNo (d:Nat) (i:d<18) (la:Option Addr) (c:Nat) (l:List Int) (lo a n:Nat) (x:HsK) (H:DsS) (w:World) (h:HsIs w lo a x H n) (b:mayD (iQ0 d) H=false):
  Calls prog 16 #[E (some ⟨a,0,none⟩),.string (baOf (eZ0 d)),J la l.length c] w fun e w'=>cF0 w w' lo a n ((6,[]),H) e:=by
 match d,i with
 | 0,_=>
  obtain ⟨M,f⟩:=rL0 b;exact iK2 la c l lo a n x H M w h f
 | 1,_=>
  obtain ⟨M,f⟩:=rL0 b;exact iL2 la c l lo a n x H M w h f
 | 2,_=>
  obtain ⟨M,f⟩:=rL0 b;exact iM2 la c l lo a n x H M w h f
 | 3,_=>
  obtain ⟨M,f⟩:=rL0 b;exact iN2 la c l lo a n x H M w h f
 | 4,_=>exact iO2 la c l lo a n x H w h (gG0 b)
 | 5,_=>exact iP2 la c l lo a n x H w h (gG0 b)
 | 6,_=>exact iQ2 la c l lo a n x H w h (gG0 b)
 | 7,_=>exact iR2 la c l lo a n x H w h (gG0 b)
 | 8,_=>exact iS2 la c l lo a n x H w h (gG0 b)
 | 9,_=>exact iT2 la c l lo a n x H w h (gG0 b)
 | 10,_=>exact gQ2 la c l lo a n x H w h (gG0 b)
 | 11,_=>exact gR2 la c l lo a n x H w h (gG0 b)
 | 12,_=>exact gS2 la c l lo a n x H w h (gG0 b)
 | 13,_=>exact gT2 la c l lo a n x H w h (gG0 b)
 | 14,_=>exact gU2 la c l lo a n x H w h (gG0 b)
 | 15,_=>exact absurd (show mayD 0 H=true from rfl) (by have g:mayD 0 H=false:=b;rw [g];decide)
 | 16,_=>exact absurd (show mayD 0 H=true from rfl) (by have g:mayD 0 H=false:=b;rw [g];decide)
 | 17,_=>exact absurd (show mayD 0 H=true from rfl) (by have g:mayD 0 H=false:=b;rw [g];decide)
 | d+18,h=>exact absurd h o7
theorem gV2 (d:Nat) (o:d<18) (la:Option Addr) (c:Nat) (l:List Int) (lo a n:Nat) (x:HsK) (H:DsS) (w:World) (h:HsIs w lo a x H n) (j:ArgIs w a la l) (k:kT0 (cE0 d) l.length=true) (f:mayD (iQ0 d) H=true) (p:l.length<=10000) (q:H.rs.length<=10000) (i:HsVars w) (m:12<=lo) (g:n<=5000):
  Calls prog 16 #[E (some ⟨a,0,none⟩),.string (baOf (eZ0 d)),J la l.length c] w fun e w'=>cF0 w w' lo a n (aZ0 d l H) e:=by
 match d,o with
 | 0,_=>exact dB2 la c l lo a n x H w h j (cM1 k) p (fU0 f)
 | 1,_=>exact cY2 la c l lo a n x H w h j (Int.ofNat.inj (gF0 k d7)) (fU0 f)
 | 2,_=>exact rT1 la c l lo a n x H w h j (Int.ofNat.inj (gF0 k d7)) (fU0 f)
 | 3,_=>exact dC2 la c l lo a n x H w h q (fU0 f)
 | 4,_=>
  obtain ⟨M,b⟩:=bM0 f;exact iJ2 la c l lo a n x H M w h j (Int.ofNat.inj (gF0 k d7)) b g i.ds m
 | 5,_=>
  obtain ⟨M,b⟩:=bM0 f;exact gP2 la c l lo a n x H M w h j (Int.ofNat.inj (gF0 k d7)) b g i.ds m
 | 6,_=>
  obtain ⟨M,b⟩:=bM0 f;exact xG1 la c l lo a n x H M w h j (Int.ofNat.inj (gF0 k d7)) b g
 | 7,_=>
  obtain ⟨M,b⟩:=bM0 f;exact gO2 la c l lo a n x H M w h b g i.ds m
 | 8,_=>
  obtain ⟨M,b⟩:=bM0 f;exact gL2 la c l lo a n x H M w h b g
 | 9,_=>
  obtain ⟨M,b⟩:=bM0 f;exact gM2 la c l lo a n x H M w h b g
 | 10,_=>
  obtain ⟨M,b⟩:=bM0 f;exact dA2 la c l lo a n x H M w h b g i
 | 11,_=>
  obtain ⟨M,b⟩:=bM0 f;exact cZ2 la c l lo a n x H M w h b g i.ds.tab
 | 12,_=>
  obtain ⟨M,b⟩:=bM0 f;exact gN2 la c l lo a n x H M w h b g i.ds.tab
 | 13,_=>
  obtain ⟨M,b⟩:=bM0 f;exact rU1 la c l lo a n x H M w h j (Int.ofNat.inj (gF0 k d7)) b g i.ds.tab
 | 14,_=>
  obtain ⟨M,b⟩:=bM0 f;exact xH1 la c l lo a n x H M w h b g i.ds.tab
 | 15,_=>exact gK2 la c l lo a n x H w h j (Int.ofNat.inj (gF0 k d7)) i.ds
 | 16,_=>exact cX2 la c l lo a n x H w h
 | 17,_=>exact gJ2 la c l lo a n x H w h
 | d+18,h=>exact absurd h o7
attribute [local go_sem] Oper.semAt_some
attribute [local go_sem ↓] Go.wp_at_zero Go.wp_at_succ
def iE0:List ByteArray->Nat
 | []=>0
 | x::l=>x.size+1+iE0 l
theorem pZ0:∀a b:List ByteArray,iE0 (a++b)=iE0 a+iE0 b
 | [],b=>by simp [iE0]
 | x::a,b=>by simp only [dL,iE0,pZ0 a b];omega
theorem eO0.neB {W:World} {mb sb b:Nat} {vs:Array Value} {t:TypeId} {f:Nat×Nat} (h:eO0 W mb sb) (c:W.heap[b]? = some (R vs t f)):b≠mb:=fun e=>by
 obtain ⟨d,a,h1,_⟩:=h;rw [e,h1] at c;cases c
structure SeIs (w:World) (S O mb db lo:Nat) (pre:List ByteArray) (W:World):Prop where
 is:∃x n,DsIs W lo S x (gU0 pre DsS.zero) n/\4*n<=iE0 pre
 bd:BdIs O O (Lib.byteCells (iR0 pre DsS.zero)) W
 be:BdE W O (Lib.byteCells (iR0 pre DsS.zero))
 de:eO0 W mb S
 dv:W.heap[db]? = some (R #[.map (some mb)] 37 (0,0))
 va:DsVars W
 bl:Below w.heap.size w W
 rl:(gU0 pre DsS.zero).rs.length<=10000
 ln:(iR0 pre DsS.zero).length<=30001*pre.length
section
variable {w W W':World} {S O mb db lo:Nat} {pre:List ByteArray}
theorem xI1 (h:BdIs B O bs W) (f:Below W.heap.size W W'):BdIs B O bs W':=by
 have b:∀{v:Value},W.ownsRowF B 5 1 v bs.length bs->W'.ownsRowF B 5 1 v bs.length bs:=fun {v} hr=>by
  obtain ⟨h1,a | ⟨g,c,d,i,e,k,j,l⟩⟩:=hr
  ·exact ⟨h1,aH a⟩
  ·exact ⟨h1,aG ⟨g,c,d,i,e,k,aE0 j f lR7,l⟩⟩
 rcases h with ⟨q,v,h0,h1,a⟩ | ⟨q,v,h0,h1,a⟩
 ·exact aH ⟨q,v,aE0 h0 f lR7,b h1,a⟩
 ·exact aG ⟨q,v,aE0 h0 f lR7,b h1,a⟩
theorem rV1 (h:BdE W O bs) (a:Below W.heap.size W W'):BdE W' O bs:=fun e=>by
 obtain ⟨p,b⟩:=h e;exact ⟨p,aE0 b a lR7⟩
theorem SeIs.below (h:SeIs w S O mb db lo pre W) (a:Below W.heap.size W W') (c:12<=w.heap.size):SeIs w S O mb db lo pre W':=by
 obtain ⟨x,n,h1,b⟩:=h.is;exact ⟨⟨x,n,h1.below a,b⟩,xI1 h.bd a,rV1 h.be a,h.de.same (a.block mb h.de.lt),aE0 h.dv a lR7,h.va.below a (aI c h.bl.size),aD0 h.bl a,h.rl,h.ln⟩
theorem dD2 {sb:Nat} (h:BdIs B O bs W) (s:O<lo) (o:O≠sb) (m:∀c f,W.heap[sb]?≠some (R c 5 f)) (l:Out (DsW W lo sb) W W'):BdIs B O bs W':=by
 have b:¬DsW W lo sb O:=fun e=>e.elim o (fun e=>by have:=e.1;omega)
 have d:∀{v:Value},W.ownsRowF B 5 1 v bs.length bs->W'.ownsRowF B 5 1 v bs.length bs:=fun {v} hr=>by
  obtain ⟨h1,a | ⟨g,i,j,n,e,p,k,r⟩⟩:=hr
  ·exact ⟨h1,aH a⟩
  ·refine ⟨h1,aG ⟨g,i,j,n,e,p,aF0 k l (fun e=>?_),r⟩⟩;rcases e with e | e
   ·exact m _ _ (e ▸ k)
   ·exact e.2 _ _ _ (aH rfl) k
 rcases h with ⟨q,v,h0,h1,a⟩ | ⟨q,v,h0,h1,a⟩
 ·exact aH ⟨q,v,aF0 h0 l b,d h1,a⟩
 ·exact aG ⟨q,v,aF0 h0 l b,d h1,a⟩
theorem xJ1 {sb:Nat} (h:BdE W O bs) (d:O<lo) (c:O≠sb) (a:Out (DsW W lo sb) W W'):BdE W' O bs:=fun e=>by
 obtain ⟨p,b⟩:=h e;exact ⟨p,aF0 b a (fun e=>e.elim c (fun e=>by have:=e.1;omega))⟩
theorem yQ0 {l:List UInt8} (h:BdIs B O (Lib.byteCells l) W) (b:BdE W O (Lib.byteCells l)) (g:j≠O) (i:∀c f,W.heap[j]?≠some (R c 5 f)):¬BdW W O j:=fun k=>by
 rcases oR0 h b k with e | ⟨⟨a,m,d⟩,_⟩
 ·exact g e
 ·exact i _ _ d
theorem dE2 (h:BdIs B O bs W) (i:BdW W O j):B<=j:=by
 rcases i with e | ⟨p,v,c,b⟩
 ·rcases h with ⟨q,_⟩ | ⟨q,_⟩ <;> omega
 ·have a:W.ownsRowF B 5 1 v bs.length bs:=by
   rcases h with ⟨_,v0,h0,h1,_⟩ | ⟨_,v0,h0,h1,_⟩
   ·rw [wE0 (aH rfl) h0 c];exact h1
   ·rw [wE0 (aH rfl) h0 c];exact h1
  obtain ⟨_,⟨e,_⟩ | ⟨g,d,f,k,e,l,_⟩⟩:=a
  ·rw [e] at b;cases b
  ·rw [e] at b;have:g=j:=by simpa [Value.ownBlock] using b
   omega
theorem oT0 {a:Addr} {v:Value} (h:W.cell? a=some v):∃c t f,W.heap[a.block]? = some (R c t f):=by
 unfold World.cell? at h;split at h
 ·rename_i e;exact ⟨_,_,_,e⟩
 ·cases h
theorem DsIs.outF {Z:Nat->Prop} {sb n:Nat} {x:DsK} {H:DsS} (h:DsIs W lo sb x H n) (a:Out Z W W') (d:∀j c t f,W.heap[j]? = some (R c t f)->¬Z j) (l:∀j,lo<=j->¬Z j):DsIs W' lo sb x H n:=by
 refine ⟨aF0 h.box a (d _ _ _ _ h.box),⟨h.slt.1,aI h.slt.2 a.size⟩,fun h0=>?_,fun M m=>?_⟩
 ·obtain ⟨r,b,i,o,p,q,cs,f,k⟩:=h.rows h0;exact ⟨r,b,cX0 i a (d _ _ _ _ k),o,p,q,cs,f,aF0 k a (d _ _ _ _ k)⟩
 ·obtain ⟨b,i⟩:=h.eg M m;refine ⟨b.outT a (fun j g=>l j (i.2.1 j g)) ⟨?_,fun j u g=>?_⟩,i⟩
  ·obtain ⟨c,t,f,e⟩:=oT0 b.tab.1;exact cH0 b.tab.1 a (d _ _ _ _ e)
  ·obtain ⟨c,t,f,e⟩:=oT0 (b.tab.2 j u g);exact cH0 (b.tab.2 j u g) a (d _ _ _ _ e)
theorem dF2 {Z:Nat->Prop} (h:BdIs B O bs W) (l:Out Z W W') (i:∀j c t f,W.heap[j]? = some (R c t f)->¬Z j):BdIs B O bs W':=by
 have a:∀{v:Value},W.ownsRowF B 5 1 v bs.length bs->W'.ownsRowF B 5 1 v bs.length bs:=fun {v} hr=>by
  obtain ⟨h1,q | ⟨g,b,d,n,e,o,m,p⟩⟩:=hr
  ·exact ⟨h1,aH q⟩
  ·exact ⟨h1,aG ⟨g,b,d,n,e,o,aF0 m l (i _ _ _ _ m),p⟩⟩
 rcases h with ⟨q,v,h0,h1,k⟩ | ⟨q,v,h0,h1,k⟩
 ·exact aH ⟨q,v,aF0 h0 l (i _ _ _ _ h0),a h1,k⟩
 ·exact aG ⟨q,v,aF0 h0 l (i _ _ _ _ h0),a h1,k⟩
theorem rW1 (l:Nat) (o:Obj) (W:World):Out (fun j=>j=l) W (W.putObj l o):=⟨rfl,rfl,rfl,by simp [World.putObj],fun j _ a=>World.putObj_heap_other (fun e=>a o7)⟩
theorem SeIs.put {l:Nat} {r d:Loop} (h:SeIs w S O mb db lo pre W) (o:W.heap[l]? = some (.loop r)) (s:l<lo) (u:mb≠l) (z:w.heap.size<=l) (k:12<=w.heap.size):SeIs w S O mb db lo pre (W.putObj l (.loop d)):=by
 have a:=rW1 l (.loop d) W;have b:∀j c t f,W.heap[j]? = some (R c t f)->¬j=l:=fun j c t f e q=>by rw [q,o] at e;cases e
 have g:Below w.heap.size W (W.putObj l (.loop d)):=a.below (fun j m=>by omega) h.bl.size;obtain ⟨x,n,v,y⟩:=h.is;refine ⟨⟨x,n,v.outF a b (fun j m e=>by omega),y⟩,dF2 h.bd a b,fun e=>?_,h.de.same (a.block mb h.de.lt u),aF0 h.dv a (b _ _ _ _ h.dv),h.va.below (g.mono k) lR7,h.bl.trans g,h.rl,h.ln⟩;obtain ⟨p,i⟩:=h.be e;exact ⟨p,aF0 i a (b _ _ _ _ i)⟩
end
end
section
open Go.RowKit Go.Shelf
theorem yR0 {l:List Int} (h:∀z∈l,in64 z):(rowT l).length<=l.length*22:=by
 have:=dK0 (m:=21) (l.map Lib.itoa) [32] (fun x b=>by
  obtain ⟨z,a,rfl⟩:=bH.1 b;exact Lib.itoa_length_le _ (h z a).1 (h z a).2)
 rw [bU] at this;exact this
theorem uJ0 {t:List UInt8} {fs:List Fil} (d:t.length<=88) (h:∀f∈fs,filI f) (e:fs.length<=200):(iP0 t fs).length<=30000:=by
 have:=dK0 (m:=88) (t::fs.map filT) [44,32] (fun x a=>by
  rcases aR.1 a with rfl | a
  ·exact d
  ·obtain ⟨f,c,rfl⟩:=bH.1 a;exact rJ0 (h f c))
 rw [aZ,bU] at this;have b:([44,32]:List UInt8).length=2:=rfl;rw [b] at this;show (Lib.join (t::fs.map filT) [44,32]).length<=30000;have:(fs.length+1)*(88+2)<=201*90:=eF _ o7;omega
theorem iA1 {l:List Ord} (h:∀o∈l,kU0 o) (b:l.length<=200):(pN0 l).length<=30000:=by
 have:=dK0 (m:=88) (l.map ordT) [44,32] (fun x d=>by
  obtain ⟨o,c,rfl⟩:=bH.1 d;exact yJ0 (h o c))
 rw [bU] at this;have a:([44,32]:List UInt8).length=2:=rfl;rw [a] at this;show (Lib.join (l.map ordT) [44,32]).length<=30000;have:l.length*(88+2)<=200*90:=eF _ b;omega
theorem uK0 {e:Int} {t:List UInt8} (h:t.length<=30000):(orE e t).2.length<=30000:=by
 unfold orE;split
 ·exact h
 ·exact aO _
theorem gW2 (p:Int):(phT p).length<=30000:=by
 unfold phT
 repeat' split
 all_goals decide
theorem iF0 (d:Nat):(eZ0 d).length<=30000:=by
 by_cases h:d<18
 ·have:∀k,k<18->(eZ0 k).length<=30000:=fun k hk=>by
   match k,hk with
   | 0,_=>decide
   | 1,_=>decide
   | 2,_=>decide
   | 3,_=>decide
   | 4,_=>decide
   | 5,_=>decide
   | 6,_=>decide
   | 7,_=>decide
   | 8,_=>decide
   | 9,_=>decide
   | 10,_=>decide
   | 11,_=>decide
   | 12,_=>decide
   | 13,_=>decide
   | 14,_=>decide
   | 15,_=>decide
   | 16,_=>decide
   | 17,_=>decide
   | k+18,h=>exact absurd h o7
  exact this d h
 ·have:eZ0 d=[]:=by
   unfold eZ0;have a:mQ0[d]? = none:=List.getElem?_eq_none (show mQ0.length<=d by show 18<=d;omega);rw [List.getD_eq_getElem?_getD,a];rfl
  rw [this];exact aO _
def yS0 (H:DsS):Prop:=∀M,H.mkt=some M->(∃lots side,DayInv M lots side 0 true/\NumI M lots)/\LOk M.L/\M.now<=1000000
section
variable {W:World} {lo sb n:Nat} {x:DsK} {H:DsS} {M:Mkt}
theorem xK1 (h:yS0 H) (p:H.mkt=some M) (d:Nat) (l:List Int) (f:∀k,in64 (nI l k)):(cK0 d l M).1.2.length<=30000:=by
 obtain ⟨⟨lots,side,b,g⟩,e,i⟩:=h M p;have a:M.L.length<=100:=by have:=b.few;omega
 unfold cK0;split
 ·exact uK0 (uJ0 d7 (yM0 b e g (f 0) (f 1) (f 2)).1 (by have:=(rH0 (o:=ordI 1 l) a).1;omega))
 ·exact uK0 (uJ0 d7 (yM0 b e g (f 0) (f 1) (f 2)).1 (by have:=(rH0 (o:=ordI 2 l) a).1;omega))
 ·exact uK0 (iF0 _)
 ·obtain ⟨r,_,_,s,_⟩:=yL0 b e g;have u:=uE0 e a;have v:=s.now
  have t:=yR0 (l:=[(bT0 M).2.now]) (fun z c=>by
   rw [bC.1 c];exact bQ0 o7)
  refine uK0 (uJ0 ?_ r o7);exact aI t (show 1*22<=88 by decide)
 ·exact uK0 (iF0 _)
 ·exact uK0 (iF0 _)
 ·exact gW2 _
 ·obtain ⟨j,m,n⟩:=eW1 e a b.la;refine aI (yR0 fun z c=>?_) (show 3*22<=30000 by decide);simp only [aR,cL,or_false] at c;rcases c with rfl | rfl | rfl
  ·exact j
  ·exact m
  ·exact n
 ·refine aI (yR0 fun z c=>?_) (show 2*22<=30000 by decide);simp only [aR,cL,or_false] at c;rcases c with rfl | rfl
  ·exact bQ0 (by have:=b.an;omega)
  ·exact bQ0 (by have:=b.la;omega)
 ·show (if _ then _ else _:Int×List UInt8).2.length<=30000;split
  ·refine iA1 (fun o q=>yG0 b e g o (bD0.1 q).1) ?_;have:=iU0 (nI l 0) M.L;omega
  ·exact aO _
 ·exact iA1 (yH0 b g) (by have:=b.few;omega)
theorem xL1 (h:yS0 H) (d:Nat) (l:List Int) (b:∀k,in64 (nI l k)):(aZ0 d l H).1.2.length<=30000:=by
 unfold aZ0;split
 ·exact iF0 _
 ·exact iF0 _
 ·exact iF0 _
 ·split
  ·exact iF0 _
  ·exact aO _
 ·refine uK0 (aI (yR0 fun z a=>?_) (show 2*22<=30000 by decide));simp only [aR,cL,or_false] at a;rcases a with rfl | rfl
  ·exact (yK0 _ _).1
  ·exact (yK0 _ _).2
 ·exact iF0 _
 ·show eZ2.length<=30000;decide
 ·split
  ·exact aO _
  ·rename_i hM;exact xK1 h hM _ l b
theorem dG2 {e:Int} (h:dA0 e):(errT e).length<=30000:=by
 have:=Lib.itoa_length_le e (oQ0 h).1 (oQ0 h).2;unfold errT;rw [aN];have:([101,114,114,111,114,32]:List UInt8).length=6:=rfl;omega
theorem wG0 {r:Int×List UInt8} (h1:dA0 r.1) (a:r.2.length<=30000):(ansT r).length<=30000:=by
 unfold ansT;split
 ·exact a
 ·exact dG2 h1
theorem iB1 (h:yS0 H) (s:ByteArray):(ansT (dC0 s H).1).length<=30000:=by
 have z:dA0 3:=⟨d7,d7⟩;unfold dC0;split
 ·exact wG0 sm0 (show 2<=30000 by decide)
 ·split
  ·exact wG0 z (aO _)
  ·split
   ·exact wG0 z (aO _)
   ·split
    ·exact wG0 z (aO _)
    ·rename_i l hl;split
     ·exact wG0 sm6 (aO _)
     ·refine wG0 (mG0 _ l H) (xL1 h _ l fun k=>?_)
      by_cases hk:k<l.length
      ·unfold nI;have:l.getD k 0=l[k]:=by simp [hk]
       rw [this];exact oP0 _ hl _ (List.getElem_mem hk)
      ·unfold nI;have:l.getD k 0=0:=by simp [Nat.le_of_not_lt hk]
       rw [this];exact ⟨d7,d7⟩
theorem dH2 (h:DsIs W lo sb x H n) (e:n<=1900) (s:ByteArray):(ansT (dC0 s H).1).length<=30000:=iB1 (fun M d=>by
 obtain ⟨b,c,_,_,a⟩:=h.eg M d;exact ⟨c,b.lok,o7⟩) s
end
attribute [local go_sem] Oper.semAt_some
attribute [local go_sem ↓] Go.wp_at_zero Go.wp_at_succ
theorem uL0:∀s:List UInt8,iE0 ((bH0 s).map baOf)=s.length+1
 | []=>rfl
 | c::s=>by
  have a:=uL0 s;unfold bH0;split
  ·simp only [bW,iE0,a,aZ];show 0+1+_=_;omega
  ·cases e:bH0 s with
   | nil=>exact absurd e (kF0 s)
   | cons x xs=>
    rw [e] at a;simp only [bW,iE0,aZ] at a ⊢;have h1:(baOf (c::x)).size=x.length+1:=rfl;have b:(baOf x).size=x.length:=rfl;omega
theorem fB1 (t:ByteArray):iE0 (mT0 t)<=t.size+1:=by
 unfold mT0 tP0;rw [uL0];have h1:=gX1 t.data.toList;have a:t.data.toList.length=t.size:=Array.length_toList;omega
theorem cO1:∀l:List ByteArray,l.length<=iE0 l
 | []=>lR7
 | x::l=>by have:=cO1 l;simp only [iE0,aZ];omega
theorem dI2 (d:Nat) (l:List Int) (H:DsS) (a:l.length<=10000) (h:H.rs.length<=10000):(aZ0 d l H).2.rs.length<=10000:=by
 unfold aZ0;split
 ·show (dI0 l).length<=10000;rw [jF0];omega
 ·exact h
 ·exact h
 ·split
  ·exact h
  ·exact h
 ·exact h
 ·exact aO _
 ·exact h
 ·split
  ·exact h
  ·exact h
theorem rX1 (s:ByteArray) (H:DsS) (b:s.size<=9000) (h:H.rs.length<=10000):(dC0 s H).2.rs.length<=10000:=by
 have a:=cL1 s;unfold dC0;split
 ·exact h
 ·rename_i w ws e;rw [e] at a;simp only [aZ] at a;split
  ·exact h
  ·split
   ·exact h
   ·split
    ·exact h
    ·rename_i l hl;split
     ·exact h
     ·exact dI2 _ l H (by rw [kJ0 ws hl];omega) h
theorem rY1 (l:List UInt8):Lib.byteCells l++[.int .u8 10]=Lib.byteCells (l++[10]):=by simp [Lib.byteCells]
theorem rZ1 {W':World} {S O mb o lo n u m:Nat} {x:DsK} {l:List UInt8} {r:Loop} {v:Option (List Deferred)} (z:DsIs W lo S x H n) (a:BdIs O O (Lib.byteCells l) W) (d:BdE W O (Lib.byteCells l)) (B:O<lo) (p:eO0 W mb S) (D:mb≠O) (i:bJ0 W o #[.map (some mb)] 37)
  (E:DsVars W) (g:aL0 w W) (k:W.heap[u]? = some (.loop r)/\W.heap[m]? = some (.deferred v)) (s:o≠O) (t:u≠O) (q:m≠O) (b:Out (BdW W O) W W') (A:12<=w.heap.size) (F:w.heap.size<=O):
  DsIs W' lo S x H n/\eO0 W' mb S/\bJ0 W' o #[.map (some mb)] 37/\DsVars W'/\aL0 w W'/\W'.heap[u]? = some (.loop r)/\W'.heap[m]? = some (.deferred v):=by
 have y:Below w.heap.size W W':=b.below (fun j C=>by have:=dE2 a C;omega) g.size;refine ⟨z.bdw a d B b,p.same (b.block _ p.lt (yQ0 a d D fun c f e=>absurd rfl (p.neB e))),aF0 i b (yQ0 a d s fun c f e=>?_),E.below (y.mono A) lR7,g.trans y,aF0 k.1 b (yQ0 a d t fun c f e=>by rw [k.1] at e;cases e),aF0 k.2 b (yQ0 a d q fun c f e=>by rw [k.2] at e;cases e)⟩;rw [i] at e;injection e with e;injection e with _ e _;exact absurd e d7
theorem sA1 (t:ByteArray) (ht:t.size<=4000) (w:World) (hv:DsVars w) (F:12<=w.heap.size):
  Calls prog 5 #[.string t] w fun e w'=>e=.returned (.string (baOf (mM0 t.data.toList)))/\aL0 w w':=by
 refine (callsIn_wide (n:=4)).1 ?_;refine callsIn_of_wp_marks func5 rfl trivial ?_ rfl;simp only [ntmps5,List.size_toArray,aZ,List.length_nil,Nat.reduceAdd,Nat.reduceSub,Array.replicate_succ,Array.replicate_zero,List.push_toArray,List.append_toArray,List.nil_append,dL];have h0:¬(20000:Int)<(t.size:Int):=o7;have HV:=hid7 hv;clear hv
 gi_wp2_with fail
 have P:=heap_alloc_new w (.cells #[.slice none 0 0,.int .i64 0,.int .i64 0,.int .i64 0,.int .i64 0,.int .i64 0,.pointer none] 32);have z:=bel1 w (.cells #[.slice none 0 0,.int .i64 0,.int .i64 0,.int .i64 0,.int .i64 0,.int .i64 0,.pointer none] 32);have B:(w.alloc (.cells #[.slice none 0 0,.int .i64 0,.int .i64 0,.int .i64 0,.int .i64 0,.int .i64 0,.pointer none] 32)).heap.size=w.heap.size+1:=by simp
 generalize w.alloc (.cells #[.slice none 0 0,.int .i64 0,.int .i64 0,.int .i64 0,.int .i64 0,.int .i64 0,.pointer none] 32)=w1 at P z B ⊢;have v:=heap_alloc_new w1 (.cells #[.pointer none,.slice none 0 0] 36);have l:=bel1 w1 (.cells #[.pointer none,.slice none 0 0] 36);have N:(w1.alloc (.cells #[.pointer none,.slice none 0 0] 36)).heap.size=w.heap.size+2:=by simp [B]
 generalize w1.alloc (.cells #[.pointer none,.slice none 0 0] 36)=w2 at v l N ⊢;rw [B] at v;refine ⟨trivial,?_⟩;refine (callsIn_wide.2 (bL2 w.heap.size w2)).mono ?_;rintro e o ⟨rfl,hd,m⟩;rw [N] at hd ⊢
 gi_wp2_with fail
 refine ⟨trivial,?_⟩;refine (callsIn_wide.2 (cS2 t _)).mono ?_;rintro e w4 ⟨rfl,rfl⟩
 gi_wp2_with fail
 have Q:=heap_alloc_new o (.cells #[.map (some (w.heap.size+2))] 37);have g:=bel1 o (.cells #[.map (some (w.heap.size+2))] 37);have C:(o.alloc (.cells #[.map (some (w.heap.size+2))] 37)).heap.size=o.heap.size+1:=by simp
 generalize o.alloc (.cells #[.map (some (w.heap.size+2))] 37)=w4 at Q g C ⊢;have E:=heap_alloc_new w4 (.cells #[.string t] 9);have A:=bel1 w4 (.cells #[.string t] 9);have D:(w4.alloc (.cells #[.string t] 9)).heap.size=o.heap.size+2:=by simp [C]
 generalize w4.alloc (.cells #[.string t] 9)=w5 at E A D ⊢;rw [C] at E;have c8:w.heap.size+3<=o.heap.size:=by have:=hd.lt;omega
 have c6:=hid7 (aD0 z (aD0 l (aD0 m (aD0 g A))));have X:Hid (aC0 w5 (o.heap.size+1) 0 (.string t)):=aA0 (j:=0) E rfl
 have b6:Hid (∀S,aL0 w5 S->S.heap.size=w5.heap.size+2->SeIs w w.heap.size (w.heap.size+1) (w.heap.size+2) o.heap.size (w5.heap.size+2) [] S):=fun S hq c7=>by
  have g5:=aD0 A hq;have g4:=aD0 g g5;have g3:=aD0 m g4;have g2:=aD0 l g3;have g1:=aD0 z g2
  refine ⟨⟨⟨none,0,0,⟨0,0,0,0,0,0,⟨0,0,0,.nilIface,.nilIface,.nilIface,.nilIface,[],[],fun _=>[]⟩,.nilIface,0,0⟩⟩,0,⟨aE0 P g2 lR7,⟨o7,o7⟩,fun h=>absurd h (eP 0),fun M e=>by cases e⟩,aO _⟩,
   aH ⟨lR7,_,aE0 v g3 lR7,World.ownsRowF_of (aU _ _ _ _),by simp [Value.ownBlock]⟩,fun _=>⟨_,aE0 v g3 lR7⟩,hd.same (g4.block _ hd.lt),aE0 Q g5 lR7,HV.below g1 F,g1,aO _,aO _⟩
 have c3:o.heap.size+2<=w5.heap.size:=dA D.symm;have c4:w5.heap.size<=o.heap.size+2:=dA D;clear D P z B v l N hd m Q g C E A
 refine kW1 (n:=4) d7 (gf:=37) (lb:=#[.pointer (some ⟨o.heap.size+1,0,none⟩)]) rfl (enters_of func37 k7 rfl) rfl (mT0 t) (SeIs w w.heap.size (w.heap.size+1) (w.heap.size+2) o.heap.size (w5.heap.size+2))
  (fun J hJ hY S b8 h0=>cU2 3 d7 _ _ t o7 J hJ hY S h0 ((b8.cell (World.block_lt_of_cell? w5 _ X)).trans X))
  (fun a W W' h hb=>h.below hb F)
  (fun a W r r' h hl=>h.put hl o7 o7 o7 F)
  b6
  (fun x=>{ tmps:=#[.string t,undef,.string ⟨#[]⟩,.pointer (some ⟨w.heap.size,0,none⟩),.pointer (some ⟨w.heap.size+1,0,none⟩),.pointer (some ⟨o.heap.size,0,none⟩),.string x,.string t,.int .i64 t.size,.bool false,undef,undef,undef,.map (some (w.heap.size+2)),.string t,.func (.func 37) #[] #[.pointer (some ⟨o.heap.size+1,0,none⟩)],.string x,undef,undef,undef,undef,undef,undef],defers:=[] })
  ?assign ?body ?done
 case assign=>
  intro x W K hK
  gi_wp2
  exact hK
 case body=>
  rintro a x c5 W u G ⟨r,hr⟩ hk;obtain ⟨x0,n,y,a7⟩:=u.is;have L:=fB1 t;rw [G,pZ0] at L;simp only [iE0] at L;have c0:=cO1 a;have a1:Hid (iE0 a+x.size+1<=4001/\a.length<=4001):=⟨o7,o7⟩;have c2:x.size<=4000:=o7;have hn:n<=1900:=o7;have p:=hid7 u;have b2:=hid7 y;have R:Hid (W.heap[w5.heap.size+1]? = some (.loop r)/\W.heap[w5.heap.size]? = some (.deferred (some []))):=⟨hr,hk⟩;have T:Hid _:=xA1 x (w5.heap.size+2) w.heap.size (w.heap.size+2) n x0 (gU0 a DsS.zero) W y u.de u.rl c2 u.va o7 F hn;have H:=hid7 (dH2 y hn x);have b4:=hid7 a7;have cD:=aA0 (j:=0) u.dv rfl;clear y u L G c0 a7 hr hk
  gi_wp2_with fail
  refine ⟨trivial,?_⟩;refine (CallsIn.inRound _ (callsIn_wide.2 T)).mono ?_;clear T;rintro e q ⟨rfl,b,x2,n2,a3,b9⟩
  have b5:Hid (∀c f,W.heap[w.heap.size]?≠some (.cells c 5 f)):=fun c f e=>by
   rw [b2.out.box] at e;injection e with e;injection e with _ e _;exact absurd e d7
  have s:Hid (BdIs (w.heap.size+1) (w.heap.size+1) (Lib.byteCells (iR0 a DsS.zero)) q):=dD2 p.bd o7 o7 b5 b;have Z:Hid (BdE q (w.heap.size+1) (Lib.byteCells (iR0 a DsS.zero))):=xJ1 p.be o7 o7 b;have i:∀j,j<w5.heap.size+2->j≠w.heap.size->¬DsW W (w5.heap.size+2) w.heap.size j:=fun j h1 h2 e=>e.elim h2 (fun e=>by have:=e.1;omega)
  have b0:Hid (eO0 q (w.heap.size+2) w.heap.size):=p.de.same (b.block _ p.de.lt (i _ o7 o7));have Y:Hid _:=aF0 p.dv b (i _ o7 o7);have b7:Hid (DsVars q):=p.va.outW b o7 F (aI F p.bl.size);have V:Hid (aL0 w q):=p.bl.trans (b.below (fun j hj=>hj.elim (fun e=>by omega) (fun e=>by have:=e.1;omega)) p.bl.size);have a2:Hid (q.heap[w5.heap.size+1]? = some (.loop r)/\q.heap[w5.heap.size]? = some (.deferred (some []))):=⟨(b.block _ (lt_of_block R.out.1) (i _ o7 o7)).trans R.out.1,(b.block _ (lt_of_block R.out.2) (i _ o7 o7)).trans R.out.2⟩;have a0:Hid (DsIs q (w5.heap.size+2) w.heap.size x2 (dC0 x (gU0 a DsS.zero)).2 n2/\4*n2<=iE0 a+x.size+1):=⟨a3,by have:=b4.out;omega⟩;clear b a3 b9 i cD
  gi_wp2_with fail
  refine ⟨trivial,?_⟩;refine (CallsIn.inRound _ (callsIn_wide.2 (xB1 (w.heap.size+1) (w.heap.size+1) _ _ q s ?hlen ?hbw))).mono ?_
  case hlen=>
   have h1:=p.out.ln;have h2:=H.out;have h3:=a1.out.2;rw [Lib.byteCells_length];show _+(ansT (dC0 x (gU0 a DsS.zero)).1).length<=_;have:30001*a.length<=30001*4001:=fU _ h3;omega
  case hbw=>
   have:=lt_of_block a2.out.1;omega
  rintro e W3 ⟨rfl,m,a4,I⟩;rw [show Lib.byteCells (iR0 a DsS.zero)++Lib.strCells (baOf (ansT (dC0 x (gU0 a DsS.zero)).1))=Lib.byteCells (iR0 a DsS.zero++ansT (dC0 x (gU0 a DsS.zero)).1) from (bK ..).symm] at m I;have b1:=hid7 (I Z);have U:Hid (BdIs (w.heap.size+1) (w.heap.size+1) (Lib.byteCells (iR0 a DsS.zero++ansT (dC0 x (gU0 a DsS.zero)).1)) W3):=aG m;have d:Hid _:=rZ1 a0.out.1 s Z o7 b0 o7 Y b7 V a2 o7 o7 o7 a4 F o7;clear m a4 I
  gi_wp2_with fail
  refine ⟨trivial,?_⟩;refine (CallsIn.inRound _ (callsIn_wide.2 (xC1 (w.heap.size+1) (w.heap.size+1) _ 10 W3 U ?hlen2 ?hbw2))).mono ?_
  case hlen2=>
   have h1:=p.out.ln;have h2:=H.out;have h3:=a1.out.2;rw [Lib.byteCells_length,aN];have:30001*a.length<=30001*4001:=fU _ h3;omega
  case hbw2=>
   have:=d.out.2.2.2.2.1.size;have:=lt_of_block d.out.2.2.2.2.2.1;omega
  rintro e W4 ⟨rfl,g,a5⟩;rw [rY1] at g;have a9:Hid _:=g;have k:Hid _:=rZ1 d.out.1 U b1 o7 d.out.2.1 o7 d.out.2.2.1 d.out.2.2.2.1 d.out.2.2.2.2.1 d.out.2.2.2.2.2 o7 o7 o7 a5 F o7;clear g a5
  gi_wp2_with fail
  have O:iR0 (a++[x]) DsS.zero=iR0 a DsS.zero++ansT (dC0 x (gU0 a DsS.zero)).1++[10]:=by
   rw [lG0];simp [iR0]
  have a8:gU0 (a++[x]) DsS.zero=(dC0 x (gU0 a DsS.zero)).2:=by
   rw [lH0];rfl
  refine ⟨⟨⟨x2,n2,?_,?_⟩,?_,?_,k.out.2.1,k.out.2.2.1,k.out.2.2.2.1,k.out.2.2.2.2.1,?_,?_⟩,?_,?_⟩
  ·rw [a8];exact k.out.1
  ·rw [pZ0];simp only [iE0];have:=a0.out.2;omega
  ·rw [O];exact aG a9.out
  ·rw [O];exact fun e=>absurd e (by simp [Lib.byteCells])
  ·rw [a8];exact rX1 x _ o7 p.out.rl
  ·rw [O];have h1:=p.out.ln;have h2:=H.out;simp only [aN,List.length_singleton];omega
  ·rw [k.out.2.2.2.2.2.1,R.out.1]
  ·rw [k.out.2.2.2.2.2.2,R.out.2]
 case done=>
  intro W u hK
  gi_wp2_with fail
  refine ⟨trivial,?_⟩;refine (callsIn_wide.2 (Any.Builder_String_any_k (ρ:=ds_lays169_ren) iC1 mH0 (w.heap.size+1) (w.heap.size+1) (iR0 (mT0 t) DsS.zero) W u.bd (by have:=lt_of_block hK;omega))).mono ?_;rintro e q ⟨rfl,_,l,a6⟩;have b3:Hid (q.heap[w5.heap.size]? = some (.deferred (some []))):=a6 _ _ hK (fun e=>by injection e with e;omega) (fun c fz e=>by cases e);have s:Hid (aL0 w q):=u.bl.trans (l.mono o7);clear u hK l a6
  gi_wp2
  have c1:mM0 t.data.toList=iR0 (mT0 t) DsS.zero:=by
   unfold mM0;have h2:t.data.toList.length=t.size:=Array.length_toList;rw [aA o7];rfl
  refine ⟨by simp,.inl ⟨_,_,rfl,run_takeDeferred b3,?_⟩⟩;refine ⟨_,results_tmp rfl _ _ _,?_⟩;rw [c1];exact ⟨rfl,s.trans ((rW1 w5.heap.size (.deferred none) q).below (fun j hj=>by omega) s.size)⟩
end
section
open Go.RowKit Go.Shelf
theorem qL0:∀(s:List UInt8),s≠[]->s.getLast?≠some 10->(bH0 s).getLast?≠some []
 | [],h,_=>absurd rfl h
 | [c],_,h=>by
  have g:¬(c == 10)=true:=fun e=>h (by rw [beq_iff_eq.1 e];rfl)
  show (if c == 10 then []::bH0 [] else match bH0 [] with | []=>[[c]] | x::xs=>(c::x)::xs).getLast?≠_;rw [aA g];simp [bH0]
 | c::d::s,_,h=>by
  have b:=qL0 (d::s) s7 (by simpa using h);have f:bH0 (c::d::s)=if c == 10 then []::bH0 (d::s) else match bH0 (d::s) with | []=>[[c]] | x::xs=>(c::x)::xs:=rfl
  rw [f];cases e:bH0 (d::s) with
  | nil=>exact absurd e (kF0 _)
  | cons x xs=>
   rw [e] at b;split
   ·intro a;apply b
    simpa using a
   ·intro a;cases xs with
    | nil=>simp at a
    | cons y ys=>
     apply b
     simpa using a
def fC1 (P:List (List UInt8)):Bool:=decide (1<P.length)&& decide (P.getLast? = some [])
theorem xM1 (t:List UInt8):tP0 t=if fC1 (bH0 t)=true then (bH0 t).dropLast else bH0 t:=by
 unfold tP0 fC1
 by_cases b:t.getLast? = some 10
 ·obtain ⟨a,rfl⟩:=List.getLast?_eq_some_iff.1 b;rw [vG1];have e:bH0 (a++[10])=bH0 a++[[]]:=tN0 a [];have g:=kF0 a;have i:0<(bH0 a).length:=List.length_pos_iff.2 g;rw [e,aB (by simp;omega)];simp
 ·have e:oG0 t=t:=by
   unfold oG0 Lib.trimSuffix Lib.hasSuffix;rw [aA];intro f;have d:=List.isSuffixOf_iff_suffix.1 f;obtain ⟨a,rfl⟩:=d;exact b s7
  rw [e]
  by_cases h0:t=[]
  ·subst h0;rfl
  ·rw [aA];intro c;simp only [Bool.and_eq_true,decide_eq_true_eq] at c;exact qL0 t h0 b c.2
theorem fD1 (s:List UInt8):(bH0 s).length<=s.length+1:=by
 have h1:=pT0 10 (baOf s);rw [lL0,mC0] at h1;rw [h1];have:=Lib.countB_le ⟨#[10]⟩ (Nat.le_refl 1) (baOf s).size (baOf s) lR7;rw [gE0] at this;omega
theorem iG0 {c:UInt8}:∀(s x:List UInt8),x∈dF0 c s->x.length<=s.length
 | [],x,h=>by
  have:x=[]:=by simpa [dF0] using h
  rw [this];exact lR7
 | b::s,x,h=>by
  rw [fN0] at h;split at h
  ·rcases aR.1 h with rfl | h
   ·exact aO _
   ·exact aI (iG0 s x h) (cH _)
  ·cases e:dF0 c s with
   | nil=>exact absurd e (uC0 _ _)
   | cons y ys=>
    rw [e] at h;rcases aR.1 h with rfl | h
    ·have:=iG0 s y (by rw [e];exact List.mem_cons_self ..);simp only [aZ];omega
    ·exact aI (iG0 s x (by rw [e];exact List.mem_cons_of_mem _ h)) (cH _)
theorem sB1 (P:List (List UInt8)) {x:List UInt8} (h:P[j]? = some x):gJ0 (P.take (j+1))=gJ0 (P.take j)++(if x=[] then [] else [x]):=by
 obtain ⟨a,rfl⟩:=List.getElem?_eq_some_iff.1 h;rw [aM a];unfold gJ0;rw [List.filter_append]
 by_cases e:P[j]=[]
 ·simp [e]
 ·simp [e]
def okF (ok:Bool) (k:Int) (n:Nat):Bool:=ok&& (decide ((n:Int)=k+1) || (decide (k<0)&& decide ((n:Int) % 2=1)))
theorem gX2 (k:Int) (n:Nat):okF false k n=false:=rfl
theorem sC1 {d:Nat} (b:d<18) (m:Nat):okF true (cE0 d) (m+1)=kT0 (cE0 d) m:=by
 have a:cE0 d=-1\/0<=cE0 d:=by
  match d,b with
  | 0,_=>exact aH rfl
  | 1,_=>exact aG d7
  | 2,_=>exact aG d7
  | 3,_=>exact aG d7
  | 4,_=>exact aG d7
  | 5,_=>exact aG d7
  | 6,_=>exact aG d7
  | 7,_=>exact aG d7
  | 8,_=>exact aG d7
  | 9,_=>exact aG d7
  | 10,_=>exact aG d7
  | 11,_=>exact aG d7
  | 12,_=>exact aG d7
  | 13,_=>exact aG d7
  | 14,_=>exact aG d7
  | 15,_=>exact aG d7
  | 16,_=>exact aG d7
  | 17,_=>exact aG d7
  | d+18,h=>exact absurd h o7
 unfold okF kT0;rcases a with e | e
 ·rw [e,aB rfl];have h1:decide (((m+1:Nat):Int)=-1+1)=false:=aD o7;rw [h1];simp only [eV,Bool.false_or,show decide ((-1:Int)<0)=true from rfl];exact decide_eq_decide.2 ⟨fun h=>by omega,fun h=>by omega⟩
 ·rw [aA o7];have h1:decide (cE0 d<0)=false:=aD o7;rw [h1];simp only [eV,Bool.false_and,Bool.or_false];exact decide_eq_decide.2 ⟨fun h=>by omega,fun h=>by omega⟩
structure NumsTo (ws:List ByteArray) (j:Nat) (ok:Bool) (l:List Int):Prop where
 len:l.length=j
 yes:ok=true->gD0 (ws.take j)=some l
 no:ok=false->gD0 ws=none
theorem NumsTo.start (a:List ByteArray):NumsTo a 0 true []:=⟨rfl,fun _=>rfl,fun e=>by cases e⟩
theorem NumsTo.next {d:List ByteArray} {j:Nat} {f b:Bool} {l:List Int} {z:Int} {s:ByteArray} (h:NumsTo d j f l) (k:d[j]? = some s) (i:(b=true/\numB s=some z)\/(b=false/\numB s=none/\z=0)):NumsTo d (j+1) (f&& b) (l++[z]):=by
 obtain ⟨m,e⟩:=List.getElem?_eq_some_iff.1 k;refine ⟨by simp [h.len],fun a=>?_,fun a=>?_⟩
 ·obtain ⟨h1,g⟩:=Bool.and_eq_true_iff.1 a;rcases i with ⟨_,c⟩ | ⟨c,_⟩
  ·rw [aM m,e,pV0,h.yes h1,c]
  ·rw [c] at g;cases g
 ·cases f with
  | false=>exact h.no rfl
  | true=>
   rcases i with ⟨c,_⟩ | ⟨_,c,_⟩
   ·rw [c] at a;cases a
   ·exact mE0 d (List.mem_of_getElem? k) c
theorem wH0 {s b:ByteArray} {a:List ByteArray} (h:fR0 s=b::a):dC0 s H=match jS0 b.data.toList with
  | none=>((3,[]),H)
  | some d=>if kT0 (cE0 d) a.length=false then ((3,[]),H) else match gD0 a with
   | none=>((3,[]),H)
   | some l=>if mayD (iQ0 d) H=false then ((6,[]),H) else aZ0 d l H:=by
 unfold dC0;rw [h];rfl
theorem sD1 {s a:ByteArray} {c:List ByteArray} (h:fR0 s=a::c) (b:jS0 a.data.toList=none\/(∃d,jS0 a.data.toList=some d/\kT0 (cE0 d) c.length=false)\/gD0 c=none):dC0 s H=((3,[]),H):=by
 rw [wH0 h];rcases b with e | ⟨d,e,f⟩ | e
 ·rw [e]
 ·rw [e];dsimp only;rw [aB f]
 ·cases hd:jS0 a.data.toList with
  | none=>rfl
  | some d=>
   dsimp only;split
   ·rfl
   ·rw [e]
theorem kY1 (s:ByteArray) (H:DsS):dA0 (dC0 s H).1.1:=by
 have z:dA0 3:=⟨d7,d7⟩;unfold dC0;split
 ·exact sm0
 ·split
  ·exact z
  ·split
   ·exact z
   ·split
    ·exact z
    ·split
     ·exact sm6
     ·exact mG0 _ _ _
structure HsLp (w:World) (b0 mb hb lo:Nat) (Ls:List (List UInt8)) (k:Nat) (W:World):Prop where
 is:∃x,HsIs W lo hb x (gU0 ((Ls.take k).map baOf) DsS.zero) k
 ln:qI0 W b0 0 Ls
 mn:lN0 W mb
 va:HsVars W
 bl:Below w.heap.size w W
 rl:(gU0 ((Ls.take k).map baOf) DsS.zero).rs.length<=10000
 ps:w.heap.size<=hb/\b0<hb/\mb<hb/\hb<lo/\lo<=W.heap.size
theorem HsLp.below {w W W':World} {c mb d lo k:Nat} {b:List (List UInt8)} (h:HsLp w c mb d lo b k W) (a:Below W.heap.size W W') (e:12<=w.heap.size):HsLp w c mb d lo b k W':=by
 obtain ⟨x,g⟩:=h.is;refine ⟨⟨x,g.below a⟩,fun j y f=>aQ0 a (h.ln j y f),h.mn.same (a.block _ h.mn.lt),h.va.below a (aI e h.bl.size),aD0 h.bl a,h.rl,?_⟩;have:=h.ps;have:=a.size;omega
theorem HsLp.next {w W W':World} {l mb c lo k:Nat} {b:List (List UInt8)} {s:List UInt8} (h:HsLp w l mb c lo b k W) (p:b[k]? = some s) (i:s.length<=9000) (g:Out (HsW lo c) W W') {x':HsK} (n:HsIs W' lo c x' (dC0 (baOf s) (gU0 ((b.take k).map baOf) DsS.zero)).2 (k+1)) (o:12<=w.heap.size):HsLp w l mb c lo b (k+1) W':=by
 obtain ⟨hk,e⟩:=List.getElem?_eq_some_iff.1 p;obtain ⟨t,q,r,u,v⟩:=h.ps;have m:Below w.heap.size W W':=g.below (fun j f=>f.elim (fun e=>by omega) (fun e=>by omega)) h.bl.size
 have d:gU0 ((b.take (k+1)).map baOf) DsS.zero=(dC0 (baOf s) (gU0 ((b.take k).map baOf) DsS.zero)).2:=by
  rw [aM hk,e,bK,lH0];rfl
 have a:∀j,j<c->¬HsW lo c j:=fun j f e=>e.elim (fun e=>by omega) (fun e=>by omega)
 refine ⟨⟨x',by rw [d];exact n⟩,fun j y f=>uI0 g (h.ln j y f) (a _ q),h.mn.same (g.block _ h.mn.lt (a _ r)),h.va.below (m.mono o) lR7,h.bl.trans m,?_,?_⟩
 ·rw [d];exact rX1 (baOf s) _ (by rw [gE0];exact i) h.rl
 ·have:=g.size;omega
theorem HsLp.idle {w W:World} {c mb d lo k:Nat} {a:List (List UInt8)} {s:List UInt8} (h:HsLp w c mb d lo a k W) (g:a[k]? = some s) (b:s.length<=9000) (f:(dC0 (baOf s) (gU0 ((a.take k).map baOf) DsS.zero)).2=gU0 ((a.take k).map baOf) DsS.zero) (e:12<=w.heap.size):HsLp w c mb d lo a (k+1) W:=by
 obtain ⟨x,i⟩:=h.is;exact h.next g b (bL _ _) (x':=x) (by rw [f];exact i.more (cH k)) e
theorem HsLp.plain {w W:World} {c mb e lo k:Nat} {b:List (List UInt8)} (h:HsLp w c mb e lo b k W) (hk:k<=5000):yS0 (gU0 ((b.take k).map baOf) DsS.zero):=fun M d=>by
 obtain ⟨x,f⟩:=h.is;obtain ⟨_,a,_⟩:=f.mkt M d;exact ⟨a.inv,a.lok,by have:=a.now;omega⟩
def outT (Ls:List (List UInt8)) (k:Nat):List UInt8:=iR0 ((Ls.take k).map baOf) DsS.zero
theorem sE1 {a:List (List UInt8)} {k:Nat} {s:List UInt8} (b:a[k]? = some s):outT a (k+1)=outT a k++(ansT (dC0 (baOf s) (gU0 ((a.take k).map baOf) DsS.zero)).1++[10]):=by
 obtain ⟨hk,e⟩:=List.getElem?_eq_some_iff.1 b;unfold outT;rw [aM hk,e,bK,lG0];simp [iR0]
end
end Go.Proofs.YtaelphbianmckaaGreatDoor
