/- ManyWorkers -/
import Derived.Test.YtpodibeogglplaaGreatDoorVI
import Derived.Laws.EntriesVeiled
import Derived.LaidHandle
open Go.RowKit Go.Shelf
open Go.Value renaming int->U, pointer->E, slice->J
open Go.IntKind renaming i64->G
open Go.Obj renaming cells->R
open Go.Ending renaming returned->Y
open Go.Proofs.Tryz
open Array renaming length_toList->UH, ext'->YA, replicate_succ->Vp, replicate_zero->Vq
open Bool renaming false->E_, true->G_
open Go renaming World->C_, Calls->Sj, Addr->J_, Value->D_, heap_alloc_new->RU, bodyPost_ret->UA, callsIn_wide->UY, lt_of_block->SK, TypeId->RZ
open Go.Fence renaming wide->Wv
open Go.Lib renaming itoa->Wi, itoa_length_le->UR, byteCells->Uu, join->Yt
open Go.Proofs.YtpodibeogglplaaGreatDoor.Out renaming of_below->Sz
open Go.Proofs.YtpodibeogglplaaGreatDoor.aY renaming zero->WJ
open Go.RowKit renaming Below->Sd
open Go.RowKit.Below renaming refl->RS
open Go.Value renaming string->Zb, ownBlock->Uf
open Go.World renaming cell?->SS, cell?_setCell_other->Yo, block_lt_of_cell?->SN, cell?_setCell_same'->Xg, putObj_heap_other->XB
open Int.ofNat renaming inj->XV
open List renaming mem_singleton->TT, mem_map->Ti, getElem?_map->Zo, getElem?_take->Yg, getElem_mem->Vn, length_nil->Ui, length_cons->SC, size_toArray->UQ, push_toArray->Uv, append_toArray->Vy, nil_append->Tn, cons_append->TP, length_append->Sl, length_singleton->TG, length_map->TL, mem_cons->SB, not_mem_nil->Ud, map_cons->RY, range->Vj
open Nat renaming le_trans->RV, reduceAdd->Ws, reduceSub->Q_, zero_le->Sv
open Option renaming some->A_, none->B_
open Or renaming inl->RP, inr->RN
set_option linter.all false
set_option maxHeartbeats 4000000
set_option maxRecDepth 100000
namespace Go.Proofs.YtpodibeogglplaaGreatDoor
def aQz(bb:Nat)(w:C_)(side:Int)(a:(side == 1 || side == 2)=E_):
  Sj prog 117 #[E (A_ ⟨bb,0,B_⟩),U G side] w λe W'=>e=Y (.tuple #[J B_ 0 0,.iface 30 (U G 1)])/\Sd w.heap.size w W':=by
 have c:=ah a;clear a;go_enter func117,ntmps117;go_wp2_with fail;refine(GX side _).mono ?_;rintro e w1 ⟨rfl,b⟩;replace b:=b.symm;subst b;rw[c.out];go_wp2_with fail;go_ret2;exact⟨rfl,RS _ _⟩
def aSb(eb:Nat)(k:bC)(M:aG)(w:C_)(h:Eg w eb k M)(side:Int)(b:side≠1/\side≠2):
  Sj prog 85 #[E (A_ ⟨eb,0,B_⟩),U G side] w λe w'=>e=Y (.tuple #[J B_ 0 0,.iface 30 (U G 1)])/\Sd w.heap.size w w':=by
 have f:w.cell? ⟨eb,2,B_⟩=A_ (E (A_ ⟨k.bb,0,B_⟩)):=aj (j:=2) h.box rfl;have d:Hid ((side == 1 || side == 2)=E_):=by show _=_;simp[b]
 clear h b;go_enter func85,ntmps85;go_wp2_with fail;refine(aQz k.bb w side d.out).mono ?_;rintro e w1 ⟨rfl,a⟩;have c:=ah a;clear a;go_wp2_with fail;go_ret2;exact⟨rfl,c.out⟩
def aQr(la:Option J_)(cl:Nat)(l:List Int)(lo sb n:Nat)(x:gP)(H:aY)(M:aG)(w:C_)(h:bA w lo sb x H n)(ha:qH w sb la l)(hl:l.length=1)(u:H.aX=A_ M)(hv:bE w)(X:7<=lo):
  Sj prog 51 #[E (A_ ⟨sb,0,B_⟩),J la l.length cl] w λe w'=>jC w w' lo sb n (bq 13 l H) e:=by
 have Q:Hid (bq 13 l H=((gH 13 l M).1,{ H with aX:=A_ (gH 13 l M).2 })):=wH d7 l u;have B:=ah h;have R:=ah u;have T:=ah hv;obtain⟨g,rfl,hg,d0⟩:=ha.cells 0 o7;have W:=h.aX u;obtain⟨D,Z,_⟩:=h.eg M u;have HE:=ah D;have HO:=ah (Z.aF6 D.qV);have hL:=D.wK;have N:Hid (∀V,Sd w.heap.size w V->(λw':C_=>w'.cell? ⟨sb,6,B_⟩=A_ (E (A_ ⟨x.eb,0,B_⟩))/\w'.cell? ⟨g,0,B_⟩=A_ (U G (nI l 0))) V):=λV hV=>⟨iQ hV W,iQ hV d0⟩
 clear h ha u hv D Z W d0 hg;rw[hl];go_enter func51,ntmps51;go_upto_region 1 with fail;refine JK (λ_=>λw':C_=>w'.cell? ⟨sb,6,B_⟩=A_ (E (A_ ⟨x.eb,0,B_⟩))/\w'.cell? ⟨g,0,B_⟩=A_ (U G (nI l 0))) (λ_ i=>i == 7) k7 (λ_=>N.out _ (RS _ _).drew) (λhHeld=>?_);have p:Sd w.heap.size w w.drew:=(RS _ _).drew;generalize w.drew=wz at p hHeld⊢;refine dY 0 0 (hHeld 0) ?_;refine dY 0 1 (hHeld 0) ?_;refine dY 0 2 (hHeld 0) ?_;refine dY 0 3 (hHeld 0) ?_;refine dY 0 4 (hHeld 0) ?_;refine dY 0 5 (hHeld 0) ?_;refine dY 0 6 (hHeld 0) ?_;refine EZ (i:=7) k7 rfl (λK F=>?_);go_simp
 by_cases m:nI l 0=1\/nI l 0=2
 ·have f:Sj prog 85 #[E (A_ ⟨x.eb,0,B_⟩),U G (nI l 0)] wz λe w'=>∃v,e=Y (.tuple #[v,.nilIface])/\w'.ownsRow wz.heap.size 155 5 v (aP (nI l 0) M.L).length (oV (aP (nI l 0) M.L))/\Sd wz.heap.size wz w':=by
   rcases m with m|m
   ·exact aBg x.eb 0 x.k M wz (HE.out.below p) d7 (nI l 0) (by rw[m];rfl)
   ·exact aBg x.eb 1 x.k M wz (HE.out.below p) d7 (nI l 0) (by rw[m];rfl)
  have C:Hid ((gH 13 l M).1=(0,yC (aP (nI l 0) M.L))):=by show(if nI l 0=1\/nI l 0=2 then((0:Int),yC (aP (nI l 0) M.L))else(1,[]))=_;rw[RF m]
  refine f.mono ?_;rintro e w1 ⟨v,rfl,hr,d⟩;have c:=ah (aJ p d);obtain⟨a,cap,rfl,z⟩:=jV.pI hr;have r:=ah z;have t:Hid (∀o∈aP (nI l 0) M.L,yK o):=λo ho=>HO.out o (oo.1 ho).1
  have A:(aP (nI l 0) M.L).length<=1000:=by have:=ED (nI l 0) M.L;omega
  refine F.out _ _ (λ_ h=>by cases h) ?_;clear F K hHeld p d hr z f m;generalize aP (nI l 0) M.L=S at r t A C⊢;refine jT 8 ?_;refine jT 9 ?_;refine jT 10 ?_;refine jT 11 ?_;refine jT 12 ?_;refine EY k7 ?_ _;have j:Hid (bE w1):=T.out.below c.out (RV X B.out.slt.2);go_wp2_with fail;refine(uR .nilIface 0 w1 j.out.et (RP ⟨rfl,rfl⟩)).mono ?_;rintro e w2 ⟨P,b⟩;have q:=ah (aJ c.out b);have O:=ah (j.out.tab.below b);have s:=ah (r.out.below b);rcases P with⟨_,rfl⟩|⟨h0,_⟩
  ·clear b;go_wp2_with fail;refine(aA2 a cap S w2 s.out t.out A O.out).mono ?_;rintro e w3 ⟨rfl,y⟩;have I:=ah (aJ q.out y);clear y;go_wp2_with fail;go_ret;rw[Q.out];refine B.out.asks R.out I.out ?_;rw[C.out];exact fZ.yes rfl
  ·exact absurd rfl h0
 ·have C:Hid ((gH 13 l M).1=(1,[])):=by show(if nI l 0=1\/nI l 0=2 then((0:Int),yC (aP (nI l 0) M.L))else(1,[]))=_;rw[RD m]
  refine(aSb x.eb x.k M wz (HE.out.below p) (nI l 0) o7).mono ?_;rintro e w1 ⟨rfl,d⟩;have c:=ah (aJ p d);refine F.out _ _ (λ_ h=>by cases h) ?_;clear F K hHeld p d m;refine jT 8 ?_;refine jT 9 ?_;refine jT 10 ?_;refine jT 11 ?_;refine jT 12 ?_;refine EY k7 ?_ _;have j:Hid (bE w1):=T.out.below c.out (RV X B.out.slt.2);go_wp2_with fail;refine(uR (.iface 30 (U G 1)) 1 w1 j.out.et (RN ⟨rfl,d7⟩)).mono ?_;rintro e w2 ⟨P,b⟩;have q:=ah (aJ c.out b);rcases P with⟨h0,_⟩|⟨_,rfl⟩
  ·exact absurd h0 d7
  ·clear b;go_wp2_with fail;refine⟨rfl,?_⟩;rw[Q.out];refine B.out.asks R.out q.out ?_;rw[C.out];exact RN ⟨d7,rfl⟩
def aQj(la:Option J_)(cl:Nat)(l:List Int)(lo sb n:Nat)(x:gP)(H:aY)(M:aG)(w:C_)(h:bA w lo sb x H n)(d:H.aX=A_ M)(hv:bE w)(F:7<=lo):
  Sj prog 46 #[E (A_ ⟨sb,0,B_⟩),J la l.length cl] w λe w'=>jC w w' lo sb n (bq 8 l H) e:=by
 have u:Hid (bq 8 l H=((gH 8 l M).1,{ H with aX:=A_ (gH 8 l M).2 })):=wH d7 l d;have t:=ah h;have C:=ah d;have D:=ah hv;have I:=h.aX d;obtain⟨v,y,f,K,A⟩:=h.eg M d;have HE:=ah v;have j:=ah f;have B:Hid (MI (oZ M)):=y.halt;have m:=ah ((aVe M).2);clear h d hv v y f;go_enter func46,ntmps46;go_wp2_with fail;refine(aRw x.eb x.k M w HE.out).mono ?_;rintro e w1 ⟨p,rfl,z,q⟩;have i:=ah z;have c:Hid _:=t.out.go C.out q B.out o7 (by rw[m.out];omega);have o:=ah (D.out.below (q.2.1.below j.out t.out.slt.2) F);clear z q;go_wp2_with fail;refine(uR p (uW M) w1 o.out.et i.out).mono ?_;rintro e w2 ⟨G,a⟩;have b:Hid (∃g,bA w2 lo sb g { H with aX:=A_ (oZ M) } (n+1)/\Out (jd w lo sb) w w2):=⟨_,c.out.1.below a,iU c.out.2 (Sz a au)⟩;rcases G with⟨h0,rfl⟩|⟨h0,rfl⟩
 ·clear a;go_wp2_with fail;go_ret;rw[u.out];obtain⟨g,r,s⟩:=b.out;exact⟨fZ.ok h0 rfl,s,g,r⟩
 ·clear a;go_wp2_with fail;refine⟨rfl,?_⟩;rw[u.out];obtain⟨g,r,s⟩:=b.out;exact⟨fZ.no h0,s,g,r⟩
def aQq(la:Option J_)(cl:Nat)(l:List Int)(lo sb n:Nat)(x:gP)(H:aY)(M:aG)(w:C_)(h:bA w lo sb x H n)(d:H.aX=A_ M)(hv:bE w)(I:7<=lo)(hn:n<=1900):
  Sj prog 47 #[E (A_ ⟨sb,0,B_⟩),J la l.length cl] w λe w'=>jC w w' lo sb n (bq 9 l H) e:=by
 have z:Hid (bq 9 l H=((gH 9 l M).1,{ H with aX:=A_ (gH 9 l M).2 })):=wH d7 l d;have y:=ah h;have F:=ah d;have G:=ah hv;have L:=h.aX d;obtain⟨A,r,f,N,C⟩:=h.eg M d;have HE:=ah A;have j:=ah f;have D:Hid (MI (nV M)):=r.open_;have o:=ah ((bA3 M).2);have m:Hid (zm M):=r.num o7;clear h d hv A r f;go_enter func47,ntmps47;go_wp2_with fail;refine(aR4 x.eb x.k M w HE.out m.out o7).mono ?_;rintro e w1 ⟨q,O,rfl,B,s,t⟩;have i:=ah B;have c:Hid _:=y.out.go F.out s D.out o7 (by rw[o.out];omega);have p:=ah (G.out.below (s.2.1.below j.out y.out.slt.2) I);clear B s t;go_wp2_with fail;refine(uR q (yJ M) w1 p.out.et i.out).mono ?_;rintro e w2 ⟨K,a⟩;have b:Hid (∃g,bA w2 lo sb g { H with aX:=A_ (nV M) } (n+1)/\Out (jd w lo sb) w w2):=⟨_,c.out.1.below a,iU c.out.2 (Sz a au)⟩;rcases K with⟨h0,rfl⟩|⟨h0,rfl⟩
 ·clear a;go_wp2_with fail;go_ret;rw[z.out];obtain⟨g,u,v⟩:=b.out;exact⟨fZ.ok h0 rfl,v,g,u⟩
 ·clear a;go_wp2_with fail;refine⟨rfl,?_⟩;rw[z.out];obtain⟨g,u,v⟩:=b.out;exact⟨fZ.no h0,v,g,u⟩
def aP9(la:Option J_)(cl:Nat)(l:List Int)(lo sb n:Nat)(x:gP)(H:aY)(M:aG)(w:C_)(h:bA w lo sb x H n)(B:qH w sb la l)(hl:l.length=1)(j:H.aX=A_ M)(hv:bE w)(Z:7<=lo)(hn:n<=1900):
  Sj prog 44 #[E (A_ ⟨sb,0,B_⟩),J la l.length cl] w λe w'=>jC w w' lo sb n (bq 6 l H) e:=by
 have N:Hid (bq 6 l H=((gH 6 l M).1,{ H with aX:=A_ (gH 6 l M).2 })):=wH d7 l j;have L:=ah h;have X:=ah j;have Y:=ah hv;obtain⟨g,rfl,r,d0⟩:=B.cells 0 o7;have m:=B.nums 0;have D:=WalkArith.wf_i64 m;have O:=h.aX j;obtain⟨Q,A,o,hm,T⟩:=h.eg M j;have HE:=ah Q;have t:=ah o;have hP:M.P.length<=1000:=by have:=A.few;omega
 have W:Hid (MI (oU M (nI l 0))):=A.can (nI l 0);have u:=ah ((aNu M (nI l 0)).2);have v:Hid (∀V,Sd w.heap.size w V->(λw':C_=>w'.cell? ⟨sb,6,B_⟩=A_ (E (A_ ⟨x.eb,0,B_⟩))/\w'.cell? ⟨g,0,B_⟩=A_ (U G (nI l 0))) V):=λV hV=>⟨iQ hV O,iQ hV d0⟩
 clear h B j hv Q A o O d0 r m;rw[hl];go_enter func44,ntmps44;go_upto_region 1 with fail;refine JK (λ_=>λw':C_=>w'.cell? ⟨sb,6,B_⟩=A_ (E (A_ ⟨x.eb,0,B_⟩))/\w'.cell? ⟨g,0,B_⟩=A_ (U G (nI l 0))) (λ_ i=>i == 7) k7 (λ_=>v.out _ (RS _ _).drew) (λhHeld=>?_);have q:Sd w.heap.size w w.drew:=(RS _ _).drew;generalize w.drew=wz at q hHeld⊢;refine dY 0 0 (hHeld 0) ?_;refine dY 0 1 (hHeld 0) ?_;refine dY 0 2 (hHeld 0) ?_;refine dY 0 3 (hHeld 0) ?_;refine dY 0 4 (hHeld 0) ?_;refine dY 0 5 (hHeld 0) ?_;refine dY 0 6 (hHeld 0) ?_;refine EZ (i:=7) k7 rfl (λK f=>?_);go_simp;refine(aRt x.eb x.k M (nI l 0) wz (HE.out.below q) hP D o7).mono ?_;rintro e w1 ⟨z,k',rfl,S,r,C⟩;have s:=ah S;have c:=(aZ.stay HE.out q).trans r;have d:Hid _:=L.out.go X.out c W.out o7 (by rw[u.out];omega);have y:=ah (Y.out.below (c.2.1.below t.out L.out.slt.2) Z);refine f.out _ _ (λ_ h=>by cases h) ?_;clear f K hHeld q S r c C;refine EZ (i:=8) k7 rfl (λK f=>?_);go_simp;refine(uR z (tF M (nI l 0)) w1 y.out.et s.out).mono ?_;rintro e w2 ⟨hc,a⟩;have b:Hid (∃p,bA w2 lo sb p { H with aX:=A_ (oU M (nI l 0)) } (n+1)/\Out (jd w lo sb) w w2):=⟨_,d.out.1.below a,iU d.out.2 (Sz a au)⟩;rcases hc with⟨h0,rfl⟩|⟨h0,rfl⟩
 ·refine f.out _ _ (λ_ _ R=>⟨iQ a R.1,iQ a R.2⟩) ?_;clear f K a;refine EY k7 ?_ _;go_wp2_with fail;go_ret;rw[N.out];obtain⟨p,F,I⟩:=b.out;exact⟨fZ.ok h0 rfl,I,p,F⟩
 ·clear a;go_wp2_with fail;refine⟨rfl,?_⟩;rw[N.out];obtain⟨p,F,I⟩:=b.out;exact⟨fZ.no h0,I,p,F⟩
variable {w w':C_} {H:aY} {M:aG} {n:Nat} {e:Int} {a j sb:Nat} {v:D_} {W:C_} {lo:Nat} {x:gP} {pb:Nat} {tmps:Array D_} {m:Int} {n':Nat} {s:ByteArray} {x':gP} {H':aY} {t0:ByteArray} {t:List UInt8} {w1:C_} {O:Nat} {p:D_} {B:Nat} {l:List UInt8} {b:Nat} {W':C_} {bs:List D_} {S db:Nat} {pre:List ByteArray} {Z:Nat->Prop} {r:Loop}
def xI.below{a:Option J_}{l:List dx}(h:xI w a l)(c:Sd w.heap.size w w'):xI w' a l:=λk hk=>by
 obtain⟨b,off,e,h0,h1,h2,h3⟩:=h k hk;exact⟨b,off,e,iQ c h0,iQ c h1,iQ c h2,iQ c h3⟩
def aQ2(la:Option J_)(cl:Nat)(l:List Int)(lo sb n:Nat)(x:gP)(H:aY)(M:aG)(w:C_)(h:bA w lo sb x H n)(u:H.aX=A_ M)(hv:bE w)(hB:7<=lo)(hn:n<=1900):
  Sj prog 45 #[E (A_ ⟨sb,0,B_⟩),J la l.length cl] w λe w'=>jC w w' lo sb n (bq 7 l H) e:=by
 have HD:Hid (bq 7 l H=((gH 7 l M).1,{ H with aX:=A_ (gH 7 l M).2 })):=wH d7 l u;have Z:=ah h;have HM:=ah u;have HV:=ah hv;have Q:=h.aX u;obtain⟨D,F,C,hm,a0⟩:=h.eg M u;have HE:=ah D;have O:=ah C;obtain⟨hF,j⟩:=F.tick D.qV;have HF:=ah hF;have HI:=ah j;obtain⟨a1,_,a2⟩:=aJb D.wK;have P:Hid (zm M):=F.num o7;have I:Hid ((bY M.rs (M.now+1)).1=3->(bY M.rs M.now).1≠3->M.ph≠6->kX M.ph=G_):=λa b c=>F.aL9 a b c
 have p:dN (fK M).2.now:=by
  have:=j.now;exact mF o7
 clear h u hv D F C hF j;go_enter func45,ntmps45;go_wp2_with fail;refine(aSg x.eb x.k M w HE.out P.out I.out o7).mono ?_;rintro e w1 ⟨vf,S,rfl,he,Y,hr,T,V⟩;have L:=ah he;have i:Hid _:=Z.out.go HM.out T HI.out o7 o7;have s:=ah (HV.out.below (T.2.1.below O.out Z.out.slt.2) hB);obtain⟨a,cap,rfl,B⟩:=xI.pI hr;have N:=ah B;clear he T V hr B Q;go_wp2_with fail;refine(uR S (yQ M) w1 s.out.et L.out).mono ?_;rintro e w2 ⟨hc,f⟩;have t:Hid (bE w2):=s.out.below f (RV hB (RV i.out.1.slt.2 au));have r:=ah (N.out.below f);have d:Hid (bA w2 lo sb { x with k:=Y } { H with aX:=A_ (fK M).2 } (n+1)/\Out (jd w lo sb) w w2):=⟨i.out.1.below f,iU i.out.2 (Sz f au)⟩;rcases hc with⟨h0,rfl⟩|⟨h0,rfl⟩
 ·clear f;have Q:w2.cell? ⟨sb,6,B_⟩=A_ (E (A_ ⟨x.eb,0,B_⟩)):=d.out.1.aX rfl;have K:Hid (Eg w2 x.eb Y (fK M).2):=(d.out.1.eg _ rfl).1;go_wp2_with fail;refine(aR3 x.eb Y (fK M).2 w2 K.out).mono ?_;rintro e w3 ⟨rfl,rfl⟩;go_wp2_with fail;have o:=aM w3 (R #[U G (fK M).2.now] 3);refine(Bp w3.heap.size 0 1 [(fK M).2.now] _ (BL w3 [(fK M).2.now] 3) (λz X=>by rw[TT.1 X];exact p) s7 s7 (t.out.tab.below o)).mono ?_;rintro e w4 ⟨rfl,v⟩;have g:=ah (aJ o v)
  have W:(lQ [(fK M).2.now]).length<=1000:=by
   have:=uX (m:=21) ([(fK M).2.now].map Wi) [32] (λy hy=>by
    obtain⟨z,X,rfl⟩:=Ti.1 hy;rw[TT.1 X];exact UR _ p.1 p.2)
   simp at this;unfold lQ;simp;omega
  clear o v Q;go_wp2_with fail;refine(aA5 (lQ [(fK M).2.now]) a cap (fK M).1 w4 (r.out.below g.out) HF.out o7 W (t.out.tab.below g.out)).mono ?_;rintro e w5 ⟨rfl,A⟩;have q:=ah (aJ g.out A);clear A;go_wp2_with fail;go_ret;rw[HD.out];exact⟨fZ.ok h0 rfl,iU d.out.2 (Sz q.out au),_,d.out.1.below q.out⟩
 ·clear f;go_wp2_with fail;refine⟨rfl,?_⟩;rw[HD.out];exact⟨fZ.no h0,d.out.2,_,d.out.1⟩
def aA4(la:Option J_)(cl:Nat)(l:List Int)(s:Int)(d:Nat)(lo sb n:Nat)(x:gP)(H:aY)(M:aG)(w:C_)(h:bA w lo sb x H n)(j:qH w sb la l)(hl:l.length=4)(F:H.aX=A_ M)(hv:bE w)(hB:7<=lo)(hn:n<=1900)(hd:bq d l H=(mJ (pK M (jS s l)) (yY [116,97,107,101,110] (jL M (jS s l)).1),{ H with aX:=A_ (jL M (jS s l)).2 })):
  Sj prog 74 #[.pointer (A_ ⟨sb,0,B_⟩),.int .i64 s,.slice la l.length cl] w λe w'=>jC w w' lo sb n (bq d l H) e:=by
 have C:Hid _:=hd;have W:=ah h;have HM:=ah F;have HV:=ah hv;obtain⟨g,rfl,G,d0⟩:=j.cells 0 o7;obtain⟨g1,e1,_,d1⟩:=j.cells 1 o7;obtain⟨g2,e2,_,d2⟩:=j.cells 2 o7;obtain⟨g3,e3,_,d3⟩:=j.cells 3 o7;cases e1;cases e2;cases e3;have Z:=h.aX F;obtain⟨E,Q,A,hm,a0⟩:=h.eg M F;have HE:=ah E;have I:=ah A;obtain⟨hF,v⟩:=Q.ord (o:=jS s l) E.qV (j.nums 0) (j.nums 1);have X:=ah hF;have Y:=ah v;obtain⟨S,_,T⟩:=Ny (o:=jS s l) E.wK;have J:Hid (zm M):=Q.num o7;have B:=WalkArith.wf_i64 (j.nums 0);have L:Hid (∀V,Sd w.heap.size w V->(λw':C_=>w'.cell? ⟨sb,6,B_⟩=A_ (.pointer (A_ ⟨x.eb,0,B_⟩))/\w'.cell? ⟨g,0,B_⟩=A_ (.int .i64 (nI l 0))/\w'.cell? ⟨g,1,B_⟩=A_ (.int .i64 (nI l 1))/\w'.cell? ⟨g,2,B_⟩=A_ (.int .i64 (nI l 2))/\w'.cell? ⟨g,3,B_⟩=A_ (.int .i64 (nI l 3))) V):=λV hV=>⟨iQ hV Z,iQ hV d0,iQ hV d1,iQ hV d2,iQ hV d3⟩
 clear h j F hv E Q A Z d0 d1 d2 d3 G hF v hd;rw[hl];go_enter func74,ntmps74;go_upto_region 1 with fail;refine JK (λ_=>λw':C_=>w'.cell? ⟨sb,6,B_⟩=A_ (.pointer (A_ ⟨x.eb,0,B_⟩))/\w'.cell? ⟨g,0,B_⟩=A_ (.int .i64 (nI l 0))/\w'.cell? ⟨g,1,B_⟩=A_ (.int .i64 (nI l 1))/\w'.cell? ⟨g,2,B_⟩=A_ (.int .i64 (nI l 2))/\w'.cell? ⟨g,3,B_⟩=A_ (.int .i64 (nI l 3))) (λ_ i=>i == 18) k7 (λ_=>L.out _ (RS _ _).drew) (λhHeld=>?_);have D:Sd w.heap.size w w.drew:=(RS _ _).drew;generalize w.drew=wz at D hHeld⊢;refine dY 0 0 (hHeld 0) ?_;refine dY 0 1 (hHeld 0) ?_;refine dY 0 2 (hHeld 0) ?_;refine dY 0 3 (hHeld 0) ?_;refine dY 0 4 (hHeld 0) ?_;refine dY 0 5 (hHeld 0) ?_;refine dY 0 6 (hHeld 0) ?_;refine dY 0 7 (hHeld 0) ?_;refine dY 0 8 (hHeld 0) ?_;refine dY 0 9 (hHeld 0) ?_;refine dY 0 10 (hHeld 0) ?_;refine dY 0 11 (hHeld 0) ?_;refine dY 0 12 (hHeld 0) ?_;refine dY 0 13 (hHeld 0) ?_;refine dY 0 14 (hHeld 0) ?_;refine dY 0 15 (hHeld 0) ?_;refine dY 0 16 (hHeld 0) ?_;refine dY 0 17 (hHeld 0) ?_;refine EZ (i:=18) k7 rfl (λK hK=>?_);go_simp;refine(aR5 x.eb x.k M (jS s l) wz (HE.out.below D) J.out B o7).mono ?_;rintro e w1 ⟨vf,P,rfl,he,k',hr,G,U⟩;have q:=ah he;have m:=(aZ.stay HE.out D).trans G;have f:Hid _:=W.out.go HM.out m Y.out o7 o7;have u:=ah (HV.out.below (m.2.1.below I.out W.out.slt.2) hB);obtain⟨a,cap,rfl,z⟩:=xI.pI hr;have r:=ah z;refine hK.out _ _ (λ_ h=>by cases h) ?_;clear hK K hHeld D he G m U hr z B;generalize jL M (jS s l)=R at C X Y S T f r⊢;generalize pK M (jS s l)=N at C q⊢;refine jT 19 ?_;refine jT 20 ?_;refine jT 21 ?_;refine jT 22 ?_;refine jT 23 ?_;refine EY k7 ?_ _;go_wp2_with fail;refine(uR P N w1 u.out.et q.out).mono ?_;rintro e w2 ⟨hc,c⟩;have O:Hid (bE w2):=u.out.below c (RV hB f.out.1.slt.2);have t:=ah (r.out.below c);have b:Hid (bA w2 lo sb { x with k:=k' } { H with aX:=A_ R.2 } (n+1)/\Out (jd w lo sb) w w2):=⟨f.out.1.below c,iU f.out.2 (Sz c au)⟩;rcases hc with⟨h0,rfl⟩|⟨h0,rfl⟩
 ·clear c;go_wp2_with fail;refine(aA5 [116,97,107,101,110] a cap R.1 w2 t.out X.out o7 d7 O.out.tab).mono ?_;rintro e w5 ⟨rfl,y⟩;have p:=ah y;clear y;go_wp2_with fail;go_ret;rw[C.out];exact⟨fZ.ok h0 rfl,iU b.out.2 (Sz p.out au),_,b.out.1.below p.out⟩
 ·clear c;go_wp2_with fail;refine⟨rfl,?_⟩;rw[C.out];exact⟨fZ.no h0,b.out.2,_,b.out.1⟩
def aPt(l:List Int)(a:H.aX=A_ M):bq 4 l H=(mJ (pK M (jS 1 l)) (yY [116,97,107,101,110] (jL M (jS 1 l)).1),{ H with aX:=A_ (jL M (jS 1 l)).2 }):=by simp only[bq,a,gH]
def aPx(l:List Int)(a:H.aX=A_ M):bq 5 l H=(mJ (pK M (jS 2 l)) (yY [116,97,107,101,110] (jL M (jS 2 l)).1),{ H with aX:=A_ (jL M (jS 2 l)).2 }):=by simp only[bq,a,gH]
def aP8(la:Option J_)(cl:Nat)(l:List Int)(lo sb n:Nat)(x:gP)(H:aY)(M:aG)(w:C_)(h:bA w lo sb x H n)(f:qH w sb la l)(g:l.length=4)(b:H.aX=A_ M)(hv:bE w)(i:7<=lo)(hn:n<=1900):
  Sj prog 42 #[.pointer (A_ ⟨sb,0,B_⟩),.slice la l.length cl] w λe w'=>jC w w' lo sb n (bq 4 l H) e:=by
 have c:=aA4 la cl l 1 4 lo sb n x H M w h f g b hv i hn (aPt l b);clear h f b hv g;generalize bq 4 l H=R at c⊢;go_enter func42,ntmps42;go_wp2_with fail;refine c.mono ?_;clear c;rintro e w1 a;have HE:=ah a.1;have d:=ah a.2;rcases a.1 with⟨_,rfl⟩|⟨_,rfl⟩
 ·clear a;go_wp2_with fail;go_ret;exact⟨HE.out,d.out⟩
 ·clear a;go_wp2_with fail;exact⟨rfl,HE.out,d.out⟩
def aQx(la:Option J_)(cl:Nat)(l:List Int)(lo sb n:Nat)(x:gP)(H:aY)(M:aG)(w:C_)(h:bA w lo sb x H n)(f:qH w sb la l)(g:l.length=4)(b:H.aX=A_ M)(hv:bE w)(i:7<=lo)(hn:n<=1900):
  Sj prog 43 #[.pointer (A_ ⟨sb,0,B_⟩),.slice la l.length cl] w λe w'=>jC w w' lo sb n (bq 5 l H) e:=by
 have c:=aA4 la cl l 2 5 lo sb n x H M w h f g b hv i hn (aPx l b);clear h f b hv g;generalize bq 5 l H=R at c⊢;go_enter func43,ntmps43;go_wp2_with fail;refine c.mono ?_;clear c;rintro e w1 a;have HE:=ah a.1;have d:=ah a.2;rcases a.1 with⟨_,rfl⟩|⟨_,rfl⟩
 ·clear a;go_wp2_with fail;go_ret;exact⟨HE.out,d.out⟩
 ·clear a;go_wp2_with fail;exact⟨rfl,HE.out,d.out⟩
def aQg(d:Nat)(a:d<18)(args:Array D_)(w:C_):(callFunc (xZ.getD d 0) args).run prog w=.ok (.enter (xZ.getD d 0) args) w:=by
 match d,a with
 |0,_=>rfl
 |1,_=>rfl
 |2,_=>rfl
 |3,_=>rfl
 |4,_=>rfl
 |5,_=>rfl
 |6,_=>rfl
 |7,_=>rfl
 |8,_=>rfl
 |9,_=>rfl
 |10,_=>rfl
 |11,_=>rfl
 |12,_=>rfl
 |13,_=>rfl
 |14,_=>rfl
 |15,_=>rfl
 |16,_=>rfl
 |17,_=>rfl
 |d+18,h=>exact absurd h o7
def zN{b:Int}(h:qQ b n=G_)(a:b≠-1):(n:Int)=b:=by
 unfold qQ at h;rw[RD a]at h;exact of_decide_eq_true h
def aT1(h:qQ (-1) n=G_):n % 2=0:=by
 have h1:=of_decide_eq_true h;omega
def tX(h:kN 2 H=G_):∃M,H.aX=A_ M:=by
 cases hm:H.aX with
 |some M=>exact⟨M,rfl⟩
 |none=>
  unfold kN at h;rw[hm]at h;exact absurd h d7
def Hw(h:kN 1 H=G_):H.aX=B_:=by
 cases hm:H.aX with
 |none=>rfl
 |some M=>
  unfold kN at h;rw[hm]at h;simp at h
def aQe(d:Nat)(i:d<18)(la:Option J_)(cl:Nat)(l:List Int)(lo sb n:Nat)(x:gP)(H:aY)(w:C_)(h:bA w lo sb x H n)(f:qH w sb la l)(g:qQ (qM d) l.length=G_)(b:kN (lV d) H=G_)(j:l.length<=10000)(k:H.rs.length<=10000)(hv:bE w)(c:7<=lo)(hn:n<=1900):
  Sj prog (xZ.getD d 0) #[E (A_ ⟨sb,0,B_⟩),J la l.length cl] w λe w'=>jC w w' lo sb n (bq d l H) e:=by
 match d,i with
 |0,_=>exact aQ1 la cl l lo sb n x H w h f (aT1 g) j (Hw b)
 |1,_=>exact aP5 la cl l lo sb n x H w h f (XV (zN g d7)) (Hw b)
 |2,_=>exact aP3 la cl l lo sb n x H w h f (XV (zN g d7)) (Hw b)
 |3,_=>exact aQ0 la cl l lo sb n x H w h k (Hw b) hv c
 |4,_=>
  obtain⟨M,a⟩:=tX b;exact aP8 la cl l lo sb n x H M w h f (XV (zN g d7)) a hv c hn
 |5,_=>
  obtain⟨M,a⟩:=tX b;exact aQx la cl l lo sb n x H M w h f (XV (zN g d7)) a hv c hn
 |6,_=>
  obtain⟨M,a⟩:=tX b;exact aP9 la cl l lo sb n x H M w h f (XV (zN g d7)) a hv c hn
 |7,_=>
  obtain⟨M,a⟩:=tX b;exact aQ2 la cl l lo sb n x H M w h a hv c hn
 |8,_=>
  obtain⟨M,a⟩:=tX b;exact aQj la cl l lo sb n x H M w h a hv c
 |9,_=>
  obtain⟨M,a⟩:=tX b;exact aQq la cl l lo sb n x H M w h a hv c hn
 |10,_=>
  obtain⟨M,a⟩:=tX b;exact aQu la cl l lo sb n x H M w h a
 |11,_=>
  obtain⟨M,a⟩:=tX b;exact aQv la cl l lo sb n x H M w h a hv.tab
 |12,_=>
  obtain⟨M,a⟩:=tX b;exact aQw la cl l lo sb n x H M w h a hv.tab
 |13,_=>
  obtain⟨M,a⟩:=tX b;exact aQr la cl l lo sb n x H M w h f (XV (zN g d7)) a hv c
 |14,_=>
  obtain⟨M,a⟩:=tX b;exact aQs la cl l lo sb n x H M w h a hv.tab
 |15,_=>exact aP4 la cl l lo sb n x H w h f (XV (zN g d7)) hv c
 |16,_=>exact aQc la cl l lo sb n x H w h
 |17,_=>exact aQk la cl l lo sb n x H w h
 |d+18,h=>exact absurd h o7
def gK(e:Int):Prop:=0<=e/\e<=20
def Ji(h:gK e):dN e:=⟨by have:=h.1;omega,by have:=h.2;omega⟩
def Cg:gK 0:=⟨d7,d7⟩
def sm1:gK 1:=⟨d7,d7⟩
def sm2:gK 2:=⟨d7,d7⟩
def sm4:gK 4:=⟨d7,d7⟩
def sm6:gK 6:=⟨d7,d7⟩
def sm8:gK 8:=⟨d7,d7⟩
def bFs(p r:Int×Int):gK (pQ p r):=by
 unfold pQ vH gK;split<;>first|omega|(split<;>first|omega|(split<;>omega))
def aIc:∀(rs:List (Int×Int)) (p:Int×Int) (i:Nat),gK (jk p i rs).1
 |[],_,_=>Cg
 |r::rs,p,i=>by
  unfold jk;split
  ·exact aIc rs r (i+1)
  ·exact bFs p r
def bFt(rs:List (Int×Int)):gK (eZ rs).1:=by
 cases rs with
 |nil=>exact sm8
 |cons r rs=>
  rw[Cq];split
  ·exact sm4
  ·split
   ·exact aIc rs r 1
   ·exact sm1
def bFr(rs:List (Int×Int))(st dy p ti mo:Int):gK (newE rs st dy p ti mo).1:=by
 unfold newE;split
 ·exact bFt rs
 ·split
  ·exact Cg
  ·exact sm2
def Ak(t:List UInt8)(h:gK e):gK (mJ e t).1:=by
 unfold mJ;split
 ·exact Cg
 ·exact h
def aIb(M:aG)(o:Ord):gK (pK M o):=by
 unfold pK gK;split
 ·omega
 ·split
  ·omega
  ·split
   ·omega
   ·split
    ·omega
    ·split<;>omega
def bFq(M:aG)(id:Int):gK (tF M id):=by
 unfold tF tC gK;split
 ·omega
 ·split
  ·omega
  ·split<;>first|omega|(split<;>omega)
def bFu(d:Nat)(l:List Int)(M:aG):gK (gH d l M).1.1:=by
 have z:∀t:List UInt8,gK ((0,t):Int×List UInt8).1:=λ_=>Cg
 unfold gH;split
 ·exact Ak _ (aIb _ _)
 ·exact Ak _ (aIb _ _)
 ·exact Ak _ (bFq _ _)
 ·exact Ak _ (by unfold yQ gK;split<;>omega)
 ·exact Ak _ (by unfold uW gK;split<;>omega)
 ·exact Ak _ (by unfold yJ gK;split<;>omega)
 ·exact z _
 ·exact z _
 ·exact z _
 ·show gK (if _ then _ else _:Int×List UInt8).1;split
  ·exact z _
  ·exact sm1
 ·exact z _
def Ox(d:Nat)(l:List Int)(H:aY):gK (bq d l H).1.1:=by
 have z:∀t:List UInt8,gK ((0,t):Int×List UInt8).1:=λ_=>Cg
 unfold bq;split
 ·exact z _
 ·exact z _
 ·exact z _
 ·split
  ·exact z _
  ·exact bFr _ _ _ _ _ _
 ·exact Ak _ (by unfold AY gK;split<;>omega)
 ·exact z _
 ·exact z _
 ·split
  ·exact sm6
  ·exact bFu _ _ _
def JN(w:C_)(lo sb n:Nat)(s:ByteArray)(r:(Int×List UInt8)×aY)(e:Ending)(w':C_):Prop:=
 e=Y (.string (aQ (pW r.1)))/\Out (jd w lo sb) w w'/\∃x' n',bA w' lo sb x' r.2 n'/\(n'=n\/(n'=n+1/\3<=s.size))
def bBh{A c:Nat}{i:List ByteArray}(h:w.ownsRow a 9 1 (J (A_ ⟨A,0,B_⟩) n c) n (i.map Zb)){u:ByteArray}(m:i[j]? = A_ u):w.cell? ⟨A,j,B_⟩=A_ (.string u):=by
 obtain⟨p,⟨e,_⟩|⟨g,o,d,e,_,l,_,_,_,f⟩⟩:=h
 ·cases e
 ·injection e with b _ _;injection b with b;injection b with b _ _;subst b;have h1:(i.map Zb)[j]? = A_ (.string u):=by rw[Zo,m];rfl
  rw[<-f,Yg]at h1;split at h1
  ·have k:d[j]? = A_ (.string u):=by rw[<-h1];simp
   simp[SS,l,k]
  ·cases h1
def Ow:D_->Option J_
 |J a _ _=>a
 |_=>B_
def Qw{l:List Int}(h:w.ownsRow a 3 1 v l.length (zS l))(i:sb<a)(hn:∀z∈l,-9223372036854775808<=z/\z<=9223372036854775807):qH w sb (Ow v) l:=by
 refine⟨λk hk=>?_,λk=>?_⟩
 ·obtain⟨o,⟨e,m⟩|⟨g,j,b,rfl,n,f,_,_,_,c⟩⟩:=h
  ·omega
  ·refine⟨g,rfl,λe=>by omega,?_⟩
   have h1:(zS l)[k]? = A_ (U G (nI l k)):=by
    unfold zS nI;rw[Zo,List.getElem?_eq_getElem hk];simp[hk]
   rw[<-c,Yg]at h1;split at h1
   ·have d:b[k]? = A_ (U G (nI l k)):=by rw[<-h1];simp
    simp[SS,f,d]
   ·cases h1
 ·by_cases hk:k<l.length
  ·unfold nI;have:l.getD k 0=l[k]:=by simp[hk]
   rw[this];exact hn _ (Vn hk)
  ·unfold nI;have:l.getD k 0=0:=by simp[Nat.le_of_not_lt hk]
   rw[this];exact⟨d7,d7⟩
def bIu{d:Nat}(h:d<18):3<=(jU d).length:=by
 match d,h with
 |0,_=>decide
 |1,_=>decide
 |2,_=>decide
 |3,_=>decide
 |4,_=>decide
 |5,_=>decide
 |6,_=>decide
 |7,_=>decide
 |8,_=>decide
 |9,_=>decide
 |10,_=>decide
 |11,_=>decide
 |12,_=>decide
 |13,_=>decide
 |14,_=>decide
 |15,_=>decide
 |16,_=>decide
 |17,_=>decide
 |d+18,h=>exact absurd h o7
def bA.aH5(h:bA W lo sb x H n){i t:ByteArray}(hp:eB W pb #[.string i] 9)(q:lo<=pb):bA (W.setCell ⟨pb,0,B_⟩ (.string t)) lo sb x H n:=by
 have ho:Out (λj=>j=pb) W (W.setCell ⟨pb,0,B_⟩ (.string t)):=bL W ⟨pb,0,B_⟩ _;have g:aF W pb 0 (.string i):=aj (j:=0) hp rfl;refine⟨aH h.box ho (λe=>by have:=h.slt.1;omega),⟨h.slt.1,RV h.slt.2 ho.size⟩,λh0=>?_,λM p=>?_⟩
 ·obtain⟨tb,h1,h2,h3,l,m,cs,f,a⟩:=h.rows h0
  have b:¬tb=pb:=λe=>by
   rw[e,hp]at a;injection a with a;injection a with _ o _;exact absurd o d7
  exact⟨tb,h1,og h2 ho b,h3,l,m,cs,f,aH a ho b⟩
 ·obtain⟨h1,h2⟩:=h.eg M p;refine⟨h1.outT ho (λj c e=>h1.Lm c _ _ _ (RN rfl) (e▸hp)) ⟨?_,λj u c=>?_⟩,h2⟩
  ·by_cases e:(⟨pb,0,B_⟩:J_)=⟨x.k.tb,0,B_⟩
   ·have:=h1.tab.1;rw[<-e,g]at this;cases this
   ·rw[Yo (h:=e)];exact h1.tab.1
  ·have d:=h1.tab.2 j u c
   by_cases e:(⟨pb,0,B_⟩:J_)=⟨x.k.cb,0+j,B_⟩
   ·rw[<-e,g]at d;obtain⟨z,r⟩:=Lx _ j u c;rw[r]at d;cases d
   ·rw[Yo (h:=e)];exact d
def aF8{b w6:C_}(d:bW w b)(ho:Out (jd b lo sb) b w6):Out (jd w lo sb) w w6:=
 (Sz d au).trans ho λk hk=>by
  by_cases a:k<w.heap.size
  ·refine RP (hk.imp id λ⟨h1,h2⟩=>⟨h1,λc t f e=>?_⟩);rw[<-d.block k a];exact h2 c t f e
  ·exact RN (Nat.le_of_not_lt a)
def bE.NA(h:bE w)(ho:Out (jd w lo sb) w w')(d:7<=lo)(b:7<=sb)(c:7<=w.heap.size):bE w':=
 h.below (ho.below (λj a=>a.elim (λe=>by omega) (λe=>by have:=e.1;omega)) c) au
def Ki{R:Ending->C_->Prop}(a:∀(W:C_) (t:ByteArray),aF W pb 0 (.string t)->(results f16 tmps).run prog W=.ok (.string t) W){t:ByteArray}(b:aF W pb 0 (.string t))(h:R (.returned (.string t)) W):
  bodyPostD prog f16 R Exit.ret { tmps:=tmps,defers:=[{ target:=.fn (.func 60) #[.pointer (A_ ⟨pb,0,B_⟩)],args:=#[] }] } W:=by
 refine leaves_cons (f:=60) (args:=#[.pointer (A_ ⟨pb,0,B_⟩)]) s7 (by simp[go_sem]) ?_;refine(aQb ⟨pb,0,B_⟩ _).mono ?_;rintro e d c ⟨rfl,rfl,rfl⟩;exact⟨_,a _ _ b,h⟩
def xR{R:Ending->C_->Prop}(a:∀(W:C_) (t:ByteArray),aF W pb 0 (.string t)->(results f16 tmps).run prog W=.ok (.string t) W){t:ByteArray}(hp:eB W pb #[.string t] 9)(g:dN m)(i:lY W)(h:∀w1,bW W w1->R (.returned (.string (aQ (tJ m)))) (w1.setCell ⟨pb,0,B_⟩ (.string (aQ (tJ m))))):
  bodyPostD prog f16 R (Exit.panic [{ v:=.iface 30 (.int .i64 m),recovered:=E_ }]) { tmps:=tmps,defers:=[{ target:=.fn (.func 60) #[.pointer (A_ ⟨pb,0,B_⟩)],args:=#[] }] } W:=by
 have b:aF W pb 0 (.string t):=aj (j:=0) hp rfl;refine leaves_cons (f:=60) (args:=#[.pointer (A_ ⟨pb,0,B_⟩)]) s7 (by simp[go_sem]) ?_;refine(aQa ⟨pb,0,B_⟩ m t [] W b (aI (j:=0) hp) g i).mono ?_;rintro e l k ⟨rfl,rfl,w1,d,rfl⟩;have c:=(d.cell (SN W _ b)).trans b;exact⟨_,a _ _ (Xg _ _ _ (by rw[c];rfl)),h w1 d⟩
def Kh(ho:Out (jd w lo sb) w W)(h:bA W lo sb x' H' n')(hp:eB W w.heap.size #[.string t0] 9)(a:lo<=w.heap.size)(hn:n'=n\/(n'=n+1/\3<=s.size)):
  JN w lo sb n s ((0,t),H') (Y (.string (aQ t))) (W.setCell ⟨w.heap.size,0,B_⟩ (.string (aQ t))):=
 ⟨rfl,Af ho au,x',n',h.aH5 hp a,hn⟩
def xQ(c:m≠0)(ho:Out (jd w lo sb) w W)(h:bA W lo sb x' H' n')(hp:eB W w.heap.size #[.string t0] 9)(b:lo<=w.heap.size)(hn:n'=n\/(n'=n+1/\3<=s.size))(a:bW W w1):
  JN w lo sb n s ((m,t),H') (Y (.string (aQ (tJ m)))) (w1.setCell ⟨w.heap.size,0,B_⟩ (.string (aQ (tJ m)))):=
 ⟨by unfold pW;rw[RD c],Af (iU ho (Sz a au)) au,x',n',(h.below a).aH5 (aL hp a au) b,hn⟩
def aP2(s:ByteArray)(lo sb mb n:Nat)(x:gP)(H:aY)(w:C_)(h:bA w lo sb x H n)(hd:mP w mb sb)(hr:H.rs.length<=10000)(hs:s.size<=4000)(hv:bE w)(hB:7<=lo)(c2:7<=sb)(hn:n<=1900):
  Sj prog 16 #[.pointer (A_ ⟨sb,0,B_⟩),.map (A_ mb),.string s] w λe w'=>JN w lo sb n s (gF s H) e w':=by
 have c9:∀(fn:Fn) (first cap:Array D_) (w:C_),(Instr.makeFunc fn first cap).run prog w=.ok (.func fn first cap) w:=λ_ _ _ _=>rfl
 have B:=ah h;have HD:=ah hd;have HV:=ah hv;clear h hd hv;go_enter_defers func16,ntmps16;go_wp2_with fail;have hx:=RU w (.cells #[.string ⟨#[]⟩] 9);have hb:=aM w (.cells #[.string ⟨#[]⟩] 9);generalize w.alloc (.cells #[.string ⟨#[]⟩] 9)=w1 at hx hb⊢;have HX:=ah hx;have HB:=ah hb;clear hx hb;refine(aQ4 s w1 o7).mono ?_;rintro e w2 ⟨A,rfl,hA,a,b2⟩;have L:=ah (aJ HB.out b2);have P:Hid (w2.heap[w.heap.size]? = A_ (.cells #[.string ⟨#[]⟩] 9 (0,0))):=aL HX.out b2 au;have a6:=ah (aKc s);have O:Hid (gF s H=match qG s with
 |[]=>((0,[111,107]),H)
 |w::ws=>match yc w.data.toList with
  |none=>((3,[]),H)
  |some d=>if qQ (qM d) ws.length=E_ then((3,[]),H)else match jv ws with
   |none=>((3,[]),H)
   |some l=>if kN (lV d) H=E_ then((6,[]),H)else bq d l H):=rfl
 have Y:Hid (∀t∈qG s,t.size<=s.size):=λt z=>bIv z
 have cT:=aj (j:=0) P.out rfl;have fT:=aI (j:=0) P.out;clear b2;have a5:=ah (B.out.below L.out);have b8:Hid (Out (jd w lo sb) w w2):=Sz L.out au;cases hw:qG s with
 |nil=>
  rw[hw]at a O;clear a hA;simp only[Ui];go_wp2_with fail;rw[O.out];refine Ki (λW t z=>?_) (t:=aQ [111,107]) (Xg _ _ _ (by rw[cT];rfl)) (Kh b8.out a5.out P.out B.out.slt.2 (RP rfl));simp[results,results16,go_sem,z]
 |cons t ws=>
  rw[hw]at a O a6 Y
  have b1:Hid (∀j u,(t::ws)[j]? = A_ u->w2.cell? ⟨A,j,B_⟩=A_ (.string u)):=λj u hj=>by
   have:=bBh a hj;exact this
  have c6:=ah hA;clear a hA;simp only[SC];have c0:w2.cell? ⟨A,0,B_⟩=A_ (.string t):=b1.out 0 t rfl
  have HK:Hid (ws.length<=4000):=by
   have:=a6.out;simp only[SC]at this;show ws.length<=4000;omega
  have a9:=ah (Y t (List.mem_cons_self ..));have a0:=HD.same (L.block mb HD.lt);have hk:=HK.out;generalize c1:ws.length=k at hk⊢;have M:=ah c1;have hz:(((k:Int)+1) == 0)=E_:=RG.2 o7;clear c1;cases hdi:yc t.data.toList with
  |none=>
   have a1:=a0.aXs (s:=t) (by have:=a9.out;unfold maxLen;omega) hdi;have G:Hid (gF s H=((3,[]),H)):=by show _=_;rw[O.out];simp only[hdi]
   clear a0;go_wp2_with fail;rw[G.out];have E:=aM w2 (.cells #[.int .i64 0,.int .i64 0,.nilFunc] 90);refine xR (λW t z=>?_) (aL P E au) ⟨d7,d7⟩ ((HV.below L (RV hB B.slt.2)).below E (RV (RV hB B.slt.2) L.size)).tab (λwq y=>xQ d7 (iU b8 (Sz E au)) (a5.below E) (aL P E au) B.slt.2 (RP rfl) y);simp[results,results16,go_sem,z]
  |some d=>
   have a1:=a0.aXt (s:=t) (by have:=a9.out;unfold maxLen;omega) hdi;unfold FQ at a1;have c5:=ah ((Bn hdi).1)
   have H3:Hid (3<=s.size):=by
    show 3<=s.size;have h1:=a9.out;have h2:=(Bn hdi).2;have h3:t.size=t.data.toList.length:=by rw[UH];rfl
    have h4:=bIu (Bn hdi).1;rw[h2]at h3;omega
   have G:Hid (gF s H=if qQ (qM d) ws.length=E_ then((3,[]),H)else match jv ws with
    |none=>((3,[]),H)
    |some l=>if kN (lV d) H=E_ then((6,[]),H)else bq d l H):=by show _=_;rw[O.out];simp only[hdi]
   have c4:=aQg d (Bn hdi).1;have a4:Hid _:=aQe d (Bn hdi).1;generalize xZ.getD d 0=f at a1 c4 a4;clear a0 O hdi hw;go_wp2_with fail;have E:=aM w2 (.cells #[.int .i64 (qM d),.int .i64 (lV d),.func (.func f) #[.pointer (A_ ⟨sb,0,B_⟩)] #[]] 90);have b5:=RU w2 (.cells #[.int .i64 (qM d),.int .i64 (lV d),.func (.func f) #[.pointer (A_ ⟨sb,0,B_⟩)] #[]] 90);generalize w2.alloc (.cells #[.int .i64 (qM d),.int .i64 (lV d),.func (.func f) #[.pointer (A_ ⟨sb,0,B_⟩)] #[]] 90)=w3 at E b5⊢;refine(aQh (qM d) (lV d) (.func (.func f) #[.pointer (A_ ⟨sb,0,B_⟩)] #[]) k w3 o7).mono ?_;rintro e w4 ⟨rfl,b3⟩;have K:=ah (aJ E b3);have I:=ah (aJ L K);have Z:Hid _:=aL P K au;have S:=ah (a5.below K);have b6:Hid _:=aL b5 b3 au;have b9:Hid (bE w4):=HV.below I (RV hB B.slt.2);have c3:Hid (Out (jd w lo sb) w w4):=Sz I au;clear E b5 b3 a1 cT fT c0;cases hfit:qQ (qM d) k with
   |false=>
    go_wp2_with fail;have N:Hid (gF s H=((3,[]),H)):=by show _=_;rw[G.out,M.out,RF hfit]
    rw[N.out];refine xR (λW t z=>?_) Z ⟨d7,d7⟩ b9.tab (λwq y=>xQ d7 c3 S Z B.slt.2 (RP rfl) y);simp[results,results16,go_sem,z]
   |true=>
    have N:Hid (gF s H=match jv ws with
     |none=>((3,[]),H)
     |some l=>if kN (lV d) H=E_ then((6,[]),H)else bq d l H):=by show _=_;rw[G.out,M.out,RD (by rw[hfit];decide)]
    have b7:=ah hfit
    have a2:Hid (∀o:Nat,k=0\/o=1->Sj prog 64 #[.slice (A_ ⟨A,o,B_⟩) k k] w4 λe w'=>Qd ws w4 w' e/\bW w4 w'):=λo ho=>by
     have:=aQp (A_ ⟨A,o,B_⟩) k ws w4 (λj u hj=>⟨A,o,rfl,by
      have c7:j<ws.length:=(List.getElem?_eq_some_iff.1 hj).1;have h1:=b1 (j+1) u hj;have h2:=(K.cell (SN w2 _ h1)).trans h1;have c8:=M.out;rcases ho with ho|ho
      ·omega
      ·rw[ho,Nat.add_comm 1 j];exact h2⟩) (λu hu=>by have:=Y.out u (List.mem_cons_of_mem _ hu);omega) (by have:=HK.out;omega) b9.out (by have:=I.out.size;have:=B.out.slt.2;omega)
     rw[M.out]at this;exact this
    clear hfit G b1 Y a6;go_wp2_with fail
    ·have h0:k=0:=a7;subst h0;refine(a2 0 (RP rfl)).mono ?_;rintro e w5 ⟨hN,i⟩;have J:=ah (aJ I i);have g:Hid _:=aL Z i au;have c:=ah (S.below i);have F:Hid _:=aL b6 i au;have D:Hid (bE w5):=HV.below J (RV hB B.slt.2);have U:Hid (Out (jd w lo sb) w w5):=Sz J au;rcases hN with⟨r,rfl⟩|⟨l,v,b,rfl,a⟩
     ·have C:Hid (gF s H=((3,[]),H)):=by show _=_;rw[N.out,r]
      clear i r;go_wp2_with fail;rw[C.out];refine xR (λW t z=>?_) g ⟨d7,d7⟩ D.tab (λwq y=>xQ d7 U c g B.slt.2 (RP rfl) y);simp[results,results16,go_sem,z]
     ·have T:=ah (BR ws b);have C:Hid (gF s H=if kN (lV d) H=E_ then((6,[]),H)else bq d l H):=by show _=_;rw[N.out,b]
      have a3:Hid (qH w5 sb (Ow v) l):=Qw a (by have:=B.slt;have:=I.size;omega) (Ic ws b);obtain⟨la,cl,rfl⟩:=ND a;have cW:=aj (j:=1) F rfl;have cF:=aj (j:=2) F rfl;clear i a b;go_wp2_with fail;refine(aA3 lo sb n x H (lV d) w5 c).mono ?_;rintro e w6 ⟨rfl,b4⟩;subst b4;cases hmay:kN (lV d) H with
      |false=>
       have p:Hid (gF s H=((6,[]),H)):=by show _=_;rw[C.out,RF hmay]
       clear hmay;go_wp2_with fail;rw[p.out];refine xR (λW t z=>?_) g ⟨d7,d7⟩ D.tab (λwq y=>xQ d7 U c g B.slt.2 (RP rfl) y);simp[results,results16,go_sem,z]
      |true=>
       have p:Hid (gF s H=bq d l H):=by show _=_;rw[C.out,RD (by rw[hmay];decide)]
       have a8:=ah hmay;clear hmay;go_wp2_with fail;refine(a4.out la cl l lo sb n x H w6 c.out a3.out (by rw[T.out,M.out];exact b7.out) a8.out (by rw[T.out];have:=HK.out;omega) hr D.out hB hn).mono ?_;rintro e w7 ⟨hE,hO,x',hI⟩;have X:=ah (Ox d l H);have q:Hid _:=aH g hO (λy=>y.elim (λe=>by have:=B.slt;omega) (λy=>y.2 _ _ _ (RN rfl) g));have V:=ah (aF8 J hO);have b0:Hid (bE w7):=D.NA hO hB c2 (by have:=c.slt.2;omega);have cT:=aj (j:=0) q rfl;have fT:=aI (j:=0) q;generalize bq d l H=R at p X hE hI;obtain⟨⟨m,tt⟩,H'⟩:=R;have Q:=ah hI;clear hI hO;rcases hE with⟨h0,rfl⟩|⟨h0,rfl⟩
       ·go_wp2_with fail;rw[p.out];obtain rfl:m=0:=h0;refine Ki (λW t z=>?_) (t:=aQ tt) (Xg _ _ _ (by rw[cT];rfl)) (Kh V Q q B.slt.2 (RN ⟨rfl,H3⟩));simp[results,results16,go_sem,z]
       ·go_wp2_with fail;rw[p.out];refine xR (λW t z=>?_) q (Ji X) b0.tab (λwq y=>xQ h0 V Q q B.slt.2 (RN ⟨rfl,H3⟩) y);simp[results,results16,go_sem,z]
    ·refine(a2 1 (RN rfl)).mono ?_;rintro e w5 ⟨hN,i⟩;have J:=ah (aJ I i);have g:Hid _:=aL Z i au;have c:=ah (S.below i);have F:Hid _:=aL b6 i au;have D:Hid (bE w5):=HV.below J (RV hB B.slt.2);have U:Hid (Out (jd w lo sb) w w5):=Sz J au;rcases hN with⟨r,rfl⟩|⟨l,v,b,rfl,a⟩
     ·have C:Hid (gF s H=((3,[]),H)):=by show _=_;rw[N.out,r]
      clear i r;go_wp2_with fail;rw[C.out];refine xR (λW t z=>?_) g ⟨d7,d7⟩ D.tab (λwq y=>xQ d7 U c g B.slt.2 (RP rfl) y);simp[results,results16,go_sem,z]
     ·have T:=ah (BR ws b);have C:Hid (gF s H=if kN (lV d) H=E_ then((6,[]),H)else bq d l H):=by show _=_;rw[N.out,b]
      have a3:Hid (qH w5 sb (Ow v) l):=Qw a (by have:=B.slt;have:=I.size;omega) (Ic ws b);obtain⟨la,cl,rfl⟩:=ND a;have cW:=aj (j:=1) F rfl;have cF:=aj (j:=2) F rfl;clear i a b;go_wp2_with fail;refine(aA3 lo sb n x H (lV d) w5 c).mono ?_;rintro e w6 ⟨rfl,b4⟩;subst b4;cases hmay:kN (lV d) H with
      |false=>
       have p:Hid (gF s H=((6,[]),H)):=by show _=_;rw[C.out,RF hmay]
       clear hmay;go_wp2_with fail;rw[p.out];refine xR (λW t z=>?_) g ⟨d7,d7⟩ D.tab (λwq y=>xQ d7 U c g B.slt.2 (RP rfl) y);simp[results,results16,go_sem,z]
      |true=>
       have p:Hid (gF s H=bq d l H):=by show _=_;rw[C.out,RD (by rw[hmay];decide)]
       have a8:=ah hmay;clear hmay;go_wp2_with fail;refine(a4.out la cl l lo sb n x H w6 c.out a3.out (by rw[T.out,M.out];exact b7.out) a8.out (by rw[T.out];have:=HK.out;omega) hr D.out hB hn).mono ?_;rintro e w7 ⟨hE,hO,x',hI⟩;have X:=ah (Ox d l H);have q:Hid _:=aH g hO (λy=>y.elim (λe=>by have:=B.slt;omega) (λy=>y.2 _ _ _ (RN rfl) g));have V:=ah (aF8 J hO);have b0:Hid (bE w7):=D.NA hO hB c2 (by have:=c.slt.2;omega);have cT:=aj (j:=0) q rfl;have fT:=aI (j:=0) q;generalize bq d l H=R at p X hE hI;obtain⟨⟨m,tt⟩,H'⟩:=R;have Q:=ah hI;clear hI hO;rcases hE with⟨h0,rfl⟩|⟨h0,rfl⟩
       ·go_wp2_with fail;rw[p.out];obtain rfl:m=0:=h0;refine Ki (λW t z=>?_) (t:=aQ tt) (Xg _ _ _ (by rw[cT];rfl)) (Kh V Q q B.slt.2 (RN ⟨rfl,H3⟩));simp[results,results16,go_sem,z]
       ·go_wp2_with fail;rw[p.out];refine xR (λW t z=>?_) q (Ji X) b0.tab (λwq y=>xQ h0 V Q q B.slt.2 (RN ⟨rfl,H3⟩) y);simp[results,results16,go_sem,z]
def aQ3(s:ByteArray)(w:C_)(a:s.size<=1000000):
  Sj prog 57 #[.string s,.string ⟨#[10]⟩] w λe w'=>e=Y (.string (aQ (Ar s.data.toList)))/\w'=w:=
 Any.strings_TrimSuffix aRa s ⟨#[10]⟩ w o7
def Qx(d:Array UInt8)(a b:Nat):(d.extract a b).toList=(d.toList.drop a).take (b - a):=by
 rw[Array.toList_extract,List.extract_eq_take_drop]
def aMd(s:ByteArray)(i:Nat):s.extract 0 i=aQ (s.data.toList.take i):=by
 apply ByteArray.ext;rw[ByteArray.data_extract];apply YA;rw[Qx];rfl
def aMb(s:ByteArray)(i:Nat):s.extract i s.size=aQ (s.data.toList.drop i):=by
 apply ByteArray.ext;rw[ByteArray.data_extract];apply YA;rw[Qx,List.take_of_length_le]
 ·rfl
 ·rw[List.length_drop,UH];exact au
def aA0(s:ByteArray)(w:C_):Sj prog 122 #[.string s,.string ⟨#[10]⟩] w λe w'=>e=Y (U G (Lib.indexByte s.data.toList 10))/\w'=w:=
 Any.stringslite_Index_one (ρ:=aA9) { aRc with } s 10 w
def aQn(s:ByteArray)(w:C_)(q:s.size<=1000000):
  Sj prog 90 #[.string s,.string ⟨#[10]⟩] w λe w'=>e=Y (.tuple #[.string (aQ (jg s.data.toList).1),.string (aQ (jg s.data.toList).2.1),.bool (jg s.data.toList).2.2])/\Sd w.heap.size w w':=by
 rcases aAp s.data.toList with⟨hi,a⟩|⟨i,hi,c,a⟩
 ·rw[a];have b:=ah hi;clear hi a;go_enter func90,ntmps90;go_wp2_with fail;refine(aA0 s w).mono ?_;rintro e w1 ⟨rfl,d⟩;subst d;rw[b.out];go_wp2_with fail;refine UA (v:=.tuple #[.string (aQ s.data.toList),.string (aQ []),.bool E_]) (by simp[results,results90,go_sem,aQ]) rfl ⟨rfl,RS _ _⟩
 ·rw[a]
  have f:i<s.size:=by
   have:s.data.toList.length=s.size:=UH;omega
  have h0:(0:Int)<=(i:Int):=o7;have b:=ah hi;clear hi a c;go_enter func90,ntmps90;go_wp2_with fail;refine(aA0 s w).mono ?_;rintro e w1 ⟨rfl,d⟩;subst d;rw[b.out];go_wp2_with fail;have g:IntKind.i64.wrap ((i:Int)+1)=(i:Int)+1:=IntWalk.i64_in _ o7;have j:(0:Int)<=(i:Int)+1:=o7;have k:((i:Int)+1).toNat=i+1:=o7;have l:i+1<=s.size:=o7;have m:i<=s.size:=o7;have n:¬((s.size:Int)<(i:Int)+1):=o7;have o:¬((s.size:Int)<(i:Int)):=o7;have p:¬((i:Int)+1<0):=o7;go_region;go_wp2_with fail;rw[aMd s i,aMb s (i+1)];exact UA (v:=.tuple #[.string (aQ (s.data.toList.take i)),.string (aQ (s.data.toList.drop (i+1))),.bool G_]) (by simp[results,results90,go_sem]) rfl ⟨rfl,(RS _ _).drew⟩
def aQd(s:ByteArray)(w:C_)(j:s.size<=1000000):
  Sj prog 58 #[.string s,.string ⟨#[10]⟩] w λe w'=>e=Y (.tuple #[.string (aQ (jg s.data.toList).1),.string (aQ (jg s.data.toList).2.1),.bool (jg s.data.toList).2.2])/\Sd w.heap.size w w':=by
 have d:=aQn s w j;generalize jg s.data.toList=c at d⊢;obtain⟨a,b,f⟩:=c;go_enter func58,ntmps58;go_wp2_with fail;refine d.mono ?_;rintro e w1 ⟨rfl,g⟩;clear d;have i:=ah g;clear g;go_wp2_with fail;exact UA (v:=.tuple #[.string (aQ a),.string (aQ b),.bool f]) (by simp[results,results58,go_sem]) rfl ⟨rfl,i.out⟩
section
attribute [local go_sem] Oper.semAt_some
attribute [local go_sem ↓] Go.wp_at_zero Go.wp_at_succ
def vk(t:ByteArray):List ByteArray:=(MF t.data.toList).map aQ
def aQm(t:ByteArray)(w:C_):Sj prog 14 #[.string t] w λe w'=>e=Y (.func (.func 56) #[] #[E (A_ ⟨w.heap.size,0,B_⟩)])/\w'=w.alloc (R #[.string t] 9):=by
 have a:∀(fn:Fn) (first cap:Array D_) (w:C_),(Instr.makeFunc fn first cap).run prog w=.ok (.func fn first cap) w:=λ_ _ _ _=>rfl
 go_enter func14,ntmps14;go_wp2_with fail;go_ret;exact⟨rfl,rfl⟩
def Mx:D_->D_->Nat
 | .string s,.bool G_=>s.size+1
 |_,_=>0
def aXm(n:Nat)(hn:1<=n)(l E:Nat)(t:ByteArray)(O:t.size<=30000)(J:List ByteArray->C_->Prop)(B:∀d W W',J d W->Sd W.heap.size W W'->J d W')(D:∀d x rest W,J d W->vk t=d++x::rest->YieldAt Wv (n - 1) prog l #[.string x] W λe W'=>e=.returned (.bool G_)/\J (d++[x]) W')(W:C_)(h0:J [] W)(hp:W.cell? ⟨E,0,B_⟩=A_ (.string t)):
  CallsIn Wv n prog 56 #[.func (.yield l) #[] #[],.pointer (A_ ⟨E,0,B_⟩)] W λe W'=>(∃v,e=.returned v)/\J (vk t) W':=by
 refine callsIn_of_wp func56 rfl trivial ?_;simp only[ntmps56,UQ,SC,Ui,Ws,Q_,Vp,Vq,Uv,Vy,Tn,TP];have F:=ah B;have H:=ah D;clear B D
 gi_wp2_with fail
 refine⟨trivial,?_⟩;refine(UY.2 (aQ3 t W o7)).mono ?_;rintro e M ⟨rfl,K⟩;subst K
 gi_wp2_with fail
 have G:Hid ((Ar t.data.toList).length<=30000):=by
  show(Ar t.data.toList).length<=30000;have h1:=aJl t.data.toList;have h2:t.data.toList.length=t.size:=UH;omega
 gi_loopw [3,4] (λr m wr=>∃(s:List UInt8) (b:Bool) (d:List ByteArray),r=.string (aQ s)/\m=.bool b/\s.length<=30000/\J d wr/\vk t=d++(if b=G_ then(oq s).map aQ else []))
  (λr m _=>Mx r m)
 case atStart=>exact⟨Ar t.data.toList,G_,[],rfl,rfl,G.out,h0,rfl⟩
 case round=>
  obtain⟨s,b,d,rfl,rfl,I,i,y⟩:=hrel;have j:=ah i;cases b with
  |false=>
   have q:Hid (vk t=d):=by show _=_;rw[y];simp
   clear y i h0 hp
   gi_wp2_with fail
   go_end0;exact⟨⟨_,rfl⟩,by rw[q.out];exact j.out⟩
  |true=>
   have hcut:=aIi s;have g:=aAq s
   have z:=aQd (aQ s) wr (by
    have:(aQ s).size=s.length:=rfl;omega)
   rw[show(aQ s).data.toList=s from rfl]at z;generalize jg s=c at hcut g z;obtain⟨a,w,f⟩:=c
   have q:Hid (vk t=d++aQ a::(if f=G_ then(oq w).map aQ else [])):=by
    show _=_;rw[y,RF rfl,hcut];cases f<;>simp
   have k:=ah g;clear hcut g y i h0 hp
   gi_wp2_with fail
   refine⟨trivial,?_⟩;refine(UY.2 z).mono ?_;rintro e w2 ⟨rfl,p⟩;obtain⟨fn,tmps,u,body,L,C⟩:=H.out d (aQ a) _ w2 (F.out _ _ _ j.out p) q.out;clear z p
   gi_wp2
   refine C.mono ?_;rintro e N ⟨rfl,o⟩;have A:Hid _:=o;clear o L C
   gi_wp2
   go_roundw
   case rel=>exact⟨w,f,d++[aQ a],rfl,rfl,by have:=k.out;omega,A.out,by rw[q.out];simp⟩
   case measure=>
    have h1:Mx (.string (aQ s)) (.bool G_)=s.length+1:=rfl
    have h2:Mx (.string (aQ w)) (.bool f)<=(if f=G_ then w.length+1 else 0):=by
     cases f
     ·exact au
     ·exact au
    have h3:=k.out;rw[h1];cases f
    ·simp at h2 h3⊢;omega
    ·simp at h2 h3⊢;omega
end
def bDa{P:Program}{g:Operand}{ps:Array Tmp}{assign body:Code}{Q:Exit->Act->C_->Prop}{a:Act}(h1:1<=n){gf:Nat}{lb:Array D_}(X:a.eval g=.func (.func gf) #[] lb)(eg:∀args w,(callFunc gf args).run P w=.ok (.enter gf args) w)(R:ps.size=1)(L:List ByteArray)(I:List ByteArray->C_->Prop)(D:∀(J:List ByteArray->C_->Prop),(∀b W i,J b W->Sd W.heap.size W i->J b i)->
   (∀b x f W,J b W->L=b++x::f->YieldAt Wv (n - 1 - 1) P (w.heap.size+1) #[.string x] W λe i=>e=.returned (.bool G_)/\J (b++[x]) i)->
   ∀W1,Sd w.heap.size w W1->J [] W1->CallsIn Wv (n - 1) P gf (#[.func (.yield (w.heap.size+1)) #[] #[]]++lb) W1 λe i=>(∃v,e=.returned v)/\J L i)(U:∀b W i,I b W->Sd W.heap.size W i->I b i)(m:∀b W r r',I b W->W.heap[w.heap.size+1]? = A_ (.loop r)->I b (W.putObj (w.heap.size+1) (.loop r')))(h0:∀W1,Sd w.heap.size w W1->W1.heap.size=w.heap.size+2->I [] W1)(a1:ByteArray->Act)(k:∀(x:ByteArray) (W:C_) (K:Act->C_->Prop),K (a1 x) W->assign.wpIn (Fence.wide.inRound (w.heap.size+1)) (n - 1 - 1) P (Exit.then K (λ_ _ _=>False)) { tmps:=(ps.zip #[.string x]).foldl (λt (p,v)=>t.setIfInBounds p v) a.tmps,defers:=[] } W)(o:∀b x f W,I b W->L=b++x::f->(∃r,W.heap[w.heap.size+1]? = A_ (.loop r))->W.heap[w.heap.size]? = A_ (.deferred (A_ []))->body.wpIn (Fence.wide.inRound (w.heap.size+1)) (n - 1 - 1) P (λe _ E=>e=.normal/\I (b++[x]) E/\E.heap[w.heap.size+1]? = W.heap[w.heap.size+1]?/\E.heap[w.heap.size]? = W.heap[w.heap.size]?) (a1 x) W)(q:∀W,I L W->W.heap[w.heap.size]? = A_ (.deferred (A_ []))->Q .normal { a with defers:={ target:=.collected w.heap.size,args:=#[] }::a.defers } W):
  (Code.rangeFunc g ps assign body).wpIn Wv n P Q a w:=by
 refine wpIn_rangeFunc ?_;intro fn M;rw[show Fence.wide.round=B_ from rfl];obtain⟨d,c⟩:∃d:LoopState->Option Code->Loop,d=λst Z=>{ state:=st,pending:=Z,fn:=fn,tmps:=a.tmps,params:=ps,assign:=assign,body:=body,defers:=w.heap.size }:=⟨_,rfl⟩
 obtain⟨W1,j⟩:∃W1,(w.alloc (.deferred (A_ []))).alloc (.loop (d .ready B_))=W1:=⟨_,rfl⟩
 have G:W1.heap[w.heap.size+1]? = A_ (.loop (d .ready B_)):=by
  rw[<-j];have:=World.alloc_heap_new (w.alloc (.deferred (A_ []))) (.loop (d .ready B_));rwa[World.size_alloc]at this
 have F:W1.heap[w.heap.size]? = A_ (.deferred (A_ [])):=by
  rw[<-j];exact(Below.heap_alloc _ _ _ s7).trans (World.alloc_heap_new w _)
 have u:Sd w.heap.size w W1:=by
  rw[<-j];exact(((RS _ w).alloc au _).alloc s7 _)
 have S:W1.heap.size=w.heap.size+2:=by rw[<-j];simp
 refine⟨w.heap.size+1,[{ target:=.collected w.heap.size,args:=#[] }],W1,{ target:=.fn (.func gf) lb,args:=#[.func (.yield (w.heap.size+1)) #[] #[]] },W1,gf,
  #[.func (.yield (w.heap.size+1)) #[] #[]]++lb,W1,?_,?_,?_,?_,λ_=>h1,?_⟩
 ·rw[<-j,c];exact run_enterLoop_outer _ _ _ _ _
 ·simp only[resolve,X];simp[go_sem]
 ·intro f' V;exact trivial
 ·simp[invoke,go_sem,eg]
 ·refine(D (λb W=>I b W/\W.heap[w.heap.size+1]? = A_ (.loop (d .ready B_))/\W.heap[w.heap.size]? = A_ (.deferred (A_ [])))
   (λb W i C H=>⟨U b W i C.1 H,(H.block _ (SK C.2.1)).trans C.2.1,(H.block _ (SK C.2.2)).trans C.2.2⟩) ?_ W1 u ⟨h0 W1 u S,G,F⟩).mono ?_
  ·rintro b x f W ⟨hi,s,hk⟩ B;have O:=SK s;have T:=run_yield (P:=P) (args:=#[.string x]) s (by rw[c];exact R.symm);rw[c]at T;refine⟨fn,_,assign,body,T,roundIn_of_wpIn M (k x W _ ?_)⟩;clear T;refine⟨_,run_beginRound s (by rw[c]),?_⟩;have A:(W.putObj (w.heap.size+1) (.loop { d .ready B_ with state:=.busy })).heap[w.heap.size+1]? = A_ (.loop { d .ready B_ with state:=.busy }):=World.putObj_heap_same O;have y:(W.putObj (w.heap.size+1) (.loop { d .ready B_ with state:=.busy })).heap[w.heap.size]? = A_ (.deferred (A_ [])):=(XB o7).trans hk;refine wpIn_mono (o b x f _ (m _ _ _ _ hi s) B ⟨_,A⟩ y) ?_;rintro e a3 E ⟨rfl,N,l,z⟩;rw[A]at l;rw[y]at z;have Y:=run_endRound (P:=P) B_ l;refine⟨_,_,Y,rfl,m _ _ _ _ N l,?_,(XB o7).trans z⟩;rw[World.putObj_heap_same (SK l),c];rfl
  ·rintro e W2 ⟨⟨v,rfl⟩,hi,s,hk⟩;exact⟨B_,_,by have:=run_endLoop (P:=P) s (by rw[c];simp);rw[c]at this;exact this,q _ (m _ _ _ _ hi s) ((XB o7).trans hk)⟩
abbrev lX(B O:Nat)(bs:List D_)(w:C_):Prop:=Lib.IsBuilderF 57 5 B O bs w
abbrev JO(B O:Nat)(bs:List D_)(w:C_):Prop:=Lib.BuilderAtF 57 5 B O (E (A_ ⟨O,0,B_⟩)) bs w
def sN(w:C_)(O j:Nat):Prop:=j=O\/∃p v,w.heap[O]? = A_ (R #[p,v] 57 (0,0))/\v.ownBlock=A_ j
def rG(w:C_)(O:Nat)(bs:List D_):Prop:=bs=[]->∃p,w.heap[O]? = A_ (R #[p,J B_ 0 0] 57 (0,0))
def aAz(B O:Nat)(a:List D_)(w:C_)(h:lX B O a w):
  Sj prog 59 #[E (A_ ⟨O,0,B_⟩)] w λe w'=>e=Y (.tuple #[])/\JO B O a w'/\(w'=w\/w'=w.setCell ⟨O,0,B_⟩ (E (A_ ⟨O,0,B_⟩))):=by
 rcases h with h|h
 ·refine(Any.Builder_copyCheck_fresh (ρ:=Ga) { aBd with } aA7.toX72 O w h.cell0 h.shape h.frozen0).mono ?_;rintro e w' ⟨rfl,rfl⟩;exact⟨rfl,h.used _,RN rfl⟩
 ·refine(Any.Builder_copyCheck_used (ρ:=Ga) { aBd with } aA7.toX72 O w h.cell0).mono ?_;rintro e w' ⟨rfl,rfl⟩;exact⟨rfl,h,RP rfl⟩
def aGa{row:Option Nat}(h:w.grownBy w' row):Out (λj=>row=A_ j) w w':=⟨h.os,h.tape,h.output,h.size,λj b a=>h.block j b (λe=>a e.symm)⟩
def QK{w2 w3:C_}{f:List D_}(h:lX B O f w)(b:w1=w\/w1=w.setCell ⟨O,0,B_⟩ (E (A_ ⟨O,0,B_⟩)))(d:w1.heap[O]? = A_ (R #[p,v] 57 (0,0)))(g:Out (λj=>v.ownBlock=A_ j) w1 w2)(h3:Out (λj=>j=O) w2 w3):Out (sN w O) w w3:=by
 have hv:∀j,v.ownBlock=A_ j->sN w O j:=λj c=>by
  rcases b with e|e
  ·rw[e]at d;exact RN ⟨p,v,d,c⟩
  ·obtain⟨p0,v0,h0⟩:∃p0 v0,w.heap[O]? = A_ (R #[p0,v0] 57 (0,0)):=by
    rcases h with⟨_,v0,h0,_⟩|⟨_,v0,h0,_⟩
    ·exact⟨_,v0,h0⟩
    ·exact⟨_,v0,h0⟩
   have h1:=bg (j:=0) (E (A_ ⟨O,0,B_⟩)) h0;rw[<-e,d]at h1;injection h1 with h1;injection h1 with h1 _ _
   have h2:v=v0:=by
    have:=RJ (λa:Array D_=>a[1]?) h1
    simpa using this
   exact RN ⟨p0,v0,h0,h2▸c⟩
 have o1:Out (λj=>j=O) w w1:=by
  rcases b with e|e
  ·rw[e];exact Out.refl _ _
  ·rw[e];exact bL w ⟨O,0,B_⟩ _
 exact((o1.mono λj c=>(RP c:sN w O j)).trans g λk hk=>RP (hv k hk)).trans h3 λk hk=>RP (RP hk)
def AZ{d v':D_}(c:w1=w\/w1=w.setCell ⟨O,0,B_⟩ (E (A_ ⟨O,0,B_⟩)))(h0:w.heap[O]? = A_ (R #[p,v'] 57 (0,0)))(b:w1.heap[O]? = A_ (R #[d,v] 57 (0,0))):v=v':=by
 rcases c with e|e
 ·rw[e,h0]at b;injection b with h1;injection h1 with h1 _ _;have:=RJ (λa:Array D_=>a[1]?) h1
  simpa using this.symm
 ·have h1:=bg (j:=0) (E (A_ ⟨O,0,B_⟩)) h0;rw[<-e,b]at h1;injection h1 with h1;injection h1 with h1 _ _;have:=RJ (λa:Array D_=>a[1]?) h1
  simpa using this
def aDh:(prog.info? 5).map (λi=>(i.zero,i.size,i.bytes))=A_ (A_ (.int .u8 0),1,1):=k7
def aQ6(B O:Nat)(k:List D_)(s:ByteArray)(w:C_)(h:lX B O k w)(C:k.length+s.size<=1000000000)(N:B<=w.heap.size):
  Sj prog 15 #[E (A_ ⟨O,0,B_⟩),.string s] w λe w'=>e=Y (.tuple #[U G s.size,.nilIface])/\JO B O (k++Lib.strCells s) w'/\Out (sN w O) w w'/\(rG w O k->rG w' O (k++Lib.strCells s)):=by
 obtain⟨S,hi,x,y,z⟩:=info_parts aDh;have H:=ah h;clear h;go_enter func15,ntmps15;go_wp2_with fail;refine(aAz B O k w H.out).mono ?_;rintro e w1 ⟨rfl,h1,l⟩;have n:Hid _:=l;have Q:w.heap.size<=w1.heap.size:=by rcases l with e|e<;>rw[e]<;>simp
 obtain⟨M,v,f,o,u⟩:=h1;have I:w1.cell? ⟨O,0,B_⟩=A_ (E (A_ ⟨O,0,B_⟩)):=aj (j:=0) f rfl;have K:w1.cell? ⟨O,1,B_⟩=A_ v:=aj (j:=1) f rfl;have d:Hid _:=f;clear l f;go_wp2_with (at_builtin;refine Lib.wpList_append_own_stringF _ rfl _ _ 55 9 rfl B 5 S underlying55 underlying9 hi x y z _ _ _ rfl o s rfl ?c3 ?c4 ?c5 ?_)
 case c3=>unfold maxLen;omega
 case c4=>omega
 case c5=>omega
 intro v' w2 b a i;have r:Hid _:=i;clear i;have c:w2.heap[O]? = A_ (R #[E (A_ ⟨O,0,B_⟩),v] 57 (0,0)):=(a.block O (SK d.out) (λe=>u e.symm)).trans d.out;have d0:w2.cell? ⟨O,0,B_⟩=A_ (E (A_ ⟨O,0,B_⟩)):=aj (j:=0) c rfl;have Z:w2.cell? ⟨O,1,B_⟩=A_ v:=aj (j:=1) c rfl;have f1:=aI (j:=1) c
 obtain⟨A,D,cap,rfl⟩:∃A D cap,v'=J A D cap:=by
  rcases b.2 with⟨hv,_⟩|⟨g,cap,L,fz,hv,_⟩
  ·exact⟨_,_,_,hv⟩
  ·exact⟨_,_,_,hv⟩
 have t:Hid _:=b;have q:=ah (aGa a);have m:Hid _:=c;clear b a c I K;go_wp2;go_ret2;refine⟨rfl,?_,QK H.out n.out d.out q.out (bL w2 ⟨O,1,B_⟩ _),λP h0=>?_⟩;rotate_left
 ·have V:=(List.append_eq_nil_iff.1 h0).1;have F:s.size=0:=by have:=RJ List.length (List.append_eq_nil_iff.1 h0).2;rwa[Lib.strCells_length]at this
  obtain⟨p,hp⟩:=P V;have W:=AZ n.out hp d.out;have X:=ByteArray.size_eq_zero_iff.1 F;rw[r.out.2 ⟨W,by first|exact X|exact F⟩];exact⟨_,bg (j:=1) _ m.out⟩
 exact Lib.BuilderAtF.put (T:=57) (e:=5) M m.out (bs':=k++Lib.strCells s) (by rw[Sl,Lib.strCells_length];exact t.out) d7
def aQ5(B O:Nat)(m:List D_)(c:Int)(w:C_)(h:lX B O m w)(C:m.length+1<=1000000000)(L:B<=w.heap.size):
  Sj prog 17 #[E (A_ ⟨O,0,B_⟩),.int .u8 c] w λe w'=>e=Y .nilIface/\JO B O (m++[.int .u8 c]) w'/\Out (sN w O) w w':=by
 obtain⟨N,hi,x,y,z⟩:=info_parts aDh;have H:=ah h;clear h;go_enter func17,ntmps17;go_wp2_with fail;refine(aAz B O m w H.out).mono ?_;rintro e w1 ⟨rfl,h1,k⟩;have s:Hid _:=k;have M:w.heap.size<=w1.heap.size:=by rcases k with e|e<;>rw[e]<;>simp
 obtain⟨K,v,f,n,t⟩:=h1;have G:w1.cell? ⟨O,0,B_⟩=A_ (E (A_ ⟨O,0,B_⟩)):=aj (j:=0) f rfl;have c1:w1.cell? ⟨O,1,B_⟩=A_ v:=aj (j:=1) f rfl;have i:Hid _:=f;clear k f;have l:Hid (Sd w1.heap.size w1 (w1.alloc (R #[.int .u8 c] 5))):=aM w1 _;go_wp2_with (at_builtin;refine wpList_append_ownF _ rfl _ _ 55 rfl B 5 N (.int .u8 0) 1 1 underlying55 hi x y z rfl d7 _ _ _ rfl (n.alloc _) ⟨w1.heap.size,0,B_⟩ 1 1 [.int .u8 c] rfl rfl ?c1 ?c2 ?c3 ?c4 ?c5 ?_)
 case c1=>
  intro j u o
  match j,o with
  |0,o=>simp at o;subst o;simp[Addr.add]
 case c2=>intro u D;simp at D;subst D;rfl
 case c3=>unfold maxLen;omega
 case c4=>omega
 case c5=>simp;omega
 intro v' w2 b a _;have d:w2.heap[O]? = A_ (R #[E (A_ ⟨O,0,B_⟩),v] 57 (0,0)):=(a.block O (by have:=SK i.out;simp;omega) (λe=>t e.symm)).trans (aL i.out l.out au);have d0:w2.cell? ⟨O,0,B_⟩=A_ (E (A_ ⟨O,0,B_⟩)):=aj (j:=0) d rfl;have P:w2.cell? ⟨O,1,B_⟩=A_ v:=aj (j:=1) d rfl;have Q:=aI (j:=1) d
 obtain⟨A,F,cap,rfl⟩:∃A F cap,v'=J A F cap:=by
  rcases b.2 with⟨hv,_⟩|⟨g,cap,I,fz,hv,_⟩
  ·exact⟨_,_,_,hv⟩
  ·exact⟨_,_,_,hv⟩
 have r:Hid _:=b;have q:Hid (Out (λj=>v.ownBlock=A_ j) w1 w2):=(Sz l.out au).trans (aGa a) (aK.refl _ _);have p:Hid _:=d;clear b a d G c1;go_wp2;go_ret;refine⟨rfl,?_,QK H.out s.out i.out q.out (bL w2 ⟨O,1,B_⟩ _)⟩;exact Lib.BuilderAtF.put (T:=57) (e:=5) K p.out (bs':=m++[.int .u8 c]) (by rw[Sl,TG];exact r.out) d7
def CX(h:lX B O (Uu l) W)(m:rG W O (Uu l))(d:sN W O j):j=O\/((∃a fz,W.heap[j]? = A_ (R a 5 fz))/\∃z,W.cell? ⟨j,0,B_⟩=A_ (.int .u8 z)):=by
 rcases d with d|⟨p,v,hp,hv⟩
 ·exact RP d
 ·right
  have b:W.ownsRowF B 5 1 v (Uu l).length (Uu l):=by
   rcases h with⟨_,v0,h0,h1,_⟩|⟨_,v0,h0,h1,_⟩
   ·rw[AZ (RP rfl) h0 hp];exact h1
   ·rw[AZ (RP rfl) h0 hp];exact h1
  cases l with
  |nil=>
   obtain⟨o,f⟩:=m rfl;rw[AZ (RP rfl) f hp]at hv;cases hv
  |cons c l=>
   obtain⟨_,⟨e,_⟩|⟨g,cap,a,fz,e,_,i,_,_,_,_,n⟩⟩:=b
   ·rw[e]at hv;cases hv
   ·rw[e]at hv;obtain rfl:g=j:=by simpa[Uf]using hv
    refine⟨⟨a,fz,i⟩,c.toNat,?_⟩;have h1:(a.toList.take ((Uu (c::l)).length*1))[0]? = A_ (.int .u8 c.toNat):=by rw[n];rfl
    rw[Yg]at h1;split at h1
    ·have k:a[0]? = A_ (.int .u8 c.toNat):=by rw[<-h1];simp
     simp[SS,i,k]
    ·cases h1
def bA.bdw{K:C_}(o:bA W lo sb x H n)(h:lX B O (Uu l) W)(C:rG W O (Uu l))(T:O<lo)(ho:Out (sN W O) W K):bA K lo sb x H n:=by
 have I:∃p v,W.heap[O]? = A_ (R #[p,v] 57 (0,0))/\(p=E B_\/p=E (A_ ⟨O,0,B_⟩)):=by
  rcases h with⟨_,v0,h0,_⟩|⟨_,v0,h0,_⟩
  ·exact⟨_,v0,h0,RP rfl⟩
  ·exact⟨_,v0,h0,RN rfl⟩
 obtain⟨p,v,hp,w⟩:=I;have L:W.cell? ⟨O,0,B_⟩=A_ p:=aj (j:=0) hp rfl
 have A:∀{j:Nat} {c:Array D_} {t:RZ} {f:Nat×Nat},W.heap[j]? = A_ (R c t f)->t≠5->t≠57->¬sN W O j:=fun {j c t f} g h1 h2 i=>by
  rcases CX h C i with e|⟨⟨D,fz,d⟩,_⟩
  ·rw[e,hp]at g;injection g with g;injection g with _ g _;exact h2 g.symm
  ·rw[g]at d;injection d with d;injection d with _ d _;exact h1 d
 refine⟨aH o.box ho (A o.box d7 d7),⟨o.slt.1,RV o.slt.2 ho.size⟩,λh0=>?_,λM S=>?_⟩
 ·obtain⟨tb,h1,h2,h3,P,Q,cs,f,N⟩:=o.rows h0;have s:=A N d7 d7;exact⟨tb,h1,og h2 ho s,h3,P,Q,cs,f,aH N ho s⟩
 ·obtain⟨h1,h2⟩:=o.eg M S;refine⟨h1.outT ho (λj m i=>?_) ⟨?_,λj u m=>?_⟩,h2⟩
  ·rcases CX h C i with e|⟨⟨D,fz,d⟩,_⟩
   ·have:=h2.2.1 j m;omega
   ·exact h1.Lm m _ _ _ (RP rfl) d
  ·refine kZ h1.tab.1 ho λi=>?_
   have y:=h1.tab.1;rcases CX h C i with e|⟨_,z,J⟩
   ·have F:x.k.tb=O:=e;rw[F,L]at y;rcases w with q|q<;>rw[q]at y<;>cases y
   ·rw[J]at y;cases y
  ·have b:=h1.tab.2;refine kZ (b j u m) ho λi=>?_
   have a:∃z,W.cell? ⟨x.k.cb,0,B_⟩=A_ (U G z):=by
    cases hrs:M.rs with
    |nil=>rw[hrs]at m;exact absurd m (by simp[flat])
    |cons r rs=>
     have:=b 0 (U G r.1) (by rw[hrs];rfl);exact⟨r.1,this⟩
   obtain⟨V,a⟩:=a;rcases CX h C i with e|⟨_,z,J⟩
   ·have F:x.k.cb=O:=e;rw[F,L]at a;rcases w with q|q<;>rw[q]at a<;>cases a
   ·rw[J]at a;cases a
variable {mb:Nat}
section
attribute [local go_sem] Oper.semAt_some
attribute [local go_sem ↓] Go.wp_at_zero Go.wp_at_succ
def mX:List ByteArray->Nat
 |[]=>0
 |x::l=>x.size+1+mX l
def Kw:∀a b:List ByteArray,mX (a++b)=mX a+mX b
 |[],b=>by simp[mX]
 |x::a,b=>by simp only[TP,mX,Kw a b];omega
def mP.neB{mb:Nat}{vs:Array D_}{t:RZ}{f:Nat×Nat}(h:mP W mb sb)(c:W.heap[b]? = A_ (R vs t f)):b≠mb:=λe=>by
 obtain⟨es,a,h1,_⟩:=h;rw[e,h1]at c;cases c
structure xO(w:C_)(S O mb db lo:Nat)(pre:List ByteArray)(W:C_):Prop where
 is:∃x n,bA W lo S x (nk pre WJ) n/\4*n<=mX pre
 bd:lX O O (Uu (ku pre WJ)) W
 be:rG W O (Uu (ku pre WJ))
 de:mP W mb S
 dv:W.heap[db]? = A_ (R #[.map (A_ mb)] 58 (0,0))
 va:bE W
 bl:Sd w.heap.size w W
 rl:(nk pre WJ).rs.length<=10000
 ln:(ku pre WJ).length<=30001*pre.length
def aMk(h:lX B O bs W)(b:Sd W.heap.size W W'):lX B O bs W':=by
 have row:∀{v:D_},W.ownsRowF B 5 1 v bs.length bs->W'.ownsRowF B 5 1 v bs.length bs:=fun {v} hr=>by
  obtain⟨h1,h2|⟨g,cap,a,fz,e,d,c,f⟩⟩:=hr
  ·exact⟨h1,RP h2⟩
  ·exact⟨h1,RN ⟨g,cap,a,fz,e,d,aL c b au,f⟩⟩
 rcases h with⟨q,v,h0,h1,h2⟩|⟨q,v,h0,h1,h2⟩
 ·exact RP ⟨q,v,aL h0 b au,row h1,h2⟩
 ·exact RN ⟨q,v,aL h0 b au,row h1,h2⟩
def aMn(h:rG W O bs)(a:Sd W.heap.size W W'):rG W' O bs:=λe=>by
 obtain⟨p,hp⟩:=h e;exact⟨p,aL hp a au⟩
def xO.below(h:xO w S O mb db lo pre W)(a:Sd W.heap.size W W')(b:7<=w.heap.size):xO w S O mb db lo pre W':=by
 obtain⟨x,n,h1,h2⟩:=h.is;exact⟨⟨x,n,h1.below a,h2⟩,aMk h.bd a,aMn h.be a,h.de.same (a.block mb h.de.lt),aL h.dv a au,h.va.below a (RV b h.bl.size),aJ h.bl a,h.rl,h.ln⟩
def aMl(h:lX B O bs W)(m:O<lo)(j:O≠sb)(i:∀c f,W.heap[sb]?≠A_ (R c 5 f))(ho:Out (jd W lo sb) W W'):lX B O bs W':=by
 have a:¬jd W lo sb O:=λe=>e.elim j (λe=>by have:=e.1;omega)
 have row:∀{v:D_},W.ownsRowF B 5 1 v bs.length bs->W'.ownsRowF B 5 1 v bs.length bs:=fun {v} hr=>by
  obtain⟨h1,h2|⟨g,cap,b,fz,e,k,d,l⟩⟩:=hr
  ·exact⟨h1,RP h2⟩
  ·refine⟨h1,RN ⟨g,cap,b,fz,e,k,aH d ho (λe=>?_),l⟩⟩;rcases e with e|e
   ·exact i _ _ (e▸d)
   ·exact e.2 _ _ _ (RP rfl) d
 rcases h with⟨q,v,h0,h1,h2⟩|⟨q,v,h0,h1,h2⟩
 ·exact RP ⟨q,v,aH h0 ho a,row h1,h2⟩
 ·exact RN ⟨q,v,aH h0 ho a,row h1,h2⟩
def aMo(h:rG W O bs)(b:O<lo)(a:O≠sb)(ho:Out (jd W lo sb) W W'):rG W' O bs:=λe=>by
 obtain⟨p,hp⟩:=h e;exact⟨p,aH hp ho (λe=>e.elim a (λe=>by have:=e.1;omega))⟩
def Fz(h:lX B O (Uu l) W)(b:rG W O (Uu l))(g:j≠O)(i:∀c f,W.heap[j]?≠A_ (R c 5 f)):¬sN W O j:=λk=>by
 rcases CX h b k with e|⟨⟨a,fz,d⟩,_⟩
 ·exact g e
 ·exact i _ _ d
def aMp(h:lX B O bs W)(c:sN W O j):B<=j:=by
 rcases c with e|⟨p,v,hp,hv⟩
 ·rcases h with⟨q,_⟩|⟨q,_⟩<;>omega
 ·have a:W.ownsRowF B 5 1 v bs.length bs:=by
   rcases h with⟨_,v0,h0,h1,_⟩|⟨_,v0,h0,h1,_⟩
   ·rw[AZ (RP rfl) h0 hp];exact h1
   ·rw[AZ (RP rfl) h0 hp];exact h1
  obtain⟨_,⟨e,_⟩|⟨g,cap,b,fz,e,d,_⟩⟩:=a
  ·rw[e]at hv;cases hv
  ·rw[e]at hv;have:g=j:=by simpa[Uf]using hv
   omega
def Rw{a:J_}(h:W.cell? a=A_ v):∃c t f,W.heap[a.block]? = A_ (R c t f):=by
 unfold SS at h;split at h
 ·rename_i e;exact⟨_,_,_,e⟩
 ·cases h
def bA.bBc(h:bA W lo sb x H n)(ho:Out Z W W')(h2:∀j c t f,W.heap[j]? = A_ (R c t f)->¬Z j)(h3:∀j,lo<=j->¬Z j):bA W' lo sb x H n:=by
 refine⟨aH h.box ho (h2 _ _ _ _ h.box),⟨h.slt.1,RV h.slt.2 ho.size⟩,λh0=>?_,λM i=>?_⟩
 ·obtain⟨tb,a,d,k,l,m,cs,f,g⟩:=h.rows h0;exact⟨tb,a,og d ho (h2 _ _ _ _ g),k,l,m,cs,f,aH g ho (h2 _ _ _ _ g)⟩
 ·obtain⟨a,d⟩:=h.eg M i;refine⟨a.outT ho (λj b=>h3 j (d.2.1 j b)) ⟨?_,λj u b=>?_⟩,d⟩
  ·obtain⟨c,t,f,e⟩:=Rw a.tab.1;exact kZ a.tab.1 ho (h2 _ _ _ _ e)
  ·obtain⟨c,t,f,e⟩:=Rw (a.tab.2 j u b);exact kZ (a.tab.2 j u b) ho (h2 _ _ _ _ e)
def aMm(h:lX B O bs W)(ho:Out Z W W')(h2:∀j c t f,W.heap[j]? = A_ (R c t f)->¬Z j):lX B O bs W':=by
 have row:∀{v:D_},W.ownsRowF B 5 1 v bs.length bs->W'.ownsRowF B 5 1 v bs.length bs:=fun {v} hr=>by
  obtain⟨h1,q|⟨g,cap,a,fz,e,d,b,i⟩⟩:=hr
  ·exact⟨h1,RP q⟩
  ·exact⟨h1,RN ⟨g,cap,a,fz,e,d,aH b ho (h2 _ _ _ _ b),i⟩⟩
 rcases h with⟨q,v,h0,h1,h3⟩|⟨q,v,h0,h1,h3⟩
 ·exact RP ⟨q,v,aH h0 ho (h2 _ _ _ _ h0),row h1,h3⟩
 ·exact RN ⟨q,v,aH h0 ho (h2 _ _ _ _ h0),row h1,h3⟩
def aGb(l:Nat)(o:Obj)(W:C_):Out (λj=>j=l) W (W.putObj l o):=⟨rfl,rfl,rfl,by simp[World.putObj],λj _ a=>XB (λe=>a o7)⟩
def xO.put{l:Nat}{r':Loop}(h:xO w S O mb db lo pre W)(g:W.heap[l]? = A_ (.loop r))(i:l<lo)(k:mb≠l)(s:w.heap.size<=l)(b:7<=w.heap.size):xO w S O mb db lo pre (W.putObj l (.loop r')):=by
 have ho:=aGb l (.loop r') W;have h2:∀j c t f,W.heap[j]? = A_ (R c t f)->¬j=l:=λj c t f e q=>by rw[q,g]at e;cases e
 have a:Sd w.heap.size W (W.putObj l (.loop r')):=ho.below (λj d=>by omega) h.bl.size;obtain⟨x,n,m,o⟩:=h.is;refine⟨⟨x,n,m.bBc ho h2 (λj d e=>by omega),o⟩,aMm h.bd ho h2,λe=>?_,h.de.same (ho.block mb h.de.lt k),aH h.dv ho (h2 _ _ _ _ h.dv),h.va.below (a.mono b) au,h.bl.trans a,h.rl,h.ln⟩;obtain⟨p,hp⟩:=h.be e;exact⟨p,aH hp ho (h2 _ _ _ _ hp)⟩
end
def IY{l:List Int}(h:∀z∈l,dN z):(lQ l).length<=l.length*22:=by
 have:=uX (m:=21) (l.map Wi) [32] (λx b=>by
  obtain⟨z,a,rfl⟩:=Ti.1 b;exact UR _ (h z a).1 (h z a).2)
 rw[TL]at this;exact this
def PI{fs:List dx}(c:t.length<=88)(h:∀f∈fs,Bu f)(hn:fs.length<=200):(yY t fs).length<=30000:=by
 have:=uX (m:=88) (t::fs.map jI) [44,32] (λx a=>by
  rcases SB.1 a with rfl|a
  ·exact c
  ·obtain⟨f,b,rfl⟩:=Ti.1 a;exact aBx (h f b))
 rw[SC,TL]at this;have h2:([44,32]:List UInt8).length=2:=rfl;rw[h2]at this;show(Yt (t::fs.map jI) [44,32]).length<=30000;have:(fs.length+1)*(88+2)<=201*90:=Nat.mul_le_mul_right _ o7;omega
def aEj{l:List Ord}(h:∀o∈l,yK o)(hn:l.length<=200):(yC l).length<=30000:=by
 have:=uX (m:=88) (l.map qz) [44,32] (λx a=>by
  obtain⟨o,ho,rfl⟩:=Ti.1 a;exact aF5 (h o ho))
 rw[TL]at this;have h2:([44,32]:List UInt8).length=2:=rfl;rw[h2]at this;show(Yt (l.map qz) [44,32]).length<=30000;have:l.length*(88+2)<=200*90:=Nat.mul_le_mul_right _ hn;omega
def Ae(h:t.length<=30000):(mJ e t).2.length<=30000:=by
 unfold mJ;split
 ·exact h
 ·exact Sv _
def bBy(p:Int):(lN p).length<=30000:=by
 unfold lN
 repeat' split
 all_goals decide
def yZ(d:Nat):(jU d).length<=30000:=by
 by_cases h:d<18
 ·have:∀k,k<18->(jU k).length<=30000:=λk hk=>by
   match k,hk with
   |0,_=>decide
   |1,_=>decide
   |2,_=>decide
   |3,_=>decide
   |4,_=>decide
   |5,_=>decide
   |6,_=>decide
   |7,_=>decide
   |8,_=>decide
   |9,_=>decide
   |10,_=>decide
   |11,_=>decide
   |12,_=>decide
   |13,_=>decide
   |14,_=>decide
   |15,_=>decide
   |16,_=>decide
   |17,_=>decide
   |k+18,h=>exact absurd h o7
  exact this d h
 ·have:jU d=[]:=by
   unfold jU;have a:wG[d]? = B_:=List.getElem?_eq_none (show wG.length<=d by show 18<=d;omega);rw[List.getD_eq_getElem?_getD,a];rfl
  rw[this];exact Sv _
def JY(H:aY):Prop:=∀M,H.aX=A_ M->(MI M)/\dZ M.L/\M.now<=1000000
def bIt(h:JY H)(n:H.aX=A_ M)(d:Nat)(l:List Int)(f:∀k,dN (nI l k)):(gH d l M).1.2.length<=30000:=by
 obtain⟨b,e,g⟩:=h M n;have a:M.L.length<=100:=by have:=b.few;omega
 unfold gH;split
 ·exact Ae (PI d7 (b.ord e (f 0) (f 1)).1 (by have:=(Ny (o:=jS 1 l) a).1;omega))
 ·exact Ae (PI d7 (b.ord e (f 0) (f 1)).1 (by have:=(Ny (o:=jS 2 l) a).1;omega))
 ·exact Ae (yZ _)
 ·obtain⟨q,r⟩:=b.tick e;have t:=aJb a;have u:=r.now
  have s:=IY (l:=[(fK M).2.now]) (λz c=>by
   rw[TT.1 c];exact mF o7)
  refine Ae (PI ?_ q o7);exact RV s (show 1*22<=88 by decide)
 ·exact Ae (yZ _)
 ·exact Ae (yZ _)
 ·exact bBy _
 ·obtain⟨i,j,m⟩:=aHa e a b.la;refine RV (IY λz c=>?_) (show 3*22<=30000 by decide);simp only[SB,Ud,or_false]at c;rcases c with rfl|rfl|rfl
  ·exact i
  ·exact j
  ·exact m
 ·refine RV (IY λz c=>?_) (show 2*22<=30000 by decide);simp only[SB,Ud,or_false]at c;rcases c with rfl|rfl
  ·exact mF (by have:=b.an;omega)
  ·exact mF (by have:=b.la;omega)
 ·show(if _ then _ else _:Int×List UInt8).2.length<=30000;split
  ·refine aEj (λo ho=>b.aF6 e o (oo.1 ho).1) ?_;have:=ED (nI l 0) M.L;omega
  ·exact Sv _
 ·exact aEj b.p (by have:=b.few;omega)
def aPu(h:JY H)(d:Nat)(l:List Int)(b:∀k,dN (nI l k)):(bq d l H).1.2.length<=30000:=by
 unfold bq;split
 ·exact yZ _
 ·exact yZ _
 ·exact yZ _
 ·split
  ·exact yZ _
  ·exact Sv _
 ·refine Ae (RV (IY λz a=>?_) (show 2*22<=30000 by decide));simp only[SB,Ud,or_false]at a;rcases a with rfl|rfl
  ·exact(Km _ _).1
  ·exact(Km _ _).2
 ·exact yZ _
 ·show aC8.length<=30000;decide
 ·split
  ·exact Sv _
  ·rename_i hM;exact bIt h hM _ l b
def aSy(h:gK e):(tJ e).length<=30000:=by
 have:=UR e (Ji h).1 (Ji h).2;unfold tJ;rw[Sl];have:([101,114,114,111,114,32]:List UInt8).length=6:=rfl;omega
def AX{r:Int×List UInt8}(h1:gK r.1)(h2:r.2.length<=30000):(pW r).length<=30000:=by
 unfold pW;split
 ·exact h2
 ·exact aSy h1
def aLn(h:JY H)(s:ByteArray):(pW (gF s H).1).length<=30000:=by
 have z:gK 3:=⟨d7,d7⟩;unfold gF;split
 ·exact AX Cg (show 2<=30000 by decide)
 ·split
  ·exact AX z (Sv _)
  ·split
   ·exact AX z (Sv _)
   ·split
    ·exact AX z (Sv _)
    ·rename_i l hl;split
     ·exact AX sm6 (Sv _)
     ·refine AX (Ox _ l H) (aPu h _ l λk=>?_)
      by_cases hk:k<l.length
      ·unfold nI;have:l.getD k 0=l[k]:=by simp[hk]
       rw[this];exact Ic _ hl _ (Vn hk)
      ·unfold nI;have:l.getD k 0=0:=by simp[Nat.le_of_not_lt hk]
       rw[this];exact⟨d7,d7⟩
def aLm(h:bA W lo sb x H n)(hn:n<=1900)(s:ByteArray):(pW (gF s H).1).length<=30000:=aLn (λM d=>by
 obtain⟨b,c,_,_,a⟩:=h.eg M d;exact⟨c,b.qV,o7⟩) s
section
attribute [local go_sem] Oper.semAt_some
attribute [local go_sem ↓] Go.wp_at_zero Go.wp_at_succ
def aIj:∀s:List UInt8,mX ((oq s).map aQ)=s.length+1
 |[]=>rfl
 |c::s=>by
  have a:=aIj s;unfold oq;split
  ·simp only[RY,mX,a,SC];show 0+1+_=_;omega
  ·cases e:oq s with
   |nil=>exact absurd e (bF5 s)
   |cons x xs=>
    rw[e]at a;simp only[RY,mX,SC]at a⊢;have h1:(aQ (c::x)).size=x.length+1:=rfl;have h2:(aQ x).size=x.length:=rfl;omega
def aXn(t:ByteArray):mX (vk t)<=t.size+1:=by
 unfold vk MF;rw[aIj];have h1:=aJl t.data.toList;have h2:t.data.toList.length=t.size:=UH;omega
def Ro:∀l:List ByteArray,l.length<=mX l
 |[]=>au
 |x::l=>by have:=Ro l;simp only[mX,SC];omega
def aPw(d:Nat)(l:List Int)(H:aY)(a:l.length<=10000)(h:H.rs.length<=10000):(bq d l H).2.rs.length<=10000:=by
 unfold bq;split
 ·show(lK l).length<=10000;rw[El];omega
 ·exact h
 ·exact h
 ·split
  ·exact h
  ·exact h
 ·exact h
 ·exact Sv _
 ·exact h
 ·split
  ·exact h
  ·exact h
def aXl(s:ByteArray)(H:aY)(b:s.size<=9000)(h:H.rs.length<=10000):(gF s H).2.rs.length<=10000:=by
 have a:=aKc s;unfold gF;split
 ·exact h
 ·rename_i w ws e;rw[e]at a;simp only[SC]at a;split
  ·exact h
  ·split
   ·exact h
   ·split
    ·exact h
    ·rename_i l hl;split
     ·exact h
     ·exact aPw _ l H (by rw[BR ws hl];omega) h
def aNl(l:List UInt8):Uu l++[.int .u8 10]=Uu (l++[10]):=by simp[Uu]
def QJ{m t k:Nat}{u:Option (List Deferred)}(y:bA W lo S x H n)(a:lX O O (Uu l) W)(b:rG W O (Uu l))(A:O<lo)(o:mP W mb S)(C:mb≠O)(g:eB W m #[.map (A_ mb)] 58)(hv:bE W)(d:bW w W)(i:W.heap[t]? = A_ (.loop r)/\W.heap[k]? = A_ (.deferred u))(q:m≠O)(s:t≠O)(p:k≠O)(ho:Out (sN W O) W W')(z:7<=w.heap.size)(D:w.heap.size<=O):
  bA W' lo S x H n/\mP W' mb S/\eB W' m #[.map (A_ mb)] 58/\bE W'/\bW w W'/\W'.heap[t]? = A_ (.loop r)/\W'.heap[k]? = A_ (.deferred u):=by
 have v:Sd w.heap.size W W':=ho.below (λj B=>by have:=aMp a B;omega) d.size;refine⟨y.bdw a b A ho,o.same (ho.block _ o.lt (Fz a b C λc f e=>absurd rfl (o.neB e))),aH g ho (Fz a b q λc f e=>?_),hv.below (v.mono z) au,d.trans v,aH i.1 ho (Fz a b s λc f e=>by rw[i.1]at e;cases e),aH i.2 ho (Fz a b p λc f e=>by rw[i.2]at e;cases e)⟩;rw[g]at e;injection e with e;injection e with _ e _;exact absurd e d7
def aQy(t:ByteArray)(ht:t.size<=4000)(w:C_)(hv:bE w)(E:7<=w.heap.size):
  Sj prog 6 #[.string t] w λe w'=>e=.returned (.string (aQ (vC t.data.toList)))/\bW w w':=by
 refine(UY (n:=4)).1 ?_;refine callsIn_of_wp_marks func6 rfl trivial ?_ rfl;simp only[ntmps6,UQ,SC,Ui,Ws,Q_,Vp,Vq,Uv,Vy,Tn,TP];have h0:¬(20000:Int)<(t.size:Int):=o7;have HV:=ah hv;clear hv
 gi_wp2_with fail
 have O:=RU w (.cells #[.slice B_ 0 0,.int .i64 0,.int .i64 0,.int .i64 0,.int .i64 0,.int .i64 0,.pointer B_] 53);have y:=aM w (.cells #[.slice B_ 0 0,.int .i64 0,.int .i64 0,.int .i64 0,.int .i64 0,.int .i64 0,.pointer B_] 53);have A:(w.alloc (.cells #[.slice B_ 0 0,.int .i64 0,.int .i64 0,.int .i64 0,.int .i64 0,.int .i64 0,.pointer B_] 53)).heap.size=w.heap.size+1:=by simp
 generalize w.alloc (.cells #[.slice B_ 0 0,.int .i64 0,.int .i64 0,.int .i64 0,.int .i64 0,.int .i64 0,.pointer B_] 53)=w1 at O y A⊢;have u:=RU w1 (.cells #[.pointer B_,.slice B_ 0 0] 57);have l:=aM w1 (.cells #[.pointer B_,.slice B_ 0 0] 57);have L:(w1.alloc (.cells #[.pointer B_,.slice B_ 0 0] 57)).heap.size=w.heap.size+2:=by simp[A]
 generalize w1.alloc (.cells #[.pointer B_,.slice B_ 0 0] 57)=w2 at u l L⊢;rw[A]at u;refine⟨trivial,?_⟩;refine(UY.2 (aQf w.heap.size w2)).mono ?_;rintro e w3 ⟨rfl,hd,m⟩;rw[L]at hd⊢
 gi_wp2_with fail
 refine⟨trivial,?_⟩;refine(UY.2 (aQm t _)).mono ?_;rintro e w4 ⟨rfl,rfl⟩
 gi_wp2_with fail
 have P:=RU w3 (.cells #[.map (A_ (w.heap.size+2))] 58);have g:=aM w3 (.cells #[.map (A_ (w.heap.size+2))] 58);have B:(w3.alloc (.cells #[.map (A_ (w.heap.size+2))] 58)).heap.size=w3.heap.size+1:=by simp
 generalize w3.alloc (.cells #[.map (A_ (w.heap.size+2))] 58)=w4 at P g B⊢;have D:=RU w4 (.cells #[.string t] 9);have z:=aM w4 (.cells #[.string t] 9);have C:(w4.alloc (.cells #[.string t] 9)).heap.size=w3.heap.size+2:=by simp[B]
 generalize w4.alloc (.cells #[.string t] 9)=w5 at D z C⊢;rw[B]at D;have c6:w.heap.size+3<=w3.heap.size:=by have:=hd.lt;omega
 have c4:=ah (aJ y (aJ l (aJ m (aJ g z))));have V:Hid (aF w5 (w3.heap.size+1) 0 (.string t)):=aj (j:=0) D rfl
 have b5:Hid (∀R,bW w5 R->R.heap.size=w5.heap.size+2->xO w w.heap.size (w.heap.size+1) (w.heap.size+2) w3.heap.size (w5.heap.size+2) [] R):=λR hq c5=>by
  have g5:=aJ z hq;have g4:=aJ g g5;have g3:=aJ m g4;have g2:=aJ l g3;have g1:=aJ y g2
  refine⟨⟨⟨B_,0,0,⟨0,0,0,0,0,0,⟨0,0,0,.nilIface,.nilIface,.nilIface,.nilIface,[],[],λ_=>[]⟩,.nilIface,0,0⟩⟩,0,⟨aL O g2 au,⟨o7,o7⟩,λh=>absurd h (Nat.lt_irrefl 0),λM e=>by cases e⟩,Sv _⟩,
   RP ⟨au,_,aL u g3 au,World.ownsRowF_of (World.ownsRow_nil _ _ _ _),by simp[Uf]⟩,λ_=>⟨_,aL u g3 au⟩,hd.same (g4.block _ hd.lt),aL P g5 au,HV.below g1 E,g1,Sv _,Sv _⟩
 have c1:w3.heap.size+2<=w5.heap.size:=Nat.le_of_eq C.symm;have c2:w5.heap.size<=w3.heap.size+2:=Nat.le_of_eq C;clear C O y A u l L hd m P g B D z
 refine bDa (n:=4) d7 (gf:=56) (lb:=#[.pointer (A_ ⟨w3.heap.size+1,0,B_⟩)]) rfl (enters_of func56 k7 rfl) rfl (vk t) (xO w w.heap.size (w.heap.size+1) (w.heap.size+2) w3.heap.size (w5.heap.size+2))
  (λJ hJ hY R b7 h0=>aXm 3 d7 _ _ t o7 J hJ hY R h0 ((b7.cell (SN w5 _ V)).trans V))
  (λa W W' h hb=>h.below hb E)
  (λa W r r' h hl=>h.put hl o7 o7 o7 E)
  b5
  (λx=>{ tmps:=#[.string t,undef,.string ⟨#[]⟩,.pointer (A_ ⟨w.heap.size,0,B_⟩),.pointer (A_ ⟨w.heap.size+1,0,B_⟩),.pointer (A_ ⟨w3.heap.size,0,B_⟩),.string x,.string t,.int .i64 t.size,.bool E_,undef,undef,undef,.map (A_ (w.heap.size+2)),.string t,.func (.func 56) #[] #[.pointer (A_ ⟨w3.heap.size+1,0,B_⟩)],.string x,undef,undef,undef,undef,undef,undef],defers:=[] })
  ?assign ?body ?done
 case assign=>
  intro x W K hK
  gi_wp2
  exact hK
 case body=>
  rintro a x c3 W s F ⟨r,hr⟩ hk;obtain⟨x0,n,v,a6⟩:=s.is;have I:=aXn t;rw[F,Kw]at I;simp only[mX]at I;have b9:=Ro a;have a0:Hid (mX a+x.size+1<=4001/\a.length<=4001):=⟨o7,o7⟩;have hxs:x.size<=4000:=o7;have hn:n<=1900:=o7;have o:=ah s;have b1:=ah v;have Q:Hid (W.heap[w5.heap.size+1]? = A_ (.loop r)/\W.heap[w5.heap.size]? = A_ (.deferred (A_ []))):=⟨hr,hk⟩;have S:Hid _:=aP2 x (w5.heap.size+2) w.heap.size (w.heap.size+2) n x0 (nk a WJ) W v s.de s.rl hxs s.va o7 E hn;have G:=ah (aLm v hn x);have b3:=ah a6;have cD:=aj (j:=0) s.dv rfl;clear v s I F b9 a6 hr hk
  gi_wp2_with fail
  refine⟨trivial,?_⟩;refine(CallsIn.inRound _ (UY.2 S)).mono ?_;clear S;rintro e p ⟨rfl,b,x2,n2,a2,b8⟩
  have b4:Hid (∀c f,W.heap[w.heap.size]?≠A_ (.cells c 5 f)):=λc f e=>by
   rw[b1.out.box]at e;injection e with e;injection e with _ e _;exact absurd e d7
  have q:Hid (lX (w.heap.size+1) (w.heap.size+1) (Uu (ku a WJ)) p):=aMl o.bd o7 o7 b4 b;have Y:Hid (rG p (w.heap.size+1) (Uu (ku a WJ))):=aMo o.be o7 o7 b;have i:∀j,j<w5.heap.size+2->j≠w.heap.size->¬jd W (w5.heap.size+2) w.heap.size j:=λj h1 h2 e=>e.elim h2 (λe=>by have:=e.1;omega)
  have a9:Hid (mP p (w.heap.size+2) w.heap.size):=o.de.same (b.block _ o.de.lt (i _ o7 o7));have X:Hid _:=aH o.dv b (i _ o7 o7);have b6:Hid (bE p):=o.va.NA b o7 E (RV E o.bl.size);have U:Hid (bW w p):=o.bl.trans (b.below (λj hj=>hj.elim (λe=>by omega) (λe=>by have:=e.1;omega)) o.bl.size);have a1:Hid (p.heap[w5.heap.size+1]? = A_ (.loop r)/\p.heap[w5.heap.size]? = A_ (.deferred (A_ []))):=⟨(b.block _ (SK Q.out.1) (i _ o7 o7)).trans Q.out.1,(b.block _ (SK Q.out.2) (i _ o7 o7)).trans Q.out.2⟩;have Z:Hid (bA p (w5.heap.size+2) w.heap.size x2 (gF x (nk a WJ)).2 n2/\4*n2<=mX a+x.size+1):=⟨a2,by have:=b3.out;omega⟩;clear b a2 b8 i cD
  gi_wp2_with fail
  refine⟨trivial,?_⟩;refine(CallsIn.inRound _ (UY.2 (aQ6 (w.heap.size+1) (w.heap.size+1) _ _ p q ?hlen ?hbw))).mono ?_
  case hlen=>
   have h1:=o.out.ln;have h2:=G.out;have h3:=a0.out.2;rw[Lib.byteCells_length];show _+(pW (gF x (nk a WJ)).1).length<=_;have:30001*a.length<=30001*4001:=Nat.mul_le_mul_left _ h3;omega
  case hbw=>
   have:=SK a1.out.1;omega
  rintro e W3 ⟨rfl,m,a3,H⟩;rw[show Uu (ku a WJ)++Lib.strCells (aQ (pW (gF x (nk a WJ)).1))=Uu (ku a WJ++pW (gF x (nk a WJ)).1) from(List.map_append ..).symm]at m H;have b0:=ah (H Y);have T:Hid (lX (w.heap.size+1) (w.heap.size+1) (Uu (ku a WJ++pW (gF x (nk a WJ)).1)) W3):=RN m;have d:Hid _:=QJ Z.out.1 q Y o7 a9 o7 X b6 U a1 o7 o7 o7 a3 E o7;clear m a3 H
  gi_wp2_with fail
  refine⟨trivial,?_⟩;refine(CallsIn.inRound _ (UY.2 (aQ5 (w.heap.size+1) (w.heap.size+1) _ 10 W3 T ?hlen2 ?hbw2))).mono ?_
  case hlen2=>
   have h1:=o.out.ln;have h2:=G.out;have h3:=a0.out.2;rw[Lib.byteCells_length,Sl];have:30001*a.length<=30001*4001:=Nat.mul_le_mul_left _ h3;omega
  case hbw2=>
   have:=d.out.2.2.2.2.1.size;have:=SK d.out.2.2.2.2.2.1;omega
  rintro e W4 ⟨rfl,g,a4⟩;rw[aNl]at g;have a8:Hid _:=g;have k:Hid _:=QJ d.out.1 T b0 o7 d.out.2.1 o7 d.out.2.2.1 d.out.2.2.2.1 d.out.2.2.2.2.1 d.out.2.2.2.2.2 o7 o7 o7 a4 E o7;clear g a4
  gi_wp2_with fail
  have N:ku (a++[x]) WJ=ku a WJ++pW (gF x (nk a WJ)).1++[10]:=by
   rw[aH3];simp[ku]
  have a7:nk (a++[x]) WJ=(gF x (nk a WJ)).2:=by
   rw[aH2];rfl
  refine⟨⟨⟨x2,n2,?_,?_⟩,?_,?_,k.out.2.1,k.out.2.2.1,k.out.2.2.2.1,k.out.2.2.2.2.1,?_,?_⟩,?_,?_⟩
  ·rw[a7];exact k.out.1
  ·rw[Kw];simp only[mX];have:=Z.out.2;omega
  ·rw[N];exact RN a8.out
  ·rw[N];exact λe=>absurd e (by simp[Uu])
  ·rw[a7];exact aXl x _ o7 o.out.rl
  ·rw[N];have h1:=o.out.ln;have h2:=G.out;simp only[Sl,TG];omega
  ·rw[k.out.2.2.2.2.2.1,Q.out.1]
  ·rw[k.out.2.2.2.2.2.2,Q.out.2]
 case done=>
  intro W s hK
  gi_wp2_with fail
  refine⟨trivial,?_⟩;refine(UY.2 (Any.Builder_String_any_k (ρ:=KX) aRd aQ8 (w.heap.size+1) (w.heap.size+1) (ku (vk t) WJ) W s.bd (by have:=SK hK;omega))).mono ?_;rintro e p ⟨rfl,_,l,a5⟩;have b2:Hid (p.heap[w5.heap.size]? = A_ (.deferred (A_ []))):=a5 _ _ hK (λe=>by injection e with e;omega) (λc fz e=>by cases e);have q:Hid (bW w p):=s.bl.trans (l.mono o7);clear s hK l a5
  gi_wp2
  have c0:vC t.data.toList=ku (vk t) WJ:=by
   unfold vC;have h2:t.data.toList.length=t.size:=UH;rw[RD o7];rfl
  refine⟨by simp,.inl ⟨_,_,rfl,run_takeDeferred b2,?_⟩⟩;refine⟨_,results_tmp rfl _ _ _,?_⟩;rw[c0];exact⟨rfl,q.trans ((aGb w5.heap.size (.deferred B_) p).below (λj hj=>by omega) q.size)⟩
end
def own:ownKnob prog.godebug=B_:=k7
def et:prog.globalNamed "errors.errorType" = A_ 2:=k7
def bD8:String:=match (Rows.laid_errors_errorType:DataW Unit)with| .iface n _=>n|_=>default
def rt:(prog.cutTypes.find? (·.1 == bD8)).map (·.2)=A_ 284:=k7
def bA0:((Vj 365).filter λt=>prog.rowNamed t [101,114,114,111,114])=[24]:=k7
def size:prog.types.size=365:=k7
def Hg:List (String×DataW Unit):=[("errors.errorType",Rows.laid_errors_errorType)]
def aSx(h:laidMetH prog Hg W):jD W:=by
 have f:laidMet prog [] W/\handlesMet prog Hg W:=h;obtain⟨a,u,ty,e1,e2,d,e,b⟩:=f.2 _ (TT.2 rfl);have en:a=[101,114,114,111,114]:=(Option.some.inj e1).symm;subst en;obtain rfl:=Option.some.inj (rt.symm.trans e2);have c:ty∈(Vj 365).filter λt=>prog.rowNamed t [101,114,114,111,114]:=List.mem_filter.2 ⟨List.mem_range.2 (by rw[<-size];exact d),e⟩
 rw[bA0]at c;obtain rfl:=TT.1 c;have g:typeHandle prog 24=E (A_ ⟨7,24,B_⟩):=k7;rw[g]at b
 simpa[jD]using World.var?_cell et b 0
def bIs(w:C_):C_:={ w with heap:=w.heap.modify 2 fun
 |R _ t frozen=>R #[.iface 284 (.agg #[E (A_ ⟨7,24,B_⟩)])] t frozen
 |o=>o }
def aCy:prog.globalNamed "internal/strconv.uint64pow10" = A_ 1:=k7
def LM:prog.globalNamed "strconv.ErrRange" = A_ 4:=k7
def LP:prog.globalNamed "strconv.ErrSyntax" = A_ 3:=k7
def bG1:(prog.globals[1]?).map (·.type)=A_ 240:=k7
def bG2:(prog.globals[4]?).map (·.type)=A_ 24:=k7
def bG3:(prog.globals[3]?).map (·.type)=A_ 24:=k7
def bG4(h:w.var? prog "internal/strconv.uint64pow10" = A_ (Lib.pow10Tab.map λz=>Value.int .u64 z).toArray):lY w:=by
 unfold World.var? at h;rw[aCy]at h;simp only[Option.bind_some]at h;split at h
 ·rename_i cs t f e;cases h;exact⟨t,f,e⟩
 ·cases h
def aBp{a:String}{g:Nat}{t:RZ}{ms:Array (String×RZ)}{cs:Array D_}{d:DataW Unit}{l:String}{p:List MemPlace}(j:prog.globalNamed a=A_ g)(k:prog.underlying t=A_ (.interface ms))(hv:w.var? prog a=A_ cs)(i:DataW.trod (λ_=>()) prog w 0 (λ_=>G_) E_ b t cs.toList=A_ (.iface l d,p)):zh w g:=by
 obtain⟨_,u,v,e,_,_⟩:=iface_of_trod k i;have f:=World.var?_cell j hv 0
 have c:cs[0]? = A_ (.iface u v):=by
  have:cs.toList[0]? = A_ (.iface u v):=by rw[e];rfl
  simpa using this
 exact⟨_,f.trans c,RN ⟨u,v,rfl⟩⟩
def bB8:(Rows.laid_internal_strconv_uint64pow10:DataW Unit)=Lib.tabData .u64 Lib.pow10Tab:=by rfl
end Go.Proofs.YtpodibeogglplaaGreatDoor
