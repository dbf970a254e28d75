/- DeskAnswers -/
import Derived.Test.YtaelphbianmckaaGreatDoorSC
import Derived.StillTailTactics
import Derived.Shelf.Sort.Plain
import Derived.Shelf.Slices.In.SortNone2
open Go.Value renaming int->U, pointer->E, slice->J
open Go.IntKind renaming i64->G
open Go.Obj renaming cells->R
open Go.Ending renaming returned->Y
open Go.Proofs.Tryz
open Go.RowKit.Below renaming refl->aF
open Bool renaming eq_iff_iff->cR, or_eq_true->dR, and_eq_true->bE, false_eq_true->dI
open List renaming drop_eq_getElem_cons->bR, drop_eq_nil_of_le->cI
open Nat renaming lt_or_ge->eE, lt_of_lt_of_le->aT, zero_le->aO, le_trans->aI, mul_le_mul_right->eF
open Or renaming inl->aH, inr->aG
set_option maxHeartbeats 1000000
set_option maxRecDepth 4000
namespace Go.Proofs.YtaelphbianmckaaGreatDoor
variable {a now x:Int} {p:Int×Int} {rs:List (Int×Int)} {B k:Nat} {v:Value} {w:World}
section
open Go.RowKit
def hasB:List Int->Int->Bool
 | [],_=>false
 | z::r,x=>x == z || hasB r x
theorem mQ1 {a:List Int} (h:k<a.length) (b:(x == a[k])=false):hasB (a.drop (k+1)) x=hasB (a.drop k) x:=by
 rw [bR h];simp [hasB,b]
theorem tJ1 {a:List Int} (h:k<a.length) (b:(x == a[k])=true):hasB (a.drop k) x=true:=by
 rw [bR h];simp [hasB,b]
theorem tK1 {a:List Int} (h:¬k<a.length):hasB (a.drop k) x=false:=by
 rw [cI o7];rfl
def folL (p:Int):List Int:=if p=1 then [2] else if p=2 then [3] else if p=3 then [5,7] else if p=5 then [7] else []
def jJ0 (zs:List Int) (a0 a1 p1:Int):Int:=if hasB zs p1=true then (if a1<=a0 then 10 else if 1000000<a1 then 2 else 0) else 1
theorem qC0 {a:Addr} (h:w.cell? a=some v):a.block<w.heap.size:=by
 rcases eE a.block w.heap.size with b | b
 ·exact b
 ·simp [World.cell?,Array.getElem?_eq_none b] at h
theorem xB0 {b:Int} (h:a=b):Ending.returned (U G a)=Y (U G b):=by rw [h]
theorem tL1 {a b:Bool} (h:a=b):Ending.returned (.bool a)=Y (.bool b):=by rw [h]
def qD0 (w:World) (v:Value) (zs:List Int):Prop:=
 (zs=[]/\v=J none 0 0)\/∃b:Nat,v=J (some ⟨b,0,none⟩) zs.length zs.length/\zs.length<=1000/\(∀j,j<zs.length->w.cell? ⟨b,j,none⟩=some (U G (zs.getD j 0)))
theorem qD0.below {w w':World} {v:Value} {zs:List Int} {B:Nat} (h:qD0 w v zs) (i:Below B w w') (g:w.heap.size<=B):qD0 w' v zs:=by
 rcases h with h | ⟨b,e,f,c⟩
 ·exact aH h
 ·exact aG ⟨b,e,f,fun j d=>(i.cell (p:=⟨b,j,none⟩) (aT (qC0 (a:=⟨b,j,none⟩) (c j d)) g)).trans (c j d)⟩
theorem mR1 (x:Int) (b:Nat) (a:List Int) (w:World) (f:a.length<=1000)
  (l:∀j,j<a.length->w.cell? ⟨b,j,none⟩=some (U G (a.getD j 0))):
  Calls prog 261 #[J (some ⟨b,0,none⟩) a.length a.length,U G x] w fun e w'=>(∃r:Int,e=Y (U G r)/\decide (0<=r)=hasB a x)/\w'=w:=by
 go_enter func261,ntmps261;go_wp2;go_loop [5,8] (fun _ i=>∃k:Nat,k<=a.length/\i=U G k/\hasB (a.drop k) x=hasB a x) (fun _ i=>a.length - (intOf i).toNat)
 case atStart=>exact ⟨0,aO _,rfl,rfl⟩
 case round=>
  obtain ⟨k,hk,rfl,g⟩:=hrel;have c:=hid7 g;clear g;have d:k<a.length->w.cell? ⟨b,k,none⟩=some (U G (a.getD k 0)):=fun h=>l k h
  go_wp2
  ·go_ret;exact ⟨⟨_,rfl,by rw [<-c.out,tJ1 a7 a7];simp⟩,rfl⟩
  ·go_round
   case rel=>exact ⟨k+1,o7,by go_num,by rw [<-c.out];exact mQ1 a7 a7⟩
   case measure=>simp [intOf];omega
  ·go_ret;exact ⟨⟨_,rfl,by rw [<-c.out,tK1 a7];rfl⟩,rfl⟩
theorem mS1 (x:Int) (w:World):Calls prog 261 #[J none 0 0,U G x] w fun e w'=>(∃r:Int,e=Y (U G r)/\decide (0<=r)=hasB [] x)/\w'=w:=by
 go_enter func261,ntmps261;go_wp2_with fail;refine wp_loop_rounds 1 ?_;rw [rounds_succ];go_wp2;go_ret;exact ⟨⟨_,rfl,rfl⟩,rfl⟩
theorem mT1 (x:Int) (v:Value) (a:List Int) (w:World) (h:qD0 w v a):
  Calls prog 261 #[v,U G x] w fun e w'=>(∃r:Int,e=Y (U G r)/\decide (0<=r)=hasB a x)/\w'=w:=by
 rcases h with ⟨rfl,rfl⟩ | ⟨b,rfl,c,d⟩
 ·exact mS1 x w
 ·exact mR1 x b a w c d
theorem zO0 (x:Int) (v:Value) (a:List Int) (w:World) (h:qD0 w v a):
  Calls prog 230 #[v,U G x] w fun e w'=>e=Y (.bool (hasB a x))/\w'=w:=by
 have c:=hid7 h;clear h;go_enter func230,ntmps230;go_wp2_with fail;refine (mT1 x v a _ c.out).mono ?_;rintro e w1 ⟨⟨r,rfl,b⟩,f⟩;subst f;have d:=hid7 b;clear b;go_wp2;go_ret;exact ⟨tL1 d.out,rfl⟩
theorem mU1 (v:Value) (b:List Int) (c i d a:Int) (w:World) (h:qD0 w v b):
  Calls prog 163 #[v,.agg #[U G c,U G i],.agg #[U G d,U G a]] w fun e w'=>e=Y (U G (jJ0 b c d a))/\Below w.heap.size w w':=by
 have f:=hid7 h;clear h;go_enter func163,ntmps163;go_wp2_with fail;refine (zO0 a v b _ (f.out.below (B:=w.heap.size) (by go_grown) lR7)).mono ?_;rintro e w1 ⟨rfl,g⟩;subst g;cases hh:hasB b a with
 | false=>
  go_wp2;go_ret;exact ⟨xB0 (by unfold jJ0;rw [hh];rfl),by go_grown⟩
 | true=>
  go_wp2
  all_goals go_ret
  ·exact ⟨xB0 (by unfold jJ0;rw [aB hh,aB a7]),by go_grown⟩
  ·exact ⟨xB0 (by unfold jJ0;rw [aB hh,aA o7,aB a7]),by go_grown⟩
  ·exact ⟨xB0 (by unfold jJ0;rw [aB hh,aA o7,aA o7]),by go_grown⟩
theorem keyInt:Maps.Keyed prog 3:=Maps.int_keyed underlying3
theorem keyIs {a:Int} (h:(Lit.int .i64 a).wf=true):keyOf prog 3 (.int .i64 a)=some (.int .i64 a):=Maps.keyOf_int_mk underlying3 h
theorem zeroInts (w:World):(zeroValue 59).run prog w=.ok (J none 0 0) w:=k7
def folR (v:Value):Option (DataW Unit×List MemPlace):=
 match v with
 | J none 0 0=>some (.nil,[])
 | .slice (some ⟨b,0,none⟩) n c=>some (.agg [.lit (.int .i64 b),.lit (.int .i64 n),.lit (.int .i64 c)],[])
 | _=>none
def folE (b n:Nat):DataW Unit:=.agg [.lit (.int .i64 b),.lit (.int .i64 n),.lit (.int .i64 n)]
theorem tM1 (b n:Nat):folR (J (some ⟨b,0,none⟩) n n)=some (folE b n,[]):=rfl
theorem tN1 {a:List MemPlace} (h:folR v=some (.nil,a)):v=.slice none 0 0:=by
 unfold folR at h;split at h
 ·rfl
 ·simp at h
 ·simp at h
theorem qU0 {b n:Nat} {a:List MemPlace} (h:folR v=some (folE b n,a)):v=.slice (some ⟨b,0,none⟩) n n:=by
 unfold folR at h;split at h
 ·simp [folE] at h
 ·simp [folE] at h;simp;omega
 ·simp at h
def folD (b1 b2 b3 b4:Nat):DataW Unit:=((((DataW.map []).put (.int .i64 1) (folE b1 1)).put (.int .i64 2) (folE b2 1)).put (.int .i64 3) (folE b3 2)).put (.int .i64 5) (folE b4 1)
theorem zW1 (k l m n:Nat) (key:Int):(folD k l m n).atKey (.int .i64 key) .nil=if key=1 then folE k 1 else if key=2 then folE l 1 else if key=3 then folE m 2 else if key=5 then folE n 1 else .nil:=by
 have c:∀a b:Int,a≠b->(Lit.int .i64 a)≠Lit.int .i64 b:=fun a b h e=>h (by injection e)
 have d:∀a:Int,WideAt.IsKeyLit (Lit.int .i64 a):=fun a=>trivial
 unfold folD
 by_cases j:key=5
 ·subst j;exact (Maps.atKey_put_same ⟨_,rfl⟩ (d _) _ _).trans rfl
 rw [Maps.atKey_put_other (c _ _ j)]
 by_cases i:key=3
 ·subst i;exact (Maps.atKey_put_same ⟨_,rfl⟩ (d _) _ _).trans rfl
 rw [Maps.atKey_put_other (c _ _ i)]
 by_cases g:key=2
 ·subst g;exact (Maps.atKey_put_same ⟨_,rfl⟩ (d _) _ _).trans rfl
 rw [Maps.atKey_put_other (c _ _ g)]
 by_cases f:key=1
 ·subst f;exact (Maps.atKey_put_same ⟨_,rfl⟩ (d _) _ _).trans rfl
 rw [Maps.atKey_put_other (c _ _ f),aA f,aA g,aA i,aA j];rfl
def zP0 (w:World) (B:Nat):Prop:=
 ∃b1 b2 b3 b4:Nat,w.ownsMap prog 3 folR B 4 (folD b1 b2 b3 b4)/\w.cell? ⟨b1,0,none⟩=some (U G 2)/\w.cell? ⟨b2,0,none⟩=some (U G 3)/\w.cell? ⟨b3,0,none⟩=some (U G 5)/\w.cell? ⟨b3,1,none⟩=some (U G 7)/\w.cell? ⟨b4,0,none⟩=some (U G 7)
theorem zP0.below {w w':World} {B n:Nat} (h:zP0 w B) (e:Below n w w') (f:w.heap.size<=n):zP0 w' B:=by
 obtain ⟨k,l,m,o,g,q,r,s,t,u⟩:=h;have D:=g.lt;obtain ⟨C,d,x,y,z,A⟩:=g
 have c:∀(b j:Nat) (v:Value),w.cell? ⟨b,j,none⟩=some v->w'.cell? ⟨b,j,none⟩=some v:=fun b j v i=>
  (e.cell (p:=⟨b,j,none⟩) (aT (qC0 (a:=⟨b,j,none⟩) i) f)).trans i
 exact ⟨k,l,m,o,⟨C,d,(e.block B (aT D f)).trans x,y,z,A⟩,c _ _ _ q,c _ _ _ r,c _ _ _ s,c _ _ _ t,c _ _ _ u⟩
theorem zP0.look {w:World} {B:Nat} (h:zP0 w B) {key:Int} (hk:(Lit.int .i64 key).wf=true):
  ∃v,(Instr.lookup 217 (.map (some B)) (U G key) false).run prog w=.ok v w/\qD0 w v (folL key):=by
 obtain ⟨l,m,n,o,k,d,e,f,g,i⟩:=h;obtain ⟨v,p,c,a⟩:=k.lookup keyInt underlying217 (zeroInts w) (zd:=.nil) (zp:=[]) rfl (keyIs hk);refine ⟨v,c,?_⟩;rw [zW1] at a;unfold folL;split at a
 ·rename_i e1;rw [aB e1];refine aG ⟨_,qU0 a,d7,fun j b=>?_⟩;have:j=0:=by simp at b;omega
  subst this;exact d
 split at a
 ·rename_i e1 e2;rw [aA e1,aB e2];refine aG ⟨_,qU0 a,d7,fun j b=>?_⟩;have:j=0:=by simp at b;omega
  subst this;exact e
 split at a
 ·rename_i e1 e2 e3;rw [aA e1,aA e2,aB e3];refine aG ⟨_,qU0 a,d7,fun j b=>?_⟩;have:j=0\/j=1:=by simp at b;omega
  rcases this with rfl | rfl
  ·exact f
  ·exact g
 split at a
 ·rename_i e1 e2 e3 e4;rw [aA e1,aA e2,aA e3,aB e4];refine aG ⟨_,qU0 a,d7,fun j b=>?_⟩;have:j=0:=by simp at b;omega
  subst this;exact i
 ·rename_i e1 e2 e3 e4;rw [aA e1,aA e2,aA e3,aA e4];exact aH ⟨rfl,tN1 a⟩
theorem xC0 {n:Nat} {D:DataW Unit} (b:w.ownsMap prog 3 folR B n D) (c:n<100) (key:Int) (hk:(Lit.int .i64 key).wf=true) (o:Obj) (a:Nat):
  ∃w',(Instr.mapUpdate 217 (.map (some B)) (U G key) (J (some ⟨w.heap.size,0,none⟩) a a)).run prog (w.alloc o)=.ok () w'
   /\w'.ownsMap prog 3 folR B (n+1) (D.put (.int .i64 key) (folE w.heap.size a))/\(w.alloc o).grownBy w' (some B):=
 (b.alloc o).update keyInt underlying217 (by unfold maxLen;omega) (keyIs hk) (tM1 _ _)
theorem nP0 {w1:World} {vs:Array Value} {t:TypeId} (c:(w.alloc (R vs t)).grownBy w1 (some B)) (f:B<w.heap.size) {j:Nat} (d:vs[j]? = some v):w1.cell? ⟨w.heap.size,j,none⟩=some v:=by
 have b:=c.block w.heap.size s7 (by intro e;injection e with e;omega);exact (World.cell?_of_block (w:=w.alloc (R vs t)) (a:=⟨w.heap.size,j,none⟩) b).trans ((World.cell?_alloc_at _ _ _ _ rfl).trans d)
theorem kN0 {w1:World} {o:Obj} (g:(w.alloc o).grownBy w1 (some B)) {b j:Nat} (i:b≠B) (d:w.cell? ⟨b,j,none⟩=some v):w1.cell? ⟨b,j,none⟩=some v:=by
 have c:=qC0 (a:=⟨b,j,none⟩) d;have f:=g.block b (by simp;simp at c;omega) (by intro e;injection e with e;omega);exact (World.cell?_of_block (w:=w.alloc o) (a:=⟨b,j,none⟩) f).trans ((World.cell?_alloc_lt _ _ _ c).trans d)
theorem xD0 (w:World):Calls prog 162 #[] w fun e w'=>e=.returned (.map (some w.heap.size))/\zP0 w' w.heap.size/\Below w.heap.size w w':=by
 have J:=@run_makeMap prog;have y:=World.ownsMap_made w prog 3 folR;have r:(w.alloc (.map #[] 0)).heap.size=w.heap.size+1:=by simp
 obtain ⟨w1,K,n,l⟩:=xC0 y o7 1 d7 (R #[U G 2] 3) 1;obtain ⟨O,L,p,i⟩:=xC0 n o7 2 d7 (R #[U G 3] 3) 1;obtain ⟨P,M,q,d⟩:=xC0 p o7 3 d7 (R #[U G 5,U G 7] 3) 2;obtain ⟨C,N,B,f⟩:=xC0 q o7 5 d7 (R #[U G 7] 3) 1;have z:=n.lt;have m:=p.lt;have A:=q.lt;have D:=l.size;have E:=i.size;have F:=d.size;simp only [World.size_alloc] at D E F;have s:=nP0 (j:=0) l (by rw [r];omega) rfl;have t:=nP0 (j:=0) i z rfl;have u:=nP0 (j:=0) d m rfl;have v:=nP0 (j:=1) d m rfl;have x:=nP0 (j:=0) f A rfl;have I:Hid (zP0 C w.heap.size):=⟨_,_,_,_,B,kN0 f o7 (kN0 d o7 (kN0 i o7 s)),kN0 f o7 (kN0 d o7 t),kN0 f o7 u,kN0 f o7 v,x⟩
 have c:∀{a b:World} {o:Obj},(a.alloc o).grownBy b (some w.heap.size)->w.heap.size<=a.heap.size->Below w.heap.size a b:=fun {a b o} g hs=>
  ((aF _ a).alloc hs o).grown g (by simp;omega) (fun k hk=>by injection hk with e;omega)
 have H:Hid (Below w.heap.size w C):=(((((aF _ w).alloc lR7 _).trans (c l s7)).trans (c i o7)).trans (c d o7)).trans (c f o7);rw [r] at K;clear n p q B l i d f z m A D E F s t u v x c y r;go_enter func162,ntmps162;go_wp2;go_ret;exact ⟨rfl,I.out,H.out⟩
def flat:List (Int×Int)->List Value
 | []=>[]
 | r::rs=>U G r.1::U G r.2::flat rs
def bZ0 (rs:List (Int×Int)) (k:Nat):Int×Int:=rs.getD k (0,0)
theorem dP1 (rs:List (Int×Int)):(flat rs).length=rs.length*2:=by
 induction rs with
 | nil=>rfl
 | cons r rs ih=>simp [flat,ih];omega
theorem mV1 (rs:List (Int×Int)) (k:Nat) (h:k<rs.length):(flat rs)[k*2]? = some (U G (bZ0 rs k).1)/\(flat rs)[k*2+1]? = some (U G (bZ0 rs k).2):=by
 induction rs generalizing k with
 | nil=>simp at h
 | cons r rs ih=>
  cases k with
  | zero=>exact ⟨rfl,rfl⟩
  | succ k=>
   have:=ih k (by simpa using h);rw [show (k+1)*2=k*2+1+1 by omega]
   simpa [flat,bZ0] using this
theorem tO1 (rs:List (Int×Int)):∀u∈flat rs,u.oneCell'=true:=by
 induction rs with
 | nil=>simp [flat]
 | cons r rs ih=>
  intro u a;simp only [flat,List.mem_cons] at a;rcases a with rfl | rfl | a
  ·rfl
  ·rfl
  ·exact ih u a
def cV0 (w:World) (b off:Nat) (rs:List (Int×Int)):Prop:=∀j u,(flat rs)[j]? = some u->w.cell? ⟨b,off+j,none⟩=some u
theorem cV0.below {w w':World} {b c n:Nat} {rs:List (Int×Int)} (h:cV0 w b c rs) (e:Below n w w') (f:w.heap.size<=n):cV0 w' b c rs:=fun j u d=>
 (e.cell (p:=⟨b,c+j,none⟩) (aT (qC0 (a:=⟨b,c+j,none⟩) (h j u d)) f)).trans (h j u d)
theorem cV0.row {w:World} {b a:Nat} {rs:List (Int×Int)} (h:cV0 w b a rs) {k:Nat} (hk:k<rs.length):
  w.cell? ⟨b,a+k*2,none⟩=some (U G (bZ0 rs k).1)/\w.cell? ⟨b,a+k*2+1,none⟩=some (U G (bZ0 rs k).2):=
 ⟨h _ _ (mV1 rs k hk).1,by have:=h _ _ (mV1 rs k hk).2;rwa [<-Nat.add_assoc] at this⟩
def rowE (p r:Int×Int):Int:=jJ0 (folL p.2) p.1 r.1 r.2
def gR0:Int×Int->Nat->List (Int×Int)->Int×Int
 | _,_,[]=>(0,-1)
 | p,i,r::rs=>if rowE p r=0 then gR0 r (i+1) rs else (rowE p r,(i:Int))
def tabE:List (Int×Int)->Int×Int
 | []=>(8,-1)
 | r::rs=>if 20<(r::rs).length then (4,-1) else if r=(0,1) then gR0 r 1 rs else (1,0)
def pD0 (w:World) (b:Nat) (rs:List (Int×Int)):Prop:=∃cb c:Nat,w.cell? ⟨b,0,none⟩=some (J (some ⟨cb,0,none⟩) rs.length c)/\cV0 w cb 0 rs
theorem pD0.below {w w':World} {b n:Nat} {rs:List (Int×Int)} (h:pD0 w b rs) (e:Below n w w') (f:w.heap.size<=n):pD0 w' b rs:=by
 obtain ⟨g,c,d,i⟩:=h;exact ⟨g,c,(e.cell (p:=⟨b,0,none⟩) (aT (qC0 (a:=⟨b,0,none⟩) d) f)).trans d,i.below e f⟩
def hG2 (w:World) (rs:List (Int×Int)) (t err:Value):Prop:=
 (tabE rs=(0,-1)/\err=.nilIface/\∃b:Nat,t=E (some ⟨b,0,none⟩)/\pD0 w b rs)
 \/(¬(tabE rs).1=0/\t=E none/\(((tabE rs).2=-1/\err=.iface 26 (U G (tabE rs).1))
   \/∃b:Nat,err=.iface 215 (E (some ⟨b,0,none⟩))/\w.cell? ⟨b,0,none⟩=some (U G (tabE rs).1)/\w.cell? ⟨b,1,none⟩=some (U G (tabE rs).2)))
theorem sliceNot (a:Addr) (n c:Nat) (w:World):(binOp .eql 27 (J (some a) n c) (J none 0 0)).run prog w=.ok (.bool false) w:=k7
theorem infoRow:(prog.info? 113).map (fun i=>(i.zero,i.size,i.bytes))=some (some (.agg #[U G 0,U G 0]),2,16):=k7
theorem mW1 (b a d:Nat) (rs:List (Int×Int)) (w:World) (h:cV0 w b a rs) (F:0<rs.length) (r:rs.length<=60):
  Calls prog 164 #[J (some ⟨b,a,none⟩) rs.length d] w
   fun e w'=>∃cb c:Nat,e=Y (J (some ⟨cb,0,none⟩) rs.length c)/\cV0 w' cb 0 rs/\Below w.heap.size w w':=by
 have L:=sliceNot ⟨b,a,none⟩ rs.length d;obtain ⟨H,hi,o,p,q⟩:=info_parts infoRow;have l:Below w.heap.size w (w.alloc (R #[] 113)):=(aF _ _).alloc lR7 _
 have t:Hid (∀j u,(flat rs)[j]? = some u->(w.alloc (R #[] 113)).cell? ((⟨b,a,none⟩:Addr).add j)=some u):=fun j u f=>by
  rw [Addr.add_lit];exact (h.below l lR7) j u f
 have v:Hid ((w.alloc (R #[] 113)).ownsRow w.heap.size 113 2 (J (some ⟨w.heap.size,0,none⟩) 0 0) 0 []):=
  ⟨rfl,aG ⟨w.heap.size,0,#[],rfl,lR7,(MapKept.heap_alloc w _).1,lR7,aO _,rfl,rfl⟩⟩
 clear h l;go_enter func164,ntmps164;go_wp2_with (at_builtin;go_loud (refine wpList_append_own _ rfl _ _ 27 rfl w.heap.size 113 H (.agg #[U G 0,U G 0]) 2 16 underlying27 hi o p q rfl d7 _ 0 [] rfl v.out ⟨b,a,none⟩ rs.length d (flat rs) rfl (dP1 rs) t.out (tO1 rs) (by unfold maxLen;omega) o7 s7 ?_);intro v1 w1 n C s);go_ret;obtain ⟨K,⟨rfl,I⟩ | ⟨g,c,i,rfl,z,D,E,A,B,m⟩⟩:=n
 ·omega
 ·refine ⟨g,c,by simp,fun j u f=>?_,((aF _ w).alloc lR7 _).grown C s7 (fun k hk=>by cases hk;exact lR7)⟩;rw [List.nil_append] at m
  have x:i.toList[j]? = some u:=by
   rw [<-m,List.getElem?_take] at f;split at f
   ·exact f
   ·cases f
  have y:i[j]? = some u:=by rw [<-x];simp
  simp [World.cell?,D,y]
theorem dQ1 {P:Program} {id:Nat} {Q:Exit->Act->World->Prop} {a:Act} {l:List Oper} (n:Nat) (d:P.follows .mixedOrders=true) (c:Region.lexTailB .any l.toArray n=true)
  (h:wpStill P l.toArray w.drew (fun b=>wpList P l.toArray Q (l.drop n) b w.drew) (l.take n) a):(Code.region id l.toArray true).wp P Q a w:=wp_region_still_tail n d c h
theorem mX1 (a:Option Addr) (b:Nat) (w:World):Calls prog 112 #[J a 0 b] w fun e w'=>e=Y (.tuple #[E none,.iface 26 (U G 8)])/\w'=w:=by
 go_enter func112,ntmps112;go_wp2;go_ret2;exact ⟨rfl,rfl⟩
def zQ0 (rs:List (Int×Int)):Prop:=∀k,k<rs.length->(Lit.int .i64 (bZ0 rs k).1).wf=true/\(Lit.int .i64 (bZ0 rs k).2).wf=true
theorem zR0 (h:k<rs.length) (a:rowE p (bZ0 rs k)=0):gR0 p k (rs.drop k)=gR0 (bZ0 rs k) (k+1) (rs.drop (k+1)):=by
 rw [bR h];have:rs[k]=bZ0 rs k:=by simp [bZ0,h]
 rw [this];simp [gR0,a]
theorem zS0 (h:k<rs.length) (a:¬rowE p (bZ0 rs k)=0):gR0 p k (rs.drop k)=(rowE p (bZ0 rs k),(k:Int)):=by
 rw [bR h];have:rs[k]=bZ0 rs k:=by simp [bZ0,h]
 rw [this];simp [gR0,a]
theorem gC1 (h:rs.length<=k):gR0 p k (rs.drop k)=(0,-1):=by
 rw [cI h];rfl
theorem lY0 (r:Int×Int) (rs:List (Int×Int)):tabE (r::rs)=if 20<(r::rs).length then (4,-1) else if r=(0,1) then gR0 r 1 rs else (1,0):=rfl
theorem hC0 (h:20<rs.length):tabE rs=(4,-1):=by
 cases rs with
 | nil=>simp at h
 | cons r rs=>rw [lY0,aB h]
theorem sS0 (a:0<rs.length) (h:rs.length<=20) (b:¬bZ0 rs 0=(0,1)):tabE rs=(1,0):=by
 cases rs with
 | nil=>simp at a
 | cons r rs=>rw [lY0,aA o7,aA (by exact b)]
theorem gD1 (a:0<rs.length) (h:rs.length<=20) (b:bZ0 rs 0=(0,1)):tabE rs=gR0 (bZ0 rs 0) 1 (rs.drop 1):=by
 cases rs with
 | nil=>simp at a
 | cons r rs=>rw [lY0,aA o7,aB (by exact b)];rfl
theorem mY1 (h:(a != 0)=true):¬a=0:=by simpa using h
theorem eG2 (h:(a != 0)=false):a=0:=by simpa using h
theorem mZ1 (v:Value) (p r:Int×Int) (w:World) (h:qD0 w v (folL p.2)):
  Calls prog 163 #[v,.agg #[U G p.1,U G p.2],.agg #[U G r.1,U G r.2]] w fun e w'=>e=Y (U G (rowE p r))/\Below w.heap.size w w':=mU1 v _ _ _ _ _ w h
theorem nA1 (b l n:Nat) (rs:List (Int×Int)) (w:World) (h:cV0 w b l rs) (u:zQ0 rs) (f:0<rs.length) (r:rs.length<=60):
  Calls prog 112 #[J (some ⟨b,l,none⟩) rs.length n] w fun e w'=>∃t err,e=Y (.tuple #[t,err])/\hG2 w' rs t err/\Below w.heap.size w w':=by
 have A:=hid7 h;have N:=hid7 u;obtain ⟨p,q⟩:=h.row f;simp only [Nat.zero_mul,Nat.add_zero] at p q;clear h u;go_enter func112,ntmps112;go_wp2_with fail
 ·go_ret2;exact ⟨_,_,rfl,aG ⟨by rw [hC0 o7];decide,rfl,aH (by rw [hC0 o7];exact ⟨rfl,rfl⟩)⟩,aF _ _⟩
 ·refine (xD0 _).mono ?_;rintro e w1 ⟨rfl,D,o⟩;have L:Hid (tabE rs=gR0 (bZ0 rs 0) 1 (rs.drop 1)):=gD1 f o7 (by apply Prod.ext <;> assumption);have x:=hid7 D;have g:=hid7 o;clear D o p q;go_wp2_with fail;go_loopw [5,6] (fun i _ wr=>∃m:Nat,m<rs.length/\i=U G ((m+1:Nat):Int)/\zP0 wr w.heap.size/\Below w.heap.size w wr/\gR0 (bZ0 rs m) (m+1) (rs.drop (m+1))=tabE rs) (fun i _ _=>rs.length - (intOf i).toNat)
  case atStart=>exact ⟨0,f,rfl,x.out,g.out,L.out.symm⟩
  case round=>
   obtain ⟨m,F,rfl,E,C,H⟩:=hrel;have x:=hid7 E;have g:=hid7 C;have z:=hid7 H;obtain ⟨O,P⟩:=(A.out.below C lR7).row F;clear E C H;go_wp2_with fail
   ·have k:m+1<rs.length:=o7;obtain ⟨R,S⟩:=(A.out.below g.out lR7).row k;obtain ⟨v,s,K⟩:=(x.out.below (aF wr.heap.size wr).drew lR7).look (N.out m F).2;have M:=hid7 K;clear K;have T:IntKind.i64.wrap (m:Int)=m:=IntWalk.i64_in _ o7;have V:(m:Int)<rs.length:=o7;have W:(m:Int)+1<rs.length:=o7;have X:(0:Int)<=(m:Int)+1:=o7;have Z:((m:Int)+1).toNat=m+1:=o7;refine dQ1 17 k7 k7 ?_;simp only [List.take_succ_cons,List.take_zero,List.drop_succ_cons,List.drop_zero]
    repeat still_step
    try refine wpStill_nil ?_
    clear s T V W X Z O P R S;go_wp2_with fail;refine (mZ1 v (bZ0 rs m) (bZ0 rs (m+1)) _ M.out).mono ?_;rintro e y ⟨rfl,j⟩;have a:Hid (Below wr.heap.size wr y):=(aF _ wr).drew.trans j;clear j;go_wp2_with fail
    ·go_ret2;have d:tabE rs=(rowE (bZ0 rs m) (bZ0 rs (m+1)),((m+1:Nat):Int)):=z.out.symm.trans (zS0 k (mY1 a7))
     exact ⟨_,_,rfl,aG ⟨by rw [d];exact mY1 a7,rfl,aG ⟨y.heap.size,rfl,by rw [d];exact World.cell?_alloc_at _ _ _ _ rfl,by rw [d];exact World.cell?_alloc_at _ _ _ _ rfl⟩⟩,
      (g.out.trans (a.out.mono g.out.size)).alloc (aI g.out.size a.out.size) _⟩
    ·go_roundw
     case rel=>exact ⟨m+1,k,by go_num,x.out.below a.out lR7,g.out.trans (a.out.mono g.out.size),(zR0 k (eG2 a7)).symm.trans z.out⟩
     case measure=>simp [intOf];omega
   ·refine (mW1 b l n rs _ (A.out.below g.out lR7) f r).mono ?_;rintro e y ⟨Q,c,rfl,I,j⟩;have d:Hid (tabE rs=(0,-1)):=z.out.symm.trans (gC1 o7);have B:=hid7 I;have a:=hid7 j;clear j I;go_wp2;go_ret2
    exact ⟨_,_,rfl,aH ⟨d.out,rfl,y.heap.size,rfl,Q,c,World.cell?_alloc_at _ _ _ _ rfl,B.out.below ((aF _ _).alloc lR7 _) lR7⟩,
     (g.out.trans (a.out.mono g.out.size)).alloc (aI g.out.size a.out.size) _⟩
 ·go_ret2;have d:tabE rs=(1,0):=sS0 f o7 (fun e=>absurd (congrArg Prod.snd e) a7);exact ⟨_,_,rfl,aG ⟨by rw [d];decide,rfl,aG ⟨w.heap.size,rfl,by rw [d];exact World.cell?_alloc_at _ _ _ _ rfl,by rw [d];exact World.cell?_alloc_at _ _ _ _ rfl⟩⟩,(aF _ _).alloc lR7 _⟩
 ·go_ret2;have d:tabE rs=(1,0):=sS0 f o7 (fun e=>absurd (congrArg Prod.fst e) a7);exact ⟨_,_,rfl,aG ⟨by rw [d];decide,rfl,aG ⟨w.heap.size,rfl,by rw [d];exact World.cell?_alloc_at _ _ _ _ rfl,by rw [d];exact World.cell?_alloc_at _ _ _ _ rfl⟩⟩,(aF _ _).alloc lR7 _⟩
def bF0 (cur now:Int):List (Int×Int)->Int×Int
 | []=>(cur,-1)
 | r::rs=>if now<r.1 then (cur,r.1) else bF0 r.2 now rs
def phaseV (rs:List (Int×Int)) (now:Int):Int×Int:=bF0 (bZ0 rs 0).2 now (rs.drop 1)
theorem vF0 {p:Int} (h:k<rs.length) (a:(bZ0 rs k).1<=now):bF0 p now (rs.drop k)=bF0 (bZ0 rs k).2 now (rs.drop (k+1)):=by
 rw [bR h];have:rs[k]=bZ0 rs k:=by simp [bZ0,h]
 rw [this];simp [bF0];omega
theorem vG0 {p:Int} (h:k<rs.length) (a:now<(bZ0 rs k).1):bF0 p now (rs.drop k)=(p,(bZ0 rs k).1):=by
 rw [bR h];have:rs[k]=bZ0 rs k:=by simp [bZ0,h]
 rw [this];simp [bF0];omega
theorem zT0 {p:Int} (h:rs.length<=k):bF0 p now (rs.drop k)=(p,-1):=by
 rw [cI h];rfl
theorem nQ0 {v:Int×Int} {b:Int} (h:v=(a,b)):Ending.returned (.tuple #[U G a,U G b])=Y (.tuple #[U G v.1,U G v.2]):=by rw [h]
theorem nB1 (o:Nat) (now:Int) (rs:List (Int×Int)) (w:World) (h:pD0 w o rs) (g:0<rs.length) (m:rs.length<=60):
  Calls prog 174 #[E (some ⟨o,0,none⟩),U G now] w
   fun e w'=>e=Y (.tuple #[U G (phaseV rs now).1,U G (phaseV rs now).2])/\Below w.heap.size w w':=by
 obtain ⟨l,c,u,n⟩:=h;have j:=hid7 n;clear n;go_enter func174,ntmps174;go_wp2_with fail;go_loopw [4,13] (fun p i wr=>∃(k:Nat) (q:Int),k<=rs.length/\i=U G k/\p=U G q/\Below w.heap.size w wr/\(k=0\/(0<k/\bF0 q now (rs.drop k)=phaseV rs now))) (fun _ i _=>rs.length - (intOf i).toNat)
 case atStart=>exact ⟨0,0,aO _,rfl,rfl,aF _ _,aH rfl⟩
 case round=>
  obtain ⟨k,q,hk,rfl,rfl,b,d⟩:=hrel;have a:=hid7 b;have r:k<rs.length->wr.cell? ⟨l,k*2,none⟩=some (U G (bZ0 rs k).1):=fun hk=>by simpa using ((j.out.below b lR7).row hk).1
  have s:k<rs.length->wr.cell? ⟨l,k*2+1,none⟩=some (U G (bZ0 rs k).2):=fun hk=>by simpa using ((j.out.below b lR7).row hk).2
  clear b;rcases d with rfl | ⟨t,d⟩
  ·go_wp2_with fail;go_roundw
   case rel=>exact ⟨1,(bZ0 rs 0).2,g,rfl,rfl,a.out.alloc a.out.size _,aG ⟨Nat.one_pos,rfl⟩⟩
   case measure=>simp [intOf];omega
  ·have f:=hid7 d;clear d;go_wp2_with fail
   ·go_quiet (fail);go_wp2;go_ret2;exact ⟨nQ0 (f.out.symm.trans (vG0 a7 a7)),below_drewN (a.out.alloc a.out.size _) _⟩
   ·go_roundw
    case rel=>exact ⟨k+1,(bZ0 rs k).2,o7,by go_num,rfl,a.out.alloc a.out.size _,aG ⟨Nat.succ_pos _,(vF0 a7 a7).symm.trans f.out⟩⟩
    case measure=>simp [intOf];omega
   ·go_ret2;exact ⟨nQ0 (f.out.symm.trans (zT0 o7)),a.out⟩
structure Blk (key:Nat->Int) (u:Nat->Nat) (bs n:Nat) (p:Nat->Prop):Prop where
 tag:∀k x,p k->k*bs<=x->x<k*bs+bs->x<n->k*bs<=u x/\u x<k*bs+bs/\u x<n
 srt:∀k x y,p k->k*bs<=x->x<y->y<k*bs+bs->y<n->Rk key (u x) (u y)
section
variable {key:Nat->Int} {u u':Nat->Nat} {bs n q:Nat} {p:Nat->Prop}
theorem lZ0 (k B:Nat):(k+1)*B=k*B+B:=Nat.succ_mul k B
theorem zU0 {q:Nat} (B:Nat) (h:k<q):k*B+B<=q*B:=by rw [<-lZ0];exact eF B h
theorem gB0 (q bs:Nat):(2*q)*bs=q*(2*bs):=by rw [Nat.mul_comm 2 q,Nat.mul_assoc]
theorem mO0 (q bs:Nat):(2*q+1)*bs=q*(2*bs)+bs:=by rw [lZ0,gB0]
theorem Blk.all (h:Blk key u bs n (fun k=>k<q)) (g:n<=q*bs):Blk key u bs n (fun _=>True):=by
 have b:∀k x,k*bs<=x->x<n->k<q:=fun k x hk i=>by
  rcases eE k q with d | d
  ·exact d
  ·have:=eF bs d;omega
 exact ⟨fun k x _ a e c=>h.tag k x (b k x a c) a e c,fun k x y _ a e c f=>h.srt k x y (b k x a o7) a e c f⟩
theorem Blk.one (h:Blk key u bs n (fun _=>True)) (c:n<=bs):Srt key u 0 n:=fun x y _ a b=>h.srt 0 x y trivial o7 a o7 b
theorem Blk.ins {b:Nat} (h:Blk key u 20 n (fun k=>k<q)) (c:∀x,q*20<=x->u x=x) (r:b=q*20+20\/(b=n/\n<=q*20+20)) (l:q*20<=b) (j:b<=n) (d:Rea (q*20) b u u') (m:Srt key u' (q*20) b):
  Blk key u' 20 n (fun k=>k<q+1)/\∀x,b<=x->u' x=x:=by
 refine ⟨⟨fun k x hk a f g=>?_,fun k x y hk a f g i=>?_⟩,fun x o=>by rw [d.out (aG o)];exact c x o7⟩
 ·by_cases e:k=q
  ·subst e;obtain ⟨y,p,s,e⟩:=d.mem (x:=x) a o7;rw [e,c y p];omega
  ·rw [d.out (x:=x) (aH o7)];exact h.tag k x o7 a f g
 ·by_cases e:k=q
  ·subst e;exact m x y a f o7
  ·rw [d.out (x:=x) (aH o7),d.out (x:=y) (aH o7)];exact h.srt k x y o7 a f g i
theorem Blk.ready {a b:Nat} (h:Blk key u bs n (fun k=>2*q<=k)) (j:a=q*(2*bs)) (r:b<=a+2*bs) (l:b<=n):Srt key u a (min (a+bs) b)/\Srt key u (a+bs) b/\Apt u a (a+bs) b:=by
 have d:(2*q)*bs=a:=by rw [gB0,j]
 have e:(2*q+1)*bs=a+bs:=by rw [mO0,j]
 refine ⟨fun x y f c i=>h.srt (2*q) x y lR7 (by rw [d];exact f) c (by rw [d];omega) o7,fun x y f c i=>h.srt (2*q+1) x y (by show 2*q<=2*q+1;omega) (by rw [e];exact f) c (by rw [e];omega) o7,fun x y f g i m=>?_⟩;have o:=h.tag (2*q) x lR7 (by rw [d];exact f) (by rw [d];exact g) o7;have p:=h.tag (2*q+1) y (by show 2*q<=2*q+1;omega) (by rw [e];exact i) (by rw [e];omega) o7;rw [d] at o;rw [e] at p;omega
theorem Blk.merge {a b:Nat} (r:Blk key u (2*bs) n (fun k=>k<q)) (h:Blk key u bs n (fun k=>2*q<=k)) (j:a=q*(2*bs)) (A:b=a+2*bs\/(b=n/\n<=a+2*bs)) (t:b<=n) (i:Rea a b u u') (v:Srt key u' a b):
  Blk key u' (2*bs) n (fun k=>k<q+1)/\Blk key u' bs n (fun k=>2*(q+1)<=k):=by
 have m:(2*q)*bs=a:=by rw [gB0,j]
 have o:(2*q+1)*bs=a+bs:=by rw [mO0,j]
 have s:(2*(q+1))*bs=a+2*bs:=by rw [gB0,lZ0,j]
 have l:∀k,k<q->k*(2*bs)+2*bs<=a:=fun k hk=>by rw [j];exact zU0 _ hk
 have g:∀k,2*(q+1)<=k->a+2*bs<=k*bs:=fun k hk=>by rw [<-s];exact eF bs hk
 refine ⟨⟨fun k x hk c d f=>?_,fun k x y hk c d f p=>?_⟩,⟨fun k x hk c d f=>?_,fun k x y hk c d f p=>?_⟩⟩
 ·by_cases e:k=q
  ·subst e;rw [<-j] at c d ⊢;obtain ⟨y,z,B,e⟩:=i.mem (x:=x) c o7;rw [e]
   by_cases w:y<a+bs
   ·have:=h.tag (2*k) y lR7 (by rw [m];exact z) (by rw [m];exact w) o7;rw [m] at this;omega
   ·have:=h.tag (2*k+1) y (by show 2*k<=2*k+1;omega) (by rw [o];omega) (by rw [o];omega) o7;rw [o] at this;omega
  ·have:=l k o7;rw [i.out (x:=x) (aH o7)];exact r.tag k x o7 c d f
 ·by_cases e:k=q
  ·subst e;rw [<-j] at c f;exact v x y c d o7
  ·have:=l k o7;rw [i.out (x:=x) (aH o7),i.out (x:=y) (aH o7)];exact r.srt k x y o7 c d f p
 ·have:=g k hk;rw [i.out (x:=x) (aG o7)];exact h.tag k x (by show 2*q<=k;omega) c d f
 ·have:=g k hk;rw [i.out (x:=x) (aG o7),i.out (x:=y) (aG o7)];exact h.srt k x y (by show 2*q<=k;omega) c d f p
theorem Blk.rest {a:Nat} (j:Blk key u (2*bs) n (fun k=>k<q)) (h:Blk key u bs n (fun k=>2*q<=k)) (g:a=q*(2*bs)) (l:n<=a+bs):Blk key u (2*bs) n (fun k=>k<q+1):=by
 have c:(2*q)*bs=a:=by rw [gB0,g]
 refine ⟨fun k x hk b d f=>?_,fun k x y hk b d f i=>?_⟩
 ·by_cases e:k=q
  ·subst e;rw [<-g] at b d ⊢;have:=h.tag (2*k) x lR7 (by rw [c];exact b) (by rw [c];omega) f;rw [c] at this;omega
  ·exact j.tag k x o7 b d f
 ·by_cases e:k=q
  ·subst e;rw [<-g] at b f;exact h.srt (2*k) x y lR7 (by rw [c];exact b) d (by rw [c];omega) i
  ·exact j.srt k x y o7 b d f i
theorem Blk.none (key:Nat->Int) (u:Nat->Nat) (bs n:Nat):Blk key u bs n (fun k=>k<0):=⟨fun _ _ h=>absurd h o7,fun _ _ _ h=>absurd h o7⟩
theorem Blk.from (h:Blk key u bs n (fun _=>True)):Blk key u bs n (fun k=>2*0<=k):=⟨fun k x _=>h.tag k x trivial,fun k x y _=>h.srt k x y trivial⟩
end
end
section
open Go.Shelf
def lays189_ren:Go.Shelf.Ren:=⟨fun | 189=>259 | 125=>284 | 257=>283 | 128=>304 | 129=>207 | 294=>295 | 295=>296 | 296=>297 | 297=>298 | 298=>299 | 299=>300 | 216=>301 | 300=>302 | 301=>303 | 328=>306 | 329=>307 | 330=>308 | 331=>309 | 332=>310 | 215=>311 | 343=>313 | n=>n,fun | 28=>59 | 0=>0 | 3=>3 | 46=>188 | 51=>203 | 53=>185 | 4=>4 | 183=>367 | 182=>366 | 131=>58 | 5=>5 | 9=>9 | 218=>372 | 222=>376 | 228=>379 | 229=>123 | n=>n,fun | n=>n⟩
theorem nC1:Go.Proofs.Lays.n189 prog lays189_ren:=g7
end
section
open Go.RowKit
set_option linter.unusedSimpArgs false
def hD0 (p:Int):Bool:=p == 2 || p == 4 || p == 5
def iA0 (p:Int):Bool:=p == 1 || p == 2 || p == 4 || p == 5
def eV0 (p k:Int):Bool:=(k == 1&& (iA0 p || p == 3)) || (k == 4&& (iA0 p || p == 3)) || (k == 2&& (p == 3 || hD0 p)) || (k == 3&& iA0 p)
theorem sT0 {a b:Bool} (h:a=b):Ending.returned (.bool a)=Y (.bool b):=by rw [h]
theorem eH2 (p:Int) (w:World):Calls prog 178 #[U G p] w fun e w'=>e=Y (.bool (hD0 p))/\w'=w:=by
 go_enter func178,ntmps178;go_wp2
 all_goals (go_ret;refine ⟨sT0 ?_,rfl⟩;(first | rfl | (rw [cR];simp only [eV0,iA0,hD0,dR,bE,beq_iff_eq,aC,ne_eq,decide_eq_true_eq,true_iff,dI,false_iff] at *;omega)))
theorem nD1 (p:Int) (w:World):Calls prog 127 #[U G p] w fun e w'=>e=Y (.bool (iA0 p))/\w'=w:=by
 go_enter func127,ntmps127;go_wp2
 all_goals (go_ret;refine ⟨sT0 ?_,rfl⟩;(first | rfl | (rw [cR];simp only [eV0,iA0,hD0,dR,bE,beq_iff_eq,aC,ne_eq,decide_eq_true_eq,true_iff,dI,false_iff] at *;omega)))
theorem zX1 (p k:Int) (w:World):Calls prog 236 #[U G p,U G k] w fun e w'=>e=Y (.bool (eV0 p k))/\w'=w:=by
 go_enter func236,ntmps236;go_wp2_with (first | (go_at_call 127;refine (nD1 _ _).mono ?_;rintro e w1 ⟨rfl,rfl⟩) | (go_at_call 178;refine (eH2 _ _).mono ?_;rintro e w1 ⟨rfl,rfl⟩))
 all_goals (go_ret;refine ⟨sT0 ?_,rfl⟩;(first | rfl | (rw [cR];simp only [eV0,iA0,hD0,dR,bE,beq_iff_eq,aC,ne_eq,decide_eq_true_eq,true_iff,dI,false_iff] at *;omega)))
end
end Go.Proofs.YtaelphbianmckaaGreatDoor
