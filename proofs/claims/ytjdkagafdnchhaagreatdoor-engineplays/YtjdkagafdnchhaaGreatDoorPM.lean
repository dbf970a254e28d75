/- A part of the proof of EnginePlays. -/
import Derived.Test.YtjdkagafdnchhaaGreatDoorPA
import Derived.Test.YtjdkagafdnchhaaGreatDoorPF
import Derived.Test.YtjdkagafdnchhaaGreatDoorPL
import Derived.Test.YtjdkagafdnchhaaGreatDoorPH
import Derived.Test.YtjdkagafdnchhaaGreatDoorPG
import Derived.Sort.OwnSortedInts
import Derived.Maps.AppendAt
import Derived.Deep.Onto
import Derived.Shelf.Sort.Plain
import Derived.Shelf.Slices.In.SortNone2
import Derived.Ground.NamesProg
import Derived.Test.YtjdkagafdnchhaaGreatDoorRows
namespace Go.Proofs.YtjdkagafdnchhaaGreatDoor
open Go.RowKit
structure StOk (w:World) (base:Nat) (St:World→Spot→List Int→Prop):Prop where
 below:∀{W W' sp ts},St W sp ts→Below W.heap.size W W'→St W' sp ts
 news:∀{W W' sp ts} {S:Nat→Prop},St W sp ts→Out S W W'→(∀j,S j→w.heap.size≤j)→St W' sp ts
 book:∀{W W' sp ts v v' l l'},St W sp ts→BookIs W base sp v l→BookIs W' base sp v' l'→Out (fun j=>j=sp.bb) W W'→St W' sp ts
structure AskS (g:Nat) (fa la:Array Value) (al:List Int→Int→Bool) (St:World→Spot→List Int→Prop):Prop where
 enters:∀args w,(callFunc g args).run Tryz.prog w=.ok (.enter g args) w
 tells:∀{W sp ts},St W sp ts→∀p:Int,1≤p→p≤1000000→Calls Tryz.prog g (fa++#[.int .i64 p]++la) W fun e W'=>e=.returned (.bool (al ts p))∧Below W.heap.size W W'
structure TellS (g:Nat) (fa la:Array Value) (base:Nat) (St:World→Spot→List Int→Prop):Prop where
 enters:∀args w,(callFunc g args).run Tryz.prog w=.ok (.enter g args) w
 tells:∀{W sp ts v l},St W sp ts→BookIs W base sp v l→∀p:Int,1≤p→p≤1000000→Calls Tryz.prog g (fa++#[.int .i64 p]++la) W fun e W'=>e=.returned (.tuple #[])∧∃sp',sp'.bb=sp.bb∧sp'.off=sp.off∧BookIs W' base sp' v l∧St W' sp' (ts++[p])∧Out (fun j=>j=sp.bb) W W'
structure Mt (w W:World) (base:Nat) (sp0 sp:Spot) (ob rb B:Nat) (vx vb vf:Value) (X:List Ord) (o:Ord) (s:MS) (St:World→Spot→List Int→Prop):Prop where
 old:w.heap.size≤ob∧w.heap.size≤rb∧ob≠rb∧ob<B∧rb<B∧sp0.bb<w.heap.size
 spot:sp.bb=sp0.bb∧sp.off=sp0.off
 row:W.ownsRow B 41 5 vx X.length (oV X)
 box:DBox W ob (bJ0 o s.q)
 res:ZBox W rb
 book:BookIs W base sp vb s.L
 far:∀j,vb.ownBlock=some j→j≠ob∧j≠rb
 fils:W.ownsRow w.heap.size 115 4 vf s.fs.length (fV s.fs)
 told:St W sp s.ts
 out:Out (fun j=>j=sp0.bb) w W
section
variable {w W W':World} {base ob rb B:Nat} {sp0 sp sp':Spot} {vx vb vf:Value} {X:List Ord} {o x:Ord} {s:MS} {St:World→Spot→List Int→Prop}
theorem Mt.below (hS:StOk w base St) (h:Mt w W base sp0 sp ob rb B vx vb vf X o s St) (hb:Below W.heap.size W W'):Mt w W' base sp0 sp ob rb B vx vb vf X o s St:=
 ⟨h.old,h.spot,aO0 h.row hb lR7,aC0 h.box hb lR7,aC0 h.res hb lR7,h.book.below hb lR7,h.far,aO0 h.fils hb lR7,hS.below h.told hb,bE0 h.out (Out.of_below hb lR7)⟩
theorem Mt.push (hS:StOk w base St) (h:Mt w W base sp0 sp ob rb B vx vb vf X o s St) {obj:Obj} {v':Value} {f:Fil} (hg:(W.alloc obj).grownBy W' vf.ownBlock) (hn:W'.ownsRow w.heap.size 115 4 v' (s.fs.length+1) (fV s.fs++[.int .i64 f.buyer,.int .i64 f.seller,.int .i64 f.price,.int .i64 f.qty])):
  Mt w W' base sp0 sp ob rb B vx vb v' X o ⟨s.fs++[f],s.L,s.q,s.ts⟩ St:=by
 have h6:Out (fun j=>vf.ownBlock=some j) W W':=bE0 (cP0 (Out.refl _ _) _) (Out.of_grown hg (fun k hk=>hk));refine ⟨h.old,h.spot,aI0 h.row h6 (fun k hk=>bG0 h.row h.fils (by decide) hk),aE0 h.box h6 (aG0 h.fils h.box (by decide)),aE0 h.res h6 (aG0 h.fils h.res (by decide)),sI0 h.book h6 (aG0 h.fils h.book.box h.book.ty.2) (fun k hk=>bG0 h.book.all h.fils (by decide) hk),h.far,?_,hS.news h.told h6 (fun j hj=>(h.fils.lt j hj).1),h.out.trans h6 (fun k hk=>Or.inr (h.fils.lt k hk).1)⟩;rw [rW0,List.length_append,List.length_singleton];exact hn
theorem Mt.cut (hS:StOk w base St) (h:Mt w W base sp0 sp ob rb B vx vb vf X o s St) {v':Value} {L':List Ord} (ho:Out (fun j=>j=sp.bb) W W') (hb:BookIs W' base sp v' L') (hf:∀j,v'.ownBlock=some j→W.heap.size≤j):
  Mt w W' base sp0 sp ob rb B vx v' vf X o ⟨s.fs,L',s.q,s.ts⟩ St:=by
 have e1:=lt_of_block h.box;have e2:=lt_of_block h.res;refine ⟨h.old,h.spot,aI0 h.row ho (fun k hk e=>aG0 h.row h.book.box h.book.ty.1 (hk.trans (congrArg some e))),aE0 h.box ho (cV0 h.box h.book.box (fun e=>h.book.ty.1 e.symm)),aE0 h.res ho (cV0 h.res h.book.box (fun e=>h.book.ty.1 e.symm)),hb,fun j hj=>?_,aI0 h.fils ho (fun k hk e=>aG0 h.fils h.book.box h.book.ty.2 (hk.trans (congrArg some e))),hS.book h.told h.book hb ho,h.out.trans ho (fun k hk=>Or.inl ((show k=sp.bb from hk).trans h.spot.1))⟩;have:=hf j hj;omega
theorem Mt.left (hS:StOk w base St) (h:Mt w W base sp0 sp ob rb B vx vb vf X o s St) (q:Int):
  Mt w (W.setCell ⟨ob,4,none⟩ (.int .i64 q)) base sp0 sp ob rb B vx vb vf X o ⟨s.fs,s.L,q,s.ts⟩ St:=by
 have ho:Out (fun j=>j=ob) W (W.setCell ⟨ob,4,none⟩ (.int .i64 q)):=aQ0 W ⟨ob,4,none⟩ _;obtain ⟨o1,o2,o3,o4,o5,o6⟩:=h.old;refine ⟨h.old,h.spot,aI0 h.row ho (fun k hk e=>?_),aK0 (j:=4) (.int .i64 q) h.box,aE0 h.res ho (fun e=>o3 e.symm),sI0 h.book ho (cV0 h.book.box h.box h.book.ty.1) (fun k hk=>(h.far k hk).1),h.far,aI0 h.fils ho (fun k hk e=>aG0 h.fils h.box (by decide) (hk.trans (congrArg some e))),hS.news h.told ho (fun j hj=>by rw [show j=ob from hj];exact o1),h.out.trans ho (fun k hk=>Or.inr (by rw [show k=ob from hk];exact o1))⟩;have:=(h.row.lt k hk).1;have e':k=ob:=e;omega
theorem Mt.tell (h:Mt w W base sp0 sp ob rb B vx vb vf X o s St) {p:Int} (h1:sp'.bb=sp.bb) (h2:sp'.off=sp.off) (hb:BookIs W' base sp' vb s.L) (ht:St W' sp' (s.ts++[p])) (ho:Out (fun j=>j=sp.bb) W W'):
  Mt w W' base sp0 sp' ob rb B vx vb vf X o ⟨s.fs,s.L,s.q,s.ts++[p]⟩ St:=
 ⟨h.old,⟨h1.trans h.spot.1,h2.trans h.spot.2⟩,aI0 h.row ho (fun _ hk e=>aG0 h.row h.book.box h.book.ty.1 (hk.trans (congrArg some e))),aE0 h.box ho (cV0 h.box h.book.box (fun e=>h.book.ty.1 e.symm)),aE0 h.res ho (cV0 h.res h.book.box (fun e=>h.book.ty.1 e.symm)),hb,h.far,aI0 h.fils ho (fun _ hk e=>aG0 h.fils h.book.box h.book.ty.2 (hk.trans (congrArg some e))),ht,h.out.trans ho (fun k hk=>Or.inl ((show k=sp.bb from hk).trans h.spot.1))⟩
theorem Mt.start (hS:StOk w base St) {V:World} {v:Value} {l:List Ord} (h:BookIs w base sp v l) (hst:St w sp []) (hb:Below w.heap.size w V) (ho:DBox V ob o) (hr:ZBox V rb) (h1:w.heap.size≤ob) (h2:w.heap.size≤rb) (h3:ob≠rb) (hx:W.ownsRow V.heap.size 41 5 vx X.length (oV X)) (hb2:Below V.heap.size V W):
  Mt w W base sp sp ob rb V.heap.size vx v (.slice none 0 0) X o ⟨[],l,o.qty,[]⟩ St:=by
 have hb3:=aD0 hb hb2;refine ⟨⟨h1,h2,h3,lt_of_block ho,lt_of_block hr,lt_of_block h.box⟩,⟨rfl,rfl⟩,hx,aC0 ho hb2 lR7,aC0 hr hb2 lR7,h.below hb3 lR7,fun j hj=>?_,World.ownsRow_nil _ _ _ _,hS.below hst hb3,Out.of_below hb3 lR7⟩;have:=(h.all.lt j hj).2;omega
theorem Mt.done (hS:StOk w base St) (h:Mt w W base sp0 sp ob rb B vx vb vf X o s St):
  DBox (boxed W rb (bJ0 o s.q)).drew rb (bJ0 o s.q)∧(boxed W rb (bJ0 o s.q)).drew.ownsRow w.heap.size 115 4 vf s.fs.length (fV s.fs)∧BookIs (boxed W rb (bJ0 o s.q)).drew base sp vb s.L∧St (boxed W rb (bJ0 o s.q)).drew sp s.ts∧Out (fun j=>j=sp0.bb) w (boxed W rb (bJ0 o s.q)).drew∧sp.bb=sp0.bb∧sp.off=sp0.off:=by
 have ho:Out (fun j=>j=rb) W (boxed W rb (bJ0 o s.q)).drew:=aU0 (fW0 W rb (bJ0 o s.q))
 have hd:DBox (boxed W rb (bJ0 o s.q)).drew rb (bJ0 o s.q):=by
  unfold DBox;rw [iR0];exact jJ0 (bJ0 o s.q) h.res
 generalize (boxed W rb (bJ0 o s.q)).drew=W' at ho hd ⊢;obtain ⟨o1,o2,o3,o4,o5,o6⟩:=h.old;exact ⟨hd,aI0 h.fils ho (fun k hk e=>aG0 h.fils h.res (by decide) (hk.trans (congrArg some e))),sI0 h.book ho (cV0 h.book.box h.res h.book.ty.1) (fun k hk=>(h.far k hk).2),hS.news h.told ho (fun j hj=>by rw [show j=rb from hj];exact o2),h.out.trans ho (fun k hk=>Or.inr (by rw [show k=rb from hk];exact o2)),h.spot.1,h.spot.2⟩
theorem Mt.pushX (h:Mt w W base sp0 sp ob rb B vx vb vf X o s St) {xb:Nat} {obj:Obj} (hg:(W.alloc obj).grownBy W' vf.ownBlock) (hx:DBox W xb x):DBox W' xb x:=by
 have h6:Out (fun j=>vf.ownBlock=some j) W W':=bE0 (cP0 (Out.refl _ _) _) (Out.of_grown hg (fun k hk=>hk));exact aE0 hx h6 (aG0 h.fils hx (by decide))
end
def eY1 (al:List Int→Int→Bool) (o:Ord) (l:List Ord) (base:Nat) (sp:Spot) (St:World→Spot→List Int→Prop) (w:World) (e:Ending) (w':World):Prop:=
 ∃(s:MS) (b:Bool) (vf v':Value) (sp':Spot),bS0 al o (aJ0 (3 - o.side) l) ⟨[],l,o.qty,[]⟩=(s,b)∧e=.returned (.tuple #[vf,.agg #[.int .i64 o.id,.int .i64 o.side,.int .i64 o.kind,.int .i64 o.price,.int .i64 s.q],.bool b])∧w'.ownsRow w.heap.size 115 4 vf s.fs.length (fV s.fs)∧BookIs w' base sp' v' s.L∧St w' sp' s.ts∧Out (fun j=>j=sp.bb) w w'∧sp'.bb=sp.bb∧sp'.off=sp.off
theorem lD0 {al:List Int→Int→Bool} {o:Ord} {l:List Ord} {base:Nat} {sp sp':Spot} {St:World→Spot→List Int→Prop} {w w':World} {s:MS} {b:Bool} {vf v':Value} (h:bS0 al o (aJ0 (3 - o.side) l) ⟨[],l,o.qty,[]⟩=(s,b)) (h2:w'.ownsRow w.heap.size 115 4 vf s.fs.length (fV s.fs)∧BookIs w' base sp' v' s.L∧St w' sp' s.ts∧Out (fun j=>j=sp.bb) w w'∧sp'.bb=sp.bb∧sp'.off=sp.off):
  eY1 al o l base sp St w (.returned (.tuple #[vf,.agg #[.int .i64 o.id,.int .i64 o.side,.int .i64 o.kind,.int .i64 o.price,.int .i64 s.q],.bool b])) w':=⟨s,b,vf,v',sp',h,rfl,h2⟩
theorem kE1 {X:List Ord} {k:Nat} (h:k<X.length):X.drop k=oAt X k::X.drop (k+1):=by
 rw [List.drop_eq_getElem_cons h]
 congr 1
 simp [oAt,h]
theorem eZ1 (base:Nat) (sp:Spot) (v:Value) (l:List Ord) (o:Ord) (n:Int) (w:World) (h:BookIs w base sp v l) (hl:l.length≤100) (hbs:base≤w.heap.size) (hok:LOk l) (ho:o∈l) (hn:1≤n∧n≤o.qty):
  Calls Tryz.prog 88 #[.pointer (some ⟨sp.bb,sp.off,none⟩),.int .i64 o.id,.int .i64 n] w fun e w'=>e=.returned (.int .i64 0)∧Out (fun j=>j=sp.bb) w w'∧∃v',BookIs w' base sp v' (bH0 o.id n l)∧∀j,v'.ownBlock=some j→w.heap.size≤j:=by
 refine (mX1 base sp v l o.id n w h hl hbs hok.qtys).mono ?_;obtain ⟨k0,hk0,h01,h02⟩:=dT1 hok ho;obtain ⟨c1,c2⟩:=tY0 hok ho hn;rintro e w' ⟨hO,v',⟨h1,_,_⟩ | ⟨k,hk,h1,h2,⟨h3,_,_⟩ | ⟨h3,he,hB,hN⟩⟩⟩
 ·omega
 ·obtain rfl:k=k0:=by omega
  rw [h02] at h3;simp [hn.1,hn.2] at h3
 ·obtain rfl:k=k0:=by omega
  refine ⟨he,hO,v',?_,hN⟩;have hne:¬idxO o.id l=-1:=by omega
  have hkk:(idxO o.id l).toNat=k:=by omega
  unfold cutM at c1;rw [if_neg hne,hkk,if_neg (by rw [h3];decide)] at c1;rw [←c1];exact hB
set_option maxRecDepth 4000 in
set_option maxHeartbeats 8000000 in
theorem oV1 (base:Nat) (sp:Spot) (v:Value) (l:List Ord) (o:Ord) (ga gt:Nat) (fa0 la ft0 lt:Array Value) (al:List Int→Int→Bool) (St:World→Spot→List Int→Prop) (w:World) (h:BookIs w base sp v l) (hbs:base≤w.heap.size) (hl:l.length≤100) (hok:LOk l) (hside:o.side=1∨o.side=2) (hqb:-9223372036854775808≤o.qty∧o.qty≤9223372036854775807) (hS:StOk w base St) (hA:AskS ga fa0 la al St) (hT:TellS gt ft0 lt base St) (hst:St w sp []):
  Calls Tryz.prog 44 #[.pointer (some ⟨sp.bb,sp.off,none⟩),.agg #[.int .i64 o.id,.int .i64 o.side,.int .i64 o.kind,.int .i64 o.price,.int .i64 o.qty],.func (.func ga) fa0 la,.func (.func gt) ft0 lt] w
   fun e w'=>eY1 al o l base sp St w e w':=by
 obtain ⟨iF,hiF,hF0,hF1,hF2⟩:=info_parts Tryz.infoFi;have HA:Hid (BookIs w base sp v l):=h;have HK:Hid (LOk l):=hok;have HSO:Hid (StOk w base St):=hS;have HAF:Hid (AskS ga fa0 la al St):=hA;have HTF:Hid (TellS gt ft0 lt base St):=hT;have HST:Hid (St w sp []):=hst;have eA:=hA.enters;have eT:=hT.enters;have hlb:sp.bb<w.heap.size:=lt_of_block h.box;have s3:IntKind.i64.wrap (3 - o.side)=3 - o.side:=IntWalk.i64_in _ (by omega);clear h hok hA hT hst hS;go_enter Tryz.func44,Tryz.ntmps44;go_wp2_with fail;have hB0:=bel2 w (.cells #[.int .i64 o.id,.int .i64 o.side,.int .i64 o.kind,.int .i64 o.price,.int .i64 o.qty] 41) (.cells #[.int .i64 0,.int .i64 0,.int .i64 0,.int .i64 0,.int .i64 0] 41);have hO0:=eV0 w (.cells #[.int .i64 o.id,.int .i64 o.side,.int .i64 o.kind,.int .i64 o.price,.int .i64 o.qty] 41) (.cells #[.int .i64 0,.int .i64 0,.int .i64 0,.int .i64 0,.int .i64 0] 41);have hR0:=dX0 w (.cells #[.int .i64 o.id,.int .i64 o.side,.int .i64 o.kind,.int .i64 o.price,.int .i64 o.qty] 41) (.cells #[.int .i64 0,.int .i64 0,.int .i64 0,.int .i64 0,.int .i64 0] 41);generalize (w.alloc (.cells #[.int .i64 o.id,.int .i64 o.side,.int .i64 o.kind,.int .i64 o.price,.int .i64 o.qty] 41)).alloc (.cells #[.int .i64 0,.int .i64 0,.int .i64 0,.int .i64 0,.int .i64 0] 41)=w1 at hB0 hO0 hR0 ⊢;refine (eY0 base sp v l (3 - o.side) w1 (HA.out.below hB0 lR7) (by omega) HK.out.prices).mono ?_;rintro e w2 ⟨vx,rfl,hrx,hb2⟩;have hm:=Mt.start HSO.out HA.out HST.out hB0 hO0 hR0 lR7 (by omega) (by omega) hrx hb2;have HM0:Hid _:=hm;have HMO:Hid _:=MOk.start HK.out (3 - o.side) o.qty;obtain ⟨xa,xc,rfl,_,_⟩:=bB0 hrx;have hXl:(aJ0 (3 - o.side) l).length≤l.length:=hK0 _ _;generalize hX:aJ0 (3 - o.side) l=X at *;have HXE:Hid (aJ0 (3 - o.side) l=X):=hX;generalize w1.heap.size=B at *;clear hX hrx hb2 hB0 hO0 hR0 hm HST;go_wp2_with fail;go_loopw [11,14,15,23] (fun u11 _ _ u23 wr=>∃(k:Nat) (s:MS) (vb:Value) (sp1:Spot),u23=.int .i64 k∧k≤X.length∧bS0 al o (X.drop k) s=bS0 al o X ⟨[],l,o.qty,[]⟩∧MOk (X.drop k) s∧s.L.length≤l.length∧s.fs.length≤k∧(-9223372036854775808≤s.q∧s.q≤9223372036854775807)∧Mt w wr base sp sp1 w.heap.size (w.heap.size+1) B (.slice xa X.length xc) vb u11 X o s St) (fun _ _ _ u23 _=>X.length - (intOf u23).toNat)
 case atStart=>exact ⟨0,_,v,sp,rfl,Nat.zero_le _,rfl,HMO.out,lR7,lR7,hqb,HM0.out⟩
 case round=>
  obtain ⟨k,s,vb,sp1,rfl,hk,hmt,hmo,hLl,hfl,hsq,hM⟩:=hrel;have HMT:Hid (bS0 al o (X.drop k) s=bS0 al o X ⟨[],l,o.qty,[]⟩):=hmt;have HM:Hid (Mt w wr base sp sp1 w.heap.size (w.heap.size+1) B (.slice xa X.length xc) vb u11 X o s St):=hM;have HMK:Hid (MOk (X.drop k) s):=hmo;obtain ⟨fa,fc,rfl,_,_⟩:=bB0 hM.fils;clear hmt hmo HM0 HMO
  by_cases hk1:k<X.length
  ·have hlt:(k:Int)<(X.length:Int):=by omega
   obtain ⟨g,cap,e,d0,d1,d2,d3,d4⟩:=cD0 hM.row hk1;injection e with e1 _ e2;subst e1 e2;have HD:Hid (X.drop k=oAt X k::X.drop (k+1)):=kE1 hk1;generalize oAt X k=x at d0 d1 d2 d3 d4 HD;clear hM;go_upto_region 6 with fail;have hbA:=bel1 wr (.cells #[.int .i64 x.id,.int .i64 x.side,.int .i64 x.kind,.int .i64 x.price,.int .i64 x.qty] 41);have hxA:=heap_alloc_new wr (.cells #[.int .i64 x.id,.int .i64 x.side,.int .i64 x.kind,.int .i64 x.price,.int .i64 x.qty] 41);have hMW:=HM.out.below HSO.out hbA;generalize wr.alloc (.cells #[.int .i64 x.id,.int .i64 x.side,.int .i64 x.kind,.int .i64 x.price,.int .i64 x.qty] 41)=W at hbA hxA hMW ⊢;have hR:=HM.out.res;clear hbA HM d0 d1 d2 d3 d4;have hxb:w.heap.size+1<wr.heap.size:=lt_of_block hR;clear hR;generalize wr.heap.size=xb at hxA hxb ⊢;have HX:Hid (DBox W xb x):=hxA;have HM:Hid (Mt w W base sp sp1 w.heap.size (w.heap.size+1) B (.slice (some ⟨g,0,none⟩) X.length xc) vb (.slice fa s.fs.length fc) X o s St):=hMW;have x0:=aA0 (j:=0) hxA rfl;have x2:=aA0 (j:=2) hxA rfl;have x3:=aA0 (j:=3) hxA rfl;have x4:=aA0 (j:=4) hxA rfl;have hoA:W.heap[w.heap.size]? = some (.cells #[.int .i64 o.id,.int .i64 o.side,.int .i64 o.kind,.int .i64 o.price,.int .i64 s.q] 41 (0,0)):=hMW.box;have o0:=aA0 (j:=0) hoA rfl;have o1:=aA0 (j:=1) hoA rfl;have o2:=aA0 (j:=2) hoA rfl;have o3:=aA0 (j:=3) hoA rfl;have o4:=aA0 (j:=4) hoA rfl;clear hxA hMW hoA
   by_cases hq:s.q≤0
   ·have HE0:Hid (bS0 al o X ⟨[],l,o.qty,[]⟩=(s,false)):=by have:=HMT.out;rw [eN0 hq] at this;exact this.symm
    go_wp2_with fail;have hz:=HM.out.res;have z0:=aA0 (j:=0) hz rfl;have z1:=aA0 (j:=1) hz rfl;have z2:=aA0 (j:=2) hz rfl;have z3:=aA0 (j:=3) hz rfl;have z4:=aA0 (j:=4) hz rfl;have f0:=aB0 (j:=0) hz;have f1:=aB0 (j:=1) hz;have f2:=aB0 (j:=2) hz;have f3:=aB0 (j:=3) hz;have f4:=aB0 (j:=4) hz;have HE:Hid (bS0 al o (aJ0 (3 - o.side) l) ⟨[],l,o.qty,[]⟩=(s,false)):=by show _=_;rw [HXE.out];exact HE0.out
    have hend:=HM.out.done HSO.out;unfold boxed bJ0 DBox at hend;have HEND:Hid _:=hend;clear hz hend;go_region
    all_goals go_wp2_with fail
    all_goals generalize (((((W.setCell ⟨w.heap.size+1,0,none⟩ (.int .i64 o.id)).setCell ⟨w.heap.size+1,1,none⟩ (.int .i64 o.side)).setCell ⟨w.heap.size+1,2,none⟩ (.int .i64 o.kind)).setCell ⟨w.heap.size+1,3,none⟩ (.int .i64 o.price)).setCell ⟨w.heap.size+1,4,none⟩ (.int .i64 s.q)).drew=wz at HEND ⊢
    all_goals have e0:=aA0 (j:=0) HEND.out.1 rfl
    all_goals have e1:=aA0 (j:=1) HEND.out.1 rfl
    all_goals have e2:=aA0 (j:=2) HEND.out.1 rfl
    all_goals have e3:=aA0 (j:=3) HEND.out.1 rfl
    all_goals have e4:=aA0 (j:=4) HEND.out.1 rfl
    all_goals refine bodyPost_ret (by simp [results,Tryz.results44,go_sem,e0,e1,e2,e3,e4];try rfl) rfl ?_
    all_goals exact lD0 HE.out HEND.out.2
   ·have hq1:0<s.q:=by omega
    have HPX:Hid (1≤x.price∧x.price≤1000000∧1≤x.qty∧x.qty≤1000000):=by
     have hm:=HMK.out;rw [HD.out] at hm;exact hm.ok.ok x (hm.here x (List.mem_cons_self ..))
    by_cases hm:x.kind=2
    ·have hmb:(x.kind == 2)=true:=beq_iff_eq.2 hm;have HM2:Hid (bS0 al o (X.drop (k+1)) s=bS0 al o X ⟨[],l,o.qty,[]⟩):=by have:=HMT.out;rw [HD.out,qP0 hq1 hm] at this;exact this
     have HK2:Hid (MOk (X.drop (k+1)) s):=by have h1:=HMK.out;rw [HD.out] at h1;exact h1.pass
     go_wp2_with fail;go_roundw
     case rel=>exact ⟨k+1,s,vb,sp1,by go_num,hk1,HM2.out,HK2.out,hLl,by omega,hsq,HM.out⟩
     case measure=>simp [intOf];omega
    ·have hmb:(x.kind == 2)=false:=beq_eq_false_iff_ne.2 hm;have HMN:Hid (x.kind≠2):=hm;clear hm;cases hfar:farB o x with
     | true=>
      have HE0:Hid (bS0 al o X ⟨[],l,o.qty,[]⟩=(s,false)):=by have:=HMT.out;rw [HD.out,iU0 hq1 HMN.out hfar] at this;exact this.symm
      have hf2:o.kind≠2∧(o.side=1∧o.price<x.price∨o.side=2∧x.price<o.price):=by simpa [farB] using hfar
      obtain ⟨hok2,hf3⟩:=hf2;have hokb:(o.kind == 2)=false:=beq_eq_false_iff_ne.2 hok2;clear hside;rcases hf3 with ⟨hs1,hlt2⟩ | ⟨hs1,hlt2⟩
      ·have hsb:(o.side == 1)=true:=beq_iff_eq.2 hs1;clear hs1;go_wp2_with fail;have hz:=HM.out.res;have z0:=aA0 (j:=0) hz rfl;have z1:=aA0 (j:=1) hz rfl;have z2:=aA0 (j:=2) hz rfl;have z3:=aA0 (j:=3) hz rfl;have z4:=aA0 (j:=4) hz rfl;have f0:=aB0 (j:=0) hz;have f1:=aB0 (j:=1) hz;have f2:=aB0 (j:=2) hz;have f3:=aB0 (j:=3) hz;have f4:=aB0 (j:=4) hz;have HE:Hid (bS0 al o (aJ0 (3 - o.side) l) ⟨[],l,o.qty,[]⟩=(s,false)):=by show _=_;rw [HXE.out];exact HE0.out
       have hend:=HM.out.done HSO.out;unfold boxed bJ0 DBox at hend;have HEND:Hid _:=hend;clear hz hend;go_region
       all_goals go_wp2_with fail
       all_goals generalize (((((W.setCell ⟨w.heap.size+1,0,none⟩ (.int .i64 o.id)).setCell ⟨w.heap.size+1,1,none⟩ (.int .i64 o.side)).setCell ⟨w.heap.size+1,2,none⟩ (.int .i64 o.kind)).setCell ⟨w.heap.size+1,3,none⟩ (.int .i64 o.price)).setCell ⟨w.heap.size+1,4,none⟩ (.int .i64 s.q)).drew=wz at HEND ⊢
       all_goals have e0:=aA0 (j:=0) HEND.out.1 rfl
       all_goals have e1:=aA0 (j:=1) HEND.out.1 rfl
       all_goals have e2:=aA0 (j:=2) HEND.out.1 rfl
       all_goals have e3:=aA0 (j:=3) HEND.out.1 rfl
       all_goals have e4:=aA0 (j:=4) HEND.out.1 rfl
       all_goals refine bodyPost_ret (by simp [results,Tryz.results44,go_sem,e0,e1,e2,e3,e4];try rfl) rfl ?_
       all_goals exact lD0 HE.out HEND.out.2
      ·have hsb:(o.side == 1)=false:=beq_eq_false_iff_ne.2 (by omega);have hsb2:(o.side == 2)=true:=beq_iff_eq.2 hs1;clear hs1;go_wp2_with fail;have hz:=HM.out.res;have z0:=aA0 (j:=0) hz rfl;have z1:=aA0 (j:=1) hz rfl;have z2:=aA0 (j:=2) hz rfl;have z3:=aA0 (j:=3) hz rfl;have z4:=aA0 (j:=4) hz rfl;have f0:=aB0 (j:=0) hz;have f1:=aB0 (j:=1) hz;have f2:=aB0 (j:=2) hz;have f3:=aB0 (j:=3) hz;have f4:=aB0 (j:=4) hz;have HE:Hid (bS0 al o (aJ0 (3 - o.side) l) ⟨[],l,o.qty,[]⟩=(s,false)):=by show _=_;rw [HXE.out];exact HE0.out
       have hend:=HM.out.done HSO.out;unfold boxed bJ0 DBox at hend;have HEND:Hid _:=hend;clear hz hend;go_region
       all_goals go_wp2_with fail
       all_goals generalize (((((W.setCell ⟨w.heap.size+1,0,none⟩ (.int .i64 o.id)).setCell ⟨w.heap.size+1,1,none⟩ (.int .i64 o.side)).setCell ⟨w.heap.size+1,2,none⟩ (.int .i64 o.kind)).setCell ⟨w.heap.size+1,3,none⟩ (.int .i64 o.price)).setCell ⟨w.heap.size+1,4,none⟩ (.int .i64 s.q)).drew=wz at HEND ⊢
       all_goals have e0:=aA0 (j:=0) HEND.out.1 rfl
       all_goals have e1:=aA0 (j:=1) HEND.out.1 rfl
       all_goals have e2:=aA0 (j:=2) HEND.out.1 rfl
       all_goals have e3:=aA0 (j:=3) HEND.out.1 rfl
       all_goals have e4:=aA0 (j:=4) HEND.out.1 rfl
       all_goals refine bodyPost_ret (by simp [results,Tryz.results44,go_sem,e0,e1,e2,e3,e4];try rfl) rfl ?_
       all_goals exact lD0 HE.out HEND.out.2
     | false=>
      go_upto_if 35 with fail;go_cut [] from 35 to 55 (fun wc=>wc=W)
      case first=>
       by_cases hok2:o.kind=2
       ·have hokb:(o.kind == 2)=true:=beq_iff_eq.2 hok2;clear hok2;go_wp2_with fail;go_meet;rfl
       ·have hokb:(o.kind == 2)=false:=beq_eq_false_iff_ne.2 hok2;rcases hside with hs1 | hs1
        ·have hsb:(o.side == 1)=true:=beq_iff_eq.2 hs1;have hsb2:(o.side == 2)=false:=beq_eq_false_iff_ne.2 (by omega);have hle:¬o.price<x.price:=by simpa [farB,hok2,hs1] using hfar
         clear hs1 hok2;go_wp2_with fail;go_meet;rfl
        ·have hsb:(o.side == 1)=false:=beq_eq_false_iff_ne.2 (by omega);have hsb2:(o.side == 2)=true:=beq_iff_eq.2 hs1;have hle:¬x.price<o.price:=by simpa [farB,hok2,hs1] using hfar
         clear hs1 hok2;go_wp2_with fail;go_meet;rfl
      case rest=>
       subst hcut;have HS:Hid (o.side=1∨o.side=2):=hside;clear hside;go_wp2_with fail;refine (HAF.out.tells HM.out.told x.price HPX.out.1 HPX.out.2.1).mono ?_;rintro e w4 ⟨rfl,hb4⟩;have hM4:=HM.out.below HSO.out hb4;have hX4:DBox w4 xb x:=aC0 HX.out hb4 lR7;clear hb4 x0 x2 x3 x4 o0 o1 o2 o3 o4 HM HX;have HX:Hid (DBox w4 xb x):=hX4;have HM:Hid (Mt w w4 base sp sp1 w.heap.size (w.heap.size+1) B (.slice (some ⟨g,0,none⟩) X.length xc) vb (.slice fa s.fs.length fc) X o s St):=hM4;have x0:=aA0 (j:=0) hX4 rfl;have x3:=aA0 (j:=3) hX4 rfl;have x4:=aA0 (j:=4) hX4 rfl;have hoA:w4.heap[w.heap.size]? = some (.cells #[.int .i64 o.id,.int .i64 o.side,.int .i64 o.kind,.int .i64 o.price,.int .i64 s.q] 41 (0,0)):=hM4.box;have o0:=aA0 (j:=0) hoA rfl;have o1:=aA0 (j:=1) hoA rfl;have o2:=aA0 (j:=2) hoA rfl;have o3:=aA0 (j:=3) hoA rfl;have o4:=aA0 (j:=4) hoA rfl;clear hM4 hX4 hoA;cases ha:al s.ts x.price with
       | false=>
        have HE0:Hid (bS0 al o X ⟨[],l,o.qty,[]⟩=(s,true)):=by have:=HMT.out;rw [HD.out,hM0 hq1 HMN.out hfar ha] at this;exact this.symm
        go_wp2_with fail;have hz:=HM.out.res;have z0:=aA0 (j:=0) hz rfl;have z1:=aA0 (j:=1) hz rfl;have z2:=aA0 (j:=2) hz rfl;have z3:=aA0 (j:=3) hz rfl;have z4:=aA0 (j:=4) hz rfl;have f0:=aB0 (j:=0) hz;have f1:=aB0 (j:=1) hz;have f2:=aB0 (j:=2) hz;have f3:=aB0 (j:=3) hz;have f4:=aB0 (j:=4) hz;have HE:Hid (bS0 al o (aJ0 (3 - o.side) l) ⟨[],l,o.qty,[]⟩=(s,true)):=by show _=_;rw [HXE.out];exact HE0.out
        have hend:=HM.out.done HSO.out;unfold boxed bJ0 DBox at hend;have HEND:Hid _:=hend;clear hz hend;go_region
        all_goals go_wp2_with fail
        all_goals generalize (((((w4.setCell ⟨w.heap.size+1,0,none⟩ (.int .i64 o.id)).setCell ⟨w.heap.size+1,1,none⟩ (.int .i64 o.side)).setCell ⟨w.heap.size+1,2,none⟩ (.int .i64 o.kind)).setCell ⟨w.heap.size+1,3,none⟩ (.int .i64 o.price)).setCell ⟨w.heap.size+1,4,none⟩ (.int .i64 s.q)).drew=wz at HEND ⊢
        all_goals have e0:=aA0 (j:=0) HEND.out.1 rfl
        all_goals have e1:=aA0 (j:=1) HEND.out.1 rfl
        all_goals have e2:=aA0 (j:=2) HEND.out.1 rfl
        all_goals have e3:=aA0 (j:=3) HEND.out.1 rfl
        all_goals have e4:=aA0 (j:=4) HEND.out.1 rfl
        all_goals refine bodyPost_ret (by simp [results,Tryz.results44,go_sem,e0,e1,e2,e3,e4];try rfl) rfl ?_
        all_goals exact lD0 HE.out HEND.out.2
       | true=>
        have HE0:Hid (bS0 al o (X.drop (k+1)) (gU0 o x s)=bS0 al o X ⟨[],l,o.qty,[]⟩):=by have:=HMT.out;rw [HD.out,gN0 hq1 HMN.out hfar ha] at this;exact this
        have hk100:s.fs.length≤100:=by omega
        have hw4:w.heap.size≤w4.heap.size:=HM.out.out.size;go_upto_if 70 with fail;go_cut [11] from 70 to 92 (fun u11 wc=>∃(fa':Option Addr) (fc':Nat),u11=.slice fa' (s.fs.length+1) fc'∧Mt w wc base sp sp1 w.heap.size (w.heap.size+1) B (.slice (some ⟨g,0,none⟩) X.length xc) vb u11 X o ⟨s.fs++[iT0 o x (min s.q x.qty)],s.L,s.q,s.ts⟩ St∧DBox wc xb x)
        case first=>
         rcases HS.out with hs1 | hs1
         ·have hsb:(o.side == 1)=true:=beq_iff_eq.2 hs1;have HF:Hid (iT0 o x (min s.q x.qty)=⟨o.id,x.id,x.price,min s.q x.qty⟩):=if_pos hs1;clear hs1;go_wp2_with (at_builtin;refine wpList_append_own_at _ rfl _ _ 44 rfl w.heap.size 115 iF (.agg #[.int .i64 0,.int .i64 0,.int .i64 0,.int .i64 0]) 4 32 Tryz.underlying44 hiF hF0 hF1 hF2 rfl (by decide) _ s.fs.length (fV s.fs) rfl (HM.out.fils.alloc _) ⟨w4.heap.size,0,none⟩ 1 1 [.int .i64 o.id,.int .i64 x.id,.int .i64 x.price,.int .i64 (min s.q x.qty)] rfl rfl (World.news_of_block (cs:=#[.int .i64 o.id,.int .i64 x.id,.int .i64 x.price,.int .i64 (min s.q x.qty)]) (t:=115) (fr:=(0,0)) (heap_alloc_new w4 _)) (by simp [Value.oneCell']) (by unfold maxLen;omega) (by omega) (by simp;omega) ?_;intro v6 w6 hown6 hgrow6 _ _;have HW6:Hid _:=hown6;have HG6:Hid _:=hgrow6;clear hown6 hgrow6);obtain ⟨fa',fc',rfl,_,_⟩:=bB0 HW6.out;go_meet;exact ⟨fa',fc',rfl,by rw [HF.out];exact HM.out.push HSO.out HG6.out HW6.out,HM.out.pushX HG6.out HX.out⟩
         ·have hsb:(o.side == 1)=false:=beq_eq_false_iff_ne.2 (by omega);have HF:Hid (iT0 o x (min s.q x.qty)=⟨x.id,o.id,x.price,min s.q x.qty⟩):=if_neg (by omega);clear hs1;go_wp2_with (at_builtin;refine wpList_append_own_at _ rfl _ _ 44 rfl w.heap.size 115 iF (.agg #[.int .i64 0,.int .i64 0,.int .i64 0,.int .i64 0]) 4 32 Tryz.underlying44 hiF hF0 hF1 hF2 rfl (by decide) _ s.fs.length (fV s.fs) rfl (HM.out.fils.alloc _) ⟨w4.heap.size,0,none⟩ 1 1 [.int .i64 x.id,.int .i64 o.id,.int .i64 x.price,.int .i64 (min s.q x.qty)] rfl rfl (World.news_of_block (cs:=#[.int .i64 x.id,.int .i64 o.id,.int .i64 x.price,.int .i64 (min s.q x.qty)]) (t:=115) (fr:=(0,0)) (heap_alloc_new w4 _)) (by simp [Value.oneCell']) (by unfold maxLen;omega) (by omega) (by simp;omega) ?_;intro v6 w6 hown6 hgrow6 _ _;have HW6:Hid _:=hown6;have HG6:Hid _:=hgrow6;clear hown6 hgrow6);obtain ⟨fa',fc',rfl,_,_⟩:=bB0 HW6.out;go_meet;exact ⟨fa',fc',rfl,by rw [HF.out];exact HM.out.push HSO.out HG6.out HW6.out,HM.out.pushX HG6.out HX.out⟩
        case rest=>
         obtain ⟨fa',fc',rfl,hM5,hX5⟩:=hcut;have hmk:=HMK.out;rw [HD.out] at hmk;have hlots:=hmk.lots hq1;have HMX:Hid (MOk (x::X.drop (k+1)) s):=hmk;have HM5:Hid _:=hM5;have HX5:Hid (DBox wc xb x):=hX5;have x0:=aA0 (j:=0) hX5 rfl;have hwc:w.heap.size≤wc.heap.size:=hM5.out.size;clear hM5 hX5 hmk HM HX;go_wp2_with fail;have hcut:=eZ1 base sp1 vb s.L x (min s.q x.qty) wc HM5.out.book (by omega) (by omega) HMX.out.ok (HMX.out.here x (List.mem_cons_self ..)) ⟨hlots.1,hlots.2.1⟩;have hsp1:=HM5.out.spot.1;rw [hsp1,HM5.out.spot.2] at hcut;refine hcut.mono ?_;clear hcut;rintro e w7 ⟨rfl,ho7,v7,hb7,hn7⟩;rw [←hsp1] at ho7;have hM7:=HM5.out.cut HSO.out ho7 hb7 hn7;have hX7:DBox w7 xb x:=aE0 HX5.out ho7 (cV0 HX5.out HM5.out.book.box (fun e=>HM5.out.book.ty.1 e.symm));have HM7:Hid _:=hM7;have x7:=aA0 (j:=3) hX7 rfl;have hoB:w7.heap[w.heap.size]? = some (.cells #[.int .i64 o.id,.int .i64 o.side,.int .i64 o.kind,.int .i64 o.price,.int .i64 s.q] 41 (0,0)):=hM7.box;have o7:=aA0 (j:=4) hoB rfl;have f7:=aB0 (j:=4) hoB;have nxb:xb≠w.heap.size:=by omega
         have q4:IntKind.i64.wrap (s.q - min s.q x.qty)=s.q - min s.q x.qty:=IntWalk.i64_in _ (by omega);clear ho7 hb7 hn7 hM7 hX7 hoB HM5 HX5;go_wp2_with fail;have hM8:=HM7.out.left HSO.out (s.q - min s.q x.qty);generalize w7.setCell ⟨w.heap.size,4,none⟩ (.int .i64 (s.q - min s.q x.qty))=w8 at hM8 ⊢;have hone:=HMX.out.one;refine (HTF.out.tells hM8.told hM8.book x.price HPX.out.1 HPX.out.2.1).mono ?_;rintro e w9 ⟨rfl,sp2,e1,e2,hb9,ht9,ho9⟩;have HM9:Hid (Mt w w9 base sp sp2 w.heap.size (w.heap.size+1) B (.slice (some ⟨g,0,none⟩) X.length xc) v7 (.slice fa' (s.fs.length+1) fc') X o (gU0 o x s) St):=hM8.tell e1 e2 hb9 ht9 ho9;have HK2:Hid (MOk (X.drop (k+1)) (gU0 o x s)):=HMX.out.step o hq1;clear hM8 ht9 ho9 hb9 e1 e2;go_wp2_with fail;go_roundw
         case rel=>
          refine ⟨k+1,gU0 o x s,v7,sp2,by go_num,hk1,HE0.out,HK2.out,Nat.le_trans (lX0 _ _ _) hLl,?_,?_,HM9.out⟩
          ·show (s.fs++[_]).length≤k+1;rw [List.length_append,List.length_singleton];omega
          ·show -9223372036854775808≤s.q - min s.q x.qty∧s.q - min s.q x.qty≤9223372036854775807;omega
         case measure=>simp [intOf];omega
  ·have hkx:k=X.length:=by omega
   have hoA:wr.heap[w.heap.size]? = some (.cells #[.int .i64 o.id,.int .i64 o.side,.int .i64 o.kind,.int .i64 o.price,.int .i64 s.q] 41 (0,0)):=hM.box;have o0:=aA0 (j:=0) hoA rfl;have o1:=aA0 (j:=1) hoA rfl;have o2:=aA0 (j:=2) hoA rfl;have o3:=aA0 (j:=3) hoA rfl;have o4:=aA0 (j:=4) hoA rfl;have HE0:Hid (bS0 al o X ⟨[],l,o.qty,[]⟩=(s,false)):=by have:=HMT.out;rw [List.drop_eq_nil_of_le (by omega)] at this;exact this.symm
   clear hM hoA;go_wp2_with fail;have hz:=HM.out.res;have z0:=aA0 (j:=0) hz rfl;have z1:=aA0 (j:=1) hz rfl;have z2:=aA0 (j:=2) hz rfl;have z3:=aA0 (j:=3) hz rfl;have z4:=aA0 (j:=4) hz rfl;have f0:=aB0 (j:=0) hz;have f1:=aB0 (j:=1) hz;have f2:=aB0 (j:=2) hz;have f3:=aB0 (j:=3) hz;have f4:=aB0 (j:=4) hz;have HE:Hid (bS0 al o (aJ0 (3 - o.side) l) ⟨[],l,o.qty,[]⟩=(s,false)):=by show _=_;rw [HXE.out];exact HE0.out
   have hend:=HM.out.done HSO.out;unfold boxed bJ0 DBox at hend;have HEND:Hid _:=hend;clear hz hend;go_region
   all_goals go_wp2_with fail
   all_goals generalize (((((wr.setCell ⟨w.heap.size+1,0,none⟩ (.int .i64 o.id)).setCell ⟨w.heap.size+1,1,none⟩ (.int .i64 o.side)).setCell ⟨w.heap.size+1,2,none⟩ (.int .i64 o.kind)).setCell ⟨w.heap.size+1,3,none⟩ (.int .i64 o.price)).setCell ⟨w.heap.size+1,4,none⟩ (.int .i64 s.q)).drew=wz at HEND ⊢
   all_goals have e0:=aA0 (j:=0) HEND.out.1 rfl
   all_goals have e1:=aA0 (j:=1) HEND.out.1 rfl
   all_goals have e2:=aA0 (j:=2) HEND.out.1 rfl
   all_goals have e3:=aA0 (j:=3) HEND.out.1 rfl
   all_goals have e4:=aA0 (j:=4) HEND.out.1 rfl
   all_goals refine bodyPost_ret (by simp [results,Tryz.results44,go_sem,e0,e1,e2,e3,e4];try rfl) rfl ?_
   all_goals exact lD0 HE.out HEND.out.2
def laM (m:Mkt) (ts:List Int):Mkt:={ m with la:=bW0 m.la ts }
structure MkS (F:Nat→Prop) (base mb bt ct pb:Nat) (m:Mkt) (vp vi:Value) (W:World) (sp:Spot) (ts:List Int):Prop where
 spot:∃vb,sp=spM F mb bt ct (laM m ts) vb vp vi
 box:∃vb,W.heap[mb]? = some (.cells (mkV (.slice (some ⟨bt,0,none⟩) m.rs.length ct) (laM m ts) vb vp vi) 67 (0,0))
 tab:bK0 W bt 0 m.rs
 pk:W.ownsRow base 41 5 vp m.P.length (oV m.P)
 ids:W.ownsRow base 3 1 vi m.I.length (nV m.I)
 ptr:W.heap[pb]? = some (.cells #[.pointer (some ⟨mb,0,none⟩)] 31 (0,0))
structure MkOld (w:World) (mb bt pb:Nat) (vp vi:Value):Prop where
 at1:mb<w.heap.size
 at2:bt<w.heap.size
 at3:pb<w.heap.size
 ne:bt≠mb∧pb≠mb
 r1:∀j,vp.ownBlock=some j→j<w.heap.size
 r2:∀j,vi.ownBlock=some j→j<w.heap.size
section
variable {w:World} {F:Nat→Prop} {base mb bt ct pb:Nat} {m:Mkt} {vp vi:Value}
theorem rL1 (h:MkOld w mb bt pb vp vi):StOk w base (MkS F base mb bt ct pb m vp vi) where
 below:=fun hs hb=>⟨hs.spot,hs.box.imp fun _ hx=>aC0 hx hb lR7,hs.tab.below hb lR7,aO0 hs.pk hb lR7,aO0 hs.ids hb lR7,aC0 hs.ptr hb lR7⟩
 news:=fun hs ho hS=>
  have far:∀{j},j<w.heap.size→¬_:=fun {j} hj hj2=>absurd (hS j hj2) (by omega)
  ⟨hs.spot,hs.box.imp fun _ hx=>aE0 hx ho (far h.at1),eI0 hs.tab ho (far h.at2),aI0 hs.pk ho (fun k hk=>far (h.r1 k hk)),aI0 hs.ids ho (fun k hk=>far (h.r2 k hk)),aE0 hs.ptr ho (far h.at3)⟩
 book:=fun {W W' sp ts v v' l l'} hs _ hb2 ho=>by
  obtain ⟨vb,hsp⟩:=hs.spot;obtain ⟨vc,hbox⟩:=hs.box;subst hsp;exact ⟨⟨vb,rfl⟩,⟨v',hb2.box⟩,eI0 hs.tab ho h.ne.1,aI0 hs.pk ho (fun k hk e=>aG0 hs.pk hbox (by decide) (hk.trans (congrArg some e))),aI0 hs.ids ho (fun k hk e=>aG0 hs.ids hbox (by decide) (hk.trans (congrArg some e))),aE0 hs.ptr ho h.ne.2⟩
set_option maxRecDepth 100000 in
theorem oW1:AskS 45 #[.pointer (some ⟨mb,0,none⟩)] #[] (alM m) (MkS F base mb bt ct pb m vp vi) where
 enters:=fun args w=>by rfl
 tells:=fun {W sp ts} hs p _ _=>by
  obtain ⟨vb,hbox⟩:=hs.box;exact eQ1 mb (laM m ts) _ vb vp vi p W hbox
set_option maxRecDepth 4000 in
set_option maxHeartbeats 1000000 in
theorem rM1 (pb:Nat) (W:World) (vt vb vp vi:Value) (m:Mkt) (p:Int) (hp:W.heap[pb]? = some (.cells #[.pointer (some ⟨mb,0,none⟩)] 31 (0,0))) (hb:W.heap[mb]? = some (.cells (mkV vt m vb vp vi) 67 (0,0))):
  Calls Tryz.prog 46 #[.int .i64 p,.pointer (some ⟨pb,0,none⟩)] W fun e W'=>e=.returned (.tuple #[])∧W'=W.setCell ⟨mb,4,none⟩ (.int .i64 p):=by
 have c0:W.cell? ⟨pb,0,none⟩=some (.pointer (some ⟨mb,0,none⟩)):=aA0 (j:=0) hp rfl;have c4:W.cell? ⟨mb,4,none⟩=some (.int .i64 m.la):=aA0 (j:=4) hb rfl;have f4:=aB0 (j:=4) hb;clear hp hb;go_enter Tryz.func46,Tryz.ntmps46;go_wp2_with fail;refine bodyPost_end (results_none rfl _ _ _) rfl ?_;exact ⟨rfl,rfl⟩
set_option maxRecDepth 100000 in
theorem kF1 (h:MkOld w mb bt pb vp vi):TellS 46 #[] #[.pointer (some ⟨pb,0,none⟩)] base (MkS F base mb bt ct pb m vp vi) where
 enters:=fun _ _=>by rfl
 tells:=fun {W sp ts v l} hs hb p _ _=>by
  obtain ⟨vb,hsp⟩:=hs.spot;subst hsp;have hbox:W.heap[mb]? = some (.cells (mkV (.slice (some ⟨bt,0,none⟩) m.rs.length ct) (laM m ts) v vp vi) 67 (0,0)):=hb.box;refine (rM1 pb W _ v vp vi (laM m ts) p hs.ptr hbox).mono ?_;rintro e W' ⟨rfl,rfl⟩;have ho:=aQ0 W ⟨mb,4,none⟩ (.int .i64 p);have e1:laM m (ts++[p])={ m with la:=p }:=by unfold laM;rw [mE0]
  have hb4:(W.setCell ⟨mb,4,none⟩ (.int .i64 p)).heap[mb]? = some (.cells (mkV (.slice (some ⟨bt,0,none⟩) m.rs.length ct) { m with la:=p } v vp vi) 67 (0,0)):=aK0 (j:=4) (.int .i64 p) hbox;refine ⟨rfl,spM F mb bt ct (laM m (ts++[p])) vb vp vi,rfl,rfl,?_,?_,ho⟩
  ·rw [e1];exact ⟨by show 7<14;decide,hb.ty,hb4,aI0 hb.all ho (fun k hk e=>aG0 hb.all hbox (by decide) (hk.trans (congrArg some e))),fun j hj=>Nat.lt_of_lt_of_le (hb.lim j hj) ho.size,hb.far⟩
  ·exact ⟨⟨vb,rfl⟩,⟨v,by rw [e1];exact hb4⟩,eI0 hs.tab ho h.ne.1,aI0 hs.pk ho (fun k hk e=>aG0 hs.pk hbox (by decide) (hk.trans (congrArg some e))),aI0 hs.ids ho (fun k hk e=>aG0 hs.ids hbox (by decide) (hk.trans (congrArg some e))),aE0 hs.ptr ho h.ne.2⟩
end
theorem fA1 (F:Nat→Prop) (base mb bt ct pb:Nat) (m:Mkt) (vb vp vi:Value) (o:Ord) (w:World) (h:MkIs w F base mb bt ct m vb vp vi) (hp:w.heap[pb]? = some (.cells #[.pointer (some ⟨mb,0,none⟩)] 31 (0,0))) (hL:m.L.length≤100) (hok:LOk m.L) (hbs:base≤w.heap.size) (hr:0<m.rs.length) (hside:o.side=1∨o.side=2) (hq:1≤o.qty∧o.qty≤1000000):
  Calls Tryz.prog 44 #[.pointer (some ⟨mb,7,none⟩),.agg #[.int .i64 o.id,.int .i64 o.side,.int .i64 o.kind,.int .i64 o.price,.int .i64 o.qty],.func (.func 45) #[.pointer (some ⟨mb,0,none⟩)] #[],.func (.func 46) #[] #[.pointer (some ⟨pb,0,none⟩)]] w
   fun e w'=>∃vf v',e=.returned (.tuple #[vf,.agg #[.int .i64 o.id,.int .i64 o.side,.int .i64 o.kind,.int .i64 o.price,.int .i64 (bM0 m o).1.q],.bool (bM0 m o).2])∧w'.ownsRow w.heap.size 115 4 vf (bM0 m o).1.fs.length (fV (bM0 m o).1.fs)
    ∧MkIs w' F base mb bt ct { m with L:=(bM0 m o).1.L,la:=bW0 m.la (bM0 m o).1.ts } v' vp vi∧Out (fun j=>j=mb) w w':=by
 have hold:MkOld w mb bt pb vp vi:=⟨lt_of_block h.box,by
  have h1:=(h.tab.row hr).1;exact World.block_lt_of_cell? w _ h1,lt_of_block hp,⟨h.tne,cV0 hp h.box (by decide)⟩,fun j hj=>(h.pk.lt j hj).2,fun j hj=>(h.ids.lt j hj).2⟩
 have hst:MkS F base mb bt ct pb m vp vi w (spM F mb bt ct m vb vp vi) []:=⟨⟨vb,rfl⟩,⟨vb,h.box⟩,h.tab,h.pk,h.ids,hp⟩;refine (oV1 base (spM F mb bt ct m vb vp vi) vb m.L o _ _ _ _ _ _ (alM m) (MkS F base mb bt ct pb m vp vi) w h.book hbs hL hok hside (by omega) (rL1 hold) oW1 (kF1 hold) hst).mono ?_;rintro e w' ⟨s,b,vf,v',sp',hm,rfl,hf,hb,hs,ho,_,_⟩;have hm':bM0 m o=(s,b):=hm;rw [hm'];obtain ⟨vb1,hsp⟩:=hs.spot;subst hsp;exact ⟨vf,v',rfl,hf,⟨hb.box,hs.tab,h.tne,hb.all,hs.pk,hs.ids,hb.lim,hb.far,h.farp,h.fari⟩,ho⟩
def cR0 (w:World) (a:Option Addr) (l:List Ord):Prop:=∀k,k<l.length→∃b off,a=some ⟨b,off,none⟩∧w.cell? ⟨b,off+k*5,none⟩=some (.int .i64 (oAt l k).id)∧w.cell? ⟨b,off+k*5+1,none⟩=some (.int .i64 (oAt l k).side)∧w.cell? ⟨b,off+k*5+2,none⟩=some (.int .i64 (oAt l k).kind)∧w.cell? ⟨b,off+k*5+3,none⟩=some (.int .i64 (oAt l k).price)∧w.cell? ⟨b,off+k*5+4,none⟩=some (.int .i64 (oAt l k).qty)
theorem cE0 {w w':World} {p:Addr} {v:Value} (hb:Below w.heap.size w w') (h:w.cell? p=some v):w'.cell? p=some v:=(hb.cell (World.block_lt_of_cell? w _ h)).trans h
theorem cR0.below {w w':World} {a:Option Addr} {l:List Ord} (h:cR0 w a l) (hb:Below w.heap.size w w'):cR0 w' a l:=fun k hk=>by
 obtain ⟨b,off,e,h0,h1,h2,h3,h4⟩:=h k hk;exact ⟨b,off,e,cE0 hb h0,cE0 hb h1,cE0 hb h2,cE0 hb h3,cE0 hb h4⟩
theorem cR0.of_row {w:World} {base:Nat} {v:Value} {l:List Ord} (h:w.ownsRow base 41 5 v l.length (oV l)):∃a cap,v=.slice a l.length cap∧cR0 w a l:=by
 obtain ⟨a,cap,rfl,_,_⟩:=aW0 h;refine ⟨a,cap,rfl,fun k hk=>?_⟩;obtain ⟨g,cap',e,h0,h1,h2,h3,h4⟩:=cD0 h hk;simp only [Value.slice.injEq,true_and] at e;exact ⟨g,0,e.1,by simpa using h0,by simpa using h1,by simpa using h2,by simpa using h3,by simpa using h4⟩
theorem bD0 (w:World) (o:Obj):Below w.heap.size w (w.alloc o):=(Below.refl _ _).alloc lR7 o
theorem aS0 {w w1 w2:World} (h:Below w.heap.size w w1) (h1:Below w1.heap.size w1 w2):Below w.heap.size w w2:=h.trans (h1.mono h.size)
theorem aP0 {w:World} {b j:Nat} {vs:Array Value} {t:TypeId} {v:Value} (h:w.heap[b]? = some (.cells vs t (0,0))) (hj:vs[j]? = some v):w.cell? ⟨b,j,none⟩=some v:=(cell_of_row w b j vs t (0,0) h).trans hj
theorem bT0 {w:World} {b j:Nat} {vs:Array Value} {t:TypeId} (h:w.heap[b]? = some (.cells vs t (0,0))):w.frozen? ⟨b,j,none⟩=false:=frozen_of_row w b j vs t h
theorem dF0 {w:World} {b j:Nat} {vs:Array Value} {t:TypeId} (u:Value) (h:w.heap[b]? = some (.cells vs t (0,0))):(w.setCell ⟨b,j,none⟩ u).heap[b]? = some (.cells (vs.setIfInBounds j u) t (0,0)):=heap_setCell_same w b j vs t u h
theorem eA0 {w w':World} {b:Nat} {o:Obj} (h:w.heap[b]? = some o) (hb:Below w.heap.size w w'):w'.heap[b]? = some o:=(hb.block b (lt_of_block h)).trans h
theorem Tryz.infoInt:(Tryz.prog.info? 3).map (fun i=>(i.zero,i.size,i.bytes))=some (some (.int .i64 0),1,8):=by kernel_rfl
def ints (l:List Int):List Value:=l.map (Value.int .i64)
theorem fB1 (l:List Int) (x:Int):ints (l++[x])=ints l++[.int .i64 x]:=by simp [ints]
theorem xF0 {l:List Int} {k:Nat} (h:k<l.length):(ints l)[k]? = some (.int .i64 (l.getD k 0)):=by simp [ints,h]
theorem xG0 {l:List Ord} {more:Int} (h:0<more):cA0 l more 0=[more]:=by simp [cA0,bA0,h]
theorem xH0 {l:List Ord} {more:Int} (h:¬0<more):cA0 l more 0=[]:=by simp [cA0,bA0,h]
theorem xI0 (l:List Ord) (more:Int) (k:Nat) (hk:k≤l.length):(cA0 l more k).length≤k+1:=by
 have:=oR0 (l.take k) more;rw [List.length_take] at this;unfold cA0;omega
theorem kG1 {ys:List Int} {k:Nat} (h:fstB ys k=false):dJ0 ys (k+1)=dJ0 ys k:=by rw [jK0,if_neg (by rw [h];decide)]
theorem fC1 {ys:List Int} {k:Nat} (h:fstB ys k=true):dJ0 ys (k+1)=dJ0 ys k++[ys.getD k 0]:=by rw [jK0,if_pos h]
theorem fD1 (ys:List Int) (k:Nat):fstB ys (k+1)=!(ys.getD k 0 == ys.getD (k+1) 0):=by simp [fstB]
theorem rN1 {l:List Ord} {j:Nat} {p:Int} (h:j<l.length) (hb:eF0 p (oAt l j)=false):demO p (l.take (j+1))=demO p (l.take j):=by rw [uH0 p h,hb];simp
theorem oX1 {l:List Ord} {j:Nat} {p:Int} (h:j<l.length) (hb:eF0 p (oAt l j)=true):demO p (l.take (j+1))=demO p (l.take j)+(oAt l j).qty:=by rw [uH0 p h,hb];simp
theorem rO1 {l:List Ord} {j:Nat} {p:Int} (h:j<l.length) (hb:cN0 p (oAt l j)=false):supO p (l.take (j+1))=supO p (l.take j):=by rw [uI0 p h,hb];simp
theorem oY1 {l:List Ord} {j:Nat} {p:Int} (h:j<l.length) (hb:cN0 p (oAt l j)=true):supO p (l.take (j+1))=supO p (l.take j)+(oAt l j).qty:=by rw [uI0 p h,hb];simp
theorem kH1 {p:Int} {o:Ord} (h:okO o=false):eF0 p o=false:=by unfold eF0;rw [h];rfl
theorem fE1 {p:Int} {o:Ord} (h:okO o=false):cN0 p o=false:=by unfold cN0;rw [h];rfl
theorem fF1 {p:Int} {o:Ord} (h:o.side=2):eF0 p o=false:=by unfold eF0;rw [h];simp
theorem bX1 {p:Int} {o:Ord} (h:o.side=1):cN0 p o=false:=by unfold cN0;rw [h];simp
theorem oZ1 {p:Int} {o:Ord} (h:okO o=true) (h1:o.side=1) (h2:o.kind=2):eF0 p o=true:=by unfold eF0;rw [h,h1,h2];simp
theorem kI1 {p:Int} {o:Ord} (h:okO o=true) (h1:o.side=2) (h2:o.kind=2):cN0 p o=true:=by unfold cN0;rw [h,h1,h2];simp
theorem kJ1 {p:Int} {o:Ord} (h:okO o=true) (h1:o.side=1) (h2:p≤o.price):eF0 p o=true:=by unfold eF0;rw [h,h1];simp [h2]
theorem fG1 {p:Int} {o:Ord} (h:okO o=true) (h1:o.side=2) (h2:o.price≤p):cN0 p o=true:=by unfold cN0;rw [h,h1];simp [h2]
theorem kK1 {p:Int} {o:Ord} (h1:¬o.kind=2) (h2:¬p≤o.price):eF0 p o=false:=by unfold eF0;simp [h1,h2]
theorem fH1 {p:Int} {o:Ord} (h1:¬o.kind=2) (h2:¬o.price≤p):cN0 p o=false:=by unfold cN0;simp [h1,h2]
theorem bP0 {w:World} {base base':Nat} {e:TypeId} {size:Nat} {v:Value} {n:Nat} {xs:List Value} (h:w.ownsRow base e size v n xs) (hb:base'≤base):w.ownsRow base' e size v n xs:=
 ⟨h.1,h.2.imp id (fun ⟨g,cap,cur,e,hg,r⟩=>⟨g,cap,cur,e,Nat.le_trans hb hg,r⟩)⟩
def ptOf (l:List Ord) (p:Int):Pt:=⟨p,demO p l,supO p l⟩
def gS0 (w:World) (a:Option Addr) (l:List Pt):Prop:=∀k,k<l.length→∃b off,a=some ⟨b,off,none⟩∧w.cell? ⟨b,off+k*3,none⟩=some (.int .i64 (ptAt l k).price)∧w.cell? ⟨b,off+k*3+1,none⟩=some (.int .i64 (ptAt l k).dem)∧w.cell? ⟨b,off+k*3+2,none⟩=some (.int .i64 (ptAt l k).sup)
theorem gS0.below {w w':World} {a:Option Addr} {l:List Pt} (h:gS0 w a l) (hb:Below w.heap.size w w'):gS0 w' a l:=fun k hk=>by
 obtain ⟨b,off,e,h0,h1,h2⟩:=h k hk;exact ⟨b,off,e,cE0 hb h0,cE0 hb h1,cE0 hb h2⟩
theorem gS0.of_row {w:World} {base:Nat} {t:TypeId} {v:Value} {l:List Pt} (h:w.ownsRow base t 3 v l.length (ptV l)):∃a cap,v=.slice a l.length cap∧gS0 w a l:=by
 obtain ⟨a,cap,rfl,_,_⟩:=aW0 h;refine ⟨a,cap,rfl,fun k hk=>?_⟩;obtain ⟨g,cap',e,h0,h1,h2⟩:=zL0 h hk;simp only [Value.slice.injEq,true_and] at e;exact ⟨g,0,e.1,by simpa using h0,by simpa using h1,by simpa using h2⟩
def gI0 (w:World) (qb:Nat):Prop:=w.heap[qb]? = some (.cells #[.int .i64 0,.int .i64 0,.int .i64 0] 69 (0,0))
theorem gI0.below {w w':World} {qb:Nat} (h:gI0 w qb) (hb:Below w.heap.size w w'):gI0 w' qb:=eA0 h hb
end Go.Proofs.YtjdkagafdnchhaaGreatDoor
namespace Go.Proofs.YtjdkagafdnchhaaGreatDoor
open Go.Shelf
def lays191_ren:Go.Shelf.Ren:=⟨fun | 191=>158 | 189=>193 | 125=>201 | 257=>200 | 128=>214 | 129=>215 | 294=>205 | 295=>206 | 296=>207 | 297=>208 | 298=>209 | 299=>210 | 216=>211 | 300=>212 | 301=>213 | 328=>216 | 329=>217 | 330=>218 | 331=>219 | 332=>220 | 215=>221 | 343=>222 | n=>n,fun | 28=>65 | 0=>0 | 3=>3 | 46=>208 | 51=>283 | 53=>285 | 4=>4 | 183=>276 | 182=>275 | 131=>280 | 5=>5 | 9=>9 | 218=>286 | 222=>290 | 228=>292 | 229=>57 | n=>n,fun | n=>n⟩
theorem fI1:Go.Proofs.Lays.n191 Tryz.prog lays191_ren:={
 mixed:=by kernel_rfl
 f125:=Tryz.func201.trans (congrArg some (by kernel_rfl))
 f128:=Tryz.func214.trans (congrArg some (by kernel_rfl))
 f129:=Tryz.func215.trans (congrArg some (by kernel_rfl))
 f189:=Tryz.func193.trans (congrArg some (by kernel_rfl))
 f191:=Tryz.func158.trans (congrArg some (by kernel_rfl))
 f215:=Tryz.func221.trans (congrArg some (by kernel_rfl))
 f216:=Tryz.func211.trans (congrArg some (by kernel_rfl))
 f257:=Tryz.func200.trans (congrArg some (by kernel_rfl))
 f294:=Tryz.func205.trans (congrArg some (by kernel_rfl))
 f295:=Tryz.func206.trans (congrArg some (by kernel_rfl))
 f296:=Tryz.func207.trans (congrArg some (by kernel_rfl))
 f297:=Tryz.func208.trans (congrArg some (by kernel_rfl))
 f298:=Tryz.func209.trans (congrArg some (by kernel_rfl))
 f299:=Tryz.func210.trans (congrArg some (by kernel_rfl))
 f300:=Tryz.func212.trans (congrArg some (by kernel_rfl))
 f301:=Tryz.func213.trans (congrArg some (by kernel_rfl))
 f328:=Tryz.func216.trans (congrArg some (by kernel_rfl))
 f329:=Tryz.func217.trans (congrArg some (by kernel_rfl))
 f330:=Tryz.func218.trans (congrArg some (by kernel_rfl))
 f331:=Tryz.func219.trans (congrArg some (by kernel_rfl))
 f332:=Tryz.func220.trans (congrArg some (by kernel_rfl))
 f343:=Tryz.func222.trans (congrArg some (by kernel_rfl))
 t0:=Tryz.underlying0
 a0:=Tryz.isAgg0
 z0:=Tryz.sizeOf0
 v0:=Tryz.zeroValue0
 t3:=Tryz.underlying3
 a3:=Tryz.isAgg3
 z3:=Tryz.sizeOf3
 v3:=Tryz.zeroValue3
 t4:=Tryz.underlying4
 a4:=Tryz.isAgg4
 z4:=Tryz.sizeOf4
 v4:=Tryz.zeroValue4
 t5:=Tryz.underlying5
 a5:=Tryz.isAgg5
 z5:=Tryz.sizeOf5
 v5:=Tryz.zeroValue5
 t9:=Tryz.underlying9
 a9:=Tryz.isAgg9
 z9:=Tryz.sizeOf9
 v9:=Tryz.zeroValue9
 t28:=Tryz.underlying65
 a28:=Tryz.isAgg65
 z28:=Tryz.sizeOf65
 v28:=Tryz.zeroValue65
 t46:=Tryz.underlying208
 a46:=Tryz.isAgg208
 z46:=Tryz.sizeOf208
 v46:=Tryz.zeroValue208
 t51:=Tryz.underlying283
 a51:=Tryz.isAgg283
 z51:=Tryz.sizeOf283
 v51:=Tryz.zeroValue283
 t53:=Tryz.underlying285
 a53:=Tryz.isAgg285
 z53:=Tryz.sizeOf285
 v53:=Tryz.zeroValue285
 t131:=Tryz.underlying280
 a131:=Tryz.isAgg280
 z131:=Tryz.sizeOf280
 v131:=Tryz.zeroValue280
 t182:=Tryz.underlying275
 a182:=Tryz.isAgg275
 z182:=Tryz.sizeOf275
 v182:=Tryz.zeroValue275
 t183:=Tryz.underlying276
 a183:=Tryz.isAgg276
 z183:=Tryz.sizeOf276
 v183:=Tryz.zeroValue276
 t218:=Tryz.underlying286
 a218:=Tryz.isAgg286
 z218:=Tryz.sizeOf286
 v218:=Tryz.zeroValue286
 t222:=Tryz.underlying290
 a222:=Tryz.isAgg290
 z222:=Tryz.sizeOf290
 v222:=Tryz.zeroValue290
 t228:=Tryz.underlying292
 a228:=Tryz.isAgg292
 z228:=Tryz.sizeOf292
 v228:=Tryz.zeroValue292
 t229:=Tryz.underlying57
 a229:=Tryz.isAgg57
 z229:=Tryz.sizeOf57
 v229:=Tryz.zeroValue57 }
open Go.Sort Go.RowKit in
theorem sort_Ints (blk off cap:Nat) (zs:List Int) (w:World) (hH:Holds (Value.int .i64) w blk off zs.toArray) (hblk:blk<w.heap.size) (hsz:zs.length<4611686018427387904):
  Calls Tryz.prog 158 #[.slice (some ⟨blk,off,none⟩) zs.length cap] w fun e w'=>
   e=.returned (.tuple #[])∧∃n os,w'=grow (putRow (Value.int .i64) (Sort.ahead w n) blk off (zs.mergeSort fun x y=>decide (x≤y)).toArray) os:=Any.sort_Ints fI1 blk off cap zs w hH hblk hsz
open Go.RowKit Go.Sort in
theorem sort_Ints_none (p:Option Addr) (cap:Nat) (w:World):
  Calls Tryz.prog 158 #[.slice p 0 cap] w fun e w'=>e=.returned (.tuple #[])∧w'=w:=Any.sort_Ints_none fI1 p cap w
end Go.Proofs.YtjdkagafdnchhaaGreatDoor
namespace Go.Proofs.YtjdkagafdnchhaaGreatDoor
open Go.RowKit
theorem Tryz.infoPt:(Tryz.prog.info? 238).map (fun i=>(i.zero,i.size,i.bytes))=some (some (.agg #[.int .i64 0,.int .i64 0,.int .i64 0]),3,24):=by kernel_rfl
set_option maxHeartbeats 400000 in
theorem cuIn (n lo hi:Int) (w:World):
  Calls Tryz.prog 39 #[.int .i64 n,.int .i64 lo,.int .i64 hi] w fun e w'=>e=.returned (.bool (inC lo hi n))∧w'=w:=by
 go_enter Tryz.func39,Tryz.ntmps39;go_wp2
 all_goals
  go_ret;refine ⟨?_,rfl⟩;have e:∀{a b:Bool},a=b→Ending.returned (.bool a)=.returned (.bool b):=fun h=>by rw [h]
  exact e (by unfold inC;first | (simp [*];done) | (simp [*];omega))
set_option maxHeartbeats 400000 in
theorem cuOk (o:Ord) (w:World):
  Calls Tryz.prog 157 #[.agg #[.int .i64 o.id,.int .i64 o.side,.int .i64 o.kind,.int .i64 o.price,.int .i64 o.qty]] w fun e w'=>e=.returned (.bool (okO o))∧Below w.heap.size w w':=by
 go_enter Tryz.func157,Tryz.ntmps157;go_wp2_with fail;refine (cuIn _ _ _ _).mono ?_;rintro e w1 ⟨rfl,hw⟩;subst hw;cases h:inC 1 2 o.side with
 | false=>
  have HO:Hid (okO o=false):=by unfold okO;rw [h];rfl
  clear h;go_wp2_with fail;go_ret;exact ⟨by rw [HO.out];rfl,bD0 w _⟩
 | true=>
  have HO:Hid (okO o=inC 1 1000000 o.qty):=by unfold okO;rw [h];rfl
  clear h;go_wp2_with fail;refine (cuIn _ _ _ _).mono ?_;rintro e w1 ⟨rfl,hw⟩;subst hw;go_wp2_with fail;go_ret;exact ⟨by rw [HO.out];rfl,bD0 w _⟩
theorem rP1 {base:Nat} {v:Value} {xs:List Int} {w:World} (h:w.ownsRow base 3 1 v xs.length (ints xs)) (hl:xs.length≤100000):
  Calls Tryz.prog 158 #[v] w fun e w'=>e=.returned (.tuple #[])∧w'.ownsRow base 3 1 v xs.length (ints (eJ0 xs))∧w.grownBy w' v.ownBlock:=by
 rcases h.2 with ⟨rfl,hx⟩ | ⟨g,cap,cur,rfl,hg,hh,h1,h2,h3,h4⟩
 ·have e0:xs=[]:=by
   cases xs with
   | nil=>rfl
   | cons x xs=>cases hx
  subst e0;refine (sort_Ints_none none 0 w).mono fun e w' ⟨he,hw⟩=>⟨he,?_,?_⟩
  ·rw [hw,show ints (eJ0 [])=[] by simp [eJ0,ints]];exact World.ownsRow_nil _ _ _ _
  ·rw [hw];exact ⟨rfl,rfl,rfl,lR7,fun _ _ _=>rfl⟩
 ·have ht:cur.toList.take xs.length=xs.map (Value.int .i64):=by simpa [ints] using h4
  refine (sort_Ints g 0 cap xs w (holds_of_blockI hh ht) (lt_of_block hh) (by omega)).mono fun e w' ⟨he,n,os,hw⟩=>⟨he,?_,?_⟩
  ·rw [hw];exact ownsRow_sortedI (ts:=eJ0 xs) (fX0 xs) hg hh h1 h2 h3
  ·rw [hw];exact grownBy_sortedI _
end Go.Proofs.YtjdkagafdnchhaaGreatDoor
