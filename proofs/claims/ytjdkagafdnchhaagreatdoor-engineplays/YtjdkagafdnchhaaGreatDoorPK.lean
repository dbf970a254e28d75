/- A part of the proof of EnginePlays. -/
import Derived.Test.YtjdkagafdnchhaaGreatDoorPA
import Derived.Test.YtjdkagafdnchhaaGreatDoorPF
import Derived.Test.YtjdkagafdnchhaaGreatDoorPH
import Derived.Test.YtjdkagafdnchhaaGreatDoorPJ
import Derived.Deep.RegionHeld3
namespace Go.Proofs.YtjdkagafdnchhaaGreatDoor
open Go.RowKit
theorem lC0 {W W':World} {p:Addr} {v:Value} (h:W.cell? p=some v) (hb:Below W.heap.size W W'):W'.cell? p=some v:=(hb.cell (World.block_lt_of_cell? W p h)).trans h
set_option maxHeartbeats 400000 in
theorem oT1 (id sd kd pr qt side:Int) (b:Nat) (w:World) (h:w.cell? ⟨b,0,none⟩=some (.int .i64 side)) (hp:-1000000000≤pr∧pr≤1000000000):
  Calls Tryz.prog 76 #[.agg #[.int .i64 id,.int .i64 sd,.int .i64 kd,.int .i64 pr,.int .i64 qt],.pointer (some ⟨b,0,none⟩)] w fun e w'=>e=.returned (.int .i64 (lU0 side kd pr))∧Below w.heap.size w w':=by
 have hb:b<w.heap.size:=World.block_lt_of_cell? w _ h
 by_cases hk:kd=2
 ·subst hk;go_enter Tryz.func76,Tryz.ntmps76;go_wp2_with fail;go_ret;exact ⟨rfl,(Below.refl _ _).alloc lR7 _⟩
 ·have hkb:(kd == 2)=false:=beq_eq_false_iff_ne.2 hk;have HK:Hid (¬kd=2):=hk;clear hk
  by_cases hs:side=1
  ·subst hs;go_enter Tryz.func76,Tryz.ntmps76;go_wp2_with fail;go_ret;exact ⟨by unfold lU0;rw [if_neg HK.out,if_pos rfl];rfl,(Below.refl _ _).alloc lR7 _⟩
  ·have hsb:(side == 1)=false:=beq_eq_false_iff_ne.2 hs;have HSd:Hid (¬side=1):=hs;clear hs;go_enter Tryz.func76,Tryz.ntmps76;go_wp2_with fail;go_ret;exact ⟨by unfold lU0;rw [if_neg HK.out,if_neg HSd.out];rfl,(Below.refl _ _).alloc lR7 _⟩
set_option maxRecDepth 100000 in
set_option maxHeartbeats 4000000 in
theorem kC1 (W:World) (rb ob sb g N cap i j:Nat) (side:Int) (x y:Ord) (hi:i<N) (hj:j<N) (hr:W.cell? ⟨rb,0,none⟩=some (.func (.func 76) #[] #[.pointer (some ⟨sb,0,none⟩)])) (ho:W.cell? ⟨ob,0,none⟩=some (.slice (some ⟨g,0,none⟩) N cap)) (hs:W.cell? ⟨sb,0,none⟩=some (.int .i64 side))
  (x0:W.cell? ⟨g,i*5,none⟩=some (.int .i64 x.id)) (x1:W.cell? ⟨g,i*5+1,none⟩=some (.int .i64 x.side)) (x2:W.cell? ⟨g,i*5+2,none⟩=some (.int .i64 x.kind)) (x3:W.cell? ⟨g,i*5+3,none⟩=some (.int .i64 x.price)) (x4:W.cell? ⟨g,i*5+4,none⟩=some (.int .i64 x.qty))
  (y0:W.cell? ⟨g,j*5,none⟩=some (.int .i64 y.id)) (y1:W.cell? ⟨g,j*5+1,none⟩=some (.int .i64 y.side)) (y2:W.cell? ⟨g,j*5+2,none⟩=some (.int .i64 y.kind)) (y3:W.cell? ⟨g,j*5+3,none⟩=some (.int .i64 y.price)) (y4:W.cell? ⟨g,j*5+4,none⟩=some (.int .i64 y.qty))
  (hx:-1000000000≤x.price∧x.price≤1000000000) (hy:-1000000000≤y.price∧y.price≤1000000000):
  Calls Tryz.prog 78 (#[.int .i64 i,.int .i64 j]++#[.pointer (some ⟨rb,0,none⟩),.pointer (some ⟨ob,0,none⟩)]) W fun e W'=>e=.returned (.bool (decide (lU0 side x.kind x.price<lU0 side y.kind y.price)))∧Below W.heap.size W W':=by
 have q0:(0:Int)≤(i:Int):=by omega
 have q1:(i:Int)<N:=by omega
 have q2:(0:Int)≤(j:Int):=by omega
 have q3:(j:Int)<N:=by omega
 have HB0:Below W.heap.size W W:=Below.refl _ _;show Calls Tryz.prog 78 #[.int .i64 i,.int .i64 j,.pointer (some ⟨rb,0,none⟩),.pointer (some ⟨ob,0,none⟩)] W _;go_enter Tryz.func78,Tryz.ntmps78;go_wp2_with fail
 go_region_held3 (fun w'=>w'.cell? ⟨rb,0,none⟩=some (.func (.func 76) #[] #[.pointer (some ⟨sb,0,none⟩)])∧w'.cell? ⟨ob,0,none⟩=some (.slice (some ⟨g,0,none⟩) N cap)∧w'.cell? ⟨sb,0,none⟩=some (.int .i64 side)∧w'.cell? ⟨g,i*5,none⟩=some (.int .i64 x.id)∧w'.cell? ⟨g,i*5+1,none⟩=some (.int .i64 x.side)∧w'.cell? ⟨g,i*5+2,none⟩=some (.int .i64 x.kind)∧w'.cell? ⟨g,i*5+3,none⟩=some (.int .i64 x.price)∧w'.cell? ⟨g,i*5+4,none⟩=some (.int .i64 x.qty)∧w'.cell? ⟨g,j*5,none⟩=some (.int .i64 y.id)∧w'.cell? ⟨g,j*5+1,none⟩=some (.int .i64 y.side)∧w'.cell? ⟨g,j*5+2,none⟩=some (.int .i64 y.kind)∧w'.cell? ⟨g,j*5+3,none⟩=some (.int .i64 y.price)∧w'.cell? ⟨g,j*5+4,none⟩=some (.int .i64 y.qty))
  (first | go_keep | (go_split_ands;refine ⟨?_,?_,?_,?_,?_,?_,?_,?_,?_,?_,?_,?_,?_⟩ <;> (refine lC0 ?_ hbk;assumption)))
  (first | (go_at_call 76;refine (oT1 _ _ _ _ _ side sb _ (by go_split_ands;assumption) (by assumption)).mono ?_;rintro e w5 ⟨rfl,hbk⟩;first | (have hbz:Below W.heap.size W w5:=HB0.drew.trans hbk) | (have hbz2:Below W.heap.size W w5:=hbz.trans (hbk.mono hbz.size))))
 go_wp2;go_ret;exact ⟨rfl,hbz2⟩
theorem bT1 (w0:World) (rb ob sb g C N cap:Nat) (side:Int) (F:List Ord) (hp:∀k,-1000000000≤(oAt F k).price∧(oAt F k).price≤1000000000) (hr:w0.cell? ⟨rb,0,none⟩=some (.func (.func 76) #[] #[.pointer (some ⟨sb,0,none⟩)])) (ho:w0.cell? ⟨ob,0,none⟩=some (.slice (some ⟨g,0,none⟩) N cap)) (hs:w0.cell? ⟨sb,0,none⟩=some (.int .i64 side)) (h1:rb≠g) (h2:ob≠g) (h3:sb≠g):
  iI0 Tryz.prog 78 #[.pointer (some ⟨rb,0,none⟩),.pointer (some ⟨ob,0,none⟩)] w0 g C N (fun x=>(oAt F x).vals) (fun x=>lU0 side (oAt F x).kind (oAt F x).price):=by
 intro W t hm i j hi hj;have keep:∀{b:Nat} {v:Value},b≠g→w0.cell? ⟨b,0,none⟩=some v→W.cell? ⟨b,0,none⟩=some v:=fun {b v} hb hv=>(World.cell?_of_block (w:=w0) (a:=⟨b,0,none⟩) (hm.block b (World.block_lt_of_cell? w0 _ hv) hb)).trans hv
 exact kC1 W rb ob sb g N cap i j side (oAt F (t i)) (oAt F (t j)) hi hj (keep h1 hr) (keep h2 ho) (keep h3 hs)
  (hm.row.cell hi (j:=0) (by decide)).1 (hm.row.cell hi (j:=1) (by decide)).1 (hm.row.cell hi (j:=2) (by decide)).1 (hm.row.cell hi (j:=3) (by decide)).1 (hm.row.cell hi (j:=4) (by decide)).1
  (hm.row.cell hj (j:=0) (by decide)).1 (hm.row.cell hj (j:=1) (by decide)).1 (hm.row.cell hj (j:=2) (by decide)).1 (hm.row.cell hj (j:=3) (by decide)).1 (hm.row.cell hj (j:=4) (by decide)).1
  (hp _) (hp _)
theorem pD0 {side:Int} {l:List Ord} {k:Nat} (h:k<l.length):aX0 side (l.take (k+1))=aX0 side (l.take k)++(if (oAt l k).side == side then [oAt l k] else []):=by
 unfold aX0;rw [List.take_succ_eq_append_getElem h,List.filter_append,←dL0 h]
 by_cases e:((oAt l k).side == side)=true
 ·rw [if_pos e];simp [e]
 ·rw [if_neg e];simp [e]
theorem bU1 (side:Int) (l:List Ord) (k:Nat):(aX0 side (l.take k)).length≤l.length:=by
 unfold aX0;have h1:=List.length_filter_le (fun o:Ord=>o.side == side) (l.take k);have h2:=List.length_take_le' k l;omega
theorem uU0 {side:Int} {l:List Ord} (hp:∀o∈l,-1000000000≤o.price∧o.price≤1000000000) (k:Nat):-1000000000≤(oAt (aX0 side l) k).price∧(oAt (aX0 side l) k).price≤1000000000:=by
 by_cases h:k<(aX0 side l).length
 ·rw [dL0 h];exact hp _ (bH1 (List.getElem_mem h))
 ·have:oAt (aX0 side l) k=Ord.none_:=by simp [oAt,h]
  rw [this];decide
theorem xD0 {w:World} {base g N cap:Nat} {F:List Ord} (h:w.ownsRow base 41 5 (.slice (some ⟨g,0,none⟩) N cap) N (oV F)) (hF:F.length=N):RowT w g (cap*5) N (fun x=>(oAt F x).vals) (fun x=>x):=by
 rcases h.2 with ⟨h',_⟩ | ⟨g',cap',cur,h',_,hg,hnc,_,hcs,ht⟩
 ·simp at h'
 ·simp only [Value.slice.injEq,Option.some.injEq,Addr.mk.injEq,and_true,true_and] at h';obtain ⟨rfl,rfl⟩:=h';refine ⟨cur,hg,hcs,Nat.mul_le_mul_right 5 hnc,fun x hx j hj=>?_⟩
  have e:cur[x*5+j]? = (oV F)[x*5+j]? :=by
   rw [←ht,List.getElem?_take,if_pos (by omega)];simp
  rw [e];obtain ⟨a0,a1,a2,a3,a4⟩:=iO1 (l:=F) (k:=x) (by omega)
  match j,hj with
  | 0,_=>exact a0
  | 1,_=>exact a1
  | 2,_=>exact a2
  | 3,_=>exact a3
  | 4,_=>exact a4
theorem bV1 (l:List Ord) (x j:Nat) (hx:x<l.length) (hj:j<5):(oV l)[x*5+j]? = (oAt l x).vals[j]? :=by
 obtain ⟨a0,a1,a2,a3,a4⟩:=iO1 hx
 match j,hj with
 | 0,_=>exact a0
 | 1,_=>exact a1
 | 2,_=>exact a2
 | 3,_=>exact a3
 | 4,_=>exact a4
theorem xE0 {w:World} {base g N cap:Nat} {F:List Ord} {u:Nat→Nat} (h:RowT w g (cap*5) N (fun x=>(oAt F x).vals) u) (hb:base≤g) (hc:N≤cap) (hm:cap≤maxLen):w.ownsRow base 41 5 (.slice (some ⟨g,0,none⟩) N cap) N (oV ((List.range N).map fun x=>oAt F (u x))):=by
 obtain ⟨cur,hg,hcs,_,hx⟩:=h;have hlen:((List.range N).map fun x=>oAt F (u x)).length=N:=by simp
 refine ⟨by rw [bR0,hlen],.inr ⟨g,cap,cur,rfl,hb,hg,hc,hm,hcs,?_⟩⟩;apply List.ext_getElem?;intro k;rw [List.getElem?_take]
 by_cases hk:k<N*5
 ·rw [if_pos hk];have e:k=k / 5*5+k % 5:=by omega
  have h1:k / 5<N:=by omega
  have h2:=hx (k / 5) h1 (k % 5) (by omega);have h3:=bV1 ((List.range N).map fun x=>oAt F (u x)) (k / 5) (k % 5) (by rw [hlen];exact h1) (by omega);rw [←e] at h2 h3;rw [h3];have h4:oAt ((List.range N).map fun x=>oAt F (u x)) (k / 5)=oAt F (u (k / 5)):=by simp [oAt,h1]
  rw [h4,←h2];simp
 ·rw [if_neg hk]
  symm
  rw [List.getElem?_eq_none_iff,bR0,hlen];omega
theorem eV1 {side:Int} {F:List Ord} {N:Nat} {u:Nat→Nat} (hF:F.length=N) (hr:Rea 0 N (fun x=>x) u) (hs:Srt (fun x=>lU0 side (oAt F x).kind (oAt F x).price) u 0 N):((List.range N).map fun x=>oAt F (u x))=iS0 (eS0 side) F:=by
 have h1:=bS1 hr hs;have h2:((List.range N).map fun x=>oAt F (u x))=((List.range N).map u).map (oAt F):=by rw [List.map_map];rfl
 rw [h2,h1,uT0 (rank:=eS0 side) (key:=fun x=>lU0 side (oAt F x).kind (oAt F x).price) (f:=oAt F) N (fun x _=>rfl)]
 congr 1
 apply List.ext_getElem?;intro k
 by_cases hk:k<N
 ·simp [hk,oAt,hF]
 ·simp [hk,hF]
theorem Tryz.infoOrd:(Tryz.prog.info? 41).map (fun i=>(i.zero,i.size,i.bytes))=some (some (.agg #[.int .i64 0,.int .i64 0,.int .i64 0,.int .i64 0,.int .i64 0]),5,40):=by kernel_rfl
theorem bW1 {w:World} {base b:Nat} {e t:TypeId} {size:Nat} {v:Value} {n:Nat} {xs:List Value} {vs:Array Value} {f:Nat×Nat} (h:w.ownsRow base e size v n xs) (hb:w.heap[b]? = some (.cells vs t f)) (ht:t≠e):v.ownBlock≠some b:=fun hv=>by
 rcases h.2 with ⟨rfl,_⟩ | ⟨g,cap,cur,rfl,_,hh,_⟩
 ·cases hv
 ·simp [Value.ownBlock] at hv;subst hv;rw [hb] at hh;injection hh with hh;injection hh with _ hh _;exact ht hh
theorem mV1 (w:World) (o o':Obj):((w.alloc o).alloc o').heap[w.heap.size+1]? = some o':=by
 have:=heap_alloc_new (w.alloc o) o'
 rwa [show (w.alloc o).heap.size=w.heap.size+1 by simp] at this
set_option maxRecDepth 4000 in
set_option maxHeartbeats 4000000 in
theorem eY0 (base:Nat) (sp:Spot) (v:Value) (l:List Ord) (side:Int) (w:World) (h:BookIs w base sp v l) (hl:l.length≤1000) (hp:∀o∈l,-1000000000≤o.price∧o.price≤1000000000):
  Calls Tryz.prog 29 #[.pointer (some ⟨sp.bb,sp.off,none⟩),.int .i64 side] w fun e w'=>∃v',e=.returned v'∧w'.ownsRow w.heap.size 41 5 v' (aJ0 side l).length (oV (aJ0 side l))∧Below w.heap.size w w':=by
 obtain ⟨i0,hi,hz0,hz1,hz2⟩:=info_parts Tryz.infoOrd;have c0:w.cell? ⟨sp.bb,sp.off,none⟩=some v:=h.cell;have lb:sp.bb<w.heap.size:=lt_of_block h.box;have HA:Hid (BookIs w base sp v l):=h;have HP:Hid (∀o∈l,-1000000000≤o.price∧o.price≤1000000000):=hp;obtain ⟨ao,cap,rfl,_,_⟩:=aW0 h.all;have HB0:Hid (Below w.heap.size w ((w.alloc (.cells #[.int .i64 side] 3)).alloc (.cells #[.slice none 0 0] 59))):=((Below.refl w.heap.size w).alloc lR7 _).alloc (by simp) _;have HS0:Hid (((w.alloc (.cells #[.int .i64 side] 3)).alloc (.cells #[.slice none 0 0] 59)).heap[w.heap.size]? = some (.cells #[.int .i64 side] 3 (0,0))):=(Below.heap_alloc _ _ _ (by simp)).trans (heap_alloc_new w _)
 have ho0:((w.alloc (.cells #[.int .i64 side] 3)).alloc (.cells #[.slice none 0 0] 59)).heap[w.heap.size+1]? = some (.cells #[.slice none 0 0] 59 (0,0)):=by
  have:=heap_alloc_new (w.alloc (.cells #[.int .i64 side] 3)) (.cells #[.slice none 0 0] 59)
  rwa [show (w.alloc (.cells #[.int .i64 side] 3)).heap.size=w.heap.size+1 by simp] at this
 have HO0:Hid (((w.alloc (.cells #[.int .i64 side] 3)).alloc (.cells #[.slice none 0 0] 59)).heap[w.heap.size+1]? = some (.cells #[.slice none 0 0] 59 (0,0))):=ho0;clear ho0;clear h hp;go_enter Tryz.func29,Tryz.ntmps29;go_wp2_with fail;go_loopw [14] (fun vi wr=>∃(k:Nat) (vo:Value),k≤l.length∧vi=.int .i64 k∧Below w.heap.size w wr∧wr.heap[w.heap.size]? = some (.cells #[.int .i64 side] 3 (0,0))∧wr.heap[w.heap.size+1]? = some (.cells #[vo] 59 (0,0))∧wr.ownsRow w.heap.size 41 5 vo (aX0 side (l.take k)).length (oV (aX0 side (l.take k)))) (fun vi _=>l.length - (intOf vi).toNat)
 case atStart=>exact ⟨0,_,Nat.zero_le _,rfl,HB0.out,HS0.out,HO0.out,World.ownsRow_nil _ _ _ _⟩
 case round=>
  obtain ⟨k,vo,hk,rfl,hb,hs,ho,hown⟩:=hrel;have HB:Hid (Below w.heap.size w wr):=hb;have HS:Hid _:=hs;have HO:Hid _:=ho;have HW:Hid (wr.ownsRow w.heap.size 41 5 vo (aX0 side (l.take k)).length (oV (aX0 side (l.take k)))):=hown;have s0:wr.cell? ⟨w.heap.size,0,none⟩=some (.int .i64 side):=cell_of_one hs;have o0:wr.cell? ⟨w.heap.size+1,0,none⟩=some vo:=cell_of_one ho;have lo:w.heap.size+1<wr.heap.size:=lt_of_block ho;have ls:w.heap.size<wr.heap.size:=lt_of_block hs;have hlen:=bU1 side l k;obtain ⟨vao,vcap,rfl,_,_⟩:=aW0 hown;clear hb hs ho hown HB0 HS0 HO0
  by_cases hk1:k<l.length
  ·obtain ⟨g,cap',hv,d0,d1,d2,d3,d4⟩:=cD0 (HA.out.below HB.out lR7).all hk1;simp only [Value.slice.injEq,true_and] at hv;obtain ⟨rfl,rfl⟩:=hv
   by_cases hx:(oAt l k).side=side
   ·have HT:Hid (aX0 side (l.take (k+1))=aX0 side (l.take k)++[oAt l k]):=by
     have:=pD0 (side:=side) hk1;rw [if_pos (by simpa using hx)] at this;exact this
    have hxb:((oAt l k).side == side)=true:=by simpa using hx
    clear hx;have A1:(Value.slice vao (aX0 side (l.take k)).length vcap).ownBlock≠some (w.heap.size+1):=bW1 HW.out HO.out (by decide);have A2:(Value.slice vao (aX0 side (l.take k)).length vcap).ownBlock≠some w.heap.size:=bW1 HW.out HS.out (by decide);go_wp2_with (at_builtin;go_loud (refine wpList_append_lies _ rfl _ _ 59 rfl w.heap.size 41 i0 (.agg #[.int .i64 0,.int .i64 0,.int .i64 0,.int .i64 0,.int .i64 0]) 5 40 Tryz.underlying59 hi hz0 hz1 hz2 rfl (by decide) (.slice vao (aX0 side (l.take k)).length vcap) (aX0 side (l.take k)).length (oV (aX0 side (l.take k))) rfl ((HW.out.alloc _).alloc _) ⟨wr.heap.size+1,0,none⟩ 1 1 [.int .i64 (oAt l k).id,.int .i64 (oAt l k).side,.int .i64 (oAt l k).kind,.int .i64 (oAt l k).price,.int .i64 (oAt l k).qty] rfl rfl (World.news_of_block (cs:=#[.int .i64 (oAt l k).id,.int .i64 (oAt l k).side,.int .i64 (oAt l k).kind,.int .i64 (oAt l k).price,.int .i64 (oAt l k).qty]) (t:=41) (fr:=(0,0)) (mV1 wr _ _)) (by simp [Value.oneCell']) (by decide) (by unfold maxLen;omega) (by omega) (Nat.le_trans HB.out.size (by simp;omega)) (wr.heap.size+2) (by simp) ?_);intro g2 cg w1 hown hgrow hat hlt;have hO1:=(hgrow.block (w.heap.size+1) (by simp;omega) (Ne.symm A1)).trans ((Below.heap_alloc _ _ _ (by simp;omega)).trans ((Below.heap_alloc _ _ _ lo).trans HO.out));have z1:=cell_of_one hO1;have z2:=free_of_one hO1);go_roundw
    case rel=>
     have hS1:=(hgrow.block w.heap.size (by simp;omega) (Ne.symm A2)).trans ((Below.heap_alloc _ _ _ (by simp;omega)).trans ((Below.heap_alloc _ _ _ ls).trans HS.out));have hB1:Below w.heap.size w w1:=((HB.out.alloc HB.out.size _).alloc (by simp;omega) _).grown hgrow (by simp;omega) (fun q hq=>(HW.out.lt q hq).1);refine ⟨k+1,_,hk1,by go_num,hB1.setCell (by simp) _,(Below.heap_setCell _ _ _ _ (by simp)).trans hS1,one_setCell hO1,?_⟩;rw [HT.out,List.length_append,List.length_singleton,cC0];exact ownsRow_setCell_other hown (bW1 hown hO1 (by decide)) _
    case measure=>simp [intOf];omega
   ·have HT:Hid (aX0 side (l.take (k+1))=aX0 side (l.take k)):=by
     have:=pD0 (side:=side) hk1;rw [if_neg (by simpa using hx),List.append_nil] at this;exact this
    have hxb:((oAt l k).side == side)=false:=beq_eq_false_iff_ne.2 hx;clear hx;go_wp2_with fail;go_roundw
    case rel=>exact ⟨k+1,_,hk1,by go_num,HB.out.alloc HB.out.size _,(Below.heap_alloc _ _ _ (lt_of_block HS.out)).trans HS.out,(Below.heap_alloc _ _ _ (lt_of_block HO.out)).trans HO.out,by rw [HT.out];exact HW.out.alloc _⟩
    case measure=>simp [intOf];omega
  ·obtain rfl:k=l.length:=by omega
   rw [List.take_length] at HW o0 HO hlen
   have hst:(store ⟨wr.heap.size,0,none⟩ (.func (.func 76) #[] #[.pointer (some ⟨w.heap.size,0,none⟩)])).run Tryz.prog (wr.alloc (.cells #[.nilFunc] 131))=.ok () ((wr.alloc (.cells #[.nilFunc] 131)).setCell ⟨wr.heap.size,0,none⟩ (.func (.func 76) #[] #[.pointer (some ⟨w.heap.size,0,none⟩)])):=by
    rw [run_store Tryz.prog _ _ _ _ (by rfl)];simp
   go_wp2_with fail;clear hst;obtain ⟨W,hW⟩:∃W,W=wr.alloc (.cells #[.func (.func 76) #[] #[.pointer (some ⟨w.heap.size,0,none⟩)]] 131):=⟨_,rfl⟩;have bW:Below wr.heap.size wr W:=by rw [hW];exact (Below.refl _ _).alloc lR7 _
   have rW:W.cell? ⟨wr.heap.size,0,none⟩=some (.func (.func 76) #[] #[.pointer (some ⟨w.heap.size,0,none⟩)]):=by rw [hW];exact World.cell?_alloc_at _ _ _ _ rfl
   have sW:=lC0 s0 bW;have oW:=lC0 o0 bW;have wW:=cB0 HW.out bW lR7;have HBW:Hid (Below w.heap.size w W):=HB.out.trans (bW.mono HB.out.size);rw [←hW];have HOB:Hid (W.heap[w.heap.size+1]? = some (.cells #[.slice vao (aX0 side l).length vcap] 59 (0,0))):=(bW.block _ (lt_of_block HO.out)).trans HO.out;have HSB:Hid (W.heap[w.heap.size]? = some (.cells #[.int .i64 side] 3 (0,0))):=(bW.block _ (lt_of_block HS.out)).trans HS.out;have hgl:∀g,(Value.slice vao (aX0 side l).length vcap).ownBlock=some g→g<wr.heap.size∧w.heap.size≤g:=fun g hg=>⟨(HW.out.lt g hg).2,(HW.out.lt g hg).1⟩
   clear hW bW s0 o0 HB HS HO
   by_cases h2:2≤(aX0 side l).length
   ·obtain ⟨g,cg,hv,hbase,hglt⟩:=wW.form (by omega);simp only [Value.slice.injEq,true_and] at hv;obtain ⟨rfl,rfl⟩:=hv;have hg:=hgl g rfl;have hL:=bT1 W wr.heap.size (w.heap.size+1) w.heap.size g (vcap*5) (aX0 side l).length vcap side (aX0 side l) (uU0 HP.out) rW oW sW (by omega) (fun e=>bW1 wW HOB.out (by decide) (by rw [e];rfl)) (fun e=>bW1 wW HSB.out (by decide) (by rw [e];rfl));refine (pA0 78 _ W g (vcap*5) (aX0 side l).length vcap (fun x=>(oAt (aX0 side l) x).vals) _ (fun args w=>by rfl) (fun x=>rfl) (fun x v hv=>?_) hL (xD0 wW rfl) (by omega) h2).mono ?_
    ·simp only [Ord.vals,List.mem_cons,List.mem_nil_iff,or_false] at hv;rcases hv with rfl | rfl | rfl | rfl | rfl <;> rfl
    rintro e w5 ⟨rfl,u,hm,hr5,hs5⟩;have o5:w5.cell? ⟨w.heap.size+1,0,none⟩=some (.slice (some ⟨g,0,none⟩) (aX0 side l).length vcap):=(World.cell?_of_block (w:=W) (a:=⟨w.heap.size+1,0,none⟩) (hm.block _ (lt_of_block HOB.out) (fun e=>bW1 wW HOB.out (by decide) (congrArg some e.symm)))).trans oW;have es:=eV1 (side:=side) (F:=aX0 side l) rfl hr5 hs5
    have hcap:(aX0 side l).length≤vcap∧vcap≤maxLen:=by
     obtain ⟨_,_,e,h3,h4⟩:=aW0 wW;simp at e;omega
    have HFIN:Hid (w5.ownsRow w.heap.size 41 5 (.slice (some ⟨g,0,none⟩) (aX0 side l).length vcap) (aJ0 side l).length (oV (aJ0 side l))∧Below w.heap.size w w5):=by
     have h5:=xE0 (base:=w.heap.size) (F:=aX0 side l) hm.row hg.2 hcap.1 hcap.2;rw [es] at h5
     have hlen':(aJ0 side l).length=(aX0 side l).length:=by
      show (iS0 (eS0 side) (aX0 side l)).length=_;rw [←es];simp
     refine ⟨by rw [hlen'];exact h5,?_⟩;exact HBW.out.trans ⟨hm.os,hm.tape,hm.output,hm.size,fun k hk=>hm.block k (by have:=HBW.out.size;omega) (by omega)⟩
    clear hm hr5 hs5 es hcap hL wW rW oW sW hgl hg;go_wp2_with fail;go_ret;exact ⟨_,rfl,HFIN.out⟩
   ·refine (mY0 78 _ W vao (aX0 side l).length vcap (by omega)).mono ?_;rintro e w5 ⟨rfl,hb5⟩;have o5:=lC0 oW hb5
    have HFIN:Hid (w5.ownsRow w.heap.size 41 5 (.slice vao (aX0 side l).length vcap) (aJ0 side l).length (oV (aJ0 side l))∧Below w.heap.size w w5):=by
     have e:aJ0 side l=aX0 side l:=bI1 _ (by omega);rw [e];exact ⟨cB0 wW hb5 lR7,HBW.out.trans (hb5.mono HBW.out.size)⟩
    clear hb5 wW rW oW sW hgl;go_wp2_with fail;go_ret;exact ⟨_,rfl,HFIN.out⟩
theorem gR0 {w W:World} {base:Nat} (h:Below w.heap.size w W) (hb:base≤w.heap.size):base≤W.heap.size:=Nat.le_trans hb h.size
theorem cH0 {w W w1:World} {b:Nat} (h:Below w.heap.size w W) (hg:W.grownBy w1 (some b)) (hb:w.heap.size≤b):Below w.heap.size w w1:=h.grown hg h.size (fun k hk=>by injection hk with hk;omega)
theorem gA0 {w W:World} {b g:Nat} (h:Below w.heap.size w W) (hg:g=b∨g=W.heap.size) (hb:w.heap.size≤b):w.heap.size≤g:=by
 have:=h.size;rcases hg with rfl | rfl
 ·exact hb
 ·exact this
theorem dO0 {w w1 w2:World} (h:Below w.heap.size w w1) (h1:Below w1.heap.size w1 w2):Below w.heap.size w w2:=h.trans (h1.mono h.size)
theorem iL0 {w w2 wB:World} {base g n cap:Nat} {sp:Spot} {v0:Value} {l l':List Ord} {xs:List Value} (hA:BookIs w2 base sp v0 l) (hw:Below w.heap.size w w2) (hB:Below w2.heap.size w2 wB)
  (ho:wB.ownsRow base 41 5 (.slice (some ⟨g,0,none⟩) n cap) n xs) (hg:w2.heap.size≤g) (hn:n=l'.length) (hx:xs=oV l'):
  BookIs (wB.setCell ⟨sp.bb,sp.off,none⟩ (.slice (some ⟨g,0,none⟩) n cap)) base sp (.slice (some ⟨g,0,none⟩) n cap) l'∧Out (·=sp.bb) w (wB.setCell ⟨sp.bb,sp.off,none⟩ (.slice (some ⟨g,0,none⟩) n cap)):=by
 subst hn hx
 refine ⟨(hA.below hB lR7).put ho (fun j hj e=>by
  have e1:g=j:=by simpa [Value.ownBlock] using hj
  have e2:j<w2.heap.size:=hA.lim j e;omega),?_⟩
 have h1:Out (·=sp.bb) wB (wB.setCell ⟨sp.bb,sp.off,none⟩ (.slice (some ⟨g,0,none⟩) l'.length cap)):=⟨rfl,rfl,rfl,by simp,fun j _ hj=>Below.heap_setCell _ _ _ _ (fun e=>hj e)⟩;exact (Out.of_below (hw.trans (hB.mono hw.size)) lR7).trans h1 (Went.refl _ _)
set_option maxRecDepth 100000 in
set_option maxHeartbeats 4000000 in
theorem tK1 (base:Nat) (sp:Spot) (v:Value) (l:List Ord) (o:Ord) (w:World) (h:BookIs w base sp v l) (hl:l.length≤100) (hbs:base≤w.heap.size):
  Calls Tryz.prog 43 #[.pointer (some ⟨sp.bb,sp.off,none⟩),o.agg] w
   fun e w'=>e=.returned (.int .i64 (addN o l))∧∃v',BookIs w' base sp v' (addL o l)∧Out (·=sp.bb) w w':=by
 have HA:Hid (BookIs w base sp v l):=h
 have STAY:Hid (∀w',Below w.heap.size w w'→addN o l≠0→∃v',BookIs w' base sp v' (addL o l)∧Out (·=sp.bb) w w'):=fun w' hb hn=>by
  unfold addL;rw [if_neg hn];exact ⟨v,HA.out.below hb lR7,Out.of_below hb lR7⟩
 clear h;unfold Ord.agg;go_enter Tryz.func43,Tryz.ntmps43;go_wp2_with fail;refine (bkIn o.side 1 2 _).mono ?_;rintro e w1 ⟨rfl,rfl⟩;cases hs:(decide (1≤o.side)&& decide (o.side≤2)) with
 | false=>
  have HS:Hid ((decide (1≤o.side)&& decide (o.side≤2))=false):=hs;clear hs;go_wp2_with fail;go_ret;have e1:=rT0 (l:=l) (Or.inl HS.out);exact ⟨by rw [e1];rfl,STAY.out _ ((Below.refl _ _).alloc lR7 _) (by rw [e1];decide)⟩
 | true=>
  have HS:Hid ((decide (1≤o.side)&& decide (o.side≤2))=true):=hs;clear hs
  by_cases hid:o.id<1
  ·have hib:decide (o.id<1)=true:=decide_eq_true hid;go_wp2_with fail;go_ret;have e1:=rT0 (l:=l) (Or.inr hid);exact ⟨by rw [e1];rfl,STAY.out _ ((Below.refl _ _).alloc lR7 _) (by rw [e1];decide)⟩
  ·go_upto_if 16 with fail;go_cut [17] (fun _ wc=>Below w.heap.size w wc∧wc.heap[w.heap.size]? = some (.cells #[.int .i64 (lieO o).id,.int .i64 (lieO o).side,.int .i64 (lieO o).kind,.int .i64 (lieO o).price,.int .i64 (lieO o).qty] 41 (0,0)))
   case first=>
    by_cases hk:o.kind=2
    ·have hkb:(o.kind == 2)=true:=beq_iff_eq.2 hk;have HK:Hid (lieO o={ o with price:=1 }):=by show lieO o=_;unfold lieO;rw [if_pos hk]
     clear hk;go_wp2_with fail;go_meet;exact ⟨(Below.refl _ _).alloc lR7 _,by rw [HK.out];exact heap_alloc_new w _⟩
    ·have hkb:(o.kind == 2)=false:=beq_eq_false_iff_ne.2 hk;have HK:Hid (lieO o=o):=by show lieO o=_;unfold lieO;rw [if_neg hk]
     clear hk;go_wp2_with fail;go_meet;exact ⟨(Below.refl _ _).alloc lR7 _,by rw [HK.out];exact heap_alloc_new w _⟩
   case rest=>
    obtain ⟨hb,hx⟩:=hcut;have HI:Hid ((lieO o).id=o.id):=hC0 o;have HN:Hid (eW0 (lieO o).price (lieO o).qty=false→addN o l=2):=fun h2=>qM0 HS.out (by omega) h2
    have HR:Hid (eW0 (lieO o).price (lieO o).qty=true→addN o l=if 0≤idxO o.id l then 9 else if 100≤l.length then 12 else 0):=fun h2=>kP0 HS.out (by omega) h2
    have HL:Hid (addN o l=0→addL o l=l++[lieO o]):=fun h2=>by unfold addL;rw [if_pos h2]
    generalize lieO o=p at hx HI HN HR HL;have HB:Hid (Below w.heap.size w wc):=hb;have HX:Hid _:=hx;have z0:=aZ0 (j:=0) hx rfl;have z1:=aZ0 (j:=1) hx rfl;have z2:=aZ0 (j:=2) hx rfl;have z3:=aZ0 (j:=3) hx rfl;have z4:=aZ0 (j:=4) hx rfl;clear hx hb hid;go_wp2_with fail;refine (xA0 p.price p.qty _).mono ?_;rintro e w1 ⟨rfl,hw⟩;subst hw;cases hr:eW0 p.price p.qty with
    | false=>
     have e1:=HN.out hr;have E1:Hid (addN o l=2):=e1;clear hr e1;go_wp2_with fail;go_ret;exact ⟨by rw [E1.out];rfl,STAY.out _ HB.out (by rw [E1.out];decide)⟩
    | true=>
     have E1:Hid _:=HR.out hr;clear hr;go_wp2_with fail;refine (wZ0 base sp v l p.id _ (HA.out.below HB.out lR7) (by omega)).mono ?_;rintro e w2 ⟨rfl,hb2⟩;have HX2:Hid _:=(hb2.block _ (lt_of_block HX.out)).trans HX.out;have HB2:Hid (Below w.heap.size w w2):=HB.out.trans (hb2.mono HB.out.size);rw [HI.out];have z0:=aZ0 (j:=0) HX2.out rfl;have z1:=aZ0 (j:=1) HX2.out rfl;have z2:=aZ0 (j:=2) HX2.out rfl;have z3:=aZ0 (j:=3) HX2.out rfl;have z4:=aZ0 (j:=4) HX2.out rfl;clear hb2 HB HX
     by_cases hi:0≤idxO o.id l
     ·have E2:Hid (addN o l=9):=E1.out.trans (if_pos hi);generalize idxO o.id l=q at hi;go_wp2_with fail;go_ret;exact ⟨by rw [E2.out];rfl,STAY.out _ HB2.out (by rw [E2.out];decide)⟩
     ·have E2:Hid _:=E1.out.trans (if_neg hi);clear E1;generalize idxO o.id l=q at hi;have hA2:=HA.out.below HB2.out lR7;obtain ⟨ao,cap,rfl,_,_⟩:=aW0 hA2.all;have c0:w2.cell? ⟨sp.bb,sp.off,none⟩=some (.slice ao l.length cap):=hA2.cell;have f0:w2.frozen? ⟨sp.bb,sp.off,none⟩=false:=hA2.free;have lb:sp.bb<w2.heap.size:=lt_of_block hA2.box;have lx:w.heap.size<w2.heap.size:=lt_of_block HX2.out;have HA2:Hid _:=hA2;have hbs2:base≤w2.heap.size:=Nat.le_trans hbs HB2.out.size;clear hA2
      by_cases hf:100≤l.length
      ·have E3:Hid (addN o l=12):=E2.out.trans (if_pos hf);have hff:(100:Int)≤(l.length:Int):=by omega
       go_wp2_with fail;go_ret;exact ⟨by rw [E3.out];rfl,STAY.out _ HB2.out (by rw [E3.out];decide)⟩
      ·have E3:Hid (addN o l=0):=E2.out.trans (if_neg hf);have hff:(l.length:Int)<100:=by omega
       obtain ⟨i0,hi0,hz0,hz1,hz2⟩:=info_parts Tryz.infoOrd;go_upto_region 11 with fail;go_cut [44] (fun _ wc=>∃v',BookIs wc base sp v' (l++[p])∧Out (·=sp.bb) w wc)
       case first=>
        have q63:0+l.length≤maxLen:=by unfold maxLen;omega
        have q64:l.length+1≤maxLen:=by unfold maxLen;omega
        go_region_law (first | (refine aV0 _ (by rfl) (.tmp 36) (.tmp 40) 59 (by rfl) base 41 i0 _ 5 40 Tryz.underlying59 hi0 hz0 hz1 hz2 (by rfl) (by omega) _ 0 0 [] (by rfl) (by first | exact dN0 (heap_alloc_new _ _) hbs2 | exact dN0 (mS1 w2 _ _) hbs2 | exact dN0 (eS1 w2 _ _) (Nat.le_succ_of_le hbs2)) ao l.length cap (oV l) (by rfl) (bR0 l) (Lies.of_row HA2.out.all (by (repeat' first | assumption | exact Below.refl _ _ | exact lR7 | refine Below.drew ?_ | refine Below.alloc ?_ ?_ _ | (simp;done) | (simp;omega)))) (gV0 l) q63 (by omega) (gR0 (by (repeat' first | assumption | exact Below.refl _ _ | exact lR7 | refine Below.drew ?_ | refine Below.alloc ?_ ?_ _ | (simp;done) | (simp;omega))) hbs2) ?_;intro gA cA wA hoA hgA hatA hltA;have bA:Below w2.heap.size w2 wA:=cH0 (by (repeat' first | assumption | exact Below.refl _ _ | exact lR7 | refine Below.drew ?_ | refine Below.alloc ?_ ?_ _ | (simp;done) | (simp;omega))) hgA (by first | exact lR7 | exact Nat.le_succ _);have kA:w2.heap.size≤gA:=gA0 (by (repeat' first | assumption | exact Below.refl _ _ | exact lR7 | refine Below.drew ?_ | refine Below.alloc ?_ ?_ _ | (simp;done) | (simp;omega))) hatA (by first | exact lR7 | exact Nat.le_succ _);have lA:w2.heap.size≤wA.heap.size:=bA.size;have xA:=(bA.block _ lx).trans HX2.out;have yA0:=aZ0 (j:=0) xA rfl;have yA1:=aZ0 (j:=1) xA rfl;have yA2:=aZ0 (j:=2) xA rfl;have yA3:=aZ0 (j:=3) xA rfl;have yA4:=aZ0 (j:=4) xA rfl;rw [Nat.zero_add,List.nil_append] at hoA;have OA:Hid _:=hoA;have BA:Hid _:=bA;have GA:Hid _:=hgA;clear xA hoA hatA bA hgA) | (refine aV0 _ (by rfl) (.tmp 41) (.tmp 43) 59 (by rfl) base 41 i0 _ 5 40 Tryz.underlying59 hi0 hz0 hz1 hz2 (by rfl) (by omega) _ _ _ _ (by rfl) (cB0 (B:=wA.heap.size) OA.out (by (repeat' first | assumption | exact Below.refl _ _ | exact lR7 | refine Below.drew ?_ | refine Below.alloc ?_ ?_ _ | (simp;done) | (simp;omega))) lR7) _ 1 1 p.vals (by rfl) (by rfl) (by first | exact Lies.of_one (heap_alloc_new _ _) | exact Lies.of_one ((GA.out.block _ (by simp <;> omega) (by simp)).trans (mS1 w2 _ _)) | exact Lies.of_one ((GA.out.block _ (by simp <;> omega) (by simp)).trans (eS1 w2 _ _))) (by simp [Ord.vals,Value.oneCell']) q64 (by omega) (gR0 (dO0 BA.out (by (repeat' first | assumption | exact Below.refl _ _ | exact lR7 | refine Below.drew ?_ | refine Below.alloc ?_ ?_ _ | (simp;done) | (simp;omega)))) hbs2) ?_;intro gB cB wB hoB hgB hatB hltB;have bB:Below w2.heap.size w2 wB:=cH0 (dO0 BA.out (by (repeat' first | assumption | exact Below.refl _ _ | exact lR7 | refine Below.drew ?_ | refine Below.alloc ?_ ?_ _ | (simp;done) | (simp;omega)))) hgB kA;have kB:w2.heap.size≤gB:=gA0 (dO0 BA.out (by (repeat' first | assumption | exact Below.refl _ _ | exact lR7 | refine Below.drew ?_ | refine Below.alloc ?_ ?_ _ | (simp;done) | (simp;omega)))) hatB kA;have xB:=HA2.out.below bB lR7;have yB0:=xB.cell;have yB1:=xB.free;have lB:sp.bb<wB.heap.size:=Nat.lt_of_lt_of_le lb bB.size;have OB:Hid _:=hoB;have BB:Hid _:=bB;clear xB hoB hatB hltB hgB bB))
        all_goals go_wp2_with fail
        all_goals go_meet
        all_goals exact ⟨_,iL0 HA2.out HB2.out BB.out OB.out kB (by simp) (by rw [cC0];rfl)⟩
       case rest=>
        obtain ⟨v',h1,h2⟩:=hcut;have H1:Hid _:=h1;have H2:Hid _:=h2;clear h1 h2;go_wp2_with fail;go_ret;exact ⟨by rw [E3.out];rfl,v',by rw [HL.out E3.out];exact H1.out,H2.out⟩
theorem eW1 {B g n c:Nat} (h:B≤g):∀j,(Value.slice (some ⟨g,0,none⟩) n c).ownBlock=some j→B≤j:=fun j hj=>by
 have e:g=j:=by simpa [Value.ownBlock] using hj
 omega
theorem BookIs.set_far {w:World} {base b j:Nat} {sp:Spot} {v u:Value} {l:List Ord} (h:BookIs w base sp v l) (h1:b≠sp.bb) (h2:v.ownBlock≠some b):BookIs (w.setCell ⟨b,j,none⟩ u) base sp v l:=
 ⟨h.lt,h.ty,(Below.heap_setCell _ _ _ _ (fun e=>h1 e.symm)).trans h.box,ownsRow_setCell_other (a:=⟨b,j,none⟩) h.all h2 u,fun j hj=>Nat.lt_of_lt_of_le (h.lim j hj) (by simp),h.far⟩
theorem hY0 {S:Nat→Prop} {w w1:World} {b j:Nat} {u:Value} (h:Out S w w1) (hb:w.heap.size≤b):Out S w (w1.setCell ⟨b,j,none⟩ u):=
 ⟨h.os,h.tape,h.output,by simpa using h.size,fun k hk hS=>(Below.heap_setCell _ _ _ _ (fun e=>by have:k=b:=e;omega)).trans (h.block k hk hS)⟩
theorem set5 {w w1:World} {B b j0 j1 j2 j3 j4:Nat} {u0 u1 u2 u3 u4:Value} (h:Below B w w1) (hb:B≤b):Below B w (((((w1.setCell ⟨b,j0,none⟩ u0).setCell ⟨b,j1,none⟩ u1).setCell ⟨b,j2,none⟩ u2).setCell ⟨b,j3,none⟩ u3).setCell ⟨b,j4,none⟩ u4):=
 ((((h.setCell hb _).setCell hb _).setCell hb _).setCell hb _).setCell hb _
theorem Lies.take {w W:World} {base g cap k:Nat} {l:List Ord} (h:w.ownsRow base 41 5 (.slice (some ⟨g,0,none⟩) l.length cap) l.length (oV l)) (hb:Below w.heap.size w W):Lies W (some ⟨g,0,none⟩) k (oV (l.take k)):=
 Or.inr ⟨_,rfl,fun j u hu=>xB0 h hb j u (by
  have hj:=(List.getElem?_eq_some_iff.1 hu).1;rw [show l=l.take k++l.drop k from (List.take_append_drop k l).symm,cC0,List.getElem?_append_left hj];exact hu)⟩
theorem Lies.drop {w W:World} {base g cap k:Nat} {l:List Ord} (h:w.ownsRow base 41 5 (.slice (some ⟨g,0,none⟩) l.length cap) l.length (oV l)) (hb:Below w.heap.size w W):Lies W (some ⟨g,k*5,none⟩) (l.length - k) (oV (l.drop k)):=by
 by_cases hk:k<l.length
 ·refine Or.inr ⟨_,rfl,fun j u hu=>?_⟩
  have h1:=xB0 h hb (k*5+j) u (by
   have e:(oV (l.take k)).length=k*5:=(bR0 _).trans (by rw [List.length_take,Nat.min_eq_left (by omega)]);rw [show l=l.take k++l.drop k from (List.take_append_drop k l).symm,cC0,List.getElem?_append_right (by omega),e,Nat.add_sub_cancel_left];exact hu)
  rw [Addr.add_lit] at h1 ⊢;rw [←h1];simp
 ·refine Or.inl ⟨by omega,?_⟩;rw [List.drop_eq_nil_of_le (by omega)];rfl
set_option maxRecDepth 100000 in
set_option maxHeartbeats 4000000 in
theorem uV0 (base:Nat) (sp:Spot) (v:Value) (l:List Ord) (id:Int) (w:World) (h:BookIs w base sp v l) (hl:l.length≤100) (hbs:base≤w.heap.size):
  Calls Tryz.prog 55 #[.pointer (some ⟨sp.bb,sp.off,none⟩),.int .i64 id] w
   fun e w'=>Out (·=sp.bb) w w'∧∃v',((idxO id l=-1∧e=.returned (.tuple #[Ord.none_.agg,.int .i64 7])∧BookIs w' base sp v' l)∨∃k:Nat,k<l.length∧idxO id l=k∧(oAt l k).id=id∧e=.returned (.tuple #[(oAt l k).agg,.int .i64 0])∧BookIs w' base sp v' (dI0 k l)∧∀j,v'.ownBlock=some j→w.heap.size≤j):=by
 have HA:Hid (BookIs w base sp v l):=h;clear h;go_enter Tryz.func55,Tryz.ntmps55;go_wp2_with fail;refine (wZ0 base sp v l id _ (HA.out.below ((Below.refl _ _).alloc lR7 _) lR7) (by omega)).mono ?_;rintro e w1 ⟨rfl,hb1⟩;have hx:=eR1 hb1 (by simp);have HX:Hid _:=hx;have HB1:Hid (Below w.heap.size w w1):=((Below.refl _ _).alloc lR7 _).trans (hb1.mono (by simp));have lx:w.heap.size<w1.heap.size:=lt_of_block hx;have z0:=aZ0 (j:=0) hx rfl;have z1:=aZ0 (j:=1) hx rfl;have z2:=aZ0 (j:=2) hx rfl;have z3:=aZ0 (j:=3) hx rfl;have z4:=aZ0 (j:=4) hx rfl;have f0:=fR0 (j:=0) hx;have f1:=fR0 (j:=1) hx;have f2:=fR0 (j:=2) hx;have f3:=fR0 (j:=3) hx;have f4:=fR0 (j:=4) hx;clear hb1 hx;rcases kB0 id l 0 with hn | ⟨k,hk,hi,hid⟩
 ·have HN:Hid (idxO id l=-1):=hn;rw [show idxO id l=-1 from hn];clear hn;go_wp2_with fail;refine bodyPost_ret (by simp [results,Tryz.results55,go_sem,z0,z1,z2,z3,z4];try rfl) rfl ?_;exact ⟨Out.of_below (set5 HB1.out lR7) lR7,v,Or.inl ⟨HN.out,rfl,HA.out.below (set5 HB1.out lR7) lR7⟩⟩
 ·rw [Nat.zero_add] at hi;have HN:Hid (idxO id l=k):=hi;have HID:Hid ((oAt l k).id=id):=hid;rw [show idxO id l=k from hi];clear hi hid;have hA1:=HA.out.below HB1.out lR7;obtain ⟨g,cap,rfl,d0,d1,d2,d3,d4⟩:=cD0 hA1.all hk
  have hcc:l.length≤cap∧cap≤maxLen:=by
   obtain ⟨_,_,hv,a,b⟩:=aW0 hA1.all;simp only [Value.slice.injEq,true_and] at hv;obtain ⟨_,rfl⟩:=hv;exact ⟨a,b⟩
  obtain ⟨hcap,hcap2⟩:=hcc;have c0:w1.cell? ⟨sp.bb,sp.off,none⟩=some (.slice (some ⟨g,0,none⟩) l.length cap):=hA1.cell;have lb:sp.bb<w1.heap.size:=lt_of_block hA1.box;have q1:(0:Int)≤(k:Int):=by omega
  have q2:(k:Int)<l.length:=by omega
  have HA1:Hid _:=hA1;have HC:Hid (l.length≤cap∧cap≤maxLen):=⟨hcap,hcap2⟩;clear hA1 hcap2;obtain ⟨i0,hi0,hz0,hz1,hz2⟩:=info_parts Tryz.infoOrd;go_upto_region 5 with fail;generalize hW:w1.alloc (.cells #[.int .i64 (oAt l k).id,.int .i64 (oAt l k).side,.int .i64 (oAt l k).kind,.int .i64 (oAt l k).price,.int .i64 (oAt l k).qty] 41)=w2;have HO:Hid (w2.heap[w1.heap.size]? = some (.cells #[.int .i64 (oAt l k).id,.int .i64 (oAt l k).side,.int .i64 (oAt l k).kind,.int .i64 (oAt l k).price,.int .i64 (oAt l k).qty] 41 (0,0))):=by show _=_;rw [←hW];exact heap_alloc_new _ _
  have hB2:Below w1.heap.size w1 w2:=by rw [←hW];exact uO0 _ _
  have HB2:Hid _:=hB2;have hA2:=HA1.out.below hB2 lR7;have c2:w2.cell? ⟨sp.bb,sp.off,none⟩=some (.slice (some ⟨g,0,none⟩) l.length cap):=hA2.cell;have f2:w2.frozen? ⟨sp.bb,sp.off,none⟩=false:=hA2.free;have lb2:sp.bb<w2.heap.size:=lt_of_block hA2.box;have lo:w1.heap.size<w2.heap.size:=lt_of_block HO.out;have HA2:Hid _:=hA2;have hbs2:base≤w2.heap.size:=by have:=HB1.out.size;omega
  clear hA2 hB2 hW;go_cut [37] (fun _ wc=>∃g' n' c',BookIs wc base sp (.slice (some ⟨g',0,none⟩) n' c') (dI0 k l)∧w2.heap.size≤g'∧Out (·=sp.bb) w2 wc)
  case first=>
   have q3:(k:Int)≤(cap:Int):=by omega
   have q4:IntKind.i64.wrap ((k:Int)+1)=(k:Int)+1:=IntWalk.i64_in _ (by omega);have q5:(0:Int)≤(k:Int)+1:=by omega
   have q6:(k:Int)+1≤(l.length:Int):=by omega
   have q7:(l.length:Int)≤(cap:Int):=by omega
   have q8:((k:Int)+1).toNat=k+1:=by omega
   have q63:0+k≤maxLen:=by unfold maxLen;omega
   have q64:k+(l.length - (k+1))≤maxLen:=by unfold maxLen;omega
   have LA:Hid ((oV (l.take k)).length=k*5):=(bR0 _).trans (by rw [List.length_take,Nat.min_eq_left (by omega)]);have LB:Hid ((oV (l.drop (k+1))).length=(l.length - (k+1))*5):=(bR0 _).trans (by rw [List.length_drop])
   by_cases hce:cap=k+1
   ·subst hce;have q65:k+0≤maxLen:=by unfold maxLen;omega
    have q9:(k:Int)≤(k:Int)+1:=by omega
    go_region_law (first | (refine aV0 _ (by rfl) (.tmp 22) (.tmp 28) 59 (by rfl) base 41 i0 _ 5 40 Tryz.underlying59 hi0 hz0 hz1 hz2 (by rfl) (by omega) _ 0 0 [] (by rfl) (dN0 (heap_alloc_new _ _) hbs2) _ k _ (oV (l.take k)) (by rfl) LA.out (Lies.take HA2.out.all (by (repeat' first | assumption | exact Below.refl _ _ | exact lR7 | refine Below.drew ?_ | refine Below.alloc ?_ ?_ _ | (simp;done) | (simp;omega)))) (gV0 _) q63 (by omega) (gR0 (by (repeat' first | assumption | exact Below.refl _ _ | exact lR7 | refine Below.drew ?_ | refine Below.alloc ?_ ?_ _ | (simp;done) | (simp;omega))) hbs2) ?_;intro gA cA wA hoA hgA hatA hltA;have bA:Below w2.heap.size w2 wA:=cH0 (by (repeat' first | assumption | exact Below.refl _ _ | exact lR7 | refine Below.drew ?_ | refine Below.alloc ?_ ?_ _ | (simp;done) | (simp;omega))) hgA lR7;have kA:w2.heap.size≤gA:=gA0 (by (repeat' first | assumption | exact Below.refl _ _ | exact lR7 | refine Below.drew ?_ | refine Below.alloc ?_ ?_ _ | (simp;done) | (simp;omega))) hatA lR7;have lA:w2.heap.size≤wA.heap.size:=bA.size;have yA0:=(HA2.out.below bA lR7).cell;rw [Nat.zero_add,List.nil_append] at hoA;have OA:Hid _:=hoA;have BA:Hid _:=bA;clear hoA hatA bA hgA) | (refine aV0 _ (by rfl) (.tmp 29) (.tmp 36) 59 (by rfl) base 41 i0 _ 5 40 Tryz.underlying59 hi0 hz0 hz1 hz2 (by rfl) (by omega) _ _ _ _ (by rfl) (cB0 (B:=wA.heap.size) OA.out (by (repeat' first | assumption | exact Below.refl _ _ | exact lR7 | refine Below.drew ?_ | refine Below.alloc ?_ ?_ _ | (simp;done) | (simp;omega))) lR7) _ 0 _ [] (by rfl) (by rfl) (Or.inl ⟨rfl,rfl⟩) (by simp) q65 (by omega) (gR0 (dO0 BA.out (by (repeat' first | assumption | exact Below.refl _ _ | exact lR7 | refine Below.drew ?_ | refine Below.alloc ?_ ?_ _ | (simp;done) | (simp;omega)))) hbs2) ?_;intro gB cB wB hoB hgB hatB hltB;have bB:Below w2.heap.size w2 wB:=cH0 (dO0 BA.out (by (repeat' first | assumption | exact Below.refl _ _ | exact lR7 | refine Below.drew ?_ | refine Below.alloc ?_ ?_ _ | (simp;done) | (simp;omega)))) hgB kA;have kB:w2.heap.size≤gB:=gA0 (dO0 BA.out (by (repeat' first | assumption | exact Below.refl _ _ | exact lR7 | refine Below.drew ?_ | refine Below.alloc ?_ ?_ _ | (simp;done) | (simp;omega)))) hatB kA;have xB:=HA2.out.below bB lR7;have yB0:=xB.cell;have yB1:=xB.free;have lB:sp.bb<wB.heap.size:=Nat.lt_of_lt_of_le lb2 bB.size;have OB:Hid _:=hoB;have BB:Hid _:=bB;clear xB hoB hatB hltB hgB bB))
    all_goals go_wp2_with fail
    all_goals go_meet
    all_goals (have hd:=iL0 (l':=dI0 k l) HA2.out (Below.refl _ _) BB.out OB.out kB (by unfold dI0;simp;omega) (by unfold dI0;rw [cC0,List.drop_eq_nil_of_le (by omega)];rfl);exact ⟨_,_,_,hd.1,kB,hd.2⟩)
   ·go_region_law (first | (refine aV0 _ (by rfl) (.tmp 22) (.tmp 28) 59 (by rfl) base 41 i0 _ 5 40 Tryz.underlying59 hi0 hz0 hz1 hz2 (by rfl) (by omega) _ 0 0 [] (by rfl) (dN0 (heap_alloc_new _ _) hbs2) _ k _ (oV (l.take k)) (by rfl) LA.out (Lies.take HA2.out.all (by (repeat' first | assumption | exact Below.refl _ _ | exact lR7 | refine Below.drew ?_ | refine Below.alloc ?_ ?_ _ | (simp;done) | (simp;omega)))) (gV0 _) q63 (by omega) (gR0 (by (repeat' first | assumption | exact Below.refl _ _ | exact lR7 | refine Below.drew ?_ | refine Below.alloc ?_ ?_ _ | (simp;done) | (simp;omega))) hbs2) ?_;intro gA cA wA hoA hgA hatA hltA;have bA:Below w2.heap.size w2 wA:=cH0 (by (repeat' first | assumption | exact Below.refl _ _ | exact lR7 | refine Below.drew ?_ | refine Below.alloc ?_ ?_ _ | (simp;done) | (simp;omega))) hgA lR7;have kA:w2.heap.size≤gA:=gA0 (by (repeat' first | assumption | exact Below.refl _ _ | exact lR7 | refine Below.drew ?_ | refine Below.alloc ?_ ?_ _ | (simp;done) | (simp;omega))) hatA lR7;have lA:w2.heap.size≤wA.heap.size:=bA.size;have yA0:=(HA2.out.below bA lR7).cell;rw [Nat.zero_add,List.nil_append] at hoA;have OA:Hid _:=hoA;have BA:Hid _:=bA;clear hoA hatA bA hgA) | (refine aV0 _ (by rfl) (.tmp 29) (.tmp 36) 59 (by rfl) base 41 i0 _ 5 40 Tryz.underlying59 hi0 hz0 hz1 hz2 (by rfl) (by omega) _ _ _ _ (by rfl) (cB0 (B:=wA.heap.size) OA.out (by (repeat' first | assumption | exact Below.refl _ _ | exact lR7 | refine Below.drew ?_ | refine Below.alloc ?_ ?_ _ | (simp;done) | (simp;omega))) lR7) _ (l.length - (k+1)) _ (oV (l.drop (k+1))) (by rfl) LB.out (by first | exact Lies.drop HA2.out.all (dO0 BA.out (by (repeat' first | assumption | exact Below.refl _ _ | exact lR7 | refine Below.drew ?_ | refine Below.alloc ?_ ?_ _ | (simp;done) | (simp;omega)))) | exact Or.inl ⟨by omega,by rw [List.drop_eq_nil_of_le (by omega)];rfl⟩) (gV0 _) q64 (by omega) (gR0 (dO0 BA.out (by (repeat' first | assumption | exact Below.refl _ _ | exact lR7 | refine Below.drew ?_ | refine Below.alloc ?_ ?_ _ | (simp;done) | (simp;omega)))) hbs2) ?_;intro gB cB wB hoB hgB hatB hltB;have bB:Below w2.heap.size w2 wB:=cH0 (dO0 BA.out (by (repeat' first | assumption | exact Below.refl _ _ | exact lR7 | refine Below.drew ?_ | refine Below.alloc ?_ ?_ _ | (simp;done) | (simp;omega)))) hgB kA;have kB:w2.heap.size≤gB:=gA0 (dO0 BA.out (by (repeat' first | assumption | exact Below.refl _ _ | exact lR7 | refine Below.drew ?_ | refine Below.alloc ?_ ?_ _ | (simp;done) | (simp;omega)))) hatB kA;have xB:=HA2.out.below bB lR7;have yB0:=xB.cell;have yB1:=xB.free;have lB:sp.bb<wB.heap.size:=Nat.lt_of_lt_of_le lb2 bB.size;have OB:Hid _:=hoB;have BB:Hid _:=bB;clear xB hoB hatB hltB hgB bB))
    all_goals go_wp2_with fail
    all_goals go_meet
    all_goals (have hd:=iL0 (l':=dI0 k l) HA2.out (Below.refl _ _) BB.out OB.out kB (by unfold dI0;simp;omega) (by unfold dI0;rw [cC0]);exact ⟨_,_,_,hd.1,kB,hd.2⟩)
  case rest=>
   obtain ⟨g',n',c',h1,h2,h3⟩:=hcut;have hx:=(h3.block _ (by omega) (by have:=lt_of_block HA.out.box;omega)).trans ((HB2.out.block _ lx).trans HX.out);have hy:=(h3.block _ lo (by omega)).trans HO.out;have z0:=aZ0 (j:=0) hx rfl;have z1:=aZ0 (j:=1) hx rfl;have z2:=aZ0 (j:=2) hx rfl;have z3:=aZ0 (j:=3) hx rfl;have z4:=aZ0 (j:=4) hx rfl;have f0:=fR0 (j:=0) hx;have f1:=fR0 (j:=1) hx;have f2:=fR0 (j:=2) hx;have f3:=fR0 (j:=3) hx;have f4:=fR0 (j:=4) hx;have y0:=aZ0 (j:=0) hy rfl;have y1:=aZ0 (j:=1) hy rfl;have y2:=aZ0 (j:=2) hy rfl;have y3:=aZ0 (j:=3) hy rfl;have y4:=aZ0 (j:=4) hy rfl;have HO3:Hid (Out (·=sp.bb) w wc):=(Out.of_below (HB1.out.trans (HB2.out.mono HB1.out.size)) lR7).trans h3 (Went.refl _ _);have nb:w.heap.size≠sp.bb:=by have:=lt_of_block HA.out.box;omega
   have ng:(Value.slice (some ⟨g',0,none⟩) n' c').ownBlock≠some w.heap.size:=fun e=>by
    have e':g'=w.heap.size:=by simpa [Value.ownBlock] using e
    omega
   have HF:Hid (w.heap.size≠sp.bb∧(Value.slice (some ⟨g',0,none⟩) n' c').ownBlock≠some w.heap.size):=⟨nb,ng⟩;have H1:Hid _:=h1;have HG:Hid (w.heap.size≤g'):=by show w.heap.size≤g';omega
   clear hx hy h1 h2 h3 nb ng;go_wp2_with fail;refine bodyPost_ret (by simp [results,Tryz.results55,go_sem,z0,z1,z2,z3,z4];try rfl) rfl ?_;exact ⟨hY0 (hY0 (hY0 (hY0 (hY0 HO3.out lR7) lR7) lR7) lR7) lR7,_,Or.inr ⟨k,hk,HN.out,HID.out,rfl,((((H1.out.set_far HF.out.1 HF.out.2).set_far HF.out.1 HF.out.2).set_far HF.out.1 HF.out.2).set_far HF.out.1 HF.out.2).set_far HF.out.1 HF.out.2,eW1 HG.out⟩⟩
theorem kD1 (base:Nat) (sp:Spot) (v:Value) (l:List Ord) (id:Int) (w:World) (h:BookIs w base sp v l) (hl:l.length≤100) (hbs:base≤w.heap.size):
  Calls Tryz.prog 55 #[.pointer (some ⟨sp.bb,sp.off,none⟩),.int .i64 id] w
   fun e w'=>Out (·=sp.bb) w w'∧∃v',((idxO id l=-1∧e=.returned (.tuple #[Ord.none_.agg,.int .i64 7])∧BookIs w' base sp v' l)∨∃k:Nat,k<l.length∧idxO id l=k∧(oAt l k).id=id∧e=.returned (.tuple #[(oAt l k).agg,.int .i64 0])∧BookIs w' base sp v' (dI0 k l)):=by
 refine (uV0 base sp v l id w h hl hbs).mono ?_;rintro e w' ⟨hO,v',h1 | ⟨k,hk,h1,h2,h3,h4,_⟩⟩
 ·exact ⟨hO,v',Or.inl h1⟩
 ·exact ⟨hO,v',Or.inr ⟨k,hk,h1,h2,h3,h4⟩⟩
theorem mW1 (q:Int):∀(l:List Ord) (k:Nat),k<l.length→(oV l).set (k*5+4) (.int .i64 ((oAt l k).qty - q))=oV (l.set k (cutO q (oAt l k)))
 | [],_,h=>by simp at h
 | o::l,0,_=>by simp [oV,oAt,cutO]
 | o::l,k+1,h=>by
  have:=mW1 q l k (by simpa using h);have e:oAt (o::l) (k+1)=oAt l k:=by simp [oAt]
  rw [e,show (k+1)*5+4=k*5+4+1+1+1+1+1 by omega];simp [oV,this]
theorem BookIs.cut {w:World} {base g cap k:Nat} {sp:Spot} {q:Int} {l:List Ord} (h:BookIs w base sp (.slice (some ⟨g,0,none⟩) l.length cap) l) (hk:k<l.length) (hg:g≠sp.bb):
  BookIs (w.setCell ⟨g,k*5+4,none⟩ (.int .i64 ((oAt l k).qty - q))) base sp (.slice (some ⟨g,0,none⟩) l.length cap) (l.set k (cutO q (oAt l k))):=by
 obtain ⟨h1,_⟩:=h.all.stored (k*5+4) (.int .i64 ((oAt l k).qty - q));refine ⟨h.lt,h.ty,(Below.heap_setCell _ _ _ _ (fun e=>hg e.symm)).trans h.box,?_,fun j hj=>Nat.lt_of_lt_of_le (h.lim j hj) (by simp),h.far⟩;rw [List.length_set,←mW1 q l k hk];exact h1
theorem mG0 {P:Program} (w:World) {ops:Array Oper} {rest:List Oper} {o:Oper} {a:Act} {Q:Exit→Act→World→Prop} (hgd:o.guard=none) (s x:Operand) (t:TypeId)
  (ho:o.op=.call { callee:=.builtin .append,args:=#[s,x],argTypes:=#[t,t] })
  (base:Nat) (e:TypeId) (i:TypeInfo) (z:Value) (size bytes:Nat) (ht:P.underlying t=some (.slice e)) (hi:P.info? e=some i) (hz:i.zero=some z)
  (hsize:i.size=size) (hby:i.bytes=bytes) (hzs:z.cells.size=size) (hsz:0<size)
  (b n c0:Nat) (xs:List Value) (hs:a.eval s=.slice (some ⟨b,0,none⟩) n c0) (hown:w.ownsRow base e size (.slice (some ⟨b,0,none⟩) n c0) n xs)
  (ao:Option Addr) (m c:Nat) (news:List Value) (hv:a.eval x=.slice ao m c) (hl:news.length=m*size) (hx:Lies w ao m news) (h1:∀u∈news,u.oneCell'=true)
  (h63:n+m≤maxLen) (hbytes:(n+m)*bytes≤140737488355328) (hbase:base≤w.heap.size)
  (h:∀g cap w',w'.ownsRow base e size (.slice (some ⟨g,0,none⟩) (n+m) cap) (n+m) (xs++news)→w.grownBy w' (some b)→(g=b∨g=w.heap.size)→g<w'.heap.size→wpList P ops Q rest (a.put o.dst (.slice (some ⟨g,0,none⟩) (n+m) cap)) w'):wpList P ops Q (o::rest) a w:=
 wpList_plain hgd fun _ hK=>iH0 w s x t ho base e i z size bytes ht hi hz hsize hby hzs hsz b n c0 xs hs hown ao m c news hv hl hx h1 h63 hbytes hbase fun g cap w' h2 h3 h4 h5=>hK _ _ (h g cap w' h2 h3 h4 h5)
set_option maxRecDepth 100000 in
set_option maxHeartbeats 4000000 in
theorem mX1 (base:Nat) (sp:Spot) (v:Value) (l:List Ord) (id q:Int) (w:World) (h:BookIs w base sp v l) (hl:l.length≤100) (hbs:base≤w.heap.size) (hqs:∀k,(oAt l k).qty≤1000000):
  Calls Tryz.prog 88 #[.pointer (some ⟨sp.bb,sp.off,none⟩),.int .i64 id,.int .i64 q] w
   fun e w'=>Out (·=sp.bb) w w'∧∃v',((idxO id l=-1∧e=.returned (.int .i64 7)∧BookIs w' base sp v' l)∨∃k:Nat,k<l.length∧idxO id l=k∧(oAt l k).id=id∧
    (((decide (1≤q)&& decide (q≤(oAt l k).qty))=false∧e=.returned (.int .i64 2)∧BookIs w' base sp v' l)∨((decide (1≤q)&& decide (q≤(oAt l k).qty))=true∧e=.returned (.int .i64 0)∧BookIs w' base sp v' (if (oAt l k).qty=q then dI0 k l else l.set k (cutO q (oAt l k)))∧∀j,v'.ownBlock=some j→w.heap.size≤j))):=by
 have HA:Hid (BookIs w base sp v l):=h;clear h;go_enter Tryz.func88,Tryz.ntmps88;go_wp2_with fail;refine (wZ0 base sp v l id _ HA.out (by omega)).mono ?_;rintro e w1 ⟨rfl,hb1⟩;have HB1:Hid (Below w.heap.size w w1):=hb1;clear hb1;rcases kB0 id l 0 with hn | ⟨k,hk,hi,hid⟩
 ·have HN:Hid (idxO id l=-1):=hn;rw [show idxO id l=-1 from hn];clear hn;go_wp2_with fail;go_ret;exact ⟨Out.of_below HB1.out lR7,v,Or.inl ⟨HN.out,rfl,HA.out.below HB1.out lR7⟩⟩
 ·rw [Nat.zero_add] at hi;have HN:Hid (idxO id l=k):=hi;have HID:Hid ((oAt l k).id=id):=hid;rw [show idxO id l=k from hi];clear hi hid;have hA1:=HA.out.below HB1.out lR7;obtain ⟨g,cap,rfl,d0,d1,d2,d3,d4⟩:=cD0 hA1.all hk;have c0:w1.cell? ⟨sp.bb,sp.off,none⟩=some (.slice (some ⟨g,0,none⟩) l.length cap):=hA1.cell;have f0:w1.frozen? ⟨sp.bb,sp.off,none⟩=false:=hA1.free;have lb:sp.bb<w1.heap.size:=lt_of_block hA1.box;have q1:(0:Int)≤(k:Int):=by omega
  have q2:(k:Int)<l.length:=by omega
  have HA1:Hid _:=hA1;clear hA1;go_wp2_with fail;refine (bkIn q 1 (oAt l k).qty _).mono ?_;rintro e w2 ⟨rfl,hw⟩;subst hw;cases hq:(decide (1≤q)&& decide (q≤(oAt l k).qty)) with
  | false=>
   have HQ:Hid ((decide (1≤q)&& decide (q≤(oAt l k).qty))=false):=hq;clear hq;go_wp2_with fail;go_ret;exact ⟨Out.of_below HB1.out lR7,_,Or.inr ⟨k,hk,HN.out,HID.out,Or.inl ⟨HQ.out,rfl,HA1.out⟩⟩⟩
  | true=>
   have HQ:Hid ((decide (1≤q)&& decide (q≤(oAt l k).qty))=true):=hq;clear hq;have hbs2:base≤w2.heap.size:=Nat.le_trans hbs HB1.out.size;have q63:0+l.length≤maxLen:=by unfold maxLen;omega
   obtain ⟨i0,hi0,hz0,hz1,hz2⟩:=info_parts Tryz.infoOrd;have hq1:1≤q∧q≤(oAt l k).qty:=by simpa using HQ.out
   have q4:IntKind.i64.wrap ((oAt l k).qty - q)=(oAt l k).qty - q:=IntWalk.i64_in _ (by have:=hqs k;omega);obtain ⟨hq2,hq3⟩:=hq1;clear hqs;go_upto_if 53 with (at_builtin;go_loud (refine mG0 _ rfl _ _ 59 rfl base 41 i0 _ 5 40 Tryz.underlying59 hi0 hz0 hz1 hz2 (by rfl) (by omega) _ 0 0 [] (by rfl) (dN0 (heap_alloc_new _ _) hbs2) _ l.length cap (oV l) (by rfl) (bR0 l) (Lies.of_row HA1.out.all (by (repeat' first | assumption | exact Below.refl _ _ | exact lR7 | refine Below.drew ?_ | refine Below.alloc ?_ ?_ _ | (simp;done) | (simp;omega)))) (gV0 l) q63 (by omega) (gR0 (by (repeat' first | assumption | exact Below.refl _ _ | exact lR7 | refine Below.drew ?_ | refine Below.alloc ?_ ?_ _ | (simp;done) | (simp;omega))) hbs2) ?_;intro gA cA wA hoA hgA hatA hltA;have bA:Below w2.heap.size w2 wA:=cH0 (by (repeat' first | assumption | exact Below.refl _ _ | exact lR7 | refine Below.drew ?_ | refine Below.alloc ?_ ?_ _ | (simp;done) | (simp;omega))) hgA lR7;have kA:w2.heap.size≤gA:=gA0 (by (repeat' first | assumption | exact Below.refl _ _ | exact lR7 | refine Below.drew ?_ | refine Below.alloc ?_ ?_ _ | (simp;done) | (simp;omega))) hatA lR7;have xA:=HA1.out.below bA lR7;have yA0:=xA.cell;have yA1:=xA.free;rw [Nat.zero_add,List.nil_append] at hoA;have eA:=(hoA.cellAt (k*5+4) (by omega)).trans (iO1 hk).2.2.2.2;have gA1:=hoA.frozenAt (k*5+4);have nA:gA≠sp.bb:=(by omega);have nA':sp.bb≠gA:=(by omega);have OA:Hid _:=hoA;have BA:Hid _:=bA;clear hoA hatA bA hgA xA));have hd:=iL0 (l':=l) HA1.out HB1.out BA.out OA.out kA rfl rfl;have HD1:Hid _:=hd.1.cut (q:=q) hk nA;have HD2:Hid _:=hY0 (j:=k*5+4) (u:=.int .i64 ((oAt l k).qty - q)) hd.2 (Nat.le_trans HB1.out.size kA);clear hd
   by_cases hz:(oAt l k).qty=q
   ·have hzb:((oAt l k).qty - q == 0)=true:=beq_iff_eq.2 (by omega);have HZ:Hid ((oAt l k).qty=q):=hz;clear hz;go_wp2_with fail;refine (uV0 base sp _ (l.set k (cutO q (oAt l k))) id _ HD1.out (by simpa using hl) (Nat.le_trans hbs HD2.out.size)).mono ?_;rintro e w3 ⟨ho3,v',hr⟩;have e1:idxO id (l.set k (cutO q (oAt l k)))=idxO id l:=yX0 id l k 0 _ rfl
    have hb3:(BookIs w3 base sp v' (dI0 k l)∧∀j,v'.ownBlock=some j→w.heap.size≤j)∧∃u,e=.returned u:=by
     rcases hr with ⟨h1,_⟩ | ⟨k',_,h1,_,h2,h3,h4⟩
     ·rw [e1,HN.out] at h1;omega
     ·rw [e1,HN.out] at h1;obtain rfl:k=k':=by omega
      rw [tR0] at h3;exact ⟨⟨h3,fun j hj=>Nat.le_trans HD2.out.size (h4 j hj)⟩,_,h2⟩
    obtain ⟨h3,u,rfl⟩:=hb3;have H3:Hid _:=h3;have HO3:Hid _:=HD2.out.trans ho3 (Went.refl _ _);clear h3 ho3 hr e1;go_wp2_with fail;go_ret;exact ⟨HO3.out,v',Or.inr ⟨k,hk,HN.out,HID.out,Or.inr ⟨HQ.out,rfl,by rw [if_pos HZ.out];exact H3.out.1,H3.out.2⟩⟩⟩
   ·have hzb:((oAt l k).qty - q == 0)=false:=beq_eq_false_iff_ne.2 (by omega);have HZ:Hid (¬(oAt l k).qty=q):=hz;clear hz;go_wp2_with fail;go_ret;exact ⟨HD2.out,_,Or.inr ⟨k,hk,HN.out,HID.out,Or.inr ⟨HQ.out,rfl,by rw [if_neg HZ.out];exact HD1.out,eW1 (Nat.le_trans HB1.out.size kA)⟩⟩⟩
theorem tL1 (base:Nat) (sp:Spot) (v:Value) (l:List Ord) (id q:Int) (w:World) (h:BookIs w base sp v l) (hl:l.length≤100) (hbs:base≤w.heap.size) (hqs:∀k,(oAt l k).qty≤1000000):
  Calls Tryz.prog 88 #[.pointer (some ⟨sp.bb,sp.off,none⟩),.int .i64 id,.int .i64 q] w
   fun e w'=>Out (·=sp.bb) w w'∧∃v',((idxO id l=-1∧e=.returned (.int .i64 7)∧BookIs w' base sp v' l)∨∃k:Nat,k<l.length∧idxO id l=k∧(oAt l k).id=id∧
    (((decide (1≤q)&& decide (q≤(oAt l k).qty))=false∧e=.returned (.int .i64 2)∧BookIs w' base sp v' l)∨((decide (1≤q)&& decide (q≤(oAt l k).qty))=true∧e=.returned (.int .i64 0)∧BookIs w' base sp v' (if (oAt l k).qty=q then dI0 k l else l.set k (cutO q (oAt l k)))))):=by
 refine (mX1 base sp v l id q w h hl hbs hqs).mono ?_;rintro e w' ⟨hO,v',h1 | ⟨k,hk,h1,h2,h3 | ⟨h3,h4,h5,_⟩⟩⟩
 ·exact ⟨hO,v',Or.inl h1⟩
 ·exact ⟨hO,v',Or.inr ⟨k,hk,h1,h2,Or.inl h3⟩⟩
 ·exact ⟨hO,v',Or.inr ⟨k,hk,h1,h2,Or.inr ⟨h3,h4,h5⟩⟩⟩
end Go.Proofs.YtjdkagafdnchhaaGreatDoor
