/- A part of the proof of EnginePlays. -/
import Derived.Test.YtjdkagafdnchhaaGreatDoorPA
import Derived.StillTailTactics
import Derived.Deep.RegionLaw
import Derived.BigRegion
import Derived.Maps.OwnSet
import Derived.RangeFuncNested
import Derived.RangeFuncBound
import Derived.RangeFuncCalls
import Derived.RangeFuncLeaves
import Derived.Shelf.Abstract
import Derived.Shelf.RegionOpen
import Derived.OwnWalkIn
import Derived.TacticsInMore
import Derived.LoopNIn
import Derived.LoopIn
import Derived.Maps.AppendAt
namespace Go.Proofs.YtjdkagafdnchhaaGreatDoor
open Go.RowKit
theorem nU1 {P:Program} {id:Nat} {Q:Exit→Act→World→Prop} {a:Act} {w:World} {l:List Oper} (n:Nat) (hm:P.follows .mixedOrders=true) (hB:Region.lexTailB .any l.toArray n=true)
  (h:wpStill P l.toArray w.drew (fun a'=>wpList P l.toArray Q (l.drop n) a' w.drew) (l.take n) a):(Code.region id l.toArray true).wp P Q a w:=wp_region_still_tail n hm hB h
def dC1 (w:World) (g k:Nat) (a:Int):World:=((((((w.setCell ⟨g,k*7,none⟩ (.int .i64 0)).setCell ⟨g,k*7+1,none⟩ (.int .i64 0)).setCell ⟨g,k*7+2,none⟩ (.int .i64 0)).setCell ⟨g,k*7+3,none⟩ (.int .i64 0)).setCell ⟨g,k*7+4,none⟩ (.int .i64 0)).setCell ⟨g,k*7+5,none⟩ (.int .i64 a)).setCell ⟨g,k*7+6,none⟩ (.bool false)
theorem ArOr.clear {w:World} {ab g n cap k:Nat} {most a:Int} {vf:Value} {rs:List Sot} {fr:List Nat} (h:ArOr w ab most (.slice (some ⟨g,0,none⟩) n cap) vf rs fr) (hk:k<rs.length):
  ArOr (dC1 w g k a) ab most (.slice (some ⟨g,0,none⟩) n cap) vf (rs.set k (none,a)) fr∧Out (fun j=>j=g) w (dC1 w g k a):=by
 obtain rfl:=nA0 h.slots;obtain ⟨h1,h2,h3,h4⟩:=ArOr.raw h.box h.slots h.free (k*7) (.int .i64 0) (.int .i64 0) (.int .i64 0) (.int .i64 0) (.int .i64 0);obtain ⟨g1,g2,g3,g4⟩:=fU0 h1 h2 h3 (k*7+5) (.int .i64 a);obtain ⟨i1,i2,i3,i4⟩:=fU0 g1 g2 g3 (k*7+6) (.bool false);refine ⟨⟨i1,?_,i3⟩,(h4.trans g4 (Went.refl _ _)).trans i4 (Went.refl _ _)⟩;have e:=cW1 (none,a) hk;rw [List.length_set,←e];exact i2
theorem yQ0 (w:World) (b:Nat) (u0 u1 u2 u3 u4:Value):Out (fun j=>j=b) w (((((w.setCell ⟨b,0,none⟩ u0).setCell ⟨b,1,none⟩ u1).setCell ⟨b,2,none⟩ u2).setCell ⟨b,3,none⟩ u3).setCell ⟨b,4,none⟩ u4):=
 ((((aQ0 w ⟨b,0,none⟩ u0).trans (aQ0 _ ⟨b,1,none⟩ u1) (Went.refl _ _)).trans (aQ0 _ ⟨b,2,none⟩ u2) (Went.refl _ _)).trans (aQ0 _ ⟨b,3,none⟩ u3) (Went.refl _ _)).trans (aQ0 _ ⟨b,4,none⟩ u4) (Went.refl _ _)
theorem ArOr.freed {w w1:World} {ab g cap k H:Nat} {most:Int} {vs vf:Value} {rs:List Sot} {fr:List Nat} {o:Obj} (h:ArOr w ab most vs vf rs fr)
  (hown:w1.ownsRow 0 3 1 (.slice (some ⟨g,0,none⟩) (fr.length+1) cap) (fr.length+1) (frV (fr++[k]))) (hg:(w.alloc o).grownBy w1 vf.ownBlock) (hat:vf.ownBlock=some g∨g=H) (hH:w.heap.size≤H):
  ArOr (w1.setCell ⟨ab,2,none⟩ (.slice (some ⟨g,0,none⟩) (fr.length+1) cap)) ab most vs (.slice (some ⟨g,0,none⟩) (fr.length+1) cap) rs (fr++[k])
  ∧Out (aoB ab vs vf) w (w1.setCell ⟨ab,2,none⟩ (.slice (some ⟨g,0,none⟩) (fr.length+1) cap))∧Went w (aoB ab vs vf) (aoB ab vs (.slice (some ⟨g,0,none⟩) (fr.length+1) cap)):=by
 have o1:Out (fun k=>vf.ownBlock=some k) w w1:=(Out.of_below (bel1 w o) lR7).trans (Out.of_grown hg (fun k hk=>hk)) (Went.refl _ _);have b1:w1.heap[ab]? = some (.cells #[.int .i64 most,vs,vf] 221 (0,0)):=aE0 h.box o1 (aG0 h.free h.box (by decide));have f1:w1.ownsRow 0 237 7 vs rs.length (soV rs):=aI0 h.slots o1 (fun k hk=>bG0 h.slots h.free (by decide) hk);have o2:=aQ0 w1 ⟨ab,2,none⟩ (.slice (some ⟨g,0,none⟩) (fr.length+1) cap);refine ⟨⟨by simpa using aK0 (j:=2) (.slice (some ⟨g,0,none⟩) (fr.length+1) cap) b1,ownsRow_setCell_other f1 (aG0 f1 b1 (by decide)) _,?_⟩,?_,?_⟩
 ·rw [List.length_append,List.length_singleton];exact ownsRow_setCell_other hown (aG0 hown b1 (by decide)) _
 ·exact (o1.mono (S':=aoB ab vs vf) (fun k hk=>Or.inr (Or.inr hk))).trans (o2.mono (S':=aoB ab vs vf) (fun k hk=>Or.inl hk)) (Went.refl _ _)
 ·rintro k (rfl | hk | hk)
  ·exact Or.inl (Or.inl rfl)
  ·exact Or.inl (Or.inr (Or.inl hk))
  ·injection hk with hk
   change g=k at hk
   subst hk;rcases hat with hat | hat
   ·exact Or.inl (Or.inr (Or.inr hat))
   ·exact Or.inr (by omega)
set_option maxRecDepth 100000 in
set_option maxHeartbeats 2000000 in
theorem qU1 (ab:Nat) (most:Int) (vs vf:Value) (rs:List Sot) (fr:List Nat) (k:Nat) (o:Ord) (a:Int) (w:World) (h:ArOr w ab most vs vf rs fr) (hk:soAt rs k=(some o,a)) (hl:rs.length≤1000000) (hfl:fr.length≤rs.length) (hag:0≤a∧a≤1000000):
  Calls Tryz.prog 102 #[.pointer (some ⟨ab,0,none⟩),.agg #[.int .i64 k,.int .i64 a]] w
   fun e w'=>e=.returned (.tuple #[o.agg,.nilIface])∧∃vf',ArOr w' ab most vs vf' (rs.set k (none,a+1)) (fr++[k])∧Out (aoB ab vs vf) w w'∧Went w (aoB ab vs vf) (aoB ab vs vf'):=by
 obtain ⟨i0,hi,hz0,hz1,hz2⟩:=info_parts Tryz.infoNumO;have HA:Hid (ArOr w ab most vs vf rs fr):=h;have HK:Hid (soAt rs k=(some o,a)):=hk;have HG:Hid (0≤a∧a≤1000000):=hag;clear h hag hk;go_enter Tryz.func102,Tryz.ntmps102;go_wp2_with fail;refine (nT1 ab most vs vf rs fr k o a _ (HA.out.below (bel2 _ _ _) lR7) HK.out).mono ?_;rintro e w1 ⟨hb,rfl⟩;have hh:=(hb.block (w.heap.size) (by simp;omega)).trans (eV0 w _ _);have hr:=(hb.block (w.heap.size+1) (by simp)).trans (dX0 w _ _);have HR0:Hid _:=hr;have HB:Hid (Below w.heap.size w w1):=aD0 (bel2 w _ _) hb;unfold Ord.agg;go_upto_region 4 with fail;have hh:=aC0 hh (bel1 w1 (.cells #[.int .i64 o.id,.int .i64 o.side,.int .i64 o.kind,.int .i64 o.price,.int .i64 o.qty] 41)) lR7;have hr:=aC0 hr (bel1 w1 (.cells #[.int .i64 o.id,.int .i64 o.side,.int .i64 o.kind,.int .i64 o.price,.int .i64 o.qty] 41)) lR7;have hx:=heap_alloc_new w1 (.cells #[.int .i64 o.id,.int .i64 o.side,.int .i64 o.kind,.int .i64 o.price,.int .i64 o.qty] 41);have HB1:Hid (Below w.heap.size w (w1.alloc (.cells #[.int .i64 o.id,.int .i64 o.side,.int .i64 o.kind,.int .i64 o.price,.int .i64 o.qty] 41))):=aD0 HB.out (bel1 _ _);generalize w1.alloc (.cells #[.int .i64 o.id,.int .i64 o.side,.int .i64 o.kind,.int .i64 o.price,.int .i64 o.qty] 41)=wa at hh hr hx HB1 ⊢;have hxb1:w.heap.size≤w1.heap.size:=HB.out.size;have hxb2:w1.heap.size≠w.heap.size+1:=fun e=>by have:=lt_of_block HR0.out;omega
 generalize w1.heap.size=xb at hx hxb1 hxb2 ⊢;have HXB:Hid (w.heap.size≤xb):=hxb1;have HXN:Hid (xb≠w.heap.size+1):=hxb2;clear hb HB hxb1 hxb2;have HH:Hid (wa.heap[w.heap.size]? = some (.cells #[.int .i64 k,.int .i64 a] 169 (0,0))):=hh;have HR:Hid (wa.heap[w.heap.size+1]? = some (.cells #[.int .i64 0,.int .i64 0,.int .i64 0,.int .i64 0,.int .i64 0] 41 (0,0))):=hr;have HX:Hid (wa.heap[xb]? = some (.cells #[.int .i64 o.id,.int .i64 o.side,.int .i64 o.kind,.int .i64 o.price,.int .i64 o.qty] 41 (0,0))):=hx;have H1:Hid (ArOr wa ab most vs vf rs fr):=HA.out.below HB1.out lR7;obtain ⟨hk1,g,cap,rfl,d0,d1,d2,d3,d4,d5,d6⟩:=H1.out.has HK.out;have x0:=aA0 (j:=0) hh rfl;have x1:=aA0 (j:=1) hh rfl;have c1:=aA0 (j:=1) H1.out.box rfl;have f0:=H1.out.slots.frozenAt (k*7);have f1:=H1.out.slots.frozenAt (k*7+1);have f2:=H1.out.slots.frozenAt (k*7+2);have f3:=H1.out.slots.frozenAt (k*7+3);have f4:=H1.out.slots.frozenAt (k*7+4);have f5:=H1.out.slots.frozenAt (k*7+5);have f6:=H1.out.slots.frozenAt (k*7+6);have q0:IntKind.i64.wrap (a+1)=a+1:=IntWalk.i64_in _ (by have:=HG.out;omega);have q1:(0:Int)≤(k:Int):=by omega
 have q2:(k:Int)<rs.length:=by omega
 clear hh hr hx;refine nU1 11 (by kernel_rfl) (by kernel_rfl) ?_;simp only [List.take_succ_cons,List.take_zero,List.drop_succ_cons,List.drop_zero]
 repeat still_step
 try refine wpStill_nil ?_
 go_upto_region 5 with fail;obtain ⟨r1,r2⟩:=H1.out.clear (a:=a+1) hk1;unfold dC1 at r1 r2;generalize hw2:((((((wa.setCell ⟨g,k*7,none⟩ (.int .i64 0)).setCell ⟨g,k*7+1,none⟩ (.int .i64 0)).setCell ⟨g,k*7+2,none⟩ (.int .i64 0)).setCell ⟨g,k*7+3,none⟩ (.int .i64 0)).setCell ⟨g,k*7+4,none⟩ (.int .i64 0)).setCell ⟨g,k*7+5,none⟩ (.int .i64 (a+1))).setCell ⟨g,k*7+6,none⟩ (.bool false)=w2 at r1 r2 ⊢;clear hw2;have hh2:=aE0 HH.out r2 (fun e=>aG0 H1.out.slots HH.out (by decide) (by rw [e];rfl));have hr2:=aE0 HR.out r2 (fun e=>aG0 H1.out.slots HR.out (by decide) (by rw [e];rfl));have hx2:=aE0 HX.out r2 (fun e=>aG0 H1.out.slots HX.out (by decide) (by rw [e];rfl));have H2:Hid (ArOr w2.drew ab most (.slice (some ⟨g,0,none⟩) rs.length cap) vf (rs.set k (none,a+1)) fr):=r1.below (Below.refl w2.heap.size w2).drew lR7;have HO2:Hid (Out (aoB ab (.slice (some ⟨g,0,none⟩) rs.length cap) vf) wa w2.drew):=(r2.mono (S':=aoB ab (.slice (some ⟨g,0,none⟩) rs.length cap) vf) (fun j hj=>Or.inr (Or.inl (by rw [hj];rfl)))).trans (Out.of_below (Below.refl w2.heap.size w2).drew lR7) (Went.refl _ _);have HH2:Hid (w2.drew.heap[w.heap.size]? = some (.cells #[.int .i64 k,.int .i64 a] 169 (0,0))):=hh2;have HR2:Hid (w2.drew.heap[w.heap.size+1]? = some (.cells #[.int .i64 0,.int .i64 0,.int .i64 0,.int .i64 0,.int .i64 0] 41 (0,0))):=hr2;have HX2:Hid (w2.drew.heap[xb]? = some (.cells #[.int .i64 o.id,.int .i64 o.side,.int .i64 o.kind,.int .i64 o.price,.int .i64 o.qty] 41 (0,0))):=hx2;clear r1 r2 hh2 hr2 hx2 d0 d1 d2 d3 d4 d5 d6 x0 x1 c1 f0 f1 f2 f3 f4 f5 f6 q0 q1 q2;generalize w2.drew=w3 at H2 HO2 HH2 HR2 HX2 ⊢;have y0:w3.cell? ⟨w.heap.size,0,none⟩=some (.int .i64 k):=aA0 (j:=0) HH2.out rfl;have ly:w.heap.size<w3.heap.size:=lt_of_block HH2.out;have z2:w3.cell? ⟨ab,2,none⟩=some vf:=aA0 (j:=2) H2.out.box rfl;have lz:ab<w3.heap.size:=lt_of_block H2.out.box;have A1:vf.ownBlock≠some ab:=aG0 H2.out.free H2.out.box (by decide);have A2:vf.ownBlock≠some w.heap.size:=aG0 H2.out.free HH2.out (by decide);have A3:vf.ownBlock≠some (w.heap.size+1):=aG0 H2.out.free HR2.out (by decide);have A4:vf.ownBlock≠some xb:=aG0 H2.out.free HX2.out (by decide);have lr:w.heap.size+1<w3.heap.size:=lt_of_block HR2.out;have lx:xb<w3.heap.size:=lt_of_block HX2.out;obtain ⟨fo,fc,rfl,_,_⟩:=bB0 H2.out.free;have fz:w3.frozen? ⟨ab,2,none⟩=false:=aB0 H2.out.box;have fy:(w3.alloc (.cells #[.int .i64 k] 3)).drew.frozen? ⟨ab,2,none⟩=false:=((((Below.refl w3.heap.size w3).alloc lR7 _).drew).frozen (p:=⟨ab,2,none⟩) lz).trans fz;go_region_law ((refine step_append_lies _ (by rfl) _ _ _ (by rfl) 0 3 i0 (.int .i64 0) 1 8 Tryz.underlying65 hi hz0 hz1 hz2 rfl (by omega) (.slice fo fr.length fc) fr.length (frV fr) (by rfl) ((H2.out.free.alloc _).drew) ⟨w3.heap.size,0,none⟩ 1 1 [.int .i64 k] (by rfl) (by rfl) (World.news_of_block (cs:=#[.int .i64 k]) (t:=3) (fr:=(0,0)) (heap_alloc_new w3 _)) (by simp [Value.oneCell']) (by omega) (by unfold maxLen;omega) (by omega) (Nat.zero_le _) (w3.heap.size+1) (by simp) ?_;intro g2 cap2 w4 hown hgrow hat hlt;have hb4:=(hgrow.block ab (by simp;omega) (Ne.symm A1)).trans ((((Below.refl w3.heap.size w3).alloc lR7 _).drew.block ab lz).trans H2.out.box);have z4:=aA0 (j:=2) hb4 rfl;have z5:=aB0 (j:=2) hb4))
 all_goals go_upto_region 6 with fail
 all_goals obtain ⟨r1,r2,r3⟩:=H2.out.freed (k:=k) (by rw [yO0];exact hown) ⟨hgrow.os,hgrow.tape,hgrow.output,hgrow.size,hgrow.block⟩ hat (by omega)
 all_goals have hne:∀j,(w.heap.size≤j)→¬aoB ab (.slice (some ⟨g,0,none⟩) rs.length cap) (.slice fo fr.length fc) j:=fun j hj e=>by have:=HA.out.lt e;omega
 all_goals have hr5:=aE0 HR2.out r2 (hne _ (by omega))
 all_goals have hx5:=aE0 HX2.out r2 (hne _ (HXB.out))
 all_goals generalize w4.setCell ⟨ab,2,none⟩ (.slice (some ⟨g2,0,none⟩) (fr.length+1) cap2)=w5 at r1 r2 r3 hr5 hx5 ⊢
 all_goals have R1:Hid _:=r1
 all_goals have R2:Hid _:=r2
 all_goals have R3:Hid _:=r3
 all_goals have hnx:xb≠w.heap.size+1:=HXN.out
 all_goals have e0:=aA0 (j:=0) hx5 rfl
 all_goals have e1:=aA0 (j:=1) hx5 rfl
 all_goals have e2:=aA0 (j:=2) hx5 rfl
 all_goals have e3:=aA0 (j:=3) hx5 rfl
 all_goals have e4:=aA0 (j:=4) hx5 rfl
 all_goals have u0:=aA0 (j:=0) hr5 rfl
 all_goals have u1:=aA0 (j:=1) hr5 rfl
 all_goals have u2:=aA0 (j:=2) hr5 rfl
 all_goals have u3:=aA0 (j:=3) hr5 rfl
 all_goals have u4:=aA0 (j:=4) hr5 rfl
 all_goals have v0:=aB0 (j:=0) hr5
 all_goals have v1:=aB0 (j:=1) hr5
 all_goals have v2:=aB0 (j:=2) hr5
 all_goals have v3:=aB0 (j:=3) hr5
 all_goals have v4:=aB0 (j:=4) hr5
 all_goals clear r1 r2 r3 hr5 hx5 hown hgrow hat hlt hb4 z4 z5 fy fz z2 y0
 all_goals go_wp2
 all_goals refine bodyPost_ret (by simp [results,Tryz.results102,go_sem,u0,u1,u2,u3,u4];try rfl) rfl ?_
 all_goals have s3:=yQ0 w5 (w.heap.size+1) (.int .i64 o.id) (.int .i64 o.side) (.int .i64 o.kind) (.int .i64 o.price) (.int .i64 o.qty)
 all_goals have b0a:=Out.of_below (S:=aoB ab (.slice (some ⟨g,0,none⟩) rs.length cap) (.slice fo fr.length fc)) HB1.out lR7
 all_goals have b03:=b0a.trans HO2.out (Went.refl _ _)
 all_goals have b05:=b03.trans R2.out (Went.refl _ _)
 all_goals have w05:Went w (aoB ab (.slice (some ⟨g,0,none⟩) rs.length cap) (.slice fo fr.length fc)) _:=fun j hj=>(R3.out j hj).imp id (fun h4=>Nat.le_trans b03.size h4)
 all_goals refine ⟨rfl,_,R1.out.out s3 (fun j hj e=>?_),b05.trans s3 (fun j hj=>Or.inr (by omega)),w05⟩
 all_goals rcases R3.out j hj with h4 | h4
 all_goals first | (have:=HA.out.lt h4;omega) | omega
end Go.Proofs.YtjdkagafdnchhaaGreatDoor
namespace Go.Proofs.YtjdkagafdnchhaaGreatDoor
open Go.RowKit Go.Maps
def plE (k a s:Int):DataW Unit:=.agg [.lit (.int .i64 k),.lit (.int .i64 a),.lit (.int .i64 s)]
def plR (v:Value):Option (DataW Unit×List MemPlace):=
 match v with
 | .agg ⟨[.int .i64 k,.int .i64 a,.int .i64 s]⟩=>some (plE k a s,[])
 | _=>none
theorem qV1 (k a s:Int):plR (.agg #[.int .i64 k,.int .i64 a,.int .i64 s])=some (plE k a s,[]):=rfl
theorem dD1 {v:Value} {k a s:Int} {ps:List MemPlace} (h:plR v=some (plE k a s,ps)):v=.agg #[.int .i64 k,.int .i64 a,.int .i64 s]:=by
 unfold plR at h;split at h
 ·simp only [plE,Option.some.injEq,Prod.mk.injEq,DataW.agg.injEq,List.cons.injEq,DataW.lit.injEq,Lit.int.injEq,true_and,and_true] at h;obtain ⟨⟨rfl,rfl,rfl⟩,_⟩:=h;rfl
 ·cases h
theorem Tryz.keyI:Maps.Keyed Tryz.prog 3:=Maps.int_keyed Tryz.underlying3
theorem Tryz.keyAt {a:Int} (h:(Lit.int .i64 a).wf=true):keyOf Tryz.prog 3 (.int .i64 a)=some (.int .i64 a):=Maps.keyOf_int_mk Tryz.underlying3 h
theorem Tryz.zeroPl (w:World):(zeroValue 171).run Tryz.prog w=.ok (.agg #[.int .i64 0,.int .i64 0,.int .i64 0]) w:=by kernel_rfl
theorem nW0 {a b:Int} (h:Lit.int .i64 a=Lit.int .i64 b):a=b:=by injection h
theorem nV1 (a:Int):WideAt.IsKeyLit (.int .i64 a):=trivial
def fD0 (w:World) (mb n:Nat) (S:Nat→List Ly):Prop:=
 ∃D:DataW Unit,w.ownsMap Tryz.prog 3 plR mb n D∧(∀s,s<2→∀x∈S s,Maps.has D (.int .i64 x.o.id)=true∧∀z,D.atKey (.int .i64 x.o.id) z=plE x.slot x.age s)
  ∧∀id:Int,(∀s,s<2→∀x∈S s,x.o.id≠id)→Maps.has D (.int .i64 id)=false
theorem yR0 {w w':World} {P:Program} {k:TypeId} {R:Value→Option (DataW Unit×List MemPlace)} {b n:Nat} {D:DataW Unit} (h:w.ownsMap P k R b n D) (hb:w'.heap[b]? = w.heap[b]?):w'.ownsMap P k R b n D:=by
 obtain ⟨es,clock,h1,r⟩:=h;exact ⟨es,clock,hb.trans h1,r⟩
theorem fD0.same {w w':World} {mb n:Nat} {S:Nat→List Ly} (h:fD0 w mb n S) (hb:w'.heap[mb]? = w.heap[mb]?):fD0 w' mb n S:=by
 obtain ⟨D,h1,r⟩:=h;exact ⟨D,yR0 h1 hb,r⟩
theorem fD0.lt {w:World} {mb n:Nat} {S:Nat→List Ly} (h:fD0 w mb n S):mb<w.heap.size:=by
 obtain ⟨D,h1,r⟩:=h;exact h1.lt
theorem fD0.isMap {w:World} {mb n:Nat} {S:Nat→List Ly} (h:fD0 w mb n S):∃es clock,w.heap[mb]? = some (.map es clock):=by
 obtain ⟨D,⟨es,clock,h1,_⟩,_⟩:=h;exact ⟨es,clock,h1⟩
theorem fD0.ne {w:World} {mb n b:Nat} {S:Nat→List Ly} {vs:Array Value} {t:TypeId} {f:Nat×Nat} (h:fD0 w mb n S) (hb:w.heap[b]? = some (.cells vs t f)):b≠mb:=fun e=>by
 obtain ⟨es,clock,h1⟩:=h.isMap;rw [e,h1] at hb;cases hb
theorem fD0.yes {w:World} {mb n s:Nat} {S:Nat→List Ly} {x:Ly} (h:fD0 w mb n S) (hs:s<2) (hx:x∈S s) (hw:(Lit.int .i64 x.o.id).wf=true):
  (Instr.lookup 153 (.map (some mb)) (.int .i64 x.o.id) true).run Tryz.prog w=.ok (.tuple #[.agg #[.int .i64 x.slot,.int .i64 x.age,.int .i64 s],.bool true]) w:=by
 obtain ⟨D,h1,h2,_⟩:=h;obtain ⟨v,ps,hr,hv⟩:=h1.look_ok Tryz.keyI Tryz.underlying153 (Tryz.zeroPl w) (zd:=plE 0 0 0) (zp:=[]) rfl (Tryz.keyAt hw);obtain ⟨h3,h4⟩:=h2 s hs x hx;rw [h3] at hr;rw [h4] at hv;rw [hr,dD1 hv]
theorem fD0.no {w:World} {mb n:Nat} {S:Nat→List Ly} {id:Int} (h:fD0 w mb n S) (hx:∀s,s<2→∀x∈S s,x.o.id≠id) (hw:(Lit.int .i64 id).wf=true):
  (Instr.lookup 153 (.map (some mb)) (.int .i64 id) true).run Tryz.prog w=.ok (.tuple #[.agg #[.int .i64 0,.int .i64 0,.int .i64 0],.bool false]) w:=by
 obtain ⟨D,h1,_,h2⟩:=h;obtain ⟨v,ps,hr,hv⟩:=h1.look_ok Tryz.keyI Tryz.underlying153 (Tryz.zeroPl w) (zd:=plE 0 0 0) (zp:=[]) rfl (Tryz.keyAt hw);have h3:=h2 id hx;rw [h3] at hr;rw [Maps.atKey_of_not_has h3] at hv;rw [hr,dD1 hv]
theorem lP0 {w w':World} {mb:Nat} (h:w.mapTurned w' mb):Out (fun j=>j=mb) w w':=Out.of_grown h.grown (fun k hk=>by injection hk with hk;exact hk.symm)
theorem fD0.put {w:World} {mb n s:Nat} {S S':Nat→List Ly} {x:Ly} (h:fD0 w mb n S) (hs:s<2) (hw:(Lit.int .i64 x.o.id).wf=true) (hn:n<1000000) (hno:∀t,t<2→∀y∈S t,y.o.id≠x.o.id)
  (hS:∀t,t<2→∀y,y∈S' t↔((t=s∧y=x)∨y∈S t)):
  ∃w',(Instr.mapUpdate 153 (.map (some mb)) (.int .i64 x.o.id) (.agg #[.int .i64 x.slot,.int .i64 x.age,.int .i64 s])).run Tryz.prog w=.ok () w'∧fD0 w' mb (n+1) S'∧Out (fun j=>j=mb) w w':=by
 obtain ⟨D,h1,h2,h3⟩:=h;obtain ⟨w',hr,h4,h5⟩:=h1.store Tryz.keyI Tryz.underlying153 (by unfold maxLen;omega) (Tryz.keyAt hw) (qV1 x.slot x.age s);refine ⟨w',hr,⟨_,h4,fun t ht y hy=>?_,fun id hid=>?_⟩,lP0 h5⟩
 ·rcases (hS t ht y).1 hy with ⟨rfl,rfl⟩ | hy
  ·exact ⟨Maps.has_put_same h1.isMap (nV1 _) _,fun z=>Maps.atKey_put_same h1.isMap (nV1 _) _ _⟩
  ·have hne:Lit.int .i64 y.o.id≠Lit.int .i64 x.o.id:=fun e=>hno t ht y hy (nW0 e)
   rw [Maps.has_put_other hne];exact ⟨(h2 t ht y hy).1,fun z=>by rw [Maps.atKey_put_other hne];exact (h2 t ht y hy).2 z⟩
 ·have hne:Lit.int .i64 id≠Lit.int .i64 x.o.id:=fun e=>hid s hs x ((hS s hs x).2 (Or.inl ⟨rfl,rfl⟩)) (nW0 e).symm
  rw [Maps.has_put_other hne];exact h3 id (fun t ht y hy=>hid t ht y ((hS t ht y).2 (Or.inr hy)))
theorem fD0.del {w:World} {mb n:Nat} {S S':Nat→List Ly} {x:Ly} (h:fD0 w mb n S) (hw:(Lit.int .i64 x.o.id).wf=true)
  (hS:∀t,t<2→∀y,y∈S' t↔(y∈S t∧y.o.id≠x.o.id)) (ty:TypeId):
  ∃w',(Builtin.delete_ #[153,3] ty #[.map (some mb),.int .i64 x.o.id]).run Tryz.prog w=.ok (.tuple #[]) w'∧fD0 w' mb n S'∧Out (fun j=>j=mb) w w':=by
 obtain ⟨D,h1,h2,h3⟩:=h;obtain ⟨w',hr,h4,h5⟩:=h1.drop Tryz.keyI Tryz.underlying153 (Tryz.keyAt hw) ty;refine ⟨w',hr,⟨_,h4,fun t ht y hy=>?_,fun id hid=>?_⟩,lP0 h5⟩
 ·obtain ⟨hy,hne'⟩:=(hS t ht y).1 hy;have hne:Lit.int .i64 y.o.id≠Lit.int .i64 x.o.id:=fun e=>hne' (nW0 e)
  rw [Maps.has_del_other hne];exact ⟨(h2 t ht y hy).1,fun z=>by rw [Maps.atKey_del_other hne];exact (h2 t ht y hy).2 z⟩
 ·by_cases e:id=x.o.id
  ·subst e;exact Maps.has_del_same
  ·have hne:Lit.int .i64 id≠Lit.int .i64 x.o.id:=fun e'=>e (nW0 e')
   rw [Maps.has_del_other hne];exact h3 id (fun t ht y hy e'=>hid t ht y ((hS t ht y).2 ⟨hy,fun e''=>e (e'.symm.trans e'')⟩) e')
theorem fD0.like {w:World} {mb n:Nat} {S S':Nat→List Ly} (h:fD0 w mb n S) (h1:∀t,t<2→∀y∈S' t,∃z∈S t,z.o.id=y.o.id∧z.slot=y.slot∧z.age=y.age) (h2:∀t,t<2→∀z∈S t,∃y∈S' t,y.o.id=z.o.id):fD0 w mb n S':=by
 obtain ⟨D,a,b,c⟩:=h;refine ⟨D,a,fun t ht y hy=>?_,fun id hid=>c id (fun t ht z hz=>?_)⟩
 ·obtain ⟨z,hz,e1,e2,e3⟩:=h1 t ht y hy;rw [←e1,←e2,←e3];exact b t ht z hz
 ·obtain ⟨y,hy,e⟩:=h2 t ht z hz;rw [←e];exact hid t ht y hy
structure BookAt (w:World) (bb ab mb n:Nat) (vs vf v0 v1:Value) (rs:List Sot) (fr:List Nat) (S:Nat→List Ly):Prop where
 box:w.heap[bb]? = some (.cells #[.pointer (some ⟨ab,0,none⟩),.map (some mb),v0,v1] 157 (0,0))
 ar:ArOr w ab 100 vs vf rs fr
 map:fD0 w mb n S
 row0:w.ownsRow 0 169 2 v0 (S 0).length (hV (S 0))
 row1:w.ownsRow 0 169 2 v1 (S 1).length (hV (S 1))
 apart:∀k,v0.ownBlock=some k→v1.ownBlock≠some k
def pbB (bb ab mb:Nat) (vs vf v0 v1:Value) (k:Nat):Prop:=k=bb∨aoB ab vs vf k∨k=mb∨v0.ownBlock=some k∨v1.ownBlock=some k
section
variable {w w':World} {bb ab mb n:Nat} {vs vf v0 v1:Value} {rs:List Sot} {fr:List Nat} {S:Nat→List Ly}
theorem BookAt.lt (h:BookAt w bb ab mb n vs vf v0 v1 rs fr S) {k:Nat} (hk:pbB bb ab mb vs vf v0 v1 k):k<w.heap.size:=by
 rcases hk with rfl | hk | rfl | hk | hk
 ·exact lt_of_block h.box
 ·exact h.ar.lt hk
 ·exact h.map.lt
 ·exact (h.row0.lt k hk).2
 ·exact (h.row1.lt k hk).2
theorem BookAt.out {T:Nat→Prop} (h:BookAt w bb ab mb n vs vf v0 v1 rs fr S) (ho:Out T w w') (hT:∀k,pbB bb ab mb vs vf v0 v1 k→¬T k):BookAt w' bb ab mb n vs vf v0 v1 rs fr S:=
 ⟨aE0 h.box ho (hT bb (Or.inl rfl)),h.ar.out ho (fun k hk=>hT k (Or.inr (Or.inl hk))),h.map.same (ho.block mb h.map.lt (hT mb (Or.inr (Or.inr (Or.inl rfl))))),
  aI0 h.row0 ho (fun k hk=>hT k (Or.inr (Or.inr (Or.inr (Or.inl hk))))),aI0 h.row1 ho (fun k hk=>hT k (Or.inr (Or.inr (Or.inr (Or.inr hk))))),h.apart⟩
theorem BookAt.below {B:Nat} (h:BookAt w bb ab mb n vs vf v0 v1 rs fr S) (hb:Below B w w') (hB:w.heap.size≤B):BookAt w' bb ab mb n vs vf v0 v1 rs fr S:=
 h.out (T:=fun _=>False) (Out.of_below hb hB) (fun _ _ e=>e)
theorem BookAt.above {B:Nat} (h:BookAt w bb ab mb n vs vf v0 v1 rs fr S) (hb:Below B w w') (hB:∀k,pbB bb ab mb vs vf v0 v1 k→k<B):BookAt w' bb ab mb n vs vf v0 v1 rs fr S:=
 h.out (T:=fun k=>B≤k) ⟨hb.os,hb.tape,hb.output,hb.size,fun k hk hT=>hb.block k (by omega)⟩ (fun k hk e=>by have:=hB k hk;omega)
theorem BookAt.notBox (h:BookAt w bb ab mb n vs vf v0 v1 rs fr S):¬aoB ab vs vf bb:=fun e=>by
 rcases e with e | e | e
 ·exact cV0 h.box h.ar.box (by decide) e
 ·exact aG0 h.ar.slots h.box (by decide) e
 ·exact aG0 h.ar.free h.box (by decide) e
theorem BookAt.notRow0 (h:BookAt w bb ab mb n vs vf v0 v1 rs fr S) {k:Nat} (hk:v0.ownBlock=some k):¬aoB ab vs vf k:=fun e=>by
 rcases e with e | e | e
 ·exact aG0 h.row0 (e ▸ h.ar.box) (by decide) hk
 ·exact bG0 h.row0 h.ar.slots (by decide) hk e
 ·exact bG0 h.row0 h.ar.free (by decide) hk e
theorem BookAt.notRow1 (h:BookAt w bb ab mb n vs vf v0 v1 rs fr S) {k:Nat} (hk:v1.ownBlock=some k):¬aoB ab vs vf k:=fun e=>by
 rcases e with e | e | e
 ·exact aG0 h.row1 (e ▸ h.ar.box) (by decide) hk
 ·exact bG0 h.row1 h.ar.slots (by decide) hk e
 ·exact bG0 h.row1 h.ar.free (by decide) hk e
theorem cS0 {base:Nat} {e:TypeId} {size:Nat} {v:Value} {k:Nat} {xs:List Value} (h:w.ownsRow base e size v k xs) (hm:fD0 w mb n S):v.ownBlock≠some mb:=fun hv=>by
 rcases h.2 with ⟨rfl,_⟩ | ⟨g,cap,cur,rfl,_,hh,_⟩
 ·cases hv
 ·simp [Value.ownBlock] at hv;subst hv;exact hm.ne hh rfl
theorem BookAt.notMap (h:BookAt w bb ab mb n vs vf v0 v1 rs fr S):¬aoB ab vs vf mb:=fun e=>by
 rcases e with e | e | e
 ·exact h.map.ne h.ar.box e.symm
 ·exact cS0 h.ar.slots h.map e
 ·exact cS0 h.ar.free h.map e
theorem BookAt.newAr {vs' vf':Value} {rs':List Sot} {fr':List Nat} (h:BookAt w bb ab mb n vs vf v0 v1 rs fr S) (ho:Out (aoB ab vs vf) w w') (ha:ArOr w' ab 100 vs' vf' rs' fr'):BookAt w' bb ab mb n vs' vf' v0 v1 rs' fr' S:=
 ⟨aE0 h.box ho h.notBox,ha,h.map.same (ho.block mb h.map.lt h.notMap),aI0 h.row0 ho (fun _ hk=>h.notRow0 hk),aI0 h.row1 ho (fun _ hk=>h.notRow1 hk),h.apart⟩
def vAt (v0 v1:Value) (s:Nat):Value:=if s=0 then v0 else v1
theorem BookAt.row (h:BookAt w bb ab mb n vs vf v0 v1 rs fr S) {s:Nat} (hs:s<2):w.ownsRow 0 169 2 (vAt v0 v1 s) (S s).length (hV (S s))∧w.cell? ⟨bb,2+s,none⟩=some (vAt v0 v1 s)∧w.frozen? ⟨bb,2+s,none⟩=false:=by
 match s,hs with
 | 0,_=>exact ⟨h.row0,aA0 (j:=2) h.box rfl,aB0 h.box⟩
 | 1,_=>exact ⟨h.row1,aA0 (j:=3) h.box rfl,aB0 h.box⟩
end
end Go.Proofs.YtjdkagafdnchhaaGreatDoor
namespace Go.Proofs.YtjdkagafdnchhaaGreatDoor
open Go.RowKit Go.Shelf
attribute [local go_sem] Oper.semAt_some
attribute [local go_sem ↓] Go.wp_at_zero Go.wp_at_succ
structure KpL (m Bb:Nat) (W W':World):Prop where
 below:Below m W W'
 box:∀vs t,W.heap[Bb]? = some (.cells vs t (0,0))→W'.heap[Bb]? = some (.cells vs t (0,0))
theorem KpL.trans {m Bb:Nat} {A B C:World} (h:KpL m Bb A B) (k:KpL m Bb B C):KpL m Bb A C:=⟨h.below.trans k.below,fun vs t e=>k.box vs t (h.box vs t e)⟩
theorem nW1 {m Bb:Nat} {A B C:World} (h:KpL m Bb A B) (k:KpL m Bb B C):KpL m Bb A C:=h.trans k
theorem nX1 {m Bb:Nat} {w:World} (hm:m≤w.heap.size) (W:World) (l:Nat) (o o':Obj) (hl:w.heap.size≤l) (h:W.heap[l]? = some o) (hc:o.isCells=false) (hw:o.isWalk=false):KpL m Bb W (W.putObj l o'):=
 ⟨belowK_b hm W l o o' hl h hc hw,fun vs t e=>by
  have hne:l≠Bb:=fun e'=>by subst e';rw [e] at h;injection h with h;subst h;cases hc
  exact (World.putObj_heap_other (Ne.symm hne)).trans e⟩
theorem KpL.of_below {m Bb:Nat} {W W':World} (h:Below W.heap.size W W') (hm:m≤W.heap.size):KpL m Bb W W':=⟨h.mono hm,fun _ _ e=>aC0 e h lR7⟩
theorem fN0 {W W':World} (h:Below W.heap.size W W'):W.grownBy W' none:=⟨h.os,h.tape,h.output,h.size,fun k hk _=>h.block k hk⟩
theorem kJ0 {l:List Ly} {k:Nat} (h:k<l.length):(l.take (k+1)).map Ly.o=(l.take k).map Ly.o++[(lyAt l k).o]:=by
 rw [List.take_succ_eq_append_getElem h,List.map_append,iQ0 h];rfl
set_option maxRecDepth 100000 in
set_option maxHeartbeats 4000000 in
theorem lyIt (n:Nat) (hn:1≤n) (l Bb Bs m bb ab mb nn s:Nat) (vs vf v0 v1:Value) (rs:List Sot) (fr:List Nat) (S:Nat→List Ly) (J Jx:List Ord→World→Prop) (hs:s<2) (hlen:(S s).length≤1000)
  (hth:∀x∈S s,soAt rs x.slot=(some x.o,x.age)) (hm:∀k,pbB bb ab mb vs vf v0 v1 k→k<m)
  (W:World) (hmW:m≤W.heap.size) (hB:BookAt W bb ab mb nn vs vf v0 v1 rs fr S) (hbb:W.heap[Bb]? = some (.cells #[.pointer (some ⟨bb,0,none⟩)] 94 (0,0))) (hbs:W.cell? ⟨Bs,0,none⟩=some (.int .i64 s))
  (hJ:AbidesFrom W.heap.size J)
  (hY:∀pre x W,J pre W→pre.length<(S s).length→YieldAt Fence.wide (n - 1) Tryz.prog l #[Ord.agg x] W fun e W'=>
   (e=.returned (.bool true)∧J (pre++[x]) W'∧KpL m Bb W W')∨(e=.returned (.bool false)∧Jx (pre++[x]) W'))
  (h0:J [] W):
  CallsIn Fence.wide n Tryz.prog 162 #[.func (.yield l) #[] #[],.pointer (some ⟨Bb,0,none⟩),.pointer (some ⟨Bs,0,none⟩)] W fun e W'=>(∃v,e=.returned v)∧
   ((∃ys,ys=(S s).map Ly.o∧J ys W')∨(∃pre,pre <+:(S s).map Ly.o∧Jx pre W')):=by
 obtain ⟨hrow,hc,_⟩:=hB.row hs;have HBK:Hid (BookAt W bb ab mb nn vs vf v0 v1 rs fr S):=hB;have HM:Hid (∀k,pbB bb ab mb vs vf v0 v1 k→k<m):=hm;have HTH:Hid (∀x∈S s,soAt rs x.slot=(some x.o,x.age)):=hth;have HJ:Hid (AbidesFrom W.heap.size J):=hJ;have HY:Hid _:=hY;have HBB:Hid (W.heap[Bb]? = some (.cells #[.pointer (some ⟨bb,0,none⟩)] 94 (0,0))):=hbb;have cb:=aA0 (j:=0) hbb rfl;have HROW:Hid _:=hrow;obtain ⟨ao,cap,hv,_,_⟩:=bB0 hrow;rw [hv] at hc HROW;have q1:(0:Int)≤(s:Int):=by omega
 have q2:(s:Int)<2:=by omega
 clear hB hm hth hJ hY hbb hrow;refine callsIn_of_wp Tryz.func162 rfl trivial ?_ rfl;simp only [Tryz.ntmps162,List.size_toArray,List.length_cons,List.length_nil,Nat.reduceAdd,Nat.reduceSub,Array.replicate_succ,Array.replicate_zero,List.push_toArray,List.append_toArray,List.nil_append,List.cons_append]
 gi_wp2_with fail
 refine wpIn_wide.2 ?_;go_quiet (fail);have HJ0:Hid (J ((([]:List Ly)).map Ly.o) (W.drewN nq)):=HJ.out [] W _ none h0 (fN0 (below_drewN (Below.refl _ _) nq)) (fun r e=>by cases e);have HK0:Hid (KpL m Bb W (W.drewN nq)):=KpL.of_below (below_drewN (Below.refl _ _) nq) hmW;generalize W.drewN nq=Wd at HJ0 HK0 ⊢;clear h0 hbs hc cb
 gi_wp2_with fail
 gi_loopw [15] (fun i wr=>∃k:Nat,k≤(S s).length∧i=.int .i64 k∧J (((S s).take k).map Ly.o) wr∧KpL m Bb W wr)
  (fun i _=>(S s).length - (intOf i).toNat)
 case atStart=>exact ⟨0,Nat.zero_le _,rfl,HJ0.out,HK0.out⟩
 case round=>
  obtain ⟨k,hk,rfl,hJs,hkp⟩:=hrel;have HJS:Hid (J (((S s).take k).map Ly.o) wr):=hJs;have HKP:Hid (KpL m Bb W wr):=hkp;have hmr:m≤wr.heap.size:=Nat.le_trans hmW hkp.below.size;clear hJs hkp
  by_cases hlt:k<(S s).length
  ·have HBR:Hid (BookAt wr bb ab mb nn vs vf v0 v1 rs fr S):=HBK.out.above HKP.out.below HM.out;have hrr:=(HBR.out.row hs).1;rw [hv] at hrr;obtain ⟨g,cap',hv',_,_⟩:=hrr.form (by omega);simp only [Value.slice.injEq,true_and] at hv';obtain ⟨rfl,rfl⟩:=hv';have c0:=(hrr.cellAt (k*2) (by omega)).trans (aS1 hlt).1;have c1:=(hrr.cellAt (k*2+1) (by omega)).trans (aS1 hlt).2;have hth:=HTH.out _ (yP0 hlt);have HO:Hid _:=hth;generalize hx:lyAt (S s) k=x at c0 c1 hth HO;have HX:Hid (lyAt (S s) k=x):=hx;clear hrr hx hth
   gi_wp2_with fail
   refine wpIn_wide.2 ?_;have hbh:=bel1 wr (.cells #[.int .i64 x.slot,.int .i64 x.age] 169);have hhh:=heap_alloc_new wr (.cells #[.int .i64 x.slot,.int .i64 x.age] 169);generalize wr.alloc (.cells #[.int .i64 x.slot,.int .i64 x.age] 169)=wh at hbh hhh ⊢;generalize wr.heap.size=hb0 at hhh ⊢;have HBH:Hid (Below wr.heap.size wr wh):=hbh;have HBW:Hid (BookAt wh bb ab mb nn vs vf v0 v1 rs fr S):=HBR.out.below hbh lR7;have hBb:=aC0 (HKP.out.box _ _ HBB.out) hbh lR7;have e0:wh.cell? ⟨Bb,0,none⟩=some (.pointer (some ⟨bb,0,none⟩)):=aA0 (j:=0) hBb rfl;have e1:wh.cell? ⟨bb,0,none⟩=some (.pointer (some ⟨ab,0,none⟩)):=aA0 (j:=0) HBW.out.box rfl;have e2:wh.cell? ⟨hb0,0,none⟩=some (.int .i64 x.slot):=aA0 (j:=0) hhh rfl;have e3:wh.cell? ⟨hb0,1,none⟩=some (.int .i64 x.age):=aA0 (j:=1) hhh rfl
   have HS:Hid (∀w',Below wh.heap.size wh w'→(w'.cell? ⟨Bb,0,none⟩=some (.pointer (some ⟨bb,0,none⟩))∧w'.cell? ⟨bb,0,none⟩=some (.pointer (some ⟨ab,0,none⟩))∧w'.cell? ⟨hb0,0,none⟩=some (.int .i64 x.slot)∧w'.cell? ⟨hb0,1,none⟩=some (.int .i64 x.age)∧Below wh.heap.size wh w')):=
    fun w' h=>⟨cell_later h e0,cell_later h e1,cell_later h e2,cell_later h e3,h⟩
   clear hbh hhh hBb e0 e1 e2 e3 c0 c1;have hs0:=HS.out wh (Below.refl _ _)
   go_region_held3 (fun w'=>w'.cell? ⟨Bb,0,none⟩=some (.pointer (some ⟨bb,0,none⟩))∧w'.cell? ⟨bb,0,none⟩=some (.pointer (some ⟨ab,0,none⟩))∧w'.cell? ⟨hb0,0,none⟩=some (.int .i64 x.slot)∧w'.cell? ⟨hb0,1,none⟩=some (.int .i64 x.age)∧Below wh.heap.size wh w')
    ((refine HS.out _ ?_;(repeat' first | assumption | exact Below.refl _ _ | exact lR7 | refine Below.drew ?_ | refine Below.alloc ?_ ?_ _ | refine aD0 ?_ hb1 | refine Below.setCell ?_ ?_ _ | (simp;done) | (simp;omega) | (have h9:=hb1.size;simp at h9 ⊢;omega))))
    (first | (go_at_call 152;refine (nT1 ab 100 vs vf rs fr x.slot x.o x.age _ (HBW.out.ar.below (B:=wh.heap.size) ?_ lR7) HO.out).mono ?_;(repeat' first | assumption | exact Below.refl _ _ | exact lR7 | refine Below.drew ?_ | refine Below.alloc ?_ ?_ _ | refine aD0 ?_ hb1 | refine Below.setCell ?_ ?_ _ | (simp;done) | (simp;omega) | (have h9:=hb1.size;simp at h9 ⊢;omega));rintro e w1 ⟨hb1,rfl⟩;unfold Ord.agg;try (have hxb:=(hb1.block wh.heap.size (by simp)).trans (heap_alloc_new wh _);have y0:=aA0 (j:=0) hxb rfl;have y1:=aA0 (j:=1) hxb rfl;have y2:=aA0 (j:=2) hxb rfl;have y3:=aA0 (j:=3) hxb rfl;have y4:=aA0 (j:=4) hxb rfl;have z0:=aB0 (j:=0) hxb;have z1:=aB0 (j:=1) hxb;have z2:=aB0 (j:=2) hxb;have z3:=aB0 (j:=3) hxb;have z4:=aB0 (j:=4) hxb)))
   rotate_right
   ·have hz:=aK0 (j:=4) (.int .i64 x.o.qty) (aK0 (j:=3) (.int .i64 x.o.price) (aK0 (j:=2) (.int .i64 x.o.kind) (aK0 (j:=1) (.int .i64 x.o.side) (aK0 (j:=0) (.int .i64 x.o.id) hxb))));replace hz:(((((w1.setCell ⟨wh.heap.size,0,none⟩ (.int .i64 x.o.id)).setCell ⟨wh.heap.size,1,none⟩ (.int .i64 x.o.side)).setCell ⟨wh.heap.size,2,none⟩ (.int .i64 x.o.kind)).setCell ⟨wh.heap.size,3,none⟩ (.int .i64 x.o.price)).setCell ⟨wh.heap.size,4,none⟩ (.int .i64 x.o.qty)).heap[wh.heap.size]? = some (.cells #[.int .i64 x.o.id,.int .i64 x.o.side,.int .i64 x.o.kind,.int .i64 x.o.price,.int .i64 x.o.qty] 41 (0,0)):=hz
    have hbz:Below wr.heap.size wr (((((w1.setCell ⟨wh.heap.size,0,none⟩ (.int .i64 x.o.id)).setCell ⟨wh.heap.size,1,none⟩ (.int .i64 x.o.side)).setCell ⟨wh.heap.size,2,none⟩ (.int .i64 x.o.kind)).setCell ⟨wh.heap.size,3,none⟩ (.int .i64 x.o.price)).setCell ⟨wh.heap.size,4,none⟩ (.int .i64 x.o.qty)):=by
     refine aD0 HBH.out ?_;have h9:=hb1.size;have h8:Below wh.heap.size wh w1:=aD0 (bel1 wh _).drew hb1;exact ((((h8.setCell (p:=⟨wh.heap.size,0,none⟩) lR7 _).setCell (p:=⟨wh.heap.size,1,none⟩) lR7 _).setCell (p:=⟨wh.heap.size,2,none⟩) lR7 _).setCell (p:=⟨wh.heap.size,3,none⟩) lR7 _).setCell (p:=⟨wh.heap.size,4,none⟩) lR7 _
    generalize ((((w1.setCell ⟨wh.heap.size,0,none⟩ (.int .i64 x.o.id)).setCell ⟨wh.heap.size,1,none⟩ (.int .i64 x.o.side)).setCell ⟨wh.heap.size,2,none⟩ (.int .i64 x.o.kind)).setCell ⟨wh.heap.size,3,none⟩ (.int .i64 x.o.price)).setCell ⟨wh.heap.size,4,none⟩ (.int .i64 x.o.qty)=wz at hz hbz ⊢;generalize wh.heap.size=xb at hz ⊢;have x0:=aA0 (j:=0) hz rfl;have x1:=aA0 (j:=1) hz rfl;have x2:=aA0 (j:=2) hz rfl;have x3:=aA0 (j:=3) hz rfl;have x4:=aA0 (j:=4) hz rfl;obtain ⟨fn,tmps,assign,body,hy,hR⟩:=HY.out _ x.o wz (HJ.out _ wr wz none HJS.out (fN0 hbz) (fun r e=>by cases e)) (by simp;omega);unfold Ord.agg at hy;have HBZ:Hid (Below wr.heap.size wr wz):=hbz;clear hbz hz hs0
    gi_wp2
    refine hR.mono ?_;rintro e W3 (⟨rfl,hJ3,hk3⟩ | ⟨rfl,hJx3⟩)
    ·have HJ3:Hid _:=hJ3;have HK3:Hid _:=hk3;clear hJ3 hk3 hy hR x0 x1 x2 x3 x4
     gi_wp2
     go_roundw
     case rel=>exact ⟨k+1,by omega,by simp,by rw [kJ0 hlt,HX.out];exact HJ3.out,(HKP.out.trans (KpL.of_below HBZ.out hmr)).trans HK3.out⟩
     case measure=>simp [intOf];omega
    ·have HJ3:Hid _:=hJx3;clear hJx3 hy hR x0 x1 x2 x3 x4
     gi_wp2
     refine bodyPost_ret (results_none rfl _ _ _) rfl ?_;refine ⟨⟨_,rfl⟩,.inr ⟨_,?_,HJ3.out⟩⟩;rw [←HX.out,←kJ0 hlt];exact (List.take_prefix _ _).map _
   ·have hz:=heap_alloc_new w1 (.cells #[.int .i64 x.o.id,.int .i64 x.o.side,.int .i64 x.o.kind,.int .i64 x.o.price,.int .i64 x.o.qty] 41);have hbz:Below wr.heap.size wr (w1.alloc (.cells #[.int .i64 x.o.id,.int .i64 x.o.side,.int .i64 x.o.kind,.int .i64 x.o.price,.int .i64 x.o.qty] 41)):=aD0 HBH.out (aD0 (w1:=w1) (aD0 (w:=wh) (w1:=wh.drew) (Below.refl _ _).drew hb1) (bel1 _ _));generalize w1.alloc (.cells #[.int .i64 x.o.id,.int .i64 x.o.side,.int .i64 x.o.kind,.int .i64 x.o.price,.int .i64 x.o.qty] 41)=wz at hz hbz ⊢;generalize w1.heap.size=xb at hz ⊢;have x0:=aA0 (j:=0) hz rfl;have x1:=aA0 (j:=1) hz rfl;have x2:=aA0 (j:=2) hz rfl;have x3:=aA0 (j:=3) hz rfl;have x4:=aA0 (j:=4) hz rfl;obtain ⟨fn,tmps,assign,body,hy,hR⟩:=HY.out _ x.o wz (HJ.out _ wr wz none HJS.out (fN0 hbz) (fun r e=>by cases e)) (by simp;omega);unfold Ord.agg at hy;have HBZ:Hid (Below wr.heap.size wr wz):=hbz;clear hbz hz hs0
    gi_wp2
    refine hR.mono ?_;rintro e W3 (⟨rfl,hJ3,hk3⟩ | ⟨rfl,hJx3⟩)
    ·have HJ3:Hid _:=hJ3;have HK3:Hid _:=hk3;clear hJ3 hk3 hy hR x0 x1 x2 x3 x4
     gi_wp2
     go_roundw
     case rel=>exact ⟨k+1,by omega,by simp,by rw [kJ0 hlt,HX.out];exact HJ3.out,(HKP.out.trans (KpL.of_below HBZ.out hmr)).trans HK3.out⟩
     case measure=>simp [intOf];omega
    ·have HJ3:Hid _:=hJx3;clear hJx3 hy hR x0 x1 x2 x3 x4
     gi_wp2
     refine bodyPost_ret (results_none rfl _ _ _) rfl ?_;refine ⟨⟨_,rfl⟩,.inr ⟨_,?_,HJ3.out⟩⟩;rw [←HX.out,←kJ0 hlt];exact (List.take_prefix _ _).map _
  ·obtain rfl:k=(S s).length:=by omega
   gi_wp2_with fail
   go_end0;refine ⟨⟨_,rfl⟩,.inl ⟨_,rfl,?_⟩⟩;have:=HJS.out
   rwa [List.take_length] at this
theorem nY1 (n:Nat) (hn:1≤n) (Bb Bs m bb ab mb nn s:Nat) (vs vf v0 v1:Value) (rs:List Sot) (fr:List Nat) (S:Nat→List Ly) (hs:s<2) (hlen:(S s).length≤1000)
  (hth:∀x∈S s,soAt rs x.slot=(some x.o,x.age)) (hm:∀k,pbB bb ab mb vs vf v0 v1 k→k<m)
  (w:World) (hmW:m≤w.heap.size) (hB:BookAt w bb ab mb nn vs vf v0 v1 rs fr S) (hbb:w.heap[Bb]? = some (.cells #[.pointer (some ⟨bb,0,none⟩)] 94 (0,0))) (hbs:w.heap[Bs]? = some (.cells #[.int .i64 s] 3 (0,0))):
  SeqStopsK Fence.wide n Tryz.prog 162 #[.pointer (some ⟨Bb,0,none⟩),.pointer (some ⟨Bs,0,none⟩)] (fun x:Ord=>#[Ord.agg x]) (KpL m Bb) (fun ys=>ys=(S s).map Ly.o) (fun pre=>pre <+:(S s).map Ly.o) (S s).length w:=
 fun l J Jx W hW hJ _ hY h0=>lyIt n hn l Bb Bs m bb ab mb nn s vs vf v0 v1 rs fr S J Jx hs hlen hth hm W (Nat.le_trans hmW hW.size) (hB.below hW lR7) (aC0 hbb hW lR7) (aA0 (j:=0) (aC0 hbs hW lR7) rfl) hJ hY h0
set_option maxHeartbeats 1000000 in
theorem nX0 (bb:Nat) (s:Int) (w:World):Calls Tryz.prog 112 #[.pointer (some ⟨bb,0,none⟩),.int .i64 s] w fun e w'=>e=.returned (.func (.func 162) #[] #[.pointer (some ⟨w.heap.size,0,none⟩),.pointer (some ⟨w.heap.size+1,0,none⟩)])
  ∧w'=(w.alloc (.cells #[.pointer (some ⟨bb,0,none⟩)] 94)).alloc (.cells #[.int .i64 s] 3):=by
 go_enter Tryz.func112,Tryz.ntmps112;go_wp2;go_ret;exact ⟨rfl,rfl⟩
set_option maxHeartbeats 1000000 in
theorem lQ0 (s:Int) (w:World):Calls Tryz.prog 110 #[.int .i64 s] w fun e w'=>e=.returned (.bool (s == 1 || s == 2))∧w'=w:=by
 cases h1:(s == 1) with
 | true=>
  go_enter Tryz.func110,Tryz.ntmps110;go_wp2;go_ret;exact ⟨rfl,rfl⟩
 | false=>
  cases h2:(s == 2) with
  | true=>
   go_enter Tryz.func110,Tryz.ntmps110;go_wp2;go_ret;exact ⟨rfl,rfl⟩
  | false=>
   go_enter Tryz.func110,Tryz.ntmps110;go_wp2;go_ret;exact ⟨rfl,rfl⟩
end Go.Proofs.YtjdkagafdnchhaaGreatDoor
namespace Go.Proofs.YtjdkagafdnchhaaGreatDoor
open Go.RowKit Go.Shelf
attribute [local go_sem] Oper.semAt_some
theorem fO0 {W W':World} {row:Option Nat} {b:Nat} {vs:Array Value} {t:TypeId} {f:Nat×Nat} (h:W.heap[b]? = some (.cells vs t f)) (hg:W.grownBy W' row) (hr:∀r,row=some r→∃o:Obj,W.heap[r]? = some o∧o.isCells=false):W'.heap[b]? = some (.cells vs t f):=
 (hg.block b (lt_of_block h) (fun e=>by
  obtain ⟨o,ho,hc⟩:=hr b e.symm;rw [h] at ho;injection ho with ho;subst ho;cases hc)).trans h
def dD0 (W:World) (b:Nat) (x:Ord):Prop:=W.heap[b]? = some (.cells #[.int .i64 x.id,.int .i64 x.side,.int .i64 x.kind,.int .i64 x.price,.int .i64 x.qty] 41 (0,0))
theorem Tryz.infoO:(Tryz.prog.info? 41).map (fun i=>(i.zero,i.size,i.bytes))=some (some (.agg #[.int .i64 0,.int .i64 0,.int .i64 0,.int .i64 0,.int .i64 0]),5,40):=by kernel_rfl
theorem nZ1 (l:List Ord) (x:Ord):oV (l++[x])=oV l++[.int .i64 x.id,.int .i64 x.side,.int .i64 x.kind,.int .i64 x.price,.int .i64 x.qty]:=by rw [cC0];rfl
set_option maxRecDepth 100000 in
set_option maxHeartbeats 4000000 in
theorem rP0 (Bb Bs bb ab mb nn s:Nat) (vs vf v0 v1:Value) (rs:List Sot) (fr:List Nat) (S:Nat→List Ly) (hs:s<2) (hlen:(S s).length≤1000)
  (hth:∀x∈S s,soAt rs x.slot=(some x.o,x.age)) (w:World) (hB:BookAt w bb ab mb nn vs vf v0 v1 rs fr S) (hbb:w.heap[Bb]? = some (.cells #[.pointer (some ⟨bb,0,none⟩)] 94 (0,0))) (hbs:w.heap[Bs]? = some (.cells #[.int .i64 s] 3 (0,0))):
  Calls Tryz.prog 161 #[.slice none 0 0,.func (.func 162) #[] #[.pointer (some ⟨Bb,0,none⟩),.pointer (some ⟨Bs,0,none⟩)]] w
   fun e W'=>∃v,e=.returned v∧W'.ownsRow w.heap.size 41 5 v (S s).length (oV ((S s).map Ly.o))∧Below w.heap.size w W':=by
 obtain ⟨i0,hi,hz0,hz1,hz2⟩:=info_parts Tryz.infoO;refine (callsIn_wide (n:=4)).1 ?_;refine callsIn_of_wp_marks Tryz.func161 rfl trivial ?_ rfl;simp only [Tryz.ntmps161,List.size_toArray,List.length_cons,List.length_nil,Nat.reduceAdd,Nat.reduceSub,Array.replicate_succ,Array.replicate_zero,List.push_toArray,List.append_toArray,List.nil_append,List.cons_append]
 gi_wp2_with fail
 have bO:=Boxed.new w 59 (.slice none 0 0);have hB0:=bel1 w (.cells #[.slice none 0 0] 59);have HK:∀k,pbB bb ab mb vs vf v0 v1 k→k<w.heap.size:=fun k hk=>hB.lt hk
 have lBb:=lt_of_block hbb;obtain ⟨W0,hW0⟩:∃W0,w.alloc (.cells #[.slice none 0 0] 59)=W0:=⟨_,rfl⟩;have hsz:W0.heap.size=w.heap.size+1:=by rw [←hW0];simp
 rw [hW0] at bO hB0 ⊢;clear hW0
 refine wpIn_rangeFunc_ownH (F:=Fence.wide) (n:=4) rfl (by decide) (gf:=162) (lb:=#[.pointer (some ⟨Bb,0,none⟩),.pointer (some ⟨Bs,0,none⟩)]) rfl trivial (enters_of Tryz.func162 (by kernel_rfl) rfl)
  (nY1 3 (by decide) Bb Bs w.heap.size bb ab mb nn s vs vf v0 v1 rs fr S hs hlen hth HK W0 (by omega) (hB.below hB0 lR7) (aC0 hbb hB0 lR7) (aC0 hbs hB0 lR7)) nW1 (nX1 (by omega)) (Below.refl _ _) (fun _=>rfl)
  (fun pre W=>(∃v,Boxed W w.heap.size 59 v∧W.ownsRow w.heap.size 41 5 v pre.length (oV pre)∧True)∧Below w.heap.size w W)
  (fun _ _ _=>False)
  (OwnFrom.and (Own.from (holdsRow_own w.heap.size w.heap.size 59 41 5 (fun pre=>pre.length) (fun pre=>oV pre) (fun _ _=>True)) _) (ownFrom_below lR7 (by omega)))
  (fun _ _ _ _ _ hs _ _=>hs)
  ⟨⟨_,bO,World.ownsRow_nil _ _ _ _,trivial⟩,hB0⟩
  (fun x a' W=>∃Bx,w.heap.size<Bx∧dD0 W Bx x∧a'={ tmps:=#[.slice none 0 0,.func (.func 162) #[] #[.pointer (some ⟨Bb,0,none⟩),.pointer (some ⟨Bs,0,none⟩)],.pointer (some ⟨w.heap.size,0,none⟩),undef,.slice none 0 0,.pointer (some ⟨Bx,0,none⟩),.func (.func 162) #[] #[.pointer (some ⟨Bb,0,none⟩),.pointer (some ⟨Bs,0,none⟩)],Ord.agg x,undef,undef,undef,undef,undef],defers:=[] })
  (fun x a' _ X Y row hs hg hr=>by obtain ⟨Bx,h1,h2,h3⟩:=hs;exact ⟨Bx,h1,fO0 h2 hg (fun r e=>(hr r e).2),h3⟩)
  ?assign ?body ?done ?stop
 case assign=>
  rintro l pre x W K ⟨⟨v,hv,hrow,_⟩,hBW⟩ hK;unfold Ord.agg at hK ⊢
  gi_wp2
  refine hK _ _ ((KeepsOthers.alloc _ _).from _) (KpL.of_below (bel1 _ _) hBW.size) ⟨⟨v,hv.alloc _,hrow.alloc _,trivial⟩,hBW.alloc hBW.size _⟩ ⟨W.heap.size,hv.lt,heap_alloc_new _ _,rfl⟩
 case body=>
  rintro l pre x a' W hl ⟨r,hr⟩ ⟨⟨v,hv,hrow,_⟩,hBW⟩ ⟨Bx,hBx,bX,rfl⟩ hlt;have hc:=hv.cell;have c0:=aA0 (j:=0) bX rfl;have c1:=aA0 (j:=1) bX rfl;have c2:=aA0 (j:=2) bX rfl;have c3:=aA0 (j:=3) bX rfl;have c4:=aA0 (j:=4) bX rfl;have HBS:=hBW.size;unfold Ord.agg
  gi_wp2_with (gi_at_builtin;refine wpListIn_append_own _ rfl _ _ 59 rfl w.heap.size 41 i0 (.agg #[.int .i64 0,.int .i64 0,.int .i64 0,.int .i64 0,.int .i64 0]) 5 40 Tryz.underlying59 hi hz0 hz1 hz2 rfl (by decide) _ _ _ rfl (hrow.alloc _) ⟨W.heap.size,0,none⟩ 1 1 [.int .i64 x.id,.int .i64 x.side,.int .i64 x.kind,.int .i64 x.price,.int .i64 x.qty] rfl rfl (World.news_of_block (cs:=#[.int .i64 x.id,.int .i64 x.side,.int .i64 x.kind,.int .i64 x.price,.int .i64 x.qty]) (t:=41) (fr:=(0,0)) (heap_alloc_new W _)) (by simp [Value.oneCell']) (by unfold maxLen;omega) (by omega) (by simp;omega) ?_;intro v' w1 hown' hgrow _;obtain ⟨g',cap',rfl⟩:=ownsRow_succ hown';obtain ⟨hv1,hv2,hr2,hk2,hb2⟩:=hv.appended (by decide) hrow hBW.size lR7 hown' hgrow;have hc1:=hv1.cell;have hf1:=hv1.frozen)
  exact ⟨hk2.from _,⟨hb2,fun _ _ e=>(hb2.block Bb lBb).trans e⟩,⟨_,hv2,by rw [nZ1,List.length_append];exact hr2,trivial⟩,hBW.trans hb2⟩
 case done=>
  rintro D ys W hD rfl ⟨⟨v,hv,hrow,_⟩,hBW⟩ hK;have hc:=hv.cell
  gi_wp2
  refine ⟨by simp,.inl ⟨_,_,rfl,run_takeDeferred hK,?_⟩⟩;exact ⟨_,results_tmp rfl _ _ _,v,rfl,by simpa using ownsRow_putObj hrow _ hK rfl,hBW.trans (belowK_b (w:=w) lR7 W D _ _ (by omega) hK rfl rfl)⟩
 case stop=>
  rintro D c pre W _ _ h _;exact h.elim
set_option maxHeartbeats 1000000 in
theorem wD0 (Bb Bs bb ab mb nn s:Nat) (vs vf v0 v1:Value) (rs:List Sot) (fr:List Nat) (S:Nat→List Ly) (hs:s<2) (hlen:(S s).length≤1000)
  (hth:∀x∈S s,soAt rs x.slot=(some x.o,x.age)) (w:World) (hB:BookAt w bb ab mb nn vs vf v0 v1 rs fr S) (hbb:w.heap[Bb]? = some (.cells #[.pointer (some ⟨bb,0,none⟩)] 94 (0,0))) (hbs:w.heap[Bs]? = some (.cells #[.int .i64 s] 3 (0,0))):
  Calls Tryz.prog 111 #[.func (.func 162) #[] #[.pointer (some ⟨Bb,0,none⟩),.pointer (some ⟨Bs,0,none⟩)]] w
   fun e W'=>∃v,e=.returned v∧W'.ownsRow w.heap.size 41 5 v (S s).length (oV ((S s).map Ly.o))∧Below w.heap.size w W':=by
 have H:Hid (BookAt w bb ab mb nn vs vf v0 v1 rs fr S):=hB;have HT:Hid (∀x∈S s,soAt rs x.slot=(some x.o,x.age)):=hth;have H3:Hid _:=hbb;have H4:Hid _:=hbs;clear hB hbb hbs hth;go_enter Tryz.func111,Tryz.ntmps111;go_wp2_with fail;refine (rP0 Bb Bs bb ab mb nn s vs vf v0 v1 rs fr S hs hlen HT.out w H.out H3.out H4.out).mono ?_;rintro e w1 ⟨v,rfl,h1,h2⟩;have H1:Hid _:=h1;have H2:Hid _:=h2;clear h1 h2;go_wp2;go_ret;exact ⟨v,rfl,H1.out,H2.out⟩
theorem qW1 (bb ab mb nn s:Nat) (vs vf v0 v1:Value) (rs:List Sot) (fr:List Nat) (S:Nat→List Ly) (hs:s<2) (hlen:(S s).length≤1000)
  (hth:∀x∈S s,soAt rs x.slot=(some x.o,x.age)) (w:World) (hB:BookAt w bb ab mb nn vs vf v0 v1 rs fr S) (side:Int) (hsd:side=(s:Int)+1):
  Calls Tryz.prog 69 #[.pointer (some ⟨bb,0,none⟩),.int .i64 side] w
   fun e W'=>∃v,e=.returned (.tuple #[v,.nilIface])∧W'.ownsRow w.heap.size 41 5 v (S s).length (oV ((S s).map Ly.o))∧Below w.heap.size w W':=by
 have hss:(side == 1 || side == 2)=true:=by
  subst hsd
  match s,hs with
  | 0,_=>rfl
  | 1,_=>rfl
 have HS:Hid ((side == 1 || side == 2)=true):=hss;have hsub:IntKind.i64.wrap (side - 1)=(s:Int):=by rw [hsd,show (s:Int)+1 - 1=s by omega];exact IntWalk.i64_in _ (by omega)
 have H:Hid (BookAt w bb ab mb nn vs vf v0 v1 rs fr S):=hB;have HT:Hid (∀x∈S s,soAt rs x.slot=(some x.o,x.age)):=hth;have HSD:Hid (side=(s:Int)+1):=hsd;clear hB hss hth hsd;go_enter Tryz.func69,Tryz.ntmps69;go_wp2_with fail;refine (lQ0 side _).mono ?_;rintro e w1 ⟨rfl,hw⟩;replace hw:=hw.symm;subst hw;rw [HS.out];go_wp2_with fail;refine (nX0 bb _ _).mono ?_;rintro e w1 ⟨rfl,rfl⟩;go_wp2_with fail;have hb:=bel2 w (.cells #[.pointer (some ⟨bb,0,none⟩)] 94) (.cells #[.int .i64 s] 3);refine (wD0 w.heap.size (w.heap.size+1) bb ab mb nn s vs vf v0 v1 rs fr S hs hlen HT.out _ (H.out.below hb lR7) (eV0 w _ _) (dX0 w _ _)).mono ?_;rintro e w2 ⟨v,rfl,h1,h2⟩;have H1:Hid _:=h1;have H2:Hid _:=h2;clear h1 h2;go_wp2;go_ret2;exact ⟨v,rfl,⟨H1.out.1,H1.out.2.imp id (fun ⟨g,cap,cur,a,b,c⟩=>⟨g,cap,cur,a,by simp at b;omega,c⟩)⟩,aD0 hb H2.out⟩
end Go.Proofs.YtjdkagafdnchhaaGreatDoor
namespace Go.Proofs.YtjdkagafdnchhaaGreatDoor
open Go.RowKit Go.Shelf
attribute [local go_sem] Oper.semAt_some
def dE0 (o x:Ord):Bool:=if x.kind=2 then false else if o.kind=2 then true else if o.side=1 then decide (x.price<o.price) else decide (o.price<x.price)
def fV0 (o:Ord) (l:List Ord):Nat:=(l.takeWhile fun y=>!dE0 o y).length
theorem iS1 (o:Ord) (l:List Ord):fV0 o l≤l.length:=(List.takeWhile_prefix _).length_le
theorem dE1 {o:Ord} {l:List Ord} (h:∀y∈l,dE0 o y=false):fV0 o l=l.length:=by
 unfold fV0
 congr 1
 induction l with
 | nil=>rfl
 | cons a l ih=>rw [List.takeWhile_cons,h a (by simp)];simp [ih (fun y hy=>h y (by simp [hy]))]
theorem aX1 {o x:Ord} {p l:List Ord} (hl:p++[x] <+:l) (h:∀y∈p,dE0 o y=false) (hx:dE0 o x=true):fV0 o l=p.length:=by
 obtain ⟨r,rfl⟩:=hl;unfold fV0;rw [List.append_assoc]
 induction p with
 | nil=>simp [hx]
 | cons a p ih=>rw [List.cons_append,List.takeWhile_cons,h a (by simp)];simp;simpa using ih (fun y hy=>h y (by simp [hy]))
theorem nY0 {W W':World} (h:Below W.heap.size W W'):KeepsOthers W W':=KeepsOthers.of_grownBy (fN0 h) (fun j o e=>by cases e)
set_option maxHeartbeats 2000000 in
theorem aY1 (o x:Ord) (w:World):Calls Tryz.prog 191 #[o.agg,x.agg] w fun e w'=>e=.returned (.bool (dE0 o x))∧Below w.heap.size w w':=by
 unfold Ord.agg
 by_cases h1:x.kind=2
 ·have HR:Hid (dE0 o x=false):=if_pos h1;go_enter Tryz.func191,Tryz.ntmps191;go_wp2;go_ret;exact ⟨by rw [HR.out];rfl,bel2 _ _ _⟩
 have b1:(x.kind == 2)=false:=beq_eq_false_iff_ne.2 h1
 by_cases h2:o.kind=2
 ·have HR:Hid (dE0 o x=true):=by show _=_;unfold dE0;rw [if_neg h1,if_pos h2]
  clear h1;go_enter Tryz.func191,Tryz.ntmps191;go_wp2;go_ret;exact ⟨by rw [HR.out];rfl,bel2 _ _ _⟩
 have b2:(o.kind == 2)=false:=beq_eq_false_iff_ne.2 h2
 by_cases h3:o.side=1
 ·have HR:Hid (dE0 o x=decide (x.price<o.price)):=by show _=_;unfold dE0;rw [if_neg h1,if_neg h2,if_pos h3]
  clear h1 h2;go_enter Tryz.func191,Tryz.ntmps191;go_wp2;go_ret;exact ⟨by rw [HR.out];rfl,bel2 _ _ _⟩
 have b3:(o.side == 1)=false:=beq_eq_false_iff_ne.2 h3;have HR:Hid (dE0 o x=decide (o.price<x.price)):=by show _=_;unfold dE0;rw [if_neg h1,if_neg h2,if_neg h3]
 clear h1 h2 h3;go_enter Tryz.func191,Tryz.ntmps191;go_wp2;go_ret;exact ⟨by rw [HR.out];rfl,bel2 _ _ _⟩
set_option maxRecDepth 100000 in
set_option maxHeartbeats 4000000 in
theorem iT1 (bb ab mb nn s:Nat) (vs vf v0 v1:Value) (rs:List Sot) (fr:List Nat) (S:Nat→List Ly) (o:Ord) (hs:s<2) (hlen:(S s).length≤1000)
  (hth:∀x∈S s,soAt rs x.slot=(some x.o,x.age)) (w:World) (hB:BookAt w bb ab mb nn vs vf v0 v1 rs fr S):
  Calls Tryz.prog 151 #[.pointer (some ⟨bb,0,none⟩),.int .i64 s,o.agg] w fun e W'=>e=.returned (.int .i64 (fV0 o ((S s).map Ly.o)))∧Below w.heap.size w W':=by
 refine (callsIn_wide (n:=4)).1 ?_;unfold Ord.agg;refine callsIn_of_wp_marks Tryz.func151 rfl trivial ?_ rfl;simp only [Tryz.ntmps151,List.size_toArray,List.length_cons,List.length_nil,Nat.reduceAdd,Nat.reduceSub,Array.replicate_succ,Array.replicate_zero,List.push_toArray,List.append_toArray,List.nil_append,List.cons_append]
 gi_wp2_with fail
 refine ⟨trivial,(callsIn_wide.2 (nX0 bb _ _)).mono ?_⟩;rintro e w' ⟨rfl,rfl⟩
 gi_wp2_with fail
 have hB1:=bel2 w (.cells #[.int .i64 o.id,.int .i64 o.side,.int .i64 o.kind,.int .i64 o.price,.int .i64 o.qty] 41) (.cells #[.int .i64 0] 3);have bO:=eV0 w (.cells #[.int .i64 o.id,.int .i64 o.side,.int .i64 o.kind,.int .i64 o.price,.int .i64 o.qty] 41) (.cells #[.int .i64 0] 3);have bN:=dX0 w (.cells #[.int .i64 o.id,.int .i64 o.side,.int .i64 o.kind,.int .i64 o.price,.int .i64 o.qty] 41) (.cells #[.int .i64 0] 3);obtain ⟨w2,hw2⟩:∃w2,(w.alloc (.cells #[.int .i64 o.id,.int .i64 o.side,.int .i64 o.kind,.int .i64 o.price,.int .i64 o.qty] 41)).alloc (.cells #[.int .i64 0] 3)=w2:=⟨_,rfl⟩;have hz2:w2.heap.size=w.heap.size+2:=by rw [←hw2];simp
 rw [hw2] at hB1 bO bN ⊢;clear hw2;have hB2:=bel2 w2 (.cells #[.pointer (some ⟨bb,0,none⟩)] 94) (.cells #[.int .i64 s] 3);have bB:=eV0 w2 (.cells #[.pointer (some ⟨bb,0,none⟩)] 94) (.cells #[.int .i64 s] 3);have bS:=dX0 w2 (.cells #[.pointer (some ⟨bb,0,none⟩)] 94) (.cells #[.int .i64 s] 3);obtain ⟨W0,hW0⟩:∃W0,(w2.alloc (.cells #[.pointer (some ⟨bb,0,none⟩)] 94)).alloc (.cells #[.int .i64 s] 3)=W0:=⟨_,rfl⟩;have hsz:W0.heap.size=w.heap.size+4:=by rw [←hW0];simp;omega
 rw [hW0] at hB2 bB bS ⊢;clear hW0;have bO:=aC0 bO hB2 lR7;have bN:=aC0 bN hB2 lR7;have hB0:Below w.heap.size w W0:=aD0 hB1 hB2;rw [hz2] at bB bS;have HK:∀k,pbB bb ab mb vs vf v0 v1 k→k<w.heap.size:=fun k hk=>hB.lt hk
 clear hB1 hB2
 refine wpIn_rangeFunc_ownH (F:=Fence.wide) (n:=4) rfl (by decide) (gf:=162) (lb:=#[.pointer (some ⟨w.heap.size+2,0,none⟩),.pointer (some ⟨w.heap.size+2+1,0,none⟩)]) rfl trivial (enters_of Tryz.func162 (by kernel_rfl) rfl)
  (nY1 3 (by decide) (w.heap.size+2) (w.heap.size+2+1) w.heap.size bb ab mb nn s vs vf v0 v1 rs fr S hs hlen hth HK W0 (by omega) (hB.below hB0 lR7) bB bS) nW1 (nX1 (by omega)) (Below.refl _ _) (fun _=>rfl)
  (fun pre W=>(dD0 W w.heap.size o∧W.heap[w.heap.size+1]? = some (.cells #[.int .i64 pre.length] 3 (0,0))∧(∀y∈pre,dE0 o y=false))∧Below w.heap.size w W)
  (fun c pre W=>(c=.exit 0∧∃p x,pre=p++[x]∧(∀y∈p,dE0 o y=false)∧dE0 o x=true∧W.heap[w.heap.size+1]? = some (.cells #[.int .i64 p.length] 3 (0,0)))∧Below w.heap.size w W)
  (OwnFrom.and (Own.from (fun s A B row hs hg hr=>⟨fO0 hs.1 hg hr,fO0 hs.2.1 hg hr,hs.2.2⟩) _) (ownFrom_below lR7 (by omega)))
  (fun c=>OwnFrom.and (Own.from (fun s A B row hs hg hr=>by obtain ⟨g0,p,x,g1,g2,g3,g4⟩:=hs;exact ⟨g0,p,x,g1,g2,g3,fO0 g4 hg hr⟩) _) (ownFrom_below lR7 (by omega)))
  ⟨⟨bO,bN,fun y hy=>by cases hy⟩,hB0⟩
  (fun x a' W=>∃Bx,dD0 W Bx x∧a'={ tmps:=#[.pointer (some ⟨bb,0,none⟩),.int .i64 s,Ord.agg o,undef,undef,.pointer (some ⟨w.heap.size,0,none⟩),.int .i64 0,.pointer (some ⟨w.heap.size+1,0,none⟩),.pointer (some ⟨Bx,0,none⟩),.pointer (some ⟨bb,0,none⟩),.int .i64 s,.func (.func 162) #[] #[.pointer (some ⟨w.heap.size+2,0,none⟩),.pointer (some ⟨w.heap.size+2+1,0,none⟩)],Ord.agg x,undef,undef,undef,undef,undef,undef],defers:=[] })
  (fun x a' _ X Y row hs hg hr=>by obtain ⟨Bx,h2,h3⟩:=hs;exact ⟨Bx,fO0 h2 hg (fun r e=>(hr r e).2),h3⟩)
  ?assign ?body ?done ?stop
 case assign=>
  rintro l pre x W K ⟨⟨h1,h2,h3⟩,hBW⟩ hK;have lS:=hBW.size;unfold Ord.agg at hK ⊢
  gi_wp2
  refine hK _ _ ((KeepsOthers.alloc _ _).from _) (KpL.of_below (bel1 _ _) lS) ⟨⟨aC0 h1 (bel1 _ _) lR7,aC0 h2 (bel1 _ _) lR7,h3⟩,hBW.alloc hBW.size _⟩ ⟨W.heap.size,heap_alloc_new _ _,rfl⟩
 case body=>
  rintro l pre x a' W hl ⟨r,hr⟩ ⟨⟨h1,h2,h3⟩,hBW⟩ ⟨Bx,bX,rfl⟩ hlt;have c0:=aA0 (j:=0) bX rfl;have c1:=aA0 (j:=1) bX rfl;have c2:=aA0 (j:=2) bX rfl;have c3:=aA0 (j:=3) bX rfl;have c4:=aA0 (j:=4) bX rfl;have d0:=aA0 (j:=0) h1 rfl;have d1:=aA0 (j:=1) h1 rfl;have d2:=aA0 (j:=2) h1 rfl;have d3:=aA0 (j:=3) h1 rfl;have d4:=aA0 (j:=4) h1 rfl;have H1:Hid _:=h1;have H2:Hid _:=h2;have HBW:Hid (Below w.heap.size w W):=hBW;clear h1 h2 hBW bX hr;unfold Ord.agg
  gi_wp2_with fail
  refine ⟨trivial,(CallsIn.inRound l (callsIn_wide.2 (aY1 o x _))).mono ?_⟩;rintro e W1 ⟨rfl,hb1⟩;have hn1:=aC0 H2.out hb1 lR7;have e0:=aA0 (j:=0) hn1 rfl;have e1:=aB0 (j:=0) hn1;cases hbt:dE0 o x with
  | true=>
   gi_wp2_with fail
   exact ⟨(nY0 hb1).from _,⟨rfl,pre,x,rfl,h3,hbt,hn1⟩,HBW.out.trans (hb1.mono HBW.out.size)⟩
  | false=>
   gi_wp2_with fail
   have ho1:=aC0 H1.out hb1 lR7;refine ⟨((nY0 hb1).trans (KeepsOthers.setCell _ _ _)).from _,⟨(hb1.mono HBW.out.size).setCell (p:=⟨w.heap.size+1,0,none⟩) (by simp) _,fun vs t e=>?_⟩,⟨aE0 ho1 (aQ0 _ ⟨w.heap.size+1,0,none⟩ _) (by simp),?_,fun y hy=>?_⟩,(HBW.out.trans (hb1.mono HBW.out.size)).setCell (p:=⟨w.heap.size+1,0,none⟩) (by simp) _⟩
   ·exact aE0 (aC0 e hb1 lR7) (aQ0 _ ⟨w.heap.size+1,0,none⟩ _) (by simp)
   ·rw [List.length_append];exact aK0 (j:=0) _ hn1
   ·rcases List.mem_append.1 hy with hy | hy
    ·exact h3 y hy
    ·simp at hy;subst hy;exact hbt
 case done=>
  rintro D ys W hD rfl ⟨⟨h1,h2,h3⟩,hBW⟩ hK;have hc:=aA0 (j:=0) h2 rfl
  gi_wp2
  refine ⟨by simp,.inl ⟨_,_,rfl,run_takeDeferred hK,?_⟩⟩;exact ⟨_,results_tmp rfl _ _ _,by rw [dE1 h3,List.length_map];rfl,hBW.trans (belowK_b (w:=w) lR7 W D _ _ (by omega) hK rfl rfl)⟩
 case stop=>
  rintro D c pre W hD hpre ⟨⟨rfl,p,x,rfl,h1,h2,h3⟩,hBW⟩ hK;have hc:=aA0 (j:=0) h3 rfl
  gi_wp2
  refine ⟨by simp,.inl ⟨_,_,rfl,run_takeDeferred hK,?_⟩⟩;exact ⟨_,results_tmp rfl _ _ _,by rw [aX1 hpre h1 h2];rfl,hBW.trans (belowK_b (w:=w) lR7 W D _ _ (by omega) hK rfl rfl)⟩
end Go.Proofs.YtjdkagafdnchhaaGreatDoor
