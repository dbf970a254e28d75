/- A part of the proof of EnginePlays. -/
import Derived.Test.YtjdkagafdnchhaaGreatDoorPA
import Derived.Test.YtjdkagafdnchhaaGreatDoorPC
import Derived.Deep.DeepCutAuto
import Derived.Laws.StructEq
namespace Go.Proofs.YtjdkagafdnchhaaGreatDoor
open Go.RowKit
attribute [local go_sem ↓] Go.wp_at_zero Go.wp_at_succ
def lieP (o:Ord):Ord:=if o.kind=2 then { o with price:=1 } else o
theorem dI1 (o:Ord):(lieP o).id=o.id:=by unfold lieP;split <;> rfl
theorem tM0 (o:Ord):(lieP o).side=o.side:=by unfold lieP;split <;> rfl
def kN0 (s:Int):Bool:=s == 1 || s == 2
def dJ1 (S:Nat→List Ly) (id:Int):Prop:=∃s,s<2∧∃x∈S s,x.o.id=id
theorem nD0 (S:Nat→List Ly) (id:Int):dJ1 S id∨∀s,s<2→∀x∈S s,x.o.id≠id:=by
 by_cases h:dJ1 S id
 ·exact Or.inl h
 ·exact Or.inr (fun s hs x hx e=>h ⟨s,hs,x,hx,e⟩)
def dK1 (w W':World) (bb m:Nat) (b:BkS) (o:Ord) (e:Ending):Prop:=
 ((kN0 o.side=false∨o.id<1)∧e=.returned (.iface 32 (.int .i64 1))∧Goes w W' bb (m+1) b b)
 ∨(kN0 o.side=true∧¬o.id<1∧cI0 (lieP o).price (lieP o).qty=false∧e=.returned (.iface 32 (.int .i64 2))∧Goes w W' bb (m+1) b b)
 ∨(kN0 o.side=true∧¬o.id<1∧cI0 (lieP o).price (lieP o).qty=true∧dJ1 b.S o.id∧e=.returned (.iface 32 (.int .i64 9))∧Goes w W' bb (m+1) b b)
 ∨(kN0 o.side=true∧¬o.id<1∧cI0 (lieP o).price (lieP o).qty=true∧(∀s,s<2→∀x∈b.S s,x.o.id≠o.id)∧(b.S 0).length+(b.S 1).length=100∧e=.returned (.iface 32 (.int .i64 12))∧Goes w W' bb (m+1) b b)
 ∨(kN0 o.side=true∧¬o.id<1∧cI0 (lieP o).price (lieP o).qty=true∧(∀s,s<2→∀x∈b.S s,x.o.id≠o.id)∧(b.S 0).length+(b.S 1).length<100∧e=.returned .nilIface
  ∧∃(b':BkS) (s k:Nat) (a:Int),s<2∧o.side=(s:Int)+1∧b'.S=upS b.S s (dR0 (fV0 (lieP o) ((b.S s).map Ly.o)) ⟨k,a,lieP o⟩ (b.S s))∧Goes w W' bb (m+1) b b')
theorem qK0 (i:Nat) (x:Ly) (l:List Ly):(dR0 i x l).Perm (x::l):=by
 have:=List.perm_middle (a:=x) (l₁:=l.take i) (l₂:=l.drop i)
 rwa [List.take_append_drop] at this
def oB1 (b:BkS) (s k:Nat) (ag:Int) (p:Ord) (vs' vf' v':Value) (rs1:List Sot) (fr1:List Nat):BkS:=
 ⟨b.ab,b.mb,b.n+1,vs',vf',rowV b.v0 v' s 0,rowV b.v1 v' s 1,rs1.set k (some p,ag),fr1,upS b.S s (dR0 (fV0 p ((b.S s).map Ly.o)) ⟨k,ag,p⟩ (b.S s))⟩
theorem dL1 {S:Nat→List Ly} {s i:Nat} {x:Ly} (t:Nat) (y:Ly):y∈upS S s (dR0 i x (S s)) t↔((t=s∧y=x)∨y∈S t):=by
 by_cases e:t=s
 ·subst e;rw [gW0,(qK0 i x (S t)).mem_iff];simp
 ·rw [fT0 _ e];simp [e]
theorem dM1 {w we w7 w8:World} {bb m s k g6 c6:Nat} {ag:Int} {b:BkS} {p:Ord} {vs' vf':Value} {rs1:List Sot} {fr1:List Nat} (h:Bk w bb m b) (hm:m+1≤900000) (hs:s<2) (hR:rN0 b.rs b.fr k rs1 fr1) (hag:(soAt rs1 k).2=ag)
  (hside:p.side=(s:Int)+1) (hid1:¬p.id<1) (hwf:(Lit.int .i64 p.id).wf=true) (hr:cI0 p.price p.qty=true) (hno:∀t,t<2→∀x∈b.S t,x.o.id≠p.id) (hf:(b.S 0).length+(b.S 1).length<100)
  (hO:Out (b.foot bb) w we) (hN:Went w (aoB b.ab b.vs b.vf) (aoB b.ab vs' vf')) (hg6:(vAt b.v0 b.v1 s).ownBlock=some g6∨we.heap.size≤g6)
  (hG:BookG w7 bb b.ab b.mb b.n vs' vf' (rowV b.v0 (.slice (some ⟨g6,0,none⟩) (dR0 (fV0 p ((b.S s).map Ly.o)) ⟨k,ag,p⟩ (b.S s)).length c6) s 0) (rowV b.v1 (.slice (some ⟨g6,0,none⟩) (dR0 (fV0 p ((b.S s).map Ly.o)) ⟨k,ag,p⟩ (b.S s)).length c6) s 1) (rs1.set k (some p,ag)) fr1 b.S (upS b.S s (dR0 (fV0 p ((b.S s).map Ly.o)) ⟨k,ag,p⟩ (b.S s))))
  (hT:Out (fun j=>j=bb∨(vAt b.v0 b.v1 s).ownBlock=some j) we w7) (hm8:fD0 w8 b.mb (b.n+1) (upS b.S s (dR0 (fV0 p ((b.S s).map Ly.o)) ⟨k,ag,p⟩ (b.S s)))) (ho8:Out (fun j=>j=b.mb) w7 w8):
  Goes w w8 bb (m+1) b (oB1 b s k ag p vs' vf' (.slice (some ⟨g6,0,none⟩) (dR0 (fV0 p ((b.S s).map Ly.o)) ⟨k,ag,p⟩ (b.S s)).length c6) rs1 fr1):=by
 obtain ⟨hp1,hp2⟩:inB 1 1000000 p.price=true∧inB 1 1000000 p.qty=true:=by simpa [cI0] using hr
 have h1:=dS0 hp1;have h2:=dS0 hp2;refine ⟨⟨(hG.newMap ho8 hm8).done,?_,Nat.succ_le_succ h.small,hm⟩,?_,?_⟩
 ·subst hag;exact h.ok.put hR hs (qK0 _ _ _) hside ⟨by omega,hwf,h1.1,h1.2,h2.1,h2.2⟩ hno hf
 ·refine (hO.trans (hT.mono (S':=b.foot bb) (fun j hj=>?_)) (Went.refl _ _)).trans (ho8.mono (S':=b.foot bb) (fun j hj=>Or.inr (Or.inr (Or.inl hj)))) (Went.refl _ _);rcases hj with hj | hj
  ·exact Or.inl hj
  ·exact Or.inr (Or.inr (Or.inr (wH0 hs hj)))
 ·have hw:=tJ0 (w:=w) (v0:=b.v0) (v1:=b.v1) (v':=.slice (some ⟨g6,0,none⟩) (dR0 (fV0 p ((b.S s).map Ly.o)) ⟨k,ag,p⟩ (b.S s)).length c6) hs (fun j hj=>by
   have e:g6=j:=by simpa [Value.ownBlock] using hj
   subst e;exact hg6.imp id (fun h=>Nat.le_trans hO.size h))
  rintro j (hj | hj | hj | hj)
  ·exact Or.inl (Or.inl hj)
  ·exact (hN j hj).imp (fun h=>Or.inr (Or.inl h)) id
  ·exact Or.inl (Or.inr (Or.inr (Or.inl hj)))
  ·exact (hw j hj).imp (fun h=>Or.inr (Or.inr (Or.inr h))) id
set_option maxRecDepth 100000 in
set_option maxHeartbeats 4000000 in
theorem tE1 (bb m:Nat) (b:BkS) (o:Ord) (w:World) (h:Bk w bb m b) (hm:m+1≤900000) (hw:(Lit.int .i64 o.id).wf=true):
  Calls Tryz.prog 98 #[.pointer (some ⟨bb,0,none⟩),o.agg] w fun e W'=>dK1 w W' bb m b o e:=by
 have H:Hid (Bk w bb m b):=h;have HW:Hid ((Lit.int .i64 o.id).wf=true):=hw;clear h hw;unfold Ord.agg;go_enter Tryz.func98,Tryz.ntmps98;go_wp2_with fail;refine (lQ0 o.side _).mono ?_;rintro e w1 ⟨rfl,hw⟩;subst hw;cases hs:(o.side == 1 || o.side == 2) with
 | false=>
  have HS:Hid (kN0 o.side=false):=hs;clear hs;go_wp2_with fail;go_ret;exact Or.inl ⟨Or.inl HS.out,rfl,Goes.stay H.out (bel1 _ _) (Nat.le_succ _) hm⟩
 | true=>
  have HS:Hid (kN0 o.side=true):=hs;clear hs
  by_cases hid:o.id<1
  ·have hib:decide (o.id<1)=true:=decide_eq_true hid;go_wp2_with fail;go_ret;exact Or.inl ⟨Or.inr hid,rfl,Goes.stay H.out (bel1 _ _) (Nat.le_succ _) hm⟩
  ·have HI:Hid (¬o.id<1):=hid;go_upto_if 22 with fail;go_cut [23] (fun _ wc=>Below w.heap.size w wc∧dD0 wc w.heap.size (lieP o))
   case first=>
    by_cases hk:o.kind=2
    ·have hkb:(o.kind == 2)=true:=beq_iff_eq.2 hk;have HK:Hid (lieP o={ o with price:=1 }):=by show lieP o=_;unfold lieP;rw [if_pos hk]
     clear hk;go_wp2_with fail;go_meet;exact ⟨bel1 _ _,by rw [HK.out];exact heap_alloc_new w _⟩
    ·have hkb:(o.kind == 2)=false:=beq_eq_false_iff_ne.2 hk;have HK:Hid (lieP o=o):=by show lieP o=_;unfold lieP;rw [if_neg hk]
     clear hk;go_wp2_with fail;go_meet;exact ⟨bel1 _ _,by rw [HK.out];exact heap_alloc_new w _⟩
   case rest=>
    obtain ⟨hb,hx⟩:=hcut;have HPI:Hid ((lieP o).id=o.id):=dI1 o;have HPS:Hid ((lieP o).side=o.side):=tM0 o
    have HP:Hid (∀(e:Ending) (W':World),((kN0 o.side=true∧¬o.id<1∧cI0 (lieP o).price (lieP o).qty=false∧e=.returned (.iface 32 (.int .i64 2))∧Goes w W' bb (m+1) b b)
      ∨(kN0 o.side=true∧¬o.id<1∧cI0 (lieP o).price (lieP o).qty=true∧dJ1 b.S o.id∧e=.returned (.iface 32 (.int .i64 9))∧Goes w W' bb (m+1) b b)
      ∨(kN0 o.side=true∧¬o.id<1∧cI0 (lieP o).price (lieP o).qty=true∧(∀s,s<2→∀x∈b.S s,x.o.id≠o.id)∧(b.S 0).length+(b.S 1).length=100∧e=.returned (.iface 32 (.int .i64 12))∧Goes w W' bb (m+1) b b)
      ∨(kN0 o.side=true∧¬o.id<1∧cI0 (lieP o).price (lieP o).qty=true∧(∀s,s<2→∀x∈b.S s,x.o.id≠o.id)∧(b.S 0).length+(b.S 1).length<100∧e=.returned .nilIface
       ∧∃(b':BkS) (s k:Nat) (a:Int),s<2∧o.side=(s:Int)+1∧b'.S=upS b.S s (dR0 (fV0 (lieP o) ((b.S s).map Ly.o)) ⟨k,a,lieP o⟩ (b.S s))∧Goes w W' bb (m+1) b b'))→dK1 w W' bb m b o e):=fun e W' h=>Or.inr h
    generalize lieP o=p at hx HPI HPS HP;have HB:Hid (Below w.heap.size w wc):=hb;have HX:Hid (dD0 wc w.heap.size p):=hx;have z0:=aA0 (j:=0) hx rfl;have z1:=aA0 (j:=1) hx rfl;have z2:=aA0 (j:=2) hx rfl;have z3:=aA0 (j:=3) hx rfl;have z4:=aA0 (j:=4) hx rfl;clear hx hb hid;go_wp2_with fail;refine (kK0 p.price p.qty _).mono ?_;rintro e w1 ⟨rfl,hb1⟩;have HB1:Hid (Below w.heap.size w w1):=aD0 HB.out hb1;have HX1:Hid (dD0 w1 w.heap.size p):=aC0 HX.out hb1 lR7;clear hb1 z0 z1 z2 z3 z4;cases hr:cI0 p.price p.qty with
    | false=>
     have HR:Hid (cI0 p.price p.qty=false):=hr;clear hr;go_wp2_with fail;go_ret;exact HP.out _ _ (Or.inl ⟨HS.out,HI.out,HR.out,rfl,Goes.stay H.out HB1.out (Nat.le_succ _) hm⟩)
    | true=>
     have HR:Hid (cI0 p.price p.qty=true):=hr;clear hr;go_wp2_with fail;have HBK:Hid (Bk w1 bb m b):=H.out.below HB1.out lR7;have m1:w1.cell? ⟨bb,1,none⟩=some (.map (some b.mb)):=aA0 (j:=1) HBK.out.at_.box rfl;have m2:w1.cell? ⟨w.heap.size,0,none⟩=some (.int .i64 p.id):=aA0 (j:=0) HX1.out rfl;have hwp:(Lit.int .i64 p.id).wf=true:=by rw [HPI.out];exact HW.out
     have lb:bb<w1.heap.size:=HBK.out.lt (Or.inl rfl);have lx:w.heap.size<w1.heap.size:=lt_of_block HX1.out;rcases nD0 b.S p.id with hl | hl
     ·obtain ⟨s,hs2,x,hxs,hxe⟩:=hl;have HL:Hid (dJ1 b.S p.id):=⟨s,hs2,x,hxs,hxe⟩
      have HS7:Hid (∀w',Below w1.heap.size w1 w'→(w'.cell? ⟨bb,1,none⟩=some (.map (some b.mb))∧w'.cell? ⟨w.heap.size,0,none⟩=some (.int .i64 p.id)∧(Instr.lookup 153 (.map (some b.mb)) (.int .i64 p.id) true).run Tryz.prog w'=.ok (.tuple #[.agg #[.int .i64 x.slot,.int .i64 x.age,.int .i64 s],.bool true]) w'∧Below w1.heap.size w1 w')):=
       fun w' hb=>⟨cell_later hb m1,cell_later hb m2,by
        have:=(HBK.out.below hb lR7).at_.map.yes hs2 hxs (by rw [hxe];exact hwp)
        rwa [hxe] at this,hb⟩
      clear m1 m2 hwp hxe;have hs0:=HS7.out w1 (Below.refl _ _)
      go_region_held3 (fun w'=>w'.cell? ⟨bb,1,none⟩=some (.map (some b.mb))∧w'.cell? ⟨w.heap.size,0,none⟩=some (.int .i64 p.id)∧(Instr.lookup 153 (.map (some b.mb)) (.int .i64 p.id) true).run Tryz.prog w'=.ok (.tuple #[.agg #[.int .i64 x.slot,.int .i64 x.age,.int .i64 s],.bool true]) w'∧Below w1.heap.size w1 w')
       ((refine HS7.out _ ?_;(repeat' first | assumption | exact Below.refl _ _ | exact lR7 | refine Below.drew ?_ | refine Below.alloc ?_ ?_ _ | (simp;done) | (simp;omega)))) (fail)
      all_goals go_wp2_with fail
      all_goals go_ret
      all_goals refine HP.out _ _ (Or.inr (Or.inl ⟨HS.out,HI.out,HR.out,HPI.out ▸ HL.out,rfl,Goes.stay H.out (aD0 HB1.out ?_) (Nat.le_succ _) hm⟩))
      all_goals (repeat' first | assumption | exact Below.refl _ _ | exact lR7 | refine Below.drew ?_ | refine Below.alloc ?_ ?_ _ | (simp;done) | (simp;omega))
     ·have HL:Hid (∀s,s<2→∀x∈b.S s,x.o.id≠p.id):=hl
      have HS7:Hid (∀w',Below w1.heap.size w1 w'→(w'.cell? ⟨bb,1,none⟩=some (.map (some b.mb))∧w'.cell? ⟨w.heap.size,0,none⟩=some (.int .i64 p.id)∧(Instr.lookup 153 (.map (some b.mb)) (.int .i64 p.id) true).run Tryz.prog w'=.ok (.tuple #[.agg #[.int .i64 0,.int .i64 0,.int .i64 0],.bool false]) w'∧Below w1.heap.size w1 w')):=
       fun w' hb=>⟨cell_later hb m1,cell_later hb m2,(HBK.out.below hb lR7).at_.map.no hl hwp,hb⟩
      clear m1 m2 hwp hl;have hs0:=HS7.out w1 (Below.refl _ _);go_cut [5,6] from 31 to 40 (fun _ p6 wc=>p6=.bool false∧Below w1.heap.size w1 wc)
      case first=>
       go_region_held3 (fun w'=>w'.cell? ⟨bb,1,none⟩=some (.map (some b.mb))∧w'.cell? ⟨w.heap.size,0,none⟩=some (.int .i64 p.id)∧(Instr.lookup 153 (.map (some b.mb)) (.int .i64 p.id) true).run Tryz.prog w'=.ok (.tuple #[.agg #[.int .i64 0,.int .i64 0,.int .i64 0],.bool false]) w'∧Below w1.heap.size w1 w')
        ((refine HS7.out _ ?_;(repeat' first | assumption | exact Below.refl _ _ | exact lR7 | refine Below.drew ?_ | refine Below.alloc ?_ ?_ _ | (simp;done) | (simp;omega)))) (fail)
       all_goals go_wp2_with fail
       all_goals go_meet
       all_goals refine ⟨rfl,?_⟩
       all_goals (repeat' first | assumption | exact Below.refl _ _ | exact lR7 | refine Below.drew ?_ | refine Below.alloc ?_ ?_ _ | (simp;done) | (simp;omega))
      case rest=>
       obtain ⟨rfl,hb2⟩:=hcut;have HB2:Hid (Below w.heap.size w wc):=aD0 HB1.out hb2;have HX2:Hid (dD0 wc w.heap.size p):=aC0 HX1.out hb2 lR7;have HBK2:Hid (Bk wc bb m b):=H.out.below HB2.out lR7;clear hb2 hs0 HS7 HBK lb lx;go_wp2_with fail;have n0:wc.cell? ⟨bb,0,none⟩=some (.pointer (some ⟨b.ab,0,none⟩)):=aA0 (j:=0) HBK2.out.at_.box rfl;have nb:¬aoB b.ab b.vs b.vf bb:=fun e=>HBK2.out.at_.notBox e
       have nx:¬aoB b.ab b.vs b.vf w.heap.size:=fun e=>Nat.lt_irrefl _ (H.out.at_.ar.lt e)
       have HS9:Hid (∀w',Out (aoB b.ab b.vs b.vf) wc w'→(w'.cell? ⟨bb,0,none⟩=some (.pointer (some ⟨b.ab,0,none⟩))∧w'.cell? ⟨w.heap.size,0,none⟩=some (.int .i64 p.id)∧w'.cell? ⟨w.heap.size,1,none⟩=some (.int .i64 p.side)∧w'.cell? ⟨w.heap.size,2,none⟩=some (.int .i64 p.kind)∧w'.cell? ⟨w.heap.size,3,none⟩=some (.int .i64 p.price)∧w'.cell? ⟨w.heap.size,4,none⟩=some (.int .i64 p.qty)∧Out (aoB b.ab b.vs b.vf) wc w')):=
        fun w' ho=>⟨aA0 (j:=0) (aE0 HBK2.out.at_.box ho nb) rfl,aA0 (j:=0) (aE0 HX2.out ho nx) rfl,aA0 (j:=1) (aE0 HX2.out ho nx) rfl,aA0 (j:=2) (aE0 HX2.out ho nx) rfl,aA0 (j:=3) (aE0 HX2.out ho nx) rfl,aA0 (j:=4) (aE0 HX2.out ho nx) rfl,ho⟩
       have hs0:=HS9.out wc (Out.refl _ _);have lx:w.heap.size<wc.heap.size:=lt_of_block HX2.out;have hcl:b.rs.length≤1000000:=by have:=H.out.ok.so.small;have:=H.out.steps;omega
       have HCN:Hid (cntO b.rs+b.fr.length=b.rs.length):=H.out.ok.so.cnt;clear n0
       by_cases hfull:(b.S 0).length+(b.S 1).length=100
       ·have HF:Hid ((b.S 0).length+(b.S 1).length=100):=hfull;have HC:Hid ((cntO b.rs:Int)=100):=by show _=_;rw [H.out.ok.cnt];omega
        clear hfull
        go_region_held3 (fun w'=>w'.cell? ⟨bb,0,none⟩=some (.pointer (some ⟨b.ab,0,none⟩))∧w'.cell? ⟨w.heap.size,0,none⟩=some (.int .i64 p.id)∧w'.cell? ⟨w.heap.size,1,none⟩=some (.int .i64 p.side)∧w'.cell? ⟨w.heap.size,2,none⟩=some (.int .i64 p.kind)∧w'.cell? ⟨w.heap.size,3,none⟩=some (.int .i64 p.price)∧w'.cell? ⟨w.heap.size,4,none⟩=some (.int .i64 p.qty)∧Out (aoB b.ab b.vs b.vf) wc w')
         ((refine HS9.out _ ?_;(repeat' first | assumption | exact Out.refl _ _ | refine aU0 ?_ | refine cP0 ?_ _ | refine bE0 ?_ ho2 | refine hH0 ?_ ?_ | (simp;done) | (simp;omega) | (have h9:=ho2.size;simp at h9 ⊢;omega))))
         (first | (go_at_call 149;refine (aW1 b.ab 100 b.vs b.vf b.rs b.fr p _ (HBK2.out.at_.ar.below (B:=wc.heap.size) ?_ lR7) hcl HCN.out HC.out).mono ?_;(repeat' first | assumption | exact Below.refl _ _ | exact lR7 | refine Below.drew ?_ | refine Below.alloc ?_ ?_ _ | (simp;done) | (simp;omega));rintro e w2 ⟨rfl,hb2⟩;have hb1:=hb2;have ho2:=Out.of_below (S:=aoB b.ab b.vs b.vf) hb2 lR7;try (have hxb:=(hb2.block wc.heap.size (by simp)).trans (heap_alloc_new wc _);have y0:=aA0 (j:=0) hxb rfl;have y1:=aA0 (j:=1) hxb rfl;have y2:=aB0 (j:=0) hxb;have y3:=aB0 (j:=1) hxb)))
        all_goals go_wp2_with fail
        all_goals go_ret
        all_goals refine HP.out _ _ (Or.inr (Or.inr (Or.inl ⟨HS.out,HI.out,HR.out,HPI.out ▸ HL.out,HF.out,rfl,Goes.stay H.out (aD0 HB2.out ?_) (Nat.le_succ _) hm⟩)))
        all_goals (repeat' first | assumption | exact Below.refl _ _ | exact lR7 | refine Below.drew ?_ | refine Below.alloc ?_ ?_ _ | refine aD0 ?_ hb1 | refine Below.setCell ?_ ?_ _ | (simp;done) | (simp;omega) | (have h9:=hb1.size;simp at h9 ⊢;omega))
       ·have HF:Hid ((b.S 0).length+(b.S 1).length<100):=by show _<_;have:=H.out.ok.most;omega
        have HC:Hid (¬(cntO b.rs:Int)=100):=by show ¬_;rw [H.out.ok.cnt];omega
        obtain ⟨k,rs1,fr1,hR⟩:=nR1 H.out.ok.so;obtain ⟨hk,_,_,_,_⟩:=nU0 H.out.ok.so hR;have HRM:Hid (rN0 b.rs b.fr k rs1 fr1):=hR;clear hfull hR;generalize hag:(soAt rs1 k).2=ag;have HAG:Hid ((soAt rs1 k).2=ag):=hag;clear hag;go_cut [7,8] from 43 to 51 (fun p7 p8 wd=>p8=.nilIface∧∃(hb:Nat) (vs' vf':Value),p7=.pointer (some ⟨hb,0,none⟩)∧wc.heap.size≤hb∧wd.heap[hb]? = some (.cells #[.int .i64 k,.int .i64 ag] 169 (0,0))∧ArOr wd b.ab 100 vs' vf' (rs1.set k (some p,ag)) fr1∧Out (aoB b.ab b.vs b.vf) wc wd∧Went wc (aoB b.ab b.vs b.vf) (aoB b.ab vs' vf'))
        case first=>
         go_region_held3 (fun w'=>w'.cell? ⟨bb,0,none⟩=some (.pointer (some ⟨b.ab,0,none⟩))∧w'.cell? ⟨w.heap.size,0,none⟩=some (.int .i64 p.id)∧w'.cell? ⟨w.heap.size,1,none⟩=some (.int .i64 p.side)∧w'.cell? ⟨w.heap.size,2,none⟩=some (.int .i64 p.kind)∧w'.cell? ⟨w.heap.size,3,none⟩=some (.int .i64 p.price)∧w'.cell? ⟨w.heap.size,4,none⟩=some (.int .i64 p.qty)∧Out (aoB b.ab b.vs b.vf) wc w')
          ((refine HS9.out _ ?_;(repeat' first | assumption | exact Out.refl _ _ | refine aU0 ?_ | refine cP0 ?_ _ | refine bE0 ?_ ho2 | refine hH0 ?_ ?_ | (simp;done) | (simp;omega) | (have h9:=ho2.size;simp at h9 ⊢;omega))))
          (first | (go_at_call 149;refine (tD1 b.ab 100 b.vs b.vf b.rs b.fr p k rs1 fr1 _ (HBK2.out.at_.ar.below (B:=wc.heap.size) ?_ lR7) hcl HCN.out HC.out HRM.out hk).mono ?_;(repeat' first | assumption | exact Below.refl _ _ | exact lR7 | refine Below.drew ?_ | refine Below.alloc ?_ ?_ _ | (simp;done) | (simp;omega));rw [HAG.out];rintro e w2 ⟨rfl,vs',vf',ha2,ho2,hw2⟩;try (have hxb:=aE0 (w:=(wc.alloc (.cells #[.int .i64 0,.int .i64 0] 169)).drew) (heap_alloc_new wc _) ho2 (fun e=>Nat.lt_irrefl _ (HBK2.out.at_.ar.lt e));have y0:=aA0 (j:=0) hxb rfl;have y1:=aA0 (j:=1) hxb rfl;have y2:=aB0 (j:=0) hxb;have y3:=aB0 (j:=1) hxb)))
         ·go_wp2_with fail;go_meet;exact ⟨rfl,w2.heap.size,vs',vf',rfl,ho2.size,heap_alloc_new w2 _,ha2.below (bel1 _ _) lR7,cP0 (bE0 (aU0 (Out.refl _ wc)) ho2) _,hw2⟩
         ·go_wp2_with fail;go_meet;have s3:=(aQ0 w2 ⟨wc.heap.size,0,none⟩ (.int .i64 k)).trans (aQ0 _ ⟨wc.heap.size,1,none⟩ (.int .i64 ag)) (Went.refl _ _);refine ⟨rfl,wc.heap.size,vs',vf',rfl,lR7,aK0 (j:=1) _ (aK0 (j:=0) _ hxb),ha2.out s3 (fun j hj e=>?_),hH0 (hH0 (bE0 (aU0 (cP0 (Out.refl _ wc) _)) ho2) lR7) lR7,fun j hj=>(hw2 j hj).imp id (fun h4=>by simp at h4;omega)⟩;have e':j=wc.heap.size:=e;rcases hw2 j hj with h4 | h4
          ·have:=HBK2.out.at_.ar.lt h4;omega
          ·simp at h4;omega
        case rest=>
         obtain ⟨rfl,hb,vs',vf',rfl,hbl,hh,ha,ho,hwn⟩:=hcut;have hx3:=aE0 HX2.out ho nx;have HX3:Hid (dD0 wc w.heap.size p):=hx3;have HHB:Hid (wc.heap[hb]? = some (.cells #[.int .i64 k,.int .i64 ag] 169 (0,0))):=hh;have HBK3:Hid (BookAt wc bb b.ab b.mb b.n vs' vf' b.v0 b.v1 (rs1.set k (some p,ag)) fr1 b.S):=HBK2.out.at_.newAr ho ha;have HO3:Hid (Out (b.foot bb) w wc):=(Out.of_below HB2.out lR7).trans (ho.mono (S':=b.foot bb) (fun j hj=>Or.inr (Or.inl hj))) (Went.refl _ _);have HN3:Hid (Went w (aoB b.ab b.vs b.vf) (aoB b.ab vs' vf')):=fun j hj=>(hwn j hj).imp id (fun h4=>Nat.le_trans HB2.out.size h4)
         have HLH:Hid (w.heap.size+1≤hb):=Nat.le_trans lx hbl;clear ho hwn hbl hs0 nb nx HS9 HC hcl HCN lx HX2 HB2 HBK2
         obtain ⟨s,hs2,hps⟩:∃s:Nat,s<2∧p.side=(s:Int)+1:=by
          have h1:=HS.out;rw [←HPS.out] at h1;unfold kN0 at h1;simp only [Bool.or_eq_true,beq_iff_eq] at h1;rcases h1 with h1 | h1
          ·exact ⟨0,by decide,by rw [h1];rfl⟩
          ·exact ⟨1,by decide,by rw [h1];rfl⟩
         have hsub:IntKind.i64.wrap (p.side - 1)=(s:Int):=by rw [hps,show (s:Int)+1 - 1=s by omega];exact IntWalk.i64_in _ (by omega)
         have HPSS:Hid (p.side=(s:Int)+1):=hps;have z0:=aA0 (j:=0) hh rfl;have z1:=aA0 (j:=1) hh rfl;have z2:=aA0 (j:=1) hx3 rfl;clear hps hh hx3 ha;go_upto_region 14 with fail;have hbe:=bel1 wc (.cells #[.int .i64 k,.int .i64 ag,.int .i64 s] 171);have hpb:=heap_alloc_new wc (.cells #[.int .i64 k,.int .i64 ag,.int .i64 s] 171);have hlp:w.heap.size≤wc.heap.size:=HO3.out.size;generalize wc.alloc (.cells #[.int .i64 k,.int .i64 ag,.int .i64 s] 171)=we at hbe hpb ⊢;have HX4:Hid (dD0 we w.heap.size p):=aC0 HX3.out hbe lR7;have HHB4:Hid (we.heap[hb]? = some (.cells #[.int .i64 k,.int .i64 ag] 169 (0,0))):=aC0 HHB.out hbe lR7;have HBK4:Hid (BookAt we bb b.ab b.mb b.n vs' vf' b.v0 b.v1 (rs1.set k (some p,ag)) fr1 b.S):=HBK3.out.below hbe lR7;have HO4:Hid (Out (b.foot bb) w we):=HO3.out.trans (Out.of_below hbe lR7) (Went.refl _ _);generalize wc.heap.size=pb at hpb hlp ⊢;have HPB:Hid (we.heap[pb]? = some (.cells #[.int .i64 k,.int .i64 ag,.int .i64 s] 171 (0,0))):=hpb;clear hbe hpb HX3 HHB HBK3 HO3 z0 z1 z2;have hol:∀j,(vAt b.v0 b.v1 s).ownBlock=some j→j<w.heap.size:=fun j hj=>H.out.lt (Or.inr (Or.inr (Or.inr (wH0 hs2 hj))))
         have nT:∀{j:Nat} {vs:Array Value} {t:TypeId},we.heap[j]? = some (.cells vs t (0,0))→w.heap.size≤j→¬((vAt b.v0 b.v1 s).ownBlock=some j):=fun {j vs t} hj hl e=>by
          have:=hol _ e;omega
         have HS14:Hid (∀w',Out (fun j=>(vAt b.v0 b.v1 s).ownBlock=some j) we w'→(w'.cell? ⟨pb,2,none⟩=some (.int .i64 s)∧w'.cell? ⟨w.heap.size,0,none⟩=some (.int .i64 p.id)∧w'.cell? ⟨w.heap.size,1,none⟩=some (.int .i64 p.side)∧w'.cell? ⟨w.heap.size,2,none⟩=some (.int .i64 p.kind)∧w'.cell? ⟨w.heap.size,3,none⟩=some (.int .i64 p.price)∧w'.cell? ⟨w.heap.size,4,none⟩=some (.int .i64 p.qty)∧w'.cell? ⟨hb,0,none⟩=some (.int .i64 k)∧w'.cell? ⟨hb,1,none⟩=some (.int .i64 ag)∧w'.cell? ⟨bb,2+s,none⟩=some (vAt b.v0 b.v1 s)∧Out (fun j=>(vAt b.v0 b.v1 s).ownBlock=some j) we w')):=fun w' ho=>by
          have g1:=aE0 HPB.out ho (nT HPB.out hlp);have g2:=aE0 HX4.out ho (nT HX4.out lR7);have g3:=aE0 HHB4.out ho (nT HHB4.out (by have:=HLH.out;omega));have g4:=aE0 HBK4.out.box ho (HBK4.out.mid.rowNotBox hs2);exact ⟨aA0 (j:=2) g1 rfl,aA0 (j:=0) g2 rfl,aA0 (j:=1) g2 rfl,aA0 (j:=2) g2 rfl,aA0 (j:=3) g2 rfl,aA0 (j:=4) g2 rfl,aA0 (j:=0) g3 rfl,aA0 (j:=1) g3 rfl,(kL0 g4 hs2).1,ho⟩
         have HTH:Hid (∀x∈b.S s,soAt (rs1.set k (some p,ag)) x.slot=(some x.o,x.age)):=fun x hx=>by
          obtain ⟨h1,h2⟩:=(nU0 H.out.ok.so HRM.out).2.2.1 _ _ _ (H.out.ok.there s hs2 x hx);rw [bV0 _ (Ne.symm h1)];exact h2
         have hln:(b.S s).length≤1000:=by
          have h1:=(nT0 b.S [] hs2).2;have h2:=H.out.ok.most;omega
         have hrk:fV0 p ((b.S s).map Ly.o)≤(b.S s).length:=by
          have:=iS1 p ((b.S s).map Ly.o)
          simpa using this
         have q1:(0:Int)≤(s:Int):=by omega
         have q2:(s:Int)<2:=by omega
         clear nT;refine eC0 (fun w'=>w'.cell? ⟨pb,2,none⟩=some (.int .i64 s)∧w'.cell? ⟨w.heap.size,0,none⟩=some (.int .i64 p.id)∧w'.cell? ⟨w.heap.size,1,none⟩=some (.int .i64 p.side)∧w'.cell? ⟨w.heap.size,2,none⟩=some (.int .i64 p.kind)∧w'.cell? ⟨w.heap.size,3,none⟩=some (.int .i64 p.price)∧w'.cell? ⟨w.heap.size,4,none⟩=some (.int .i64 p.qty)∧w'.cell? ⟨hb,0,none⟩=some (.int .i64 k)∧w'.cell? ⟨hb,1,none⟩=some (.int .i64 ag)∧w'.cell? ⟨bb,2+s,none⟩=some (vAt b.v0 b.v1 s)∧Out (fun j=>(vAt b.v0 b.v1 s).ownBlock=some j) we w') (fun i=>i == 21) (by kernel_rfl) (HS14.out _ (aU0 (Out.refl _ _))) (fun hHeld=>?_);refine tkL7 (i:=0) (v:=?_) rfl (by kernel_rfl) (fun _ _ _ h=>h) (by rfl) ?_ (by assumption) ?_;rotate_left
         ·intro w hSw;try dsimp only at hSw
          go_simp;try rfl
         refine tkL7 (i:=1) (v:=?_) rfl (by kernel_rfl) (fun _ _ _ h=>h) (by rfl) ?_ (by assumption) ?_;rotate_left
         ·intro w hSw;try dsimp only at hSw
          go_simp;try rfl
         refine tkL7 (i:=2) (v:=?_) rfl (by kernel_rfl) (fun _ _ _ h=>h) (by rfl) ?_ (by assumption) ?_;rotate_left
         ·intro w hSw;try dsimp only at hSw
          go_simp;try rfl
         refine tkL7 (i:=3) (v:=?_) rfl (by kernel_rfl) (fun _ _ _ h=>h) (by rfl) ?_ (by assumption) ?_;rotate_left
         ·intro w hSw;try dsimp only at hSw
          go_simp;try rfl
         refine tkL7 (i:=4) (v:=?_) rfl (by kernel_rfl) (fun _ _ _ h=>h) (by rfl) ?_ (by assumption) ?_;rotate_left
         ·intro w hSw;try dsimp only at hSw
          go_simp;try rfl
         refine tkL7 (i:=5) (v:=?_) rfl (by kernel_rfl) (fun _ _ _ h=>h) (by rfl) ?_ (by assumption) ?_;rotate_left
         ·intro w hSw;try dsimp only at hSw
          go_simp;try rfl
         refine tkL7 (i:=6) (v:=?_) rfl (by kernel_rfl) (fun _ _ _ h=>h) (by rfl) ?_ (by assumption) ?_;rotate_left
         ·intro w hSw;try dsimp only at hSw
          go_simp;try rfl
         refine tkL7 (i:=7) (v:=?_) rfl (by kernel_rfl) (fun _ _ _ h=>h) (by rfl) ?_ (by assumption) ?_;rotate_left
         ·intro w hSw;try dsimp only at hSw
          go_simp;try rfl
         refine tkL7 (i:=8) (v:=?_) rfl (by kernel_rfl) (fun _ _ _ h=>h) (by rfl) ?_ (by assumption) ?_;rotate_left
         ·intro w hSw;try dsimp only at hSw
          go_simp;try rfl
         refine tkL7 (i:=9) (v:=?_) rfl (by kernel_rfl) (fun _ _ _ h=>h) (by rfl) ?_ (by assumption) ?_;rotate_left
         ·intro w hSw;try dsimp only at hSw
          go_simp;try rfl
         refine tkL7 (i:=10) (v:=?_) rfl (by kernel_rfl) (fun _ _ _ h=>h) (by rfl) ?_ (by assumption) ?_;rotate_left
         ·intro w hSw;try dsimp only at hSw
          go_simp;try rfl
         refine tkL7 (i:=11) (v:=?_) rfl (by kernel_rfl) (fun _ _ _ h=>h) (by rfl) ?_ (by assumption) ?_;rotate_left
         ·intro w hSw;try dsimp only at hSw
          go_simp;try rfl
         refine tkL7 (i:=12) (v:=?_) rfl (by kernel_rfl) (fun _ _ _ h=>h) (by rfl) ?_ (by assumption) ?_;rotate_left
         ·intro w hSw;try dsimp only at hSw
          go_simp;try rfl
         refine tkL7 (i:=13) (v:=?_) rfl (by kernel_rfl) (fun _ _ _ h=>h) (by rfl) ?_ (by assumption) ?_;rotate_left
         ·intro w hSw;try dsimp only at hSw
          go_simp;try rfl
         refine tkL7 (i:=15) (v:=?_) rfl (by kernel_rfl) (fun _ _ _ h=>h) (by rfl) ?_ (by assumption) ?_;rotate_left
         ·intro w hSw;try dsimp only at hSw
          go_simp;try rfl
         refine tkL7 (i:=18) (v:=?_) rfl (by kernel_rfl) (fun _ _ _ h=>h) (by rfl) ?_ (by assumption) ?_;rotate_left
         ·intro w hSw;try dsimp only at hSw
          go_simp;try rfl
         refine tkL7 (i:=19) (v:=?_) rfl (by kernel_rfl) (fun _ _ _ h=>h) (by rfl) ?_ (by assumption) ?_;rotate_left
         ·intro w hSw;try dsimp only at hSw
          go_simp;try rfl
         refine aL0 (rs:=[14,16]) (by kernel_rfl) (by simp) ?_;refine aF0.cons rfl (fun K hK=>?_) (aF0.cons rfl (fun K hK=>?_) aF0.nil)
         ·go_simp;refine (dH1 bb b.ab b.mb b.n s vs' vf' b.v0 b.v1 (rs1.set k (some p,ag)) fr1 b.S p we _ hs2 hln HTH.out HBK4.out (Below.refl _ _).drew).mono ?_;rintro e w5 ⟨rfl,hb5,hb1,e5,l5⟩;dsimp only;refine hK.out _ _ (fun _=>HS14.out _ (Out.of_below hb1 lR7)) (fun hHeld=>?_);replace hHeld:=hHeld rfl;clear hK K;refine aL0 (rs:=[16]) (by kernel_rfl) (by simp) ?_;refine aF0.cons rfl (fun K hK=>?_) aF0.nil;go_simp;refine hK.out _ _ (fun _=>HS14.out _ (cP0 (Out.of_below hb1 lR7) _)) (fun hHeld=>?_);replace hHeld:=hHeld rfl;clear hK K;have hbw:Below we.heap.size we (w5.alloc (.cells #[.int .i64 k,.int .i64 ag] 169)):=aD0 hb1 (bel1 _ _);have hvb:=heap_alloc_new w5 (.cells #[.int .i64 k,.int .i64 ag] 169);have hvl:we.heap.size≤w5.heap.size:=hb1.size;refine aL0 (rs:=[17]) (by kernel_rfl) (by simp) ?_;refine aF0.cons rfl (fun K hK=>?_) aF0.nil;go_simp;refine (tK0 _ _ bb b.ab b.mb b.n s vs' vf' b.v0 b.v1 (rs1.set k (some p,ag)) fr1 b.S ⟨k,ag,p⟩ we _ hs2 hln hrk HBK4.out hbw hvb hvl).mono ?_;rintro e w6 ⟨g6,c6,rfl,hr6,ho6,hg6,hoI,e6,f6⟩;dsimp only;refine hK.out _ _ (fun _=>HS14.out _ ho6) (fun hHeld=>?_);replace hHeld:=hHeld rfl;clear hK K;refine aL0 (rs:=[20]) (by kernel_rfl) (by simp) ?_;refine aF0.cons rfl (fun K hK=>?_) aF0.nil;go_simp;refine hK.out _ _ (fun _=>HS14.out _ ho6) (fun hHeld=>?_);replace hHeld:=hHeld rfl;clear hK K;refine aL0 (rs:=[21]) (by kernel_rfl) (by simp) ?_;refine aF0.cons rfl (fun K hK=>?_) aF0.nil;go_simp;refine hK.out _ _ (fun h=>by cases h) (fun _=>?_);refine fF0 (by kernel_rfl) ?_ _;go_wp2_with fail;obtain ⟨hG,hT⟩:=HBK4.out.mid.newRow hs2 hr6 ho6 hg6;generalize w6.setCell ⟨bb,2+s,none⟩ (.slice (some ⟨g6,0,none⟩) (dR0 (fV0 p ((b.S s).map Ly.o)) ⟨k,ag,p⟩ (b.S s)).length c6)=w7 at hG hT ⊢;obtain ⟨w8,hrun,hm8,ho8⟩:=(hG.map.same (w':=w7.drew) rfl).put (x:=⟨k,ag,p⟩) (S':=upS b.S s (dR0 (fV0 p ((b.S s).map Ly.o)) ⟨k,ag,p⟩ (b.S s))) hs2 (by show (Lit.int .i64 p.id).wf=true;rw [HPI.out];exact HW.out) (by have:=H.out.small;omega) HL.out (fun t _ y=>dL1 t y);have HFIN:Hid (Goes w w8 bb (m+1) b (oB1 b s k ag p vs' vf' (.slice (some ⟨g6,0,none⟩) (dR0 (fV0 p ((b.S s).map Ly.o)) ⟨k,ag,p⟩ (b.S s)).length c6) rs1 fr1)):=dM1 H.out hm hs2 HRM.out HAG.out HPSS.out (by rw [HPI.out];have:=HI.out;omega) (by rw [HPI.out];exact HW.out) HR.out HL.out HF.out HO4.out HN3.out hg6 hG hT hm8 (bE0 (aU0 (Out.refl _ _)) ho8)
          have nT:∀{j:Nat} {vs:Array Value} {t:TypeId},we.heap[j]? = some (.cells vs t (0,0))→t≠157→w.heap.size≤j→¬(j=bb∨(vAt b.v0 b.v1 s).ownBlock=some j):=fun {j vs t} hj ht hl e=>by
           rcases e with e | e
           ·exact cV0 hj HBK4.out.box ht e
           ·have:=hol _ e;omega
          have g1:=aE0 HPB.out hT (nT HPB.out (by decide) hlp);have g2:=aE0 HX4.out hT (nT HX4.out (by decide) lR7)
          have HS15:Hid (∀w',Out (fun j=>j=b.mb) w7 w'→(w'.cell? ⟨bb,1,none⟩=some (.map (some b.mb))∧w'.cell? ⟨w.heap.size,0,none⟩=some (.int .i64 p.id)∧w'.cell? ⟨pb,0,none⟩=some (.int .i64 k)∧w'.cell? ⟨pb,1,none⟩=some (.int .i64 ag)∧w'.cell? ⟨pb,2,none⟩=some (.int .i64 s)∧Out (fun j=>j=b.mb) w7 w')):=fun w' ho=>
           ⟨aA0 (j:=1) (aE0 hG.box ho (hG.map.ne hG.box)) rfl,aA0 (j:=0) (aE0 g2 ho (hG.map.ne g2)) rfl,aA0 (j:=0) (aE0 g1 ho (hG.map.ne g1)) rfl,aA0 (j:=1) (aE0 g1 ho (hG.map.ne g1)) rfl,aA0 (j:=2) (aE0 g1 ho (hG.map.ne g1)) rfl,ho⟩
          have hs0:=HS15.out w7 (Out.refl _ _);have ho2:Out (fun j=>j=b.mb) w7 w8:=bE0 (aU0 (Out.refl _ _)) ho8;clear hG hT hm8 nT g1 g2 hr6 ho6 hg6 hoI e6 f6 hvb hHeld
          go_region_held3 (fun w'=>w'.cell? ⟨bb,1,none⟩=some (.map (some b.mb))∧w'.cell? ⟨w.heap.size,0,none⟩=some (.int .i64 p.id)∧w'.cell? ⟨pb,0,none⟩=some (.int .i64 k)∧w'.cell? ⟨pb,1,none⟩=some (.int .i64 ag)∧w'.cell? ⟨pb,2,none⟩=some (.int .i64 s)∧Out (fun j=>j=b.mb) w7 w')
           ((refine HS15.out _ ?_;first | assumption | exact aU0 (Out.refl _ _))) (fail)
          go_wp2_with fail;go_ret;exact HP.out _ _ (Or.inr (Or.inr (Or.inr ⟨HS.out,HI.out,HR.out,(fun t ht x hx=>HPI.out ▸ HL.out t ht x hx),HF.out,rfl,_,s,k,ag,hs2,by rw [←HPS.out];exact HPSS.out,rfl,HFIN.out⟩)))
         ·go_simp;refine hK.out _ _ (fun _=>HS14.out _ (aU0 (cP0 (Out.refl _ _) _))) (fun hHeld=>?_);replace hHeld:=hHeld rfl;clear hK K;refine aL0 (rs:=[14]) (by kernel_rfl) (by simp) ?_;refine aF0.cons rfl (fun K hK=>?_) aF0.nil;go_simp;refine (dH1 bb b.ab b.mb b.n s vs' vf' b.v0 b.v1 (rs1.set k (some p,ag)) fr1 b.S p we _ hs2 hln HTH.out HBK4.out (bel1 _ _).drew).mono ?_;rintro e w5 ⟨rfl,hb5,hb1,e5,l5⟩;dsimp only;refine hK.out _ _ (fun _=>HS14.out _ (Out.of_below hb1 lR7)) (fun hHeld=>?_);replace hHeld:=hHeld rfl;clear hK K;have hbw:Below we.heap.size we w5:=hb1;have hvb:=(hb5.block we.heap.size (by simp)).trans (heap_alloc_new we (.cells #[.int .i64 k,.int .i64 ag] 169));have hvl:we.heap.size≤we.heap.size:=lR7;refine aL0 (rs:=[17]) (by kernel_rfl) (by simp) ?_;refine aF0.cons rfl (fun K hK=>?_) aF0.nil;go_simp;refine (tK0 _ _ bb b.ab b.mb b.n s vs' vf' b.v0 b.v1 (rs1.set k (some p,ag)) fr1 b.S ⟨k,ag,p⟩ we _ hs2 hln hrk HBK4.out hbw hvb hvl).mono ?_;rintro e w6 ⟨g6,c6,rfl,hr6,ho6,hg6,hoI,e6,f6⟩;dsimp only;refine hK.out _ _ (fun _=>HS14.out _ ho6) (fun hHeld=>?_);replace hHeld:=hHeld rfl;clear hK K;refine aL0 (rs:=[20]) (by kernel_rfl) (by simp) ?_;refine aF0.cons rfl (fun K hK=>?_) aF0.nil;go_simp;refine hK.out _ _ (fun _=>HS14.out _ ho6) (fun hHeld=>?_);replace hHeld:=hHeld rfl;clear hK K;refine aL0 (rs:=[21]) (by kernel_rfl) (by simp) ?_;refine aF0.cons rfl (fun K hK=>?_) aF0.nil;go_simp;refine hK.out _ _ (fun h=>by cases h) (fun _=>?_);refine fF0 (by kernel_rfl) ?_ _;go_wp2_with fail;obtain ⟨hG,hT⟩:=HBK4.out.mid.newRow hs2 hr6 ho6 hg6;generalize w6.setCell ⟨bb,2+s,none⟩ (.slice (some ⟨g6,0,none⟩) (dR0 (fV0 p ((b.S s).map Ly.o)) ⟨k,ag,p⟩ (b.S s)).length c6)=w7 at hG hT ⊢;obtain ⟨w8,hrun,hm8,ho8⟩:=(hG.map.same (w':=w7.drew) rfl).put (x:=⟨k,ag,p⟩) (S':=upS b.S s (dR0 (fV0 p ((b.S s).map Ly.o)) ⟨k,ag,p⟩ (b.S s))) hs2 (by show (Lit.int .i64 p.id).wf=true;rw [HPI.out];exact HW.out) (by have:=H.out.small;omega) HL.out (fun t _ y=>dL1 t y);have HFIN:Hid (Goes w w8 bb (m+1) b (oB1 b s k ag p vs' vf' (.slice (some ⟨g6,0,none⟩) (dR0 (fV0 p ((b.S s).map Ly.o)) ⟨k,ag,p⟩ (b.S s)).length c6) rs1 fr1)):=dM1 H.out hm hs2 HRM.out HAG.out HPSS.out (by rw [HPI.out];have:=HI.out;omega) (by rw [HPI.out];exact HW.out) HR.out HL.out HF.out HO4.out HN3.out hg6 hG hT hm8 (bE0 (aU0 (Out.refl _ _)) ho8)
          have nT:∀{j:Nat} {vs:Array Value} {t:TypeId},we.heap[j]? = some (.cells vs t (0,0))→t≠157→w.heap.size≤j→¬(j=bb∨(vAt b.v0 b.v1 s).ownBlock=some j):=fun {j vs t} hj ht hl e=>by
           rcases e with e | e
           ·exact cV0 hj HBK4.out.box ht e
           ·have:=hol _ e;omega
          have g1:=aE0 HPB.out hT (nT HPB.out (by decide) hlp);have g2:=aE0 HX4.out hT (nT HX4.out (by decide) lR7)
          have HS15:Hid (∀w',Out (fun j=>j=b.mb) w7 w'→(w'.cell? ⟨bb,1,none⟩=some (.map (some b.mb))∧w'.cell? ⟨w.heap.size,0,none⟩=some (.int .i64 p.id)∧w'.cell? ⟨pb,0,none⟩=some (.int .i64 k)∧w'.cell? ⟨pb,1,none⟩=some (.int .i64 ag)∧w'.cell? ⟨pb,2,none⟩=some (.int .i64 s)∧Out (fun j=>j=b.mb) w7 w')):=fun w' ho=>
           ⟨aA0 (j:=1) (aE0 hG.box ho (hG.map.ne hG.box)) rfl,aA0 (j:=0) (aE0 g2 ho (hG.map.ne g2)) rfl,aA0 (j:=0) (aE0 g1 ho (hG.map.ne g1)) rfl,aA0 (j:=1) (aE0 g1 ho (hG.map.ne g1)) rfl,aA0 (j:=2) (aE0 g1 ho (hG.map.ne g1)) rfl,ho⟩
          have hs0:=HS15.out w7 (Out.refl _ _);have ho2:Out (fun j=>j=b.mb) w7 w8:=bE0 (aU0 (Out.refl _ _)) ho8;clear hG hT hm8 nT g1 g2 hr6 ho6 hg6 hoI e6 f6 hvb hHeld
          go_region_held3 (fun w'=>w'.cell? ⟨bb,1,none⟩=some (.map (some b.mb))∧w'.cell? ⟨w.heap.size,0,none⟩=some (.int .i64 p.id)∧w'.cell? ⟨pb,0,none⟩=some (.int .i64 k)∧w'.cell? ⟨pb,1,none⟩=some (.int .i64 ag)∧w'.cell? ⟨pb,2,none⟩=some (.int .i64 s)∧Out (fun j=>j=b.mb) w7 w')
           ((refine HS15.out _ ?_;first | assumption | exact aU0 (Out.refl _ _))) (fail)
          go_wp2_with fail;go_ret;exact HP.out _ _ (Or.inr (Or.inr (Or.inr ⟨HS.out,HI.out,HR.out,(fun t ht x hx=>HPI.out ▸ HL.out t ht x hx),HF.out,rfl,_,s,k,ag,hs2,by rw [←HPS.out];exact HPSS.out,rfl,HFIN.out⟩)))
end Go.Proofs.YtjdkagafdnchhaaGreatDoor
namespace Go.Proofs.YtjdkagafdnchhaaGreatDoor
open Go.RowKit
theorem rA1 {l:List Ly} {k:Nat} (x:Ly) (h:k<l.length):((hV l).set (k*2) (.int .i64 x.slot)).set (k*2+1) (.int .i64 x.age)=hV (l.set k x):=by
 induction l generalizing k with
 | nil=>simp at h
 | cons r rs ih=>
  cases k with
  | zero=>rfl
  | succ k=>
   have:=ih (k:=k) (by simpa using h);rw [show (k+1)*2=k*2+1+1 by omega];simp only [hV,List.set_cons_succ];rw [←this]
def fE0 (i j:Nat) (l:List Ly):List Ly:=l.take i++((l.take j).drop (i+1)++l.drop (j - 1))
theorem tN0 {i:Nat} {l:List Ly} (_h:i<l.length):fE0 i (i+1) l=l:=by
 unfold fE0;rw [List.drop_of_length_le (by simp;omega),List.nil_append];simp
theorem kO0 {i j:Nat} {l:List Ly} (h1:i<j) (h2:j≤l.length):(fE0 i j l).length=l.length:=by
 unfold fE0;simp;omega
theorem dN1 {i j:Nat} {l:List Ly} (h1:i<j) (h2:j<l.length):lyAt (fE0 i j l) j=lyAt l j:=by
 unfold lyAt fE0;rw [List.getD_eq_getElem?_getD,List.getD_eq_getElem?_getD,List.getElem?_append_right (by simp;omega),List.getElem?_append_right (by simp;omega),List.getElem?_drop];simp
 congr 2
 omega
theorem wK0 {i j:Nat} {l:List Ly} (h1:i<j) (h2:j<l.length):(fE0 i j l).set (j - 1) (lyAt l j)=fE0 i (j+1) l:=by
 have hA:(l.take i).length=i:=by simp;omega
 have hB:((l.take j).drop (i+1)).length=j - 1 - i:=by simp;omega
 unfold fE0;rw [List.set_append_right _ _ (by omega),List.set_append_right _ _ (by omega),hA,hB]
 congr 1
 rw [show j - 1 - i - (j - 1 - i)=0 by omega,show j+1 - 1=j by omega];obtain ⟨j',rfl⟩:∃j',j=j'+1:=⟨j - 1,by omega⟩;rw [show j'+1 - 1=j' by omega,List.drop_eq_getElem_cons (show j'<l.length by omega),List.set_cons_zero]
 have e:(l.take (j'+1+1)).drop (i+1)=(l.take (j'+1)).drop (i+1)++[l[j'+1]]:=by
  rw [List.take_succ_eq_append_getElem h2,List.drop_append_of_le_length (by simp;omega)]
 rw [e,List.append_assoc,iQ0 h2];rfl
def dH0 (i:Nat) (l:List Ly):List Ly:=l.take i++l.drop (i+1)
theorem tO0 {i:Nat} {l:List Ly} (h:i<l.length):(dH0 i l).length=l.length - 1:=by unfold dH0;simp;omega
theorem qL0 {i:Nat} {l:List Ly} (h:i<l.length):l.Perm (lyAt l i::dH0 i l):=by
 have h1:l=l.take i++lyAt l i::l.drop (i+1):=by rw [iQ0 h,←List.drop_eq_getElem_cons h,List.take_append_drop]
 have h2:=List.perm_middle (a:=lyAt l i) (l₁:=l.take i) (l₂:=l.drop (i+1));rw [←h1] at h2;exact h2
theorem bE1 {i:Nat} {l:List Ly} (h:i<l.length):(fE0 i l.length l).take (l.length - 1)=dH0 i l:=by
 unfold fE0 dH0;rw [List.take_length,←List.append_assoc,List.take_left' (by simp;omega)]
def isH (x:Ly) (k:Nat) (a:Int):Bool:=decide (x.slot=k)&& decide (x.age=a)
set_option maxHeartbeats 1000000 in
theorem mN1 (pb:Nat) (k:Nat) (a:Int) (s:Int) (x:Ly) (w:World) (h:w.heap[pb]? = some (.cells #[.int .i64 k,.int .i64 a,.int .i64 s] 171 (0,0))):
  Calls Tryz.prog 101 #[.agg #[.int .i64 x.slot,.int .i64 x.age],.pointer (some ⟨pb,0,none⟩)] w fun e w'=>e=.returned (.bool (isH x k a))∧Below w.heap.size w w':=by
 have c0:=aA0 (j:=0) h rfl;have c1:=aA0 (j:=1) h rfl;have lp:=lt_of_block h;clear h
 by_cases h1:x.slot=k
 ·by_cases h2:x.age=a
  ·have HR:Hid (isH x k a=true):=by show _=_;unfold isH;rw [decide_eq_true h1,decide_eq_true h2];rfl
   have b1:((x.slot:Int) == (k:Int))=true:=by rw [h1];exact beq_self_eq_true _
   have b2:(x.age == a)=true:=by rw [h2];exact beq_self_eq_true _
   clear h1 h2;go_enter Tryz.func101,Tryz.ntmps101;go_wp2;go_ret;exact ⟨by rw [HR.out];rfl,by (repeat' first | assumption | exact Below.refl _ _ | exact lR7 | refine Below.drew ?_ | refine Below.alloc ?_ ?_ _ | (simp;done) | (simp;omega))⟩
  ·have HR:Hid (isH x k a=false):=by show _=_;unfold isH;rw [decide_eq_false h2,Bool.and_false]
   have b1:((x.slot:Int) == (k:Int))=true:=by rw [h1];exact beq_self_eq_true _
   have b2:(x.age == a)=false:=beq_eq_false_iff_ne.2 h2;clear h1 h2;go_enter Tryz.func101,Tryz.ntmps101;go_wp2;go_ret;exact ⟨by rw [HR.out];rfl,by (repeat' first | assumption | exact Below.refl _ _ | exact lR7 | refine Below.drew ?_ | refine Below.alloc ?_ ?_ _ | (simp;done) | (simp;omega))⟩
 ·have HR:Hid (isH x k a=false):=by show _=_;unfold isH;rw [decide_eq_false h1,Bool.false_and]
  have b1:((x.slot:Int) == (k:Int))=false:=beq_eq_false_iff_ne.2 (by omega);clear h1;go_enter Tryz.func101,Tryz.ntmps101;go_wp2;go_ret;exact ⟨by rw [HR.out];rfl,by (repeat' first | assumption | exact Below.refl _ _ | exact lR7 | refine Below.drew ?_ | refine Below.alloc ?_ ?_ _ | (simp;done) | (simp;omega))⟩
set_option maxRecDepth 4000 in
set_option maxHeartbeats 2000000 in
theorem rB1 (pb k i g cap:Nat) (a s:Int) (l:List Ly) (w:World) (hr:w.ownsRow 0 169 2 (.slice (some ⟨g,0,none⟩) l.length cap) l.length (hV l)) (hl:l.length≤1000) (hi:i<l.length) (hat:isH (lyAt l i) k a=true) (hno:∀j,j<i→isH (lyAt l j) k a=false)
  (hp:w.heap[pb]? = some (.cells #[.int .i64 k,.int .i64 a,.int .i64 s] 171 (0,0))):
  Calls Tryz.prog 153 #[.slice (some ⟨g,0,none⟩) l.length cap,.func (.func 101) #[] #[.pointer (some ⟨pb,0,none⟩)]] w fun e w'=>e=.returned (.int .i64 i)∧Below w.heap.size w w':=by
 have HR:Hid (w.ownsRow 0 169 2 (.slice (some ⟨g,0,none⟩) l.length cap) l.length (hV l)):=hr;have HP:Hid (w.heap[pb]? = some (.cells #[.int .i64 k,.int .i64 a,.int .i64 s] 171 (0,0))):=hp;have HAT:Hid (isH (lyAt l i) k a=true):=hat;have HNO:Hid (∀j,j<i→isH (lyAt l j) k a=false):=hno;clear hr hp hat hno;go_enter Tryz.func153,Tryz.ntmps153;go_wp2_with fail;go_loopw [8] (fun v wr=>∃j:Nat,j≤i∧v=.int .i64 j∧Below w.heap.size w wr) (fun v _=>l.length - (intOf v).toNat)
 case atStart=>exact ⟨0,Nat.zero_le _,rfl,Below.refl _ _⟩
 case round=>
  obtain ⟨j,hj,rfl,hb⟩:=hrel;have HB:Hid (Below w.heap.size w wr):=hb;have hrr:=aO0 HR.out hb lR7;have hlt:j<l.length:=by omega
  have c0:=(hrr.cellAt (j*2) (by omega)).trans (aS1 hlt).1;have c1:=(hrr.cellAt (j*2+1) (by omega)).trans (aS1 hlt).2;have hpr:=aC0 HP.out hb lR7;have HPR:Hid _:=hpr;clear hrr hb hpr;go_wp2_with fail;refine (mN1 pb k a s (lyAt l j) _ HPR.out).mono ?_;rintro e w1 ⟨rfl,hb1⟩;have HB1:Hid (Below w.heap.size w w1):=aD0 HB.out hb1;clear hb1 c0 c1
  by_cases hji:j=i
  ·subst hji;rw [HAT.out];go_wp2_with fail;go_ret;exact ⟨rfl,HB1.out⟩
  ·rw [HNO.out j (by omega)];go_wp2_with fail;go_roundw
   case rel=>exact ⟨j+1,by omega,by go_num,HB1.out⟩
   case measure=>simp [intOf];omega
theorem Tryz.zeroH (w:World):(zeroValue 169).run Tryz.prog w=.ok (.agg #[.int .i64 0,.int .i64 0]) w:=by kernel_rfl
theorem rQ0 (W:World) (g o c:Nat) (cur:Array Value) (t:TypeId) (hg:W.heap[g]? = some (.cells cur t (0,0))) (hfit:o+2≤cur.size):
  ∃W',(∀ty,(Builtin.clear_ #[154] ty #[.slice (some ⟨g,o,none⟩) 1 c]).run Tryz.prog W=.ok (.tuple #[]) W')
   ∧W'.heap[g]? = some (.cells (cur.toList.take o++[Value.int .i64 0,Value.int .i64 0]++cur.toList.drop (o+2)).toArray t (0,0))∧Out (fun j=>j=g) W W':=by
 refine ⟨W.setRow g (cur.toList.take o++[Value.int .i64 0,Value.int .i64 0]++cur.toList.drop (o+2)).toArray,fun ty=>?_,setRow_heap W g _ _ t _ hg,⟨rfl,rfl,rfl,by simp [World.setRow],fun j _ hj=>setRow_other W g j _ hj⟩⟩;have hst:=run_storeCells_at Tryz.prog g o t [Value.int .i64 0,Value.int .i64 0] 0 cur W hg (by simpa using hfit) (by simp [Value.oneCell']);have hz:=Tryz.zeroH W;have hu:=run_underlying (P:=Tryz.prog) Tryz.underlying154 (w:=W);simp only [Nat.add_zero,List.length_cons,List.length_nil,Nat.zero_add,Nat.reduceAdd] at hst;simp [Builtin.clear_,hu,hz,Builtin.zeroCells,Value.cells];rw [show List.map (fun i=>[Value.int .i64 0,Value.int .i64 0][i % 2]?.getD default) (List.range 2)=[Value.int .i64 0,Value.int .i64 0] from rfl,hst];simp
set_option maxRecDepth 100000 in
set_option maxHeartbeats 4000000 in
theorem oC1 (pb k i g cap:Nat) (a s:Int) (l:List Ly) (w:World) (hr:w.ownsRow 0 169 2 (.slice (some ⟨g,0,none⟩) l.length cap) l.length (hV l)) (hl:l.length≤1000) (hi:i<l.length) (hat:isH (lyAt l i) k a=true) (hno:∀j,j<l.length→j≠i→isH (lyAt l j) k a=false)
  (hp:w.heap[pb]? = some (.cells #[.int .i64 k,.int .i64 a,.int .i64 s] 171 (0,0))):
  Calls Tryz.prog 100 #[.slice (some ⟨g,0,none⟩) l.length cap,.func (.func 101) #[] #[.pointer (some ⟨pb,0,none⟩)]] w
   fun e w'=>e=.returned (.slice (some ⟨g,0,none⟩) (dH0 i l).length cap)∧w'.ownsRow 0 169 2 (.slice (some ⟨g,0,none⟩) (dH0 i l).length cap) (dH0 i l).length (hV (dH0 i l))∧Out (fun j=>j=g) w w':=by
 have hpg:pb≠g:=fun e=>aG0 hr hp (by decide) (by rw [e];rfl)
 have hcap:l.length≤cap∧cap≤maxLen:=by
  obtain ⟨_,_,e,h1,h2⟩:=bB0 hr;simp only [Value.slice.injEq,true_and] at e;omega
 unfold maxLen at hcap;have HR:Hid (w.ownsRow 0 169 2 (.slice (some ⟨g,0,none⟩) l.length cap) l.length (hV l)):=hr;have HP:Hid (w.heap[pb]? = some (.cells #[.int .i64 k,.int .i64 a,.int .i64 s] 171 (0,0))):=hp;have HAT:Hid (isH (lyAt l i) k a=true):=hat;have HNO:Hid (∀j,j<l.length→j≠i→isH (lyAt l j) k a=false):=hno;have lg:g<w.heap.size:=(hr.lt g rfl).2;clear hr hp hat hno;go_enter Tryz.func100,Tryz.ntmps100;go_wp2_with fail;refine (rB1 pb k i g cap a s l _ HR.out hl hi HAT.out (fun j hj=>HNO.out j (by omega) (by omega)) HP.out).mono ?_;rintro e w0 ⟨rfl,hb0⟩;have HB0:Hid (Below w.heap.size w w0):=hb0;clear hb0;go_wp2_with fail;go_loopw [5,6] (fun v u wr=>∃n:Nat,i≤n∧n+1≤l.length∧v=.int .i64 n∧u=.int .i64 (n+1:Nat)∧wr.ownsRow 0 169 2 (.slice (some ⟨g,0,none⟩) l.length cap) l.length (hV (fE0 i (n+1) l))∧Out (fun j=>j=g) w wr) (fun _ u _=>l.length - (intOf u).toNat)
 case atStart=>exact ⟨i,lR7,by omega,rfl,by go_num,by rw [tN0 hi];exact aO0 HR.out HB0.out lR7,Out.of_below HB0.out lR7⟩
 case round=>
  obtain ⟨n,hn1,hn2,rfl,rfl,hrr,hob⟩:=hrel;have HRR:Hid (wr.ownsRow 0 169 2 (.slice (some ⟨g,0,none⟩) l.length cap) l.length (hV (fE0 i (n+1) l))):=hrr;have HOB:Hid (Out (fun j=>j=g) w wr):=hob
  by_cases hlt:n+1<l.length
  ·have hsl:(fE0 i (n+1) l).length=l.length:=kO0 (by omega) (by omega);have hv:=aS1 (l:=fE0 i (n+1) l) (k:=n+1) (by omega);rw [dN1 (by omega) hlt] at hv;have c0:=(hrr.cellAt ((n+1)*2) (by omega)).trans hv.1;have c1:=(hrr.cellAt ((n+1)*2+1) (by omega)).trans hv.2;have q0:(0:Int)≤((n+1:Nat):Int):=by omega
   have q1:((n+1:Nat):Int)<(l.length:Int):=by omega
   clear hrr hob hv;go_wp2_with fail;have hbv:=bel1 wr (.cells #[.int .i64 (lyAt l (n+1)).slot,.int .i64 (lyAt l (n+1)).age] 169);have hvv:=heap_alloc_new wr (.cells #[.int .i64 (lyAt l (n+1)).slot,.int .i64 (lyAt l (n+1)).age] 169);refine (mN1 pb k a s (lyAt l (n+1)) _ (aC0 (aE0 HP.out HOB.out hpg) hbv lR7)).mono ?_;rintro e w1 ⟨rfl,hb1⟩;rw [HNO.out (n+1) hlt (by omega)];have hv1:=aC0 hvv hb1 lR7;have hr1:=aO0 HRR.out (aD0 hbv hb1) lR7;have HR1:Hid (w1.ownsRow 0 169 2 (.slice (some ⟨g,0,none⟩) l.length cap) l.length (hV (fE0 i (n+1) l))):=hr1;have HO1:Hid (Out (fun j=>j=g) w w1):=HOB.out.trans (Out.of_below (aD0 hbv hb1) lR7) (Went.refl _ _);have hvn:wr.heap.size≠g:=by have:=(HRR.out.lt g rfl).2;omega
   have v0:=aA0 (j:=0) hv1 rfl;have v1:=aA0 (j:=1) hv1 rfl;have hv:=aS1 (l:=fE0 i (n+1) l) (k:=n) (by omega);have d0:=(hr1.cellAt (n*2) (by omega)).trans hv.1;have d1:=(hr1.cellAt (n*2+1) (by omega)).trans hv.2;have f0:=hr1.frozenAt (n*2);have f1:=hr1.frozenAt (n*2+1);have r0:(0:Int)≤(n:Int):=by omega
   have r1:(n:Int)<(l.length:Int):=by omega
   clear hb1 hbv hvv hv1 hr1 hv c0 c1;go_wp2_with fail;go_roundw
   case rel=>
    obtain ⟨s1,s2⟩:=HR1.out.stored (n*2) (.int .i64 (lyAt l (n+1)).slot);obtain ⟨s3,s4⟩:=s1.stored (n*2+1) (.int .i64 (lyAt l (n+1)).age);have hst:=wK0 (i:=i) (j:=n+1) (l:=l) (by omega) hlt;rw [show n+1 - 1=n by omega] at hst;rw [rA1 _ (by omega),hst] at s3;have s5:Out (fun j=>j=g) w _:=(HO1.out.trans (Out.of_grown s2 (fun j hj=>by injection hj with hj;exact hj.symm)) (Went.refl _ _)).trans (Out.of_grown s4 (fun j hj=>by injection hj with hj;exact hj.symm)) (Went.refl _ _)
    (repeat apply Exists.intro)
    refine ⟨⟨n+1,by omega,by omega,?_,?_,s3,s5⟩,rfl⟩
    ·go_num
    ·go_num
   case measure=>simp [intOf];omega
  ·have hle:l.length=n+1:=by omega
   have hsl:(fE0 i (n+1) l).length=l.length:=kO0 (by omega) (by omega);rcases hrr.2 with ⟨h',_⟩ | ⟨g',cap',cur,h',_,hg,hnc,hcm,hcs,ht⟩
   ·simp at h'
   simp only [Value.slice.injEq,Option.some.injEq,Addr.mk.injEq,and_true,true_and] at h';obtain ⟨rfl,rfl⟩:=h';obtain ⟨W1,hrun,hg1,ho1⟩:=rQ0 wr g (n*2) (cap - n) cur 169 hg (by rw [hcs];omega);have hol:=tO0 hi
   have HFIN:Hid (W1.ownsRow 0 169 2 (.slice (some ⟨g,0,none⟩) n cap) n (hV (dH0 i l))∧Out (fun j=>j=g) w W1∧(dH0 i l).length=n):=by
    refine ⟨⟨by rw [eU0];omega,Or.inr ⟨g,cap,_,rfl,Nat.zero_le _,hg1,by omega,by unfold maxLen;omega,?_,?_⟩⟩,HOB.out.trans ho1 (Went.refl _ _),by omega⟩
    ·simp [hcs];omega
    ·dsimp only;rw [List.append_assoc,List.take_append_of_le_length (by simp [hcs];omega),List.take_of_length_le (by simp;omega),←bE1 hi,hle,show n+1 - 1=n by omega,←oA1 (by omega),←ht,List.take_take]
     congr 1
     omega
   have hrun':∀ty,(Builtin.clear_ #[154] ty #[.slice (some ⟨g,n*2,none⟩) (l.length - n) (cap - n)]).run Tryz.prog wr=.ok (.tuple #[]) W1:=by rw [show l.length - n=1 by omega];exact hrun
   have q0:(0:Int)≤(n:Int):=by omega
   have q1:(n:Int)≤(l.length:Int):=by omega
   have q2:¬(cap=n):=by omega
   have q3:n≤cap:=by omega
   have q4:n≤l.length:=by omega
   clear hrr hob hrun hg1 ho1 hg hcs ht hsl hol hle;go_wp2_with fail;go_ret;obtain ⟨h1,h2,h3⟩:=HFIN.out;rw [h3];exact ⟨rfl,h1,h2⟩
end Go.Proofs.YtjdkagafdnchhaaGreatDoor
