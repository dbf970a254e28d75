/- A part of the proof of EnginePlays. -/
import Derived.Test.YtjdkagafdnchhaaGreatDoorPA
import Derived.Test.YtjdkagafdnchhaaGreatDoorPZA
import Derived.Test.YtjdkagafdnchhaaGreatDoorPO
import Derived.Deep.CutRange
import Derived.Deep.CutBlock
import Derived.Test.YtjdkagafdnchhaaGreatDoorPG
import Derived.ProofKit
import Derived.OpenShut
import Derived.Deep.SlicePairs
import Derived.Deep.Fields
import Derived.Deep.Slices
import Derived.Test.YtjdkagafdnchhaaGreatDoorPH
import Derived.LaidLaws
import Derived.LaidHandle
namespace Go.Proofs.YtjdkagafdnchhaaGreatDoor
open Go.RowKit Go.Maps
set_option maxRecDepth 8000 in
set_option maxHeartbeats 8000000 in
theorem iL1 (tb tof tc:Nat) (rs:List (Int×Int)) (st dy pr ti mo:Int) (la:Option Addr) (n cap:Nat) (w:World) (hrow:bK0 w tb tof rs) (hwf:hU0 rs) (hne:0<rs.length) (hlen:rs.length≤60) (hno:(newE rs st dy pr ti mo).1≠0) (hn:n≤150) (hg:ErrT w):
  Calls Tryz.prog 3 #[.agg #[.slice (some ⟨tb,tof,none⟩) rs.length tc,.int .i64 st,.int .i64 dy,.int .i64 pr,.int .i64 ti,.int .i64 mo],.slice la n cap] w fun e w'=>e=.returned (.bool true)∧Below w.heap.size w w':=by
 have HG:Hid (ErrT w):=hg;have HR:Hid (bK0 w tb tof rs):=hrow;have HW:Hid (hU0 rs):=hwf;have HNO:Hid ((newE rs st dy pr ti mo).1≠0):=hno;have k1:decide ((rs.length:Int)>60)=false:=decide_eq_false (by omega);clear hrow hwf hno;have k2:decide ((n:Int)>150)=false:=decide_eq_false (by omega);clear hg;go_enter Tryz.func3,Tryz.ntmps3;go_upto_region 1 with fail;have hx0:=heap_alloc_new w (.cells #[.slice (some ⟨tb,tof,none⟩) rs.length tc,.int .i64 st,.int .i64 dy,.int .i64 pr,.int .i64 ti,.int .i64 mo] 24);have hb0:=bel1 w (.cells #[.slice (some ⟨tb,tof,none⟩) rs.length tc,.int .i64 st,.int .i64 dy,.int .i64 pr,.int .i64 ti,.int .i64 mo] 24);generalize w.alloc (.cells #[.slice (some ⟨tb,tof,none⟩) rs.length tc,.int .i64 st,.int .i64 dy,.int .i64 pr,.int .i64 ti,.int .i64 mo] 24)=w1 at hx0 hb0 ⊢;have HX1:Hid (w1.heap[w.heap.size]? = some (.cells #[.slice (some ⟨tb,tof,none⟩) rs.length tc,.int .i64 st,.int .i64 dy,.int .i64 pr,.int .i64 ti,.int .i64 mo] 24 (0,0))):=hx0;have HB1:Hid (Below w.heap.size w w1):=hb0;have d0:w1.cell? ⟨w.heap.size,0,none⟩=some (.slice (some ⟨tb,tof,none⟩) rs.length tc):=aA0 (j:=0) hx0 rfl;have d1:w1.cell? ⟨w.heap.size,1,none⟩=some (.int .i64 st):=aA0 (j:=1) hx0 rfl;have d2:w1.cell? ⟨w.heap.size,2,none⟩=some (.int .i64 dy):=aA0 (j:=2) hx0 rfl;have d3:w1.cell? ⟨w.heap.size,3,none⟩=some (.int .i64 pr):=aA0 (j:=3) hx0 rfl;have d4:w1.cell? ⟨w.heap.size,4,none⟩=some (.int .i64 ti):=aA0 (j:=4) hx0 rfl;have d5:w1.cell? ⟨w.heap.size,5,none⟩=some (.int .i64 mo):=aA0 (j:=5) hx0 rfl;clear hx0 hb0;go_wp2_with fail;refine (mE1 tb tof tc rs st dy pr ti mo w1 (HR.out.below HB1.out lR7) HW.out hne hlen HNO.out).mono ?_;rintro e w2 ⟨err,rfl,he,hb2⟩;obtain ⟨n1,y1,hy⟩:∃n1 y1,(newE rs st dy pr ti mo)=(n1,y1):=⟨_,_,rfl⟩;have HY:Hid ((newE rs st dy pr ti mo)=(n1,y1)):=hy;have HN1:Hid (n1≠0):=by have:=HNO.out;rw [hy] at this;exact this
 rw [hy] at he;have HER:Hid (kG0 w2 err n1 y1):=he;have HX2:Hid (w2.heap[w.heap.size]? = some (.cells #[.slice (some ⟨tb,tof,none⟩) rs.length tc,.int .i64 st,.int .i64 dy,.int .i64 pr,.int .i64 ti,.int .i64 mo] 24 (0,0))):=aC0 HX1.out hb2 lR7;have HB2:Hid (Below w.heap.size w w2):=aD0 HB1.out hb2;clear hy he hb2 d0 d1 d2 d3 d4 d5;go_upto_region 4 with fail;go_cut [7,8] from 39 to 55 (fun _ u8 wc=>∃fb:Nat,u8=.pointer (some ⟨fb,0,none⟩)∧wc.cell? ⟨fb,0,none⟩=some (.int .i64 n1)∧wc.cell? ⟨fb,1,none⟩=some (.int .i64 y1)∧Below w2.heap.size w2 wc)
 case first=>
  have HSS:Hid (∀V,Below w2.heap.size w2 V→(fun w':World=>w'.cell? ⟨w.heap.size,0,none⟩=some (.slice (some ⟨tb,tof,none⟩) rs.length tc)∧w'.cell? ⟨w.heap.size,1,none⟩=some (.int .i64 st)∧w'.cell? ⟨w.heap.size,2,none⟩=some (.int .i64 dy)∧w'.cell? ⟨w.heap.size,3,none⟩=some (.int .i64 pr)∧w'.cell? ⟨w.heap.size,4,none⟩=some (.int .i64 ti)∧w'.cell? ⟨w.heap.size,5,none⟩=some (.int .i64 mo)) V):=fun V hV=>⟨aA0 (j:=0) (aC0 HX2.out hV lR7) rfl,aA0 (j:=1) (aC0 HX2.out hV lR7) rfl,aA0 (j:=2) (aC0 HX2.out hV lR7) rfl,aA0 (j:=3) (aC0 HX2.out hV lR7) rfl,aA0 (j:=4) (aC0 HX2.out hV lR7) rfl,aA0 (j:=5) (aC0 HX2.out hV lR7) rfl⟩
  refine bX0 (fun _=>fun w':World=>w'.cell? ⟨w.heap.size,0,none⟩=some (.slice (some ⟨tb,tof,none⟩) rs.length tc)∧w'.cell? ⟨w.heap.size,1,none⟩=some (.int .i64 st)∧w'.cell? ⟨w.heap.size,2,none⟩=some (.int .i64 dy)∧w'.cell? ⟨w.heap.size,3,none⟩=some (.int .i64 pr)∧w'.cell? ⟨w.heap.size,4,none⟩=some (.int .i64 ti)∧w'.cell? ⟨w.heap.size,5,none⟩=some (.int .i64 mo)) (fun _ i=>i == 19) (by kernel_rfl) (fun _=>HSS.out _ (Below.refl _ _).drew) (fun hHeld=>?_);have bz:Below w2.heap.size w2 w2.drew:=(Below.refl _ _).drew;generalize w2.drew=wz at bz hHeld ⊢;refine tkM7 0 (i:=0) (v:=?_) rfl (by kernel_rfl) (fun _ _ _ h=>h) (by rfl) ?_ (hHeld 0) ?_;rotate_left
  ·intro w hSw;try simp only [lateS_zero] at hSw
   try dsimp only at hSw
   go_simp;try rfl
  refine tkM7 0 (i:=1) (v:=?_) rfl (by kernel_rfl) (fun _ _ _ h=>h) (by rfl) ?_ (hHeld 0) ?_;rotate_left
  ·intro w hSw;try simp only [lateS_zero] at hSw
   try dsimp only at hSw
   go_simp;try rfl
  refine tkM7 0 (i:=3) (v:=?_) rfl (by kernel_rfl) (fun _ _ _ h=>h) (by rfl) ?_ (hHeld 0) ?_;rotate_left
  ·intro w hSw;try simp only [lateS_zero] at hSw
   try dsimp only at hSw
   go_simp;try rfl
  refine tkM7 0 (i:=4) (v:=?_) rfl (by kernel_rfl) (fun _ _ _ h=>h) (by rfl) ?_ (hHeld 0) ?_;rotate_left
  ·intro w hSw;try simp only [lateS_zero] at hSw
   try dsimp only at hSw
   go_simp;try rfl
  refine tkM7 0 (i:=5) (v:=?_) rfl (by kernel_rfl) (fun _ _ _ h=>h) (by rfl) ?_ (hHeld 0) ?_;rotate_left
  ·intro w hSw;try simp only [lateS_zero] at hSw
   try dsimp only at hSw
   go_simp;try rfl
  refine tkM7 0 (i:=6) (v:=?_) rfl (by kernel_rfl) (fun _ _ _ h=>h) (by rfl) ?_ (hHeld 0) ?_;rotate_left
  ·intro w hSw;try simp only [lateS_zero] at hSw
   try dsimp only at hSw
   go_simp;try rfl
  refine tkM7 0 (i:=7) (v:=?_) rfl (by kernel_rfl) (fun _ _ _ h=>h) (by rfl) ?_ (hHeld 0) ?_;rotate_left
  ·intro w hSw;try simp only [lateS_zero] at hSw
   try dsimp only at hSw
   go_simp;try rfl
  refine tkM7 0 (i:=8) (v:=?_) rfl (by kernel_rfl) (fun _ _ _ h=>h) (by rfl) ?_ (hHeld 0) ?_;rotate_left
  ·intro w hSw;try simp only [lateS_zero] at hSw
   try dsimp only at hSw
   go_simp;try rfl
  refine tkM7 0 (i:=9) (v:=?_) rfl (by kernel_rfl) (fun _ _ _ h=>h) (by rfl) ?_ (hHeld 0) ?_;rotate_left
  ·intro w hSw;try simp only [lateS_zero] at hSw
   try dsimp only at hSw
   go_simp;try rfl
  refine tkM7 0 (i:=10) (v:=?_) rfl (by kernel_rfl) (fun _ _ _ h=>h) (by rfl) ?_ (hHeld 0) ?_;rotate_left
  ·intro w hSw;try simp only [lateS_zero] at hSw
   try dsimp only at hSw
   go_simp;try rfl
  refine tkM7 0 (i:=11) (v:=?_) rfl (by kernel_rfl) (fun _ _ _ h=>h) (by rfl) ?_ (hHeld 0) ?_;rotate_left
  ·intro w hSw;try simp only [lateS_zero] at hSw
   try dsimp only at hSw
   go_simp;try rfl
  refine tkM7 0 (i:=12) (v:=?_) rfl (by kernel_rfl) (fun _ _ _ h=>h) (by rfl) ?_ (hHeld 0) ?_;rotate_left
  ·intro w hSw;try simp only [lateS_zero] at hSw
   try dsimp only at hSw
   go_simp;try rfl
  refine dU0 (i:=2) (j:=17) (by kernel_rfl) rfl rfl (fun K hK=>?_) (fun K hK=>?_)
  ·go_simp;refine (aO1 tb tof tc rs wz (HR.out.below (aD0 HB2.out bz) lR7) hne hlen).mono ?_;rintro e wR ⟨cb,cc,rfl,hcr,hcb,hbR⟩;have bR:Below w2.heap.size w2 wR:=aD0 bz hbR;refine hK.out _ _ (fun _ _ _=>HSS.out _ bR) ?_;clear hK K;refine dU0 (i:=13) (j:=17) (by kernel_rfl) rfl rfl (fun K hK=>?_) (fun K hK=>?_)
   ·go_simp;refine (cU1 cb cc rs st dy pr ti mo wR hcr hne hlen).mono ?_;rintro e wN ⟨ptr,rfl,hbN,_⟩;have bN:Below w2.heap.size w2 wN:=aD0 bR hbN;rw [HY.out];dsimp only;refine hK.out _ _ (fun _ _ _=>HSS.out _ bN) ?_;clear hK K;refine puM7 (i:=14) (v:=?_) rfl (by kernel_rfl) (fun _ _ _ h=>h) (by rfl) ?_ ?_;rotate_left
    ·intro w;go_simp;try rfl
    refine puM7 (i:=15) (v:=?_) rfl (by kernel_rfl) (fun _ _ _ h=>h) (by rfl) ?_ ?_;rotate_left
    ·intro w;go_simp;try rfl
    refine puM7 (i:=16) (v:=?_) rfl (by kernel_rfl) (fun _ _ _ h=>h) (by rfl) ?_ ?_;rotate_left
    ·intro w;go_simp;try rfl
    refine aM0 (i:=17) (by kernel_rfl) rfl (fun K hK=>?_);go_simp;refine hK.out _ _ (fun _ _ _=>HSS.out _ (bN.alloc bN.size _)) ?_;clear hK K;have bF:Below w2.heap.size w2 (wN.alloc (.cells #[.int .i64 0,.int .i64 0] 34)):=bN.alloc bN.size _;have hF:=heap_alloc_new wN (.cells #[.int .i64 0,.int .i64 0] 34);have gF:=bel1 wN (.cells #[.int .i64 0,.int .i64 0] 34);have sF:w2.heap.size≤wN.heap.size:=bN.size;generalize wN.alloc (.cells #[.int .i64 0,.int .i64 0] 34)=wF at bF hF gF ⊢;refine puM7 (i:=18) (v:=?_) rfl (by kernel_rfl) (fun _ _ _ h=>h) (by rfl) ?_ ?_;rotate_left
    ·intro w;go_simp;try rfl
    have z0:wF.cell? ⟨wN.heap.size,0,none⟩=some (.int .i64 0):=aA0 (j:=0) hF rfl;have z1:wF.cell? ⟨wN.heap.size,1,none⟩=some (.int .i64 0):=aA0 (j:=1) hF rfl;have f0:=aB0 (j:=0) hF;have f1:=aB0 (j:=1) hF;have hset:=aK0 (j:=1) (.int .i64 y1) (aK0 (j:=0) (.int .i64 n1) hF);have HFIN:Hid (((wF.setCell ⟨wN.heap.size,0,none⟩ (.int .i64 n1)).setCell ⟨wN.heap.size,1,none⟩ (.int .i64 y1)).cell? ⟨wN.heap.size,0,none⟩=some (.int .i64 n1)∧((wF.setCell ⟨wN.heap.size,0,none⟩ (.int .i64 n1)).setCell ⟨wN.heap.size,1,none⟩ (.int .i64 y1)).cell? ⟨wN.heap.size,1,none⟩=some (.int .i64 y1)∧Below w2.heap.size w2 ((wF.setCell ⟨wN.heap.size,0,none⟩ (.int .i64 n1)).setCell ⟨wN.heap.size,1,none⟩ (.int .i64 y1))):=⟨aA0 (j:=0) hset rfl,aA0 (j:=1) hset rfl,(bF.setCell (p:=⟨wN.heap.size,0,none⟩) sF _).setCell (p:=⟨wN.heap.size,1,none⟩) sF _⟩;clear hset;refine aM0 (i:=19) (by kernel_rfl) rfl (fun K hK=>?_);go_simp;refine hK.out _ _ (fun _ h=>by cases h) ?_;clear hK K;refine bI0 (by kernel_rfl) ?_ _;go_wp2_with fail;go_meet;exact ⟨wN.heap.size,rfl,HFIN.out⟩
   ·go_simp;refine hK.out _ _ (fun _ _ _=>HSS.out _ (bR.alloc bR.size _)) ?_;clear hK K;have bF:Below w2.heap.size w2 (wR.alloc (.cells #[.int .i64 0,.int .i64 0] 34)):=bR.alloc bR.size _;have hF:=heap_alloc_new wR (.cells #[.int .i64 0,.int .i64 0] 34);have gF:=bel1 wR (.cells #[.int .i64 0,.int .i64 0] 34);have sF:w2.heap.size≤wR.heap.size:=bR.size;generalize wR.alloc (.cells #[.int .i64 0,.int .i64 0] 34)=wF at bF hF gF ⊢;refine aM0 (i:=13) (by kernel_rfl) rfl (fun K hK=>?_);go_simp;refine (cU1 cb cc rs st dy pr ti mo wF (hcr.below gF lR7) hne hlen).mono ?_;rintro e wN ⟨ptr,rfl,hbN,_⟩;have bN:Below w2.heap.size w2 wN:=aD0 bF hbN;rw [HY.out];dsimp only;refine hK.out _ _ (fun _ _ _=>HSS.out _ bN) ?_;clear hK K;refine puM7 (i:=14) (v:=?_) rfl (by kernel_rfl) (fun _ _ _ h=>h) (by rfl) ?_ ?_;rotate_left
    ·intro w;go_simp;try rfl
    refine puM7 (i:=15) (v:=?_) rfl (by kernel_rfl) (fun _ _ _ h=>h) (by rfl) ?_ ?_;rotate_left
    ·intro w;go_simp;try rfl
    refine puM7 (i:=16) (v:=?_) rfl (by kernel_rfl) (fun _ _ _ h=>h) (by rfl) ?_ ?_;rotate_left
    ·intro w;go_simp;try rfl
    refine puM7 (i:=18) (v:=?_) rfl (by kernel_rfl) (fun _ _ _ h=>h) (by rfl) ?_ ?_;rotate_left
    ·intro w;go_simp;try rfl
    have z0:wN.cell? ⟨wR.heap.size,0,none⟩=some (.int .i64 0):=aA0 (j:=0) (aC0 hF hbN lR7) rfl;have z1:wN.cell? ⟨wR.heap.size,1,none⟩=some (.int .i64 0):=aA0 (j:=1) (aC0 hF hbN lR7) rfl;have f0:=aB0 (j:=0) (aC0 hF hbN lR7);have f1:=aB0 (j:=1) (aC0 hF hbN lR7);have hset:=aK0 (j:=1) (.int .i64 y1) (aK0 (j:=0) (.int .i64 n1) (aC0 hF hbN lR7));have HFIN:Hid (((wN.setCell ⟨wR.heap.size,0,none⟩ (.int .i64 n1)).setCell ⟨wR.heap.size,1,none⟩ (.int .i64 y1)).cell? ⟨wR.heap.size,0,none⟩=some (.int .i64 n1)∧((wN.setCell ⟨wR.heap.size,0,none⟩ (.int .i64 n1)).setCell ⟨wR.heap.size,1,none⟩ (.int .i64 y1)).cell? ⟨wR.heap.size,1,none⟩=some (.int .i64 y1)∧Below w2.heap.size w2 ((wN.setCell ⟨wR.heap.size,0,none⟩ (.int .i64 n1)).setCell ⟨wR.heap.size,1,none⟩ (.int .i64 y1))):=⟨aA0 (j:=0) hset rfl,aA0 (j:=1) hset rfl,(bN.setCell (p:=⟨wR.heap.size,0,none⟩) sF _).setCell (p:=⟨wR.heap.size,1,none⟩) sF _⟩;clear hset;refine aM0 (i:=19) (by kernel_rfl) rfl (fun K hK=>?_);go_simp;refine hK.out _ _ (fun _ h=>by cases h) ?_;clear hK K;refine bI0 (by kernel_rfl) ?_ _;go_wp2_with fail;go_meet;exact ⟨wR.heap.size,rfl,HFIN.out⟩
  ·go_simp;refine hK.out _ _ (fun _ _ _=>HSS.out _ (bz.alloc bz.size _)) ?_;clear hK K;have bF:Below w2.heap.size w2 (wz.alloc (.cells #[.int .i64 0,.int .i64 0] 34)):=bz.alloc bz.size _;have hF:=heap_alloc_new wz (.cells #[.int .i64 0,.int .i64 0] 34);have gF:=bel1 wz (.cells #[.int .i64 0,.int .i64 0] 34);have sF:w2.heap.size≤wz.heap.size:=bz.size;generalize wz.alloc (.cells #[.int .i64 0,.int .i64 0] 34)=wF at bF hF gF ⊢;refine aM0 (i:=2) (by kernel_rfl) rfl (fun K hK=>?_);go_simp;refine (aO1 tb tof tc rs wF (HR.out.below (aD0 HB2.out bF) lR7) hne hlen).mono ?_;rintro e wR ⟨cb,cc,rfl,hcr,hcb,hbR⟩;have bR:Below w2.heap.size w2 wR:=aD0 bF hbR;refine hK.out _ _ (fun _ _ _=>HSS.out _ bR) ?_;clear hK K;refine aM0 (i:=13) (by kernel_rfl) rfl (fun K hK=>?_);go_simp;refine (cU1 cb cc rs st dy pr ti mo wR hcr hne hlen).mono ?_;rintro e wN ⟨ptr,rfl,hbN,_⟩;have bN:Below w2.heap.size w2 wN:=aD0 bR hbN;rw [HY.out];dsimp only;refine hK.out _ _ (fun _ _ _=>HSS.out _ bN) ?_;clear hK K;refine puM7 (i:=14) (v:=?_) rfl (by kernel_rfl) (fun _ _ _ h=>h) (by rfl) ?_ ?_;rotate_left
   ·intro w;go_simp;try rfl
   refine puM7 (i:=15) (v:=?_) rfl (by kernel_rfl) (fun _ _ _ h=>h) (by rfl) ?_ ?_;rotate_left
   ·intro w;go_simp;try rfl
   refine puM7 (i:=16) (v:=?_) rfl (by kernel_rfl) (fun _ _ _ h=>h) (by rfl) ?_ ?_;rotate_left
   ·intro w;go_simp;try rfl
   refine puM7 (i:=18) (v:=?_) rfl (by kernel_rfl) (fun _ _ _ h=>h) (by rfl) ?_ ?_;rotate_left
   ·intro w;go_simp;try rfl
   have z0:wN.cell? ⟨wz.heap.size,0,none⟩=some (.int .i64 0):=aA0 (j:=0) (aC0 (aC0 hF hbR lR7) hbN lR7) rfl;have z1:wN.cell? ⟨wz.heap.size,1,none⟩=some (.int .i64 0):=aA0 (j:=1) (aC0 (aC0 hF hbR lR7) hbN lR7) rfl;have f0:=aB0 (j:=0) (aC0 (aC0 hF hbR lR7) hbN lR7);have f1:=aB0 (j:=1) (aC0 (aC0 hF hbR lR7) hbN lR7);have hset:=aK0 (j:=1) (.int .i64 y1) (aK0 (j:=0) (.int .i64 n1) (aC0 (aC0 hF hbR lR7) hbN lR7));have HFIN:Hid (((wN.setCell ⟨wz.heap.size,0,none⟩ (.int .i64 n1)).setCell ⟨wz.heap.size,1,none⟩ (.int .i64 y1)).cell? ⟨wz.heap.size,0,none⟩=some (.int .i64 n1)∧((wN.setCell ⟨wz.heap.size,0,none⟩ (.int .i64 n1)).setCell ⟨wz.heap.size,1,none⟩ (.int .i64 y1)).cell? ⟨wz.heap.size,1,none⟩=some (.int .i64 y1)∧Below w2.heap.size w2 ((wN.setCell ⟨wz.heap.size,0,none⟩ (.int .i64 n1)).setCell ⟨wz.heap.size,1,none⟩ (.int .i64 y1))):=⟨aA0 (j:=0) hset rfl,aA0 (j:=1) hset rfl,(bN.setCell (p:=⟨wz.heap.size,0,none⟩) sF _).setCell (p:=⟨wz.heap.size,1,none⟩) sF _⟩;clear hset;refine aM0 (i:=19) (by kernel_rfl) rfl (fun K hK=>?_);go_simp;refine hK.out _ _ (fun _ h=>by cases h) ?_;clear hK K;refine bI0 (by kernel_rfl) ?_ _;go_wp2_with fail;go_meet;exact ⟨wz.heap.size,rfl,HFIN.out⟩
 case rest=>
  obtain ⟨fb,rfl,q0,q1,hbc⟩:=hcut;have n0:(n1 != 0)=true:=bne_iff_ne.2 HN1.out;have HBC:Hid (Below w2.heap.size w2 wc):=hbc;clear hbc;go_wp2_with fail;refine (eO1 err n1 y1 wc (HG.out.below (aD0 HB2.out HBC.out)) (HER.out.below HBC.out)).mono ?_;rintro e w9 ⟨rfl,hb9⟩;have HB9:Hid (Below w.heap.size w w9):=aD0 (aD0 HB2.out HBC.out) hb9;clear hb9;go_wp2_with fail;go_ret;exact ⟨rfl,HB9.out⟩
set_option maxRecDepth 8000 in
set_option maxHeartbeats 8000000 in
theorem rK0 (ta:Option Addr) (tc:Nat) (st dy pr ti mo:Int) (la:Option Addr) (n cap:Nat) (w:World) (hn:n≤150) (hg:ErrT w):
  Calls Tryz.prog 3 #[.agg #[.slice ta 0 tc,.int .i64 st,.int .i64 dy,.int .i64 pr,.int .i64 ti,.int .i64 mo],.slice la n cap] w fun e w'=>e=.returned (.bool true)∧Below w.heap.size w w':=by
 have HG:Hid (ErrT w):=hg
 have HNO:Hid ((newE [] st dy pr ti mo).1≠0):=by
  show _≠_;have e:(newE [] st dy pr ti mo)=(8,-1):=by unfold newE;rw [if_pos (show (tabE []).1≠0 by decide)];rfl
  rw [e];decide
 have k2:decide ((n:Int)>150)=false:=decide_eq_false (by omega);clear hg;go_enter Tryz.func3,Tryz.ntmps3;go_upto_region 1 with fail;have hx0:=heap_alloc_new w (.cells #[.slice ta 0 tc,.int .i64 st,.int .i64 dy,.int .i64 pr,.int .i64 ti,.int .i64 mo] 24);have hb0:=bel1 w (.cells #[.slice ta 0 tc,.int .i64 st,.int .i64 dy,.int .i64 pr,.int .i64 ti,.int .i64 mo] 24);generalize w.alloc (.cells #[.slice ta 0 tc,.int .i64 st,.int .i64 dy,.int .i64 pr,.int .i64 ti,.int .i64 mo] 24)=w1 at hx0 hb0 ⊢;have HX1:Hid (w1.heap[w.heap.size]? = some (.cells #[.slice ta 0 tc,.int .i64 st,.int .i64 dy,.int .i64 pr,.int .i64 ti,.int .i64 mo] 24 (0,0))):=hx0;have HB1:Hid (Below w.heap.size w w1):=hb0;have d0:w1.cell? ⟨w.heap.size,0,none⟩=some (.slice ta 0 tc):=aA0 (j:=0) hx0 rfl;have d1:w1.cell? ⟨w.heap.size,1,none⟩=some (.int .i64 st):=aA0 (j:=1) hx0 rfl;have d2:w1.cell? ⟨w.heap.size,2,none⟩=some (.int .i64 dy):=aA0 (j:=2) hx0 rfl;have d3:w1.cell? ⟨w.heap.size,3,none⟩=some (.int .i64 pr):=aA0 (j:=3) hx0 rfl;have d4:w1.cell? ⟨w.heap.size,4,none⟩=some (.int .i64 ti):=aA0 (j:=4) hx0 rfl;have d5:w1.cell? ⟨w.heap.size,5,none⟩=some (.int .i64 mo):=aA0 (j:=5) hx0 rfl;clear hx0 hb0;go_wp2_with fail;refine (cT1 ta tc st dy pr ti mo w1).mono ?_;rintro e w2 ⟨err,rfl,he,hb2⟩;obtain ⟨n1,y1,hy⟩:∃n1 y1,(newE [] st dy pr ti mo)=(n1,y1):=⟨_,_,rfl⟩;have HY:Hid ((newE [] st dy pr ti mo)=(n1,y1)):=hy;have HN1:Hid (n1≠0):=by have:=HNO.out;rw [hy] at this;exact this
 rw [hy] at he;have HER:Hid (kG0 w2 err n1 y1):=he;have HX2:Hid (w2.heap[w.heap.size]? = some (.cells #[.slice ta 0 tc,.int .i64 st,.int .i64 dy,.int .i64 pr,.int .i64 ti,.int .i64 mo] 24 (0,0))):=aC0 HX1.out hb2 lR7;have HB2:Hid (Below w.heap.size w w2):=aD0 HB1.out hb2;clear hy he hb2 d0 d1 d2 d3 d4 d5;go_upto_region 4 with fail;go_cut [7,8] from 39 to 55 (fun _ u8 wc=>∃fb:Nat,u8=.pointer (some ⟨fb,0,none⟩)∧wc.cell? ⟨fb,0,none⟩=some (.int .i64 n1)∧wc.cell? ⟨fb,1,none⟩=some (.int .i64 y1)∧Below w2.heap.size w2 wc)
 case first=>
  have HSS:Hid (∀V,Below w2.heap.size w2 V→(fun w':World=>w'.cell? ⟨w.heap.size,0,none⟩=some (.slice ta 0 tc)∧w'.cell? ⟨w.heap.size,1,none⟩=some (.int .i64 st)∧w'.cell? ⟨w.heap.size,2,none⟩=some (.int .i64 dy)∧w'.cell? ⟨w.heap.size,3,none⟩=some (.int .i64 pr)∧w'.cell? ⟨w.heap.size,4,none⟩=some (.int .i64 ti)∧w'.cell? ⟨w.heap.size,5,none⟩=some (.int .i64 mo)) V):=fun V hV=>⟨aA0 (j:=0) (aC0 HX2.out hV lR7) rfl,aA0 (j:=1) (aC0 HX2.out hV lR7) rfl,aA0 (j:=2) (aC0 HX2.out hV lR7) rfl,aA0 (j:=3) (aC0 HX2.out hV lR7) rfl,aA0 (j:=4) (aC0 HX2.out hV lR7) rfl,aA0 (j:=5) (aC0 HX2.out hV lR7) rfl⟩
  refine bX0 (fun _=>fun w':World=>w'.cell? ⟨w.heap.size,0,none⟩=some (.slice ta 0 tc)∧w'.cell? ⟨w.heap.size,1,none⟩=some (.int .i64 st)∧w'.cell? ⟨w.heap.size,2,none⟩=some (.int .i64 dy)∧w'.cell? ⟨w.heap.size,3,none⟩=some (.int .i64 pr)∧w'.cell? ⟨w.heap.size,4,none⟩=some (.int .i64 ti)∧w'.cell? ⟨w.heap.size,5,none⟩=some (.int .i64 mo)) (fun _ i=>i == 19) (by kernel_rfl) (fun _=>HSS.out _ (Below.refl _ _).drew) (fun hHeld=>?_);have bz:Below w2.heap.size w2 w2.drew:=(Below.refl _ _).drew;generalize w2.drew=wz at bz hHeld ⊢;refine tkM7 0 (i:=0) (v:=?_) rfl (by kernel_rfl) (fun _ _ _ h=>h) (by rfl) ?_ (hHeld 0) ?_;rotate_left
  ·intro w hSw;try simp only [lateS_zero] at hSw
   try dsimp only at hSw
   go_simp;try rfl
  refine tkM7 0 (i:=1) (v:=?_) rfl (by kernel_rfl) (fun _ _ _ h=>h) (by rfl) ?_ (hHeld 0) ?_;rotate_left
  ·intro w hSw;try simp only [lateS_zero] at hSw
   try dsimp only at hSw
   go_simp;try rfl
  refine tkM7 0 (i:=3) (v:=?_) rfl (by kernel_rfl) (fun _ _ _ h=>h) (by rfl) ?_ (hHeld 0) ?_;rotate_left
  ·intro w hSw;try simp only [lateS_zero] at hSw
   try dsimp only at hSw
   go_simp;try rfl
  refine tkM7 0 (i:=4) (v:=?_) rfl (by kernel_rfl) (fun _ _ _ h=>h) (by rfl) ?_ (hHeld 0) ?_;rotate_left
  ·intro w hSw;try simp only [lateS_zero] at hSw
   try dsimp only at hSw
   go_simp;try rfl
  refine tkM7 0 (i:=5) (v:=?_) rfl (by kernel_rfl) (fun _ _ _ h=>h) (by rfl) ?_ (hHeld 0) ?_;rotate_left
  ·intro w hSw;try simp only [lateS_zero] at hSw
   try dsimp only at hSw
   go_simp;try rfl
  refine tkM7 0 (i:=6) (v:=?_) rfl (by kernel_rfl) (fun _ _ _ h=>h) (by rfl) ?_ (hHeld 0) ?_;rotate_left
  ·intro w hSw;try simp only [lateS_zero] at hSw
   try dsimp only at hSw
   go_simp;try rfl
  refine tkM7 0 (i:=7) (v:=?_) rfl (by kernel_rfl) (fun _ _ _ h=>h) (by rfl) ?_ (hHeld 0) ?_;rotate_left
  ·intro w hSw;try simp only [lateS_zero] at hSw
   try dsimp only at hSw
   go_simp;try rfl
  refine tkM7 0 (i:=8) (v:=?_) rfl (by kernel_rfl) (fun _ _ _ h=>h) (by rfl) ?_ (hHeld 0) ?_;rotate_left
  ·intro w hSw;try simp only [lateS_zero] at hSw
   try dsimp only at hSw
   go_simp;try rfl
  refine tkM7 0 (i:=9) (v:=?_) rfl (by kernel_rfl) (fun _ _ _ h=>h) (by rfl) ?_ (hHeld 0) ?_;rotate_left
  ·intro w hSw;try simp only [lateS_zero] at hSw
   try dsimp only at hSw
   go_simp;try rfl
  refine tkM7 0 (i:=10) (v:=?_) rfl (by kernel_rfl) (fun _ _ _ h=>h) (by rfl) ?_ (hHeld 0) ?_;rotate_left
  ·intro w hSw;try simp only [lateS_zero] at hSw
   try dsimp only at hSw
   go_simp;try rfl
  refine tkM7 0 (i:=11) (v:=?_) rfl (by kernel_rfl) (fun _ _ _ h=>h) (by rfl) ?_ (hHeld 0) ?_;rotate_left
  ·intro w hSw;try simp only [lateS_zero] at hSw
   try dsimp only at hSw
   go_simp;try rfl
  refine tkM7 0 (i:=12) (v:=?_) rfl (by kernel_rfl) (fun _ _ _ h=>h) (by rfl) ?_ (hHeld 0) ?_;rotate_left
  ·intro w hSw;try simp only [lateS_zero] at hSw
   try dsimp only at hSw
   go_simp;try rfl
  refine dU0 (i:=2) (j:=17) (by kernel_rfl) rfl rfl (fun K hK=>?_) (fun K hK=>?_)
  ·go_simp;refine (rJ0 ta tc wz).mono ?_;rintro e wR ⟨rfl,hw⟩;have HWR:Hid (wR=wz):=hw;clear hw;have bR:Below w2.heap.size w2 wR:=by rw [HWR.out];exact bz
   refine hK.out _ _ (fun _ _ _=>HSS.out _ bR) ?_;clear hK K;refine dU0 (i:=13) (j:=17) (by kernel_rfl) rfl rfl (fun K hK=>?_) (fun K hK=>?_)
   ·go_simp;refine (mN0 none 0 st dy pr ti mo wR).mono ?_;rintro e wN ⟨ptr,rfl,hbN,_⟩;have bN:Below w2.heap.size w2 wN:=aD0 bR hbN;rw [HY.out];dsimp only;refine hK.out _ _ (fun _ _ _=>HSS.out _ bN) ?_;clear hK K;refine puM7 (i:=14) (v:=?_) rfl (by kernel_rfl) (fun _ _ _ h=>h) (by rfl) ?_ ?_;rotate_left
    ·intro w;go_simp;try rfl
    refine puM7 (i:=15) (v:=?_) rfl (by kernel_rfl) (fun _ _ _ h=>h) (by rfl) ?_ ?_;rotate_left
    ·intro w;go_simp;try rfl
    refine puM7 (i:=16) (v:=?_) rfl (by kernel_rfl) (fun _ _ _ h=>h) (by rfl) ?_ ?_;rotate_left
    ·intro w;go_simp;try rfl
    refine aM0 (i:=17) (by kernel_rfl) rfl (fun K hK=>?_);go_simp;refine hK.out _ _ (fun _ _ _=>HSS.out _ (bN.alloc bN.size _)) ?_;clear hK K;have bF:Below w2.heap.size w2 (wN.alloc (.cells #[.int .i64 0,.int .i64 0] 34)):=bN.alloc bN.size _;have hF:=heap_alloc_new wN (.cells #[.int .i64 0,.int .i64 0] 34);have gF:=bel1 wN (.cells #[.int .i64 0,.int .i64 0] 34);have sF:w2.heap.size≤wN.heap.size:=bN.size;generalize wN.alloc (.cells #[.int .i64 0,.int .i64 0] 34)=wF at bF hF gF ⊢;refine puM7 (i:=18) (v:=?_) rfl (by kernel_rfl) (fun _ _ _ h=>h) (by rfl) ?_ ?_;rotate_left
    ·intro w;go_simp;try rfl
    have z0:wF.cell? ⟨wN.heap.size,0,none⟩=some (.int .i64 0):=aA0 (j:=0) hF rfl;have z1:wF.cell? ⟨wN.heap.size,1,none⟩=some (.int .i64 0):=aA0 (j:=1) hF rfl;have f0:=aB0 (j:=0) hF;have f1:=aB0 (j:=1) hF;have hset:=aK0 (j:=1) (.int .i64 y1) (aK0 (j:=0) (.int .i64 n1) hF);have HFIN:Hid (((wF.setCell ⟨wN.heap.size,0,none⟩ (.int .i64 n1)).setCell ⟨wN.heap.size,1,none⟩ (.int .i64 y1)).cell? ⟨wN.heap.size,0,none⟩=some (.int .i64 n1)∧((wF.setCell ⟨wN.heap.size,0,none⟩ (.int .i64 n1)).setCell ⟨wN.heap.size,1,none⟩ (.int .i64 y1)).cell? ⟨wN.heap.size,1,none⟩=some (.int .i64 y1)∧Below w2.heap.size w2 ((wF.setCell ⟨wN.heap.size,0,none⟩ (.int .i64 n1)).setCell ⟨wN.heap.size,1,none⟩ (.int .i64 y1))):=⟨aA0 (j:=0) hset rfl,aA0 (j:=1) hset rfl,(bF.setCell (p:=⟨wN.heap.size,0,none⟩) sF _).setCell (p:=⟨wN.heap.size,1,none⟩) sF _⟩;clear hset;refine aM0 (i:=19) (by kernel_rfl) rfl (fun K hK=>?_);go_simp;refine hK.out _ _ (fun _ h=>by cases h) ?_;clear hK K;refine bI0 (by kernel_rfl) ?_ _;go_wp2_with fail;go_meet;exact ⟨wN.heap.size,rfl,HFIN.out⟩
   ·go_simp;refine hK.out _ _ (fun _ _ _=>HSS.out _ (bR.alloc bR.size _)) ?_;clear hK K;have bF:Below w2.heap.size w2 (wR.alloc (.cells #[.int .i64 0,.int .i64 0] 34)):=bR.alloc bR.size _;have hF:=heap_alloc_new wR (.cells #[.int .i64 0,.int .i64 0] 34);have gF:=bel1 wR (.cells #[.int .i64 0,.int .i64 0] 34);have sF:w2.heap.size≤wR.heap.size:=bR.size;generalize wR.alloc (.cells #[.int .i64 0,.int .i64 0] 34)=wF at bF hF gF ⊢;refine aM0 (i:=13) (by kernel_rfl) rfl (fun K hK=>?_);go_simp;refine (mN0 none 0 st dy pr ti mo wF).mono ?_;rintro e wN ⟨ptr,rfl,hbN,_⟩;have bN:Below w2.heap.size w2 wN:=aD0 bF hbN;rw [HY.out];dsimp only;refine hK.out _ _ (fun _ _ _=>HSS.out _ bN) ?_;clear hK K;refine puM7 (i:=14) (v:=?_) rfl (by kernel_rfl) (fun _ _ _ h=>h) (by rfl) ?_ ?_;rotate_left
    ·intro w;go_simp;try rfl
    refine puM7 (i:=15) (v:=?_) rfl (by kernel_rfl) (fun _ _ _ h=>h) (by rfl) ?_ ?_;rotate_left
    ·intro w;go_simp;try rfl
    refine puM7 (i:=16) (v:=?_) rfl (by kernel_rfl) (fun _ _ _ h=>h) (by rfl) ?_ ?_;rotate_left
    ·intro w;go_simp;try rfl
    refine puM7 (i:=18) (v:=?_) rfl (by kernel_rfl) (fun _ _ _ h=>h) (by rfl) ?_ ?_;rotate_left
    ·intro w;go_simp;try rfl
    have z0:wN.cell? ⟨wR.heap.size,0,none⟩=some (.int .i64 0):=aA0 (j:=0) (aC0 hF hbN lR7) rfl;have z1:wN.cell? ⟨wR.heap.size,1,none⟩=some (.int .i64 0):=aA0 (j:=1) (aC0 hF hbN lR7) rfl;have f0:=aB0 (j:=0) (aC0 hF hbN lR7);have f1:=aB0 (j:=1) (aC0 hF hbN lR7);have hset:=aK0 (j:=1) (.int .i64 y1) (aK0 (j:=0) (.int .i64 n1) (aC0 hF hbN lR7));have HFIN:Hid (((wN.setCell ⟨wR.heap.size,0,none⟩ (.int .i64 n1)).setCell ⟨wR.heap.size,1,none⟩ (.int .i64 y1)).cell? ⟨wR.heap.size,0,none⟩=some (.int .i64 n1)∧((wN.setCell ⟨wR.heap.size,0,none⟩ (.int .i64 n1)).setCell ⟨wR.heap.size,1,none⟩ (.int .i64 y1)).cell? ⟨wR.heap.size,1,none⟩=some (.int .i64 y1)∧Below w2.heap.size w2 ((wN.setCell ⟨wR.heap.size,0,none⟩ (.int .i64 n1)).setCell ⟨wR.heap.size,1,none⟩ (.int .i64 y1))):=⟨aA0 (j:=0) hset rfl,aA0 (j:=1) hset rfl,(bN.setCell (p:=⟨wR.heap.size,0,none⟩) sF _).setCell (p:=⟨wR.heap.size,1,none⟩) sF _⟩;clear hset;refine aM0 (i:=19) (by kernel_rfl) rfl (fun K hK=>?_);go_simp;refine hK.out _ _ (fun _ h=>by cases h) ?_;clear hK K;refine bI0 (by kernel_rfl) ?_ _;go_wp2_with fail;go_meet;exact ⟨wR.heap.size,rfl,HFIN.out⟩
  ·go_simp;refine hK.out _ _ (fun _ _ _=>HSS.out _ (bz.alloc bz.size _)) ?_;clear hK K;have bF:Below w2.heap.size w2 (wz.alloc (.cells #[.int .i64 0,.int .i64 0] 34)):=bz.alloc bz.size _;have hF:=heap_alloc_new wz (.cells #[.int .i64 0,.int .i64 0] 34);have gF:=bel1 wz (.cells #[.int .i64 0,.int .i64 0] 34);have sF:w2.heap.size≤wz.heap.size:=bz.size;generalize wz.alloc (.cells #[.int .i64 0,.int .i64 0] 34)=wF at bF hF gF ⊢;refine aM0 (i:=2) (by kernel_rfl) rfl (fun K hK=>?_);go_simp;refine (rJ0 ta tc wF).mono ?_;rintro e wR ⟨rfl,hw⟩;have HWR:Hid (wR=wF):=hw;clear hw;have bR:Below w2.heap.size w2 wR:=by rw [HWR.out];exact bF
   refine hK.out _ _ (fun _ _ _=>HSS.out _ bR) ?_;clear hK K;refine aM0 (i:=13) (by kernel_rfl) rfl (fun K hK=>?_);go_simp;refine (mN0 none 0 st dy pr ti mo wR).mono ?_;rintro e wN ⟨ptr,rfl,hbN,_⟩;have bN:Below w2.heap.size w2 wN:=aD0 bR hbN;rw [HY.out];dsimp only;refine hK.out _ _ (fun _ _ _=>HSS.out _ bN) ?_;clear hK K;refine puM7 (i:=14) (v:=?_) rfl (by kernel_rfl) (fun _ _ _ h=>h) (by rfl) ?_ ?_;rotate_left
   ·intro w;go_simp;try rfl
   refine puM7 (i:=15) (v:=?_) rfl (by kernel_rfl) (fun _ _ _ h=>h) (by rfl) ?_ ?_;rotate_left
   ·intro w;go_simp;try rfl
   refine puM7 (i:=16) (v:=?_) rfl (by kernel_rfl) (fun _ _ _ h=>h) (by rfl) ?_ ?_;rotate_left
   ·intro w;go_simp;try rfl
   refine puM7 (i:=18) (v:=?_) rfl (by kernel_rfl) (fun _ _ _ h=>h) (by rfl) ?_ ?_;rotate_left
   ·intro w;go_simp;try rfl
   have z0:wN.cell? ⟨wz.heap.size,0,none⟩=some (.int .i64 0):=aA0 (j:=0) (aC0 (by rw [HWR.out];exact hF) hbN lR7) rfl;have z1:wN.cell? ⟨wz.heap.size,1,none⟩=some (.int .i64 0):=aA0 (j:=1) (aC0 (by rw [HWR.out];exact hF) hbN lR7) rfl;have f0:=aB0 (j:=0) (aC0 (by rw [HWR.out];exact hF) hbN lR7);have f1:=aB0 (j:=1) (aC0 (by rw [HWR.out];exact hF) hbN lR7);have hset:=aK0 (j:=1) (.int .i64 y1) (aK0 (j:=0) (.int .i64 n1) (aC0 (by rw [HWR.out];exact hF) hbN lR7));have HFIN:Hid (((wN.setCell ⟨wz.heap.size,0,none⟩ (.int .i64 n1)).setCell ⟨wz.heap.size,1,none⟩ (.int .i64 y1)).cell? ⟨wz.heap.size,0,none⟩=some (.int .i64 n1)∧((wN.setCell ⟨wz.heap.size,0,none⟩ (.int .i64 n1)).setCell ⟨wz.heap.size,1,none⟩ (.int .i64 y1)).cell? ⟨wz.heap.size,1,none⟩=some (.int .i64 y1)∧Below w2.heap.size w2 ((wN.setCell ⟨wz.heap.size,0,none⟩ (.int .i64 n1)).setCell ⟨wz.heap.size,1,none⟩ (.int .i64 y1))):=⟨aA0 (j:=0) hset rfl,aA0 (j:=1) hset rfl,(bN.setCell (p:=⟨wz.heap.size,0,none⟩) sF _).setCell (p:=⟨wz.heap.size,1,none⟩) sF _⟩;clear hset;refine aM0 (i:=19) (by kernel_rfl) rfl (fun K hK=>?_);go_simp;refine hK.out _ _ (fun _ h=>by cases h) ?_;clear hK K;refine bI0 (by kernel_rfl) ?_ _;go_wp2_with fail;go_meet;exact ⟨wz.heap.size,rfl,HFIN.out⟩
 case rest=>
  obtain ⟨fb,rfl,q0,q1,hbc⟩:=hcut;have n0:(n1 != 0)=true:=bne_iff_ne.2 HN1.out;have HBC:Hid (Below w2.heap.size w2 wc):=hbc;clear hbc;go_wp2_with fail;refine (eO1 err n1 y1 wc (HG.out.below (aD0 HB2.out HBC.out)) (HER.out.below HBC.out)).mono ?_;rintro e w9 ⟨rfl,hb9⟩;have HB9:Hid (Below w.heap.size w w9):=aD0 (aD0 HB2.out HBC.out) hb9;clear hb9;go_wp2_with fail;go_ret;exact ⟨rfl,HB9.out⟩
end Go.Proofs.YtjdkagafdnchhaaGreatDoor
namespace Go.Proofs.YtjdkagafdnchhaaGreatDoor
open Go.ChangeShapes Go.WideShapes Go.ChangeAt Go.RowKit
theorem mK1 {rs:List (Int×Int)} {j:Nat} {u:Value} (h:(flat rs)[j]? = some u):∃i,i<rs.length∧((j=i*2∧u=.int .i64 (bF0 rs i).1)∨(j=i*2+1∧u=.int .i64 (bF0 rs i).2)):=by
 have hj:j<(flat rs).length:=(List.getElem?_eq_some_iff.1 h).1;rw [oN0] at hj;refine ⟨j / 2,by omega,?_⟩;obtain ⟨h1,h2⟩:=wR0 rs (j / 2) (by omega);rcases Nat.mod_two_eq_zero_or_one j with hm | hm
 ·have:j=j / 2*2:=by omega
  rw [←this,h] at h1;exact Or.inl ⟨this,Option.some.inj h1⟩
 ·have:j=j / 2*2+1:=by omega
  rw [←this,h] at h2;exact Or.inr ⟨this,Option.some.inj h2⟩
theorem Tryz.cellsInt:Tryz.prog.cellsOf 3=1:=by kernel_rfl
theorem Tryz.cellsRow:Tryz.prog.cellsOf 82=2:=by kernel_rfl
theorem iM1 {H:Type} {enc:TypeId×Value→H} {W:World} {a0:Option Addr} {len cap:Nat} {d:DataW H} {ps:List MemPlace} (h:DataW.Trod enc Tryz.prog W 0 (fun _=>true) true 22 (.slice a0 len cap) d ps):
  len=0∨∃(b off:Nat) (rs:List (Int×Int)),a0=some ⟨b,off,none⟩∧rs.length=len∧bK0 W b off rs∧hU0 rs:=by
 obtain ⟨fuel,hf⟩:=h;rcases Deep.open_slice_pairs Tryz.underlying22 Tryz.underlying82 Tryz.cellsRow rfl rfl Tryz.cellsInt Tryz.cellsInt hf with ⟨hcs,_⟩ | ⟨a,len',cap',m,n,V0,V1,D0,D1,P0,P1,hcs,_,hl,hm,hmm,_,hi⟩
 ·simp [Value.cells] at hcs;exact Or.inl hcs.2.1
 simp [Value.cells] at hcs;obtain ⟨rfl,rfl,rfl⟩:=hcs;simp only [if_true] at hmm;subst hmm
 by_cases h0:len=0
 ·exact Or.inl h0
 right;obtain ⟨b,off,spot⟩:=a;have hspot:spot=none:=by simpa [Addr.add] using World.cell?_spot (hi 0 (by omega)).1
 subst hspot
 have each:∀i,i<len→∃x y:Int,V0 i=.int .i64 x∧V1 i=.int .i64 y∧(Lit.int .i64 x).wf=true∧(Lit.int .i64 y).wf=true:=by
  intro i hil;obtain ⟨_,_,t0,t1⟩:=hi i (by omega);obtain ⟨x,e1,_,w1⟩:=DataW.trod_int Tryz.underlying3 t0;obtain ⟨y,e2,_,w2⟩:=DataW.trod_int Tryz.underlying3 t1;exact ⟨x,y,by simpa using e1,by simpa using e2,w1,w2⟩
 let rs:List (Int×Int):=(List.range len).map fun i=>(intOf (V0 i),intOf (V1 i))
 have hlen:rs.length=len:=by simp [rs]
 have hrow:∀i,i<len→bF0 rs i=(intOf (V0 i),intOf (V1 i)):=fun i hil=>by simp [rs,bF0,hil]
 refine ⟨b,off,rs,rfl,hlen,fun j u hj=>?_,fun i hil=>?_⟩
 ·obtain ⟨i,hil,hh⟩:=mK1 hj;rw [hlen] at hil;obtain ⟨x,y,e1,e2,_,_⟩:=each i hil;obtain ⟨c0,c1,_,_⟩:=hi i (by omega);rw [add_plain] at c0 c1;rw [hrow i hil] at hh;rcases hh with ⟨rfl,rfl⟩ | ⟨rfl,rfl⟩
  ·rw [c0,e1];rfl
  ·rw [c1,e2];rfl
 ·rw [hlen] at hil;obtain ⟨x,y,e1,e2,w1,w2⟩:=each i hil;rw [hrow i hil,e1,e2];exact ⟨w1,w2⟩
end Go.Proofs.YtjdkagafdnchhaaGreatDoor
namespace Go.Proofs.YtjdkagafdnchhaaGreatDoor
open Go.ChangeShapes Go.WideShapes Go.ChangeAt Go.RowKit Go.Deep
theorem Tryz.cellsInt1:Tryz.prog.cellsOf 3=1:=by kernel_rfl
theorem Tryz.cellsOrd5:Tryz.prog.cellsOf 41=5:=by kernel_rfl
theorem Tryz.cellsStep:Tryz.prog.cellsOf 43=6:=by kernel_rfl
theorem iN0 {H:Type} {enc:TypeId×Value→H} {W:World} {fuel k:Nat} {cs:List Value} {y:DataW H×List MemPlace} (hk:k<cs.length) (g:DataW.trod enc Tryz.prog W 0 (fun _=>true) true fuel 3 ((cs.drop k).take (Tryz.prog.cellsOf 3))=some y):∃z,cs[k]? = some (.int .i64 z)∧(Lit.int .i64 z).wf=true:=by
 rw [Tryz.cellsInt1,take1_drop cs k undef hk] at g;obtain ⟨z,e1,_,w1⟩:=DataW.trod_int Tryz.underlying3 g;simp only [List.cons.injEq,and_true] at e1;rw [List.getD_eq_getElem?_getD,List.getElem?_eq_getElem hk,Option.getD_some] at e1;exact ⟨z,by rw [List.getElem?_eq_getElem hk,e1],w1⟩
theorem fM0 {α:Type} {l:List α} {n k:Nat} (h:l.length=n) (hk:k<n):∃y,l[k]? = some y:=⟨l[k]'(by omega),List.getElem?_eq_getElem (by omega)⟩
set_option maxRecDepth 100000 in
theorem iN1 {H:Type} {enc:TypeId×Value→H} {W:World} {a0:Option Addr} {len cap:Nat} {d:DataW H} {ps:List MemPlace} (h:DataW.Trod enc Tryz.prog W 0 (fun _=>true) true 25 (.slice a0 len cap) d ps):
  len=0∨∃(b off:Nat) (X:Nat→Nat→Int),a0=some ⟨b,off,none⟩∧∀i,i<len→∀j,j<6→W.cell? ⟨b,off+i*6+j,none⟩=some (.int .i64 (X i j))∧(Lit.int .i64 (X i j)).wf=true:=by
 obtain ⟨fuel,hf⟩:=h;rcases open_slice Tryz.underlying25 hf with ⟨hcs,_⟩ | ⟨a,len',cap',m,n,D,Pl,hcs,_,hl,_,hmm,_,hi⟩
 ·simp [Value.cells] at hcs;exact Or.inl hcs.2.1
 simp [Value.cells] at hcs;obtain ⟨rfl,rfl,rfl⟩:=hcs;simp only [if_true] at hmm;subst hmm
 by_cases h0:len=0
 ·exact Or.inl h0
 right;obtain ⟨b,off,spot⟩:=a
 have each:∀i,i<len→∃f:Nat→Int,∀j,j<6→W.cell? (((⟨b,off,spot⟩:Addr).add (i*6)).add j)=some (.int .i64 (f j))∧(Lit.int .i64 (f j)).wf=true:=by
  intro i hil;obtain ⟨cs,hc,ht'⟩:=hi i (by omega);obtain ⟨_,hlen,hcell⟩:=World.cells?_some hc;rw [Tryz.cellsStep] at hlen hcell;obtain ⟨xs,n',_,_,_,hxl,hfl⟩:=DataW.trod_struct Tryz.underlying43 ht';have hxl3:xs.length=2:=hxl;obtain ⟨y0,e0⟩:=fM0 hxl3 (k:=0) (by decide);obtain ⟨y1,e1⟩:=fM0 hxl3 (k:=1) (by decide);have g0:=(hfl 0 _ rfl).trans e0;have g1:=(hfl 1 _ rfl).trans e1;have i0:=iN0 (k:=0) (by omega) g0;obtain ⟨xs2,n2,_,_,_,hxl2,hfl2⟩:=DataW.trod_struct Tryz.underlying41 g1;have hl2:((cs.drop 1).take (Tryz.prog.cellsOf 41)).length=5:=by rw [Tryz.cellsOrd5,List.length_take,List.length_drop,hlen];rfl
  have hx5:xs2.length=5:=hxl2
  have inner:∀k,k<5→(∀y,DataW.trod enc Tryz.prog W 0 (fun _=>true) true n2 3 ((((cs.drop 1).take (Tryz.prog.cellsOf 41)).drop k).take (Tryz.prog.cellsOf 3))=some y→∃z,cs[1+k]? = some (.int .i64 z)∧(Lit.int .i64 z).wf=true):=fun k hk y g=>by
   obtain ⟨z,hz,hw⟩:=iN0 (k:=k) (by rw [hl2];exact hk) g;rw [Tryz.cellsOrd5,List.getElem?_take,if_pos hk,List.getElem?_drop] at hz;exact ⟨z,hz,hw⟩
  obtain ⟨z0,u0⟩:=fM0 hx5 (k:=0) (by decide);obtain ⟨z1,u1⟩:=fM0 hx5 (k:=1) (by decide);obtain ⟨z2,u2⟩:=fM0 hx5 (k:=2) (by decide);obtain ⟨z3,u3⟩:=fM0 hx5 (k:=3) (by decide);obtain ⟨z4,u4⟩:=fM0 hx5 (k:=4) (by decide);have j0:=inner 0 (by decide) z0 ((hfl2 0 _ rfl).trans u0);have j1:=inner 1 (by decide) z1 ((hfl2 1 _ rfl).trans u1);have j2:=inner 2 (by decide) z2 ((hfl2 2 _ rfl).trans u2);have j3:=inner 3 (by decide) z3 ((hfl2 3 _ rfl).trans u3);have j4:=inner 4 (by decide) z4 ((hfl2 4 _ rfl).trans u4);refine choose_lt (p:=fun j z=>W.cell? (((⟨b,off,spot⟩:Addr).add (i*6)).add j)=some (.int .i64 z)∧(Lit.int .i64 z).wf=true) fun j hj=>?_
  have all:∃z,cs[j]? = some (.int .i64 z)∧(Lit.int .i64 z).wf=true:=by
   match j,hj with
   | 0,_=>exact i0
   | 1,_=>exact j0
   | 2,_=>exact j1
   | 3,_=>exact j2
   | 4,_=>exact j3
   | 5,_=>exact j4
  obtain ⟨z,hz,hw⟩:=all;exact ⟨z,(hcell j hj).trans hz,hw⟩
 obtain ⟨X,hX⟩:=choose_lt (p:=fun i (f:Nat→Int)=>∀j,j<6→W.cell? (((⟨b,off,spot⟩:Addr).add (i*6)).add j)=some (.int .i64 (f j))∧(Lit.int .i64 (f j)).wf=true) each;have hspot:spot=none:=by simpa [Addr.add] using World.cell?_spot (hX 0 (by omega) 0 (by decide)).1
 subst hspot;refine ⟨b,off,X,rfl,fun i hil j hj=>?_⟩;have:=hX i hil j hj
 rwa [add_plain,add_plain] at this
theorem Tryz.cellsRows:Tryz.prog.cellsOf 22=1:=by kernel_rfl
theorem six {l:List Value} {a b c d e f:Value} (h:l.length=6) (i0:l[0]? = some a) (i1:l[1]? = some b) (i2:l[2]? = some c) (i3:l[3]? = some d) (i4:l[4]? = some e) (i5:l[5]? = some f):l=[a,b,c,d,e,f]:=by
 refine List.ext_getElem? (fun k=>?_)
 match k with
 | 0=>rw [i0];rfl
 | 1=>rw [i1];rfl
 | 2=>rw [i2];rfl
 | 3=>rw [i3];rfl
 | 4=>rw [i4];rfl
 | 5=>rw [i5];rfl
 | k+6=>rw [List.getElem?_eq_none (by omega),List.getElem?_eq_none (by simp)]
theorem yM0 {H:Type} {enc:TypeId×Value→H} {W:World} {cs:Array Value} {d:DataW H} {ps:List MemPlace} (hc:cs.size=6) (h:DataW.Trod enc Tryz.prog W 0 (fun _=>true) true 24 (.agg cs) d ps):
  ∃(a0:Option Addr) (len cap:Nat) (st dy pr ti mo:Int),cs=#[.slice a0 len cap,.int .i64 st,.int .i64 dy,.int .i64 pr,.int .i64 ti,.int .i64 mo]∧∃d0 p0,DataW.Trod enc Tryz.prog W 0 (fun _=>true) true 22 (.slice a0 len cap) d0 p0:=by
 obtain ⟨fuel,hf⟩:=h;obtain ⟨xs2,n2,_,_,_,hxl2,hfl2⟩:=DataW.trod_struct Tryz.underlying24 hf;have hx6:xs2.length=6:=hxl2;obtain ⟨l⟩:=cs;have hl6:l.length=6:=hc;obtain ⟨z0,u0⟩:=fM0 hx6 (k:=0) (by decide);obtain ⟨z1,u1⟩:=fM0 hx6 (k:=1) (by decide);obtain ⟨z2,u2⟩:=fM0 hx6 (k:=2) (by decide);obtain ⟨z3,u3⟩:=fM0 hx6 (k:=3) (by decide);obtain ⟨z4,u4⟩:=fM0 hx6 (k:=4) (by decide);obtain ⟨z5,u5⟩:=fM0 hx6 (k:=5) (by decide);obtain ⟨y1,i1,_⟩:=iN0 (cs:=l) (k:=1) (by omega) ((hfl2 1 _ rfl).trans u1);obtain ⟨y2,i2,_⟩:=iN0 (cs:=l) (k:=2) (by omega) ((hfl2 2 _ rfl).trans u2);obtain ⟨y3,i3,_⟩:=iN0 (cs:=l) (k:=3) (by omega) ((hfl2 3 _ rfl).trans u3);obtain ⟨y4,i4,_⟩:=iN0 (cs:=l) (k:=4) (by omega) ((hfl2 4 _ rfl).trans u4);obtain ⟨y5,i5,_⟩:=iN0 (cs:=l) (k:=5) (by omega) ((hfl2 5 _ rfl).trans u5);have g0:DataW.trod enc Tryz.prog W 0 (fun _=>true) true n2 22 ((l.drop 0).take (Tryz.prog.cellsOf 22))=some z0:=(hfl2 0 _ rfl).trans u0;rw [Tryz.cellsRows,take1_drop l 0 undef (by omega)] at g0;have i0:l[0]? = some (l.getD 0 undef):=by rw [List.getD_eq_getElem?_getD,List.getElem?_eq_getElem (by omega)];rfl
 have hsl:∃a0 len cap,l.getD 0 undef=.slice a0 len cap:=by
  rcases open_slice Tryz.underlying22 g0 with ⟨e,_⟩ | ⟨a,len,cap,m,n,D,Pl,e,_⟩
  ·exact ⟨none,0,0,by injection e⟩
  ·exact ⟨some a,len,cap,by injection e⟩
 obtain ⟨a0,len,cap,e0⟩:=hsl;rw [e0] at g0 i0;refine ⟨a0,len,cap,y1,y2,y3,y4,y5,?_,z0.1,z0.2,n2,g0⟩;rw [six hl6 i0 i1 i2 i3 i4 i5]
end Go.Proofs.YtjdkagafdnchhaaGreatDoor
namespace Go.Proofs.YtjdkagafdnchhaaGreatDoor
open Go.RowKit
theorem Tryz.own:ownKnob Tryz.prog.godebug=none:=by kernel_rfl
theorem Tryz.et:Tryz.prog.globalNamed "errors.errorType" = some 0:=by kernel_rfl
def tB1:String:=match (Rows.laid_errors_errorType:DataW Unit) with | .iface n _=>n | _=>default
theorem Tryz.rt:(Tryz.prog.cutTypes.find? (·.1 == tB1)).map (·.2)=some 249:=by kernel_rfl
theorem Tryz.oneRow:((List.range 322).filter fun t=>Tryz.prog.rowNamed t [101,114,114,111,114])=[28]:=by kernel_rfl
theorem Tryz.size:Tryz.prog.types.size=322:=by kernel_rfl
def aP1:List (String×DataW Unit):=[("errors.errorType",Rows.laid_errors_errorType)]
theorem wB0 {W:World} (h:laidMetH Tryz.prog aP1 W):ErrT W:=by
 have h':laidMet Tryz.prog [] W∧handlesMet Tryz.prog aP1 W:=h;obtain ⟨name,u,ty,e1,e2,e3,e4,e5⟩:=h'.2 _ (List.mem_singleton.2 rfl);have en:name=[101,114,114,111,114]:=(Option.some.inj e1).symm;subst en;obtain rfl:=Option.some.inj (Tryz.rt.symm.trans e2);have hm:ty∈(List.range 322).filter fun t=>Tryz.prog.rowNamed t [101,114,114,111,114]:=List.mem_filter.2 ⟨List.mem_range.2 (by rw [←Tryz.size];exact e3),e4⟩
 rw [Tryz.oneRow] at hm;obtain rfl:=List.mem_singleton.1 hm;have hh:typeHandle Tryz.prog 28=.pointer (some ⟨1,28,none⟩):=by kernel_rfl
 rw [hh] at e5
 simpa [ErrT] using World.var?_cell Tryz.et e5 0
def tF0 (w:World):World:={ w with heap:=w.heap.modify 0 fun
 | .cells _ t frozen=>.cells #[.iface 249 (.agg #[.pointer (some ⟨1,28,none⟩)])] t frozen
 | o=>o }
end Go.Proofs.YtjdkagafdnchhaaGreatDoor
