/- A part of the proof of EnginePlays. -/
import Derived.Test.YtjdkagafdnchhaaGreatDoorPA
import Derived.Test.YtjdkagafdnchhaaGreatDoorPY
import Derived.Test.YtjdkagafdnchhaaGreatDoorPH
import Derived.Test.YtjdkagafdnchhaaGreatDoorPO
import Derived.Test.YtjdkagafdnchhaaGreatDoorPR
import Derived.Test.YtjdkagafdnchhaaGreatDoorPL
import Derived.Test.YtjdkagafdnchhaaGreatDoorPG
namespace Go.Proofs.YtjdkagafdnchhaaGreatDoor
open Go.RowKit
def iG1 (w:World) (b cap:Nat) (rs:List (Int×Int)) (st dy p ti mo:Int) (e:Ending) (w':World):Prop:=
 ∃ptr,e=.returned (.tuple #[ptr,.agg #[.int .i64 (newE rs st dy p ti mo).1,.int .i64 (newE rs st dy p ti mo).2]])∧Below w.heap.size w w'
  ∧((newE rs st dy p ti mo).1=0→∃mb,ptr=.pointer (some ⟨mb,0,none⟩)∧w.heap.size≤mb∧w'.heap[mb]? = some (.cells (mkV (.slice (some ⟨b,0,none⟩) rs.length cap) (newM rs st dy p ti mo) (.slice none 0 0) (.slice none 0 0) (.slice none 0 0)) 67 (0,0)))
theorem yK0 {w w':World} {b cap:Nat} {rs:List (Int×Int)} {st dy p ti mo:Int} {x y:Int} (h:newE rs st dy p ti mo=(x,y)) (hx:x≠0) (hb:Below w.heap.size w w'):iG1 w b cap rs st dy p ti mo (.returned (.tuple #[.pointer none,.agg #[.int .i64 x,.int .i64 y]])) w':=
 ⟨_,by rw [h],hb,fun e=>absurd (by rw [h] at e;exact e) hx⟩
theorem mF1 {rs:List (Int×Int)} (st dy p ti mo:Int) (h:(tabE rs).1≠0):newE rs st dy p ti mo=tabE rs:=by unfold newE;rw [if_pos h]
theorem mG1 {rs:List (Int×Int)} {st dy p ti mo:Int} (h:(tabE rs).1=0):newE rs st dy p ti mo=if (eW0 p 1&& (decide (0≤st)&& decide (st≤10000))&& (decide (0≤dy)&& decide (dy≤10000))&& (decide (1≤ti)&& decide (ti≤1000000))&& (decide (0≤mo)&& decide (mo≤10)))=true then (0,-1) else (2,-1):=by
 unfold newE;rw [if_neg (by rw [h];decide)]
 have e:(jS0 st dy p=true∧kA0 ti mo=true)↔(eW0 p 1&& (decide (0≤st)&& decide (st≤10000))&& (decide (0≤dy)&& decide (dy≤10000))&& (decide (1≤ti)&& decide (ti≤1000000))&& (decide (0≤mo)&& decide (mo≤10)))=true:=by
  unfold jS0 cF0 kA0 inB eW0;simp only [Bool.and_eq_true,decide_eq_true_eq];omega
 by_cases h1:jS0 st dy p=true∧kA0 ti mo=true
 ·rw [if_pos h1,if_pos (e.1 h1)]
 ·rw [if_neg h1,if_neg (fun x=>h1 (e.2 x))]
set_option maxRecDepth 8000 in
set_option maxHeartbeats 4000000 in
theorem cU1 (b cap:Nat) (rs:List (Int×Int)) (st dy p ti mo:Int) (w:World) (h:bK0 w b 0 rs) (hne:0<rs.length) (hlen:rs.length≤60):
  Calls Tryz.prog 6 #[.slice (some ⟨b,0,none⟩) rs.length cap,.int .i64 st,.int .i64 dy,.int .i64 p,.int .i64 ti,.int .i64 mo] w fun e w'=>iG1 w b cap rs st dy p ti mo e w':=by
 have HR:Hid (bK0 w b 0 rs):=h;clear h;go_enter Tryz.func6,Tryz.ntmps6;go_upto_region 1 with fail;have hx1:=heap_alloc_new w (.cells #[.int .i64 0,.int .i64 0] 34);have hb1:=bel1 w (.cells #[.int .i64 0,.int .i64 0] 34);generalize w.alloc (.cells #[.int .i64 0,.int .i64 0] 34)=w1 at hx1 hb1 ⊢;have HX1:Hid (w1.heap[w.heap.size]? = some (.cells #[.int .i64 0,.int .i64 0] 34 (0,0))):=hx1;have HB1:Hid (Below w.heap.size w w1):=hb1;clear hx1 hb1;go_wp2_with fail;refine (mD1 b cap rs w1 (HR.out.below HB1.out lR7) hne hlen).mono ?_;rintro e w2 ⟨rfl,hb2⟩;obtain ⟨t1,t2,ht⟩:∃t1 t2,tabE rs=(t1,t2):=⟨_,_,rfl⟩;rw [ht];have HT:Hid (tabE rs=(t1,t2)):=ht;have HB2:Hid (Below w.heap.size w w2):=aD0 HB1.out hb2;have HX2:Hid (w2.heap[w.heap.size]? = some (.cells #[.int .i64 0,.int .i64 0] 34 (0,0))):=aC0 HX1.out hb2 lR7;clear hb2 ht HB1 HX1;dsimp only;go_upto_region 2 with fail;have hx3:=heap_alloc_new w2 (.cells #[.int .i64 t1,.int .i64 t2] 34);have hb3:=bel1 w2 (.cells #[.int .i64 t1,.int .i64 t2] 34);generalize w2.alloc (.cells #[.int .i64 t1,.int .i64 t2] 34)=w3 at hx3 hb3 ⊢;have HX3:Hid (w3.heap[w.heap.size]? = some (.cells #[.int .i64 0,.int .i64 0] 34 (0,0))):=aC0 HX2.out hb3 lR7;have HB3:Hid (Below w.heap.size w w3):=aD0 HB2.out hb3;have c0:w3.cell? ⟨w2.heap.size,0,none⟩=some (.int .i64 t1):=aA0 (j:=0) hx3 rfl;have c1:w3.cell? ⟨w2.heap.size,1,none⟩=some (.int .i64 t2):=aA0 (j:=1) hx3 rfl;have g0:w3.cell? ⟨w.heap.size,0,none⟩=some (.int .i64 0):=aA0 (j:=0) HX3.out rfl;have g1:w3.cell? ⟨w.heap.size,1,none⟩=some (.int .i64 0):=aA0 (j:=1) HX3.out rfl;have f0:=aB0 (j:=0) HX3.out;have f1:=aB0 (j:=1) HX3.out;clear hb3 hx3
 by_cases h0:t1=0
 ·have n0:(t1 != 0)=false:=by rw [h0];rfl
  have HE:Hid _:=mG1 (rs:=rs) (st:=st) (dy:=dy) (p:=p) (ti:=ti) (mo:=mo) (by rw [HT.out];exact h0);clear h0;go_wp2_with fail;refine (xA0 p 1 w3).mono ?_;rintro e w3x ⟨rfl,hw⟩;rw [hw];clear hw w3x;cases r1:eW0 p 1 with
  | false=>
   have HE2:Hid (newE rs st dy p ti mo=(2,-1)):=by show _=_;rw [HE.out,if_neg (by rw [r1];simp)]
   go_wp2_with fail;refine (fQ0 2 w3).mono ?_;rintro e w4 ⟨rfl,hb4⟩;have hx4:=aC0 HX3.out hb4 lR7;have HB4:Hid (Below w.heap.size w ((w4.setCell ⟨w.heap.size,0,none⟩ (.int .i64 2)).setCell ⟨w.heap.size,1,none⟩ (.int .i64 (-1)))):=((aD0 HB3.out hb4).setCell (p:=⟨w.heap.size,0,none⟩) lR7 _).setCell (p:=⟨w.heap.size,1,none⟩) lR7 _;have hx5:=aK0 (j:=1) (.int .i64 (-1)) (aK0 (j:=0) (.int .i64 2) hx4);have i0:w4.cell? ⟨w.heap.size,0,none⟩=some (.int .i64 0):=aA0 (j:=0) hx4 rfl;have i1:w4.cell? ⟨w.heap.size,1,none⟩=some (.int .i64 0):=aA0 (j:=1) hx4 rfl;have j0:=aB0 (j:=0) hx4;have j1:=aB0 (j:=1) hx4;have q0:((w4.setCell ⟨w.heap.size,0,none⟩ (.int .i64 2)).setCell ⟨w.heap.size,1,none⟩ (.int .i64 (-1))).cell? ⟨w.heap.size,0,none⟩=some (.int .i64 2):=aA0 (j:=0) hx5 rfl;have q1:((w4.setCell ⟨w.heap.size,0,none⟩ (.int .i64 2)).setCell ⟨w.heap.size,1,none⟩ (.int .i64 (-1))).cell? ⟨w.heap.size,1,none⟩=some (.int .i64 (-1)):=aA0 (j:=1) hx5 rfl;clear hb4 hx4 hx5;go_wp2_with fail;refine bodyPost_ret (by simp [results,Tryz.results6,go_sem,q0,q1];try rfl) rfl ?_;exact yK0 HE2.out (by decide) HB4.out
  | true=>
   go_wp2_with fail;refine (bkIn st 0 10000 w3).mono ?_;rintro e w3x ⟨rfl,hw⟩;rw [hw];clear hw w3x;cases r2:(decide (0≤st)&& decide (st≤10000)) with
   | false=>
    have HE2:Hid (newE rs st dy p ti mo=(2,-1)):=by show _=_;rw [HE.out,if_neg (by rw [r1,r2];simp)]
    go_wp2_with fail;refine (fQ0 2 w3).mono ?_;rintro e w4 ⟨rfl,hb4⟩;have hx4:=aC0 HX3.out hb4 lR7;have HB4:Hid (Below w.heap.size w ((w4.setCell ⟨w.heap.size,0,none⟩ (.int .i64 2)).setCell ⟨w.heap.size,1,none⟩ (.int .i64 (-1)))):=((aD0 HB3.out hb4).setCell (p:=⟨w.heap.size,0,none⟩) lR7 _).setCell (p:=⟨w.heap.size,1,none⟩) lR7 _;have hx5:=aK0 (j:=1) (.int .i64 (-1)) (aK0 (j:=0) (.int .i64 2) hx4);have i0:w4.cell? ⟨w.heap.size,0,none⟩=some (.int .i64 0):=aA0 (j:=0) hx4 rfl;have i1:w4.cell? ⟨w.heap.size,1,none⟩=some (.int .i64 0):=aA0 (j:=1) hx4 rfl;have j0:=aB0 (j:=0) hx4;have j1:=aB0 (j:=1) hx4;have q0:((w4.setCell ⟨w.heap.size,0,none⟩ (.int .i64 2)).setCell ⟨w.heap.size,1,none⟩ (.int .i64 (-1))).cell? ⟨w.heap.size,0,none⟩=some (.int .i64 2):=aA0 (j:=0) hx5 rfl;have q1:((w4.setCell ⟨w.heap.size,0,none⟩ (.int .i64 2)).setCell ⟨w.heap.size,1,none⟩ (.int .i64 (-1))).cell? ⟨w.heap.size,1,none⟩=some (.int .i64 (-1)):=aA0 (j:=1) hx5 rfl;clear hb4 hx4 hx5;go_wp2_with fail;refine bodyPost_ret (by simp [results,Tryz.results6,go_sem,q0,q1];try rfl) rfl ?_;exact yK0 HE2.out (by decide) HB4.out
   | true=>
    go_wp2_with fail;refine (bkIn dy 0 10000 w3).mono ?_;rintro e w3x ⟨rfl,hw⟩;rw [hw];clear hw w3x;cases r3:(decide (0≤dy)&& decide (dy≤10000)) with
    | false=>
     have HE2:Hid (newE rs st dy p ti mo=(2,-1)):=by show _=_;rw [HE.out,if_neg (by rw [r1,r2,r3];simp)]
     go_wp2_with fail;refine (fQ0 2 w3).mono ?_;rintro e w4 ⟨rfl,hb4⟩;have hx4:=aC0 HX3.out hb4 lR7;have HB4:Hid (Below w.heap.size w ((w4.setCell ⟨w.heap.size,0,none⟩ (.int .i64 2)).setCell ⟨w.heap.size,1,none⟩ (.int .i64 (-1)))):=((aD0 HB3.out hb4).setCell (p:=⟨w.heap.size,0,none⟩) lR7 _).setCell (p:=⟨w.heap.size,1,none⟩) lR7 _;have hx5:=aK0 (j:=1) (.int .i64 (-1)) (aK0 (j:=0) (.int .i64 2) hx4);have i0:w4.cell? ⟨w.heap.size,0,none⟩=some (.int .i64 0):=aA0 (j:=0) hx4 rfl;have i1:w4.cell? ⟨w.heap.size,1,none⟩=some (.int .i64 0):=aA0 (j:=1) hx4 rfl;have j0:=aB0 (j:=0) hx4;have j1:=aB0 (j:=1) hx4;have q0:((w4.setCell ⟨w.heap.size,0,none⟩ (.int .i64 2)).setCell ⟨w.heap.size,1,none⟩ (.int .i64 (-1))).cell? ⟨w.heap.size,0,none⟩=some (.int .i64 2):=aA0 (j:=0) hx5 rfl;have q1:((w4.setCell ⟨w.heap.size,0,none⟩ (.int .i64 2)).setCell ⟨w.heap.size,1,none⟩ (.int .i64 (-1))).cell? ⟨w.heap.size,1,none⟩=some (.int .i64 (-1)):=aA0 (j:=1) hx5 rfl;clear hb4 hx4 hx5;go_wp2_with fail;refine bodyPost_ret (by simp [results,Tryz.results6,go_sem,q0,q1];try rfl) rfl ?_;exact yK0 HE2.out (by decide) HB4.out
    | true=>
     go_wp2_with fail;refine (bkIn ti 1 1000000 w3).mono ?_;rintro e w3x ⟨rfl,hw⟩;rw [hw];clear hw w3x;cases r4:(decide (1≤ti)&& decide (ti≤1000000)) with
     | false=>
      have HE2:Hid (newE rs st dy p ti mo=(2,-1)):=by show _=_;rw [HE.out,if_neg (by rw [r1,r2,r3,r4];simp)]
      go_wp2_with fail;refine (fQ0 2 w3).mono ?_;rintro e w4 ⟨rfl,hb4⟩;have hx4:=aC0 HX3.out hb4 lR7;have HB4:Hid (Below w.heap.size w ((w4.setCell ⟨w.heap.size,0,none⟩ (.int .i64 2)).setCell ⟨w.heap.size,1,none⟩ (.int .i64 (-1)))):=((aD0 HB3.out hb4).setCell (p:=⟨w.heap.size,0,none⟩) lR7 _).setCell (p:=⟨w.heap.size,1,none⟩) lR7 _;have hx5:=aK0 (j:=1) (.int .i64 (-1)) (aK0 (j:=0) (.int .i64 2) hx4);have i0:w4.cell? ⟨w.heap.size,0,none⟩=some (.int .i64 0):=aA0 (j:=0) hx4 rfl;have i1:w4.cell? ⟨w.heap.size,1,none⟩=some (.int .i64 0):=aA0 (j:=1) hx4 rfl;have j0:=aB0 (j:=0) hx4;have j1:=aB0 (j:=1) hx4;have q0:((w4.setCell ⟨w.heap.size,0,none⟩ (.int .i64 2)).setCell ⟨w.heap.size,1,none⟩ (.int .i64 (-1))).cell? ⟨w.heap.size,0,none⟩=some (.int .i64 2):=aA0 (j:=0) hx5 rfl;have q1:((w4.setCell ⟨w.heap.size,0,none⟩ (.int .i64 2)).setCell ⟨w.heap.size,1,none⟩ (.int .i64 (-1))).cell? ⟨w.heap.size,1,none⟩=some (.int .i64 (-1)):=aA0 (j:=1) hx5 rfl;clear hb4 hx4 hx5;go_wp2_with fail;refine bodyPost_ret (by simp [results,Tryz.results6,go_sem,q0,q1];try rfl) rfl ?_;exact yK0 HE2.out (by decide) HB4.out
     | true=>
      go_wp2_with fail;refine (bkIn mo 0 10 w3).mono ?_;rintro e w3x ⟨rfl,hw⟩;rw [hw];clear hw w3x;cases r5:(decide (0≤mo)&& decide (mo≤10)) with
      | false=>
       have HE2:Hid (newE rs st dy p ti mo=(2,-1)):=by show _=_;rw [HE.out,if_neg (by rw [r1,r2,r3,r4,r5];simp)]
       go_wp2_with fail;refine (fQ0 2 w3).mono ?_;rintro e w4 ⟨rfl,hb4⟩;have hx4:=aC0 HX3.out hb4 lR7;have HB4:Hid (Below w.heap.size w ((w4.setCell ⟨w.heap.size,0,none⟩ (.int .i64 2)).setCell ⟨w.heap.size,1,none⟩ (.int .i64 (-1)))):=((aD0 HB3.out hb4).setCell (p:=⟨w.heap.size,0,none⟩) lR7 _).setCell (p:=⟨w.heap.size,1,none⟩) lR7 _;have hx5:=aK0 (j:=1) (.int .i64 (-1)) (aK0 (j:=0) (.int .i64 2) hx4);have i0:w4.cell? ⟨w.heap.size,0,none⟩=some (.int .i64 0):=aA0 (j:=0) hx4 rfl;have i1:w4.cell? ⟨w.heap.size,1,none⟩=some (.int .i64 0):=aA0 (j:=1) hx4 rfl;have j0:=aB0 (j:=0) hx4;have j1:=aB0 (j:=1) hx4;have q0:((w4.setCell ⟨w.heap.size,0,none⟩ (.int .i64 2)).setCell ⟨w.heap.size,1,none⟩ (.int .i64 (-1))).cell? ⟨w.heap.size,0,none⟩=some (.int .i64 2):=aA0 (j:=0) hx5 rfl;have q1:((w4.setCell ⟨w.heap.size,0,none⟩ (.int .i64 2)).setCell ⟨w.heap.size,1,none⟩ (.int .i64 (-1))).cell? ⟨w.heap.size,1,none⟩=some (.int .i64 (-1)):=aA0 (j:=1) hx5 rfl;clear hb4 hx4 hx5;go_wp2_with fail;refine bodyPost_ret (by simp [results,Tryz.results6,go_sem,q0,q1];try rfl) rfl ?_;exact yK0 HE2.out (by decide) HB4.out
      | true=>
       have HE2:Hid (newE rs st dy p ti mo=(0,-1)):=by show _=_;rw [HE.out,if_pos (by rw [r1,r2,r3,r4,r5];rfl)]
       go_wp2_with fail;have hm:=heap_alloc_new w3 (.cells #[.slice (some ⟨b,0,none⟩) rs.length cap,.int .i64 st,.int .i64 dy,.int .i64 p,.int .i64 p,.int .i64 ti,.int .i64 mo,.slice none 0 0,.slice none 0 0,.slice none 0 0,.int .i64 1,.int .i64 0,.int .i64 0,.int .i64 0] 67);have hbm:=bel1 w3 (.cells #[.slice (some ⟨b,0,none⟩) rs.length cap,.int .i64 st,.int .i64 dy,.int .i64 p,.int .i64 p,.int .i64 ti,.int .i64 mo,.slice none 0 0,.slice none 0 0,.slice none 0 0,.int .i64 1,.int .i64 0,.int .i64 0,.int .i64 0] 67);generalize w3.alloc (.cells #[.slice (some ⟨b,0,none⟩) rs.length cap,.int .i64 st,.int .i64 dy,.int .i64 p,.int .i64 p,.int .i64 ti,.int .i64 mo,.slice none 0 0,.slice none 0 0,.slice none 0 0,.int .i64 1,.int .i64 0,.int .i64 0,.int .i64 0] 67)=w4 at hm hbm ⊢;have HM4:Hid _:=hm;have HB4:Hid (Below w3.heap.size w3 w4):=hbm;clear hm hbm;refine (fQ0 0 w4).mono ?_;rintro e w5 ⟨rfl,hb5⟩;have hx5:=aC0 (aC0 HX3.out HB4.out lR7) hb5 lR7;have hm5:=aC0 HM4.out hb5 lR7;have i0:w5.cell? ⟨w.heap.size,0,none⟩=some (.int .i64 0):=aA0 (j:=0) hx5 rfl;have i1:w5.cell? ⟨w.heap.size,1,none⟩=some (.int .i64 0):=aA0 (j:=1) hx5 rfl;have j0:=aB0 (j:=0) hx5;have j1:=aB0 (j:=1) hx5;have hx6:=aK0 (j:=1) (.int .i64 (-1)) (aK0 (j:=0) (.int .i64 0) hx5);have q0:((w5.setCell ⟨w.heap.size,0,none⟩ (.int .i64 0)).setCell ⟨w.heap.size,1,none⟩ (.int .i64 (-1))).cell? ⟨w.heap.size,0,none⟩=some (.int .i64 0):=aA0 (j:=0) hx6 rfl;have q1:((w5.setCell ⟨w.heap.size,0,none⟩ (.int .i64 0)).setCell ⟨w.heap.size,1,none⟩ (.int .i64 (-1))).cell? ⟨w.heap.size,1,none⟩=some (.int .i64 (-1)):=aA0 (j:=1) hx6 rfl;have HB6:Hid (Below w.heap.size w ((w5.setCell ⟨w.heap.size,0,none⟩ (.int .i64 0)).setCell ⟨w.heap.size,1,none⟩ (.int .i64 (-1)))):=((aD0 HB3.out (aD0 HB4.out hb5)).setCell (p:=⟨w.heap.size,0,none⟩) lR7 _).setCell (p:=⟨w.heap.size,1,none⟩) lR7 _
       have HM6:Hid (((w5.setCell ⟨w.heap.size,0,none⟩ (.int .i64 0)).setCell ⟨w.heap.size,1,none⟩ (.int .i64 (-1))).heap[w3.heap.size]? = some (.cells (mkV (.slice (some ⟨b,0,none⟩) rs.length cap) (newM rs st dy p ti mo) (.slice none 0 0) (.slice none 0 0) (.slice none 0 0)) 67 (0,0))):=by
        have hlt:w.heap.size<w3.heap.size:=lt_of_block HX3.out;exact aE0 (aE0 hm5 (aQ0 w5 ⟨w.heap.size,0,none⟩ (.int .i64 0)) (fun e=>by have e':w3.heap.size=w.heap.size:=e;omega)) (aQ0 _ ⟨w.heap.size,1,none⟩ (.int .i64 (-1))) (fun e=>by have e':w3.heap.size=w.heap.size:=e;omega)
       clear hb5 hx5 hx6 hm5;go_wp2_with fail;refine bodyPost_ret (by simp [results,Tryz.results6,go_sem,q0,q1];try rfl) rfl ?_;exact ⟨_,by rw [HE2.out],HB6.out,fun _=>⟨w3.heap.size,rfl,HB3.out.size,HM6.out⟩⟩
 ·have n0:(t1 != 0)=true:=by simpa using h0
  have HE:Hid (newE rs st dy p ti mo=(t1,t2)):=by show _=_;rw [mF1 st dy p ti mo (by rw [HT.out];exact h0),HT.out]
  have HNE:Hid (t1≠0):=h0;clear h0;go_upto_region 3 with fail;go_region;have hx5:=aC0 (aK0 (j:=1) (.int .i64 t2) (aK0 (j:=0) (.int .i64 t1) HX3.out)) (Below.refl _ _).drew lR7;have HB5:Hid (Below w.heap.size w ((w3.setCell ⟨w.heap.size,0,none⟩ (.int .i64 t1)).setCell ⟨w.heap.size,1,none⟩ (.int .i64 t2)).drew):=((HB3.out.setCell (p:=⟨w.heap.size,0,none⟩) lR7 _).setCell (p:=⟨w.heap.size,1,none⟩) lR7 _).drew;generalize ((w3.setCell ⟨w.heap.size,0,none⟩ (.int .i64 t1)).setCell ⟨w.heap.size,1,none⟩ (.int .i64 t2)).drew=w5 at hx5 HB5 ⊢;have q0:w5.cell? ⟨w.heap.size,0,none⟩=some (.int .i64 t1):=aA0 (j:=0) hx5 rfl;have q1:w5.cell? ⟨w.heap.size,1,none⟩=some (.int .i64 t2):=aA0 (j:=1) hx5 rfl;clear c0 c1 g0 g1 f0 f1 hx5;go_wp2_with fail;refine bodyPost_ret (by simp [results,Tryz.results6,go_sem,q0,q1];try rfl) rfl ?_;exact yK0 HE.out HNE.out HB5.out
set_option maxRecDepth 8000 in
set_option maxHeartbeats 4000000 in
theorem mN0 (a:Option Addr) (cap:Nat) (st dy p ti mo:Int) (w:World):
  Calls Tryz.prog 6 #[.slice a 0 cap,.int .i64 st,.int .i64 dy,.int .i64 p,.int .i64 ti,.int .i64 mo] w fun e w'=>iG1 w 0 0 [] st dy p ti mo e w':=by
 go_enter Tryz.func6,Tryz.ntmps6;go_upto_region 1 with fail;have hx1:=heap_alloc_new w (.cells #[.int .i64 0,.int .i64 0] 34);have hb1:=bel1 w (.cells #[.int .i64 0,.int .i64 0] 34);generalize w.alloc (.cells #[.int .i64 0,.int .i64 0] 34)=w1 at hx1 hb1 ⊢;have HX1:Hid (w1.heap[w.heap.size]? = some (.cells #[.int .i64 0,.int .i64 0] 34 (0,0))):=hx1;have HB1:Hid (Below w.heap.size w w1):=hb1;clear hx1 hb1;go_wp2_with fail;refine (qE0 a cap w1).mono ?_;rintro e w2 ⟨rfl,hb2⟩;have HB2:Hid (Below w.heap.size w w2):=aD0 HB1.out hb2;have HX2:Hid (w2.heap[w.heap.size]? = some (.cells #[.int .i64 0,.int .i64 0] 34 (0,0))):=aC0 HX1.out hb2 lR7;clear hb2 HB1 HX1;go_upto_region 2 with fail;have hx3:=heap_alloc_new w2 (.cells #[.int .i64 8,.int .i64 (-1)] 34);have hb3:=bel1 w2 (.cells #[.int .i64 8,.int .i64 (-1)] 34);generalize w2.alloc (.cells #[.int .i64 8,.int .i64 (-1)] 34)=w3 at hx3 hb3 ⊢;have HX3:Hid (w3.heap[w.heap.size]? = some (.cells #[.int .i64 0,.int .i64 0] 34 (0,0))):=aC0 HX2.out hb3 lR7;have HB3:Hid (Below w.heap.size w w3):=aD0 HB2.out hb3;have c0:w3.cell? ⟨w2.heap.size,0,none⟩=some (.int .i64 8):=aA0 (j:=0) hx3 rfl;have c1:w3.cell? ⟨w2.heap.size,1,none⟩=some (.int .i64 (-1)):=aA0 (j:=1) hx3 rfl;have g0:w3.cell? ⟨w.heap.size,0,none⟩=some (.int .i64 0):=aA0 (j:=0) HX3.out rfl;have g1:w3.cell? ⟨w.heap.size,1,none⟩=some (.int .i64 0):=aA0 (j:=1) HX3.out rfl;have f0:=aB0 (j:=0) HX3.out;have f1:=aB0 (j:=1) HX3.out;clear hb3 hx3;go_upto_region 3 with fail;go_region;have hx5:=aC0 (aK0 (j:=1) (.int .i64 (-1)) (aK0 (j:=0) (.int .i64 8) HX3.out)) (Below.refl _ _).drew lR7;have HB5:Hid (Below w.heap.size w ((w3.setCell ⟨w.heap.size,0,none⟩ (.int .i64 8)).setCell ⟨w.heap.size,1,none⟩ (.int .i64 (-1))).drew):=((HB3.out.setCell (p:=⟨w.heap.size,0,none⟩) lR7 _).setCell (p:=⟨w.heap.size,1,none⟩) lR7 _).drew;generalize ((w3.setCell ⟨w.heap.size,0,none⟩ (.int .i64 8)).setCell ⟨w.heap.size,1,none⟩ (.int .i64 (-1))).drew=w5 at hx5 HB5 ⊢;have q0:w5.cell? ⟨w.heap.size,0,none⟩=some (.int .i64 8):=aA0 (j:=0) hx5 rfl;have q1:w5.cell? ⟨w.heap.size,1,none⟩=some (.int .i64 (-1)):=aA0 (j:=1) hx5 rfl;clear c0 c1 g0 g1 f0 f1 hx5;go_wp2_with fail;refine bodyPost_ret (by simp [results,Tryz.results6,go_sem,q0,q1];try rfl) rfl ?_;exact yK0 rfl (by decide) HB5.out
theorem vX0 {l:List Ord} {k:Nat} (h:k<l.length):limL (l.take (k+1))=limL (l.take k)++(if (oAt l k).kind == 1 then [oAt l k] else []):=by
 unfold limL;rw [List.take_succ_eq_append_getElem h,List.filter_append,←dL0 h]
 by_cases e:((oAt l k).kind == 1)=true
 ·rw [if_pos e];simp [e]
 ·rw [if_neg e];simp [e]
theorem mH1 (l:List Ord) (k:Nat):(limL (l.take k)).length≤l.length:=by
 unfold limL;have h1:=List.length_filter_le (fun o:Ord=>o.kind == 1) (l.take k);have h2:=List.length_take_le' k l;omega
theorem qR1 (F:Nat→Prop) (base mb bt ct:Nat) (m:Mkt) (vb vp vi:Value) (w:World) (h:MkIs w F base mb bt ct m vb vp vi) (hL:m.L.length≤100) (hok:LOk m.L) (hbs:base≤w.heap.size) (hq:0<(aH0 m).qty):
  Calls Tryz.prog 103 #[.pointer (some ⟨mb,7,none⟩),.int .i64 (aH0 m).price,.int .i64 (aH0 m).qty] w fun e w'=>∃vf v',e=.returned (.tuple #[vf,.int .i64 0])∧w'.ownsRow w.heap.size 115 4 vf (uncA m).1.length (fV (uncA m).1)
   ∧MkIs w' F base mb bt ct { m with L:=(uncA m).2.L } v' vp vi∧Out (fun j=>j=mb) w w':=by
 have hF:FOk (aH0 m).price ⟨[],m.L,(aH0 m).qty⟩:=eP0 m.la hok hq;have h1:(aH0 m).qty≤wilL 1 (aH0 m).price m.L:=hF.buy;have h2:(aH0 m).qty≤wilL 2 (aH0 m).price m.L:=hF.sell;refine (oU1 base (spM F mb bt ct m vb vp vi) vb m.L (aH0 m).price (aH0 m).qty w h.book hbs hL hok ⟨by omega,by omega⟩).mono ?_;rintro e w' ⟨K,vf,v',rfl,h0,hj,hr,hb,ho⟩;have e1:=uN0 hF h0 hj
 have e2:uncA m=((aT0 (aH0 m).price ⟨[],m.L,(aH0 m).qty⟩ K).fs,{ m with L:=(aT0 (aH0 m).price ⟨[],m.L,(aH0 m).qty⟩ K).L,an:=(aH0 m).price,la:=(aH0 m).price }):=by
  unfold uncA;rw [if_pos hq,e1]
 rw [e2];exact ⟨vf,v',rfl,hr,h.ofBook hb ho,ho⟩
set_option maxRecDepth 4000 in
set_option maxHeartbeats 4000000 in
theorem pY0 (F:Nat→Prop) (base mb bt ct:Nat) (m:Mkt) (vb vp vi:Value) (w:World) (h:MkIs w F base mb bt ct m vb vp vi) (hL:m.L.length≤100) (hok:LOk m.L) (hla:1≤m.la∧m.la≤1000000) (hbs:base≤w.heap.size):
  Calls Tryz.prog 57 #[.pointer (some ⟨mb,0,none⟩)] w fun e w'=>∃vf v',e=.returned vf∧w'.ownsRow w.heap.size 115 4 vf (uncM m).1.length (fV (uncM m).1)∧MkIs w' F base mb bt ct (uncM m).2 v' vp vi∧Out (fun j=>j=mb) w w':=by
 obtain ⟨i0,hi,hz0,hz1,hz2⟩:=info_parts Tryz.infoOrd;have H:Hid (MkIs w F base mb bt ct m vb vp vi):=h;have HK:Hid (LOk m.L):=hok;clear h hok;go_enter Tryz.func57,Tryz.ntmps57;go_wp2_with fail;refine (xJ0 F base mb bt ct m vb vp vi w H.out hL HK.out hla).mono ?_;rintro e w1 ⟨rfl,hb1⟩;unfold qAgg;have H1:Hid (MkIs w1 F base mb bt ct m vb vp vi):=H.out.below hb1;have O1:Hid (Out (fun j=>j=mb) w w1):=Out.of_below hb1 lR7;have l1:w.heap.size≤w1.heap.size:=hb1.size;clear hb1 H;go_upto_if 12 with fail;have hx:=heap_alloc_new w1 (.cells #[.int .i64 (aH0 m).price,.int .i64 (aH0 m).qty,.int .i64 (aH0 m).sur] 69);have HB1:=bel1 w1 (.cells #[.int .i64 (aH0 m).price,.int .i64 (aH0 m).qty,.int .i64 (aH0 m).sur] 69);generalize w1.alloc (.cells #[.int .i64 (aH0 m).price,.int .i64 (aH0 m).qty,.int .i64 (aH0 m).sur] 69)=w2 at hx HB1 ⊢;have hne:w1.heap.size≠mb:=by have:=lt_of_block H1.out.box;omega
 have H2:Hid (MkIs w2 F base mb bt ct m vb vp vi):=H1.out.below HB1;have O2:Hid (Out (fun j=>j=mb) w w2):=O1.out.trans (Out.of_below HB1 lR7) (Went.refl _ _);have l2:w.heap.size≤w2.heap.size:=O2.out.size;have HX:Hid _:=hx
 have HSS:Hid (∀w',Out (fun j=>j=mb) w2 w'→w'.cell? ⟨w1.heap.size,0,none⟩=some (.int .i64 (aH0 m).price)∧w'.cell? ⟨w1.heap.size,1,none⟩=some (.int .i64 (aH0 m).qty)∧Out (fun j=>j=mb) w2 w'):=fun w' ho=>by
  have hx':=(ho.block _ (lt_of_block hx) hne).trans hx;exact ⟨aA0 (j:=0) hx' rfl,aA0 (j:=1) hx' rfl,ho⟩
 clear hx HB1 hne H1 O1;go_cut [3] (fun u3 wc=>∃v',wc.ownsRow w.heap.size 115 4 u3 (uncA m).1.length (fV (uncA m).1)∧MkIs wc F base mb bt ct (uncA m).2 v' vp vi∧Out (fun j=>j=mb) w wc)
 case first=>
  by_cases hq:0<(aH0 m).qty
  ·have HQ:Hid (0<(aH0 m).qty):=hq;have HE:Hid ((uncA m).2={ m with L:=(uncA m).2.L,an:=(aH0 m).price,la:=(aH0 m).price }):=by show _=_;unfold uncA;rw [if_pos hq]
   have gq:decide (0<(aH0 m).qty)=true:=decide_eq_true hq;have hb2:base≤w2.heap.size:=by omega
   generalize hpp:(aH0 m).price=pp at HE HSS HX;generalize hqq:(aH0 m).qty=qq at hq gq HSS HX;go_wp2_with fail;rw [gq];go_cut [3] from 14 to 23 (fun u3 wc=>∃v',wc.ownsRow w.heap.size 115 4 u3 (uncA m).1.length (fV (uncA m).1)∧MkIs wc F base mb bt ct { m with L:=(uncA m).2.L } v' vp vi∧Out (fun j=>j=mb) w2 wc)
   case first=>
    go_region_held3 (fun w'=>w'.cell? ⟨w1.heap.size,0,none⟩=some (.int .i64 pp)∧w'.cell? ⟨w1.heap.size,1,none⟩=some (.int .i64 qq)∧Out (fun j=>j=mb) w2 w')
     ((refine HSS.out _ ?_;(first | exact HO3.out | exact Out.refl _ _ | exact aU0 (Out.refl _ _))))
     ((go_at_call 103;subst hpp hqq;refine (qR1 F base mb bt ct m vb vp vi w2.drew H2.out.drew hL HK.out (by simpa using hb2) HQ.out).mono ?_;rintro e w3 ⟨vf,v3,rfl,hr3,hm3,ho3⟩;have HR3:Hid _:=hr3;have HM3:Hid _:=hm3;have HO3:Hid (Out (fun j=>j=mb) w2 w3):=(aU0 (Out.refl _ _)).trans ho3 (Went.refl _ _);clear hr3 hm3 ho3))
    all_goals go_wp2_with fail
    all_goals go_meet
    all_goals exact ⟨v3,bP0 HR3.out (by simpa using l2),HM3.out,HO3.out⟩
   case rest=>
    obtain ⟨v3,hr3,hm3,ho3⟩:=hcut;obtain ⟨z0,_,_⟩:=HSS.out _ ho3;have c3:wc.cell? ⟨mb,3,none⟩=some (.int .i64 m.an):=aA0 (j:=3) hm3.box rfl;have c4:wc.cell? ⟨mb,4,none⟩=some (.int .i64 m.la):=aA0 (j:=4) hm3.box rfl;have f3:=aB0 (j:=3) hm3.box;have f4:=aB0 (j:=4) hm3.box;have HM3:Hid _:=hm3;have HR3:Hid (wc.ownsRow w.heap.size 115 4 u3 (uncA m).1.length (fV (uncA m).1)):=hr3;have HO3:Hid _:=ho3;have hne:w1.heap.size≠mb:=by have:=lt_of_block H2.out.box;have:=lt_of_block HX.out;have h9:=HX.out;have h8:=H2.out.box;intro e;rw [e] at h9;have:=h9.symm.trans h8;simp at this
    clear hm3 hr3 ho3;go_upto_region 5 with fail;go_region
    all_goals go_wp2_with fail
    all_goals go_meet
    all_goals have hO:Out (fun j=>j=mb) wc ((wc.setCell ⟨mb,3,none⟩ (.int .i64 pp)).setCell ⟨mb,4,none⟩ (.int .i64 pp)).drew:=aU0 ((aQ0 wc ⟨mb,3,none⟩ _).trans (aQ0 _ ⟨mb,4,none⟩ _) (Went.refl _ _))
    all_goals exact ⟨v3,aI0 HR3.out hO (fun k hk e=>aG0 HR3.out HM3.out.box (by decide) (hk.trans (congrArg some e))),by rw [HE.out];exact ((HM3.out.write (j:=3) (u:=.int .i64 pp) (m':={ m with L:=(uncA m).2.L,an:=pp }) rfl rfl rfl rfl rfl).write (j:=4) (u:=.int .i64 pp) (m':={ m with L:=(uncA m).2.L,an:=pp,la:=pp }) rfl rfl rfl rfl rfl).drew,O2.out.trans (HO3.out.trans hO (Went.refl _ _)) (Went.refl _ _)⟩
  ·have HE:Hid (uncA m=([],m)):=by show _=_;unfold uncA;rw [if_neg hq]
   have gq:decide (0<(aH0 m).qty)=false:=decide_eq_false hq;go_wp2_with fail;go_meet;exact ⟨vb,by rw [HE.out];exact World.ownsRow_nil _ _ _ _,by rw [HE.out];exact H2.out,O2.out⟩
 case rest=>
  obtain ⟨v3,hr,hm,ho⟩:=hcut;have HU:Hid (uncM m=((uncA m).1,{ (uncA m).2 with L:=limL (uncA m).2.L })):=xR0 m;have hl3:(uncA m).2.L.length≤100:=kW1 HK.out hL;clear HX HSS H2 O2 l2;generalize uncA m=um at hr hm hl3 HU;obtain ⟨fs,m3⟩:=um;dsimp only at hr hm hl3 HU;have HR:Hid (wc.ownsRow w.heap.size 115 4 u3 fs.length (fV fs)):=hr;have HM:Hid (MkIs wc F base mb bt ct m3 v3 vp vi):=hm;have HLIM:Hid (∀j,F j→j<wc.heap.size):=hm.lim;have HO:Hid (Out (fun j=>j=mb) w wc):=ho;obtain ⟨ao,cap,rfl,_,_⟩:=aW0 hm.bk;have c7:wc.cell? ⟨mb,7,none⟩=some (.slice ao m3.L.length cap):=aA0 (j:=7) hm.box rfl;have hbc:base≤wc.heap.size:=Nat.le_trans hbs ho.size;clear hr hm ho;go_wp2_with fail;go_loopw [5,40] (fun u5 u40 wr=>∃k:Nat,k≤m3.L.length∧u40=.int .i64 k∧Below wc.heap.size wc wr∧wr.ownsRow wc.heap.size 41 5 u5 (limL (m3.L.take k)).length (oV (limL (m3.L.take k)))) (fun _ u40 _=>m3.L.length - (intOf u40).toNat)
  case atStart=>exact ⟨0,Nat.zero_le _,rfl,Below.refl _ _,World.ownsRow_nil _ _ _ _⟩
  case round=>
   obtain ⟨k,hk,rfl,hb,hown⟩:=hrel;have HB:Hid (Below wc.heap.size wc wr):=hb;have HW:Hid (wr.ownsRow wc.heap.size 41 5 u5 (limL (m3.L.take k)).length (oV (limL (m3.L.take k)))):=hown;have hlen:=mH1 m3.L k;obtain ⟨vao,vcap,rfl,_,_⟩:=aW0 hown;clear hb hown
   by_cases hk1:k<m3.L.length
   ·obtain ⟨g,cap',hv,d0,d1,d2,d3,d4⟩:=cD0 (HM.out.below HB.out).bk hk1;simp only [Value.slice.injEq,true_and] at hv;obtain ⟨rfl,rfl⟩:=hv
    by_cases hx:(oAt m3.L k).kind=1
    ·have HT:Hid (limL (m3.L.take (k+1))=limL (m3.L.take k)++[oAt m3.L k]):=by
      have:=vX0 hk1;rw [if_pos (by simpa using hx)] at this;exact this
     have hxb:((oAt m3.L k).kind == 1)=true:=by simpa using hx
     clear hx;go_wp2_with (at_builtin;go_loud (refine wpList_append_lies _ rfl _ _ 59 rfl wc.heap.size 41 i0 (.agg #[.int .i64 0,.int .i64 0,.int .i64 0,.int .i64 0,.int .i64 0]) 5 40 Tryz.underlying59 hi hz0 hz1 hz2 rfl (by decide) (.slice vao (limL (m3.L.take k)).length vcap) (limL (m3.L.take k)).length (oV (limL (m3.L.take k))) rfl ((HW.out.alloc _).alloc _) ⟨wr.heap.size+1,0,none⟩ 1 1 [.int .i64 (oAt m3.L k).id,.int .i64 (oAt m3.L k).side,.int .i64 (oAt m3.L k).kind,.int .i64 (oAt m3.L k).price,.int .i64 (oAt m3.L k).qty] rfl rfl (World.news_of_block (cs:=#[.int .i64 (oAt m3.L k).id,.int .i64 (oAt m3.L k).side,.int .i64 (oAt m3.L k).kind,.int .i64 (oAt m3.L k).price,.int .i64 (oAt m3.L k).qty]) (t:=41) (fr:=(0,0)) (mV1 wr _ _)) (by simp [Value.oneCell']) (by decide) (by unfold maxLen;omega) (by omega) (Nat.le_trans HB.out.size (by simp;omega)) (wr.heap.size+2) (by simp) ?_);intro g2 cg w1 hown hgrow hat hlt);go_roundw
     case rel=>
      have hB1:Below wc.heap.size wc w1:=((HB.out.alloc HB.out.size _).alloc (by have:=HB.out.size;simp;omega) _).grown hgrow (by have:=HB.out.size;simp;omega) (fun q hq=>(HW.out.lt q hq).1);refine ⟨k+1,hk1,by go_num,hB1,?_⟩;rw [HT.out,List.length_append,List.length_singleton,cC0];exact hown
     case measure=>first | (simp [intOf];omega) | (show m3.L.length - (k+1)<m3.L.length - k;omega) | omega
    ·have HT:Hid (limL (m3.L.take (k+1))=limL (m3.L.take k)):=by
      have:=vX0 hk1;rw [if_neg (by simpa using hx),List.append_nil] at this;exact this
     have hxb:((oAt m3.L k).kind == 1)=false:=beq_eq_false_iff_ne.2 hx;clear hx;go_wp2_with fail;go_roundw
     case rel=>exact ⟨k+1,hk1,by go_num,HB.out.alloc HB.out.size _,by rw [HT.out];exact HW.out.alloc _⟩
     case measure=>first | (simp [intOf];omega) | (show m3.L.length - (k+1)<m3.L.length - k;omega) | omega
   ·obtain rfl:k=m3.L.length:=by omega
    rw [List.take_length] at HW hlen ⊢;have HM1:Hid _:=HM.out.below HB.out;have f7:=aB0 (j:=7) HM1.out.box;have c7:wr.cell? ⟨mb,7,none⟩=some (.slice ao m3.L.length cap):=aA0 (j:=7) HM1.out.box rfl;go_wp2_with fail;go_ret;have hO:Out (fun j=>j=mb) wr (wr.setCell ⟨mb,7,none⟩ (.slice vao (limL m3.L).length vcap)):=aQ0 wr ⟨mb,7,none⟩ _;have hR:=aO0 HR.out HB.out lR7;refine ⟨u3,.slice vao (limL m3.L).length vcap,rfl,?_,?_,HO.out.trans ((Out.of_below HB.out lR7).trans hO (Went.refl _ _)) (Went.refl _ _)⟩
    ·rw [HU.out];exact aI0 hR hO (fun k hk e=>aG0 hR HM1.out.box (by decide) (hk.trans (congrArg some e)))
    ·rw [HU.out];exact HM1.out.ofBook (HM1.out.book.put (bP0 HW.out hbc) (fun j hj e=>by
      have h1:=(HW.out.lt j hj).1;have h2:=HLIM.out j e;omega)) hO
set_option maxRecDepth 4000 in
set_option maxHeartbeats 1000000 in
theorem jG0 (b cap:Nat) (now:Int) (rs:List (Int×Int)) (w:World) (h:bK0 w b 0 rs) (hne:0<rs.length) (hlen:rs.length≤60):
  Calls Tryz.prog 56 #[.slice (some ⟨b,0,none⟩) rs.length cap,.int .i64 now] w
   fun e w'=>e=.returned (.tuple #[.int .i64 (phaseV rs now).1,.int .i64 (phaseV rs now).2])∧Below w.heap.size w w':=by
 have HR:Hid (bK0 w b 0 rs):=h;clear h;go_enter Tryz.func56,Tryz.ntmps56;go_wp2_with fail;go_loop [6] (fun i=>∃k:Nat,k<rs.length∧i=.int .i64 k∧aY0 (bF0 rs k).2 now (rs.drop (k+1))=phaseV rs now) (fun i=>rs.length - (intOf i).toNat)
 case atStart=>exact ⟨0,hne,rfl,rfl⟩
 case round=>
  obtain ⟨k,hk,rfl,hq⟩:=hrel;have H1:Hid (k+1<rs.length→(bF0 rs (k+1)).1≤now→aY0 (bF0 rs (k+1)).2 now (rs.drop (k+1+1))=phaseV rs now):=fun hm he=>(qQ0 hm he).symm.trans hq
  have H2:Hid (k+1<rs.length→now<(bF0 rs (k+1)).1→phaseV rs now=((bF0 rs k).2,(bF0 rs (k+1)).1)):=fun hm he=>hq.symm.trans (qR0 hm he)
  have H3:Hid (rs.length≤k+1→phaseV rs now=((bF0 rs k).2,-1)):=fun hm=>hq.symm.trans (uG0 hm)
  obtain ⟨hc0,hc1⟩:=HR.out.row hk;simp only [Nat.zero_add] at hc0 hc1;clear hq
  by_cases hm:rs.length≤k+1
  ·go_wp2_with fail;go_ret2;exact ⟨kW0 (H3.out hm),Below.refl _ _⟩
  ·have hm1:k+1<rs.length:=by omega
   obtain ⟨hd0,hd1⟩:=HR.out.row hm1;simp only [Nat.zero_add] at hd0 hd1;have q2:(k:Int)<rs.length:=by omega
   have q3:(k:Int)+1<rs.length:=by omega
   have q4:(0:Int)≤(k:Int)+1:=by omega
   have q5:((k:Int)+1).toNat=k+1:=by omega
   go_wp2_with fail
   ·go_round
    case rel=>exact ⟨k+1,hm1,by go_num,H1.out hm1 (by assumption)⟩
    case measure=>simp [intOf];omega
   ·go_quiet (fail);go_wp2;go_ret2;exact ⟨kW0 (H2.out hm1 (by assumption)),below_drewN (Below.refl _ _) _⟩
structure Ticked (w:World) (F:Nat→Prop) (base mb bt ct:Nat) (vi:Value) (r:List Fil×Mkt) (vf:Value) (w':World):Prop where
 row:w'.ownsRow w.heap.size 115 4 vf r.1.length (fV r.1)
 is:∃vb vp,MkIs w' F base mb bt ct r.2 vb vp vi
 out:Out (fun j=>j=mb) w w'
section
variable {w W w':World} {F:Nat→Prop} {base mb bt ct:Nat} {m:Mkt} {vb vp vi vf:Value}
theorem eL0 (hm:MkIs w' F base mb bt ct m vb vp vi) (ho:Out (fun j=>j=mb) w w'):Ticked w F base mb bt ct vi ([],m) (.slice none 0 0) w':=⟨World.ownsRow_nil _ _ _ _,⟨vb,vp,hm⟩,ho⟩
theorem vY0 (p:Int) (hO:Out (fun j=>j=mb) w W) (hr:w'.ownsRow W.heap.size 115 4 vf (uncM m).1.length (fV (uncM m).1)) (hm:MkIs w' F base mb bt ct (uncM m).2 vb vp vi) (ho:Out (fun j=>j=mb) W w'):Ticked w F base mb bt ct vi ((uncM m).1,{ (uncM m).2 with ph:=p }) vf (w'.setCell ⟨mb,10,none⟩ (.int .i64 p)):=
 have h1:=aQ0 w' ⟨mb,10,none⟩ (.int .i64 p)
 ⟨aI0 (bP0 hr hO.size) h1 (fun _ hk e=>aG0 hr hm.box (by decide) (hk.trans (congrArg some e))),⟨vb,vp,hm.write (j:=10) (m':={ (uncM m).2 with ph:=p }) rfl rfl rfl rfl rfl⟩,hO.trans (ho.trans h1 (Went.refl _ _)) (Went.refl _ _)⟩
theorem iH1 (hm:MkIs w' F base mb bt ct m vb vp vi):MkIs (((w'.setCell ⟨mb,7,none⟩ (.slice none 0 0)).setCell ⟨mb,8,none⟩ (.slice none 0 0)).setCell ⟨mb,10,none⟩ (.int .i64 7)) F base mb bt ct { m with L:=[],P:=[],ph:=7 } (.slice none 0 0) (.slice none 0 0) vi:=
 ((hm.ofBook (L':=[]) (hm.book.put (World.ownsRow_nil _ _ _ _) (fun _ hj=>by cases hj)) (aQ0 w' ⟨mb,7,none⟩ _)).parks (P':=[]) (World.ownsRow_nil _ _ _ _) (fun _ hj=>by cases hj)).write (j:=10) (m':={ m with L:=[],P:=[],ph:=7 }) rfl rfl rfl rfl rfl
theorem aM1 (w':World) (mb:Nat):Out (fun j=>j=mb) w' (((w'.setCell ⟨mb,7,none⟩ (.slice none 0 0)).setCell ⟨mb,8,none⟩ (.slice none 0 0)).setCell ⟨mb,10,none⟩ (.int .i64 7)):=
 ((aQ0 w' ⟨mb,7,none⟩ _).trans (aQ0 _ ⟨mb,8,none⟩ _) (Went.refl _ _)).trans (aQ0 _ ⟨mb,10,none⟩ _) (Went.refl _ _)
end
set_option maxRecDepth 4000 in
set_option maxHeartbeats 4000000 in
theorem sZ1 (F:Nat→Prop) (base mb bt ct:Nat) (m:Mkt) (vb vp vi:Value) (w:World) (h:MkIs w F base mb bt ct m vb vp vi) (hL:m.L.length≤100) (hok:LOk m.L) (hla:1≤m.la∧m.la≤1000000) (hP:m.P.length≤100) (hbs:base≤w.heap.size) (hr:0<m.rs.length∧m.rs.length≤60)
  (hn:0≤m.now∧m.now≤1000000000000) (ht:0≤m.ti∧m.ti≤1000000000000) (hlo:0≤m.lo∧m.lo≤1000000000000):
  Calls Tryz.prog 15 #[.pointer (some ⟨mb,0,none⟩)] w fun e w'=>∃vf,e=.returned (.tuple #[vf,.int .i64 (mF0 m)])∧Ticked w F base mb bt ct vi (cL0 m) vf w':=by
 have c10:w.cell? ⟨mb,10,none⟩=some (.int .i64 m.ph):=aA0 (j:=10) h.box rfl;have H:Hid (MkIs w F base mb bt ct m vb vp vi):=h;have HK:Hid (LOk m.L):=hok;clear h hok
 by_cases h7:m.ph=7
 ·have e7:(m.ph == 7)=true:=beq_iff_eq.2 h7;have HN:Hid (mF0 m=6∧cL0 m=([],m)):=⟨by unfold mF0;rw [if_pos h7],by unfold cL0;rw [if_pos h7]⟩;clear h7;go_enter Tryz.func15,Tryz.ntmps15;go_wp2_with fail;go_ret2;exact ⟨.slice none 0 0,by rw [HN.out.1];rfl,by rw [HN.out.2];exact ⟨World.ownsRow_nil _ _ _ _,⟨vb,vp,H.out⟩,Out.refl _ _⟩⟩
 ·have e7:(m.ph == 7)=false:=beq_eq_false_iff_ne.2 h7;have HN:Hid (mF0 m=0∧cL0 m=jT0 (phaseV m.rs m.now).1 (phaseV m.rs (m.now+1)).1 { m with now:=m.now+1 }):=⟨by unfold mF0;rw [if_neg h7],by unfold cL0;rw [if_neg h7]⟩;have HSS:Hid (∀w',Below w.heap.size w w'→w'.cell? ⟨mb,0,none⟩=some (.slice (some ⟨bt,0,none⟩) m.rs.length ct)∧w'.cell? ⟨mb,11,none⟩=some (.int .i64 m.now)∧Below w.heap.size w w'):=fun w' hb=>⟨aA0 (j:=0) (H.out.below hb).box rfl,aA0 (j:=11) (H.out.below hb).box rfl,hb⟩
  clear h7;go_enter Tryz.func15,Tryz.ntmps15;go_upto_region 3 with fail;clear c10;go_cut [4] from 16 to 26 (fun u4 wc=>u4=.int .i64 (phaseV m.rs m.now).1∧Below w.heap.size w wc)
  case first=>
   go_region_held3 (fun w'=>w'.cell? ⟨mb,0,none⟩=some (.slice (some ⟨bt,0,none⟩) m.rs.length ct)∧w'.cell? ⟨mb,11,none⟩=some (.int .i64 m.now)∧Below w.heap.size w w')
    ((refine HSS.out _ ?_;(first | exact HB2.out | exact Below.refl _ _ | exact (Below.refl _ _).drew | (go_split_ands;assumption))))
    ((go_at_call 56;refine (jG0 bt ct m.now m.rs w.drew H.out.drew.tab hr.1 hr.2).mono ?_;rintro e w2 ⟨rfl,hb2⟩;have HB2:Hid (Below w.heap.size w w2):=(Below.refl _ _).drew.trans (hb2.mono (by simp));clear hb2))
   all_goals go_wp2_with fail
   all_goals go_meet
   all_goals exact ⟨rfl,HB2.out⟩
  case rest=>
   obtain ⟨rfl,hb⟩:=hcut;have HM1:Hid (MkIs wc F base mb bt ct m vb vp vi):=H.out.below hb;have HO1:Hid (Out (fun j=>j=mb) w wc):=Out.of_below hb lR7;have c11:wc.cell? ⟨mb,11,none⟩=some (.int .i64 m.now):=aA0 (j:=11) HM1.out.box rfl;have f11:=aB0 (j:=11) HM1.out.box;have wn:IntKind.i64.wrap (m.now+1)=m.now+1:=IntWalk.i64_in _ (by omega);clear hb HSS H;go_upto_region 5 with fail;have hm2:=HM1.out.write (j:=11) (u:=.int .i64 (m.now+1)) (m':={ m with now:=m.now+1 }) rfl rfl rfl rfl rfl;have ho2:Out (fun j=>j=mb) w (wc.setCell ⟨mb,11,none⟩ (.int .i64 (m.now+1))):=HO1.out.trans (aQ0 _ ⟨mb,11,none⟩ _) (Went.refl _ _);generalize wc.setCell ⟨mb,11,none⟩ (.int .i64 (m.now+1))=w2 at hm2 ho2 ⊢;clear c11 f11 HM1 HO1;generalize hm':({ m with now:=m.now+1 }:Mkt)=m2 at hm2 HN;have HN2:Hid (cL0 m=jT0 (phaseV m.rs m.now).1 (phaseV m2.rs m2.now).1 m2):=by show _=_;rw [HN.out.2,←hm']
   have HN1:Hid (mF0 m=0):=HN.out.1;have HK2:Hid (LOk m2.L):=by show LOk m2.L;rw [←hm'];exact HK.out
   have hn2:0≤m2.now∧m2.now≤1000000000001:=by rw [←hm'];exact ⟨by show 0≤m.now+1;omega,by show m.now+1≤1000000000001;omega⟩
   have ht2:0≤m2.ti∧m2.ti≤1000000000000:=by rw [←hm'];exact ht
   have hlo2:0≤m2.lo∧m2.lo≤1000000000000:=by rw [←hm'];exact hlo
   have hla2:1≤m2.la∧m2.la≤1000000:=by rw [←hm'];exact hla
   have hL2:m2.L.length≤100:=by rw [←hm'];exact hL
   have hP2:m2.P.length≤100:=by rw [←hm'];exact hP
   have hr2:0<m2.rs.length∧m2.rs.length≤60:=by rw [←hm'];exact hr
   have HM2:Hid (MkIs w2 F base mb bt ct m2 vb vp vi):=hm2;have HO2:Hid (Out (fun j=>j=mb) w w2):=ho2;have HSS:Hid (∀w',Below w2.heap.size w2 w'→w'.cell? ⟨mb,0,none⟩=some (.slice (some ⟨bt,0,none⟩) m2.rs.length ct)∧w'.cell? ⟨mb,11,none⟩=some (.int .i64 m2.now)∧Below w2.heap.size w2 w'):=fun w' hb=>⟨aA0 (j:=0) (hm2.below hb).box rfl,aA0 (j:=11) (hm2.below hb).box rfl,hb⟩
   generalize (phaseV m.rs m.now).1=was at HN2 ⊢;clear hm' HN HK hm2 ho2 wn hL hla hP hr hn ht hlo;go_cut [6] from 35 to 45 (fun u6 wc=>u6=.int .i64 (phaseV m2.rs m2.now).1∧Below w2.heap.size w2 wc)
   case first=>
    go_region_held3 (fun w'=>w'.cell? ⟨mb,0,none⟩=some (.slice (some ⟨bt,0,none⟩) m2.rs.length ct)∧w'.cell? ⟨mb,11,none⟩=some (.int .i64 m2.now)∧Below w2.heap.size w2 w')
     ((refine HSS.out _ ?_;(first | exact HB3.out | exact Below.refl _ _ | exact (Below.refl _ _).drew | (go_split_ands;assumption))))
     ((go_at_call 56;refine (jG0 bt ct m2.now m2.rs w2.drew HM2.out.drew.tab hr2.1 hr2.2).mono ?_;rintro e w3 ⟨rfl,hb3⟩;have HB3:Hid (Below w2.heap.size w2 w3):=(Below.refl _ _).drew.trans (hb3.mono (by simp));clear hb3))
    all_goals go_wp2_with fail
    all_goals go_meet
    all_goals exact ⟨rfl,HB3.out⟩
   case rest=>
    obtain ⟨rfl,hb⟩:=hcut;have HM:Hid (MkIs wc F base mb bt ct m2 vb vp vi):=HM2.out.below hb;have HO:Hid (Out (fun j=>j=mb) w wc):=HO2.out.trans (Out.of_below hb lR7) (Went.refl _ _);have hbc:base≤wc.heap.size:=Nat.le_trans hbs HO.out.size;have c10:wc.cell? ⟨mb,10,none⟩=some (.int .i64 m2.ph):=aA0 (j:=10) HM.out.box rfl;have f10:=aB0 (j:=10) HM.out.box;generalize (phaseV m2.rs m2.now).1=is at HN2 ⊢;clear hb HSS HM2 HO2 e7 hr2
    by_cases hi7:is=7
    ·subst hi7;have c7:wc.cell? ⟨mb,7,none⟩=some vb:=aA0 (j:=7) HM.out.box rfl;have f7:=aB0 (j:=7) HM.out.box;have c8:wc.cell? ⟨mb,8,none⟩=some vp:=aA0 (j:=8) HM.out.box rfl;have f8:=aB0 (j:=8) HM.out.box
     by_cases h5:m2.ph=5
     ·have e5:(m2.ph == 5)=true:=beq_iff_eq.2 h5;have HE:Hid (cL0 m=((uncM m2).1,{ (uncM m2).2 with L:=[],P:=[],ph:=7 })):=by show _=_;rw [HN2.out];unfold jT0;rw [if_pos rfl,if_pos h5,if_pos h5]
      clear h5 c7 f7 c8 f8 f10;go_wp2_with fail;refine (pY0 F base mb bt ct m2 vb vp vi wc HM.out hL2 HK2.out hla2 hbc).mono ?_;rintro e w4 ⟨vf,v4,rfl,hr4,hm4,ho4⟩;have c7:w4.cell? ⟨mb,7,none⟩=some v4:=aA0 (j:=7) hm4.box rfl;have f7:=aB0 (j:=7) hm4.box;have c8:w4.cell? ⟨mb,8,none⟩=some vp:=aA0 (j:=8) hm4.box rfl;have f8:=aB0 (j:=8) hm4.box;have f10:=aB0 (j:=10) hm4.box;have d10:w4.cell? ⟨mb,10,none⟩=some (.int .i64 (uncM m2).2.ph):=aA0 (j:=10) hm4.box rfl;have HR4:Hid (w4.ownsRow wc.heap.size 115 4 vf (uncM m2).1.length (fV (uncM m2).1)):=hr4;have HM4:Hid (MkIs w4 F base mb bt ct (uncM m2).2 v4 vp vi):=hm4;have HO4:Hid (Out (fun j=>j=mb) wc w4):=ho4;clear hr4 hm4 ho4 c10;go_wp2_with fail;go_ret2;have hO:=aM1 w4 mb;exact ⟨vf,by rw [HN1.out];rfl,by rw [HE.out];exact ⟨aI0 (bP0 HR4.out HO.out.size) hO (fun _ hk e=>aG0 HR4.out HM4.out.box (by decide) (hk.trans (congrArg some e))),⟨_,_,iH1 HM4.out⟩,HO.out.trans (HO4.out.trans hO (Went.refl _ _)) (Went.refl _ _)⟩⟩
     ·have e5:(m2.ph == 5)=false:=beq_eq_false_iff_ne.2 h5;have HE:Hid (cL0 m=([],{ m2 with L:=[],P:=[],ph:=7 })):=by show _=_;rw [HN2.out];unfold jT0;rw [if_pos rfl,if_neg h5,if_neg h5]
      clear h5;go_wp2_with fail;go_ret2;exact ⟨.slice none 0 0,by rw [HN1.out];rfl,by rw [HE.out];exact eL0 (iH1 HM.out) (HO.out.trans (aM1 wc mb) (Went.refl _ _))⟩
    ·have ei7:(is == 7)=false:=beq_eq_false_iff_ne.2 hi7
     by_cases h6:m2.ph=6
     ·have e6:(m2.ph == 6)=true:=beq_iff_eq.2 h6;have HE:Hid (cL0 m=([],m2)):=by show _=_;rw [HN2.out];unfold jT0;rw [if_neg hi7,if_pos h6]
      clear h6 hi7;go_wp2_with fail;go_ret2;exact ⟨.slice none 0 0,by rw [HN1.out];rfl,by rw [HE.out];exact eL0 HM.out HO.out⟩
     ·have e6:(m2.ph == 6)=false:=beq_eq_false_iff_ne.2 h6
      by_cases hw:was=is
      ·subst hw;have nw:(was != was)=false:=by simp [bne]
       have nw2:(was == was)=true:=beq_iff_eq.2 rfl;have HE:Hid (cL0 m=if m2.ph=4∧m2.en≤m2.now then
  (if (aH0 m2).qty=0∨dY0 m2.st m2.an (aH0 m2).price=true then ((uncM m2).1,{ (uncM m2).2 with ph:=3 })
   else if m2.lo<m2.mo then ([],{ m2 with lo:=m2.lo+1,en:=m2.now+m2.ti })
   else ([],{ m2 with ph:=6 }))
 else ([],m2)):=by
        show _=_;rw [HN2.out];unfold jT0;rw [if_neg hi7,if_neg h6,if_neg (fun e=>e.1 rfl),if_neg (fun e=>e.1 rfl),if_neg (fun e=>e rfl)]
       clear hi7 h6 HN2;have c11:wc.cell? ⟨mb,11,none⟩=some (.int .i64 m2.now):=aA0 (j:=11) HM.out.box rfl;have c12:wc.cell? ⟨mb,12,none⟩=some (.int .i64 m2.en):=aA0 (j:=12) HM.out.box rfl;generalize wc=wd at HM HO hbc c10 f10 c11 c12 ⊢;go_upto_region 19 with fail;go_cut [104] from 105 to 120 (fun u w3=>u=.bool (decide (m2.ph=4∧m2.en≤m2.now))∧Below wd.heap.size wd w3)
       case first=>
        by_cases h4:m2.ph=4
        ·have e4:(m2.ph == 4)=true:=beq_iff_eq.2 h4
         by_cases hge:m2.en≤m2.now
         ·have HD:Hid (decide (m2.ph=4∧m2.en≤m2.now)=true):=decide_eq_true ⟨h4,hge⟩;have hgd:decide (m2.en≤m2.now)=true:=decide_eq_true hge;clear h4;go_region
          all_goals go_wp2_with fail
          all_goals go_meet
          all_goals exact ⟨by rw [HD.out],(Below.refl _ _).drew⟩
         ·have HD:Hid (decide (m2.ph=4∧m2.en≤m2.now)=false):=decide_eq_false (fun e=>hge e.2);have hgd:decide (m2.en≤m2.now)=false:=decide_eq_false hge;clear h4;go_region
          all_goals go_wp2_with fail
          all_goals go_meet
          all_goals exact ⟨by rw [HD.out],(Below.refl _ _).drew⟩
        ·have e4:(m2.ph == 4)=false:=beq_eq_false_iff_ne.2 h4;have HD:Hid (decide (m2.ph=4∧m2.en≤m2.now)=false):=decide_eq_false (fun e=>h4 e.1);go_region
         all_goals go_wp2_with fail
         all_goals go_meet
         all_goals exact ⟨by rw [HD.out],(Below.refl _ _).drew⟩
       case rest=>
        obtain ⟨rfl,hb⟩:=hcut;have HM3:Hid (MkIs wc F base mb bt ct m2 vb vp vi):=HM.out.below hb;have HO3:Hid (Out (fun j=>j=mb) w wc):=HO.out.trans (Out.of_below hb lR7) (Went.refl _ _);have hb3:base≤wc.heap.size:=Nat.le_trans hbs HO3.out.size;clear hb c10 c11 c12 f10 HM HO hbc
        by_cases hv:m2.ph=4∧m2.en≤m2.now
        ·rw [decide_eq_true hv];rw [if_pos hv] at HE;clear hv;go_wp2_with fail;refine (xJ0 F base mb bt ct m2 vb vp vi wc HM3.out hL2 HK2.out hla2).mono ?_;rintro e w4 ⟨rfl,hb4⟩;unfold qAgg;have HM4:Hid (MkIs w4 F base mb bt ct m2 vb vp vi):=HM3.out.below hb4;have HO4:Hid (Out (fun j=>j=mb) w w4):=HO3.out.trans (Out.of_below hb4 lR7) (Went.refl _ _);clear hb4 HM3 HO3 hb3;go_upto_region 22 with fail;have hx:=heap_alloc_new w4 (.cells #[.int .i64 (aH0 m2).price,.int .i64 (aH0 m2).qty,.int .i64 (aH0 m2).sur] 69);have hb5:=bel1 w4 (.cells #[.int .i64 (aH0 m2).price,.int .i64 (aH0 m2).qty,.int .i64 (aH0 m2).sur] 69);generalize w4.alloc (.cells #[.int .i64 (aH0 m2).price,.int .i64 (aH0 m2).qty,.int .i64 (aH0 m2).sur] 69)=w5 at hx hb5 ⊢;have HM5:Hid (MkIs w5 F base mb bt ct m2 vb vp vi):=HM4.out.below hb5;have HO5:Hid (Out (fun j=>j=mb) w w5):=HO4.out.trans (Out.of_below hb5 lR7) (Went.refl _ _);have q0:w5.cell? ⟨w4.heap.size,0,none⟩=some (.int .i64 (aH0 m2).price):=aA0 (j:=0) hx rfl;have q1:w5.cell? ⟨w4.heap.size,1,none⟩=some (.int .i64 (aH0 m2).qty):=aA0 (j:=1) hx rfl;clear hx hb5 HM4 HO4;go_cut [126] from 127 to 135 (fun u w3=>u=.bool (decide ((aH0 m2).qty=0∨dY0 m2.st m2.an (aH0 m2).price=true))∧Below w5.heap.size w5 w3)
         case first=>
          by_cases hq:(aH0 m2).qty=0
          ·have eq0:((aH0 m2).qty == 0)=true:=beq_iff_eq.2 hq;have HD:Hid (decide ((aH0 m2).qty=0∨dY0 m2.st m2.an (aH0 m2).price=true)=true):=decide_eq_true (Or.inl hq);clear hq;go_wp2_with fail;go_meet;exact ⟨by rw [HD.out],Below.refl _ _⟩
          ·have eq0:((aH0 m2).qty == 0)=false:=beq_eq_false_iff_ne.2 hq;have HD:Hid (∀b,dY0 m2.st m2.an (aH0 m2).price=b→decide ((aH0 m2).qty=0∨b=true)=b):=fun b _=>by cases b <;> simp [hq]
           clear hq;go_wp2_with fail;refine (oO1 F base mb bt ct m2 vb vp vi (aH0 m2).price w5 HM5.out).mono ?_;rintro e w6 ⟨rfl,hb6⟩;go_wp2_with fail;go_meet;exact ⟨by rw [HD.out _ rfl],hb6⟩
         case rest=>
          obtain ⟨rfl,hb⟩:=hcut;clear q0 q1;generalize w5=wd at HM5 HO5 hb;have HM6:Hid (MkIs wc F base mb bt ct m2 vb vp vi):=HM5.out.below hb;have HO6:Hid (Out (fun j=>j=mb) w wc):=HO5.out.trans (Out.of_below hb lR7) (Went.refl _ _);have hb6:base≤wc.heap.size:=Nat.le_trans hbs HO6.out.size;clear hb HM5 HO5
          by_cases hv:(aH0 m2).qty=0∨dY0 m2.st m2.an (aH0 m2).price=true
          ·rw [decide_eq_true hv];rw [if_pos hv] at HE;clear hv;go_wp2_with fail;refine (pY0 F base mb bt ct m2 vb vp vi wc HM6.out hL2 HK2.out hla2 hb6).mono ?_;rintro e w7 ⟨vf,v4,rfl,hr4,hm4,ho4⟩;have f10:=aB0 (j:=10) hm4.box;have d10:w7.cell? ⟨mb,10,none⟩=some (.int .i64 (uncM m2).2.ph):=aA0 (j:=10) hm4.box rfl;have HT:Hid _:=vY0 3 HO6.out hr4 hm4 ho4;clear hr4 hm4 ho4;go_wp2_with fail;go_ret2;exact ⟨vf,by rw [HN1.out];rfl,by rw [HE.out];exact HT.out⟩
          ·rw [decide_eq_false hv];rw [if_neg hv] at HE;clear hv;have c13:wc.cell? ⟨mb,13,none⟩=some (.int .i64 m2.lo):=aA0 (j:=13) HM6.out.box rfl;have c6:wc.cell? ⟨mb,6,none⟩=some (.int .i64 m2.mo):=aA0 (j:=6) HM6.out.box rfl;generalize wc=we at HM6 HO6 hb6 c13 c6 ⊢;go_upto_region 25 with fail;go_cut [141] from 142 to 150 (fun u w3=>u=.bool (decide (m2.lo<m2.mo))∧Below we.heap.size we w3)
           case first=>
            go_region
            all_goals go_wp2_with fail
            all_goals go_meet
            all_goals exact ⟨rfl,(Below.refl _ _).drew⟩
           case rest=>
            obtain ⟨rfl,hb⟩:=hcut;have HM7:Hid (MkIs wc F base mb bt ct m2 vb vp vi):=HM6.out.below hb;have HO7:Hid (Out (fun j=>j=mb) w wc):=HO6.out.trans (Out.of_below hb lR7) (Went.refl _ _);clear hb HM6 HO6 c13 c6 hb6
            by_cases hv:m2.lo<m2.mo
            ·rw [decide_eq_true hv];rw [if_pos hv] at HE;clear hv;have c13:wc.cell? ⟨mb,13,none⟩=some (.int .i64 m2.lo):=aA0 (j:=13) HM7.out.box rfl;have f13:=aB0 (j:=13) HM7.out.box;have wl:IntKind.i64.wrap (m2.lo+1)=m2.lo+1:=IntWalk.i64_in _ (by omega);have we2:IntKind.i64.wrap (m2.now+m2.ti)=m2.now+m2.ti:=IntWalk.i64_in _ (by omega);go_upto_region 27 with fail;have hm8:=HM7.out.write (j:=13) (u:=.int .i64 (m2.lo+1)) (m':={ m2 with lo:=m2.lo+1 }) rfl rfl rfl rfl rfl;have ho8:Out (fun j=>j=mb) w (wc.setCell ⟨mb,13,none⟩ (.int .i64 (m2.lo+1))):=HO7.out.trans (aQ0 _ ⟨mb,13,none⟩ _) (Went.refl _ _);generalize wc.setCell ⟨mb,13,none⟩ (.int .i64 (m2.lo+1))=w8 at hm8 ho8 ⊢;have HM8:Hid (MkIs w8 F base mb bt ct { m2 with lo:=m2.lo+1 } vb vp vi):=hm8;have HO8:Hid (Out (fun j=>j=mb) w w8):=ho8;clear c13 f13 HM7 HO7 hm8 ho8;have c11:w8.cell? ⟨mb,11,none⟩=some (.int .i64 m2.now):=aA0 (j:=11) HM8.out.box rfl;have c5:w8.cell? ⟨mb,5,none⟩=some (.int .i64 m2.ti):=aA0 (j:=5) HM8.out.box rfl;have c12:w8.cell? ⟨mb,12,none⟩=some (.int .i64 m2.en):=aA0 (j:=12) HM8.out.box rfl;have f12:=aB0 (j:=12) HM8.out.box;go_region
             all_goals go_wp2_with fail
             all_goals go_ret2
             all_goals exact ⟨.slice none 0 0,by rw [HN1.out];rfl,by rw [HE.out];exact eL0 (HM8.out.write (j:=12) (u:=.int .i64 (m2.now+m2.ti)) (m':={ m2 with lo:=m2.lo+1,en:=m2.now+m2.ti }) rfl rfl rfl rfl rfl).drew (aU0 (HO8.out.trans (aQ0 _ ⟨mb,12,none⟩ _) (Went.refl _ _)))⟩
            ·rw [decide_eq_false hv];rw [if_neg hv] at HE;clear hv;have c10:wc.cell? ⟨mb,10,none⟩=some (.int .i64 m2.ph):=aA0 (j:=10) HM7.out.box rfl;have f10:=aB0 (j:=10) HM7.out.box;go_wp2_with fail;go_ret2;exact ⟨.slice none 0 0,by rw [HN1.out];rfl,by rw [HE.out];exact eL0 (HM7.out.write (j:=10) (m':={ m2 with ph:=6 }) rfl rfl rfl rfl rfl) (HO7.out.trans (aQ0 _ ⟨mb,10,none⟩ _) (Went.refl _ _))⟩
        ·rw [decide_eq_false hv];rw [if_neg hv] at HE;clear hv;go_wp2_with fail;go_ret2;exact ⟨.slice none 0 0,by rw [HN1.out];rfl,by rw [HE.out];exact eL0 HM3.out HO3.out⟩
      ·have nw:(was != is)=true:=by simpa [bne] using hw
       have nw2:(was == is)=false:=beq_eq_false_iff_ne.2 hw
       by_cases h3:is=3
       ·subst h3;have HE:Hid (cL0 m=((uncM m2).1,{ (uncM m2).2 with ph:=3 })):=by show _=_;rw [HN2.out];unfold jT0;rw [if_neg hi7,if_neg h6,if_pos ⟨hw,rfl⟩]
        clear hi7 h6 hw HN2 f10;go_wp2_with fail;refine (pY0 F base mb bt ct m2 vb vp vi wc HM.out hL2 HK2.out hla2 hbc).mono ?_;rintro e w4 ⟨vf,v4,rfl,hr4,hm4,ho4⟩;have f10:=aB0 (j:=10) hm4.box;have d10:w4.cell? ⟨mb,10,none⟩=some (.int .i64 (uncM m2).2.ph):=aA0 (j:=10) hm4.box rfl;have HT:Hid _:=vY0 3 HO.out hr4 hm4 ho4;clear hr4 hm4 ho4 c10;go_wp2_with fail;go_ret2;exact ⟨vf,by rw [HN1.out];rfl,by rw [HE.out];exact HT.out⟩
       ·have e3:(is == 3)=false:=beq_eq_false_iff_ne.2 h3
        by_cases h5:is=5
        ·subst h5;have HE:Hid (cL0 m=([],iG0 m2)):=by show _=_;rw [HN2.out];unfold jT0;rw [if_neg hi7,if_neg h6,if_neg (fun e=>h3 e.2),if_pos ⟨hw,rfl⟩]
         clear hi7 h6 hw HN2 f10 h3;go_wp2_with fail;refine (zX0 F base mb bt ct m2 vb vp vi wc HM.out hL2 hP2 hbc).mono ?_;rintro e w4 ⟨rfl,v4,hm4,ho4⟩;have HT:Hid _:=eL0 hm4 (HO.out.trans ho4 (Went.refl _ _));clear hm4 ho4 c10;go_wp2_with fail;go_ret2;exact ⟨.slice none 0 0,by rw [HN1.out];rfl,by rw [HE.out];exact HT.out⟩
        ·have e5:(is == 5)=false:=beq_eq_false_iff_ne.2 h5;have HE:Hid (cL0 m=([],{ m2 with ph:=is })):=by show _=_;rw [HN2.out];unfold jT0;rw [if_neg hi7,if_neg h6,if_neg (fun e=>h3 e.2),if_neg (fun e=>h5 e.2),if_pos hw]
         clear hi7 h6 hw HN2 h3 h5;go_wp2_with fail;go_ret2;exact ⟨.slice none 0 0,by rw [HN1.out];rfl,by rw [HE.out];exact eL0 (HM.out.write (j:=10) (m':={ m2 with ph:=is }) rfl rfl rfl rfl rfl) (HO.out.trans (aQ0 _ ⟨mb,10,none⟩ _) (Went.refl _ _))⟩
set_option maxRecDepth 4000 in
set_option maxHeartbeats 2000000 in
theorem tA1 (F:Nat→Prop) (base mb bt ct:Nat) (m:Mkt) (vb vp vi:Value) (w:World) (h:MkIs w F base mb bt ct m vb vp vi) (hL:m.L.length≤100) (hP:m.P.length≤100) (hbs:base≤w.heap.size) (hr:0<m.rs.length∧m.rs.length≤60)
  (hn:0≤m.now∧m.now≤1000000000000) (ht:0≤m.ti∧m.ti≤1000000000000):
  Calls Tryz.prog 20 #[.pointer (some ⟨mb,0,none⟩)] w fun e w'=>e=.returned (.int .i64 (iZ0 m))∧∃vb' vp',MkIs w' F base mb bt ct (dZ0 m) vb' vp' vi∧Out (fun j=>j=mb) w w':=by
 have c10:w.cell? ⟨mb,10,none⟩=some (.int .i64 m.ph):=aA0 (j:=10) h.box rfl;have c0:w.cell? ⟨mb,0,none⟩=some (.slice (some ⟨bt,0,none⟩) m.rs.length ct):=aA0 (j:=0) h.box rfl;have c11:w.cell? ⟨mb,11,none⟩=some (.int .i64 m.now):=aA0 (j:=11) h.box rfl;have H:Hid (MkIs w F base mb bt ct m vb vp vi):=h;clear h
 by_cases h6:m.ph=6
 ·have e6:(m.ph == 6)=true:=beq_iff_eq.2 h6;have n6:(m.ph != 6)=false:=by simp [bne,e6]
  have HN:Hid (iZ0 m=0):=by show _=_;unfold iZ0;rw [if_pos h6]
  have HM:Hid (dZ0 m=if (phaseV m.rs m.now).1=3 then volM m else if (phaseV m.rs m.now).1=5 then iG0 m else { m with ph:=(phaseV m.rs m.now).1 }):=by show _=_;unfold dZ0;rw [if_pos h6]
  have HSS:Hid (∀w',Below w.heap.size w w'→w'.cell? ⟨mb,0,none⟩=some (.slice (some ⟨bt,0,none⟩) m.rs.length ct)∧w'.cell? ⟨mb,11,none⟩=some (.int .i64 m.now)∧Below w.heap.size w w'):=fun w' hb=>⟨aA0 (j:=0) (H.out.below hb).box rfl,aA0 (j:=11) (H.out.below hb).box rfl,hb⟩
  clear h6;go_enter Tryz.func20,Tryz.ntmps20;go_wp2_with fail;clear c10 c0 c11;go_cut [3] from 3 to 3 (fun u3 wc=>u3=.int .i64 (phaseV m.rs m.now).1∧Below w.heap.size w wc)
  case first=>
   go_region_held3 (fun w'=>w'.cell? ⟨mb,0,none⟩=some (.slice (some ⟨bt,0,none⟩) m.rs.length ct)∧w'.cell? ⟨mb,11,none⟩=some (.int .i64 m.now)∧Below w.heap.size w w')
    ((refine HSS.out _ ?_;(first | exact HB2.out | exact Below.refl _ _ | exact (Below.refl _ _).drew | (go_split_ands;assumption))))
    ((go_at_call 56;refine (jG0 bt ct m.now m.rs w.drew H.out.drew.tab hr.1 hr.2).mono ?_;rintro e w2 ⟨rfl,hb2⟩;have HB2:Hid (Below w.heap.size w w2):=(Below.refl _ _).drew.trans (hb2.mono (by simp));clear hb2))
   all_goals go_wp2_with fail
   all_goals go_meet
   all_goals exact ⟨rfl,HB2.out⟩
  case rest=>
   obtain ⟨rfl,hb⟩:=hcut;have HB:Hid (Below w.heap.size w wc):=hb;have HC:Hid _:=H.out.below hb;have hbc:base≤wc.heap.size:=Nat.le_trans hbs hb.size;have HO:Hid (Out (fun j=>j=mb) w wc):=Out.of_below hb lR7;clear hb;generalize (phaseV m.rs m.now).1=p at HM ⊢
   by_cases h3:p=3
   ·subst h3;have HM3:Hid (dZ0 m=volM m):=by show _=_;rw [HM.out];rfl
    clear HM;go_wp2_with fail;refine (qV0 F base mb bt ct m vb vp vi wc HC.out hn ht).mono ?_;rintro e w2 ⟨rfl,h2,o2⟩;go_wp2_with fail;go_ret;exact ⟨by rw [HN.out];rfl,vb,vp,by rw [HM3.out];exact h2,HO.out.trans o2 (Went.refl _ _)⟩
   ·have e3:(p == 3)=false:=beq_eq_false_iff_ne.2 h3
    by_cases h5:p=5
    ·subst h5;have HM3:Hid (dZ0 m=iG0 m):=by show _=_;rw [HM.out];rfl
     clear HM;go_wp2_with fail;refine (zX0 F base mb bt ct m vb vp vi wc HC.out hL hP hbc).mono ?_;rintro e w2 ⟨rfl,v2,h2,o2⟩;go_wp2_with fail;go_ret;exact ⟨by rw [HN.out];rfl,v2,_,by rw [HM3.out];exact h2,HO.out.trans o2 (Went.refl _ _)⟩
    ·have e5:(p == 5)=false:=beq_eq_false_iff_ne.2 h5;have HM3:Hid (dZ0 m={ m with ph:=p }):=by show _=_;rw [HM.out,if_neg h3,if_neg h5]
     have c10:wc.cell? ⟨mb,10,none⟩=some (.int .i64 m.ph):=aA0 (j:=10) HC.out.box rfl;have f10:=aB0 (j:=10) HC.out.box;clear HM;go_wp2_with fail;go_ret;exact ⟨by rw [HN.out];rfl,vb,vp,by rw [HM3.out];exact HC.out.write (j:=10) (m':={ m with ph:=p }) rfl rfl rfl rfl rfl,HO.out.trans (aQ0 _ ⟨mb,10,none⟩ _) (Went.refl _ _)⟩
 ·have e6:(m.ph == 6)=false:=beq_eq_false_iff_ne.2 h6;have n6:(m.ph != 6)=true:=by simp [bne,e6]
  have HN:Hid (iZ0 m=6∧dZ0 m=m):=⟨by unfold iZ0;rw [if_neg h6],by unfold dZ0;rw [if_neg h6]⟩;clear h6;go_enter Tryz.func20,Tryz.ntmps20;go_wp2_with fail;go_ret;exact ⟨by rw [HN.out.1];rfl,vb,vp,by rw [HN.out.2];exact H.out,Out.refl _ _⟩
end Go.Proofs.YtjdkagafdnchhaaGreatDoor
