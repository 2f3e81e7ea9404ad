/- A part. -/
import Derived.Test.YtegcgbjjpgjnmaaGreatDoorE11
import Derived.Stop.FmtQuoteTie
import Derived.Lib.OthersKept
import Derived.Lib.AppendIntMem
import Derived.Lib.ItoaLen
set_option maxRecDepth 100000
set_option maxHeartbeats 16000000
namespace Go.Proofs.YtegcgbjjpgjnmaaGreatDoor
open Go.RowKit
def escRune(l:Int):List Int:=if l<128 then aI l else Lib.encodeRuneZ l
theorem PG(w:World):Calls Tryz.prog 135 #[.int .i32 0] w fun x w'=>x=.returned (.string (strOfNums (aI 0)))/\aj (fun _=>False) w w':=by
 have hb:bits .and .i32 0 15=0:=by kernel_rfl
 go_enter Tryz.func135,Tryz.ntmps135;go_wp2;go_quiet (fail);go_wp2;go_ret;exact⟨by kernel_rfl,(aj.refl _ _).drewN _⟩
theorem PH(w:World):Calls Tryz.prog 135 #[.int .i32 1] w fun x w'=>x=.returned (.string (strOfNums (aI 1)))/\aj (fun _=>False) w w':=by
 have hb:bits .and .i32 1 15=1:=by kernel_rfl
 go_enter Tryz.func135,Tryz.ntmps135;go_wp2;go_quiet (fail);go_wp2;go_ret;exact⟨by kernel_rfl,(aj.refl _ _).drewN _⟩
theorem PK(w:World):Calls Tryz.prog 135 #[.int .i32 2] w fun x w'=>x=.returned (.string (strOfNums (aI 2)))/\aj (fun _=>False) w w':=by
 have hb:bits .and .i32 2 15=2:=by kernel_rfl
 go_enter Tryz.func135,Tryz.ntmps135;go_wp2;go_quiet (fail);go_wp2;go_ret;exact⟨by kernel_rfl,(aj.refl _ _).drewN _⟩
theorem PL(w:World):Calls Tryz.prog 135 #[.int .i32 3] w fun x w'=>x=.returned (.string (strOfNums (aI 3)))/\aj (fun _=>False) w w':=by
 have hb:bits .and .i32 3 15=3:=by kernel_rfl
 go_enter Tryz.func135,Tryz.ntmps135;go_wp2;go_quiet (fail);go_wp2;go_ret;exact⟨by kernel_rfl,(aj.refl _ _).drewN _⟩
theorem PM(w:World):Calls Tryz.prog 135 #[.int .i32 4] w fun x w'=>x=.returned (.string (strOfNums (aI 4)))/\aj (fun _=>False) w w':=by
 have hb:bits .and .i32 4 15=4:=by kernel_rfl
 go_enter Tryz.func135,Tryz.ntmps135;go_wp2;go_quiet (fail);go_wp2;go_ret;exact⟨by kernel_rfl,(aj.refl _ _).drewN _⟩
theorem PN(w:World):Calls Tryz.prog 135 #[.int .i32 5] w fun x w'=>x=.returned (.string (strOfNums (aI 5)))/\aj (fun _=>False) w w':=by
 have hb:bits .and .i32 5 15=5:=by kernel_rfl
 go_enter Tryz.func135,Tryz.ntmps135;go_wp2;go_quiet (fail);go_wp2;go_ret;exact⟨by kernel_rfl,(aj.refl _ _).drewN _⟩
theorem PO(w:World):Calls Tryz.prog 135 #[.int .i32 6] w fun x w'=>x=.returned (.string (strOfNums (aI 6)))/\aj (fun _=>False) w w':=by
 have hb:bits .and .i32 6 15=6:=by kernel_rfl
 go_enter Tryz.func135,Tryz.ntmps135;go_wp2;go_quiet (fail);go_wp2;go_ret;exact⟨by kernel_rfl,(aj.refl _ _).drewN _⟩
theorem PQ(w:World):Calls Tryz.prog 135 #[.int .i32 7] w fun x w'=>x=.returned (.string (strOfNums (aI 7)))/\aj (fun _=>False) w w':=by
 have hb:bits .and .i32 7 15=7:=by kernel_rfl
 go_enter Tryz.func135,Tryz.ntmps135;go_wp2;go_quiet (fail);go_wp2;go_ret;exact⟨by kernel_rfl,(aj.refl _ _).drewN _⟩
theorem K_(w:World):Calls Tryz.prog 135 #[.int .i32 11] w fun x w'=>x=.returned (.string (strOfNums (aI 11)))/\aj (fun _=>False) w w':=by
 have hb:bits .and .i32 11 15=11:=by kernel_rfl
 go_enter Tryz.func135,Tryz.ntmps135;go_wp2;go_quiet (fail);go_wp2;go_ret;exact⟨by kernel_rfl,(aj.refl _ _).drewN _⟩
theorem La(w:World):Calls Tryz.prog 135 #[.int .i32 14] w fun x w'=>x=.returned (.string (strOfNums (aI 14)))/\aj (fun _=>False) w w':=by
 have hb:bits .and .i32 14 15=14:=by kernel_rfl
 go_enter Tryz.func135,Tryz.ntmps135;go_wp2;go_quiet (fail);go_wp2;go_ret;exact⟨by kernel_rfl,(aj.refl _ _).drewN _⟩
theorem Lb(w:World):Calls Tryz.prog 135 #[.int .i32 15] w fun x w'=>x=.returned (.string (strOfNums (aI 15)))/\aj (fun _=>False) w w':=by
 have hb:bits .and .i32 15 15=15:=by kernel_rfl
 go_enter Tryz.func135,Tryz.ntmps135;go_wp2;go_quiet (fail);go_wp2;go_ret;exact⟨by kernel_rfl,(aj.refl _ _).drewN _⟩
theorem Lc(w:World):Calls Tryz.prog 135 #[.int .i32 16] w fun x w'=>x=.returned (.string (strOfNums (aI 16)))/\aj (fun _=>False) w w':=by
 have hb:bits .and .i32 16 15=0:=by kernel_rfl
 go_enter Tryz.func135,Tryz.ntmps135;go_wp2;go_quiet (fail);go_wp2;go_ret;exact⟨by kernel_rfl,(aj.refl _ _).drewN _⟩
theorem Ld(w:World):Calls Tryz.prog 135 #[.int .i32 17] w fun x w'=>x=.returned (.string (strOfNums (aI 17)))/\aj (fun _=>False) w w':=by
 have hb:bits .and .i32 17 15=1:=by kernel_rfl
 go_enter Tryz.func135,Tryz.ntmps135;go_wp2;go_quiet (fail);go_wp2;go_ret;exact⟨by kernel_rfl,(aj.refl _ _).drewN _⟩
theorem Le(w:World):Calls Tryz.prog 135 #[.int .i32 18] w fun x w'=>x=.returned (.string (strOfNums (aI 18)))/\aj (fun _=>False) w w':=by
 have hb:bits .and .i32 18 15=2:=by kernel_rfl
 go_enter Tryz.func135,Tryz.ntmps135;go_wp2;go_quiet (fail);go_wp2;go_ret;exact⟨by kernel_rfl,(aj.refl _ _).drewN _⟩
theorem Lf(w:World):Calls Tryz.prog 135 #[.int .i32 19] w fun x w'=>x=.returned (.string (strOfNums (aI 19)))/\aj (fun _=>False) w w':=by
 have hb:bits .and .i32 19 15=3:=by kernel_rfl
 go_enter Tryz.func135,Tryz.ntmps135;go_wp2;go_quiet (fail);go_wp2;go_ret;exact⟨by kernel_rfl,(aj.refl _ _).drewN _⟩
theorem Lg(w:World):Calls Tryz.prog 135 #[.int .i32 20] w fun x w'=>x=.returned (.string (strOfNums (aI 20)))/\aj (fun _=>False) w w':=by
 have hb:bits .and .i32 20 15=4:=by kernel_rfl
 go_enter Tryz.func135,Tryz.ntmps135;go_wp2;go_quiet (fail);go_wp2;go_ret;exact⟨by kernel_rfl,(aj.refl _ _).drewN _⟩
theorem Lh(w:World):Calls Tryz.prog 135 #[.int .i32 21] w fun x w'=>x=.returned (.string (strOfNums (aI 21)))/\aj (fun _=>False) w w':=by
 have hb:bits .and .i32 21 15=5:=by kernel_rfl
 go_enter Tryz.func135,Tryz.ntmps135;go_wp2;go_quiet (fail);go_wp2;go_ret;exact⟨by kernel_rfl,(aj.refl _ _).drewN _⟩
theorem Li(w:World):Calls Tryz.prog 135 #[.int .i32 22] w fun x w'=>x=.returned (.string (strOfNums (aI 22)))/\aj (fun _=>False) w w':=by
 have hb:bits .and .i32 22 15=6:=by kernel_rfl
 go_enter Tryz.func135,Tryz.ntmps135;go_wp2;go_quiet (fail);go_wp2;go_ret;exact⟨by kernel_rfl,(aj.refl _ _).drewN _⟩
theorem Lj(w:World):Calls Tryz.prog 135 #[.int .i32 23] w fun x w'=>x=.returned (.string (strOfNums (aI 23)))/\aj (fun _=>False) w w':=by
 have hb:bits .and .i32 23 15=7:=by kernel_rfl
 go_enter Tryz.func135,Tryz.ntmps135;go_wp2;go_quiet (fail);go_wp2;go_ret;exact⟨by kernel_rfl,(aj.refl _ _).drewN _⟩
theorem Ll(w:World):Calls Tryz.prog 135 #[.int .i32 24] w fun x w'=>x=.returned (.string (strOfNums (aI 24)))/\aj (fun _=>False) w w':=by
 have hb:bits .and .i32 24 15=8:=by kernel_rfl
 go_enter Tryz.func135,Tryz.ntmps135;go_wp2;go_quiet (fail);go_wp2;go_ret;exact⟨by kernel_rfl,(aj.refl _ _).drewN _⟩
theorem Lm(w:World):Calls Tryz.prog 135 #[.int .i32 25] w fun x w'=>x=.returned (.string (strOfNums (aI 25)))/\aj (fun _=>False) w w':=by
 have hb:bits .and .i32 25 15=9:=by kernel_rfl
 go_enter Tryz.func135,Tryz.ntmps135;go_wp2;go_quiet (fail);go_wp2;go_ret;exact⟨by kernel_rfl,(aj.refl _ _).drewN _⟩
theorem Lp(w:World):Calls Tryz.prog 135 #[.int .i32 26] w fun x w'=>x=.returned (.string (strOfNums (aI 26)))/\aj (fun _=>False) w w':=by
 have hb:bits .and .i32 26 15=10:=by kernel_rfl
 go_enter Tryz.func135,Tryz.ntmps135;go_wp2;go_quiet (fail);go_wp2;go_ret;exact⟨by kernel_rfl,(aj.refl _ _).drewN _⟩
theorem Lr(w:World):Calls Tryz.prog 135 #[.int .i32 27] w fun x w'=>x=.returned (.string (strOfNums (aI 27)))/\aj (fun _=>False) w w':=by
 have hb:bits .and .i32 27 15=11:=by kernel_rfl
 go_enter Tryz.func135,Tryz.ntmps135;go_wp2;go_quiet (fail);go_wp2;go_ret;exact⟨by kernel_rfl,(aj.refl _ _).drewN _⟩
theorem Ls(w:World):Calls Tryz.prog 135 #[.int .i32 28] w fun x w'=>x=.returned (.string (strOfNums (aI 28)))/\aj (fun _=>False) w w':=by
 have hb:bits .and .i32 28 15=12:=by kernel_rfl
 go_enter Tryz.func135,Tryz.ntmps135;go_wp2;go_quiet (fail);go_wp2;go_ret;exact⟨by kernel_rfl,(aj.refl _ _).drewN _⟩
theorem Lt(w:World):Calls Tryz.prog 135 #[.int .i32 29] w fun x w'=>x=.returned (.string (strOfNums (aI 29)))/\aj (fun _=>False) w w':=by
 have hb:bits .and .i32 29 15=13:=by kernel_rfl
 go_enter Tryz.func135,Tryz.ntmps135;go_wp2;go_quiet (fail);go_wp2;go_ret;exact⟨by kernel_rfl,(aj.refl _ _).drewN _⟩
theorem Lu(w:World):Calls Tryz.prog 135 #[.int .i32 30] w fun x w'=>x=.returned (.string (strOfNums (aI 30)))/\aj (fun _=>False) w w':=by
 have hb:bits .and .i32 30 15=14:=by kernel_rfl
 go_enter Tryz.func135,Tryz.ntmps135;go_wp2;go_quiet (fail);go_wp2;go_ret;exact⟨by kernel_rfl,(aj.refl _ _).drewN _⟩
theorem Lv(w:World):Calls Tryz.prog 135 #[.int .i32 31] w fun x w'=>x=.returned (.string (strOfNums (aI 31)))/\aj (fun _=>False) w w':=by
 have hb:bits .and .i32 31 15=15:=by kernel_rfl
 go_enter Tryz.func135,Tryz.ntmps135;go_wp2;go_quiet (fail);go_wp2;go_ret;exact⟨by kernel_rfl,(aj.refl _ _).drewN _⟩
theorem Lx(w:World):Calls Tryz.prog 135 #[.int .i32 34] w fun x w'=>x=.returned (.string (strOfNums (aI 34)))/\aj (fun _=>False) w w':=by
 go_enter Tryz.func135,Tryz.ntmps135;go_wp2;go_ret;exact⟨by kernel_rfl,aj.refl _ _⟩
theorem LA(w:World):Calls Tryz.prog 135 #[.int .i32 92] w fun x w'=>x=.returned (.string (strOfNums (aI 92)))/\aj (fun _=>False) w w':=by
 go_enter Tryz.func135,Tryz.ntmps135;go_wp2;go_ret;exact⟨by kernel_rfl,aj.refl _ _⟩
theorem PR(w:World):Calls Tryz.prog 135 #[.int .i32 8] w fun x w'=>x=.returned (.string (strOfNums (aI 8)))/\aj (fun _=>False) w w':=by
 go_enter Tryz.func135,Tryz.ntmps135;go_wp2;go_ret;exact⟨by kernel_rfl,aj.refl _ _⟩
theorem PS(w:World):Calls Tryz.prog 135 #[.int .i32 9] w fun x w'=>x=.returned (.string (strOfNums (aI 9)))/\aj (fun _=>False) w w':=by
 go_enter Tryz.func135,Tryz.ntmps135;go_wp2;go_ret;exact⟨by kernel_rfl,aj.refl _ _⟩
theorem LB(w:World):Calls Tryz.prog 135 #[.int .i32 10] w fun x w'=>x=.returned (.string (strOfNums (aI 10)))/\aj (fun _=>False) w w':=by
 go_enter Tryz.func135,Tryz.ntmps135;go_wp2;go_ret;exact⟨by kernel_rfl,aj.refl _ _⟩
theorem LC(w:World):Calls Tryz.prog 135 #[.int .i32 12] w fun x w'=>x=.returned (.string (strOfNums (aI 12)))/\aj (fun _=>False) w w':=by
 go_enter Tryz.func135,Tryz.ntmps135;go_wp2;go_ret;exact⟨by kernel_rfl,aj.refl _ _⟩
theorem LD(w:World):Calls Tryz.prog 135 #[.int .i32 13] w fun x w'=>x=.returned (.string (strOfNums (aI 13)))/\aj (fun _=>False) w w':=by
 go_enter Tryz.func135,Tryz.ntmps135;go_wp2;go_ret;exact⟨by kernel_rfl,aj.refl _ _⟩
theorem LF(r:Nat):Utf8.encode (r:Int)=strOfNums (Lib.encodeRuneZ (r:Int)):=by
 rw[<-Go.Extern.FmtText.encode_eq];exact(zI _).symm
theorem Hw(l:Nat)(h:32<=l)(h1:l<=1114111)(JX:l≠34)(Cq:l≠92)(w:World):Calls Tryz.prog 135 #[.int .i32 l] w fun x w'=>x=.returned (.string (strOfNums (Lib.encodeRuneZ l)))/\aj (fun _=>False) w w':=by
 have g34:(l:Int)≠34:=by omega
 have g92:(l:Int)≠92:=by omega
 go_enter Tryz.func135,Tryz.ntmps135;go_wp2;go_ret;exact⟨Vn (LF l),aj.refl _ _⟩
theorem Hy(l:Nat)(h1:l<=1114111)(w:World):Calls Tryz.prog 135 #[.int .i32 l] w fun x w'=>x=.returned (.string (strOfNums (escRune l)))/\aj (fun _=>False) w w':=by
 by_cases h:l<32\/ l=34\/ l=92
 ·have e:escRune (l:Int)=aI l:=by unfold escRune;rw[if_pos (by omega)]
  rw[e];have hc:l=0\/ l=1\/ l=2\/ l=3\/ l=4\/ l=5\/ l=6\/ l=7\/ l=8\/ l=9\/ l=10\/ l=11\/ l=12\/ l=13\/ l=14\/ l=15\/ l=16\/ l=17\/ l=18\/ l=19\/ l=20\/ l=21\/ l=22\/ l=23\/ l=24\/ l=25\/ l=26\/ l=27\/ l=28\/ l=29\/ l=30\/ l=31\/ l=34\/ l=92:=by omega
  rcases hc with rfl| rfl| rfl| rfl| rfl| rfl| rfl| rfl| rfl| rfl| rfl| rfl| rfl| rfl| rfl| rfl| rfl| rfl| rfl| rfl| rfl| rfl| rfl| rfl| rfl| rfl| rfl| rfl| rfl| rfl| rfl| rfl| rfl| rfl
  ·exact PG w
  ·exact PH w
  ·exact PK w
  ·exact PL w
  ·exact PM w
  ·exact PN w
  ·exact PO w
  ·exact PQ w
  ·exact PR w
  ·exact PS w
  ·exact LB w
  ·exact K_ w
  ·exact LC w
  ·exact LD w
  ·exact La w
  ·exact Lb w
  ·exact Lc w
  ·exact Ld w
  ·exact Le w
  ·exact Lf w
  ·exact Lg w
  ·exact Lh w
  ·exact Li w
  ·exact Lj w
  ·exact Ll w
  ·exact Lm w
  ·exact Lp w
  ·exact Lr w
  ·exact Ls w
  ·exact Lt w
  ·exact Lu w
  ·exact Lv w
  ·exact Lx w
  ·exact LA w
 ·have e:escRune (l:Int)=Lib.encodeRuneZ l:=by
    unfold escRune
    split
    ·rw[Lib.encodeRuneZ_one (by omega) (by omega)];unfold aI;rw[if_neg (by omega),if_neg (by omega),if_neg (by omega),if_neg (by omega),if_neg (by omega),if_neg (by omega),if_neg (by omega),if_neg (by omega)]
    ·rfl
  rw[e];exact Hw l (by omega) h1 (by omega) (by omega) w
theorem SX{t:List Int}{p:Nat}(h:p+1<t.length):(t.drop p).take 2= [ag t p,ag t (p+1)]:=by
 unfold ag;rw[List.drop_eq_getElem_cons (by omega),List.drop_eq_getElem_cons (i:=p+1) (by omega)];simp only[List.take_succ_cons,List.take_zero,Option.getD_some,List.getD_eq_getElem?_getD,List.getElem?_eq_getElem (show p<t.length by omega),List.getElem?_eq_getElem h]
theorem LG{t:List Int}{p:Nat}(h:p+2<t.length):(t.drop p).take 3= [ag t p,ag t (p+1),ag t (p+2)]:=by
 unfold ag;rw[List.drop_eq_getElem_cons (by omega),List.drop_eq_getElem_cons (i:=p+1) (by omega),List.drop_eq_getElem_cons (i:=p+1+1) (by omega)];simp only[List.take_succ_cons,List.take_zero,Option.getD_some,List.getD_eq_getElem?_getD,List.getElem?_eq_getElem (show p<t.length by omega),List.getElem?_eq_getElem (show p+1<t.length by omega),List.getElem?_eq_getElem h]
theorem PT{t:List Int}{p:Nat}(h:p+3<t.length):(t.drop p).take 4= [ag t p,ag t (p+1),ag t (p+2),ag t (p+3)]:=by
 unfold ag;rw[List.drop_eq_getElem_cons (by omega),List.drop_eq_getElem_cons (i:=p+1) (by omega),List.drop_eq_getElem_cons (i:=p+1+1) (by omega),List.drop_eq_getElem_cons (i:=p+1+1+1) (by omega)];simp only[List.take_succ_cons,List.take_zero,Option.getD_some,List.getD_eq_getElem?_getD,List.getElem?_eq_getElem (show p<t.length by omega),List.getElem?_eq_getElem (show p+1<t.length by omega),List.getElem?_eq_getElem (show p+2<t.length by omega),List.getElem?_eq_getElem h]
theorem wJ(l:List Int)(h:∀c∈l,128<=c):l.flatMap aI=l:=by
 induction l with
 | nil=>rfl
 | cons a r ih=>
  have ha:=h a (List.mem_cons_self ..);rw[List.flatMap_cons,ih fun c hc=>h c (List.mem_cons_of_mem _ hc)];have:aI a= [a]:=by
   unfold aI;rw[if_neg (by omega),if_neg (by omega),if_neg (by omega),if_neg (by omega),if_neg (by omega),if_neg (by omega),if_neg (by omega),if_neg (by omega)]
  rw[this];rfl
theorem qZ{t:List Int}{i:Nat}(h:b_ t i=true):i<t.length/\ag t i / 64=2:=by
 unfold b_ at h;have h:=of_decide_eq_true h;exact⟨bq (fun e=>by rw[e]at h;exact absurd h (by decide)),h⟩
theorem Hz{t:List Int}{p:Nat}{c:Int}{wd:Nat}(hb:∀i,0<=ag t i/\ag t i<=255)(hp:p<t.length)(hr:bL t p=(c,wd))(h0:wd≠0):
    ((t.drop p).take wd).flatMap aI=escRune c/\p+wd<=t.length/\0<=c/\c<=1114111:=by
 have b0:=hb p;have b1:=hb (p+1);have b2:=hb (p+2);have b3:=hb (p+3);unfold bL at hr
 split at hr
 ·rename_i h1;obtain⟨rfl,rfl⟩:=Prod.mk.inj hr;refine⟨?_,by omega,by omega,by omega⟩;have e:(t.drop p).take 1= [ag t p]:=by
   unfold ag;rw[List.drop_eq_getElem_cons hp];simp only[List.take_succ_cons,List.take_zero,Option.getD_some,List.getD_eq_getElem?_getD,List.getElem?_eq_getElem hp]
  rw[e];unfold escRune;rw[if_pos h1];simp
 ·split at hr
  ·rename_i h1 h2;simp only[Bool.and_eq_true,decide_eq_true_eq]at h2;obtain⟨l1,c1⟩:=qZ h2.2
   split at hr
   ·rename_i h3;obtain⟨rfl,rfl⟩:=Prod.mk.inj hr;refine⟨?_,by omega,by omega,by omega⟩;rw[SX l1,wJ _ (by intro c hc;simp at hc;omega)];unfold escRune;rw[if_neg (by omega),Lib.encodeRuneZ_two (by omega) (by omega)];simp only[List.cons.injEq,and_true];omega
   ·obtain⟨_,rfl⟩:=Prod.mk.inj hr;exact absurd rfl h0
  ·split at hr
   ·rename_i h1 h2 h3;simp only[Bool.and_eq_true,decide_eq_true_eq]at h3;obtain⟨l1,c1⟩:=qZ h3.1.2;obtain⟨l2,c2⟩:=qZ h3.2
    split at hr
    ·rename_i h4;simp only[dK,Bool.and_eq_true,Bool.or_eq_true,decide_eq_true_eq]at h4;obtain⟨rfl,rfl⟩:=Prod.mk.inj hr;refine⟨?_,by omega,by omega,by omega⟩;rw[LG l2,wJ _ (by intro c hc;simp at hc;omega)];unfold escRune;rw[if_neg (by omega),Lib.encodeRuneZ_three (by omega)];simp only[List.cons.injEq,and_true];omega
    ·obtain⟨_,rfl⟩:=Prod.mk.inj hr;exact absurd rfl h0
   ·split at hr
    ·rename_i h1 h2 h3 h4;simp only[Bool.and_eq_true,decide_eq_true_eq]at h4;obtain⟨l1,c1⟩:=qZ h4.1.1.2;obtain⟨l2,c2⟩:=qZ h4.1.2;obtain⟨l3,c3⟩:=qZ h4.2
     split at hr
     ·rename_i h5;simp only[dK,Bool.and_eq_true,Bool.or_eq_true,decide_eq_true_eq]at h5;obtain⟨rfl,rfl⟩:=Prod.mk.inj hr;refine⟨?_,by omega,by omega,by omega⟩;rw[PT l3,wJ _ (by intro c hc;simp at hc;omega)];unfold escRune;rw[if_neg (by omega),Lib.encodeRuneZ_four (by omega) (by omega)];simp only[List.cons.injEq,and_true];omega
     ·obtain⟨_,rfl⟩:=Prod.mk.inj hr;exact absurd rfl h0
    ·obtain⟨_,rfl⟩:=Prod.mk.inj hr;exact absurd rfl h0
theorem AP{c:Int}(h:0<=c/\c<=255):(∀x∈aI c,0<=x/\x<=255)/\(aI c).length<=6:=by
 unfold aI Ci
 (repeat' split);all_goals
  refine⟨fun x hx=> ?_,by simp⟩;simp at hx;omega
theorem LH{c:Int}(h0:0<=c):(∀x∈escRune c,0<=x/\x<=255)/\(escRune c).length<=6:=by
 unfold escRune
 split
 ·exact AP ⟨h0,by omega⟩
 ·exact⟨fun x hx=>by have:=Lib.encodeRuneZ_byte c x hx;omega,by have:=(Lib.encodeRuneZ_length c).2;omega⟩
theorem NB.iterAt{B K:Nat}{w wr:World}(h:NB B K w wr){k:Nat}(hk:w.heap.size<=k)(s:ByteArray)(p:Nat):NB B K w (wr.iterAt k s p):=
 ⟨h.os,h.tape,h.output,by rw[Lib.iterAt_size];exact h.size,fun j hj hn hs=>by rw[Lib.iterAt_other _ _ _ _ _ (by omega)];exact h.block j hj hn hs⟩
theorem Cc.iterAt{w:World}{B K k:Nat}{out:List Int}{s s':ByteArray}{p p':Nat}(h:Cc w B K out)(hk:w.heap[k]?=some (.stringIter s p))(hB:B<=k):Cc (w.iterAt k s' p') B K out:=by
 obtain⟨v,h1,h2⟩:=h.row;have bJ:=h.lt;refine⟨⟨v,by rw[Lib.iterAt_other _ _ _ _ _ (by omega)];exact h1,h2.1, ?_⟩,bJ,by rw[Lib.iterAt_size];exact h.size⟩
 rcases h2.2 with hn| ⟨g,cap,cur,rfl,hg,xn,rest⟩
 ·exact .inl hn
 ·refine .inr ⟨g,cap,cur,rfl,hg, ?_,rest⟩;rw[Lib.iterAt_other _ _ _ _ _ (fun e=>by rw[e,hk]at xn;cases xn)];exact xn
theorem LJ{B K k:Nat}{w w':World}{s:ByteArray}{p:Nat}(h:NB B K w w')(hk:w.heap[k]?=some (.stringIter s p))(hK:k≠K):w'.heap[k]?=some (.stringIter s p):=by
 rw[h.block k (Array.getElem?_eq_some_iff.1 hk).1 hK (.inr fun cur fr e=>by rw[hk]at e;cases e)];exact hk
theorem iterPos_of{w:World}{k:Nat}{s:ByteArray}{p:Nat}(h:w.heap[k]?=some (.stringIter s p)):w.iterPos k=p:=by simp[World.iterPos,h]
theorem Cc.XV{w w':World}{B K:Nat}{out:List Int}(h:Cc w B K out)(hk:aj (fun _=>False) w w'):Cc w' B K out:=by
 obtain⟨v,h1,h2⟩:=h.row;have:=h.lt;have:=h.size;have:=hk.size;exact⟨⟨v,(hk.block K (by omega) fun h=>h).trans h1,bz h2 hk fun _ _ h=>h⟩,h.lt,by omega⟩
theorem PU{t:List Int}{pos wd:Nat}:t.take (pos+wd)=t.take pos++(t.drop pos).take wd:=List.take_add
theorem H_{w:World}{B K:Nat}{out:List Int}(hw:Cc w B K out)(ho:out.length<=20000)(s:ByteArray)(hl:gU (ints s)=none):
    Calls Tryz.prog 110 #[.pointer (some ⟨K,0,none⟩),.string s] w fun x w'=>iJ w w' B K out (quote (ints s)) x:=by
 have hq:=jW hw ho ⟨#[34]⟩ (by decide);have Ia:Hid (K<B/\B<=w.heap.size):=⟨hw.lt,hw.size⟩;go_enter Tryz.func110,Tryz.ntmps110;go_wp2_with(go_at_call 107;refine hq.mono ?_;rintro x w1 ⟨rfl,⟨SY,XW,XX,U1⟩,GX⟩)
 go_loopw [5] (fun _ wr=>∃(pos m:Nat) (vD:List Int),wr.heap[w1.heap.size]?=some (.stringIter s pos)/\pos<=s.size/\s.size<=pos+m/\strayL (ints s) m pos=none/\Ga out (34::((ints s).take pos).flatMap aI) vD/\vD.length<=20000/\Cc wr B K vD/\NB B K w wr) (fun _ wr=>s.size - wr.iterPos w1.heap.size)
 case atStart=>exact⟨0,s.size,SY,World.iter_heap w1 s 0,Nat.zero_le _,by omega,by unfold gU at hl;rw[ax]at hl;exact hl,XW,XX,U1.alloc _,GX.alloc _⟩
 case round=>
  obtain⟨pos,m,za7,hit,hps,hpm,lV,Hu,Q_,Ib,GY⟩:=hrel;have HN:Hid (w.heap.size<=w1.heap.size):=GX.size;clear hq hw XW XX U1 GX hl;have za8:=iterPos_of hit;have S_:=Ia.out;have hNN:=HN.out
  by_cases hp:pos<s.size
  ·have GQ:∀ty,(Instr.next (.pointer (some ⟨w1.heap.size,0,none⟩)) true ty).run Tryz.prog wr=_:=fun ty=>Lib.run_next_any_at wr w1.heap.size s pos ty hit hp;obtain⟨m,rfl⟩:∃m',m=m'+1:=⟨m - 1,by omega⟩;unfold strayL at lV;rw[ax,if_pos hp]at lV;have rX:=si s pos;obtain⟨⟨c,wd⟩,hr⟩:∃r,bL (ints s) pos=r:=⟨_,rfl⟩;rw[hr]at lV rX;have h0:wd≠0:=fun e=>by simp only[e,if_true]at lV;cases lV
   simp only[if_neg h0]at lV rX;obtain⟨he,Ch,Q5,GI⟩:=Hz (jV s) (by rw[ax];exact hp) hr h0;rw[ax]at Ch;obtain⟨c,rfl⟩:∃n:Nat,c=n:=⟨c.toNat,by omega⟩;rw[show((c:Int).toNat)=c by simp]at rX;rw[rX]at GQ;have ZR:=Lib.iterAt_heap wr w1.heap.size s pos (pos+wd) hit;have NP:=GY.iterAt hNN s (pos+wd);have NQ:=Ib.iterAt (s':=s) (p':=pos+wd) hit (by omega);obtain⟨W1,XY⟩:∃W1,W1=wr.iterAt w1.heap.size s (pos+wd):=⟨_,rfl⟩;simp only at GQ;rw[<-XY]at GQ ZR NP NQ;have hes:=Hy c (by omega) W1;obtain⟨oK,yY⟩:=LH Q5;obtain⟨u,hu⟩:∃u,strOfNums (escRune (c:Int))=u:=⟨_,rfl⟩;have HU:Hid (ints u=escRune (c:Int)):=by show ints u=_;rw[<-hu];exact vU _ oK
   have Ta:u.size<=100:=by rw[<-hu,fF];omega
   rw[hu]at hes;have yX:Hid (strayL (ints s) m (pos+wd)=none):=lV;clear XY hit hu rX lV oK yY;go_wp2_with(first
    | (go_at_call 135;refine hes.mono ?_;rintro x w4 ⟨rfl,uF⟩
       have F5:=NQ.XV uF;have zd5:=(uF.block _ (Array.getElem?_eq_some_iff.1 ZR).1 (fun h=>h)).trans ZR;have hpt:=jW F5 Q_ u Ta)
    | (go_at_call 107;refine hpt.mono ?_;rintro x w5 ⟨rfl,⟨za9,hp5,ho5,XZ⟩,VV⟩))
   have zba:=LJ VV zd5 (by omega);have zbb:=iterPos_of zba;go_roundw
   case rel=>
    refine⟨pos+wd,m,za9,zba,Ch,by omega,yX.out, ?_,ho5,XZ,(NP.trans (NB.bf (uF.mono fun _ _ h=>h.elim))).trans VV⟩;have:=Hu.trans hp5;rw[HU.out,<-he]at this;rw[PU,List.flatMap_append];exact this
   case measure=>rw[zbb,za8];omega
  ·have GQ:∀ty,(Instr.next (.pointer (some ⟨w1.heap.size,0,none⟩)) true ty).run Tryz.prog wr=_:=fun ty=>Lib.run_next_end_at wr w1.heap.size s pos ty hit hp;have PV:=jW Ib Q_ ⟨#[34]⟩ (by decide);go_wp2_with(go_at_call 107;refine PV.mono ?_;rintro x w3 ⟨rfl,⟨Ic,VW,Tc,NQ⟩,NP⟩)
   go_end0
   refine⟨rfl,⟨Ic, ?_,Tc,NQ⟩,GY.trans NP⟩;have:=Hu.trans VW;rw[List.take_of_length_le (by rw[ax];omega)]at this;exact this
theorem xH(j:J):∀(l:List J) (b:Bool),gq b (l++ [j])=gq b l++((if l.length=0/\b=true then []else [44])++aZ j)
 | [],b=>by
  rw[List.nil_append,gT]
  cases b<;>simp[gq]
 | i::r,b=>by
  rw[List.cons_append,gT,gT,xH j r false];simp
theorem xI(j:J):∀(l:List J) (ks:List ByteArray) (b:Bool),fU b ks (l++ [j])=fU b ks l++((if l.length=0/\b=true then []else [44])++(quote (ints (ks.getD l.length aH))++(58::aZ j)))
 | [],ks,b=>by
  rw[List.nil_append,iM]
  cases b<;>cases ks<;>simp[fU]
 | i::r,ks,b=>by
  rw[List.cons_append,iM,iM,xI j r ks.tail false]
  cases ks<;>simp
abbrev Ra(K:Nat)(w:World):Prop:=Lib.TabBelow Tryz.prog K w "internal/strconv.uint64pow10" .u64 Lib.pow10Tab
theorem LK{B K:Nat}{w w':World}(h:Ra K w)(n:NB B K w w')(hK:K<=B)(hB:K<=w.heap.size):Ra K w':=fun w2 h2=>h w2 ((n.below hK hB).trans h2)
def wideJ:Nat->J->Bool
 | 0,_=>true
 | d+1,.mk _ _ _ _ l=>decide (l.length<=100000)&&l.all (wideJ d)
def qd(d:Nat)(j:J):Bool:=goodJ d j&&wideJ d j
def xJ(d:Nat):Prop:=∀(w:World) (B K:Nat) (out:List Int) (O:Nat->Prop) (j:J) (k i:Int) (t:ByteArray) (pk pl:Option Addr) (nk ck nl cl:Nat),Cc w B K out->out.length<=20000->(∀x,O x->x<B/\x≠K)->Ra K w→
 qd d j=true->isJ O w j [.int .i64 k,.int .i64 i,.string t,.slice pk nk ck,.slice pl nl cl]→
 Calls Tryz.prog 77 #[.pointer (some ⟨K,0,none⟩),.agg #[.int .i64 k,.int .i64 i,.string t,.slice pk nk ck,.slice pl nl cl]] w fun x w'=>iJ w w' B K out (aZ j) x
theorem dD{O:Nat->Prop}{w:World}{j:J}{cs:List Value}(h:isJ O w j cs):∃k i t pk nk ck pl nl cl,cs= [.int .i64 k,.int .i64 i,.string t,.slice pk nk ck,.slice pl nl cl]:=by
 cases j
 unfold isJ at h;obtain⟨pk,ck,pl,cl,e,_⟩:=h;exact⟨_,_,_,_,_,_,_,_,_,e⟩
theorem mg{B K:Nat}{w w':World}{O:Nat->Prop}(n:NB B K w w')(hB:B<=w.heap.size)(hO:∀x,O x->x<B/\x≠K):∀x,O x->O x/\w'.heap[x]?=w.heap[x]?:=
 fun x hx=>⟨hx,n.block x (by have:=(hO x hx).1;omega) (hO x hx).2 (.inl (hO x hx).1)⟩
theorem gQ{l:List J}{k:Nat}(h:k<l.length):l.take (k+1)=l.take k++ [l.getD k J.zero]:=by
 rw[List.take_add_one,List.getElem?_eq_getElem h,List.getD_eq_getElem?_getD,List.getElem?_eq_getElem h]
 rfl
theorem AQ{B K:Nat}{wr w3:World}{cs:Array Value}(n:NB B K (wr.alloc (.cells cs 25)) w3)(hK:K<wr.heap.size):w3.heap[wr.heap.size]?=some (.cells cs 25 (0,0)):=by
 have h:=heap_alloc_new wr (.cells cs 25);rw[n.block wr.heap.size (by simp) (by omega) (.inr fun cur fr e=>by rw[h]at e;injection e with e;injection e with _ e2 _;exact absurd e2 (by decide))];exact h
theorem ZT{d:Nat}(V:xJ d){w:World}{B K:Nat}{out:List Int}{O:Nat->Prop}{l:List J}{pl:Option Addr}{cl:Nat}(hw:Cc w B K out)(ho:out.length<=20000)(hO:∀x,O x->x<B/\x≠K)(hT:Ra K w)
    (hg:l.all (qd d)=true) (hj:isJs O w pl 0 l) (hc:l.length<=cl) (cB:l.length<=1000000):
    Calls Tryz.prog 111 #[.pointer (some ⟨K,0,none⟩),.slice pl l.length cl] w fun x w'=>iJ w w' B K out (91::(gq true l++ [93])) x:=by
 have hq:=jW hw ho ⟨#[91]⟩ (by decide);have Ia:Hid (K<B/\B<=w.heap.size):=⟨hw.lt,hw.size⟩;obtain⟨n,hn⟩:∃n,l.length=n:=⟨_,rfl⟩;have HN:Hid (l.length=n):=hn;rw[hn]at hc cB ⊢;clear hn;go_enter Tryz.func111,Tryz.ntmps111;go_wp2_with(go_at_call 107;refine hq.mono ?_;rintro x w1 ⟨rfl,⟨SY,XW,XX,U1⟩,GX⟩)
 go_loopw [10] (fun i wr=>∃(k:Nat) (vD:List Int),i=.int .i64 k/\k<=n/\Ga out (91::gq true (l.take k)) vD/\vD.length<=20000/\Cc wr B K vD/\NB B K w wr) (fun i _=>n - (intOf i).toNat)
 case atStart=>exact⟨0,SY,rfl,Nat.zero_le _,by rw[List.take_zero];exact XW,XX,U1,GX⟩
 case round=>
  clear XW XX U1 GX hq;obtain⟨k,za7,rfl,hk,rZ,Q_,Ib,GY⟩:=hrel;have S_:=Ia.out
  by_cases gM:k<n
  ·have xK:k<l.length:=by rw[HN.out];exact gM
   obtain⟨lb,lo,cs,tY,xz,bY,jF⟩:=isJs.at l 0 k hj xK;subst tY;obtain⟨kv,iv,tv,pv,nv,cv,qv,mv,dv,rfl⟩:=dD jF;have jA:=(mg GY S_.2 hO lb xz).2;have cc:∀m v, [Value.int .i64 kv,.int .i64 iv,.string tv,.slice pv nv cv,.slice qv mv dv][m]?=some v->wr.cell? ⟨lb,lo+k*5+m,none⟩=some v:=fun m v h=>by
    have:=bY m v h;rw[Nat.zero_add]at this;exact(World.cell?_of_block (a:=⟨lb,lo+k*5+m,none⟩) jA).trans this
   have y0:wr.cell? ⟨lb,lo+k*5,none⟩=some (.int .i64 kv):=cc 0 _ rfl;have y1:=cc 1 _ rfl;have y2:=cc 2 _ rfl;have y3:=cc 3 _ rfl;have y4:=cc 4 _ rfl;clear cc bY;have Gi:(k:Int)<(n:Int):=by omega
   have hm:=DK (Ib.alloc (.cells #[.int .i64 kv,.int .i64 iv,.string tv,.slice pv nv cv,.slice qv mv dv] 25)) Q_ k (by omega);have HG:Hid (qd d (l.getD k J.zero)=true):=by
    have:=List.all_eq_true.1 hg (l.getD k J.zero) (by rw[List.getD_eq_getElem?_getD,List.getElem?_eq_getElem xK];exact List.getElem_mem xK);exact this
   go_wp2_with(first
    | (go_at_call 136;refine hm.mono ?_;rintro x w3 ⟨rfl,⟨Ic,VW,Tc,NQ⟩,NP⟩
       have hvb:=AQ NP (by have:=GY.size;omega);obtain⟨j0,j1,j2,j3,j4⟩:=ai hvb;have U2:=(GY.alloc (.cells #[.int .i64 kv,.int .i64 iv,.string tv,.slice pv nv cv,.slice qv mv dv] 25)).trans NP;have hV:=V w3 B K Ic O _ kv iv tv pv qv nv cv mv dv NQ Tc hO (LK hT U2 (by omega) (by omega)) HG.out (jF.carry (mg U2 S_.2 hO)))
    | (go_at_call 77;refine hV.mono ?_;rintro x w4 ⟨rfl,⟨ZU,hp4,bQ,F5⟩,hn4⟩))
   go_roundw
   case rel=>
    refine⟨k+1,ZU,by go_num,gM, ?_,bQ,F5,U2.trans hn4⟩;have:=(rZ.trans VW).trans hp4;rw[gQ xK,xH,List.length_take,Nat.min_eq_left (by omega)];simp only[and_true];simpa using this
   case measure=>simp[intOf];omega
  ·obtain rfl:k=n:=by omega
   have PV:=jW Ib Q_ ⟨#[93]⟩ (by decide);go_wp2_with(go_at_call 107;refine PV.mono ?_;rintro x w3 ⟨rfl,⟨Ic,VW,Tc,NQ⟩,NP⟩)
   go_end0
   refine⟨rfl,⟨Ic, ?_,Tc,NQ⟩,GY.trans NP⟩;have:=rZ.trans VW;rw[List.take_of_length_le (by rw[HN.out];omega)]at this;exact this
theorem VX{d:Nat}(V:xJ d){w:World}{B K:Nat}{out:List Int}{O:Nat->Prop}{ks:List ByteArray}{l:List J}{pk pl:Option Addr}{ck cl:Nat}(hw:Cc w B K out)(ho:out.length<=20000)(hO:∀x,O x->x<B/\x≠K)(hT:Ra K w)
    (hg:l.all (qd d)=true) (Ce:ks.all letters=true) (JU:ks.length=l.length) (lM:jT O w pk ck ks) (hj:isJs O w pl 0 l) (hc:l.length<=cl) (cB:l.length<=1000000):
    Calls Tryz.prog 112 #[.pointer (some ⟨K,0,none⟩),.slice pk ks.length ck,.slice pl l.length cl] w fun x w'=>iJ w w' B K out (123::(fU true ks l++ [125])) x:=by
 have hq:=jW hw ho ⟨#[123]⟩ (by decide);have Ia:Hid (K<B/\B<=w.heap.size):=⟨hw.lt,hw.size⟩;obtain⟨n,hn⟩:∃n,l.length=n:=⟨_,rfl⟩;have HN:Hid (l.length=n):=hn;have HKN:Hid (ks.length=n):=JU.trans hn;rw[JU.trans hn];rw[hn]at hc cB ⊢;clear hn JU;go_enter Tryz.func112,Tryz.ntmps112;go_wp2_with(go_at_call 107;refine hq.mono ?_;rintro x w1 ⟨rfl,⟨SY,XW,XX,U1⟩,GX⟩)
 go_loopw [12] (fun i wr=>∃(k:Nat) (vD:List Int),i=.int .i64 k/\k<=n/\Ga out (123::fU true ks (l.take k)) vD/\vD.length<=20000/\Cc wr B K vD/\NB B K w wr) (fun i _=>n - (intOf i).toNat)
 case atStart=>exact⟨0,SY,rfl,Nat.zero_le _,by rw[List.take_zero];exact XW,XX,U1,GX⟩
 case round=>
  clear XW XX U1 GX hq;obtain⟨k,za7,rfl,hk,rZ,Q_,Ib,GY⟩:=hrel;have S_:=Ia.out
  by_cases gM:k<n
  ·have xK:k<l.length:=by rw[HN.out];exact gM
   obtain⟨lb,lo,cs,tY,xz,bY,jF⟩:=isJs.at l 0 k hj xK;subst tY;obtain⟨kv,iv,tv,pv,nv,cv,qv,mv,dv,rfl⟩:=dD jF;have jA:=(mg GY S_.2 hO lb xz).2;have cc:∀m v, [Value.int .i64 kv,.int .i64 iv,.string tv,.slice pv nv cv,.slice qv mv dv][m]?=some v->wr.cell? ⟨lb,lo+k*5+m,none⟩=some v:=fun m v h=>by
    have:=bY m v h;rw[Nat.zero_add]at this;exact(World.cell?_of_block (a:=⟨lb,lo+k*5+m,none⟩) jA).trans this
   have y0:wr.cell? ⟨lb,lo+k*5,none⟩=some (.int .i64 kv):=cc 0 _ rfl;have y1:=cc 1 _ rfl;have y2:=cc 2 _ rfl;have y3:=cc 3 _ rfl;have y4:=cc 4 _ rfl;clear cc bY;obtain⟨ad,Cy,uC,jH⟩:=lM.2 k (by rw[HKN.out];exact gM);subst Cy;obtain⟨key,qf⟩:∃key,ks.getD k aH=key:=⟨_,rfl⟩;rw[qf]at jH;have ZV:Hid (ks.getD k aH=key):=qf;have zd6:gU (ints key)=none:=by
    have hm:=List.all_eq_true.1 Ce (ks.getD k aH) (by rw[List.getD_eq_getElem?_getD,List.getElem?_eq_getElem (by rw[HKN.out];exact gM)];exact List.getElem_mem _);rw[qf]at hm;unfold letters at hm;exact Option.isNone_iff_eq_none.1 hm
   clear qf;have Ca:n<=ck:=by have:=lM.1;rw[HKN.out]at this;exact this
   have Gi:(k:Int)<(n:Int):=by omega
   have hm:=DK (Ib.alloc (.cells #[.int .i64 kv,.int .i64 iv,.string tv,.slice pv nv cv,.slice qv mv dv] 25)) Q_ k (by omega);have HG:Hid (qd d (l.getD k J.zero)=true):=by
    have:=List.all_eq_true.1 hg (l.getD k J.zero) (by rw[List.getD_eq_getElem?_getD,List.getElem?_eq_getElem xK];exact List.getElem_mem xK);exact this
   go_wp2_with(first
    | (go_at_call 136;refine hm.mono ?_;rintro x w3 ⟨rfl,⟨Ic,VW,Tc,NQ⟩,NP⟩
       have U2:=(GY.alloc (.cells #[.int .i64 kv,.int .i64 iv,.string tv,.slice pv nv cv,.slice qv mv dv] 25)).trans NP;have zeQ:w3.cell? (ad.add k)=some (.string key):=(World.cell?_of_block (by rw[aY];exact(mg U2 S_.2 hO ad.block uC).2)).trans jH;have hx:=H_ NQ Tc key zd6)
    | (go_at_call 110;refine hx.mono ?_;rintro x w5 ⟨rfl,⟨za9,hp5,ho5,XZ⟩,VV⟩
       have VY:=jW XZ ho5 ⟨#[58]⟩ (by decide))
    | (go_at_call 107;refine VY.mono ?_;rintro x w6 ⟨rfl,⟨zd7,hp6,ho6,hw6⟩,hn6⟩
       have zd8:=AQ ((NP.trans VV).trans hn6) (by have:=GY.size;omega);obtain⟨j0,j1,j2,j3,j4⟩:=ai zd8;have hnB:=(U2.trans VV).trans hn6;have hV:=V w6 B K zd7 O _ kv iv tv pv qv nv cv mv dv hw6 ho6 hO (LK hT hnB (by omega) (by omega)) HG.out (jF.carry (mg hnB S_.2 hO)))
    | (go_at_call 77;refine hV.mono ?_;rintro x w4 ⟨rfl,⟨ZU,hp4,bQ,F5⟩,hn4⟩))
   go_roundw
   case rel=>
    refine⟨k+1,ZU,by go_num,gM, ?_,bQ,F5,hnB.trans hn4⟩;have:=(((rZ.trans VW).trans hp5).trans hp6).trans hp4;rw[gQ xK,xI,List.length_take,Nat.min_eq_left (by omega)];rw[ZV.out];have e58:ints ⟨#[58]⟩= [58]:=rfl;rw[e58]at this;simpa using this
   case measure=>simp[intOf];omega
  ·obtain rfl:k=n:=by omega
   have PV:=jW Ib Q_ ⟨#[125]⟩ (by decide);go_wp2_with(go_at_call 107;refine PV.mono ?_;rintro x w3 ⟨rfl,⟨Ic,VW,Tc,NQ⟩,NP⟩)
   go_end0
   refine⟨rfl,⟨Ic, ?_,Tc,NQ⟩,GY.trans NP⟩;have:=rZ.trans VW;rw[List.take_of_length_le (by rw[HN.out];omega)]at this;exact this
theorem PW(b:Bool)(w:World):Calls Tryz.prog 108 #[.bool b] w fun x w'=>x=.returned (.string (if b=true then⟨#[116,114,117,101]⟩else⟨#[102,97,108,115,101]⟩))/\w=w':=by
 cases b
 all_goals
  go_enter Tryz.func108,Tryz.ntmps108;go_wp2;go_ret;exact⟨rfl,rfl⟩
theorem Td(n:Int)(h0: -9223372036854775808<=n)(h1:n<=9223372036854775807){K:Nat}{w:World}(hT:Ra K w):
    Calls Tryz.prog 109 #[.int .i64 n,.int .i64 10] w fun x w'=>x=.returned (.string ⟨(Lib.itoa n).toArray⟩)/\aj (fun _=>False) w w':=by
 refine(Tryz.strconv_FormatInt_10 n h0 h1 w hT.here).mono ?_;rintro x w' ⟨rfl,k,os,rfl⟩;exact⟨rfl,aj.fO (Lib.below_grow _ w (Nat.le_refl _) k os)⟩
theorem iJ.box{w w':World}{B K:Nat}{out s:List Int}{x:Ending}{o:Obj}(h:iJ (w.alloc o) w' B K out s x):iJ w w' B K out s x:=⟨h.1,h.2.1,((NB.refl B K w).alloc o).trans h.2.2⟩
theorem Ie:xJ 0:=by
 intro w B K out O j k i t pk pl nk ck nl cl hw ho hO hT hg hj;unfold qd goodJ at hg
 cases hg
theorem Ig{d:Nat}(V:xJ d):xJ (d+1):=by
 intro w B K out O j k i t pk pl nk ck nl cl hw ho hO hT hg hj
 cases j with
 | mk k' i' t' ks l=>
  unfold isJ at hj;obtain⟨F7,DL,F8,uG,e,lM,DN,ny⟩:=hj
  cases e
  unfold qd goodJ wideJ at hg;simp only[Bool.and_eq_true]at hg;obtain⟨⟨_,hg⟩,XT,hwl⟩:=hg;have XT:=of_decide_eq_true XT;have fI:=hw.size;have bJ:=hw.lt;have ZW:=hw.alloc (.cells #[.int .i64 k,.int .i64 i,.string t,.slice pk ks.length ck,.slice pl l.length cl] 25);have U2:NB B K w (w.alloc (.cells #[.int .i64 k,.int .i64 i,.string t,.slice pk ks.length ck,.slice pl l.length cl] 25)):=(NB.refl _ _ _).alloc _;have AR:Ra K (w.alloc (.cells #[.int .i64 k,.int .i64 i,.string t,.slice pk ks.length ck,.slice pl l.length cl] 25)):=LK hT U2 (by omega) (by omega);have zd9:=lM.carry (mg U2 fI hO);have zbc:=ny.carry (mg U2 fI hO)
  by_cases k0:k=0
  ·subst k0;have hq:=jW ZW ho ⟨#[110,117,108,108]⟩ (by decide);go_enter Tryz.func77,Tryz.ntmps77;go_wp2_with(go_at_call 107;refine hq.mono ?_;intro x w2 rZ;obtain⟨rfl,rZ⟩:=rZ)
   go_end0
   exact iJ.box ⟨rfl,rZ⟩
  rw[if_neg k0]at hg
  by_cases k1:k=1
  ·subst k1;rw[if_pos rfl]at hg;have fb:=fun b=>PW b (w.alloc (.cells #[.int .i64 1,.int .i64 i,.string t,.slice pk ks.length ck,.slice pl l.length cl] 25))
   by_cases h1:i=1
   ·subst h1;have hq:=jW ZW ho ⟨#[116,114,117,101]⟩ (by decide);have fb:=fb true;rw[if_pos rfl]at fb;go_enter Tryz.func77,Tryz.ntmps77;go_wp2_with(first
     | (go_at_call 108;refine fb.mono ?_;rintro x w' ⟨rfl,rfl⟩)
     | (go_at_call 107;refine hq.mono ?_;intro x w2 rZ;obtain⟨rfl,rZ⟩:=rZ))
    go_end0
    exact iJ.box ⟨rfl,rZ⟩
   ·have h1:i=0:=by
      simp only[Bool.or_eq_true,decide_eq_true_eq]at hg;omega
    subst h1;have hq:=jW ZW ho ⟨#[102,97,108,115,101]⟩ (by decide);have fb:=fb false;rw[if_neg (by decide)]at fb;go_enter Tryz.func77,Tryz.ntmps77;go_wp2_with(first
     | (go_at_call 108;refine fb.mono ?_;rintro x w' ⟨rfl,rfl⟩)
     | (go_at_call 107;refine hq.mono ?_;intro x w2 rZ;obtain⟨rfl,rZ⟩:=rZ))
    go_end0
    exact iJ.box ⟨rfl,rZ⟩
  rw[if_neg k1]at hg
  by_cases k2:k=2
  ·subst k2;rw[if_pos rfl]at hg;simp only[Bool.and_eq_true,decide_eq_true_eq]at hg;unfold bK at hg;have fi:=Td i (by omega) (by omega) AR;have cB:=Lib.itoa_length_le i (by omega) (by omega);obtain⟨u,hu⟩:∃u:ByteArray,(⟨(Lib.itoa i).toArray⟩:ByteArray)=u:=⟨_,rfl⟩;have HU:Hid (ints u=aZ (.mk 2 i t ks l)):=by
    show _=_
    rw[<-hu];unfold aZ uy ints
    rfl
   have Ta:u.size<=100:=by
    rw[<-hu]
    show(Lib.itoa i).toArray.size<=100
    simp;omega
   rw[hu]at fi;clear hu cB;go_enter Tryz.func77,Tryz.ntmps77;go_wp2_with(first
    | (go_at_call 109;refine fi.mono ?_;rintro x w3 ⟨rfl,eY⟩;have hq:=jW (ZW.XV eY) ho u Ta)
    | (go_at_call 107;refine hq.mono ?_;intro x w2 rZ;obtain⟨rfl,rZ⟩:=rZ))
   go_end0
   rw[HU.out]at rZ;exact iJ.box ⟨rfl,rZ.1,(NB.bf (eY.mono fun _ _ h=>h.elim)).trans rZ.2⟩
  rw[if_neg k2]at hg
  by_cases k3:k=3
  ·subst k3;rw[if_pos rfl]at hg;have hq:=H_ ZW ho t (Option.isNone_iff_eq_none.1 hg);go_enter Tryz.func77,Tryz.ntmps77;go_wp2_with(go_at_call 110;refine hq.mono ?_;intro x w2 rZ;obtain⟨rfl,rZ⟩:=rZ)
   go_end0
   exact iJ.box ⟨rfl,by unfold aZ;exact rZ⟩
  rw[if_neg k3]at hg
  by_cases k4:k=4
  ·subst k4;rw[if_pos rfl]at hg;have eO:l.all (qd d)=true:=by
    rw[List.all_eq_true]at hg hwl ⊢;intro x hx;unfold qd;rw[hg x hx,hwl x hx]
    rfl
   have hq:=ZT V ZW ho hO AR eO zbc DN (by omega);clear hg hwl eO;go_enter Tryz.func77,Tryz.ntmps77;go_wp2_with(go_at_call 111;refine hq.mono ?_;intro x w2 rZ;obtain⟨rfl,rZ⟩:=rZ)
   go_end0
   exact iJ.box ⟨rfl,by unfold aZ;exact rZ⟩
  rw[if_neg k4]at hg
  by_cases k5:k=5
  ·subst k5;rw[if_pos rfl]at hg;simp only[Bool.and_eq_true,decide_eq_true_eq]at hg;obtain⟨⟨gM,Ce,_⟩,hg⟩:=hg;have eO:l.all (qd d)=true:=by
    rw[List.all_eq_true]at hg hwl ⊢;intro x hx;unfold qd;rw[hg x hx,hwl x hx]
    rfl
   have hq:=VX V ZW ho hO AR eO Ce gM zd9 zbc DN (by omega);clear hg hwl eO Ce;have BX:Hid (ks.length=l.length):=gM;clear gM;go_enter Tryz.func77,Tryz.ntmps77;go_wp2_with(go_at_call 112;refine hq.mono ?_;intro x w2 rZ;obtain⟨rfl,rZ⟩:=rZ)
   go_end0
   exact iJ.box ⟨rfl,by unfold aZ;exact rZ⟩
  rw[if_neg k5]at hg
  cases hg
theorem writes:∀d,xJ d
 | 0=>Ie
 | d+1=>Ig (writes d)
theorem yF(s:ByteArray)(w:World)(hs:s.size<=1000000000):Calls Tryz.prog 128 #[.string s] w fun x w'=>x=.returned (.bool (letters s))/\Below w.heap.size w w':=by
 have sa:=DI s w hs
 cases lV:gU (ints s)with
 | none=>
  have HL:Hid (letters s=true):=by show letters s=true;unfold letters;rw[lV];rfl
  rw[lV]at sa;go_enter Tryz.func128,Tryz.ntmps128;go_wp2_with(go_at_call 79;refine sa.mono ?_;rintro x w1 ⟨rfl,pos,rfl⟩);go_ret;exact⟨av HL.out.symm,(Below.refl _ _).alloc (Nat.le_refl _) _⟩
 | some p=>
  have HL:Hid (letters s=false):=by show letters s=false;unfold letters;rw[lV];rfl
  rw[lV]at sa;go_enter Tryz.func128,Tryz.ntmps128;go_wp2_with(go_at_call 79;refine sa.mono ?_;rintro x w1 ⟨rfl,pos,rfl⟩);go_ret;exact⟨av HL.out.symm,(Below.refl _ _).alloc (Nat.le_refl _) _⟩
theorem NR{t:ByteArray}:(t.toList== [])=decide (t.size=0):=by
 rw[Lib.toList_data,Bool.eq_iff_iff];simp only[beq_iff_eq,decide_eq_true_eq]
 constructor
 ·intro h
  show t.data.size=0
  rw[<-Array.length_toList,h];rfl
 ·intro h;exact List.eq_nil_of_length_eq_zero (by rw[Array.length_toList];exact h)
def bO(k i:Int)(t:ByteArray)(nk nl:Nat):Bool:=(decide (i=0) || decide (k=1) || decide (k=2))&&(decide (t.size=0) || decide (k=3))&&(decide (nk=0) || decide (k=5))&&(decide (nl=0) || decide (k=4) || decide (k=5))
theorem Te(k i:Int)(t:ByteArray)(pk pl:Option Addr)(nk ck nl cl:Nat)(w:World):
    Calls Tryz.prog 127 #[.agg #[.int .i64 k,.int .i64 i,.string t,.slice pk nk ck,.slice pl nl cl]] w fun x w'=>x=.returned (.bool (bO k i t nk nl))/\Below w.heap.size w w':=by
 have hn:=NR (t:=t)
 by_cases h1:i=0
 ·subst h1
  by_cases h2:t.size=0
  ·rw[decide_eq_true h2]at hn
   by_cases h3:nk=0
   ·subst h3
    by_cases h4:nl=0
    ·subst h4;have HB:Hid (bO k 0 t 0 0=true):=by show _=_;unfold bO;simp[*]
     go_enter Tryz.func127,Tryz.ntmps127;go_wp2;go_ret;refine⟨av ?_,(Below.refl _ _).alloc (Nat.le_refl _) _⟩
     first| exact HB.out.symm| (rw[HB.out];simp;omega)
    ·skip
     by_cases a1:k=4
     ·subst a1;have HB:Hid (bO 4 0 t 0 nl=true):=by show _=_;unfold bO;simp[*]
      go_enter Tryz.func127,Tryz.ntmps127;go_wp2;go_ret;refine⟨av ?_,(Below.refl _ _).alloc (Nat.le_refl _) _⟩
      first| exact HB.out.symm| (rw[HB.out];simp;omega)
     ·skip
      by_cases a2:k=5
      ·subst a2;have HB:Hid (bO 5 0 t 0 nl=true):=by show _=_;unfold bO;simp[*]
       go_enter Tryz.func127,Tryz.ntmps127;go_wp2;go_ret;refine⟨av ?_,(Below.refl _ _).alloc (Nat.le_refl _) _⟩
       first| exact HB.out.symm| (rw[HB.out];simp;omega)
      ·skip
       have HB:Hid (bO k 0 t 0 nl=false):=by show _=_;unfold bO;simp[*]
       go_enter Tryz.func127,Tryz.ntmps127;go_wp2;go_ret;refine⟨av ?_,(Below.refl _ _).alloc (Nat.le_refl _) _⟩
       first| exact HB.out.symm| (rw[HB.out];simp;omega)
   ·have h3p:0<nk:=by omega
    by_cases a3:k=5
    ·subst a3
     by_cases h4:nl=0
     ·subst h4;have HB:Hid (bO 5 0 t nk 0=true):=by show _=_;unfold bO;simp[*]
      go_enter Tryz.func127,Tryz.ntmps127;go_wp2;go_ret;refine⟨av ?_,(Below.refl _ _).alloc (Nat.le_refl _) _⟩
      first| exact HB.out.symm| (rw[HB.out];simp;omega)
     ·skip
      have HB:Hid (bO 5 0 t nk nl=true):=by show _=_;unfold bO;simp[*]
      go_enter Tryz.func127,Tryz.ntmps127;go_wp2;go_ret;refine⟨av ?_,(Below.refl _ _).alloc (Nat.le_refl _) _⟩
      first| exact HB.out.symm| (rw[HB.out];simp;omega)
    ·skip
     have HB:Hid (bO k 0 t nk nl=false):=by show _=_;unfold bO;simp[*]
     go_enter Tryz.func127,Tryz.ntmps127;go_wp2;go_ret;refine⟨av ?_,(Below.refl _ _).alloc (Nat.le_refl _) _⟩
     first| exact HB.out.symm| (rw[HB.out];simp;omega)
  ·rw[decide_eq_false h2]at hn
   by_cases a4:k=3
   ·subst a4
    by_cases h3:nk=0
    ·subst h3
     by_cases h4:nl=0
     ·subst h4;have HB:Hid (bO 3 0 t 0 0=true):=by show _=_;unfold bO;simp[*]
      go_enter Tryz.func127,Tryz.ntmps127;go_wp2;go_ret;refine⟨av ?_,(Below.refl _ _).alloc (Nat.le_refl _) _⟩
      first| exact HB.out.symm| (rw[HB.out];simp;omega)
     ·skip
      have HB:Hid (bO 3 0 t 0 nl=false):=by show _=_;unfold bO;simp[*]
      go_enter Tryz.func127,Tryz.ntmps127;go_wp2;go_ret;refine⟨av ?_,(Below.refl _ _).alloc (Nat.le_refl _) _⟩
      first| exact HB.out.symm| (rw[HB.out];simp;omega)
    ·have h3p:0<nk:=by omega
     have HB:Hid (bO 3 0 t nk nl=false):=by show _=_;unfold bO;simp[*]
     go_enter Tryz.func127,Tryz.ntmps127;go_wp2;go_ret;refine⟨av ?_,(Below.refl _ _).alloc (Nat.le_refl _) _⟩
     first| exact HB.out.symm| (rw[HB.out];simp;omega)
   ·skip
    have HB:Hid (bO k 0 t nk nl=false):=by show _=_;unfold bO;simp[*]
    go_enter Tryz.func127,Tryz.ntmps127;go_wp2;go_ret;refine⟨av ?_,(Below.refl _ _).alloc (Nat.le_refl _) _⟩
    first| exact HB.out.symm| (rw[HB.out];simp;omega)
 ·skip
  by_cases a5:k=1
  ·subst a5
   by_cases h2:t.size=0
   ·rw[decide_eq_true h2]at hn
    by_cases h3:nk=0
    ·subst h3
     by_cases h4:nl=0
     ·subst h4;have HB:Hid (bO 1 i t 0 0=true):=by show _=_;unfold bO;simp[*]
      go_enter Tryz.func127,Tryz.ntmps127;go_wp2;go_ret;refine⟨av ?_,(Below.refl _ _).alloc (Nat.le_refl _) _⟩
      first| exact HB.out.symm| (rw[HB.out];simp;omega)
     ·skip
      have HB:Hid (bO 1 i t 0 nl=false):=by show _=_;unfold bO;simp[*]
      go_enter Tryz.func127,Tryz.ntmps127;go_wp2;go_ret;refine⟨av ?_,(Below.refl _ _).alloc (Nat.le_refl _) _⟩
      first| exact HB.out.symm| (rw[HB.out];simp;omega)
    ·have h3p:0<nk:=by omega
     have HB:Hid (bO 1 i t nk nl=false):=by show _=_;unfold bO;simp[*]
     go_enter Tryz.func127,Tryz.ntmps127;go_wp2;go_ret;refine⟨av ?_,(Below.refl _ _).alloc (Nat.le_refl _) _⟩
     first| exact HB.out.symm| (rw[HB.out];simp;omega)
   ·rw[decide_eq_false h2]at hn;have HB:Hid (bO 1 i t nk nl=false):=by show _=_;unfold bO;simp[*]
    go_enter Tryz.func127,Tryz.ntmps127;go_wp2;go_ret;refine⟨av ?_,(Below.refl _ _).alloc (Nat.le_refl _) _⟩
    first| exact HB.out.symm| (rw[HB.out];simp;omega)
  ·skip
   by_cases a6:k=2
   ·subst a6
    by_cases h2:t.size=0
    ·rw[decide_eq_true h2]at hn
     by_cases h3:nk=0
     ·subst h3
      by_cases h4:nl=0
      ·subst h4;have HB:Hid (bO 2 i t 0 0=true):=by show _=_;unfold bO;simp[*]
       go_enter Tryz.func127,Tryz.ntmps127;go_wp2;go_ret;refine⟨av ?_,(Below.refl _ _).alloc (Nat.le_refl _) _⟩
       first| exact HB.out.symm| (rw[HB.out];simp;omega)
      ·skip
       have HB:Hid (bO 2 i t 0 nl=false):=by show _=_;unfold bO;simp[*]
       go_enter Tryz.func127,Tryz.ntmps127;go_wp2;go_ret;refine⟨av ?_,(Below.refl _ _).alloc (Nat.le_refl _) _⟩
       first| exact HB.out.symm| (rw[HB.out];simp;omega)
     ·have h3p:0<nk:=by omega
      have HB:Hid (bO 2 i t nk nl=false):=by show _=_;unfold bO;simp[*]
      go_enter Tryz.func127,Tryz.ntmps127;go_wp2;go_ret;refine⟨av ?_,(Below.refl _ _).alloc (Nat.le_refl _) _⟩
      first| exact HB.out.symm| (rw[HB.out];simp;omega)
    ·rw[decide_eq_false h2]at hn;have HB:Hid (bO 2 i t nk nl=false):=by show _=_;unfold bO;simp[*]
     go_enter Tryz.func127,Tryz.ntmps127;go_wp2;go_ret;refine⟨av ?_,(Below.refl _ _).alloc (Nat.le_refl _) _⟩
     first| exact HB.out.symm| (rw[HB.out];simp;omega)
   ·skip
    have b1:(i !=0)=true:=by simp[h1]
    have b2:(k !=1)=true:=by simp[*]
    have b3:(k !=2)=true:=by simp[*]
    have HB:Hid (bO k i t nk nl=false):=by show _=_;unfold bO;simp[*]
    go_enter Tryz.func127,Tryz.ntmps127;go_wp2;go_ret;refine⟨av ?_,(Below.refl _ _).alloc (Nat.le_refl _) _⟩
    first| exact HB.out.symm| (rw[HB.out];simp;omega)
def gX(ks:List ByteArray):Bool:=ks.all letters&&noKeyTwice ks
section
variable {w : World} {g : Nat} {L : List Nat} {ks : List ByteArray}
theorem LM(hP:kL w g L ks):L.length=ks.length:=by rw[hP.1.length_eq];simp
theorem qg(hP:kL w g L ks){i:Nat}(hi:i<L.length):L.getD i 0<ks.length:=by
 have:=hP.1.subset (List.getElem_mem hi);rw[List.getD_eq_getElem?_getD,List.getElem?_eq_getElem hi];simpa using this
theorem sQ(hP:kL w g L ks){n:Nat}(hn:n<ks.length):∃i,i<L.length/\L.getD i 0=n:=by
 have:n∈L:=hP.1.mem_iff.2 (by simpa using hn);obtain⟨i,hi,e⟩:=List.getElem_of_mem this;exact⟨i,hi,by rw[List.getD_eq_getElem?_getD,List.getElem?_eq_getElem hi];exact e⟩
theorem PX(hP:kL w g L ks){i j:Nat}(hi:i<L.length)(hj:j<L.length)(hij:i≠j):L.getD i 0≠L.getD j 0:=by
 have RY:L.Nodup:=hP.1.nodup_iff.2 List.nodup_range;rw[List.getD_eq_getElem?_getD,List.getElem?_eq_getElem hi,List.getD_eq_getElem?_getD,List.getElem?_eq_getElem hj];simp only[Option.getD_some]
 rcases Nat.lt_or_gt_of_ne hij with h| h
 ·exact List.pairwise_iff_getElem.1 RY i j hi hj h
 ·exact fun e=>List.pairwise_iff_getElem.1 RY j i hj hi h e.symm
theorem fw{n:Nat}(hn:n<ks.length):aN ks n=ks[n]:=by
 unfold aN;rw[List.getD_eq_getElem?_getD,List.getElem?_eq_getElem hn];rfl
def PY(L:List Nat)(ks:List ByteArray)(m:Nat):Prop:=∀i,i<m->letters (aN ks (L.getD i 0))=true/\(0<i->aN ks (L.getD (i - 1) 0)≠aN ks (L.getD i 0))
theorem LP(hP:kL w g L ks)(h:PY L ks L.length):gX ks=true:=by
 unfold gX;rw[Bool.and_eq_true]
 constructor
 ·rw[List.all_eq_true];intro k hk;obtain⟨n,hn,rfl⟩:=List.getElem_of_mem hk;obtain⟨i,hi,e⟩:=sQ hP hn;have:=(h i hi).1;rw[e,fw hn]at this;exact this
 ·apply gB
  rw[List.pairwise_iff_getElem];intro n m hn hm hnm e;obtain⟨i,hi,ei⟩:=sQ hP hn;obtain⟨j,hj,ej⟩:=sQ hP hm;have key:∀a b,a<b->b<L.length->aN ks (L.getD a 0)=aN ks (L.getD b 0)->False:=by
   intro a b Cs hb hk;have h1:=hP.2.1 (b - 1) b (by omega) hb;have h2:pE (aN ks (L.getD (b - 1) 0)) (aN ks (L.getD a 0))=false:=by
    by_cases ha:a=b - 1
    ·subst ha;exact nX _
    ·exact hP.2.1 a (b - 1) (by omega) (by omega)
   have B_:=(h b hb).2 (by omega)
   rcases pU B_ with h'| h'
   ·rw[hk,h']at h2;cases h2
   ·rw[h']at h1;cases h1
  have he:aN ks (L.getD i 0)=aN ks (L.getD j 0):=by rw[ei,ej,fw hn,fw hm];exact e
  rcases Nat.lt_trichotomy i j with h'| h'| h'
  ·exact key i j h' hj he
  ·subst h';omega
  ·exact key j i h' hi he.symm
theorem Cz(hP:kL w g L ks){i:Nat}(hi:i<L.length)(h:letters (aN ks (L.getD i 0))=false):gX ks=false:=by
 have hn:=qg hP hi;rw[fw hn]at h
 cases hg:gX ks with
 | false=>rfl
 | true=>
  unfold gX at hg;rw[Bool.and_eq_true,List.all_eq_true]at hg;rw[hg.1 _ (List.getElem_mem hn)]at h
  cases h
theorem Ih(hP:kL w g L ks){i:Nat}(hi:i<L.length)(h0:0<i)(h:aN ks (L.getD (i - 1) 0)=aN ks (L.getD i 0)):gX ks=false:=by
 have hn:=qg hP hi;have hm:=qg hP (i:=i - 1) (by omega);have B_:=PX hP (i:=i - 1) (by omega) hi (by omega);rw[fw hn,fw hm]at h
 cases hg:gX ks with
 | false=>rfl
 | true=>
  unfold gX at hg;rw[Bool.and_eq_true]at hg;have hp:=List.pairwise_iff_getElem.1 (gW hg.2)
  rcases Nat.lt_or_gt_of_ne B_ with h'| h'
  ·exact absurd h (hp _ _ hm hn h')
  ·exact absurd h.symm (hp _ _ hn hm h')
end
theorem kL.bf{w w':World}{g:Nat}{L:List Nat}{ks:List ByteArray}(h:kL w g L ks)(e:w'.heap[g]?=w.heap[g]?):kL w' g L ks:=
 ⟨h.1,h.2.1,fun j hj=>(World.cell?_of_block (a:=⟨g,j,none⟩) e).trans (h.2.2 j hj)⟩
theorem PY.step{L:List Nat}{ks:List ByteArray}{m:Nat}(h:PY L ks m)(h1:letters (aN ks (L.getD m 0))=true)(h2:0<m->aN ks (L.getD (m - 1) 0)≠aN ks (L.getD m 0)):PY L ks (m+1):=by
 intro i hi
 by_cases e:i=m
 ·subst e;exact⟨h1,h2⟩
 ·exact h i (by omega)
theorem toList_inj{a b:ByteArray}(h:a.toList=b.toList):a=b:=by
 rw[Lib.toList_data,Lib.toList_data]at h
 cases a;cases b
 exact congrArg ByteArray.mk (Array.toList_inj.1 h)
theorem wK{O:Nat->Prop}{ks:List ByteArray}{p:Option Addr}{c:Nat}{w:World}(l_:jT O w p c ks)(hO:∀k,O k->k<w.heap.size)(hl:ks.length<=100000)(CB:∀k∈ks,k.size<=1000000000):
    Calls Tryz.prog 130 #[.slice p ks.length c] w fun x w'=>x=.returned (.bool (gX ks))/\Below w.heap.size w w':=by
 have hri:=Am l_ hO (by omega);obtain⟨n,hn⟩:∃n,ks.length=n:=⟨_,rfl⟩;have HN:Hid (ks.length=n):=hn;rw[hn]at hri hl ⊢;go_enter Tryz.func130,Tryz.ntmps130;go_wp2_with(go_at_call 131;refine hri.mono ?_;rintro x w1 ⟨g,L,rfl,hP,hg0,ZA,bI⟩);clear hri hn;have BU:Hid (L.length=n):=(LM hP).trans HN.out;have RV:=bI.size
 go_loopw [10] (fun i wr=>∃k:Nat,i=.int .i64 k/\k<=n/\PY L ks k/\Below w1.heap.size w1 wr) (fun i _=>n - (intOf i).toNat)
 case atStart=>exact⟨0,rfl,Nat.zero_le _,fun i hi=>absurd hi (by omega),Below.refl _ _⟩
 case round=>
  obtain⟨k,rfl,hk,hF,iB⟩:=hrel;have HF:Hid (PY L ks k):=hF;clear hF;have hPr:=hP.bf (iB.block g ZA)
  by_cases JU:k<n
  ·have hkL:k<L.length:=by rw[BU.out];exact JU
   have Gi:(k:Int)<(n:Int):=by omega
   have gc:=hPr.2.2 k hkL;have jB:=qg hPr hkL;obtain⟨a,ha⟩:∃a,L.getD k 0=a:=⟨_,rfl⟩;have HA:Hid (L.getD k 0=a):=ha;rw[ha]at gc jB;obtain⟨ad,hpe,uC,jH⟩:=l_.2 a jB;have hcK:∀(x:Nat),x<ks.length->∀W:World,Below w1.heap.size w1 W->W.cell? (ad.add x)=some (.string (aN ks x)):=by
    intro x hx W hW;obtain⟨ad',zbd,Tf,zbe⟩:=l_.2 x hx;rw[hpe]at zbd
    cases zbd
    have e1:=hO _ Tf;exact(World.cell?_of_block (by rw[aY];exact(hW.block _ (by omega)).trans (bI.block _ e1))).trans zbe
   subst hpe;have yw:a<n:=by rw[<-HN.out];exact jB
   have VC:n<=c:=by have:=l_.1;rw[HN.out]at this;exact this
   have haI:(a:Int)<(n:Int):=by omega
   have hla:=yF (aN ks a);have hza:(aN ks a).size<=1000000000:=by rw[fw jB];exact CB _ (List.getElem_mem jB)
   have ZX:=fun W hW=>hcK a jB W hW;obtain⟨key,qf⟩:∃key,aN ks a=key:=⟨_,rfl⟩;have ZV:Hid (aN ks a=key):=qf;rw[qf]at hla hza ZX;have HLA:=fun W=>hla W hza;have HCK:Hid (∀(x:Nat),x<ks.length->∀W:World,Below w1.heap.size w1 W->W.cell? (ad.add x)=some (.string (aN ks x))):=hcK;clear jH hla ha qf hcK;have Gr:letters key=true\/ letters key=false:=by cases letters key<;>simp
   rcases Gr with zY| zY
   ·rw[zY]at HLA
    cases k with
    | zero=>
     go_wp2;have fE:Below w1.heap.size w1 wr.drew:=⟨iB.os,iB.tape,iB.output,iB.size,iB.block⟩;refine aD (by kernel_rfl) (fun W=>Below w1.heap.size w1 W) ?_;change wpIn _ _ _ _ _ _ _ _ (World.drew _);refine aa (i:=0) (d:=some 15) rfl ?_;refine aa (i:=1) (d:=some 16) rfl ?_;refine aa (i:=2) (d:=some 17) rfl ?_;refine aB (i:=3) (d:=some 18) rfl (by(intro wq hq;have q0:=ZX wq hq;go_simp;first| done| with_reducible rfl)) ?_;refine ak (i:=4) fE rfl ?_;intro K hK;go_simp;go_wp2_with(go_at_call 128;refine(HLA _).mono ?_;rintro x w3 ⟨rfl,a_⟩);have h_:Below w1.heap.size w1 w3:=fE.trans ⟨a_.os,a_.tape,a_.output,a_.size,fun k hk=>a_.block k (by have:=fE.size;omega)⟩;clear fE;refine aa (i:=5) (d:=some 20) rfl ?_;refine aa (i:=6) (d:=some 21) rfl ?_;refine aa (i:=7) (d:=some 22) rfl ?_;refine aa (i:=8) (d:=some 23) rfl ?_;refine aa (i:=9) (d:=some 24) rfl ?_;refine ay (i:=10) (d:=(some 25)) (v:=undef) (a':= ?aqz10) rfl rfl (by kernel_rfl) (by kernel_rfl) (by kernel_rfl) (fun _ _ _ h=>h) (Or.inr ⟨by rfl,rfl⟩) ?fqz10 ?_
     case fqz10=>(go_frame;rfl)
     refine ay (i:=11) (d:=(some 26)) (v:=undef) (a':= ?aqz11) rfl rfl (by kernel_rfl) (by kernel_rfl) (by kernel_rfl) (fun _ _ _ h=>h) (Or.inr ⟨by rfl,rfl⟩) ?fqz11 ?_
     case fqz11=>(go_frame;rfl)
     refine ay (i:=12) (d:=(some 27)) (v:=undef) (a':= ?aqz12) rfl rfl (by kernel_rfl) (by kernel_rfl) (by kernel_rfl) (fun _ _ _ h=>h) (Or.inr ⟨by rfl,rfl⟩) ?fqz12 ?_
     case fqz12=>(go_frame;rfl)
     refine ay (i:=13) (d:=(some 28)) (v:=undef) (a':= ?aqz13) rfl rfl (by kernel_rfl) (by kernel_rfl) (by kernel_rfl) (fun _ _ _ h=>h) (Or.inr ⟨by rfl,rfl⟩) ?fqz13 ?_
     case fqz13=>(go_frame;rfl)
     refine ay (i:=14) (d:=(some 29)) (v:=undef) (a':= ?aqz14) rfl rfl (by kernel_rfl) (by kernel_rfl) (by kernel_rfl) (fun _ _ _ h=>h) (Or.inr ⟨by rfl,rfl⟩) ?fqz14 ?_
     case fqz14=>(go_frame;rfl)
     refine ay (i:=15) (d:=(some 30)) (v:=undef) (a':= ?aqz15) rfl rfl (by kernel_rfl) (by kernel_rfl) (by kernel_rfl) (fun _ _ _ h=>h) (Or.inr ⟨by rfl,rfl⟩) ?fqz15 ?_
     case fqz15=>(go_frame;rfl)
     refine ay (i:=16) (d:=(some 31)) (v:=undef) (a':= ?aqz16) rfl rfl (by kernel_rfl) (by kernel_rfl) (by kernel_rfl) (fun _ _ _ h=>h) (Or.inr ⟨by rfl,rfl⟩) ?fqz16 ?_
     case fqz16=>(go_frame;rfl)
     refine ay (i:=17) (d:=(some 32)) (v:=undef) (a':= ?aqz17) rfl rfl (by kernel_rfl) (by kernel_rfl) (by kernel_rfl) (fun _ _ _ h=>h) (Or.inr ⟨by rfl,rfl⟩) ?fqz17 ?_
     case fqz17=>(go_frame;rfl)
     refine ay (i:=18) (d:=(some 33)) (v:=undef) (a':= ?aqz18) rfl rfl (by kernel_rfl) (by kernel_rfl) (by kernel_rfl) (fun _ _ _ h=>h) (Or.inr ⟨by rfl,rfl⟩) ?fqz18 ?_
     case fqz18=>(go_frame;rfl)
     refine ay (i:=19) (d:=(some 34)) (v:=undef) (a':= ?aqz19) rfl rfl (by kernel_rfl) (by kernel_rfl) (by kernel_rfl) (fun _ _ _ h=>h) (Or.inr ⟨by rfl,rfl⟩) ?fqz19 ?_
     case fqz19=>(go_frame;rfl)
     refine ay (i:=20) (d:=(some 35)) (v:=undef) (a':= ?aqz20) rfl rfl (by kernel_rfl) (by kernel_rfl) (by kernel_rfl) (fun _ _ _ h=>h) (Or.inr ⟨by rfl,rfl⟩) ?fqz20 ?_
     case fqz20=>(go_frame;rfl)
     refine ay (i:=21) (d:=(some 36)) (v:=undef) (a':= ?aqz21) rfl rfl (by kernel_rfl) (by kernel_rfl) (by kernel_rfl) (fun _ _ _ h=>h) (Or.inr ⟨by rfl,rfl⟩) ?fqz21 ?_
     case fqz21=>(go_frame;rfl)
     refine ay (i:=22) (d:=(some 37)) (v:=undef) (a':= ?aqz22) rfl rfl (by kernel_rfl) (by kernel_rfl) (by kernel_rfl) (fun _ _ _ h=>h) (Or.inr ⟨by rfl,rfl⟩) ?fqz22 ?_
     case fqz22=>(go_frame;rfl)
     refine aa (i:=23) (d:=some 38) rfl ?_;refine aa (i:=24) (d:=some 39) rfl ?_;refine aA h_ (by kernel_rfl) ?_ _;go_wp2;go_roundw
     case rel=>exact⟨1,by go_num,JU,HF.out.step (by rw[HA.out,ZV.out];exact zY) (fun h=>absurd h (by omega)),h_⟩
     case measure=>simp[intOf];omega
    | succ m=>
     have gm:=hPr.2.2 m (by omega);have hmt:=qg hPr (i:=m) (by omega);obtain⟨b,Cf⟩:∃b,L.getD m 0=b:=⟨_,rfl⟩;have HB:Hid (L.getD m 0=b):=Cf;rw[Cf]at gm hmt;have hCB:=fun W hW=>HCK.out b hmt W hW;have BV:b<n:=by rw[<-HN.out];exact hmt
     have hbI:(b:Int)<(n:Int):=by omega
     have hmI:(m:Int)<(n:Int):=by omega
     have hwm:IntKind.i64.wrap (m:Int)=(m:Int):=by first| go_num| (simp[IntKind.wrap,IntKind.bits,IntKind.signed];omega)
     have hGM:∀W:World,Below w1.heap.size w1 W->W.cell? ⟨g,m,none⟩=some (.int .i64 (b:Int)):=fun W hW=>by
      have h1:=hP.2.2 m (by omega);rw[Cf]at h1;exact(World.cell?_of_block (a:=⟨g,m,none⟩) (hW.block g ZA)).trans h1
     obtain⟨kb,hkb⟩:∃kb,aN ks b=kb:=⟨_,rfl⟩;have Ia:Hid (aN ks b=kb):=hkb;rw[hkb]at hCB;clear Cf hkb hmt
     by_cases NS:kb=key
     ·have Yo:(kb.toList==key.toList)=true:=by rw[NS];simp
      go_wp2;have fE:Below w1.heap.size w1 wr.drew:=⟨iB.os,iB.tape,iB.output,iB.size,iB.block⟩;refine aD (by kernel_rfl) (fun W=>Below w1.heap.size w1 W) ?_;change wpIn _ _ _ _ _ _ _ _ (World.drew _);refine aa (i:=0) (d:=some 15) rfl ?_;refine aa (i:=1) (d:=some 16) rfl ?_;refine aa (i:=2) (d:=some 17) rfl ?_;refine aB (i:=3) (d:=some 18) rfl (by(intro wq hq;have q0:=ZX wq hq;go_simp;first| done| with_reducible rfl)) ?_;refine ak (i:=4) fE rfl ?_;intro K hK;go_simp;go_wp2_with(go_at_call 128;refine(HLA _).mono ?_;rintro x w3 ⟨rfl,a_⟩);have h_:Below w1.heap.size w1 w3:=fE.trans ⟨a_.os,a_.tape,a_.output,a_.size,fun k hk=>a_.block k (by have:=fE.size;omega)⟩;clear fE;refine aa (i:=5) (d:=some 20) rfl ?_;refine aa (i:=6) (d:=some 21) rfl ?_;refine aa (i:=7) (d:=some 22) rfl ?_;refine aa (i:=8) (d:=some 23) rfl ?_;refine aa (i:=9) (d:=some 24) rfl ?_;refine aa (i:=10) (d:=some 25) rfl ?_;refine aa (i:=11) (d:=some 26) rfl ?_;refine aa (i:=12) (d:=some 27) rfl ?_;refine aa (i:=13) (d:=some 28) rfl ?_;refine aa (i:=14) (d:=some 29) rfl ?_;refine aB (i:=15) (d:=some 30) rfl (by(intro wq hq;have q0:=hGM wq hq;go_simp;first| done| with_reducible rfl)) ?_;refine aa (i:=16) (d:=some 31) rfl ?_;refine aB (i:=17) (d:=some 32) rfl (by(intro wq hq;have q0:=hCB wq hq;go_simp;first| done| with_reducible rfl)) ?_;refine aa (i:=18) (d:=some 33) rfl ?_;refine aa (i:=19) (d:=some 34) rfl ?_;refine aa (i:=20) (d:=some 35) rfl ?_;refine aB (i:=21) (d:=some 36) rfl (by(intro wq hq;have q0:=ZX wq hq;go_simp;first| done| with_reducible rfl)) ?_;refine aa (i:=22) (d:=some 37) rfl ?_;refine aa (i:=23) (d:=some 38) rfl ?_;refine aa (i:=24) (d:=some 39) rfl ?_;refine aA h_ (by kernel_rfl) ?_ _;go_wp2;go_ret;exact⟨av (Ih hP hkL (by omega) (by rw[HA.out,ZV.out];show aN ks (L.getD m 0)=_;rw[HB.out,Ia.out];exact NS)).symm,bI.trans ⟨h_.os,h_.tape,h_.output,h_.size,fun k hk=>h_.block k (by omega)⟩⟩
     ·have Yo:(kb.toList==key.toList)=false:=by rw[beq_eq_false_iff_ne];intro e;exact NS (toList_inj e)
      go_wp2;have fE:Below w1.heap.size w1 wr.drew:=⟨iB.os,iB.tape,iB.output,iB.size,iB.block⟩;refine aD (by kernel_rfl) (fun W=>Below w1.heap.size w1 W) ?_;change wpIn _ _ _ _ _ _ _ _ (World.drew _);refine aa (i:=0) (d:=some 15) rfl ?_;refine aa (i:=1) (d:=some 16) rfl ?_;refine aa (i:=2) (d:=some 17) rfl ?_;refine aB (i:=3) (d:=some 18) rfl (by(intro wq hq;have q0:=ZX wq hq;go_simp;first| done| with_reducible rfl)) ?_;refine ak (i:=4) fE rfl ?_;intro K hK;go_simp;go_wp2_with(go_at_call 128;refine(HLA _).mono ?_;rintro x w3 ⟨rfl,a_⟩);have h_:Below w1.heap.size w1 w3:=fE.trans ⟨a_.os,a_.tape,a_.output,a_.size,fun k hk=>a_.block k (by have:=fE.size;omega)⟩;clear fE;refine aa (i:=5) (d:=some 20) rfl ?_;refine aa (i:=6) (d:=some 21) rfl ?_;refine aa (i:=7) (d:=some 22) rfl ?_;refine aa (i:=8) (d:=some 23) rfl ?_;refine aa (i:=9) (d:=some 24) rfl ?_;refine aa (i:=10) (d:=some 25) rfl ?_;refine aa (i:=11) (d:=some 26) rfl ?_;refine aa (i:=12) (d:=some 27) rfl ?_;refine aa (i:=13) (d:=some 28) rfl ?_;refine aa (i:=14) (d:=some 29) rfl ?_;refine aB (i:=15) (d:=some 30) rfl (by(intro wq hq;have q0:=hGM wq hq;go_simp;first| done| with_reducible rfl)) ?_;refine aa (i:=16) (d:=some 31) rfl ?_;refine aB (i:=17) (d:=some 32) rfl (by(intro wq hq;have q0:=hCB wq hq;go_simp;first| done| with_reducible rfl)) ?_;refine aa (i:=18) (d:=some 33) rfl ?_;refine aa (i:=19) (d:=some 34) rfl ?_;refine aa (i:=20) (d:=some 35) rfl ?_;refine aB (i:=21) (d:=some 36) rfl (by(intro wq hq;have q0:=ZX wq hq;go_simp;first| done| with_reducible rfl)) ?_;refine aa (i:=22) (d:=some 37) rfl ?_;refine aa (i:=23) (d:=some 38) rfl ?_;refine aa (i:=24) (d:=some 39) rfl ?_;refine aA h_ (by kernel_rfl) ?_ _;go_wp2;go_roundw
      case rel=>exact⟨m+1+1,by go_num,JU,HF.out.step (by rw[HA.out,ZV.out];exact zY) (fun _=>by rw[HA.out,ZV.out];show aN ks (L.getD m 0)≠_;rw[HB.out,Ia.out];exact NS),h_⟩
      case measure=>simp[intOf];omega
   ·rw[zY]at HLA;go_wp2;have fE:Below w1.heap.size w1 wr.drew:=⟨iB.os,iB.tape,iB.output,iB.size,iB.block⟩;refine aD (by kernel_rfl) (fun W=>Below w1.heap.size w1 W) ?_;change wpIn _ _ _ _ _ _ _ _ (World.drew _);refine aa (i:=0) (d:=some 15) rfl ?_;refine aa (i:=1) (d:=some 16) rfl ?_;refine aa (i:=2) (d:=some 17) rfl ?_;refine aB (i:=3) (d:=some 18) rfl (by(intro wq hq;have q0:=ZX wq hq;go_simp;first| done| with_reducible rfl)) ?_;refine ak (i:=4) fE rfl ?_;intro K hK;go_simp;go_wp2_with(go_at_call 128;refine(HLA _).mono ?_;rintro x w3 ⟨rfl,a_⟩);have h_:Below w1.heap.size w1 w3:=fE.trans ⟨a_.os,a_.tape,a_.output,a_.size,fun k hk=>a_.block k (by have:=fE.size;omega)⟩;clear fE;refine aa (i:=5) (d:=some 20) rfl ?_;refine aa (i:=6) (d:=some 21) rfl ?_;refine ay (i:=7) (d:=(some 22)) (v:=undef) (a':= ?aqn7) rfl rfl (by kernel_rfl) (by kernel_rfl) (by kernel_rfl) (fun _ _ _ h=>h) (Or.inr ⟨by rfl,rfl⟩) ?fqn7 ?_
    case fqn7=>(go_frame;rfl)
    refine ay (i:=8) (d:=(some 23)) (v:=undef) (a':= ?aqn8) rfl rfl (by kernel_rfl) (by kernel_rfl) (by kernel_rfl) (fun _ _ _ h=>h) (Or.inr ⟨by rfl,rfl⟩) ?fqn8 ?_
    case fqn8=>(go_frame;rfl)
    refine ay (i:=9) (d:=(some 24)) (v:=undef) (a':= ?aqn9) rfl rfl (by kernel_rfl) (by kernel_rfl) (by kernel_rfl) (fun _ _ _ h=>h) (Or.inr ⟨by rfl,rfl⟩) ?fqn9 ?_
    case fqn9=>(go_frame;rfl)
    refine ay (i:=10) (d:=(some 25)) (v:=undef) (a':= ?aqn10) rfl rfl (by kernel_rfl) (by kernel_rfl) (by kernel_rfl) (fun _ _ _ h=>h) (Or.inr ⟨by rfl,rfl⟩) ?fqn10 ?_
    case fqn10=>(go_frame;rfl)
    refine ay (i:=11) (d:=(some 26)) (v:=undef) (a':= ?aqn11) rfl rfl (by kernel_rfl) (by kernel_rfl) (by kernel_rfl) (fun _ _ _ h=>h) (Or.inr ⟨by rfl,rfl⟩) ?fqn11 ?_
    case fqn11=>(go_frame;rfl)
    refine ay (i:=12) (d:=(some 27)) (v:=undef) (a':= ?aqn12) rfl rfl (by kernel_rfl) (by kernel_rfl) (by kernel_rfl) (fun _ _ _ h=>h) (Or.inr ⟨by rfl,rfl⟩) ?fqn12 ?_
    case fqn12=>(go_frame;rfl)
    refine ay (i:=13) (d:=(some 28)) (v:=undef) (a':= ?aqn13) rfl rfl (by kernel_rfl) (by kernel_rfl) (by kernel_rfl) (fun _ _ _ h=>h) (Or.inr ⟨by rfl,rfl⟩) ?fqn13 ?_
    case fqn13=>(go_frame;rfl)
    refine ay (i:=14) (d:=(some 29)) (v:=undef) (a':= ?aqn14) rfl rfl (by kernel_rfl) (by kernel_rfl) (by kernel_rfl) (fun _ _ _ h=>h) (Or.inr ⟨by rfl,rfl⟩) ?fqn14 ?_
    case fqn14=>(go_frame;rfl)
    refine ay (i:=15) (d:=(some 30)) (v:=undef) (a':= ?aqn15) rfl rfl (by kernel_rfl) (by kernel_rfl) (by kernel_rfl) (fun _ _ _ h=>h) (Or.inr ⟨by rfl,rfl⟩) ?fqn15 ?_
    case fqn15=>(go_frame;rfl)
    refine ay (i:=16) (d:=(some 31)) (v:=undef) (a':= ?aqn16) rfl rfl (by kernel_rfl) (by kernel_rfl) (by kernel_rfl) (fun _ _ _ h=>h) (Or.inr ⟨by rfl,rfl⟩) ?fqn16 ?_
    case fqn16=>(go_frame;rfl)
    refine ay (i:=17) (d:=(some 32)) (v:=undef) (a':= ?aqn17) rfl rfl (by kernel_rfl) (by kernel_rfl) (by kernel_rfl) (fun _ _ _ h=>h) (Or.inr ⟨by rfl,rfl⟩) ?fqn17 ?_
    case fqn17=>(go_frame;rfl)
    refine ay (i:=18) (d:=(some 33)) (v:=undef) (a':= ?aqn18) rfl rfl (by kernel_rfl) (by kernel_rfl) (by kernel_rfl) (fun _ _ _ h=>h) (Or.inr ⟨by rfl,rfl⟩) ?fqn18 ?_
    case fqn18=>(go_frame;rfl)
    refine ay (i:=19) (d:=(some 34)) (v:=undef) (a':= ?aqn19) rfl rfl (by kernel_rfl) (by kernel_rfl) (by kernel_rfl) (fun _ _ _ h=>h) (Or.inr ⟨by rfl,rfl⟩) ?fqn19 ?_
    case fqn19=>(go_frame;rfl)
    refine ay (i:=20) (d:=(some 35)) (v:=undef) (a':= ?aqn20) rfl rfl (by kernel_rfl) (by kernel_rfl) (by kernel_rfl) (fun _ _ _ h=>h) (Or.inr ⟨by rfl,rfl⟩) ?fqn20 ?_
    case fqn20=>(go_frame;rfl)
    refine ay (i:=21) (d:=(some 36)) (v:=undef) (a':= ?aqn21) rfl rfl (by kernel_rfl) (by kernel_rfl) (by kernel_rfl) (fun _ _ _ h=>h) (Or.inr ⟨by rfl,rfl⟩) ?fqn21 ?_
    case fqn21=>(go_frame;rfl)
    refine ay (i:=22) (d:=(some 37)) (v:=undef) (a':= ?aqn22) rfl rfl (by kernel_rfl) (by kernel_rfl) (by kernel_rfl) (fun _ _ _ h=>h) (Or.inr ⟨by rfl,rfl⟩) ?fqn22 ?_
    case fqn22=>(go_frame;rfl)
    refine ay (i:=23) (d:=(some 38)) (v:=undef) (a':= ?aqn23) rfl rfl (by kernel_rfl) (by kernel_rfl) (by kernel_rfl) (fun _ _ _ h=>h) (Or.inr ⟨by rfl,rfl⟩) ?fqn23 ?_
    case fqn23=>(go_frame;rfl)
    refine aa (i:=24) (d:=some 39) rfl ?_;refine aA h_ (by kernel_rfl) ?_ _;go_wp2;go_ret;exact⟨av (Cz hP hkL (by rw[HA.out,ZV.out];exact zY)).symm,bI.trans ⟨h_.os,h_.tape,h_.output,h_.size,fun k hk=>h_.block k (by omega)⟩⟩
  ·obtain rfl:k=n:=by omega
   go_wp2;go_ret;exact⟨av (LP hP (by rw[BU.out];exact HF.out)).symm,bI.trans ⟨iB.os,iB.tape,iB.output,iB.size,fun k hk=>iB.block k (by omega)⟩⟩
end Go.Proofs.YtegcgbjjpgjnmaaGreatDoor
