/- A part. -/
import Derived.Test.YtldegjjaknelgaaGreatDoorAR25
import Derived.Test.YtldegjjaknelgaaGreatDoorTie
import Derived.Test.YtldegjjaknelgaaGreatDoorCards
import Derived.LaidMore
import Derived.OpenShut
import Derived.Stop.Joined
import Derived.Lib.LaidTab
import Derived.Lib.LaidU8T
import Derived.Lay
set_option maxRecDepth 100000
set_option maxHeartbeats 64000000
namespace Go.Proofs.YtldegjjaknelgaaGreatDoor
open Go.ChangeShapes Go.WideShapes Go.ChangeAt Go.RowKit
theorem KT:Tryz.prog.cellsOf 28=16:=by kernel_rfl
theorem zaR:Tryz.prog.cellsOf 4=1:=by kernel_rfl
theorem Ul:Tryz.prog.cellsOf 26=1:=by kernel_rfl
theorem Q4:Tryz.prog.cellsOf 54=2:=by kernel_rfl
section
variable {H : Type} {enc : TypeId × Value -> H} {W : World}
abbrev Wt(d:DataW H)(t:TypeId):Prop:=(d.weights Tryz.prog t).all (· <=reachBytes)=true
theorem iX{ts:List TypeId}{ds:List (DataW H)}(h:(DataW.weightsEach Tryz.prog ts ds).all (· <=reachBytes)=true){j:Nat}{t:TypeId}{d:DataW H}(ht:ts[j]?=some t)(hd:ds[j]?=some d):Wt d t:=
 List.all_eq_true.2 fun n hn=>List.all_eq_true.1 h n (DataW.weights_mem_each ht hd n hn)
theorem JX{e:TypeId}:∀{ds:List (DataW H)},(DataW.weightsAll Tryz.prog e ds).all (· <=reachBytes)=true->∀d∈ds,Wt d e
 | [],_,d,hd=>by cases hd
 | a::r,h,d,hd=>by
  simp only[DataW.weightsAll,List.all_append,Bool.and_eq_true]at h
  rcases List.mem_cons.1 hd with rfl| hd
  ·exact h.1
  ·exact JX h.2 d hd
theorem rQ{s:ByteArray}{t:TypeId}(h:Wt (.lit (.string s.data.toList):DataW H) t):s.size<=140737488355328:=by
 have h1:=List.all_eq_true.1 h s.data.toList.length (by simp[DataW.weights]);have h2:s.data.toList.length<=reachBytes:=by simpa using h1
 have h3:=reachBytes_lt;have h4:s.data.toList.length=s.size:=by simp
 omega
theorem Q5{dQ:Nat}{c:Value}{y:DataW H×List MemPlace}(h:DataW.trod enc Tryz.prog W 0 (fun _=>true) true dQ 22 [c]=some y):∃pk ck ks,c=.slice pk (List.length ks) ck/\ig (fun b=>b<W.heap.size) W pk ck ks:=by
 rcases open_strings Tryz.underlying22 Tryz.underlying9 l8 h with⟨e3,_⟩| ⟨a,len,cap,ss,e3,_,CX,_,O3,_,fF,_⟩
 ·simp only[List.cons.injEq,and_true]at e3;exact⟨none,0, [],e3,ig.nil _ _⟩
 ·simp only[List.cons.injEq,and_true]at e3;simp only[if_true]at O3;have hl:(ss.take len).length=len:=by simp;omega
  refine⟨some a,cap,ss.take len,by rw[hl];exact e3,by rw[hl];exact CX,fun j hj=>⟨a,rfl, ?_, ?_⟩⟩
  ·have Gh:j<len:=by rw[hl]at hj;exact hj
   have:=jE (fF j (by omega))
   rwa [bF]at this
  ·have Gh:j<len:=by rw[hl]at hj;exact hj
   rw[fF j (by omega)]
   congr 2
   rw[List.getD_eq_getElem?_getD,List.getD_eq_getElem?_getD,List.getElem?_take,if_pos Gh,List.getElem?_eq_getElem (by omega)]
   rfl
theorem zdz{dQ:Nat}{c:Value}{y:DataW H×List MemPlace}(h:DataW.trod enc Tryz.prog W 0 (fun _=>true) true dQ 26 [c]=some y)(hw:Wt y.1 26):∃p k l,c=.slice p (List.length l) k/\Dv (fun b=>b<W.heap.size) W p k l/\∀x∈l,x.1.size<=140737488355328/\x.2.size<=140737488355328:=by
 rcases DataW.trod_slice Tryz.underlying26 h with⟨e4,_⟩| ⟨a,len,cap,elems,rest,n',Sl,e4,hy,_,CX,_,hel,oP,_,_⟩
 ·simp only[List.cons.injEq,and_true]at e4;exact⟨none,0, [],e4,Dv.nil _ _ _ _,fun x hx=>by cases hx⟩
 ·simp only[List.cons.injEq,and_true]at e4;rw[Q4]at oP;have hwe:∀d∈elems.map (·.1),Wt d 54:=by
   rw[hy]at hw;have hw':((((elems.map (·.1)).length+(rest.map (·.1)).length)*Tryz.prog.bytesOf 54)::(DataW.weightsAll Tryz.prog 54 (elems.map (·.1))++DataW.weightsAll Tryz.prog 54 (rest.map (·.1)))).all (· <=reachBytes)=true:=by
    have e:DataW.weights Tryz.prog 26 (.slice (elems.map (·.1)) (rest.map (·.1)))=(((elems.map (·.1)).length+(rest.map (·.1)).length)*Tryz.prog.bytesOf 54)::(DataW.weightsAll Tryz.prog 54 (elems.map (·.1))++DataW.weightsAll Tryz.prog 54 (rest.map (·.1))):=by
     simp only[DataW.weights,Tryz.underlying26]
    rw[<-e];exact hw
   simp only[List.all_cons,List.all_append,Bool.and_eq_true]at hw';exact JX hw'.2.1
  cases len with
  | zero=>exact⟨some a,cap, [],e4,Dv.nil _ _ _ _,fun x hx=>by cases hx⟩
  | succ len=>
   obtain⟨b,o,sp⟩:=a;have Cy:∀i,i<len+1->∃u v,W.cell? ((⟨b,o,sp⟩:Addr).add (i*2))=some (.string u)/\W.cell? (((⟨b,o,sp⟩:Addr).add (i*2)).add 1)=some (.string v)/\u.size<=140737488355328/\v.size<=140737488355328:=fun i hi=>by
    have h1:=oP i hi;rw[List.getElem?_eq_getElem (by omega),Option.bind_eq_some_iff]at h1;obtain⟨cs,h2,h3⟩:=h1;have hwi:=hwe (elems[i]'(by omega)).1 (List.mem_map_of_mem (List.getElem_mem _));obtain⟨xs,n,_,hx,hl,dP,xh⟩:=DataW.trod_struct Tryz.underlying54 h3;rw[Q4]at hl;rw[hx]at hwi;have Um:(DataW.weightsEach Tryz.prog [9,9] (xs.map (·.1))).all (· <=reachBytes)=true:=by
     have e:DataW.weights Tryz.prog 54 (.agg (xs.map (·.1)))=DataW.weightsEach Tryz.prog [9,9] (xs.map (·.1)):=by
      simp only[DataW.weights,Tryz.underlying54]
      rfl
     rw[<-e];exact hwi
    obtain⟨c0,c1,rfl⟩:∃c0 c1,cs= [c0,c1]:=by
     match cs,hl with
     | [c0,c1],_=>exact⟨c0,c1,rfl⟩
    obtain⟨y0,y1,rfl⟩:∃y0 y1,xs= [y0,y1]:=by
     match xs,dP with
     | [y0,y1],_=>exact⟨y0,y1,rfl⟩
    ·· have g0:DataW.trod enc Tryz.prog W 0 (fun _=>true) true n 9 (([c0,c1].drop 0).take (Tryz.prog.cellsOf 9))=some y0:=xh 0 _ rfl
       have g1:DataW.trod enc Tryz.prog W 0 (fun _=>true) true n 9 (([c0,c1].drop 1).take (Tryz.prog.cellsOf 9))=some y1:=xh 1 _ rfl;rw[l8]at g0 g1;obtain⟨u,e0,x0,_⟩:=DataW.trod_string Tryz.underlying9 (show DataW.trod enc Tryz.prog W 0 (fun _=>true) true n 9 [c0]=some y0 from g0);obtain⟨v,e1,x1,_⟩:=DataW.trod_string Tryz.underlying9 (show DataW.trod enc Tryz.prog W 0 (fun _=>true) true n 9 [c1]=some y1 from g1);simp only[List.cons.injEq,and_true]at e0 e1;subst e0 e1;have h5:=(World.cells?_some h2).2.2;have a0:=h5 0 (by decide);have a1:=h5 1 (by decide);have ez:((⟨b,o,sp⟩:Addr).add (i*2)).add 0=(⟨b,o,sp⟩:Addr).add (i*2):=by unfold Addr.add;simp
       rw[ez]at a0;have z0:=iX Um (j:=0) rfl rfl;have z1:=iX Um (j:=1) rfl rfl;rw[x0]at z0;rw[x1]at z1;exact⟨u,v,a0,a1,rQ z0,rQ z1⟩
   have Ld:sp=none:=by
    obtain⟨u,v,h1,_⟩:=Cy 0 (by omega);have h4:(⟨b,o,sp⟩:Addr).add (0*2)=⟨b,o,sp⟩:=by unfold Addr.add;simp
    rw[h4]at h1;exact vC h1
   subst Ld;have vg:∀m,(⟨b,o,none⟩:Addr).add m=⟨b,o+m,none⟩:=fun m=>by unfold Addr.add;split<;>simp_all
   have FH:∀m m',((⟨b,o+m,none⟩:Addr)).add m'=⟨b,o+m+m',none⟩:=fun m m'=>by unfold Addr.add;split<;>simp_all
   obtain⟨l,FY,FZ⟩:=qa (z:=(aN,aN)) (P:=fun i (x:ByteArray×ByteArray)=>W.cell? ⟨b,o+i*2,none⟩=some (.string x.1)/\W.cell? ⟨b,o+i*2+1,none⟩=some (.string x.2)/\x.1.size<=140737488355328/\x.2.size<=140737488355328) (len+1) fun i hi=>by
    obtain⟨u,v,h1,h2,h3,h4⟩:=Cy i hi;rw[vg]at h1;rw[vg,FH]at h2;exact⟨(u,v),h1,h2,h3,h4⟩
   refine⟨some ⟨b,o,none⟩,cap,l,by rw[FY];exact e4,⟨by omega,fun j hj=>⟨b,o,rfl, ?_,(FZ j (by omega)).1,(FZ j (by omega)).2.1⟩⟩,fun x hx=> ?_⟩
   ·exact jE (FZ j (by omega)).1
   ·obtain⟨y,hy,rfl⟩:=List.getElem_of_mem hx;have:=FZ y (by omega);rw[List.getD_eq_getElem?_getD,List.getElem?_eq_getElem hy]at this;exact this.2.2
theorem Vn:∀(dQ:Nat) (cs:List Value) (x:DataW H×List MemPlace),DataW.trod enc Tryz.prog W 0 (fun _=>true) true dQ 28 cs=some x->Wt x.1 28->∃e p,cs=aB e p/\iL (fun b=>b<W.heap.size) W e p/\yZ e:=by
 intro dQ cs x h hw0;obtain⟨xs,dQ,_,hx,hl,dP,xh⟩:=DataW.trod_struct Tryz.underlying28 h;rw[KT]at hl;have hw:(DataW.weightsEach Tryz.prog [9,9,9,4,9,25,22,22,2,2,9,26] (xs.map (·.1))).all (· <=reachBytes)=true:=by
  have e:DataW.weights Tryz.prog 28 (.agg (xs.map (·.1)))=DataW.weightsEach Tryz.prog [9,9,9,4,9,25,22,22,2,2,9,26] (xs.map (·.1)):=by
   simp only[DataW.weights,Tryz.underlying28]
   rfl
  rw[<-e];rw[hx]at hw0;exact hw0
 clear hx hw0 h
 match cs,hl with
 | [c0,c1,c2,c3,c4,c5,c6,c7,c8,c9,kY,Ja,Ga,jX,Gb,Jb],_=>
  match xs,dP with
  | [y0,y1,y2,y3,y4,y5,y6,y7,y8,y9,y10,y11],_=>
   have g0:DataW.trod enc Tryz.prog W 0 (fun _=>true) true dQ 9 (([c0,c1,c2,c3,c4,c5,c6,c7,c8,c9,kY,Ja,Ga,jX,Gb,Jb].drop 0).take (Tryz.prog.cellsOf 9))=some y0:=xh 0 _ rfl;rw[l8]at g0;have f0:DataW.trod enc Tryz.prog W 0 (fun _=>true) true dQ 9 [c0]=some y0:=g0;have g1:DataW.trod enc Tryz.prog W 0 (fun _=>true) true dQ 9 (([c0,c1,c2,c3,c4,c5,c6,c7,c8,c9,kY,Ja,Ga,jX,Gb,Jb].drop 1).take (Tryz.prog.cellsOf 9))=some y1:=xh 1 _ rfl;rw[l8]at g1;have f1:DataW.trod enc Tryz.prog W 0 (fun _=>true) true dQ 9 [c1]=some y1:=g1;have g2:DataW.trod enc Tryz.prog W 0 (fun _=>true) true dQ 9 (([c0,c1,c2,c3,c4,c5,c6,c7,c8,c9,kY,Ja,Ga,jX,Gb,Jb].drop 2).take (Tryz.prog.cellsOf 9))=some y2:=xh 2 _ rfl;rw[l8]at g2;have f2:DataW.trod enc Tryz.prog W 0 (fun _=>true) true dQ 9 [c2]=some y2:=g2;have g3:DataW.trod enc Tryz.prog W 0 (fun _=>true) true dQ 4 (([c0,c1,c2,c3,c4,c5,c6,c7,c8,c9,kY,Ja,Ga,jX,Gb,Jb].drop 3).take (Tryz.prog.cellsOf 4))=some y3:=xh 3 _ rfl;rw[zaR]at g3;have f3:DataW.trod enc Tryz.prog W 0 (fun _=>true) true dQ 4 [c3]=some y3:=g3;have g4:DataW.trod enc Tryz.prog W 0 (fun _=>true) true dQ 9 (([c0,c1,c2,c3,c4,c5,c6,c7,c8,c9,kY,Ja,Ga,jX,Gb,Jb].drop 4).take (Tryz.prog.cellsOf 9))=some y4:=xh 4 _ rfl;rw[l8]at g4;have f4:DataW.trod enc Tryz.prog W 0 (fun _=>true) true dQ 9 [c4]=some y4:=g4;have g5:DataW.trod enc Tryz.prog W 0 (fun _=>true) true dQ 25 (([c0,c1,c2,c3,c4,c5,c6,c7,c8,c9,kY,Ja,Ga,jX,Gb,Jb].drop 5).take (Tryz.prog.cellsOf 25))=some y5:=xh 5 _ rfl;rw[JE]at g5;have f5:DataW.trod enc Tryz.prog W 0 (fun _=>true) true dQ 25 [c5,c6,c7,c8,c9]=some y5:=g5;have g6:DataW.trod enc Tryz.prog W 0 (fun _=>true) true dQ 22 (([c0,c1,c2,c3,c4,c5,c6,c7,c8,c9,kY,Ja,Ga,jX,Gb,Jb].drop 10).take (Tryz.prog.cellsOf 22))=some y6:=xh 6 _ rfl;rw[Cx]at g6;have f6:DataW.trod enc Tryz.prog W 0 (fun _=>true) true dQ 22 [kY]=some y6:=g6;have g7:DataW.trod enc Tryz.prog W 0 (fun _=>true) true dQ 22 (([c0,c1,c2,c3,c4,c5,c6,c7,c8,c9,kY,Ja,Ga,jX,Gb,Jb].drop 11).take (Tryz.prog.cellsOf 22))=some y7:=xh 7 _ rfl;rw[Cx]at g7;have f7:DataW.trod enc Tryz.prog W 0 (fun _=>true) true dQ 22 [Ja]=some y7:=g7;have g8:DataW.trod enc Tryz.prog W 0 (fun _=>true) true dQ 2 (([c0,c1,c2,c3,c4,c5,c6,c7,c8,c9,kY,Ja,Ga,jX,Gb,Jb].drop 12).take (Tryz.prog.cellsOf 2))=some y8:=xh 8 _ rfl;rw[Cw]at g8;have f8:DataW.trod enc Tryz.prog W 0 (fun _=>true) true dQ 2 [Ga]=some y8:=g8;have g9:DataW.trod enc Tryz.prog W 0 (fun _=>true) true dQ 2 (([c0,c1,c2,c3,c4,c5,c6,c7,c8,c9,kY,Ja,Ga,jX,Gb,Jb].drop 13).take (Tryz.prog.cellsOf 2))=some y9:=xh 9 _ rfl;rw[Cw]at g9;have f9:DataW.trod enc Tryz.prog W 0 (fun _=>true) true dQ 2 [jX]=some y9:=g9;have NJ:DataW.trod enc Tryz.prog W 0 (fun _=>true) true dQ 9 (([c0,c1,c2,c3,c4,c5,c6,c7,c8,c9,kY,Ja,Ga,jX,Gb,Jb].drop 14).take (Tryz.prog.cellsOf 9))=some y10:=xh 10 _ rfl;rw[l8]at NJ;have f10:DataW.trod enc Tryz.prog W 0 (fun _=>true) true dQ 9 [Gb]=some y10:=NJ;have g11:DataW.trod enc Tryz.prog W 0 (fun _=>true) true dQ 26 (([c0,c1,c2,c3,c4,c5,c6,c7,c8,c9,kY,Ja,Ga,jX,Gb,Jb].drop 15).take (Tryz.prog.cellsOf 26))=some y11:=xh 11 _ rfl;rw[Ul]at g11;have f11:DataW.trod enc Tryz.prog W 0 (fun _=>true) true dQ 26 [Jb]=some y11:=g11;obtain⟨room,e0,x0,_⟩:=DataW.trod_string Tryz.underlying9 f0;obtain⟨aK,e1,x1,_⟩:=DataW.trod_string Tryz.underlying9 f1;obtain⟨ag,e2,x2,_⟩:=DataW.trod_string Tryz.underlying9 f2;obtain⟨st,e3,x3⟩:=DataW.trod_bool Tryz.underlying4 f3;obtain⟨key,e4,x4,_⟩:=DataW.trod_string Tryz.underlying9 f4;obtain⟨cont,hj⟩:=Vb dQ _ _ f5;obtain⟨k,i,t,pk,nk,ck,pl,nl,cl,e5⟩:=dI hj;rw[e5]at hj;obtain⟨q1,q2,q3,q4,q5,_⟩:=Qg hj;obtain⟨zdA,zdB,prev,e6,zdC⟩:=Q5 f6;obtain⟨zdD,zdE,aA,e7,zdF⟩:=Q5 f7;obtain⟨depth,e8,_,_⟩:=DataW.trod_int Tryz.underlying2 f8;obtain⟨ts,e9,_,_⟩:=DataW.trod_int Tryz.underlying2 f9;obtain⟨hash,Rm,BX,_⟩:=DataW.trod_string Tryz.underlying9 f10;obtain⟨zdG,zdH,sigs,MM,zdI,zaS⟩:=zdz f11 (iX hw (j:=11) rfl rfl);simp only[List.cons.injEq,and_true]at e0 e1 e2 e3 e4 e5 e8 e9 Rm;obtain⟨w0,w1,w2,w3,w4⟩:=e5;subst e0 e1 e2 e3 e4 e6 e7 e8 e9 Rm MM w0 w1 w2 w3 w4;have z0:room.size<=140737488355328:=by
    have h:=iX hw (j:=0) rfl rfl;rw[x0]at h;exact rQ h
   have z1:aK.size<=140737488355328:=by
    have h:=iX hw (j:=1) rfl rfl;rw[x1]at h;exact rQ h
   have z2:ag.size<=140737488355328:=by
    have h:=iX hw (j:=2) rfl rfl;rw[x2]at h;exact rQ h
   have z4:key.size<=140737488355328:=by
    have h:=iX hw (j:=4) rfl rfl;rw[x4]at h;exact rQ h
   have z10:hash.size<=140737488355328:=by
    have h:=iX hw (j:=10) rfl rfl;rw[BX]at h;exact rQ h
   subst q4 q5;refine⟨⟨room,aK,ag,st,key,cont,prev,aA,depth,ts,hash,sigs⟩,⟨pk,ck,pl,cl,zdA,zdB,zdD,zdE,zdG,zdH⟩, ?_,⟨?_,zdC,zdF,zdI⟩,⟨z0,z1,z2,z4,z10,zaS⟩⟩
   ·unfold aB;simp only[q1,q2,q3]
   ·unfold zm;simp only[q1,q2,q3];exact hj
end
theorem KU:Tryz.prog.cellsOf 41=17:=by kernel_rfl
section
variable {H : Type} {enc : TypeId × Value -> H} {W : World}
theorem zaT{dQ:Nat}{c:Value}{y:DataW H×List MemPlace}(h:DataW.trod enc Tryz.prog W 0 (fun _=>true) true dQ 29 [c]=some y)(hw:Wt y.1 29):∃p k l,c=.slice p (List.length l) k/\rZ (fun b=>b<W.heap.size) W p k l/\∀x∈l,yZ x.2:=by
 rcases DataW.trod_slice Tryz.underlying29 h with⟨e4,_⟩| ⟨a,len,cap,elems,rest,n',Sl,e4,hy,_,CX,_,hel,oP,_,_⟩
 ·simp only[List.cons.injEq,and_true]at e4;exact⟨none,0, [],e4,rZ.nil _ _ _ _,fun x hx=>by cases hx⟩
 ·simp only[List.cons.injEq,and_true]at e4;rw[KU]at oP;have hwe:∀d∈elems.map (·.1),Wt d 41:=by
   rw[hy]at hw;have hw':((((elems.map (·.1)).length+(rest.map (·.1)).length)*Tryz.prog.bytesOf 41)::(DataW.weightsAll Tryz.prog 41 (elems.map (·.1))++DataW.weightsAll Tryz.prog 41 (rest.map (·.1)))).all (· <=reachBytes)=true:=by
    have e:DataW.weights Tryz.prog 29 (.slice (elems.map (·.1)) (rest.map (·.1)))=(((elems.map (·.1)).length+(rest.map (·.1)).length)*Tryz.prog.bytesOf 41)::(DataW.weightsAll Tryz.prog 41 (elems.map (·.1))++DataW.weightsAll Tryz.prog 41 (rest.map (·.1))):=by
     simp only[DataW.weights,Tryz.underlying29]
    rw[<-e];exact hw
   simp only[List.all_cons,List.all_append,Bool.and_eq_true]at hw';exact JX hw'.2.1
  cases len with
  | zero=>exact⟨some a,cap, [],e4,rZ.nil _ _ _ _,fun x hx=>by cases hx⟩
  | succ len=>
   obtain⟨b,o,sp⟩:=a;have Cy:∀i,i<len+1->∃(x:Kn) (q:Pt),(∀n v,(aI x q)[n]?=some v->W.cell? (((⟨b,o,sp⟩:Addr).add (i*17)).add n)=some v)/\iL (fun b=>b<W.heap.size) W x.2 q/\yZ x.2:=fun i hi=>by
    have h1:=oP i hi;rw[List.getElem?_eq_getElem (by omega),Option.bind_eq_some_iff]at h1;obtain⟨cs,h2,h3⟩:=h1;have hwi:=hwe (elems[i]'(by omega)).1 (List.mem_map_of_mem (List.getElem_mem _));obtain⟨xs,n,_,hx,hl,dP,xh⟩:=DataW.trod_struct Tryz.underlying41 h3;rw[KU]at hl;rw[hx]at hwi;have Um:(DataW.weightsEach Tryz.prog [9,28] (xs.map (·.1))).all (· <=reachBytes)=true:=by
     have e:DataW.weights Tryz.prog 41 (.agg (xs.map (·.1)))=DataW.weightsEach Tryz.prog [9,28] (xs.map (·.1)):=by
      simp only[DataW.weights,Tryz.underlying41]
      rfl
     rw[<-e];exact hwi
    obtain⟨c0,r,rfl⟩:∃c0 r,cs=c0::r:=by
     match cs,hl with
     | c0::r,_=>exact⟨c0,r,rfl⟩
    obtain⟨y0,y1,rfl⟩:∃y0 y1,xs= [y0,y1]:=by
     match xs,dP with
     | [y0,y1],_=>exact⟨y0,y1,rfl⟩
    have hr:r.length=16:=by simpa using hl
    have g0:DataW.trod enc Tryz.prog W 0 (fun _=>true) true n 9 (((c0::r).drop 0).take (Tryz.prog.cellsOf 9))=some y0:=xh 0 _ rfl;have g1:DataW.trod enc Tryz.prog W 0 (fun _=>true) true n 28 (((c0::r).drop 1).take (Tryz.prog.cellsOf 28))=some y1:=xh 1 _ rfl;rw[l8]at g0;rw[KT,show((c0::r).drop 1).take 16=r from by rw[List.drop_one,List.tail_cons,List.take_of_length_le (by omega)]]at g1;obtain⟨u,e0,x0,_⟩:=DataW.trod_string Tryz.underlying9 (show DataW.trod enc Tryz.prog W 0 (fun _=>true) true n 9 [c0]=some y0 from g0);simp only[List.cons.injEq,and_true]at e0;subst e0;obtain⟨e,q,F4,hI,hB⟩:=Vn n r y1 g1 (iX Um (j:=1) rfl rfl);refine⟨(u,e),q,fun m v hv=> ?_,hI,hB⟩;have hm:m<17:=by
     have:=(List.getElem?_eq_some_iff.1 hv).1;exact this
    rw[(World.cells?_some h2).2.2 m hm,F4];exact hv
   have Ld:sp=none:=by
    obtain⟨x,q,h1,_⟩:=Cy 0 (by omega);have h5:=h1 0 _ rfl;have h4:((⟨b,o,sp⟩:Addr).add (0*17)).add 0=⟨b,o,sp⟩:=by unfold Addr.add;simp
    rw[h4]at h5;exact vC h5
   subst Ld;have vg:∀m,(⟨b,o,none⟩:Addr).add m=⟨b,o+m,none⟩:=fun m=>by unfold Addr.add;split<;>simp_all
   have FH:∀m m',((⟨b,o+m,none⟩:Addr)).add m'=⟨b,o+m+m',none⟩:=fun m m'=>by unfold Addr.add;split<;>simp_all
   obtain⟨l,FY,FZ⟩:=qa (z:=zK) (P:=fun i (x:Kn)=>∃q,(∀n v,(aI x q)[n]?=some v->W.cell? ⟨b,o+i*17+n,none⟩=some v)/\iL (fun b=>b<W.heap.size) W x.2 q/\yZ x.2) (len+1) fun i hi=>by
    obtain⟨x,q,h1,h2,h3⟩:=Cy i hi;refine⟨x,q,fun n v hv=> ?_,h2,h3⟩;have:=h1 n v hv
    rwa [vg,FH]at this
   refine⟨some ⟨b,o,none⟩,cap,l,by rw[FY];exact e4,⟨by omega,fun j hj=> ?_⟩,fun x hx=> ?_⟩
   ·obtain⟨q,h1,h2,_⟩:=FZ j (by omega);exact⟨b,o,q,rfl,jE (h1 0 _ rfl),h1,h2⟩
   ·obtain⟨y,hy,rfl⟩:=List.getElem_of_mem hx;obtain⟨q,_,_,h3⟩:=FZ y (by omega);rw[List.getD_eq_getElem?_getD,List.getElem?_eq_getElem hy]at h3;exact h3
theorem zaU{dM:Nat}{v:Value}{d:DataW H}{p0:List MemPlace}(JY:Value.okWide Tryz.prog W .any dM 29 v)
    (h0:DataW.Trod enc Tryz.prog W 0 (fun _=>true) true 29 v d p0) (hw:Wt d 29):∃p c l,v=.slice p (List.length l) c/\rZ (fun b=>b<W.heap.size) W p c l/\∀k∈l,yZ k.2:=by
 obtain⟨p,n,c,rfl⟩:=okWide_slice Tryz.underlying29 JY;obtain⟨dQ,hf⟩:=h0;have UK:DataW.trod enc Tryz.prog W 0 (fun _=>true) true dQ 29 [.slice p n c]=some (d,p0):=by simpa [Value.cells]using hf
 exact zaT UK hw
end
open Go Go.RowKit
theorem zh4:ownKnob Tryz.prog.godebug=none:=by kernel_rfl
def pF:List (String×DataW Unit):= [("math/bits.deBruijn32tab",Rows.laid_math_bits_deBruijn32tab),("math/bits.deBruijn64tab",Rows.laid_math_bits_deBruijn64tab),("internal/strconv.uint64pow10",Rows.laid_internal_strconv_uint64pow10),("unicode/utf8.acceptRanges",Rows.laid_unicode_utf8_acceptRanges),("unicode/utf8.first",Rows.laid_unicode_utf8_first)]
theorem zh5:Tryz.prog.globalNamed "internal/strconv.uint64pow10" =some 2:=by kernel_rfl
theorem zh6:(Tryz.prog.globals[2]?).map (·.type)=some 207:=by kernel_rfl
theorem Q6(os:Os)(args:Array Value):laidMetH Tryz.prog pF ((World.laidAll Tryz.prog os pF).forCall (fun _ _=>0) ⟨#[],args, []⟩).memory:=by
 rw[MakeChecks.laidMetH_plain _ _ _ (by kernel_rfl)];exact laidMet_laidAll _ (by kernel_rfl) (by kernel_rfl)
theorem Q7:(Rows.laid_internal_strconv_uint64pow10:DataW Unit)=Lib.tabData .u64 Lib.pow10Tab:=by kernel_rfl
theorem JZ:(Rows.laid_unicode_utf8_first:DataW Unit)=Lib.firstData:=by kernel_rfl
theorem FT:(Rows.laid_unicode_utf8_acceptRanges:DataW Unit)=Lib.acceptData:=by kernel_rfl
theorem wH{W:World}(h:laidMetH Tryz.prog pF W):laidMet Tryz.prog pF W:=by
 rw[MakeChecks.laidMetH_plain _ _ _ (by kernel_rfl)]at h;exact h
theorem FU{W:World}(h:laidMetH Tryz.prog pF W):NQ W.heap.size W:=by
 refine Lib.tabBelow_of_tabIs ?_;obtain⟨g2,t2,cs2,f2,p2,qg,ht2,eH,X6⟩:=Lib.laidMet.reads (wH h) (.tail _ (.tail _ (.head _)));obtain rfl:=Option.some.inj (zh5.symm.trans qg);obtain rfl:=Option.some.inj (zh6.symm.trans ht2);rw[Q7]at X6;unfold Lib.TabIs;rw[eH,<-Lib.cells_of_tab Tryz.underlying207 Tryz.underlying183 (by kernel_rfl) (by kernel_rfl) X6]
theorem CO{W:World}(h:laidMetH Tryz.prog pF W):MP W.heap.size W:=by
 have hL:=wH h;have h1:=Lib.laidMet.reads hL (.tail _ (.tail _ (.tail _ (.tail _ (.head _)))));have h2:=Lib.laidMet.reads hL (.tail _ (.tail _ (.tail _ (.head _))));rw[JZ]at h1;rw[FT]at h2;have ht:Lib.Utf8Tabs (Tryz.laysValid_ren.g 3) (Tryz.laysValid_ren.g 4) W:=utf8Tabs_of_readsT (U8Types.of196 Tryz.laysValid) ⟨by kernel_rfl,by kernel_rfl,by kernel_rfl,by kernel_rfl,by kernel_rfl,by kernel_rfl,by kernel_rfl⟩ h1 h2;intro W' hb;refine⟨fun c hc=>(hb.cell (p:=⟨_,c,none⟩) (jE (ht.1 c hc))).trans (ht.1 c hc),fun i hi=>⟨(hb.cell (p:=⟨_,2*i,none⟩) (jE (ht.2 i hi).1)).trans (ht.2 i hi).1,(hb.cell (p:=⟨_,2*i+1,none⟩) (jE (ht.2 i hi).2)).trans (ht.2 i hi).2⟩⟩
theorem CP{W:World}(h:laidMetH Tryz.prog pF W):uW W:=⟨FU h,CO h⟩
open Go.ChangeShapes Go.WideShapes Go.ChangeAt Go.RowKit
theorem zaV{H:Type}{enc:TypeId×Value->H}{W:World}{dM:Nat}{v:Value}{d:DataW H}{p0:List MemPlace}(JY:Value.okWide Tryz.prog W .any dM 28 v)
    (h0:DataW.Trod enc Tryz.prog W 0 (fun _=>true) true 28 v d p0) (hw:Wt d 28):∃e p,v=dZ e p/\iL (fun b=>b<W.heap.size) W e p/\yZ e:=by
 obtain⟨cs,rfl,_⟩:=okWide_struct Tryz.underlying28 JY;obtain⟨dQ,hf⟩:=h0;have UK:DataW.trod enc Tryz.prog W 0 (fun _=>true) true dQ 28 cs.toList=some (d,p0):=by simpa [Value.cells]using hf
 obtain⟨e,p,F4,hI,hB⟩:=Vn dQ cs.toList _ UK hw;refine⟨e,p, ?_,hI,hB⟩;unfold dZ;rw[<-F4]
theorem FV:laidOutB Tryz.prog=true:=by kernel_rfl
end Go.Proofs.YtldegjjaknelgaaGreatDoor
