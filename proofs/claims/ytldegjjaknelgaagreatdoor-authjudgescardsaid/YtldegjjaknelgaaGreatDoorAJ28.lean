/- A part. -/
import Derived.Test.YtldegjjaknelgaaGreatDoorAJ27
import Derived.Test.YtldegjjaknelgaaGreatDoorTie
import Derived.Test.YtldegjjaknelgaaGreatDoorCards
import Derived.LaidMore
import Derived.OpenShut
import Derived.Stop.Joined
import Derived.Lib.LaidTab
import Derived.Lib.LaidU8T
import Derived.Lay
set_option maxRecDepth 100000
set_option maxHeartbeats 64000000
namespace Go.Proofs.YtldegjjaknelgaaGreatDoor
open Go.ChangeShapes Go.WideShapes Go.ChangeAt Go.RowKit
theorem Nj:Tryz.prog.cellsOf 28=16:=by kernel_rfl
theorem zdn:Tryz.prog.cellsOf 4=1:=by kernel_rfl
theorem WK:Tryz.prog.cellsOf 26=1:=by kernel_rfl
theorem TN:Tryz.prog.cellsOf 54=2:=by kernel_rfl
section
variable {H : Type} {enc : TypeId × Value -> H} {W : World}
abbrev Wt(d:DataW H)(t:TypeId):Prop:=(d.weights Tryz.prog t).all (· <=reachBytes)=true
theorem jO{ts:List TypeId}{ds:List (DataW H)}(h:(DataW.weightsEach Tryz.prog ts ds).all (· <=reachBytes)=true){j:Nat}{t:TypeId}{d:DataW H}(ht:ts[j]?=some t)(hd:ds[j]?=some d):Wt d t:=
 List.all_eq_true.2 fun n hn=>List.all_eq_true.1 h n (DataW.weights_mem_each ht hd n hn)
theorem Mf{e:TypeId}:∀{ds:List (DataW H)},(DataW.weightsAll Tryz.prog e ds).all (· <=reachBytes)=true->∀d∈ds,Wt d e
 | [],_,d,hd=>by cases hd
 | a::r,h,d,hd=>by
  simp only[DataW.weightsAll,List.all_append,Bool.and_eq_true]at h
  rcases List.mem_cons.1 hd with rfl| hd
  ·exact h.1
  ·exact Mf h.2 d hd
theorem tJ{s:ByteArray}{t:TypeId}(h:Wt (.lit (.string s.data.toList):DataW H) t):s.size<=140737488355328:=by
 have h1:=List.all_eq_true.1 h s.data.toList.length (by simp[DataW.weights]);have h2:s.data.toList.length<=reachBytes:=by simpa using h1
 have h3:=reachBytes_lt;have h4:s.data.toList.length=s.size:=by simp
 omega
theorem TP{eB:Nat}{c:Value}{y:DataW H×List MemPlace}(h:DataW.trod enc Tryz.prog W 0 (fun _=>true) true eB 22 [c]=some y):∃pk ck ks,c=.slice pk (List.length ks) ck/\jP (fun b=>b<W.heap.size) W pk ck ks:=by
 rcases open_strings Tryz.underlying22 Tryz.underlying9 nt h with⟨e3,_⟩| ⟨a,len,cap,ss,e3,_,Em,_,Q3,_,gu,_⟩
 ·simp only[List.cons.injEq,and_true]at e3;exact⟨none,0, [],e3,jP.nil _ _⟩
 ·simp only[List.cons.injEq,and_true]at e3;simp only[if_true]at Q3;have hl:(ss.take len).length=len:=by simp;omega
  refine⟨some a,cap,ss.take len,by rw[hl];exact e3,by rw[hl];exact Em,fun j hj=>⟨a,rfl, ?_, ?_⟩⟩
  ·have Ie:j<len:=by rw[hl]at hj;exact hj
   have:=kz (gu j (by omega))
   rwa [bK]at this
  ·have Ie:j<len:=by rw[hl]at hj;exact hj
   rw[gu j (by omega)]
   congr 2
   rw[List.getD_eq_getElem?_getD,List.getD_eq_getElem?_getD,List.getElem?_take,if_pos Ie,List.getElem?_eq_getElem (by omega)]
   rfl
theorem zf6{eB:Nat}{c:Value}{y:DataW H×List MemPlace}(h:DataW.trod enc Tryz.prog W 0 (fun _=>true) true eB 26 [c]=some y)(hw:Wt y.1 26):∃p k l,c=.slice p (List.length l) k/\Hm (fun b=>b<W.heap.size) W p k l/\∀x∈l,x.1.size<=140737488355328/\x.2.size<=140737488355328:=by
 rcases DataW.trod_slice Tryz.underlying26 h with⟨e4,_⟩| ⟨a,len,cap,elems,rest,n',U8,e4,hy,_,Em,_,hel,x9,_,_⟩
 ·simp only[List.cons.injEq,and_true]at e4;exact⟨none,0, [],e4,Hm.nil _ _ _ _,fun x hx=>by cases hx⟩
 ·simp only[List.cons.injEq,and_true]at e4;rw[TN]at x9;have hwe:∀d∈elems.map (·.1),Wt d 54:=by
   rw[hy]at hw;have hw':((((elems.map (·.1)).length+(rest.map (·.1)).length)*Tryz.prog.bytesOf 54)::(DataW.weightsAll Tryz.prog 54 (elems.map (·.1))++DataW.weightsAll Tryz.prog 54 (rest.map (·.1)))).all (· <=reachBytes)=true:=by
    have e:DataW.weights Tryz.prog 26 (.slice (elems.map (·.1)) (rest.map (·.1)))=(((elems.map (·.1)).length+(rest.map (·.1)).length)*Tryz.prog.bytesOf 54)::(DataW.weightsAll Tryz.prog 54 (elems.map (·.1))++DataW.weightsAll Tryz.prog 54 (rest.map (·.1))):=by
     simp only[DataW.weights,Tryz.underlying26]
    rw[<-e];exact hw
   simp only[List.all_cons,List.all_append,Bool.and_eq_true]at hw';exact Mf hw'.2.1
  cases len with
  | zero=>exact⟨some a,cap, [],e4,Hm.nil _ _ _ _,fun x hx=>by cases hx⟩
  | succ len=>
   obtain⟨b,o,sp⟩:=a;have DW:∀i,i<len+1->∃u v,W.cell? ((⟨b,o,sp⟩:Addr).add (i*2))=some (.string u)/\W.cell? (((⟨b,o,sp⟩:Addr).add (i*2)).add 1)=some (.string v)/\u.size<=140737488355328/\v.size<=140737488355328:=fun i hi=>by
    have h1:=x9 i hi;rw[List.getElem?_eq_getElem (by omega),Option.bind_eq_some_iff]at h1;obtain⟨cs,h2,h3⟩:=h1;have hwi:=hwe (elems[i]'(by omega)).1 (List.mem_map_of_mem (List.getElem_mem _));obtain⟨xs,n,_,hx,hl,fw,yH⟩:=DataW.trod_struct Tryz.underlying54 h3;rw[TN]at hl;rw[hx]at hwi;have WL:(DataW.weightsEach Tryz.prog [9,9] (xs.map (·.1))).all (· <=reachBytes)=true:=by
     have e:DataW.weights Tryz.prog 54 (.agg (xs.map (·.1)))=DataW.weightsEach Tryz.prog [9,9] (xs.map (·.1)):=by
      simp only[DataW.weights,Tryz.underlying54]
      rfl
     rw[<-e];exact hwi
    obtain⟨c0,c1,rfl⟩:∃c0 c1,cs= [c0,c1]:=by
     match cs,hl with
     | [c0,c1],_=>exact⟨c0,c1,rfl⟩
    obtain⟨y0,y1,rfl⟩:∃y0 y1,xs= [y0,y1]:=by
     match xs,fw with
     | [y0,y1],_=>exact⟨y0,y1,rfl⟩
    ·· have g0:DataW.trod enc Tryz.prog W 0 (fun _=>true) true n 9 (([c0,c1].drop 0).take (Tryz.prog.cellsOf 9))=some y0:=yH 0 _ rfl
       have g1:DataW.trod enc Tryz.prog W 0 (fun _=>true) true n 9 (([c0,c1].drop 1).take (Tryz.prog.cellsOf 9))=some y1:=yH 1 _ rfl;rw[nt]at g0 g1;obtain⟨u,e0,x0,_⟩:=DataW.trod_string Tryz.underlying9 (show DataW.trod enc Tryz.prog W 0 (fun _=>true) true n 9 [c0]=some y0 from g0);obtain⟨v,e1,x1,_⟩:=DataW.trod_string Tryz.underlying9 (show DataW.trod enc Tryz.prog W 0 (fun _=>true) true n 9 [c1]=some y1 from g1);simp only[List.cons.injEq,and_true]at e0 e1;subst e0 e1;have h5:=(World.cells?_some h2).2.2;have a0:=h5 0 (by decide);have a1:=h5 1 (by decide);have ez:((⟨b,o,sp⟩:Addr).add (i*2)).add 0=(⟨b,o,sp⟩:Addr).add (i*2):=by unfold Addr.add;simp
       rw[ez]at a0;have z0:=jO WL (j:=0) rfl rfl;have z1:=jO WL (j:=1) rfl rfl;rw[x0]at z0;rw[x1]at z1;exact⟨u,v,a0,a1,tJ z0,tJ z1⟩
   have Nu:sp=none:=by
    obtain⟨u,v,h1,_⟩:=DW 0 (by omega);have h4:(⟨b,o,sp⟩:Addr).add (0*2)=⟨b,o,sp⟩:=by unfold Addr.add;simp
    rw[h4]at h1;exact wS h1
   subst Nu;have wO:∀m,(⟨b,o,none⟩:Addr).add m=⟨b,o+m,none⟩:=fun m=>by unfold Addr.add;split<;>simp_all
   have GG:∀m m',((⟨b,o+m,none⟩:Addr)).add m'=⟨b,o+m+m',none⟩:=fun m m'=>by unfold Addr.add;split<;>simp_all
   obtain⟨l,He,Hf⟩:=rq (z:=(aT,aT)) (P:=fun i (x:ByteArray×ByteArray)=>W.cell? ⟨b,o+i*2,none⟩=some (.string x.1)/\W.cell? ⟨b,o+i*2+1,none⟩=some (.string x.2)/\x.1.size<=140737488355328/\x.2.size<=140737488355328) (len+1) fun i hi=>by
    obtain⟨u,v,h1,h2,h3,h4⟩:=DW i hi;rw[wO]at h1;rw[wO,GG]at h2;exact⟨(u,v),h1,h2,h3,h4⟩
   refine⟨some ⟨b,o,none⟩,cap,l,by rw[He];exact e4,⟨by omega,fun j hj=>⟨b,o,rfl, ?_,(Hf j (by omega)).1,(Hf j (by omega)).2.1⟩⟩,fun x hx=> ?_⟩
   ·exact kz (Hf j (by omega)).1
   ·obtain⟨y,hy,rfl⟩:=List.getElem_of_mem hx;have:=Hf y (by omega);rw[List.getD_eq_getElem?_getD,List.getElem?_eq_getElem hy]at this;exact this.2.2
theorem Ya:∀(eB:Nat) (cs:List Value) (x:DataW H×List MemPlace),DataW.trod enc Tryz.prog W 0 (fun _=>true) true eB 28 cs=some x->Wt x.1 28->∃e p,cs=aA e p/\ji (fun b=>b<W.heap.size) W e p/\Au e:=by
 intro eB cs x h hw0;obtain⟨xs,eB,_,hx,hl,fw,yH⟩:=DataW.trod_struct Tryz.underlying28 h;rw[Nj]at hl;have hw:(DataW.weightsEach Tryz.prog [9,9,9,4,9,25,22,22,2,2,9,26] (xs.map (·.1))).all (· <=reachBytes)=true:=by
  have e:DataW.weights Tryz.prog 28 (.agg (xs.map (·.1)))=DataW.weightsEach Tryz.prog [9,9,9,4,9,25,22,22,2,2,9,26] (xs.map (·.1)):=by
   simp only[DataW.weights,Tryz.underlying28]
   rfl
  rw[<-e];rw[hx]at hw0;exact hw0
 clear hx hw0 h
 match cs,hl with
 | [c0,c1,c2,c3,c4,c5,c6,c7,c8,c9,l_,Kc,Hz,kW,H_,Ke],_=>
  match xs,fw with
  | [y0,y1,y2,y3,y4,y5,y6,y7,y8,y9,y10,y11],_=>
   have g0:DataW.trod enc Tryz.prog W 0 (fun _=>true) true eB 9 (([c0,c1,c2,c3,c4,c5,c6,c7,c8,c9,l_,Kc,Hz,kW,H_,Ke].drop 0).take (Tryz.prog.cellsOf 9))=some y0:=yH 0 _ rfl;rw[nt]at g0;have f0:DataW.trod enc Tryz.prog W 0 (fun _=>true) true eB 9 [c0]=some y0:=g0;have g1:DataW.trod enc Tryz.prog W 0 (fun _=>true) true eB 9 (([c0,c1,c2,c3,c4,c5,c6,c7,c8,c9,l_,Kc,Hz,kW,H_,Ke].drop 1).take (Tryz.prog.cellsOf 9))=some y1:=yH 1 _ rfl;rw[nt]at g1;have f1:DataW.trod enc Tryz.prog W 0 (fun _=>true) true eB 9 [c1]=some y1:=g1;have g2:DataW.trod enc Tryz.prog W 0 (fun _=>true) true eB 9 (([c0,c1,c2,c3,c4,c5,c6,c7,c8,c9,l_,Kc,Hz,kW,H_,Ke].drop 2).take (Tryz.prog.cellsOf 9))=some y2:=yH 2 _ rfl;rw[nt]at g2;have f2:DataW.trod enc Tryz.prog W 0 (fun _=>true) true eB 9 [c2]=some y2:=g2;have g3:DataW.trod enc Tryz.prog W 0 (fun _=>true) true eB 4 (([c0,c1,c2,c3,c4,c5,c6,c7,c8,c9,l_,Kc,Hz,kW,H_,Ke].drop 3).take (Tryz.prog.cellsOf 4))=some y3:=yH 3 _ rfl;rw[zdn]at g3;have f3:DataW.trod enc Tryz.prog W 0 (fun _=>true) true eB 4 [c3]=some y3:=g3;have g4:DataW.trod enc Tryz.prog W 0 (fun _=>true) true eB 9 (([c0,c1,c2,c3,c4,c5,c6,c7,c8,c9,l_,Kc,Hz,kW,H_,Ke].drop 4).take (Tryz.prog.cellsOf 9))=some y4:=yH 4 _ rfl;rw[nt]at g4;have f4:DataW.trod enc Tryz.prog W 0 (fun _=>true) true eB 9 [c4]=some y4:=g4;have g5:DataW.trod enc Tryz.prog W 0 (fun _=>true) true eB 25 (([c0,c1,c2,c3,c4,c5,c6,c7,c8,c9,l_,Kc,Hz,kW,H_,Ke].drop 5).take (Tryz.prog.cellsOf 25))=some y5:=yH 5 _ rfl;rw[LF]at g5;have f5:DataW.trod enc Tryz.prog W 0 (fun _=>true) true eB 25 [c5,c6,c7,c8,c9]=some y5:=g5;have g6:DataW.trod enc Tryz.prog W 0 (fun _=>true) true eB 22 (([c0,c1,c2,c3,c4,c5,c6,c7,c8,c9,l_,Kc,Hz,kW,H_,Ke].drop 10).take (Tryz.prog.cellsOf 22))=some y6:=yH 6 _ rfl;rw[DV]at g6;have f6:DataW.trod enc Tryz.prog W 0 (fun _=>true) true eB 22 [l_]=some y6:=g6;have g7:DataW.trod enc Tryz.prog W 0 (fun _=>true) true eB 22 (([c0,c1,c2,c3,c4,c5,c6,c7,c8,c9,l_,Kc,Hz,kW,H_,Ke].drop 11).take (Tryz.prog.cellsOf 22))=some y7:=yH 7 _ rfl;rw[DV]at g7;have f7:DataW.trod enc Tryz.prog W 0 (fun _=>true) true eB 22 [Kc]=some y7:=g7;have g8:DataW.trod enc Tryz.prog W 0 (fun _=>true) true eB 2 (([c0,c1,c2,c3,c4,c5,c6,c7,c8,c9,l_,Kc,Hz,kW,H_,Ke].drop 12).take (Tryz.prog.cellsOf 2))=some y8:=yH 8 _ rfl;rw[DU]at g8;have f8:DataW.trod enc Tryz.prog W 0 (fun _=>true) true eB 2 [Hz]=some y8:=g8;have g9:DataW.trod enc Tryz.prog W 0 (fun _=>true) true eB 2 (([c0,c1,c2,c3,c4,c5,c6,c7,c8,c9,l_,Kc,Hz,kW,H_,Ke].drop 13).take (Tryz.prog.cellsOf 2))=some y9:=yH 9 _ rfl;rw[DU]at g9;have f9:DataW.trod enc Tryz.prog W 0 (fun _=>true) true eB 2 [kW]=some y9:=g9;have PW:DataW.trod enc Tryz.prog W 0 (fun _=>true) true eB 9 (([c0,c1,c2,c3,c4,c5,c6,c7,c8,c9,l_,Kc,Hz,kW,H_,Ke].drop 14).take (Tryz.prog.cellsOf 9))=some y10:=yH 10 _ rfl;rw[nt]at PW;have f10:DataW.trod enc Tryz.prog W 0 (fun _=>true) true eB 9 [H_]=some y10:=PW;have g11:DataW.trod enc Tryz.prog W 0 (fun _=>true) true eB 26 (([c0,c1,c2,c3,c4,c5,c6,c7,c8,c9,l_,Kc,Hz,kW,H_,Ke].drop 15).take (Tryz.prog.cellsOf 26))=some y11:=yH 11 _ rfl;rw[WK]at g11;have f11:DataW.trod enc Tryz.prog W 0 (fun _=>true) true eB 26 [Ke]=some y11:=g11;obtain⟨room,e0,x0,_⟩:=DataW.trod_string Tryz.underlying9 f0;obtain⟨aR,e1,x1,_⟩:=DataW.trod_string Tryz.underlying9 f1;obtain⟨ah,e2,x2,_⟩:=DataW.trod_string Tryz.underlying9 f2;obtain⟨st,e3,x3⟩:=DataW.trod_bool Tryz.underlying4 f3;obtain⟨key,e4,x4,_⟩:=DataW.trod_string Tryz.underlying9 f4;obtain⟨cont,hj⟩:=XK eB _ _ f5;obtain⟨k,i,t,pk,nk,ck,pl,nl,cl,e5⟩:=dw hj;rw[e5]at hj;obtain⟨q1,q2,q3,q4,q5,_⟩:=R9 hj;obtain⟨zf7,zf8,prev,e6,zf9⟩:=TP f6;obtain⟨zga,zgb,aD,e7,zgc⟩:=TP f7;obtain⟨depth,e8,_,_⟩:=DataW.trod_int Tryz.underlying2 f8;obtain⟨ts,e9,_,_⟩:=DataW.trod_int Tryz.underlying2 f9;obtain⟨hash,Um,Dq,_⟩:=DataW.trod_string Tryz.underlying9 f10;obtain⟨zgd,zge,sigs,OV,zgf,zdo⟩:=zf6 f11 (jO hw (j:=11) rfl rfl);simp only[List.cons.injEq,and_true]at e0 e1 e2 e3 e4 e5 e8 e9 Um;obtain⟨w0,w1,w2,w3,w4⟩:=e5;subst e0 e1 e2 e3 e4 e6 e7 e8 e9 Um OV w0 w1 w2 w3 w4;have z0:room.size<=140737488355328:=by
    have h:=jO hw (j:=0) rfl rfl;rw[x0]at h;exact tJ h
   have z1:aR.size<=140737488355328:=by
    have h:=jO hw (j:=1) rfl rfl;rw[x1]at h;exact tJ h
   have z2:ah.size<=140737488355328:=by
    have h:=jO hw (j:=2) rfl rfl;rw[x2]at h;exact tJ h
   have z4:key.size<=140737488355328:=by
    have h:=jO hw (j:=4) rfl rfl;rw[x4]at h;exact tJ h
   have z10:hash.size<=140737488355328:=by
    have h:=jO hw (j:=10) rfl rfl;rw[Dq]at h;exact tJ h
   subst q4 q5;refine⟨⟨room,aR,ah,st,key,cont,prev,aD,depth,ts,hash,sigs⟩,⟨pk,ck,pl,cl,zf7,zf8,zga,zgb,zgd,zge⟩, ?_,⟨?_,zf9,zgc,zgf⟩,⟨z0,z1,z2,z4,z10,zdo⟩⟩
   ·unfold aA;simp only[q1,q2,q3]
   ·unfold AP;simp only[q1,q2,q3];exact hj
end
theorem Nk:Tryz.prog.cellsOf 41=17:=by kernel_rfl
section
variable {H : Type} {enc : TypeId × Value -> H} {W : World}
theorem zdp{eB:Nat}{c:Value}{y:DataW H×List MemPlace}(h:DataW.trod enc Tryz.prog W 0 (fun _=>true) true eB 29 [c]=some y)(hw:Wt y.1 29):∃p k l,c=.slice p (List.length l) k/\pM (fun b=>b<W.heap.size) W p k l/\∀x∈l,Au x.2:=by
 rcases DataW.trod_slice Tryz.underlying29 h with⟨e4,_⟩| ⟨a,len,cap,elems,rest,n',U8,e4,hy,_,Em,_,hel,x9,_,_⟩
 ·simp only[List.cons.injEq,and_true]at e4;exact⟨none,0, [],e4,pM.nil _ _ _ _,fun x hx=>by cases hx⟩
 ·simp only[List.cons.injEq,and_true]at e4;rw[Nk]at x9;have hwe:∀d∈elems.map (·.1),Wt d 41:=by
   rw[hy]at hw;have hw':((((elems.map (·.1)).length+(rest.map (·.1)).length)*Tryz.prog.bytesOf 41)::(DataW.weightsAll Tryz.prog 41 (elems.map (·.1))++DataW.weightsAll Tryz.prog 41 (rest.map (·.1)))).all (· <=reachBytes)=true:=by
    have e:DataW.weights Tryz.prog 29 (.slice (elems.map (·.1)) (rest.map (·.1)))=(((elems.map (·.1)).length+(rest.map (·.1)).length)*Tryz.prog.bytesOf 41)::(DataW.weightsAll Tryz.prog 41 (elems.map (·.1))++DataW.weightsAll Tryz.prog 41 (rest.map (·.1))):=by
     simp only[DataW.weights,Tryz.underlying29]
    rw[<-e];exact hw
   simp only[List.all_cons,List.all_append,Bool.and_eq_true]at hw';exact Mf hw'.2.1
  cases len with
  | zero=>exact⟨some a,cap, [],e4,pM.nil _ _ _ _,fun x hx=>by cases hx⟩
  | succ len=>
   obtain⟨b,o,sp⟩:=a;have DW:∀i,i<len+1->∃(x:Kn) (q:Pt),(∀n v,(az x q)[n]?=some v->W.cell? (((⟨b,o,sp⟩:Addr).add (i*17)).add n)=some v)/\ji (fun b=>b<W.heap.size) W x.2 q/\Au x.2:=fun i hi=>by
    have h1:=x9 i hi;rw[List.getElem?_eq_getElem (by omega),Option.bind_eq_some_iff]at h1;obtain⟨cs,h2,h3⟩:=h1;have hwi:=hwe (elems[i]'(by omega)).1 (List.mem_map_of_mem (List.getElem_mem _));obtain⟨xs,n,_,hx,hl,fw,yH⟩:=DataW.trod_struct Tryz.underlying41 h3;rw[Nk]at hl;rw[hx]at hwi;have WL:(DataW.weightsEach Tryz.prog [9,28] (xs.map (·.1))).all (· <=reachBytes)=true:=by
     have e:DataW.weights Tryz.prog 41 (.agg (xs.map (·.1)))=DataW.weightsEach Tryz.prog [9,28] (xs.map (·.1)):=by
      simp only[DataW.weights,Tryz.underlying41]
      rfl
     rw[<-e];exact hwi
    obtain⟨c0,r,rfl⟩:∃c0 r,cs=c0::r:=by
     match cs,hl with
     | c0::r,_=>exact⟨c0,r,rfl⟩
    obtain⟨y0,y1,rfl⟩:∃y0 y1,xs= [y0,y1]:=by
     match xs,fw with
     | [y0,y1],_=>exact⟨y0,y1,rfl⟩
    have hr:r.length=16:=by simpa using hl
    have g0:DataW.trod enc Tryz.prog W 0 (fun _=>true) true n 9 (((c0::r).drop 0).take (Tryz.prog.cellsOf 9))=some y0:=yH 0 _ rfl;have g1:DataW.trod enc Tryz.prog W 0 (fun _=>true) true n 28 (((c0::r).drop 1).take (Tryz.prog.cellsOf 28))=some y1:=yH 1 _ rfl;rw[nt]at g0;rw[Nj,show((c0::r).drop 1).take 16=r from by rw[List.drop_one,List.tail_cons,List.take_of_length_le (by omega)]]at g1;obtain⟨u,e0,x0,_⟩:=DataW.trod_string Tryz.underlying9 (show DataW.trod enc Tryz.prog W 0 (fun _=>true) true n 9 [c0]=some y0 from g0);simp only[List.cons.injEq,and_true]at e0;subst e0;obtain⟨e,q,Io,hI,hB⟩:=Ya n r y1 g1 (jO WL (j:=1) rfl rfl);refine⟨(u,e),q,fun m v hv=> ?_,hI,hB⟩;have hm:m<17:=by
     have:=(List.getElem?_eq_some_iff.1 hv).1;exact this
    rw[(World.cells?_some h2).2.2 m hm,Io];exact hv
   have Nu:sp=none:=by
    obtain⟨x,q,h1,_⟩:=DW 0 (by omega);have h5:=h1 0 _ rfl;have h4:((⟨b,o,sp⟩:Addr).add (0*17)).add 0=⟨b,o,sp⟩:=by unfold Addr.add;simp
    rw[h4]at h5;exact wS h5
   subst Nu;have wO:∀m,(⟨b,o,none⟩:Addr).add m=⟨b,o+m,none⟩:=fun m=>by unfold Addr.add;split<;>simp_all
   have GG:∀m m',((⟨b,o+m,none⟩:Addr)).add m'=⟨b,o+m+m',none⟩:=fun m m'=>by unfold Addr.add;split<;>simp_all
   obtain⟨l,He,Hf⟩:=rq (z:=zK) (P:=fun i (x:Kn)=>∃q,(∀n v,(az x q)[n]?=some v->W.cell? ⟨b,o+i*17+n,none⟩=some v)/\ji (fun b=>b<W.heap.size) W x.2 q/\Au x.2) (len+1) fun i hi=>by
    obtain⟨x,q,h1,h2,h3⟩:=DW i hi;refine⟨x,q,fun n v hv=> ?_,h2,h3⟩;have:=h1 n v hv
    rwa [wO,GG]at this
   refine⟨some ⟨b,o,none⟩,cap,l,by rw[He];exact e4,⟨by omega,fun j hj=> ?_⟩,fun x hx=> ?_⟩
   ·obtain⟨q,h1,h2,_⟩:=Hf j (by omega);exact⟨b,o,q,rfl,kz (h1 0 _ rfl),h1,h2⟩
   ·obtain⟨y,hy,rfl⟩:=List.getElem_of_mem hx;obtain⟨q,_,_,h3⟩:=Hf y (by omega);rw[List.getD_eq_getElem?_getD,List.getElem?_eq_getElem hy]at h3;exact h3
theorem zdq{fB:Nat}{v:Value}{d:DataW H}{p0:List MemPlace}(Mg:Value.okWide Tryz.prog W .any fB 29 v)
    (h0:DataW.Trod enc Tryz.prog W 0 (fun _=>true) true 29 v d p0) (hw:Wt d 29):∃p c l,v=.slice p (List.length l) c/\pM (fun b=>b<W.heap.size) W p c l/\∀k∈l,Au k.2:=by
 obtain⟨p,n,c,rfl⟩:=okWide_slice Tryz.underlying29 Mg;obtain⟨eB,hf⟩:=h0;have Xi:DataW.trod enc Tryz.prog W 0 (fun _=>true) true eB 29 [.slice p n c]=some (d,p0):=by simpa [Value.cells]using hf
 exact zdp Xi hw
end
open Go Go.RowKit
theorem zky:ownKnob Tryz.prog.godebug=none:=by kernel_rfl
def qG:List (String×DataW Unit):= [("math/bits.deBruijn32tab",Rows.laid_math_bits_deBruijn32tab),("math/bits.deBruijn64tab",Rows.laid_math_bits_deBruijn64tab),("internal/strconv.uint64pow10",Rows.laid_internal_strconv_uint64pow10),("unicode/utf8.acceptRanges",Rows.laid_unicode_utf8_acceptRanges),("unicode/utf8.first",Rows.laid_unicode_utf8_first)]
theorem zkz:Tryz.prog.globalNamed "internal/strconv.uint64pow10" =some 2:=by kernel_rfl
theorem zkA:(Tryz.prog.globals[2]?).map (·.type)=some 207:=by kernel_rfl
theorem TQ(os:Os)(args:Array Value):laidMetH Tryz.prog qG ((World.laidAll Tryz.prog os qG).forCall (fun _ _=>0) ⟨#[],args, []⟩).memory:=by
 rw[MakeChecks.laidMetH_plain _ _ _ (by kernel_rfl)];exact laidMet_laidAll _ (by kernel_rfl) (by kernel_rfl)
theorem TR:(Rows.laid_internal_strconv_uint64pow10:DataW Unit)=Lib.tabData .u64 Lib.pow10Tab:=by kernel_rfl
theorem Mh:(Rows.laid_unicode_utf8_first:DataW Unit)=Lib.firstData:=by kernel_rfl
theorem GZ:(Rows.laid_unicode_utf8_acceptRanges:DataW Unit)=Lib.acceptData:=by kernel_rfl
theorem xY{W:World}(h:laidMetH Tryz.prog qG W):laidMet Tryz.prog qG W:=by
 rw[MakeChecks.laidMetH_plain _ _ _ (by kernel_rfl)]at h;exact h
theorem G9{W:World}(h:laidMetH Tryz.prog qG W):P8 W.heap.size W:=by
 refine Lib.tabBelow_of_tabIs ?_;obtain⟨g2,t2,cs2,f2,p2,pU,ht2,eZ,JJ⟩:=Lib.laidMet.reads (xY h) (.tail _ (.tail _ (.head _)));obtain rfl:=Option.some.inj (zkz.symm.trans pU);obtain rfl:=Option.some.inj (zkA.symm.trans ht2);rw[TR]at JJ;unfold Lib.TabIs;rw[eZ,<-Lib.cells_of_tab Tryz.underlying207 Tryz.underlying183 (by kernel_rfl) (by kernel_rfl) JJ]
theorem Ec{W:World}(h:laidMetH Tryz.prog qG W):OZ W.heap.size W:=by
 have hL:=xY h;have h1:=Lib.laidMet.reads hL (.tail _ (.tail _ (.tail _ (.tail _ (.head _)))));have h2:=Lib.laidMet.reads hL (.tail _ (.tail _ (.tail _ (.head _))));rw[Mh]at h1;rw[GZ]at h2;have ht:Lib.Utf8Tabs (Tryz.laysValid_ren.g 3) (Tryz.laysValid_ren.g 4) W:=utf8Tabs_of_readsT (U8Types.of196 Tryz.laysValid) ⟨by kernel_rfl,by kernel_rfl,by kernel_rfl,by kernel_rfl,by kernel_rfl,by kernel_rfl,by kernel_rfl⟩ h1 h2;intro W' hb;refine⟨fun c hc=>(hb.cell (p:=⟨_,c,none⟩) (kz (ht.1 c hc))).trans (ht.1 c hc),fun i hi=>⟨(hb.cell (p:=⟨_,2*i,none⟩) (kz (ht.2 i hi).1)).trans (ht.2 i hi).1,(hb.cell (p:=⟨_,2*i+1,none⟩) (kz (ht.2 i hi).2)).trans (ht.2 i hi).2⟩⟩
theorem Ed{W:World}(h:laidMetH Tryz.prog qG W):wJ W:=⟨G9 h,Ec h⟩
open Go.ChangeShapes Go.WideShapes Go.ChangeAt Go.RowKit
theorem zdr{H:Type}{enc:TypeId×Value->H}{W:World}{fB:Nat}{v:Value}{d:DataW H}{p0:List MemPlace}(Mg:Value.okWide Tryz.prog W .any fB 28 v)
    (h0:DataW.Trod enc Tryz.prog W 0 (fun _=>true) true 28 v d p0) (hw:Wt d 28):∃e p,v=eF e p/\ji (fun b=>b<W.heap.size) W e p/\Au e:=by
 obtain⟨cs,rfl,_⟩:=okWide_struct Tryz.underlying28 Mg;obtain⟨eB,hf⟩:=h0;have Xi:DataW.trod enc Tryz.prog W 0 (fun _=>true) true eB 28 cs.toList=some (d,p0):=by simpa [Value.cells]using hf
 obtain⟨e,p,Io,hI,hB⟩:=Ya eB cs.toList _ Xi hw;refine⟨e,p, ?_,hI,hB⟩;unfold eF;rw[<-Io]
theorem G_:laidOutB Tryz.prog=true:=by kernel_rfl
end Go.Proofs.YtldegjjaknelgaaGreatDoor
