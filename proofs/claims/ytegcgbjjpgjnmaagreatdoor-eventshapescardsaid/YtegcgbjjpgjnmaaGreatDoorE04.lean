/- A part. -/
import Derived.Test.YtegcgbjjpgjnmaaGreatDoorE03
set_option maxRecDepth 100000
set_option maxHeartbeats 16000000
namespace Go.Proofs.YtegcgbjjpgjnmaaGreatDoor
open Go.RowKit
def flat(k i:Int)(t:ByteArray):Array Value:=#[.int .i64 k,.int .i64 i,.string t,.slice none 0 0,.slice none 0 0]
theorem mP(O:Nat->Prop)(w:World)(k i:Int)(t:ByteArray):isJ O w (.mk k i t [] []) (flat k i t).toList:=by
 unfold isJ flat;exact⟨none,0,none,0,rfl,jT.nil _ _,Nat.le_refl _,by unfold isJs;trivial⟩
def fB(w w':World):Nat->Prop:=fun k=>w.heap.size<=k/\k<w'.heap.size
def wy(w w':World)(R:Nat)(s:ByteArray)(r:Res J)(x:Ending):Prop:=match r with
 | .ok j q=>(∃k i t pk nk ck pl nl cl,x=.returned (.tuple #[.agg #[.int .i64 k,.int .i64 i,.string t,.slice pk nk ck,.slice pl nl cl],.bool true])/\isJ (fB w w') w' j [.int .i64 k,.int .i64 i,.string t,.slice pk nk ck,.slice pl nl cl])/\oJ w w' R s q
 | .bad e l=>(∃k i t,x=.returned (.tuple #[.agg (flat k i t),.bool false]))/\yt w w' R s e l
theorem bR{w w':World}{R:Nat}{cs:Array Value}(hk:aj (One R) (w.alloc (.cells cs 25)) w')(hR:R<w.heap.size):w'.heap[w.heap.size]?=some (.cells cs 25 (0,0)):=by
 rw[hk.block w.heap.size (by simp) (fun h=>by unfold One at h;omega)];exact heap_alloc_new _ _
section
variable {w : World} {b : Nat} {a0 a1 a2 a3 a4 : Value} {t : TypeId}
theorem zu(h:w.heap[b]?=some (.cells #[a0,a1,a2,a3,a4] t (0,0))):w.cell? ⟨b,0,none⟩=some a0:=aR (cur:= [_,_,_,_,_]) h 0 _ rfl
theorem NF(h:w.heap[b]?=some (.cells #[a0,a1,a2,a3,a4] t (0,0))):w.cell? ⟨b,1,none⟩=some a1:=aR (cur:= [_,_,_,_,_]) h 1 _ rfl
theorem zw(h:w.heap[b]?=some (.cells #[a0,a1,a2,a3,a4] t (0,0))):w.cell? ⟨b,2,none⟩=some a2:=aR (cur:= [_,_,_,_,_]) h 2 _ rfl
theorem fK(h:w.heap[b]?=some (.cells #[a0,a1,a2,a3,a4] t (0,0))):w.cell? ⟨b,3,none⟩=some a3:=aR (cur:= [_,_,_,_,_]) h 3 _ rfl
theorem bA(h:w.heap[b]?=some (.cells #[a0,a1,a2,a3,a4] t (0,0))):w.cell? ⟨b,4,none⟩=some a4:=aR (cur:= [_,_,_,_,_]) h 4 _ rfl
theorem iI(h:w.heap[b]?=some (.cells #[a0,a1,a2,a3,a4] t (0,0)))(j:Nat):w.frozen? ⟨b,j,none⟩=false:=frozen_of_row w b j _ _ h
theorem ai(h:w.heap[b]?=some (.cells #[a0,a1,a2,a3,a4] t (0,0))):w.cell? ⟨b,0,none⟩=some a0/\w.cell? ⟨b,1,none⟩=some a1/\w.cell? ⟨b,2,none⟩=some a2/\w.cell? ⟨b,3,none⟩=some a3/\w.cell? ⟨b,4,none⟩=some a4:=⟨zu h,NF h,zw h,fK h,bA h⟩
theorem aF(h:w.heap[b]?=some (.cells #[a0,a1,a2,a3,a4] t (0,0))):w.frozen? ⟨b,0,none⟩=false/\w.frozen? ⟨b,1,none⟩=false/\w.frozen? ⟨b,2,none⟩=false/\w.frozen? ⟨b,3,none⟩=false/\w.frozen? ⟨b,4,none⟩=false:=⟨iI h 0,iI h 1,iI h 2,iI h 3,iI h 4⟩
def bF(w:World)(b:Nat)(v0 v1 v2 v3 v4:Value):World:=((((w.setCell ⟨b,0,none⟩ v0).setCell ⟨b,1,none⟩ v1).setCell ⟨b,2,none⟩ v2).setCell ⟨b,3,none⟩ v3).setCell ⟨b,4,none⟩ v4
theorem aK(h:w.heap[b]?=some (.cells #[a0,a1,a2,a3,a4] t (0,0)))(v0 v1 v2 v3 v4:Value):(bF w b v0 v1 v2 v3 v4).heap[b]?=some (.cells #[v0,v1,v2,v3,v4] t (0,0)):=by
 have h0:(w.setCell ⟨b,0,none⟩ v0).heap[b]?=some (.cells #[v0,a1,a2,a3,a4] t (0,0)):=by rw[heap_setCell_same w b 0 _ _ _ h];rfl
 have h1:((w.setCell ⟨b,0,none⟩ v0).setCell ⟨b,1,none⟩ v1).heap[b]?=some (.cells #[v0,v1,a2,a3,a4] t (0,0)):=by rw[heap_setCell_same _ b 1 _ _ _ h0];rfl
 have h2:(((w.setCell ⟨b,0,none⟩ v0).setCell ⟨b,1,none⟩ v1).setCell ⟨b,2,none⟩ v2).heap[b]?=some (.cells #[v0,v1,v2,a3,a4] t (0,0)):=by rw[heap_setCell_same _ b 2 _ _ _ h1];rfl
 have h3:((((w.setCell ⟨b,0,none⟩ v0).setCell ⟨b,1,none⟩ v1).setCell ⟨b,2,none⟩ v2).setCell ⟨b,3,none⟩ v3).heap[b]?=some (.cells #[v0,v1,v2,v3,a4] t (0,0)):=by rw[heap_setCell_same _ b 3 _ _ _ h2];rfl
 unfold bF;rw[heap_setCell_same _ b 4 _ _ _ h3];rfl
theorem aJ(w:World)(b:Nat)(v0 v1 v2 v3 v4:Value):aj (One b) w (bF w b v0 v1 v2 v3 v4):=
 aj.setCell (aj.setCell (aj.setCell (aj.setCell (aj.setCell (aj.refl _ _) (fun _=>(rfl:b=b)) _) (fun _=>(rfl:b=b)) _) (fun _=>(rfl:b=b)) _) (fun _=>(rfl:b=b)) _) (fun _=>(rfl:b=b)) _
end
theorem Dr(t:List Int)(p:Nat):0<=(digits t p).1/\(digits t p).1<=90071992547409919:=by
 unfold digits
 split
 ·simp
 ·exact ND _ fun c hc=>List.all_eq_true.1 List.all_takeWhile c hc
theorem kK{w:World}{R p:Nat}{s:ByteArray}{e l:Int}(hr:eQ w R s p e l)(hs:short s)(hp:p<=s.size):
    Calls Tryz.prog 144 #[.pointer (some ⟨R,0,none⟩)] w fun x w'=>wy w w' R s (number (ints s) p) x:=by
 have fI:=hs;unfold short at fI;have hR:=hr.lt;have uM:eQ (w.alloc (.cells (flat 0 0 aH) 25)) R s p e l:=hr.bf (S:=fun _=>False) ((aj.refl _ _).alloc _) (fun h=>h);have Ru:aj (One R) w (w.alloc (.cells (flat 0 0 aH) 25)):=(aj.refl _ _).alloc _;have c1:=uM.c1;unfold flat aH at uM Ru c1
 by_cases Dh:ag (ints s) p=45
 ·have bJ:p<s.size:=by have:=bq (t:=ints s) (p:=p) (by rw[Dh];decide);rw[ax]at this;exact this
  have hq:p+1<=s.size:=bJ;have HQ:Hid ((if ag (ints s) p=45 then p+1 else p)=p+1):=if_pos Dh
  cases hd:bX (ag (ints s) (p+1))with
  | false=>
   have HN:Hid (number (ints s) p=.bad 11 (p+1)):=by unfold number;rw[HQ.out,if_neg (by simp[hd])];rfl
   go_enter Tryz.func144,Tryz.ntmps144;go_wp2_with(first
    | (go_at_call 167;refine(jE uM (by omega) 45 Dh).mono ?_;rintro x w1 ⟨rfl,⟨⟨e1,l1,kg⟩,jY⟩⟩;have d1:=kg.c1)
    | (go_at_call 138;refine(dL kg).mono ?_;rintro x w' ⟨rfl,rfl⟩)
    | (go_at_call 163;refine(dY _ _).mono ?_;rw[hd];rintro x w' ⟨rfl,rfl⟩)
    | (go_at_call 116;refine(gu kg 11 (((p+1):Nat):Int)).mono ?_;rintro x w3 ⟨rfl,gJ,eY⟩;have Ai:=jY.then eY;have rM:=bR Ai hR;obtain⟨j0,j1,j2,j3,j4⟩:=ai rM;obtain⟨z0,z1,z2,z3,z4⟩:=aF rM))
   have h5:=aK rM (.int .i64 0) (.int .i64 0) (.string ⟨#[]⟩) (.slice none 0 0) (.slice none 0 0);have aX:aj (One w.heap.size) w3 _:=aJ w3 w.heap.size (.int .i64 0) (.int .i64 0) (.string ⟨#[]⟩) (.slice none 0 0) (.slice none 0 0);unfold bF at h5 aX;obtain⟨k0,k1,k2,k3,k4⟩:=ai h5;refine bodyPost_ret (v:=.tuple #[.agg #[.int .i64 0,.int .i64 0,.string ⟨#[]⟩,.slice none 0 0,.slice none 0 0],.bool false]) (by simp[results,Tryz.results144,go_sem,k0,k1,k2,k3,k4]) rfl ?_;rw[HN.out];refine⟨⟨0,0,aH,rfl⟩,⟨_,gJ.bf aX (fun h=>by unfold One at h;omega)⟩,(Ru.then Ai).trans aX (fun i hi h=>by unfold One at h;omega)⟩
  | true=>
   have XE:=lZ (w:=w) (R:=R) (p:=(p+1)) (s:=s) (e:=e) (l:=l);have mZ:=vg hd;obtain⟨n,q2,RP⟩:∃n q2,digits (ints s) (p+1)=(n,q2):=⟨_,_,rfl⟩;have hnb:0<=n/\n<=90071992547409919:=by
    have:n=(digits (ints s) (p+1)).1:=by rw[RP]
    rw[this];exact Dr _ _
   rw[RP]at mZ;clear XE;obtain⟨c,hc⟩:∃c,ag (ints s) q2=c:=⟨_,rfl⟩;have hn0:number (ints s) p=if bK<n\/ c=46\/ c=101\/ c=69 then .bad 15 p else .ok (.mk 2 (if ag (ints s) p=45 then -n else n) aH [] []) q2:=by unfold number;rw[HQ.out,if_pos hd,RP];simp only[hc]
   have HN:Hid (number (ints s) p=if bK<n\/ c=46\/ c=101\/ c=69 then .bad 15 p else .ok (.mk 2 (if ag (ints s) p=45 then -n else n) aH [] []) q2):=hn0;clear hn0
   by_cases jm:bK<n\/ c=46\/ c=101\/ c=69
   ·have HB:Hid (number (ints s) p=.bad 15 p):=by rw[HN.out,if_pos jm];rfl
    unfold bK at jm;clear HN
    rcases jm with jm| rfl| rfl| rfl
    all_goals
     go_enter Tryz.func144,Tryz.ntmps144;go_wp2_with(first
      | (go_at_call 167;refine(jE uM (by omega) 45 Dh).mono ?_;rintro x w1 ⟨rfl,⟨⟨e1,l1,kg⟩,jY⟩⟩;have d1:=kg.c1)
      | (go_at_call 138;have _h:=qR;refine(dL qR).mono ?_;rw[hc];rintro x w' ⟨rfl,rfl⟩)
      | (go_at_call 138;refine(dL kg).mono ?_;rintro x w' ⟨rfl,rfl⟩)
      | (go_at_call 163;refine(dY _ _).mono ?_;rw[hd];rintro x w' ⟨rfl,rfl⟩)
      | (go_at_call 169;refine(lZ kg hs hq).mono ?_;rw[RP];rintro x w2 ⟨rfl,⟨⟨e2,l2,qR⟩,iX⟩⟩;have Aj:=jY.then iX;have yZ:=bR Aj hR;obtain⟨j0,j1,j2,j3,j4⟩:=ai yZ;obtain⟨z0,z1,z2,z3,z4⟩:=aF yZ)
      | (go_at_call 116;refine(gu qR 15 (p:Int)).mono ?_;rintro x w3 ⟨rfl,gJ,eY⟩;have Ai:=Aj.then eY;have rM:=bR Ai hR;obtain⟨j0,j1,j2,j3,j4⟩:=ai rM;obtain⟨z0,z1,z2,z3,z4⟩:=aF rM))
     all_goals
      have h5:=aK rM (.int .i64 0) (.int .i64 0) (.string ⟨#[]⟩) (.slice none 0 0) (.slice none 0 0);have aX:aj (One w.heap.size) w3 _:=aJ w3 w.heap.size (.int .i64 0) (.int .i64 0) (.string ⟨#[]⟩) (.slice none 0 0) (.slice none 0 0);unfold bF at h5 aX;obtain⟨k0,k1,k2,k3,k4⟩:=ai h5;refine bodyPost_ret (v:=.tuple #[.agg #[.int .i64 0,.int .i64 0,.string ⟨#[]⟩,.slice none 0 0,.slice none 0 0],.bool false]) (by simp[results,Tryz.results144,go_sem,k0,k1,k2,k3,k4]) rfl ?_;rw[HB.out];exact⟨⟨0,0,aH,rfl⟩,⟨_,gJ.bf aX (fun h=>by unfold One at h;omega)⟩,(Ru.then Ai).trans aX (fun i hi h=>by unfold One at h;omega)⟩
   ·have HB:Hid (number (ints s) p=.ok (.mk 2 (-n) aH [] []) q2):=by rw[HN.out,if_neg jm,if_pos Dh];rfl
    have b1:¬9007199254740991<n:=fun h=>jm (.inl h);have b2:¬c=46:=fun h=>jm (.inr (.inl h));have b3:¬c=101:=fun h=>jm (.inr (.inr (.inl h)));have b4:¬c=69:=fun h=>jm (.inr (.inr (.inr h)));have b5:(c==46)=false:=by simp[b2]
    have b6:(c==101)=false:=by simp[b3]
    have b7:(c==69)=false:=by simp[b4]
    clear jm HN;go_enter Tryz.func144,Tryz.ntmps144;go_wp2_with(first
     | (go_at_call 167;refine(jE uM (by omega) 45 Dh).mono ?_;rintro x w1 ⟨rfl,⟨⟨e1,l1,kg⟩,jY⟩⟩;have d1:=kg.c1)
     | (go_at_call 138;have _h:=qR;refine(dL qR).mono ?_;rw[hc];rintro x w' ⟨rfl,rfl⟩)
     | (go_at_call 138;refine(dL kg).mono ?_;rintro x w' ⟨rfl,rfl⟩)
     | (go_at_call 163;refine(dY _ _).mono ?_;rw[hd];rintro x w' ⟨rfl,rfl⟩)
     | (go_at_call 169;refine(lZ kg hs hq).mono ?_;rw[RP];rintro x w2 ⟨rfl,⟨⟨e2,l2,qR⟩,iX⟩⟩;have Aj:=jY.then iX;have yZ:=bR Aj hR;obtain⟨j0,j1,j2,j3,j4⟩:=ai yZ;obtain⟨z0,z1,z2,z3,z4⟩:=aF yZ))
    have h5:=aK yZ (.int .i64 2) (.int .i64 (-n)) (.string ⟨#[]⟩) (.slice none 0 0) (.slice none 0 0);have aX:aj (One w.heap.size) w2 _:=aJ w2 w.heap.size (.int .i64 2) (.int .i64 (-n)) (.string ⟨#[]⟩) (.slice none 0 0) (.slice none 0 0);unfold bF at h5 aX;obtain⟨k0,k1,k2,k3,k4⟩:=ai h5;refine bodyPost_ret (v:=.tuple #[.agg #[.int .i64 2,.int .i64 (-n),.string ⟨#[]⟩,.slice none 0 0,.slice none 0 0],.bool true]) (by simp[results,Tryz.results144,go_sem,k0,k1,k2,k3,k4]) rfl ?_;rw[HB.out];exact⟨⟨_,_,_,_,_,_,_,_,_,rfl,mP _ _ 2 (-n) aH⟩,⟨_,_,qR.bf aX (fun h=>by unfold One at h;omega)⟩,(Ru.then Aj).trans aX (fun i hi h=>by unfold One at h;omega)⟩
 have hq:p<=s.size:=hp;have HQ:Hid ((if ag (ints s) p=45 then p+1 else p)=p):=if_neg Dh
 cases hd:bX (ag (ints s) p)with
 | false=>
  have HN:Hid (number (ints s) p=.bad 11 p):=by unfold number;rw[HQ.out,if_neg (by simp[hd])];rfl
  go_enter Tryz.func144,Tryz.ntmps144;go_wp2_with(first
   | (go_at_call 167;refine(iW uM 45 Dh).mono ?_;rintro x w' ⟨rfl,rfl⟩;have kg:=uM;have jY:=aj.refl (One R) (w.alloc (.cells #[.int .i64 0,.int .i64 0,.string ⟨#[]⟩,.slice none 0 0,.slice none 0 0] 25)))
   | (go_at_call 138;refine(dL kg).mono ?_;rintro x w' ⟨rfl,rfl⟩)
   | (go_at_call 163;refine(dY _ _).mono ?_;rw[hd];rintro x w' ⟨rfl,rfl⟩)
   | (go_at_call 116;refine(gu kg 11 ((p:Nat):Int)).mono ?_;rintro x w3 ⟨rfl,gJ,eY⟩;have Ai:=jY.then eY;have rM:=bR Ai hR;obtain⟨j0,j1,j2,j3,j4⟩:=ai rM;obtain⟨z0,z1,z2,z3,z4⟩:=aF rM))
  have h5:=aK rM (.int .i64 0) (.int .i64 0) (.string ⟨#[]⟩) (.slice none 0 0) (.slice none 0 0);have aX:aj (One w.heap.size) w3 _:=aJ w3 w.heap.size (.int .i64 0) (.int .i64 0) (.string ⟨#[]⟩) (.slice none 0 0) (.slice none 0 0);unfold bF at h5 aX;obtain⟨k0,k1,k2,k3,k4⟩:=ai h5;refine bodyPost_ret (v:=.tuple #[.agg #[.int .i64 0,.int .i64 0,.string ⟨#[]⟩,.slice none 0 0,.slice none 0 0],.bool false]) (by simp[results,Tryz.results144,go_sem,k0,k1,k2,k3,k4]) rfl ?_;rw[HN.out];refine⟨⟨0,0,aH,rfl⟩,⟨_,gJ.bf aX (fun h=>by unfold One at h;omega)⟩,(Ru.then Ai).trans aX (fun i hi h=>by unfold One at h;omega)⟩
 | true=>
  have XE:=lZ (w:=w) (R:=R) (p:=p) (s:=s) (e:=e) (l:=l);have mZ:=vg hd;obtain⟨n,q2,RP⟩:∃n q2,digits (ints s) p=(n,q2):=⟨_,_,rfl⟩;have hnb:0<=n/\n<=90071992547409919:=by
   have:n=(digits (ints s) p).1:=by rw[RP]
   rw[this];exact Dr _ _
  rw[RP]at mZ;clear XE;obtain⟨c,hc⟩:∃c,ag (ints s) q2=c:=⟨_,rfl⟩;have hn0:number (ints s) p=if bK<n\/ c=46\/ c=101\/ c=69 then .bad 15 p else .ok (.mk 2 (if ag (ints s) p=45 then -n else n) aH [] []) q2:=by unfold number;rw[HQ.out,if_pos hd,RP];simp only[hc]
  have HN:Hid (number (ints s) p=if bK<n\/ c=46\/ c=101\/ c=69 then .bad 15 p else .ok (.mk 2 (if ag (ints s) p=45 then -n else n) aH [] []) q2):=hn0;clear hn0
  by_cases jm:bK<n\/ c=46\/ c=101\/ c=69
  ·have HB:Hid (number (ints s) p=.bad 15 p):=by rw[HN.out,if_pos jm];rfl
   unfold bK at jm;clear HN
   rcases jm with jm| rfl| rfl| rfl
   all_goals
    go_enter Tryz.func144,Tryz.ntmps144;go_wp2_with(first
     | (go_at_call 167;refine(iW uM 45 Dh).mono ?_;rintro x w' ⟨rfl,rfl⟩;have kg:=uM;have jY:=aj.refl (One R) (w.alloc (.cells #[.int .i64 0,.int .i64 0,.string ⟨#[]⟩,.slice none 0 0,.slice none 0 0] 25)))
     | (go_at_call 138;have _h:=qR;refine(dL qR).mono ?_;rw[hc];rintro x w' ⟨rfl,rfl⟩)
     | (go_at_call 138;refine(dL kg).mono ?_;rintro x w' ⟨rfl,rfl⟩)
     | (go_at_call 163;refine(dY _ _).mono ?_;rw[hd];rintro x w' ⟨rfl,rfl⟩)
     | (go_at_call 169;refine(lZ kg hs hq).mono ?_;rw[RP];rintro x w2 ⟨rfl,⟨⟨e2,l2,qR⟩,iX⟩⟩;have Aj:=jY.then iX;have yZ:=bR Aj hR;obtain⟨j0,j1,j2,j3,j4⟩:=ai yZ;obtain⟨z0,z1,z2,z3,z4⟩:=aF yZ)
     | (go_at_call 116;refine(gu qR 15 (p:Int)).mono ?_;rintro x w3 ⟨rfl,gJ,eY⟩;have Ai:=Aj.then eY;have rM:=bR Ai hR;obtain⟨j0,j1,j2,j3,j4⟩:=ai rM;obtain⟨z0,z1,z2,z3,z4⟩:=aF rM))
    all_goals
     have h5:=aK rM (.int .i64 0) (.int .i64 0) (.string ⟨#[]⟩) (.slice none 0 0) (.slice none 0 0);have aX:aj (One w.heap.size) w3 _:=aJ w3 w.heap.size (.int .i64 0) (.int .i64 0) (.string ⟨#[]⟩) (.slice none 0 0) (.slice none 0 0);unfold bF at h5 aX;obtain⟨k0,k1,k2,k3,k4⟩:=ai h5;refine bodyPost_ret (v:=.tuple #[.agg #[.int .i64 0,.int .i64 0,.string ⟨#[]⟩,.slice none 0 0,.slice none 0 0],.bool false]) (by simp[results,Tryz.results144,go_sem,k0,k1,k2,k3,k4]) rfl ?_;rw[HB.out];exact⟨⟨0,0,aH,rfl⟩,⟨_,gJ.bf aX (fun h=>by unfold One at h;omega)⟩,(Ru.then Ai).trans aX (fun i hi h=>by unfold One at h;omega)⟩
  ·have HB:Hid (number (ints s) p=.ok (.mk 2 (n) aH [] []) q2):=by rw[HN.out,if_neg jm,if_neg Dh];rfl
   have b1:¬9007199254740991<n:=fun h=>jm (.inl h);have b2:¬c=46:=fun h=>jm (.inr (.inl h));have b3:¬c=101:=fun h=>jm (.inr (.inr (.inl h)));have b4:¬c=69:=fun h=>jm (.inr (.inr (.inr h)));have b5:(c==46)=false:=by simp[b2]
   have b6:(c==101)=false:=by simp[b3]
   have b7:(c==69)=false:=by simp[b4]
   clear jm HN;go_enter Tryz.func144,Tryz.ntmps144;go_wp2_with(first
    | (go_at_call 167;refine(iW uM 45 Dh).mono ?_;rintro x w' ⟨rfl,rfl⟩;have kg:=uM;have jY:=aj.refl (One R) (w.alloc (.cells #[.int .i64 0,.int .i64 0,.string ⟨#[]⟩,.slice none 0 0,.slice none 0 0] 25)))
    | (go_at_call 138;have _h:=qR;refine(dL qR).mono ?_;rw[hc];rintro x w' ⟨rfl,rfl⟩)
    | (go_at_call 138;refine(dL kg).mono ?_;rintro x w' ⟨rfl,rfl⟩)
    | (go_at_call 163;refine(dY _ _).mono ?_;rw[hd];rintro x w' ⟨rfl,rfl⟩)
    | (go_at_call 169;refine(lZ kg hs hq).mono ?_;rw[RP];rintro x w2 ⟨rfl,⟨⟨e2,l2,qR⟩,iX⟩⟩;have Aj:=jY.then iX;have yZ:=bR Aj hR;obtain⟨j0,j1,j2,j3,j4⟩:=ai yZ;obtain⟨z0,z1,z2,z3,z4⟩:=aF yZ))
   have h5:=aK yZ (.int .i64 2) (.int .i64 n) (.string ⟨#[]⟩) (.slice none 0 0) (.slice none 0 0);have aX:aj (One w.heap.size) w2 _:=aJ w2 w.heap.size (.int .i64 2) (.int .i64 n) (.string ⟨#[]⟩) (.slice none 0 0) (.slice none 0 0);unfold bF at h5 aX;obtain⟨k0,k1,k2,k3,k4⟩:=ai h5;refine bodyPost_ret (v:=.tuple #[.agg #[.int .i64 2,.int .i64 n,.string ⟨#[]⟩,.slice none 0 0,.slice none 0 0],.bool true]) (by simp[results,Tryz.results144,go_sem,k0,k1,k2,k3,k4]) rfl ?_;rw[HB.out];exact⟨⟨_,_,_,_,_,_,_,_,_,rfl,mP _ _ 2 (n) aH⟩,⟨_,_,qR.bf aX (fun h=>by unfold One at h;omega)⟩,(Ru.then Aj).trans aX (fun i hi h=>by unfold One at h;omega)⟩
theorem Ak(n m:Int)(w:World):Calls Tryz.prog 61 #[.int .i64 n,.int .i64 m] w fun e w'=>e=.returned (.bool (dQ n m))/\w=w':=by
 go_enter Tryz.func61,Tryz.ntmps61;go_wp2
 all_goals
  go_ret;refine⟨av ?_,rfl⟩;unfold dQ;rw[Bool.eq_iff_iff];simp;omega
theorem RQ(s:ByteArray):(O0 s).size=s.size+1:=by
 unfold O0;rw[ByteArray.size_append,Nat.add_comm]
 rfl
theorem Al(s:ByteArray)(w:World)(hs:s.size<=1000000000):
    Calls Tryz.prog 62 #[.string s] w fun e w'=>e=.returned (.bool (iH s))/\Below w.heap.size w w':=by
 have hE:=Id.Dk (O0 s) w (by rw[RQ];omega);have HD:Hid (Id.tT (O0 s)=iH s):=rfl;unfold O0 at hE HD;go_enter Tryz.func62,Tryz.ntmps62;go_wp2_with(go_at_call 101;refine hE.mono ?_;rintro e w' ⟨rfl,hb⟩);go_ret;exact⟨av HD.out,hb⟩
theorem iL(s:ByteArray)(w:World):
    Calls Tryz.prog 69 #[.string s] w fun e w'=>e=.returned (.agg #[.int .i64 3,.int .i64 0,.string s,.slice none 0 0,.slice none 0 0])/\Below w.heap.size w w':=by
 have h5:=heap_alloc_new w (.cells #[.int .i64 3,.int .i64 0,.string s,.slice none 0 0,.slice none 0 0] 25);obtain⟨k0,k1,k2,k3,k4⟩:=ai h5;go_enter Tryz.func69,Tryz.ntmps69;go_wp2;refine bodyPost_ret (v:=.agg #[.int .i64 3,.int .i64 0,.string s,.slice none 0 0,.slice none 0 0]) (by simp[results,Tryz.results69,go_sem,k0,k1,k2,k3,k4]) rfl ?_;exact⟨rfl,(Below.refl _ _).alloc (Nat.le_refl _) _⟩
theorem oZ(n:Int)(w:World):
    Calls Tryz.prog 68 #[.int .i64 n] w fun e w'=>e=.returned (.agg #[.int .i64 2,.int .i64 n,.string aH,.slice none 0 0,.slice none 0 0])/\Below w.heap.size w w':=by
 have h5:=heap_alloc_new w (.cells #[.int .i64 2,.int .i64 n,.string ⟨#[]⟩,.slice none 0 0,.slice none 0 0] 25);obtain⟨k0,k1,k2,k3,k4⟩:=ai h5;go_enter Tryz.func68,Tryz.ntmps68;go_wp2;refine bodyPost_ret (v:=.agg #[.int .i64 2,.int .i64 n,.string ⟨#[]⟩,.slice none 0 0,.slice none 0 0]) (by simp[results,Tryz.results68,go_sem,k0,k1,k2,k3,k4]) rfl ?_;exact⟨rfl,(Below.refl _ _).alloc (Nat.le_refl _) _⟩
end Go.Proofs.YtegcgbjjpgjnmaaGreatDoor
