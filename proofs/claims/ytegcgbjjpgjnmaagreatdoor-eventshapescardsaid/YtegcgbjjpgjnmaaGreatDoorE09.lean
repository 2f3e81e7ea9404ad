/- A part. -/
import Derived.Test.YtegcgbjjpgjnmaaGreatDoorE08
import Derived.Maps.OwnSet
set_option maxRecDepth 100000
set_option maxHeartbeats 16000000
namespace Go.Proofs.YtegcgbjjpgjnmaaGreatDoor
open Go.RowKit
theorem cell_one_new(w:World)(v:Value)(t:Nat):∀j u, [v][j]?=some u->(w.alloc (.cells #[v] t)).cell? ((⟨w.heap.size,0,none⟩:Addr).add j)=some u:=by
 intro j u hj
 match j,hj with
 | 0,hj=>simp at hj;subst hj;exact aR (cur:= [_]) (heap_alloc_new _ _) 0 _ rfl
theorem lD(x:ByteArray):∀u∈ [Value.string x],u.oneCell'=true:=by
 intro u hu;simp at hu;subst hu;rfl
theorem ft(w:World)(t:Nat)(y0 y1 y2 y3 y4:Value):∀j u, [y0,y1,y2,y3,y4][j]?=some u->(w.alloc (.cells #[y0,y1,y2,y3,y4] t)).cell? ((⟨w.heap.size,0,none⟩:Addr).add j)=some u:=by
 intro j u hj;have e:(⟨w.heap.size,0,none⟩:Addr).add j=⟨w.heap.size,j,none⟩:=by unfold Addr.add;split<;>simp_all
 rw[e];exact aR (cur:= [_,_,_,_,_]) (heap_alloc_new _ _) j u hj
theorem Dw{O:Nat->Prop}{w:World}{ks:List ByteArray}{l:List J}{pk pl:Option Addr}{ck cl:Nat}(hk:jT O w pk ck ks)(hj:isJs O w pl 0 l)(uI:ks.length=l.length)(hO:∀k,O k->k<w.heap.size)(hn:ks.length<=100000)(hd:ks.Pairwise (· ≠ ·)):
    Calls Tryz.prog 104 #[.slice pk ks.length ck,.slice pl l.length cl] w fun e w'=>∃cs,e=.returned (.agg cs)/\isJ (fun k=>O k\/ fB w w' k) w' (mapOf ks l) cs.toList/\Below w.heap.size w w':=by
 have BU:Hid (ks.length=l.length):=uI;clear uI;have dP:Below w.heap.size w ((w.alloc (.cells #[.int .i64 0,.int .i64 0,.string ⟨#[]⟩,.slice none 0 0,.slice none 0 0] 25)).alloc (.cells #[.int .i64 5,.int .i64 0,.string ⟨#[]⟩,.slice none 0 0,.slice none 0 0] 25)):=((Below.refl _ _).alloc (Nat.le_refl _) _).alloc (by simp) _;have Zy:=hk.below hO dP;have Zz:((w.alloc (.cells #[.int .i64 0,.int .i64 0,.string ⟨#[]⟩,.slice none 0 0,.slice none 0 0] 25)).alloc (.cells #[.int .i64 5,.int .i64 0,.string ⟨#[]⟩,.slice none 0 0,.slice none 0 0] 25)).heap.size=w.heap.size+2:=by simp
 have xA:((w.alloc (.cells #[.int .i64 0,.int .i64 0,.string ⟨#[]⟩,.slice none 0 0,.slice none 0 0] 25)).alloc (.cells #[.int .i64 5,.int .i64 0,.string ⟨#[]⟩,.slice none 0 0,.slice none 0 0] 25)).heap[w.heap.size+1]?=some (.cells #[.int .i64 5,.int .i64 0,.string ⟨#[]⟩,.slice none 0 0,.slice none 0 0] 25 (0,0)):=by
  have:=heap_alloc_new (w.alloc (.cells #[.int .i64 0,.int .i64 0,.string ⟨#[]⟩,.slice none 0 0,.slice none 0 0] 25)) (.cells #[.int .i64 5,.int .i64 0,.string ⟨#[]⟩,.slice none 0 0,.slice none 0 0] 25);rw[show(w.alloc (.cells #[.int .i64 0,.int .i64 0,.string ⟨#[]⟩,.slice none 0 0,.slice none 0 0] 25)).heap.size=w.heap.size+1 by simp]at this;exact this
 have bn:((w.alloc (.cells #[.int .i64 0,.int .i64 0,.string ⟨#[]⟩,.slice none 0 0,.slice none 0 0] 25)).alloc (.cells #[.int .i64 5,.int .i64 0,.string ⟨#[]⟩,.slice none 0 0,.slice none 0 0] 25)).heap[w.heap.size]?=some (.cells #[.int .i64 0,.int .i64 0,.string ⟨#[]⟩,.slice none 0 0,.slice none 0 0] 25 (0,0)):=by
  rw[Below.heap_alloc _ _ _ (by simp)];exact heap_alloc_new _ _
 go_enter Tryz.func104,Tryz.ntmps104;go_wp2_with(first
  | (go_at_call 131;refine(Am Zy (fun k hk=>by have:=hO k hk;rw[Zz];omega) (by omega)).mono ?_;rintro e wB ⟨g,L,rfl,hP,ZA,m_,r_⟩))
 rw[Zz]at ZA r_;have R3:=r_.size;rw[Zz]at R3;have cB:L.length=ks.length:=by rw[hP.1.length_eq];simp
 have cK:Below w.heap.size w wB:=dP.trans (r_.mono (by omega));have zaQ:MI O wB w.heap.size [] [] (.slice none 0 0) (.slice none 0 0) wB:=⟨(r_.block _ (by omega)).trans xA,(r_.block _ (by omega)).trans bn,World.ownsRow_nil _ _ _ _,⟨[],World.ownsRow_nil _ _ _ _,rfl⟩,(fun i h=>by cases h),aj.refl _ _,by omega,hO⟩;clear xA bn Zy
 go_loopw [12] (fun i wr=>∃(k:Nat) (vk vl:Value),i=.int .i64 k/\k<=ks.length/\MI O wB w.heap.size ((BZ ks l (L.take k)).map (·.1)) ((BZ ks l (L.take k)).map (·.2)) vk vl wr) (fun i _=>ks.length - (intOf i).toNat)
 case atStart=>exact⟨0,_,_,rfl,Nat.zero_le _,zaQ⟩
 case round=>
  clear zaQ;obtain⟨k,vk,vl,rfl,JU,oL⟩:=hrel
  by_cases bJ:k<ks.length
  ·obtain⟨a,ha⟩:∃a,L.getD k 0=a:=⟨_,rfl⟩;have tY:wr.cell? ⟨g,k,none⟩=some (.int .i64 (a:Int)):=by
    rw[oL.bf.cell (p:=⟨g,k,none⟩) m_ (by unfold One;simp only;omega),hP.2.2 k (by omega),ha]
   have VK:a<ks.length:=by
    have hm:L.getD k 0∈L:=by rw[List.getD_eq_getElem?_getD,List.getElem?_eq_getElem (by omega)];exact List.getElem_mem _
    have:=hP.1.subset hm;rw[ha]at this;simpa using this
   have ZB:Hid (BZ ks l (L.take (k+1))=BZ ks l (L.take k)++ [(aN ks a,qa l a)]):=by
    unfold BZ;rw[List.take_add_one,List.getElem?_eq_getElem (by omega:k<L.length),List.map_append];rw[List.getD_eq_getElem?_getD,List.getElem?_eq_getElem (by omega:k<L.length)]at ha;simp only[Option.getD_some]at ha;rw[ha];rfl
   obtain⟨x,hx⟩:∃x,aN ks a=x:=⟨_,rfl⟩;obtain⟨y,hy⟩:∃y,qa l a=y:=⟨_,rfl⟩;rw[hx,hy]at ZB;obtain⟨XG,rfl,ZC,Ca⟩:=hk.2 a VK;change w.cell? (XG.add a)=some (.string (aN ks a))at Ca;rw[hx]at Ca;obtain⟨lb,lo,cs,rfl,ZE,OU,jF⟩:=isJs.at l 0 a hj (by rw[<-BU.out];exact VK);change isJ O w (qa l a) cs at jF;rw[hy]at jF;rw[Nat.zero_add]at OU;obtain⟨y0,y1,y2,y3,y4,rfl⟩:∃y0 y1 y2 y3 y4,cs= [y0,y1,y2,y3,y4]:=by
    match cs,jF.pO with
    | [y0,y1,y2,y3,y4],_=>exact⟨y0,y1,y2,y3,y4,rfl⟩
   have NH:∀u∈ [y0,y1,y2,y3,y4],u.oneCell'=true:=mG jF;have ZF:(BZ ks l (L.take k)).length=k:=by unfold BZ;simp;omega
   have zaR:((BZ ks l (L.take k)).map (·.1)).length=k:=by simp[ZF]
   have zaS:((BZ ks l (L.take k)).map (·.2)).length=k:=by simp[ZF]
   obtain⟨Sk,JV⟩:∃Sk,(BZ ks l (L.take k)).map (·.1)=Sk:=⟨_,rfl⟩;obtain⟨Sv,Cu⟩:∃Sv,(BZ ks l (L.take k)).map (·.2)=Sv:=⟨_,rfl⟩;rw[JV]at zaR oL;rw[Cu]at zaS oL;have HSk:Hid ((BZ ks l (L.take (k+1))).map (·.1)=Sk++ [x]):=by rw[ZB.out,List.map_append,JV];rfl
   have HSv:Hid ((BZ ks l (L.take (k+1))).map (·.2)=Sv++ [y]):=by rw[ZB.out,List.map_append,Cu];rfl
   have KM:∀{FZ:List ByteArray} {F3:List J} {j_ il:Value} {W:World},MI O wB w.heap.size FZ F3 j_ il W->∀i,O i->W.heap[i]?=w.heap[i]?:=by
    intro FZ F3 j_ il W h i hi;have:=hO i hi;rw[h.bf.block i (by omega) (by unfold One;omega),cK.block i this]
   have hcx:∀{FZ:List ByteArray} {F3:List J} {j_ il:Value} (W:World),MI O wB w.heap.size FZ F3 j_ il W->W.cell? (XG.add a)=some (.string x):=fun W h=>(World.cell?_of_block (by rw[aY];exact KM h _ ZC)).trans Ca;have Pn:∀i u, [y0,y1,y2,y3,y4][i]?=some u->w.cell? ⟨lb,lo+a*5+i,none⟩=some u:=OU;have XH:∀{FZ:List ByteArray} {F3:List J} {j_ il:Value} (W:World),MI O wB w.heap.size FZ F3 j_ il W->W.cell? ⟨lb,lo+a*5,none⟩=some y0/\W.cell? ⟨lb,lo+a*5+1,none⟩=some y1/\W.cell? ⟨lb,lo+a*5+2,none⟩=some y2/\W.cell? ⟨lb,lo+a*5+3,none⟩=some y3/\W.cell? ⟨lb,lo+a*5+4,none⟩=some y4:=by
    intro FZ F3 j_ il W h;have hh:=KM h _ ZE;exact⟨(World.cell?_of_block hh).trans (Pn 0 _ rfl),(World.cell?_of_block hh).trans (Pn 1 _ rfl),(World.cell?_of_block hh).trans (Pn 2 _ rfl),(World.cell?_of_block hh).trans (Pn 3 _ rfl),(World.cell?_of_block hh).trans (Pn 4 _ rfl)⟩
   have Po:∀{FZ:List ByteArray} {F3:List J} {j_ il:Value} (W:World),MI O wB w.heap.size FZ F3 j_ il W->isJ O W y [y0,y1,y2,y3,y4]:=fun W h=>jF.carry fun i hi=>⟨hi,KM h i hi⟩;have zaT:∀{FZ:List ByteArray} {F3:List J} {j_ il:Value} {W:World} {o:Obj} (W2:World),(W.alloc o).grownBy W2 j_.ownBlock->MI O wB w.heap.size FZ F3 j_ il W->W2.cell? (XG.add a)=some (.string x):=by
    intro FZ F3 j_ il W o W2 hg h;have h1:=h.low _ ZC;have h2:=h.size;have h3:=h.lt;have qW:=aM h.keys;rw[World.cell?_of_block (w:=W) (by rw[aY];exact bP hg (by omega) (fun e=>by have:=qW _ e;omega))];exact hcx W h
   have zaU:∀{FZ:List ByteArray} {F3:List J} {j_ il:Value} (W:World),MI O wB w.heap.size FZ F3 j_ il W->(W.alloc (.cells #[y0,y1,y2,y3,y4] 25)).drew.cell? ⟨lb,lo+a*5,none⟩=some y0/\(W.alloc (.cells #[y0,y1,y2,y3,y4] 25)).drew.cell? ⟨lb,lo+a*5+1,none⟩=some y1/\(W.alloc (.cells #[y0,y1,y2,y3,y4] 25)).drew.cell? ⟨lb,lo+a*5+2,none⟩=some y2/\(W.alloc (.cells #[y0,y1,y2,y3,y4] 25)).drew.cell? ⟨lb,lo+a*5+3,none⟩=some y3/\(W.alloc (.cells #[y0,y1,y2,y3,y4] 25)).drew.cell? ⟨lb,lo+a*5+4,none⟩=some y4:=by
    intro FZ F3 j_ il W h;have h1:=h.low _ ZE;have h2:=h.size;have h3:=h.lt;have hh:(W.alloc (.cells #[y0,y1,y2,y3,y4] 25)).drew.heap[lb]?=W.heap[lb]?:=Below.heap_alloc W _ _ (by omega);obtain⟨g0,g1,g2,g3,g4⟩:=XH W h;exact⟨(World.cell?_of_block hh).trans g0,(World.cell?_of_block hh).trans g1,(World.cell?_of_block hh).trans g2,(World.cell?_of_block hh).trans g3,(World.cell?_of_block hh).trans g4⟩
   have VL:∀{FZ:List ByteArray} {F3:List J} {j_ il:Value} {W:World} {o:Obj} (W2:World),(W.alloc o).grownBy W2 il.ownBlock->MI O wB w.heap.size FZ F3 j_ il W->W2.cell? ⟨lb,lo+a*5,none⟩=some y0/\W2.cell? ⟨lb,lo+a*5+1,none⟩=some y1/\W2.cell? ⟨lb,lo+a*5+2,none⟩=some y2/\W2.cell? ⟨lb,lo+a*5+3,none⟩=some y3/\W2.cell? ⟨lb,lo+a*5+4,none⟩=some y4:=by
    intro FZ F3 j_ il W o W2 hg h;have h1:=h.low _ ZE;have h2:=h.size;have h3:=h.lt;obtain⟨xs,bW,_⟩:=h.dS;have o6:=aM bW;have hh:W2.heap[lb]?=W.heap[lb]?:=bP hg (by omega) (fun e=>by have:=o6 _ e;omega);obtain⟨g0,g1,g2,g3,g4⟩:=XH W h;exact⟨(World.cell?_of_block hh).trans g0,(World.cell?_of_block hh).trans g1,(World.cell?_of_block hh).trans g2,(World.cell?_of_block hh).trans g3,(World.cell?_of_block hh).trans g4⟩
   have zfR:(a:Int)<(ks.length:Int):=by omega
   have zfS:(a:Int)<(l.length:Int):=by have:=BU.out;omega
   have zfT:Sk.length<=100000:=by omega
   have zfU:Sv.length<=100000:=by omega
   clear hx hy Ca OU Pn JV Cu ZF hP hj hk jF ha zaR zaS;go_wp2;have uD:=oL.drew;have fE:wr.drew.cell? (XG.add a)=some (.string x):=hcx wr oL;have h_:(wr.alloc (.cells #[.string x] 9)).drew.cell? (XG.add a)=some (.string x):=by
    have hh:=World.cell?_of_block (a:=XG.add a) (Below.heap_alloc wr (.cells #[.string x] 9) (XG.add a).block (by rw[aY];have:=oL.size;have:=oL.low _ ZC;have:=oL.lt;omega));exact hh.trans (hcx wr oL)
   have d3:=uD.c3;have d3a:(wr.alloc (.cells #[.string x] 9)).drew.cell? ⟨w.heap.size+1,3,none⟩=some vk:=by
    have hh:=World.cell?_of_block (a:=⟨w.heap.size+1,3,none⟩) (Below.heap_alloc wr (.cells #[.string x] 9) (w.heap.size+1) (by have:=oL.size;have:=oL.lt;omega));exact hh.trans oL.c3
   refine aD (by kernel_rfl) (fun w'=>w'.cell? (XG.add a)=some (.string x)) ?_;change wpIn _ _ _ _ _ _ _ _ (World.drew _);refine aa (i:=0) (d:=some 16) rfl ?_;refine aa (i:=2) (d:=some 18) rfl ?_;refine aa (i:=3) (d:=some 19) rfl ?_;refine aa (i:=4) (d:=some 20) rfl ?_;refine aa (i:=5) (d:=some 21) rfl ?_;refine aW (i:=1) (j:=6) fE (by kernel_rfl) rfl rfl (by rfl) (by rfl) ?_ ?_
   ·intro K hK;go_simp;refine hK _ _ ?_;clear hK K;refine ak (i:=6) fE rfl ?_;intro K hK;go_simp;refine hK _ _ ?_;clear hK K;refine ak (i:=7) h_ rfl ?_;intro K hK;refine aP (.tmp 17) (.tmp 22) 22 rfl wB.heap.size 9 (.string ⟨#[]⟩) 1 16 Tryz.underlying22 Tryz.jZ rfl (by decide) (by decide) _ Sk.length (Sk.map Value.string) rfl (uD.keys.alloc _) _ [.string x] rfl rfl (cell_one_new _ _ _) (lD x) (by omega) (by have:=oL.size;simp;omega) ?_;intro NI W2 fV m_ sJ;refine hK _ _ ?_;clear hK K;obtain⟨q2,c2,eZ⟩:∃q c,NI=.slice q (Sk.length+1) c:=by
     rcases fV.2 with⟨h',h0⟩| ⟨g',qb,cur,h',_⟩
     ·omega
     ·exact⟨_,_,h'⟩
    subst eZ;have jG:(wr.drew.alloc (.cells #[.string x] 9)).grownBy W2 vk.ownBlock:=m_;have GV:(Value.slice q2 (Sk.length+1) c2).ownBlock=vk.ownBlock\/ (Value.slice q2 (Sk.length+1) c2).ownBlock=some (wr.drew.alloc (.cells #[.string x] 9)).heap.size:=sJ;obtain⟨e3,f3,nZ⟩:=uD.key fV jG GV;have mf:=zaT W2 jG uD;have j5:=hcx _ nZ;clear fV m_ sJ jG GV d3 d3a h_ fE;refine aa (i:=8) (d:=some 24) rfl ?_;refine ak (i:=9) mf rfl ?_;intro K hK;go_simp;refine hK _ _ ?_;clear hK K;refine aA j5 (by kernel_rfl) ?_ _;clear mf j5 e3 f3 uD oL;go_wp2;obtain⟨wk,VM⟩:∃wk,wk=W2.setCell ⟨w.heap.size+1,3,none⟩ (.slice q2 (Sk.length+1) c2):=⟨_,rfl⟩;rw[<-VM]at nZ ⊢;clear VM;have uD:=nZ.drew;obtain⟨xs,bW,eZ⟩:=uD.dS;have fE:=XH wk.drew uD;have h_:=zaU wk nZ;have d4:=uD.c4;have d4a:(wk.alloc (.cells #[y0,y1,y2,y3,y4] 25)).drew.cell? ⟨w.heap.size+1,4,none⟩=some vl:=by
     have hh:=World.cell?_of_block (a:=⟨w.heap.size+1,4,none⟩) (Below.heap_alloc wk (.cells #[y0,y1,y2,y3,y4] 25) (w.heap.size+1) (by have:=nZ.size;have:=nZ.lt;omega));exact hh.trans nZ.c4
    refine aD (by kernel_rfl) (fun w'=>w'.cell? ⟨lb,lo+a*5,none⟩=some y0/\w'.cell? ⟨lb,lo+a*5+1,none⟩=some y1/\w'.cell? ⟨lb,lo+a*5+2,none⟩=some y2/\w'.cell? ⟨lb,lo+a*5+3,none⟩=some y3/\w'.cell? ⟨lb,lo+a*5+4,none⟩=some y4) ?_;change wpIn _ _ _ _ _ _ _ _ (World.drew _);refine aa (i:=0) (d:=some 25) rfl ?_;refine aa (i:=2) (d:=some 27) rfl ?_;refine aa (i:=3) (d:=some 28) rfl ?_;refine aa (i:=4) (d:=some 29) rfl ?_;refine aB (i:=5) (d:=some 30) rfl (by(intro wq hq;obtain⟨q0,q1,q2,q3,q4⟩:=hq;go_simp;first| done| with_reducible rfl)) ?_;refine aW (i:=1) (j:=6) fE (by kernel_rfl) rfl rfl (by rfl) (by rfl) ?_ ?_
    ·intro K hK;go_simp;refine hK _ _ ?_;clear hK K;refine ak (i:=6) fE rfl ?_;intro K hK;go_simp;refine hK _ _ ?_;clear hK K;refine ak (i:=7) h_ rfl ?_;intro K hK;refine aP (.tmp 26) (.tmp 31) 23 rfl wB.heap.size 25 (.agg #[.int .i64 0,.int .i64 0,.string ⟨#[]⟩,.slice none 0 0,.slice none 0 0]) 5 80 Tryz.underlying23 Tryz.dR rfl (by decide) (by decide) _ Sv.length xs rfl (bW.alloc _) _ [y0,y1,y2,y3,y4] rfl rfl (ft _ _ _ _ _ _ _) NH (by omega) (by have:=nZ.size;simp;omega) ?_;intro nP W4 bT lN gN;refine hK _ _ ?_;clear hK K;obtain⟨q4,c4,wz⟩:∃q c,nP=.slice q (Sv.length+1) c:=by
      rcases bT.2 with⟨h',h0⟩| ⟨g',qb,cur,h',_⟩
      ·omega
      ·exact⟨_,_,h'⟩
     subst wz;have ng:(wk.drew.alloc (.cells #[y0,y1,y2,y3,y4] 25)).grownBy W4 vl.ownBlock:=lN;have lF:(Value.slice q4 (Sv.length+1) c4).ownBlock=vl.ownBlock\/ (Value.slice q4 (Sv.length+1) c4).ownBlock=some (wk.drew.alloc (.cells #[y0,y1,y2,y3,y4] 25)).heap.size:=gN;obtain⟨e4,f4,Ar⟩:=uD.val bW eZ (Po wk.drew uD) bT ng lF;have mf:=VL W4 ng uD;have j5:=XH _ Ar;clear bT lN gN ng lF d4 d4a h_ fE bW eZ;refine aa (i:=8) (d:=some 33) rfl ?_;refine ak (i:=9) mf rfl ?_;intro K hK;go_simp;refine hK _ _ ?_;clear hK K;refine aA j5 (by kernel_rfl) ?_ _;clear mf j5 e4 f4 uD nZ;go_wp2;go_roundw
     case rel=>exact⟨k+1,_,_,by go_num,by omega,by rw[HSk.out,HSv.out];exact Ar⟩
     case measure=>simp[intOf];omega
    ·intro K hK;go_simp;refine hK _ _ ?_;clear hK K;refine ak (i:=1) h_ rfl ?_;intro K hK;go_simp;refine hK _ _ ?_;clear hK K;refine ak (i:=7) h_ rfl ?_;intro K hK;refine aP (.tmp 26) (.tmp 31) 23 rfl wB.heap.size 25 (.agg #[.int .i64 0,.int .i64 0,.string ⟨#[]⟩,.slice none 0 0,.slice none 0 0]) 5 80 Tryz.underlying23 Tryz.dR rfl (by decide) (by decide) _ Sv.length xs rfl (bW.alloc _) _ [y0,y1,y2,y3,y4] rfl rfl (ft _ _ _ _ _ _ _) NH (by omega) (by have:=nZ.size;simp;omega) ?_;intro nP W4 bT lN gN;refine hK _ _ ?_;clear hK K;obtain⟨q4,c4,wz⟩:∃q c,nP=.slice q (Sv.length+1) c:=by
      rcases bT.2 with⟨h',h0⟩| ⟨g',qb,cur,h',_⟩
      ·omega
      ·exact⟨_,_,h'⟩
     subst wz;have ng:(wk.drew.alloc (.cells #[y0,y1,y2,y3,y4] 25)).grownBy W4 vl.ownBlock:=lN;have lF:(Value.slice q4 (Sv.length+1) c4).ownBlock=vl.ownBlock\/ (Value.slice q4 (Sv.length+1) c4).ownBlock=some (wk.drew.alloc (.cells #[y0,y1,y2,y3,y4] 25)).heap.size:=gN;obtain⟨e4,f4,Ar⟩:=uD.val bW eZ (Po wk.drew uD) bT ng lF;have mf:=VL W4 ng uD;have j5:=XH _ Ar;clear bT lN gN ng lF d4 d4a h_ fE bW eZ;refine aa (i:=8) (d:=some 33) rfl ?_;refine ak (i:=9) mf rfl ?_;intro K hK;go_simp;refine hK _ _ ?_;clear hK K;refine aA j5 (by kernel_rfl) ?_ _;clear mf j5 e4 f4 uD nZ;go_wp2;go_roundw
     case rel=>exact⟨k+1,_,_,by go_num,by omega,by rw[HSk.out,HSv.out];exact Ar⟩
     case measure=>simp[intOf];omega
   ·intro K hK;go_simp;refine hK _ _ ?_;clear hK K;refine ak (i:=1) h_ rfl ?_;intro K hK;go_simp;refine hK _ _ ?_;clear hK K;refine ak (i:=7) h_ rfl ?_;intro K hK;refine aP (.tmp 17) (.tmp 22) 22 rfl wB.heap.size 9 (.string ⟨#[]⟩) 1 16 Tryz.underlying22 Tryz.jZ rfl (by decide) (by decide) _ Sk.length (Sk.map Value.string) rfl (uD.keys.alloc _) _ [.string x] rfl rfl (cell_one_new _ _ _) (lD x) (by omega) (by have:=oL.size;simp;omega) ?_;intro NI W2 fV m_ sJ;refine hK _ _ ?_;clear hK K;obtain⟨q2,c2,eZ⟩:∃q c,NI=.slice q (Sk.length+1) c:=by
     rcases fV.2 with⟨h',h0⟩| ⟨g',qb,cur,h',_⟩
     ·omega
     ·exact⟨_,_,h'⟩
    subst eZ;have jG:(wr.drew.alloc (.cells #[.string x] 9)).grownBy W2 vk.ownBlock:=m_;have GV:(Value.slice q2 (Sk.length+1) c2).ownBlock=vk.ownBlock\/ (Value.slice q2 (Sk.length+1) c2).ownBlock=some (wr.drew.alloc (.cells #[.string x] 9)).heap.size:=sJ;obtain⟨e3,f3,nZ⟩:=uD.key fV jG GV;have mf:=zaT W2 jG uD;have j5:=hcx _ nZ;clear fV m_ sJ jG GV d3 d3a h_ fE;refine aa (i:=8) (d:=some 24) rfl ?_;refine ak (i:=9) mf rfl ?_;intro K hK;go_simp;refine hK _ _ ?_;clear hK K;refine aA j5 (by kernel_rfl) ?_ _;clear mf j5 e3 f3 uD oL;go_wp2;obtain⟨wk,VM⟩:∃wk,wk=W2.setCell ⟨w.heap.size+1,3,none⟩ (.slice q2 (Sk.length+1) c2):=⟨_,rfl⟩;rw[<-VM]at nZ ⊢;clear VM;have uD:=nZ.drew;obtain⟨xs,bW,eZ⟩:=uD.dS;have fE:=XH wk.drew uD;have h_:=zaU wk nZ;have d4:=uD.c4;have d4a:(wk.alloc (.cells #[y0,y1,y2,y3,y4] 25)).drew.cell? ⟨w.heap.size+1,4,none⟩=some vl:=by
     have hh:=World.cell?_of_block (a:=⟨w.heap.size+1,4,none⟩) (Below.heap_alloc wk (.cells #[y0,y1,y2,y3,y4] 25) (w.heap.size+1) (by have:=nZ.size;have:=nZ.lt;omega));exact hh.trans nZ.c4
    refine aD (by kernel_rfl) (fun w'=>w'.cell? ⟨lb,lo+a*5,none⟩=some y0/\w'.cell? ⟨lb,lo+a*5+1,none⟩=some y1/\w'.cell? ⟨lb,lo+a*5+2,none⟩=some y2/\w'.cell? ⟨lb,lo+a*5+3,none⟩=some y3/\w'.cell? ⟨lb,lo+a*5+4,none⟩=some y4) ?_;change wpIn _ _ _ _ _ _ _ _ (World.drew _);refine aa (i:=0) (d:=some 25) rfl ?_;refine aa (i:=2) (d:=some 27) rfl ?_;refine aa (i:=3) (d:=some 28) rfl ?_;refine aa (i:=4) (d:=some 29) rfl ?_;refine aB (i:=5) (d:=some 30) rfl (by(intro wq hq;obtain⟨q0,q1,q2,q3,q4⟩:=hq;go_simp;first| done| with_reducible rfl)) ?_;refine aW (i:=1) (j:=6) fE (by kernel_rfl) rfl rfl (by rfl) (by rfl) ?_ ?_
    ·intro K hK;go_simp;refine hK _ _ ?_;clear hK K;refine ak (i:=6) fE rfl ?_;intro K hK;go_simp;refine hK _ _ ?_;clear hK K;refine ak (i:=7) h_ rfl ?_;intro K hK;refine aP (.tmp 26) (.tmp 31) 23 rfl wB.heap.size 25 (.agg #[.int .i64 0,.int .i64 0,.string ⟨#[]⟩,.slice none 0 0,.slice none 0 0]) 5 80 Tryz.underlying23 Tryz.dR rfl (by decide) (by decide) _ Sv.length xs rfl (bW.alloc _) _ [y0,y1,y2,y3,y4] rfl rfl (ft _ _ _ _ _ _ _) NH (by omega) (by have:=nZ.size;simp;omega) ?_;intro nP W4 bT lN gN;refine hK _ _ ?_;clear hK K;obtain⟨q4,c4,wz⟩:∃q c,nP=.slice q (Sv.length+1) c:=by
      rcases bT.2 with⟨h',h0⟩| ⟨g',qb,cur,h',_⟩
      ·omega
      ·exact⟨_,_,h'⟩
     subst wz;have ng:(wk.drew.alloc (.cells #[y0,y1,y2,y3,y4] 25)).grownBy W4 vl.ownBlock:=lN;have lF:(Value.slice q4 (Sv.length+1) c4).ownBlock=vl.ownBlock\/ (Value.slice q4 (Sv.length+1) c4).ownBlock=some (wk.drew.alloc (.cells #[y0,y1,y2,y3,y4] 25)).heap.size:=gN;obtain⟨e4,f4,Ar⟩:=uD.val bW eZ (Po wk.drew uD) bT ng lF;have mf:=VL W4 ng uD;have j5:=XH _ Ar;clear bT lN gN ng lF d4 d4a h_ fE bW eZ;refine aa (i:=8) (d:=some 33) rfl ?_;refine ak (i:=9) mf rfl ?_;intro K hK;go_simp;refine hK _ _ ?_;clear hK K;refine aA j5 (by kernel_rfl) ?_ _;clear mf j5 e4 f4 uD nZ;go_wp2;go_roundw
     case rel=>exact⟨k+1,_,_,by go_num,by omega,by rw[HSk.out,HSv.out];exact Ar⟩
     case measure=>simp[intOf];omega
    ·intro K hK;go_simp;refine hK _ _ ?_;clear hK K;refine ak (i:=1) h_ rfl ?_;intro K hK;go_simp;refine hK _ _ ?_;clear hK K;refine ak (i:=7) h_ rfl ?_;intro K hK;refine aP (.tmp 26) (.tmp 31) 23 rfl wB.heap.size 25 (.agg #[.int .i64 0,.int .i64 0,.string ⟨#[]⟩,.slice none 0 0,.slice none 0 0]) 5 80 Tryz.underlying23 Tryz.dR rfl (by decide) (by decide) _ Sv.length xs rfl (bW.alloc _) _ [y0,y1,y2,y3,y4] rfl rfl (ft _ _ _ _ _ _ _) NH (by omega) (by have:=nZ.size;simp;omega) ?_;intro nP W4 bT lN gN;refine hK _ _ ?_;clear hK K;obtain⟨q4,c4,wz⟩:∃q c,nP=.slice q (Sv.length+1) c:=by
      rcases bT.2 with⟨h',h0⟩| ⟨g',qb,cur,h',_⟩
      ·omega
      ·exact⟨_,_,h'⟩
     subst wz;have ng:(wk.drew.alloc (.cells #[y0,y1,y2,y3,y4] 25)).grownBy W4 vl.ownBlock:=lN;have lF:(Value.slice q4 (Sv.length+1) c4).ownBlock=vl.ownBlock\/ (Value.slice q4 (Sv.length+1) c4).ownBlock=some (wk.drew.alloc (.cells #[y0,y1,y2,y3,y4] 25)).heap.size:=gN;obtain⟨e4,f4,Ar⟩:=uD.val bW eZ (Po wk.drew uD) bT ng lF;have mf:=VL W4 ng uD;have j5:=XH _ Ar;clear bT lN gN ng lF d4 d4a h_ fE bW eZ;refine aa (i:=8) (d:=some 33) rfl ?_;refine ak (i:=9) mf rfl ?_;intro K hK;go_simp;refine hK _ _ ?_;clear hK K;refine aA j5 (by kernel_rfl) ?_ _;clear mf j5 e4 f4 uD nZ;go_wp2;go_roundw
     case rel=>exact⟨k+1,_,_,by go_num,by omega,by rw[HSk.out,HSv.out];exact Ar⟩
     case measure=>simp[intOf];omega
  ·obtain rfl:k=ks.length:=by omega
   have JW:L.take ks.length=L:=List.take_of_length_le (by omega);rw[JW,GM hP hd BU.out]at oL;obtain⟨xs,bW,eZ⟩:=oL.dS;have gM:((fA (ks.zip l)).map (·.1)).length=ks.length:=by rw[List.length_map,qI];simp;have:=BU.out;omega
   have vP:((fA (ks.zip l)).map (·.2)).length=ks.length:=by rw[List.length_map,qI];simp;have:=BU.out;omega
   obtain⟨q1,c1,ET,lM⟩:=o5 oL.keys;obtain⟨q2,c2,zdS,vw,Pm⟩:=qV bW eZ;subst ET zdS;obtain⟨j0,j1,j2,j3,j4⟩:=ai oL.obj;obtain⟨i0,i1,i2,i3,i4⟩:=ai oL.res;obtain⟨z0,z1,z2,z3,z4⟩:=aF oL.res;have h5:=aK oL.res (.int .i64 5) (.int .i64 0) (.string ⟨#[]⟩) (.slice q1 ((fA (ks.zip l)).map (·.1)).length c1) (.slice q2 ((fA (ks.zip l)).map (·.2)).length c2);have aX:aj (One w.heap.size) wr _:=aJ wr w.heap.size (.int .i64 5) (.int .i64 0) (.string ⟨#[]⟩) (.slice q1 ((fA (ks.zip l)).map (·.1)).length c1) (.slice q2 ((fA (ks.zip l)).map (·.2)).length c2);have fI:=oL.size;have sG:=oL.bf;unfold bF at h5 aX;have ZG:Hid (jT (fun k=>wB.heap.size<=k/\k<wr.heap.size) wr q1 c1 ((fA (ks.zip l)).map (·.1))):=lM;have HRJ:Hid (isJs (fun k=>O k\/ (wB.heap.size<=k/\k<wr.heap.size)) wr q2 0 ((fA (ks.zip l)).map (·.2))):=Pm;obtain⟨k0,k1,k2,k3,k4⟩:=ai h5;obtain⟨n1,GX⟩:∃n1,((fA (ks.zip l)).map (·.1)).length=n1:=⟨_,rfl⟩;obtain⟨n2,GY⟩:∃n2,((fA (ks.zip l)).map (·.2)).length=n2:=⟨_,rfl⟩;rw[GX,GY]at h5 aX k3 k4;rw[GX]at j3 k0 k1 k2;rw[GY]at j4 k0 k1 k2;clear lM Pm bW eZ oL hP gM vP hk hj;go_wp2;refine bodyPost_ret (v:=.agg #[.int .i64 5,.int .i64 0,.string ⟨#[]⟩,.slice q1 n1 c1,.slice q2 n2 c2]) (by simp[results,Tryz.results104,go_sem,k0,k1,k2,k3,k4]) rfl ?_;obtain⟨r1,r2⟩:=VJ hO cK sG aX ZG.out HRJ.out vw (by omega);rw[GX,GY]at r1;exact⟨_,rfl,r1,r2⟩
theorem R4{t:List Int}{p q:Nat}{c:Int}(h:kR t p=.ok c q):0<=c/\c<=1114111:=by
 have hx:=Ae t (p+2);unfold kR at h
 split at h
 ·cases h
 split at h
 ·cases h;omega
 split at h
 ·cases h
 split at h
 ·cases h
 ·rename_i l hl;have:=GH hl
  cases h;omega
theorem Pp{t:List Int}{p q:Nat}{c:Int}(h:escape t p=.ok c q):0<=c/\c<=1114111:=by
 unfold escape at h;simp only at h
 split at h
 ·rename_i h1;cases h;omega
 split at h
 ·cases h;omega
 split at h
 ·cases h;omega
 split at h
 ·cases h;omega
 split at h
 ·cases h;omega
 split at h
 ·cases h;omega
 split at h
 ·exact R4 h
 ·cases h
theorem Au(t:List Int):∀(m p:Nat) (out r:List Int) (q:Nat),quoL t m p out=.ok r q->r.length<=out.length+4*(q - p)/\p<=q
 | 0,_,_,_,_,h=>by cases h
 | m+1,p,out,r,q,h=>by
  rw[kS]at h
  split at h
  ·cases h;omega
  split at h
  ·cases he:escape t p with
   | bad e a=>rw[he]at h;cases h
   | ok c p'=>
    rw[he]at h;simp only[Res.bind]at h;have h1:=Au t m p' _ r q h;have mZ:p<p':=by
     rename_i Cq;have:=vo (t:=t) (p:=p) (bq (by rw[Cq];decide));rw[he]at this;exact this.1
    have hl:(Lib.encodeRuneZ c).length<=4:=by
     unfold Lib.encodeRuneZ
     (repeat' split);all_goals simp
    rw[List.length_append]at h1;omega
  split at h
  ·cases h
  ·have h1:=Au t m (p+1) _ r q h;rw[List.length_append]at h1;simp only[List.length_cons,List.length_nil]at h1;omega
def R5(w w':World)(R:Nat)(s:ByteArray)(r:Res (List Int))(x:Ending):Prop:=match r with
 | .ok c q=>x=.returned (.tuple #[.string (strOfNums c),.bool true])/\oJ w w' R s q
 | .bad e l=>x=.returned (.tuple #[.string aH,.bool false])/\yt w w' R s e l
theorem Av{w:World}{R p:Nat}{s:ByteArray}{e l:Int}(hr:eQ w R s p e l)(hs:short s)(hp:p<s.size):
    Calls Tryz.prog 141 #[.pointer (some ⟨R,0,none⟩)] w fun x w'=>R5 w w' R s (quoted (ints s) p) x:=by
 unfold short at hs;have c1:=hr.c1;have f1:=hr.fz 1;have hRw:=hr.lt;have VN:eQ (w.setCell ⟨R,1,none⟩ (.int .i64 ((p:Int)+1))) R s (p+1) e l:=hr.at (p+1);have HK0:aj (One R) w (w.setCell ⟨R,1,none⟩ (.int .i64 ((p:Int)+1))):=eQ.setAt w R (p+1);go_enter Tryz.func141,Tryz.ntmps141;go_wp2;clear c1 f1
 go_loopw [4] (fun v wr=>∃(q m:Nat) (out:List Int),q<=s.size/\s.size<q+m/\out.length<=4*q/\quoL (ints s) m q out=quoted (ints s) p/\wr.ownsRow w.heap.size 5 1 v out.length (out.map (Value.int .u8))/\(∃e l,eQ wr R s q e l)/\aj (One R) w wr) (fun _ wr=>s.size - posOf R wr)
 case atStart=>
  refine⟨p+1,s.size+1, [],hp,by omega,by simp, ?_,World.ownsRow_nil _ _ _ _,⟨e,l,VN⟩,HK0⟩;unfold quoted;rw[ax]
 case round=>
  clear VN HK0 hr;obtain⟨q,m,out,hq,hm,hol,hx,aT,⟨e1,l1,xy⟩,hk⟩:=hrel;obtain⟨m',rfl⟩:∃m',m=m'+1:=⟨m - 1,by omega⟩;rw[kS]at hx;have HX:Hid ((if ag (ints s) q=34 then .ok out (q+1)else if ag (ints s) q=92 then(escape (ints s) q).bind fun l q=>quoL (ints s) m' q (out++Lib.encodeRuneZ l)else if ag (ints s) q<32 then .bad 11 q else quoL (ints s) m' (q+1) (out++ [ag (ints s) q]))=quoted (ints s) p):=hx;clear hx;have c1:=xy.c1;have f1:=xy.fz 1;have fI:=hk.size;have rJ:=jV s q;have zy:=aM aT;have HR:eQ (wr.setCell ⟨R,1,none⟩ (.int .i64 ((q:Int)+1))) R s (q+1) e1 l1:=xy.at (q+1);have HKs:aj (One R) wr (wr.setCell ⟨R,1,none⟩ (.int .i64 ((q:Int)+1))):=eQ.setAt wr R (q+1);have O4:=gG xy
  by_cases JX:ag (ints s) q=34
  ·have HQ:Hid (quoted (ints s) p=.ok out (q+1)):=by rw[<-HX.out,if_pos JX];rfl
   have hcv:=KG (bz aT HKs fun k iK=>by have:=zy k iK;unfold One;omega);have pk:=dL xy;rw[JX]at pk;go_wp2_with(go_at_call 138;refine pk.mono ?_;rintro x w' ⟨rfl,rfl⟩);go_ret2;rw[HQ.out];exact⟨rfl,⟨_,_,HR⟩,hk.then HKs⟩
  by_cases Cq:ag (ints s) q=92
  ·have pk:=dL xy;rw[Cq]at pk;have es:=KC xy (by omega);have mZ:=vo (t:=ints s) (p:=q) (bq (by rw[Cq];decide))
   cases he:escape (ints s) q with
   | bad e' l'=>
    have HQ:Hid (quoted (ints s) p=.bad e' l'):=by rw[<-HX.out,if_neg JX,if_pos Cq,he];rfl
    rw[he]at es;go_wp2_with(first
     | (go_at_call 138;refine pk.mono ?_;rintro x w' ⟨rfl,rfl⟩)
     | (go_at_call 165;refine es.mono ?_;rintro x w1 ⟨rfl,jY⟩))
    go_ret2;rw[HQ.out];exact⟨rfl,jY.1,hk.then jY.2⟩
   | ok c q'=>
    have HQ:Hid (quoL (ints s) m' q' (out++Lib.encodeRuneZ c)=quoted (ints s) p):=by rw[<-HX.out,if_neg JX,if_pos Cq,he];rfl
    have BV:=Pp he;rw[he]at es mZ;have hqq:q<q'/\q'<=(ints s).length:=mZ;rw[ax]at hqq;have hl4:(Lib.encodeRuneZ c).length<=4:=by
     unfold Lib.encodeRuneZ
     (repeat' split);all_goals simp
    have HL4:Hid ((Lib.encodeRuneZ c).length<=4):=hl4;clear hl4 mZ;go_wp2_with(first
     | (go_at_call 138;refine pk.mono ?_;rintro x w' ⟨rfl,rfl⟩)
     | (go_at_call 165;refine es.mono ?_;rintro x w1 ⟨rfl,⟨⟨e2,l2,qR⟩,iX⟩⟩;have fV:=bz aT iX fun k iK=>by have:=zy k iK;unfold One;omega)
     | (go_at_call 166;refine(Tryz.utf8_AppendRune_plain w.heap.size _ out.length _ c (by omega) (by omega) _ fV (by omega) (by have:=iX.size;omega)).mono ?_;rintro x w3 ⟨v',rfl,zaV,o,hg3⟩))
    have zaW:=aM fV;have zfV:=iX.size;have Zy:aj (One R) w (w1.alloc o):=(hk.then iX).alloc o;have eY:aj (One R) w w3:=Zy.grown hg3 fun k iK=>(zaW k iK).1;have gJ:eQ w3 R s q' e2 l2:=by
     have zdT:eQ (w1.alloc o) R s q' e2 l2:=qR.bf (S:=fun _=>False) ((aj.refl _ _).alloc o) (fun h=>h);refine zdT.bf (S:=fun k=>some k=Value.ownBlock _) (aj.dm hg3 fun _ _ e=>e.symm) fun e=> ?_;have:=(zaW R e.symm).1;omega
    have HP3:=gG gJ;go_roundw
    case rel=>
     refine⟨q',m',out++Lib.encodeRuneZ c,hqq.2,by omega, ?_,HQ.out, ?_,⟨e2,l2,gJ⟩,eY⟩
     ·rw[List.length_append];have:=HL4.out;omega
     ·have e:(out++Lib.encodeRuneZ c).map (Value.int .u8)=out.map (Value.int .u8)++Lib.runeCells c:=by rw[List.map_append];rfl
      have e':(out++Lib.encodeRuneZ c).length=out.length+(Lib.runeCells c).length:=by rw[List.length_append];simp[Lib.runeCells]
      rw[e,e'];exact zaV
    case measure=>rw[HP3,O4];omega
  have pk:=dL xy
  by_cases h32:ag (ints s) q<32
  ·have HQ:Hid (quoted (ints s) p=.bad 11 q):=by rw[<-HX.out,if_neg JX,if_neg Cq,if_pos h32];rfl
   go_wp2_with(first
    | (go_at_call 138;refine pk.mono ?_;rintro x w' ⟨rfl,rfl⟩)
    | (go_at_call 116;refine(gu xy 11 (q:Int)).mono ?_;rintro x w1 ⟨rfl,kg,jY⟩))
   go_ret2;rw[HQ.out];exact⟨rfl,⟨_,kg⟩,hk.then jY⟩
  ·have HQ:Hid (quoL (ints s) m' (q+1) (out++ [ag (ints s) q])=quoted (ints s) p):=by rw[<-HX.out,if_neg JX,if_neg Cq,if_neg h32];rfl
   have bJ:q<s.size:=by
    have:=bq (t:=ints s) (p:=q) (by omega);rw[ax]at this;exact this
   obtain⟨y,hy⟩:∃y,ag (ints s) q=y:=⟨_,rfl⟩;have HY:Hid (ag (ints s) q=y):=hy;rw[hy]at pk JX Cq h32 rJ;clear hy HR HKs f1;go_wp2_with(first
    | (go_at_call 138;refine pk.mono ?_;rintro x w' ⟨rfl,rfl⟩)
    | (at_builtin;refine oV rfl (.tmp 17) (.tmp 19) 40 5 .u8 1 rfl Tryz.underlying40 Tryz.Gn (by decide) w.heap.size _ out rfl ?a0 _ y rfl ?a1 ?a2 ?a3 ?_))
   case a0=>exact aT.alloc _
   case a1=>exact aR (cur:= [_]) (heap_alloc_new _ _) 0 _ rfl
   case a2=>omega
   case a3=>simp;omega
   intro v' w1 sM ZA;have jY:aj (One R) w w1:=(hk.alloc _).grown ZA fun k iK=>(zy k iK).1;have kg:eQ w1 R s q e1 l1:=by
    refine(xy.bf (S:=fun _=>False) ((aj.refl _ _).alloc _) (fun h=>h)).bf (S:=fun k=>some k=Value.ownBlock _) (aj.dm ZA fun _ _ e=>e.symm) fun e=> ?_;have:=(zy R e.symm).1;omega
   have d1:=kg.c1;have g1:=kg.fz 1;have HR:eQ (w1.setCell ⟨R,1,none⟩ (.int .i64 ((q:Int)+1))) R s (q+1) e1 l1:=kg.at (q+1);have HKs:aj (One R) w1 (w1.setCell ⟨R,1,none⟩ (.int .i64 ((q:Int)+1))):=eQ.setAt w1 R (q+1);have HP3:=gG HR;have zdU:=aM sM;have fV:=bz sM HKs fun k iK=>(by have:=zdU k iK;unfold One;omega);clear aT c1;have HO2:Hid ((w1.setCell ⟨R,1,none⟩ (.int .i64 ((q:Int)+1))).ownsRow w.heap.size 5 1 v' (out++ [y]).length ((out++ [y]).map (Value.int .u8))):=by rw[List.length_append,List.map_append];exact fV
   clear fV sM;go_wp2;go_roundw
   case rel=>exact⟨q+1,m',out++ [y],bJ,by omega,by rw[List.length_append];simp only[List.length_cons,List.length_nil];omega,by rw[<-HY.out];exact HQ.out,HO2.out,⟨e1,l1,HR⟩,jY.then HKs⟩
   case measure=>rw[HP3,O4];omega
open Go.RowKit Go.Maps
def zz(s:ByteArray):Lit:=.string s.data.toList
def tZ(s:ByteArray):Prop:=s.size<=maxLen
theorem t_{s t:ByteArray}(h:zz s=zz t):s=t:=by
 unfold zz at h
 cases s;cases t
 simp only[Lit.string.injEq]at h;rw[Array.toList_inj.1 h]
theorem Pq{s:ByteArray}(h:tZ s):keyOf Tryz.prog 9 (.string s)=some (zz s):=WideMaps.keyOf_string_mk Tryz.underlying9 h
theorem xB:Keyed Tryz.prog 9:=string_keyed Tryz.underlying9
theorem R6(w:World):(zeroValue 139).run Tryz.prog w=.ok (.agg #[]) w:=by kernel_rfl
def uE(ks:List ByteArray)(s:ByteArray):Bool:=ks.any (fun k=>decide (k.data=s.data))
def Stood(w:World)(M:Nat)(ks:List ByteArray):Prop:=
 ∃D:DataW Unit,w.ownsMap Tryz.prog 9 (unitElem (H:=Unit)) M ks.length D/\IsMap D/\∀s,tZ s->Maps.has D (zz s)=uE ks s
theorem Stood.bf{S:Nat->Prop}{w w':World}{M:Nat}{ks:List ByteArray}(h:Stood w M ks)(hk:aj S w w')(hS:¬S M):Stood w' M ks:=by
 obtain⟨D,⟨es,clock,hb,F,hs,hD⟩,hm,hh⟩:=h;exact⟨D,⟨es,clock,(hk.block M (Array.getElem?_eq_some_iff.1 hb).1 hS).trans hb,F,hs,hD⟩,hm,hh⟩
theorem Stood.lt{w:World}{M:Nat}{ks:List ByteArray}(h:Stood w M ks):M<w.heap.size:=by
 obtain⟨D,⟨es,clock,hb,_⟩,_⟩:=h;exact(Array.getElem?_eq_some_iff.1 hb).1
theorem Stood.made(w:World):Stood (w.alloc (.map #[] 0)) w.heap.size []:=
 ⟨.map [],World.ownsMap_made _ _ _ _,⟨[],rfl⟩,fun _ _=>rfl⟩
theorem Dx(ks:List ByteArray)(k s:ByteArray):uE (ks++ [k]) s=(uE ks s || decide (k.data=s.data)):=by
 unfold uE;rw[List.any_append];simp
theorem Stood.put{w:World}{M:Nat}{ks:List ByteArray}{D:DataW Unit}{s:ByteArray}(aT:w.ownsMap Tryz.prog 9 (unitElem (H:=Unit)) M (ks.length+1) (D.put (zz s) (.agg [])))(hm:IsMap D)(hh:∀s,tZ s->Maps.has D (zz s)=uE ks s)(hs:tZ s):Stood w M (ks++ [s]):=by
 refine⟨D.put (zz s) (.agg []),by rw[List.length_append];exact aT, ?_,fun x hx=> ?_⟩
 ·obtain⟨es,rfl⟩:=hm;exact⟨_,rfl⟩
 ·rw[Dx]
  by_cases e:x=s
  ·subst e;rw[has_put_same hm (show WideAt.IsKeyLit (zz x)from trivial)];simp
  ·rw[has_put_other (fun h'=>e (t_ h')),hh x hx];have:decide (s.data=x.data)=false:=by
    apply decide_eq_false
    intro h'
    apply e
    cases x;cases s
    simp only at h';rw[h']
   rw[this,Bool.or_false]
def dJ(R M:Nat):Nat->Prop:=fun k=>k=R\/ k=M
def VO(w w':World)(R M:Nat)(s:ByteArray)(ks:List ByteArray)(r:Res ByteArray)(x:Ending):Prop:=match r with
 | .ok c q=>x=.returned (.tuple #[.string c,.bool true])/\(∃e l,eQ w' R s q e l)/\Stood w' M (ks++ [c])/\aj (dJ R M) w w'
 | .bad e l=>x=.returned (.tuple #[.string aH,.bool false])/\(∃q,eQ w' R s q e l)/\aj (dJ R M) w w'
theorem aj.kG{R M:Nat}{w w':World}(h:aj (One R) w w'):aj (dJ R M) w w':=h.mono fun _ _ h=>.inl h
theorem VP{w:World}{R M p:Nat}{s:ByteArray}{e l:Int}{ks:List ByteArray}(hr:eQ w R s p e l)(hs:short s)(lV:Stood w M ks)(hRM:R≠M)(gM:ks.length<=100000):
    Calls Tryz.prog 168 #[.pointer (some ⟨R,0,none⟩),.map (some M)] w fun x w'=>VO w w' R M s ks (jX (ints s) ks p) x:=by
 have fI:=hs;unfold short at fI;have c1:=hr.c1;have pk:=dL hr
 by_cases JX:ag (ints s) p=34
 ·have bJ:p<s.size:=by
    have:=bq (t:=ints s) (p:=p) (by rw[JX];decide);rw[ax]at this;exact this
  rw[JX]at pk;have qt:=Av hr hs bJ;have mZ:=vv (t:=ints s) (p:=p) (by rw[ax];exact bJ)
  cases hq:quoted (ints s) p with
  | bad e' l'=>
   have HK:Hid (jX (ints s) ks p=.bad e' l'):=by unfold jX;rw[if_pos JX,hq];rfl
   rw[hq]at qt;go_enter Tryz.func168,Tryz.ntmps168;go_wp2_with(first
    | (go_at_call 138;refine pk.mono ?_;rintro x w' ⟨rfl,rfl⟩)
    | (go_at_call 141;refine qt.mono ?_;rintro x w1 ⟨rfl,jY⟩))
   go_ret2;rw[HK.out];exact⟨rfl,jY.1,jY.2.kG⟩
  | ok c q=>
   rw[hq]at qt mZ;have hqb:p<q/\q<=s.size:=by have h:p<q/\q<=(ints s).length:=mZ;rw[ax]at h;exact h
   have cB:=(Au _ _ _ _ _ _ hq).1;have wC:tZ (strOfNums c):=by
    unfold tZ;rw[fF];simp only[List.length_nil]at cB;unfold maxLen;omega
   have jH:=Pq wC;have HK:Hid (jX (ints s) ks p=if uE ks (strOfNums c)=true then .bad 14 p else(pM (ints s) 58 (aG (ints s) q)).bind fun _ r=>.ok (strOfNums c) (aG (ints s) r)):=by unfold jX;rw[if_pos JX,hq];rfl
   obtain⟨u,hu⟩:∃u,strOfNums c=u:=⟨_,rfl⟩;rw[hu]at wC jH HK;have qt':Calls Tryz.prog 141 #[.pointer (some ⟨R,0,none⟩)] w fun x w'=>x=.returned (.tuple #[.string u,.bool true])/\oJ w w' R s q:=by rw[<-hu];exact qt
   clear qt hu cB;obtain⟨D,aT,wE,Ps⟩:=lV;have zfW:=aT.lt;have HH:Hid (∀s,tZ s->Maps.has D (zz s)=uE ks s):=Ps;have HM:Hid (IsMap D):=wE;have hhu:=Ps u wC;have GZ:Hid (ks.length<maxLen):=by show _<_;unfold maxLen;omega
   have HV:Hid (unitElem (H:=Unit) (.agg #[])=some (.agg [], [])):=unitElem_mk;clear Ps wE;have zx:∀w1:World,aj (One R) w w1->w1.ownsMap Tryz.prog 9 (unitElem (H:=Unit)) M ks.length D:=by
    intro w1 jY;obtain⟨es,clock,hb,F,hs',hD⟩:=aT;exact⟨es,clock,(jY.block M (Array.getElem?_eq_some_iff.1 hb).1 (fun h=>hRM h.symm)).trans hb,F,hs',hD⟩
   cases hhk:uE ks u with
   | true=>
    rw[hhk]at hhu;have HB:Hid (jX (ints s) ks p=.bad 14 p):=by rw[HK.out,if_pos hhk];rfl
    go_enter Tryz.func168,Tryz.ntmps168;go_wp2_with(first
     | (go_at_call 138;refine pk.mono ?_;rintro x w' ⟨rfl,rfl⟩)
     | (go_at_call 141;refine qt'.mono ?_;rintro x w1 ⟨rfl,⟨⟨e1,l1,kg⟩,jY⟩⟩;have sM:=zx w1 jY;have zdV:=kg.bf (S:=fun _=>False) ((aj.refl _ _).alloc (.cells #[] 139)) (fun h=>h))
     | (at_lookup;refine wpList_lookup_own_unit _ rfl _ _ 138 rfl 9 139 xB Tryz.underlying138 (R6 _) M ks.length D rfl sM _ _ rfl jH ?_;rw[hhu])
     | (go_at_call 116;refine(gu zdV 14 (p:Int)).mono ?_;rintro x w3 ⟨rfl,gJ,eY⟩))
    go_ret2;rw[HB.out];exact⟨rfl,⟨_,gJ⟩,((jY.alloc _).then eY).kG⟩
   | false=>
    rw[hhk]at hhu;have yY:=fu (t:=ints s) (p:=q) (by rw[ax];exact hqb.2);rw[ax]at yY
    by_cases hm:ag (ints s) (aG (ints s) q)=58
    ·have YH:aG (ints s) q<s.size:=by
       have:=bq (t:=ints s) (p:=aG (ints s) q) (by rw[hm];decide);rw[ax]at this;exact this
     have HB:Hid (jX (ints s) ks p=.ok u (aG (ints s) (aG (ints s) q+1))):=by rw[HK.out,if_neg (by simp[hhk])];unfold pM;rw[if_pos hm];rfl
     go_enter Tryz.func168,Tryz.ntmps168;go_wp2_with(first
      | (go_at_call 138;refine pk.mono ?_;rintro x w' ⟨rfl,rfl⟩)
      | (go_at_call 141;refine qt'.mono ?_;rintro x w1 ⟨rfl,⟨⟨e1,l1,kg⟩,jY⟩⟩;have sM:=zx w1 jY;have KN:=sM.alloc (.cells #[] 139))
      | (at_lookup;refine wpList_lookup_own_unit _ rfl _ _ 138 rfl 9 139 xB Tryz.underlying138 (R6 _) M ks.length D rfl sM _ _ rfl jH ?_;rw[hhu])
      | (at_mapUpdate;refine wpList_mapUpdate_own _ rfl _ _ _ 138 rfl 9 139 xB Tryz.underlying138 _ M ks.length D rfl KN GZ.out _ _ _ rfl rfl jH (.agg []) [] HV.out ?_;intro w2 fV m_
         have qR:eQ w2 R s q e1 l1:=(kg.bf (S:=fun _=>False) ((aj.refl _ _).alloc (.cells #[] 139)) (fun h=>h)).bf (S:=fun k=>k=M) (aj.dm m_ fun _ _ e=>(Option.some.inj e).symm) hRM;have iX:aj (dJ R M) w w2:=((jY.alloc (.cells #[] 139)).kG (M:=M)).trans (S':=fun k=>k=M) (aj.dm m_ fun _ _ e=>(Option.some.inj e).symm) fun _ _ h=>.inr h)
      | (go_at_call 114;have _h:=F4;refine(bC F4 hs YH).mono ?_;rintro x w5 ⟨rfl,⟨⟨e5,l5,Dy⟩,qX⟩⟩)
      | (go_at_call 114;refine(bC qR hs hqb.2).mono ?_;rintro x w3 ⟨rfl,⟨⟨e3,l3,gJ⟩,eY⟩⟩)
      | (go_at_call 164;refine(pX gJ (by omega) 58 hm).mono ?_;rintro x w4 ⟨rfl,⟨⟨e4,l4,F4⟩,uF⟩⟩))
     go_ret2;rw[HB.out];have ZH:=Stood.put fV HM.out HH.out wC;exact⟨rfl,⟨_,_,Dy⟩,((ZH.bf eY fun h=>hRM h.symm).bf uF fun h=>hRM h.symm).bf qX fun h=>hRM h.symm,((iX.then eY.kG).then uF.kG).then qX.kG⟩
    ·have HB:Hid (jX (ints s) ks p=.bad 11 (aG (ints s) q)):=by rw[HK.out,if_neg (by simp[hhk])];unfold pM;rw[if_neg hm];rfl
     go_enter Tryz.func168,Tryz.ntmps168;go_wp2_with(first
      | (go_at_call 138;refine pk.mono ?_;rintro x w' ⟨rfl,rfl⟩)
      | (go_at_call 141;refine qt'.mono ?_;rintro x w1 ⟨rfl,⟨⟨e1,l1,kg⟩,jY⟩⟩;have sM:=zx w1 jY;have KN:=sM.alloc (.cells #[] 139))
      | (at_lookup;refine wpList_lookup_own_unit _ rfl _ _ 138 rfl 9 139 xB Tryz.underlying138 (R6 _) M ks.length D rfl sM _ _ rfl jH ?_;rw[hhu])
      | (at_mapUpdate;refine wpList_mapUpdate_own _ rfl _ _ _ 138 rfl 9 139 xB Tryz.underlying138 _ M ks.length D rfl KN GZ.out _ _ _ rfl rfl jH (.agg []) [] HV.out ?_;intro w2 fV m_
         have qR:eQ w2 R s q e1 l1:=(kg.bf (S:=fun _=>False) ((aj.refl _ _).alloc (.cells #[] 139)) (fun h=>h)).bf (S:=fun k=>k=M) (aj.dm m_ fun _ _ e=>(Option.some.inj e).symm) hRM;have iX:aj (dJ R M) w w2:=((jY.alloc (.cells #[] 139)).kG (M:=M)).trans (S':=fun k=>k=M) (aj.dm m_ fun _ _ e=>(Option.some.inj e).symm) fun _ _ h=>.inr h)
      | (go_at_call 114;refine(bC qR hs hqb.2).mono ?_;rintro x w3 ⟨rfl,⟨⟨e3,l3,gJ⟩,eY⟩⟩)
      | (go_at_call 164;refine(tV gJ 58 hm).mono ?_;rintro x w4 ⟨rfl,⟨⟨q4,F4⟩,uF⟩⟩))
     go_ret2;rw[HB.out];exact⟨rfl,⟨_,F4⟩,(iX.then eY.kG).then uF.kG⟩
 ·have hb:(ag (ints s) p !=34)=true:=by simp[JX]
  have HK:Hid (jX (ints s) ks p=.bad 11 p):=by unfold jX;rw[if_neg JX];rfl
  go_enter Tryz.func168,Tryz.ntmps168;go_wp2_with(first
   | (go_at_call 138;refine pk.mono ?_;rintro x w' ⟨rfl,rfl⟩)
   | (go_at_call 116;refine(gu hr 11 (p:Int)).mono ?_;rintro x w3 ⟨rfl,gJ,eY⟩))
  go_ret2;rw[HK.out];exact⟨rfl,⟨_,gJ⟩,eY.kG⟩
open Go.RowKit
def XI(B:Nat)(v:Value)(w:World):Nat->Prop:=fun k=>B<=k/\k<w.heap.size/\v.ownBlock≠some k
def Cv(B:Nat)(w:World)(v:Value)(dz:List J):Prop:=∃xs,w.ownsRow B 25 5 v dz.length xs/\isRow (XI B v w) w dz xs
theorem Cv.nil(B:Nat)(w:World):Cv B w (.slice none 0 0) []:=⟨[],World.ownsRow_nil _ _ _ _,rfl⟩
theorem Cv.bf{B:Nat}{S:Nat->Prop}{w w':World}{v:Value}{dz:List J}(h:Cv B w v dz)(hk:aj S w w')(hS:∀k,B<=k->¬S k):Cv B w' v dz:=by
 obtain⟨xs,h1,h2⟩:=h;have hs:=hk.size;refine⟨xs,bz h1 hk fun k e=>hS k (aM h1 k e).1,h2.carry fun k iK=>⟨⟨iK.1,by have:=iK.2.1;omega,iK.2.2⟩,hk.block k iK.2.1 (hS k iK.1)⟩⟩
theorem Cv.push{B:Nat}{W W2:World}{v v':Value}{dz:List J}{y:J}{cs xs:List Value}{o:Obj}(h2:isRow (XI B v W) W dz xs)(hy:isJ (XI B v W) W y cs)
    (aT:W2.ownsRow B 25 5 v' (dz.length+1) (xs++cs)) (hg:(W.alloc o).grownBy W2 v.ownBlock) (jB:v'.ownBlock=v.ownBlock\/ v'.ownBlock=some (W.alloc o).heap.size):Cv B W2 v' (dz++ [y]):=by
 have hs:=hg.size;simp at hs;have carry:∀k,XI B v W k->XI B v' W2 k/\W2.heap[k]?=W.heap[k]?:=by
  intro k hk;refine⟨⟨hk.1,by have:=hk.2.1;omega,fun e=> ?_⟩,bP hg hk.2.1 hk.2.2⟩
  rcases jB with h| h
  ·exact hk.2.2 (h ▸ e)
  ·rw[h]at e;have h3:(W.alloc o).heap.size=k:=Option.some.inj e;simp at h3;have:=hk.2.1;omega
 exact⟨xs++cs,by rw[List.length_append];exact aT,isRow.snoc hy.pO (hy.carry carry) dz xs (h2.carry carry)⟩
structure LI(B R b:Nat)(WA:World)(dz:List J)(vl:Value)(wr:World):Prop where
 obj:wr.heap[b+1]?=some (.cells #[.int .i64 4,.int .i64 0,.string ⟨#[]⟩,.slice none 0 0,vl] 25 (0,0))
 res:wr.heap[b]?=some (.cells #[.int .i64 0,.int .i64 0,.string ⟨#[]⟩,.slice none 0 0,.slice none 0 0] 25 (0,0))
 dS:Cv B wr vl dz
 bf:aj (dJ R (b+1)) WA wr
 KO:WA.heap.size=B
 lt:b+1<B
 rb:R<b
section
variable {B R b : Nat} {WA W W2 : World} {dz : List J} {vl il : Value}
theorem LI.size(h:LI B R b WA dz vl W):B<=W.heap.size:=by have:=h.bf.size;have:=h.KO;omega
theorem LI.one(h:LI B R b WA dz vl W)(hk:aj (One R) W W2):LI B R b WA dz vl W2:=by
 have h1:=h.size;have h2:=h.lt;have h3:=h.rb;exact⟨(hk.block _ (by omega) (by unfold One;omega)).trans h.obj,(hk.block _ (by omega) (by unfold One;omega)).trans h.res,h.dS.bf hk fun k hB=>by unfold One;omega,h.bf.then hk.kG,h.KO,h2,h3⟩
theorem LI.alloc(h:LI B R b WA dz vl W)(o:Obj):LI B R b WA dz vl (W.alloc o):=h.one ((aj.refl _ _).alloc o)
theorem LI.c4(h:LI B R b WA dz vl W):W.cell? ⟨b+1,4,none⟩=some vl:=bA h.obj
theorem LI.push(h:LI B R b WA dz vl W){y:J}{cs xs:List Value}{o:Obj}(h1:W.ownsRow B 25 5 vl dz.length xs)(h2:isRow (XI B vl W) W dz xs)(hy:isJ (XI B vl W) W y cs)
    (aT:W2.ownsRow B 25 5 il (dz.length+1) (xs++cs)) (hg:(W.alloc o).grownBy W2 vl.ownBlock) (jB:il.ownBlock=vl.ownBlock\/ il.ownBlock=some (W.alloc o).heap.size):
    W2.cell? ⟨b+1,4,none⟩=some vl/\W2.frozen? ⟨b+1,4,none⟩=false/\LI B R b WA (dz++ [y]) il (W2.setCell ⟨b+1,4,none⟩ il):=by
 have fI:=h.size;have bJ:=h.lt;have hrb:=h.rb;have o6:=aM h1;have ob:W2.heap[b+1]?=some (.cells #[.int .i64 4,.int .i64 0,.string ⟨#[]⟩,.slice none 0 0,vl] 25 (0,0)):=by
  rw[bP hg (by omega) (fun e=>by have:=o6 _ e;omega)];exact h.obj
 have rs:W2.heap[b]?=some (.cells #[.int .i64 0,.int .i64 0,.string ⟨#[]⟩,.slice none 0 0,.slice none 0 0] 25 (0,0)):=by
  rw[bP hg (by omega) (fun e=>by have:=o6 _ e;omega)];exact h.res
 have K3:aj (One (b+1)) W2 (W2.setCell ⟨b+1,4,none⟩ il):=aj.setCell (aj.refl _ _) (fun _=>(rfl:b+1=b+1)) _;refine⟨bA ob,iI ob 4,⟨?_, ?_, ?_, ?_,h.KO,bJ,hrb⟩⟩
 ·rw[heap_setCell_same _ (b+1) 4 _ _ _ ob];rfl
 ·rw[K3.block b (by have:=(Array.getElem?_eq_some_iff.1 rs).1;omega) (by unfold One;omega)];exact rs
 ·exact(Cv.push h2 hy aT hg jB).bf K3 fun k hB=>by unfold One;omega
 ·have k1:aj (dJ R (b+1)) WA (W.alloc o):=h.bf.alloc o;have k2:aj (dJ R (b+1)) WA W2:=k1.grown hg fun k e=>by have:=(o6 k e).1;have:=h.KO;omega
  exact k2.then (K3.mono fun i _ hi=>.inr hi)
end
theorem qY{w:World}{eH:Array Oper}{rest:List Oper}{o:Oper}{a:Act}{Q:Exit->Act->World->Prop}(RA:o.guard=none)(s x:Operand)(t:TypeId)
    (ho:o.op=.call {callee:=.builtin .append,args:=#[s,x],argTypes:=#[t,t]})
    (base:Nat) (e:TypeId) (z:Value) (size bytes:Nat) (ht:Tryz.prog.underlying t=some (.slice e)) (sw:(Tryz.prog.info? e).map (fun i=>(i.zero,i.size,i.bytes))=some (some z,size,bytes))
    (Zx:z.cells.size=size) (fI:0<size) (FY:bytes<=100)
    (v:Value) (n:Nat) (xs:List Value) (hs:a.eval s=v) (aT:w.ownsRow base e size v n xs)
    (ad:Addr) (news:List Value) (hx:a.eval x=.slice (some ad) 1 1) (hl:news.length=size) (rG:∀j u,news[j]?=some u->w.cell? (ad.add j)=some u) (h1:∀u∈news,u.oneCell'=true)
    (hn:n<=1000000) (rH:base<=w.heap.size)
    (h:∀v' w',w'.ownsRow base e size v' (n+1) (xs++news)->w.grownBy w' v.ownBlock->(v'.ownBlock=v.ownBlock\/ v'.ownBlock=some w.heap.size)->wpList Tryz.prog eH Q rest (a.put o.dst v') w'):wpList Tryz.prog eH Q (o::rest) a w:=
 wpList_plain RA fun _ hK=>aP s x t ho base e z size bytes ht sw Zx fI FY v n xs hs aT ad news hx hl rG h1 hn rH fun v' w' h2 h3 h4=>hK _ _ (h v' w' h2 h3 h4)
def rY(u:Nat):List Int:=(Lib.decDigits u).map fun c=>(c.toNat:Int)
theorem nQ(u:Nat)(h:u<10):rY u= [48+(u:Int)]:=by
 unfold rY;rw[Lib.decDigits,dif_pos h];simp;omega
theorem wF(u:Nat)(h:¬u<10):rY u=rY (u / 10)++ [48+((u % 10:Nat):Int)]:=by
 unfold rY;rw[Lib.decDigits,dif_neg h,List.map_append];simp;omega
theorem wG(u:Nat):∀c∈rY u,bX c=true:=by
 induction u using Nat.strongRecOn with
 | _ u ih=>
  intro c hc
  by_cases h:u<10
  ·rw[nQ u h]at hc;simp at hc;unfold bX;simp;omega
  ·rw[wF u h]at hc
   rcases List.mem_append.1 hc with h1| h1
   ·exact ih (u / 10) (by omega) c h1
   ·simp at h1;unfold bX;simp;omega
theorem Pv(l:List Int)(c:Int):nV (l++ [c])=if nV l<=bK then nV l*10+(c - 48)else nV l:=by
 unfold nV;rw[List.foldl_append]
 rfl
theorem VQ(u:Nat)(hu:(u:Int)<=bK):nV (rY u)=u:=by
 induction u using Nat.strongRecOn with
 | _ u ih=>
  by_cases h:u<10
  ·rw[nQ u h];unfold nV bK;simp;omega
  ·unfold bK at hu;rw[wF u h,Pv,ih (u / 10) (by omega) (by unfold bK;omega),if_pos (by unfold bK;omega)];omega
theorem R7(u:Nat):rY u≠ []:=by
 by_cases h:u<10
 ·rw[nQ u h];simp
 ·rw[wF u h];simp
theorem G9(u:Nat)(h1:1<=u):∃c r,rY u=c::r/\c≠48/\bX c=true:=by
 induction u using Nat.strongRecOn with
 | _ u ih=>
  by_cases h:u<10
  ·exact⟨48+u, [],nQ u h,by omega,by unfold bX;simp;omega⟩
  ·obtain⟨c,r,e,hc⟩:=ih (u / 10) (by omega) (by omega);exact⟨c,r++ [48+((u % 10:Nat):Int)],by rw[wF u h,e];rfl,hc⟩
def NJ(r:List Int):Prop:=∀c,r.head?=some c->bX c=false
theorem Pw(x r:List Int)(hx:∀c∈x,bX c=true)(hr:NJ r):(x++r).takeWhile bX=x:=by
 induction x with
 | nil=>
  cases r with
  | nil=>rfl
  | cons c r=>rw[List.nil_append,List.takeWhile_cons,hr c rfl];rfl
 | cons c x ih=>
  rw[List.cons_append,List.takeWhile_cons,hx c (by simp)];simp only[if_true];rw[ih fun d hd=>hx d (by simp[hd])]
theorem yA{t r:List Int}{p u:Nat}(hu:(u:Int)<=bK)(hr:NJ r)(hd:t.drop p=rY u++r):digits t p=((u:Int),p+(rY u).length):=by
 unfold digits
 by_cases h0:u=0
 ·subst h0;have e:rY 0= [48]:=nQ 0 (by omega);rw[e]at hd ⊢;rw[if_pos (bG hd)]
  rfl
 ·obtain⟨c,x,e,hc,_⟩:=G9 u (by omega);have hb:ag t p=c:=bG (r:=x++r) (by rw[hd,e];rfl);rw[if_neg (by rw[hb];exact hc),hd,Pw _ _ (wG u) hr,VQ u hu]
theorem G_{t r:List Int}{p:Nat}{i:Int}(h0: -bK<=i)(h1:i<=bK)(hr:NJ r)(hn:∀c,r.head?=some c->c≠46/\c≠101/\c≠69)(hd:t.drop p=uy i++r):
    number t p=.ok (.mk 2 i aH [] []) (p+(uy i).length)/\(ag t p=45\/ bX (ag t p)=true):=by
 have zaX:∀q,t.drop q=r->¬(ag t q=46\/ ag t q=101\/ ag t q=69):=by
  intro q hq
  cases r with
  | nil=>rw[RJ hq];decide
  | cons c r=>
   rw[bG hq];have:=hn c rfl;omega
 unfold uy Lib.itoa at hd ⊢
 by_cases hi:i<0
 ·rw[if_pos hi]at hd ⊢;obtain⟨u,hu⟩:∃u:Nat,i= -(u:Int):=⟨i.natAbs,by omega⟩;have Cs:i.natAbs=u:=by omega
  rw[Cs]at hd ⊢;have qB:t.drop p=45::(rY u++r):=by rw[hd];rfl
  have b0:=bG qB;have sI:=drop_tail qB;have hu1:1<=u:=by omega
  obtain⟨c,x,e,_,hc⟩:=G9 u hu1;have b1:ag t (p+1)=c:=bG (r:=x++r) (by rw[sI,e];rfl);have XE:=yA (t:=t) (p:=p+1) (u:=u) (by omega) hr sI;refine⟨?_,.inl b0⟩;unfold number;rw[if_pos b0,b1,if_pos hc];simp only[XE];have hq:=zaX (p+1+(rY u).length) (jD sI);rw[if_neg (by intro h;rcases h with h| h;{omega};{exact hq h}),if_pos b0]
  congr 1
  ·rw[hu]
  ·simp only[List.map_cons,List.length_cons];unfold rY;omega
 ·rw[if_neg hi]at hd ⊢;obtain⟨u,rfl⟩:∃u:Nat,i=(u:Int):=⟨i.toNat,by omega⟩;rw[Int.toNat_natCast]at hd ⊢;have qB:t.drop p=rY u++r:=hd;have zaY:∃c x,rY u=c::x/\bX c=true:=by
   cases he:rY u with
   | nil=>exact absurd he (R7 u)
   | cons c x=>exact⟨c,x,rfl,wG u c (by rw[he];simp)⟩
  obtain⟨c,x,e,hc⟩:=zaY;have b0:ag t p=c:=bG (r:=x++r) (by rw[qB,e];rfl);have Dh:c≠45:=by intro h;rw[h]at hc;revert hc;decide
  have XE:=yA (t:=t) (p:=p) (u:=u) h1 hr qB;refine⟨?_,.inr (by rw[b0];exact hc)⟩;unfold number;have e45:¬ag t p=45:=by rw[b0];exact Dh
  have e46:(if ag t p=45 then p+1 else p)=p:=if_neg e45;rw[e46,if_pos (by rw[b0];exact hc)];simp only[XE];have hq:=zaX (p+(rY u).length) (jD qB);rw[if_neg (by intro h;rcases h with h| h;{omega};{exact hq h}),if_neg e45]
  rfl
def Stop(r:List Int):Prop:=∀c,r.head?=some c->c=44\/ c=93\/ c=125
theorem R8{r:List Int}(h:Stop r):NJ r:=fun c hc=>by
 rcases h c hc with rfl| rfl| rfl<;>decide
theorem Px{r:List Int}(h:Stop r):∀c,r.head?=some c->c≠46/\c≠101/\c≠69:=fun c hc=>by
 rcases h c hc with rfl| rfl| rfl<;>decide
theorem fe{t r:List Int}{p:Nat}{c:Int}(hd:t.drop p=c::r)(hc:jo c=false):aG t p=p:=by
 unfold aG;rw[hd,List.takeWhile_cons,hc]
 rfl
theorem KP{t:List Int}{p:Nat}(hd:t.drop p= []):aG t p=p:=by
 unfold aG;rw[hd]
 rfl
theorem Dz{t r:List Int}{p:Nat}{c:Int}(hd:t.drop p=c::r):pM t c p=.ok () (p+1):=by
 unfold pM;rw[if_pos (bG hd)]
theorem uf{t:List Int}:∀(l r:List Int) (p:Nat),t.drop p=l++r->word t l p=.ok () (p+l.length)
 | [],_,_,_=>rfl
 | c::l,r,p,hd=>by
  unfold word;rw[Dz (r:=l++r) hd];simp only[Res.bind];rw[uf l r (p+1) (drop_tail hd)];simp only[List.length_cons]
  congr 1
  omega
theorem qc(d:Nat)(j:J)(hg:goodJ d j=true):∃c r,aZ j=c::r/\jo c=false/\nU c=true/\c≠93/\c≠125:=by
 cases j with
 | mk k i t ks l=>
  cases d with
  | zero=>cases hg
  | succ d=>
   unfold goodJ at hg;simp only[Bool.and_eq_true]at hg;have h:=hg.2;unfold aZ
   split
   ·exact⟨110,_,rfl,by decide,by decide,by decide,by decide⟩
   split
   ·split
    ·exact⟨116,_,rfl,by decide,by decide,by decide,by decide⟩
    ·exact⟨102,_,rfl,by decide,by decide,by decide,by decide⟩
   split
   ·unfold uy Lib.itoa
    split
    ·exact⟨45,_,rfl,by decide,by decide,by decide,by decide⟩
    ·have hn:=R7 i.toNat;have hd:=wG i.toNat;unfold rY at hn hd
     cases he:(Lib.decDigits i.toNat).map fun c=>(c.toNat:Int)with
     | nil=>exact absurd he hn
     | cons c r=>
      have hc:=hd c (by rw[he];simp);refine⟨c,r,rfl, ?_,by unfold nU;rw[hc];simp, ?_, ?_⟩
      ·unfold bX at hc;unfold jo;simp at hc ⊢;omega
      ·unfold bX at hc;simp at hc;omega
      ·unfold bX at hc;simp at hc;omega
   split
   ·exact⟨34,_,rfl,by decide,by decide,by decide,by decide⟩
   split
   ·exact⟨91,_,rfl,by decide,by decide,by decide,by decide⟩
   split
   ·exact⟨123,_,rfl,by decide,by decide,by decide,by decide⟩
   ·rename_i h0 h1 h2 h3 h4 h5;rw[if_neg h0,if_neg h1,if_neg h2,if_neg h3,if_neg h4,if_neg h5]at h
    cases h
theorem gT(b:Bool)(j:J)(r:List J):gq b (j::r)=(if b then []else [44])++(aZ j++gq false r):=by rw[gq]
theorem iM(b:Bool)(ks:List ByteArray)(j:J)(r:List J):fU b ks (j::r)=(if b then []else [44])++(quote (ints (ks.headD aH))++(58::(aZ j++fU false ks.tail r))):=by rw[fU]
theorem Aw(t:List Int)(f:Nat->Res J)(m p:Nat)(dz:List J):listL t f (m+1) p dz=(f (aG t p)).bind fun v q=>
    if ag t (aG t q)=93 then .ok (.mk 4 0 aH [] (dz++ [v])) (aG t q+1)
    else if ag t (aG t q)=44 then listL t f m (aG t q+1) (dz++ [v])
    else .bad 11 (aG t q):=rfl
theorem yB(t:List Int)(f:Nat->Res J)(m p:Nat)(ks:List ByteArray)(dz:List J):pairsL t f (m+1) p ks dz=(jX t ks (aG t p)).bind fun s q=>(f q).bind fun v r=>
    if ag t (aG t r)=125 then .ok (mapOf (ks++ [s]) (dz++ [v])) (aG t r+1)
    else if ag t (aG t r)=44 then pairsL t f m (aG t r+1) (ks++ [s]) (dz++ [v])
    else .bad 11 (aG t r):=rfl
theorem DC{t:List Int}{d:Nat}{f:Nat->Res J}(hf:∀(j:J) (p:Nat) (r:List Int),goodJ d j=true->inOrd j=true->t.drop p=aZ j++r->Stop r->f p=.ok j (p+(aZ j).length)):
    ∀(l:List J) (m p:Nat) (dz:List J) (r:List Int),l≠ []->l.all (goodJ d)=true->inOrdL l=true->l.length<m->t.drop p=gq true l++93::r→
     listL t f m p dz=.ok (.mk 4 0 aH [] (dz++l)) (p+(gq true l).length+1)
 | [],_,_,_,_,h,_,_,_,_=>absurd rfl h
 | j::l,0,_,_,_,_,_,_,hm,_=>by omega
 | j::l,m+1,p,dz,r,_,hg,ho,hm,hd=>by
  simp only[List.all_cons,Bool.and_eq_true]at hg;have NK:inOrd j=true/\inOrdL l=true:=by unfold inOrdL at ho;simpa using ho
  have e0:gq true (j::l)=aZ j++gq false l:=by rw[gT];simp
  rw[e0,List.append_assoc]at hd;obtain⟨c,x,hh,yY,_⟩:=qc d j hg.1;have Cm:t.drop p=c::(x++(gq false l++93::r)):=by rw[hd,hh];rfl
  have qO:=fe Cm yY;have Ha:=jD hd;have R9:Stop (gq false l++93::r):=by
   intro y hy
   cases l with
   | nil=>unfold gq at hy;simp at hy;omega
   | cons j2 l2=>unfold gq at hy;simp at hy;omega
  rw[Aw,qO,hf j p _ hg.1 NK.1 hd R9];simp only[Res.bind]
  cases l with
  | nil=>
   have qB:t.drop (p+(aZ j).length)=93::r:=by rw[Ha];unfold gq;rfl
   rw[fe qB (by decide),if_pos (bG qB),e0];unfold gq;simp
  | cons j2 l2=>
   have e1:gq false (j2::l2)=44::gq true (j2::l2):=by rw[gT,gT];simp
   have qB:t.drop (p+(aZ j).length)=44::(gq true (j2::l2)++93::r):=by rw[Ha,e1];rfl
   rw[fe qB (by decide),if_neg (by rw[bG qB];decide),if_pos (bG qB)];rw[DC hf (j2::l2) m (p+(aZ j).length+1) (dz++ [j]) r (by simp) hg.2 NK.2 (by simp at hm ⊢;omega) (drop_tail qB),e0,e1];simp only[List.append_assoc,List.singleton_append,List.length_append,List.length_cons]
   congr 1
   omega
theorem R_{t r:List Int}{p:Nat}{ks:List ByteArray}{k:ByteArray}{c:Int}(hn:∀x∈ks,x≠k)(hc:jo c=false)(hd:t.drop p=quote (ints k)++58::c::r):
    jX t ks p=.ok k (p+(quote (ints k)).length+1):=by
 obtain⟨hq,hb⟩:=yr (nE k) hd;have qB:=jD hd;have sI:=drop_tail qB;unfold jX;rw[if_pos hb,hq];simp only[Res.bind,zI];rw[if_neg,fe qB (by decide),Dz qB]
 ·simp only;rw[fe sI hc]
 ·intro h;obtain⟨x,hx,hxe⟩:=List.any_eq_true.1 h;refine hn x hx ?_
  cases x;cases k
  simp at hxe;rw[hxe]
theorem Ay{t:List Int}{d:Nat}{f:Nat->Res J}(hf:∀(j:J) (p:Nat) (r:List Int),goodJ d j=true->inOrd j=true->t.drop p=aZ j++r->Stop r->f p=.ok j (p+(aZ j).length)):
    ∀(l:List J) (ks ks0:List ByteArray) (m p:Nat) (dz:List J) (r:List Int),l≠ []->ks.length=l.length->rises (ks0++ks)=true->l.all (goodJ d)=true->inOrdL l=true->l.length<m->t.drop p=fU true ks l++125::r→
     pairsL t f m p ks0 dz=.ok (mapOf (ks0++ks) (dz++l)) (p+(fU true ks l).length+1)
 | [],_,_,_,_,_,_,h,_,_,_,_,_,_=>absurd rfl h
 | j::l, [],_,_,_,_,_,_,h,_,_,_,_,_=>by simp at h
 | j::l,k::ks,_,0,_,_,_,_,_,_,_,_,hm,_=>by omega
 | j::l,k::ks,ks0,m+1,p,dz,r,_,hl,hr,hg,ho,hm,hd=>by
  simp only[List.all_cons,Bool.and_eq_true]at hg;have NK:inOrd j=true/\inOrdL l=true:=by unfold inOrdL at ho;simpa using ho
  have e0:fU true (k::ks) (j::l)=quote (ints k)++(58::(aZ j++fU false ks l)):=by rw[iM];simp
  rw[e0]at hd;obtain⟨c,x,hh,yY,_⟩:=qc d j hg.1;have Cm:t.drop p=quote (ints k)++58::c::(x++(fU false ks l++125::r)):=by rw[hd,hh];simp
  have Hd:t.drop p=34::((ints k).flatMap aI++ [34]++58::c::(x++(fU false ks l++125::r))):=by rw[Cm];unfold quote;simp
  have qO:=fe Hd (by decide);have jH:=R_ (OG hr) yY Cm;have qB:t.drop (p+(quote (ints k)).length+1)=aZ j++(fU false ks l++125::r):=by
   have:=drop_tail (jD Cm);rw[this,hh];rfl
  have R9:Stop (fU false ks l++125::r):=by
   intro y hy
   cases l with
   | nil=>unfold fU at hy;simp at hy;omega
   | cons j2 l2=>unfold fU at hy;simp at hy;omega
  rw[yB,qO,jH];simp only[Res.bind];rw[hf j _ _ hg.1 NK.1 qB R9];simp only;have Ha:=jD qB
  cases l with
  | nil=>
   have xh:ks= []:=List.eq_nil_of_length_eq_zero (by simpa using hl);subst xh;have sI:t.drop (p+(quote (ints k)).length+1+(aZ j).length)=125::r:=by rw[Ha];unfold fU;rfl
   rw[fe sI (by decide),if_pos (bG sI),e0];unfold fU;simp only[List.length_append,List.length_cons,List.length_nil]
   congr 1
   omega
  | cons j2 l2=>
   have e1:fU false ks (j2::l2)=44::fU true ks (j2::l2):=by rw[iM,iM];simp
   have sI:t.drop (p+(quote (ints k)).length+1+(aZ j).length)=44::(fU true ks (j2::l2)++125::r):=by rw[Ha,e1];rfl
   rw[fe sI (by decide),if_neg (by rw[bG sI];decide),if_pos (bG sI)];rw[Ay hf (j2::l2) ks (ks0++ [k]) m _ (dz++ [j]) r (by simp) (by simpa using hl) (by rw[List.append_assoc];exact hr) hg.2 NK.2 (by simp at hm ⊢;omega) (drop_tail sI),e0,e1];simp only[List.append_assoc,List.singleton_append,List.length_append,List.length_cons]
   congr 1
   omega
theorem vz{t:ByteArray}(h:t.size=0):t=aH:=by
 cases t with
 | mk a=>
  have:a=#[]:=Array.eq_empty_of_size_eq_zero h;rw[this];rfl
theorem Sa(l:List J):∀b,(∀j∈l,1<=(aZ j).length)->l.length<=(gq b l).length:=by
 induction l with
 | nil=>intro b _;simp
 | cons j l ih=>
  intro b h;have h1:=h j (by simp);have h2:=ih false fun x hx=>h x (by simp[hx]);unfold gq;simp only[List.length_append,List.length_cons];omega
theorem Sb(l:List J):∀b ks,l.length<=(fU b ks l).length:=by
 induction l with
 | nil=>intro b ks;simp
 | cons j l ih=>
  intro b ks;have h2:=ih false ks.tail;unfold fU;simp only[List.length_append,List.length_cons];omega
theorem He{t x r:List Int}{p:Nat}(h:t.drop p=x++r):x.length<=t.length:=by
 have:=congrArg List.length h;rw[List.length_drop,List.length_append]at this;omega
theorem vB(t:List Int):∀(d:Nat) (j:J) (p:Nat) (r:List Int),goodJ d j=true->inOrd j=true->t.drop p=aZ j++r->Stop r->value t d p=.ok j (p+(aZ j).length)
 | 0,_,_,_,h,_,_,_=>by cases h
 | d+1,.mk k i s ks l,p,r,hg,ho,hd,hs=>by
  have mJ:=hg;obtain⟨c0,x0,hh,_,zdW,_,_⟩:=qc (d+1) _ hg;unfold goodJ bare at hg;simp only[Bool.and_eq_true,Bool.or_eq_true,decide_eq_true_eq]at hg;obtain⟨⟨⟨⟨hi,ht⟩,hk⟩,hl⟩,h⟩:=hg;have NK:rises ks=true/\inOrdL l=true:=by unfold inOrd at ho;simpa using ho
  have b0:ag t p=c0:=bG (r:=x0++r) (by rw[hd,hh];rfl);unfold value;rw[if_pos (by rw[b0];exact zdW)]
  by_cases k0:k=0
  ·subst k0;have ZI:i=0:=by omega
   have UU:=vz (by omega:s.size=0);have xh:ks= []:=List.eq_nil_of_length_eq_zero (by omega);have Sc:l= []:=List.eq_nil_of_length_eq_zero (by omega);subst ZI UU xh Sc;have e:aZ (.mk 0 0 aH [] [])= [110,117,108,108]:=by unfold aZ;rfl
   rw[e]at hd ⊢;rw[if_pos (bG hd),uf _ _ _ hd]
   rfl
  by_cases k1:k=1
  ·subst k1;have UU:=vz (by omega:s.size=0);have xh:ks= []:=List.eq_nil_of_length_eq_zero (by omega);have Sc:l= []:=List.eq_nil_of_length_eq_zero (by omega);subst UU xh Sc;rw[if_neg k0,if_pos rfl]at h;simp only[Bool.or_eq_true,decide_eq_true_eq]at h
   rcases h with rfl| rfl
   ·have e:aZ (.mk 1 0 aH [] [])= [102,97,108,115,101]:=by unfold aZ;rfl
    rw[e]at hd ⊢;have hb:=bG hd;rw[if_neg (by rw[hb];decide),if_neg (by rw[hb];decide),if_pos hb,uf _ _ _ hd]
    rfl
   ·have e:aZ (.mk 1 1 aH [] [])= [116,114,117,101]:=by unfold aZ;rfl
    rw[e]at hd ⊢;have hb:=bG hd;rw[if_neg (by rw[hb];decide),if_pos hb,uf _ _ _ hd]
    rfl
  by_cases k2:k=2
  ·subst k2;have UU:=vz (by omega:s.size=0);have xh:ks= []:=List.eq_nil_of_length_eq_zero (by omega);have Sc:l= []:=List.eq_nil_of_length_eq_zero (by omega);subst UU xh Sc;rw[if_neg k0,if_neg k1,if_pos rfl]at h;simp only[Bool.and_eq_true,decide_eq_true_eq]at h;have e:aZ (.mk 2 i aH [] [])=uy i:=by unfold aZ;rfl
   rw[e]at hd ⊢;obtain⟨hn,hb⟩:=G_ h.1 h.2 (R8 hs) (Px hs) hd;have rJ:∀y:Int,bX y=false->y≠45->ag t p≠y:=by
    intro y h1 h2 h3;rw[h3]at hb
    rcases hb with hb| hb
    ·exact h2 hb
    ·rw[h1]at hb;cases hb
   rw[if_neg (rJ 110 (by decide) (by decide)),if_neg (rJ 116 (by decide) (by decide)),if_neg (rJ 102 (by decide) (by decide)),if_neg (rJ 34 (by decide) (by decide)),if_neg (rJ 91 (by decide) (by decide)),if_neg (rJ 123 (by decide) (by decide))];exact hn
  by_cases k3:k=3
  ·subst k3;have ZI:i=0:=by omega
   have xh:ks= []:=List.eq_nil_of_length_eq_zero (by omega);have Sc:l= []:=List.eq_nil_of_length_eq_zero (by omega);subst ZI xh Sc;have e:aZ (.mk 3 0 s [] [])=quote (ints s):=by unfold aZ;rfl
   rw[e]at hd ⊢;obtain⟨hq,hb⟩:=yr (nE s) hd;rw[if_neg (by rw[hb];decide),if_neg (by rw[hb];decide),if_neg (by rw[hb];decide),if_pos hb,hq];simp only[Res.bind,zI]
  by_cases k4:k=4
  ·subst k4;have ZI:i=0:=by omega
   have UU:=vz (by omega:s.size=0);have xh:ks= []:=List.eq_nil_of_length_eq_zero (by omega);subst ZI UU xh;rw[if_neg k0,if_neg k1,if_neg k2,if_neg k3,if_pos rfl]at h;have e:aZ (.mk 4 0 aH [] l)=91::(gq true l++ [93]):=by unfold aZ;rfl
   rw[e]at hd ⊢;have Cm:t.drop p=91::(gq true l++93::r):=by rw[hd];simp
   have hb:=bG Cm;have qB:=drop_tail Cm;rw[if_neg (by rw[hb];decide),if_neg (by rw[hb];decide),if_neg (by rw[hb];decide),if_neg (by rw[hb];decide),if_pos hb];unfold lu
   cases l with
   | nil=>
    have sI:t.drop (p+1)=93::r:=by rw[qB];unfold gq;rfl
    rw[fe sI (by decide),if_pos (bG sI)];unfold gq;simp
   | cons j2 l2=>
    have m_:goodJ d j2=true:=by simp only[List.all_cons,Bool.and_eq_true]at h;exact h.1
    obtain⟨c,x,hh2,yY,_,zdX,_⟩:=qc d j2 m_;have sI:t.drop (p+1)=c::(x++(gq false l2++93::r)):=by rw[qB,gT,hh2];simp
    have cB:(j2::l2).length<t.length+1:=by
     have h1:=Sa (j2::l2) true fun y hy=>by
      obtain⟨c',x',hh',_⟩:=qc d y (List.all_eq_true.1 h y hy);rw[hh'];simp
     have h2:=He qB;omega
    rw[fe sI yY,if_neg (by rw[bG sI];exact zdX)];rw[DC (fun j p r h1 h2 h3 h4=>vB t d j p r h1 h2 h3 h4) (j2::l2) (t.length+1) (p+1) [] r (by simp) h NK.2 cB qB];simp only[List.nil_append,List.length_cons,List.length_append,List.length_nil]
    congr 1
    omega
  by_cases k5:k=5
  ·subst k5;have ZI:i=0:=by omega
   have UU:=vz (by omega:s.size=0);subst ZI UU;rw[if_neg k0,if_neg k1,if_neg k2,if_neg k3,if_neg k4,if_pos rfl]at h;simp only[Bool.and_eq_true,decide_eq_true_eq]at h;have e:aZ (.mk 5 0 aH ks l)=123::(fU true ks l++ [125]):=by unfold aZ;rfl
   rw[e]at hd ⊢;have Cm:t.drop p=123::(fU true ks l++125::r):=by rw[hd];simp
   have hb:=bG Cm;have qB:=drop_tail Cm;rw[if_neg (by rw[hb];decide),if_neg (by rw[hb];decide),if_neg (by rw[hb];decide),if_neg (by rw[hb];decide),if_neg (by rw[hb];decide),if_pos hb];unfold iG
   cases l with
   | nil=>
    have xh:ks= []:=List.eq_nil_of_length_eq_zero (by simpa using h.1.1);subst xh;have sI:t.drop (p+1)=125::r:=by rw[qB];unfold fU;rfl
    rw[fe sI (by decide),if_pos (bG sI)];unfold fU;simp
   | cons j2 l2=>
    have cB:(j2::l2).length<t.length+1:=by
     have h1:=Sb (j2::l2) true ks;have h2:=He qB;omega
    have sI:∃y,t.drop (p+1)=34::y:=by
     rw[qB];unfold fU quote;simp
    obtain⟨y,sI⟩:=sI;rw[fe sI (by decide),if_neg (by rw[bG sI];decide)];rw[Ay (fun j p r h1 h2 h3 h4=>vB t d j p r h1 h2 h3 h4) (j2::l2) ks [] (t.length+1) (p+1) [] r (by simp) h.1.1 NK.1 h.2 NK.2 cB qB];rw[List.nil_append,List.nil_append,Gb h.1.1 NK.1];simp only[List.length_cons,List.length_append,List.length_nil]
    congr 1
    omega
  ·rw[if_neg k0,if_neg k1,if_neg k2,if_neg k3,if_neg k4,if_neg k5]at h
   cases h
theorem KQ(j:J)(hg:goodJ 12 j=true)(ho:inOrd j=true):whole (aZ j)=.ok j (aZ j).length:=by
 obtain⟨c,x,hh,yY,_⟩:=qc 12 j hg;have hd:(aZ j).drop 0=aZ j++ []:=by simp
 have Cm:(aZ j).drop 0=c::x:=by rw[hh];rfl
 unfold whole;rw[fe Cm yY,vB (aZ j) 12 j 0 [] hg ho hd (fun c hc=>by cases hc)];simp only[Res.bind,Nat.zero_add];rw[KP (by simp),if_neg (by omega)]
end Go.Proofs.YtegcgbjjpgjnmaaGreatDoor
