/- A part. -/
import Derived.Test.YtldegjjaknelgaaGreatDoorAJ24
set_option maxRecDepth 100000
set_option maxHeartbeats 64000000
namespace Go.Proofs.YtldegjjaknelgaaGreatDoor
open Go.RowKit Go.Maps
theorem ry{O:Nat->Prop}{w:World}{p:Option Addr}{c:Nat}{l:jl}(h:ib O w p c l)(hz:vU l)(s:ByteArray):
    Calls Tryz.prog 48 #[.slice p l.length c,.string s] w fun e w'=>e=.returned (.tuple #[.int .i64 ((fnd l s).getD 0),.bool (fnd l s).isSome])/\w=w':=by
 obtain⟨n,hn⟩:∃n,l.length=n:=⟨_,rfl⟩;have HN:Hid (l.length=n):=hn;have pR:=hz.1;have hc:=h.1.1;rw[hn]at pR hc ⊢;clear hn;go_enter Tryz.func48,Tryz.ntmps48;go_wp2
 go_loopw [6] (fun i wr=>(∃k:Nat,i=.int .i64 k/\k<=n/\fnd (l.take k) s=none)/\wr=w) (fun i _=>n - (intOf i).toNat)
 case atStart=>exact⟨⟨0,rfl,Nat.zero_le _,rfl⟩,rfl⟩
 case round=>
  obtain⟨⟨k,rfl,hk,hf⟩,P_⟩:=hrel;rw[P_];clear P_
  by_cases mW:k<n
  ·have eQ:k<l.length:=by rw[HN.out];exact mW
   obtain⟨b,o,rfl,hb,h1,h2⟩:=h.at eQ
   cases he:((l.getD k zN).1.toList==s.toList)with
   | true=>
    have HF:Hid (fnd l s=some (l.getD k zN).2):=ML hf eQ he;generalize l.getD k zN=x at h1 h2 he HF;obtain⟨xn,xl⟩:=x;simp only at h1 h2 he;clear hf;go_wp2;go_ret2;exact⟨by rw[HF.out];rfl,rfl⟩
   | false=>
    have HF:Hid (fnd (l.take (k+1)) s=none):=Fj hf eQ he;generalize l.getD k zN=x at h1 h2 he;obtain⟨xn,xl⟩:=x;simp only at h1 h2 he;clear hf;go_wp2;go_roundw
    case rel=>exact⟨⟨k+1,by simp,by omega,HF.out⟩,trivial⟩
    case measure=>simp[intOf];omega
  ·obtain rfl:k=n:=by omega
   have HF:Hid (fnd l s=none):=by show _=_;rw[<-List.take_length (l:=l),HN.out];exact hf
   clear hf;go_wp2;go_ret2;exact⟨by rw[HF.out];rfl,rfl⟩
def D_(a b:jl)(s:Int)(n:ByteArray)(below:Bool):Bool:= !(iw.turns ⟨n,fnd a n,fnd b n⟩&&(over s (fnd a n) || over s (fnd b n) || (below&&least s (fnd a n))))
theorem Tw{O:Nat->Prop}{w:World}{p q:Option Addr}{c d:Nat}{a b:jl}(ha:ib O w p c a)(hb:ib O w q d b)(uz:vU a)(xC:vU b)(n:ByteArray)(s:Int)(below:Bool):
    Calls Tryz.prog 127 #[.slice p a.length c,.slice q b.length d,.string n,.int .i64 s,.bool below] w fun e w'=>e=.returned (.bool (D_ a b s n below))/\w=w':=by
 have h1:=ry ha uz n;have h2:=ry hb xC n;unfold D_ iw.turns;generalize fnd a n=oa at h1;generalize fnd b n=ob at h2;clear ha hb uz xC;generalize a.length=la at h1;generalize b.length=lb at h2;have key:∀(v:Bool),v=(!(!(oa==ob)&&(over s oa || over s ob || (below&&least s oa))))->(Calls Tryz.prog 127 #[.slice p la c,.slice q lb d,.string n,.int .i64 s,.bool below] w fun e w'=>e=.returned (.bool v)/\w=w'):=by
  intro v hv;have HV:=(show Hid _ from hv);clear hv
  cases oa with
  | none=>
   cases ob with
   | none=>
    go_enter Tryz.func127,Tryz.ntmps127;go_wp2_with(first
     | (have _h:=kZ;go_at_call 48;refine h2.mono ?_;rintro e w' ⟨rfl,rfl⟩)
     | (go_at_call 48;refine h1.mono ?_;rintro e w' ⟨rfl,rfl⟩;have kZ:True:=trivial))
    go_ret;exact⟨by rw[HV.out];rfl,rfl⟩
   | some y=>
    by_cases hy:s<y
    all_goals
     cases below
     all_goals
      go_enter Tryz.func127,Tryz.ntmps127;go_wp2_with(first
       | (have _h:=kZ;go_at_call 48;refine h2.mono ?_;rintro e w' ⟨rfl,rfl⟩)
       | (go_at_call 48;refine h1.mono ?_;rintro e w' ⟨rfl,rfl⟩;have kZ:True:=trivial))
      go_ret;exact⟨by rw[HV.out];simp[over,least,hy],rfl⟩
  | some x=>
   cases ob with
   | none=>
    by_cases hx:s<x<;>by_cases hl:s<=x
    all_goals
     cases below
     all_goals
      go_enter Tryz.func127,Tryz.ntmps127;go_wp2_with(first
       | (have _h:=kZ;go_at_call 48;refine h2.mono ?_;rintro e w' ⟨rfl,rfl⟩)
       | (go_at_call 48;refine h1.mono ?_;rintro e w' ⟨rfl,rfl⟩;have kZ:True:=trivial))
      go_ret;exact⟨by rw[HV.out];simp[over,least,hx,hl],rfl⟩
   | some y=>
    by_cases yn:x=y
    ·have hb:(x==y)=true:=by simpa using yn
     go_enter Tryz.func127,Tryz.ntmps127;go_wp2_with(first
      | (have _h:=kZ;go_at_call 48;refine h2.mono ?_;rintro e w' ⟨rfl,rfl⟩)
      | (go_at_call 48;refine h1.mono ?_;rintro e w' ⟨rfl,rfl⟩;have kZ:True:=trivial))
     go_ret;exact⟨by rw[HV.out];simp[yn],rfl⟩
    ·have hb:(x==y)=false:=by simpa using yn
     by_cases hx:s<x<;>by_cases hy:s<y<;>by_cases hl:s<=x
     all_goals
      cases below
      all_goals
       go_enter Tryz.func127,Tryz.ntmps127;go_wp2_with(first
        | (have _h:=kZ;go_at_call 48;refine h2.mono ?_;rintro e w' ⟨rfl,rfl⟩)
        | (go_at_call 48;refine h1.mono ?_;rintro e w' ⟨rfl,rfl⟩;have kZ:True:=trivial))
       go_ret;exact⟨by rw[HV.out];simp[over,least,hx,hy,hl,yn],rfl⟩
 exact key _ rfl
theorem Tx{w:World}:(w.alloc (.cells #[] 109)).ownsRow w.heap.size 109 2 (.slice (some ⟨w.heap.size,0,none⟩) 0 0) ([]:jl).length (flatN []):=
 ⟨rfl,.inr ⟨w.heap.size,0,_,rfl,Nat.le_refl _,bz _,Nat.le_refl _,by unfold maxLen;omega,rfl,rfl⟩⟩
def jN(a b:jl)(pQ:ByteArray)(s:Int)(us:Bool)(l:jl):Bool:=l.all fun p=>D_ a b s p.1 (us&& !(p.1.toList==pQ.toList))
theorem GR{O:Nat->Prop}{w:World}{p q:Option Addr}{c d:Nat}{a b:jl}(ha:ib O w p c a)(hb:ib O w q d b)(hO:∀k,O k->k<w.heap.size)(uz:vU a)(xC:vU b)(pQ:ByteArray)(s:Int)(us:Bool):
    Calls Tryz.prog 97 #[.slice p a.length c,.slice q b.length d,.string pQ,.int .i64 s,.bool us] w fun e w'=>e=.returned (.bool (jN a b pQ s us (a++b)))/\Below w.heap.size w w':=by
 have HMy:Hid (∀X n below,Below w.heap.size w X->∀m,Calls Tryz.prog 127 #[.slice p a.length c,.slice q b.length d,.string n,.int .i64 s,.bool below] (X.drewN m) fun e w'=>e=.returned (.bool (D_ a b s n below))/\w'=X.drewN m):=fun X n below hX m=>
  (Tw (O:=O) ((ha.below hO hX).carry (O':=O) (w':=X.drewN m) fun k hk=>⟨hk,rfl⟩) ((hb.below hO hX).carry (O':=O) (w':=X.drewN m) fun k hk=>⟨hk,rfl⟩) uz xC n s below).mono fun e w' h=>⟨h.1,h.2.symm⟩
 obtain⟨ab,jQ⟩:∃ab,a++b=ab:=⟨_,rfl⟩;obtain⟨na,Ep⟩:∃n,a.length=n:=⟨_,rfl⟩;obtain⟨nb,CO⟩:∃n,b.length=n:=⟨_,rfl⟩;have Jy:Hid (a.length=na):=Ep;have Xj:Hid (b.length=nb):=CO;have HA:Hid (∀X,Below w.heap.size w X->ib O X p c a):=fun X hX=>ha.below hO hX;have HB:Hid (∀X,Below w.heap.size w X->ib O X q d b):=fun X hX=>hb.below hO hX;have HZ:Hid (na<=100000/\nb<=100000):=⟨by have:=uz.1;omega,by have:=xC.1;omega⟩;have HAB:Hid (a++b=ab):=jQ;have zjY:Hid (ab.length=na+nb):=by show _=_;rw[<-jQ,List.length_append,Ep,CO]
 obtain⟨n,hn⟩:∃n,ab.length=n:=⟨_,rfl⟩;have HN:Hid (ab.length=n):=hn;have Qb:Hid ((a++b).length=n):=by show _=_;rw[jQ];exact hn
 clear hn;rw[Ep,CO]at HMy ⊢;rw[jQ];clear Ep CO jQ ha hb uz xC;have bM:Below w.heap.size w (w.alloc (.cells #[] 109)):=(Below.refl _ _).alloc (Nat.le_refl _) _;have uM:=HA.out _ bM;have Fv:=Tx (w:=w);go_enter Tryz.func97,Tryz.ntmps97
 go_upto_region 2 with(first
  | (have _h:=kZ;refine bT rfl _ _ rfl w.heap.size _ a rfl Ty zfU (by rw[Xj.out];rfl) (by rw[Jy.out];have:=HZ.out;omega) (by rw[Xj.out];have:=HZ.out;omega) aL.size ?_
     intro v2 w2 fe pU;have aY:Below w.heap.size w w2:=aL.grown pU aL.size (fun k e=>(Ty.lt k e).1);obtain⟨pr,cr,eZ,zfV⟩:=qW fe;rw[Qb.out]at eZ;subst eZ;clear fe pU)
  | (refine bT rfl _ _ rfl w.heap.size _ [] rfl Fv uM (by rw[Jy.out];rfl) (by simp) (by rw[Jy.out];have:=HZ.out;omega) bM.size ?_
     intro v1 w1 Ty QE;have kZ:True:=trivial;have aL:Below w.heap.size w w1:=bM.grown QE bM.size (fun k e=>(Fv.lt k e).1);have zfU:=HB.out _ aL;clear QE))
 have xI:Hid (ib (fun k=>w.heap.size<=k/\k<w2.heap.size) w2 pr cr ab):=by show ib _ _ _ _ _;rw[<-HAB.out];exact zfV
 have hcr:=xI.out.1.1;rw[HN.out]at hcr;have ES:n<=200000:=by have:=zjY.out;have:=HN.out;have:=HZ.out;omega
 clear zfV uM zfU Fv Ty bM kZ;go_wp2
 go_loopw [12] (fun i wr=>∃k:Nat,i=.int .i64 k/\k<=n/\jN a b pQ s us (ab.take k)=true/\Below w2.heap.size w2 wr) (fun i _=>n - (intOf i).toNat)
 case atStart=>exact⟨0,rfl,Nat.zero_le _,rfl,Below.refl _ _⟩
 case round=>
  obtain⟨k,rfl,hk,jv,ed⟩:=hrel
  by_cases mW:k<n
  ·have eQ:k<ab.length:=by rw[HN.out];exact mW
   obtain⟨rb,ro,rfl,hrb,h1,_⟩:=xI.out.at eQ;have ED:=(ed.cell (p:=⟨rb,ro+k*2,none⟩) hrb.2).trans h1;have HT:Hid (jN a b pQ s us (ab.take (k+1))=D_ a b s (ab.getD k zN).1 (us&& !((ab.getD k zN).1.toList==pQ.toList))):=by
    show _=_
    unfold jN at jv ⊢;rw[PO eQ,jv,Bool.true_and]
   have HE:Hid (D_ a b s (ab.getD k zN).1 (us&& !((ab.getD k zN).1.toList==pQ.toList))=false->jN a b pQ s us ab=false):=fun h=>by
    unfold jN;exact Tv eQ h
   generalize ab.getD k zN=x at ED HT HE;obtain⟨xn,xl⟩:=x;simp only at ED HT HE;have dM:=ag aY ed;have HQ:=(show Hid _ from HMy.out wr xn (us&& !(xn.toList==pQ.toList)) dM);have zmj:rb<wr.heap.size:=Nat.lt_of_lt_of_le hrb.2 ed.size;have AJ:∀(wx:World) (m:Nat),Below w2.heap.size w2 wx->Below w2.heap.size w2 (wx.drewN m):=fun wx m h=>⟨h.os,h.tape,h.output,h.size,h.block⟩;clear h1 jv;generalize JD:D_ a b s xn (us&& !(xn.toList==pQ.toList))=mv at HQ HT HE;clear JD
   cases us with
   | false=>
    simp only[Bool.false_and]at HQ
    cases mv with
    | true=>
     go_wp2_with fail;go_quiet ((go_at_call 127;exact(HQ.out _).mono fun _ _ h=>⟨h.1,_,h.2⟩));go_wp2_with fail;go_roundw
     case rel=>exact⟨k+1,by simp,by omega,HT.out,AJ _ _ ed⟩
     case measure=>simp[intOf];omega
    | false=>
     go_wp2_with fail;go_quiet ((go_at_call 127;exact(HQ.out _).mono fun _ _ h=>⟨h.1,_,h.2⟩));go_wp2_with fail;go_ret;exact⟨by rw[HE.out (by first| rfl| trivial)];rfl,ag aY (AJ _ _ ed)⟩
   | true=>
    cases he:(xn.toList==pQ.toList)with
    | true=>
     rw[he]at HQ;simp only[Bool.not_true,Bool.and_false]at HQ
     cases mv with
     | true=>
      go_wp2_with fail;go_quiet ((go_at_call 127;exact(HQ.out _).mono fun _ _ h=>⟨h.1,_,h.2⟩));go_wp2_with fail;go_roundw
      case rel=>exact⟨k+1,by simp,by omega,HT.out,AJ _ _ ed⟩
      case measure=>simp[intOf];omega
     | false=>
      go_wp2_with fail;go_quiet ((go_at_call 127;exact(HQ.out _).mono fun _ _ h=>⟨h.1,_,h.2⟩));go_wp2_with fail;go_ret;exact⟨by rw[HE.out (by first| rfl| trivial)];rfl,ag aY (AJ _ _ ed)⟩
    | false=>
     rw[he]at HQ;simp only[Bool.not_false,Bool.and_true]at HQ
     cases mv with
     | true=>
      go_wp2_with fail;go_quiet ((go_at_call 127;exact(HQ.out _).mono fun _ _ h=>⟨h.1,_,h.2⟩));go_wp2_with fail;go_roundw
      case rel=>exact⟨k+1,by simp,by omega,HT.out,AJ _ _ ed⟩
      case measure=>simp[intOf];omega
     | false=>
      go_wp2_with fail;go_quiet ((go_at_call 127;exact(HQ.out _).mono fun _ _ h=>⟨h.1,_,h.2⟩));go_wp2_with fail;go_ret;exact⟨by rw[HE.out (by first| rfl| trivial)];rfl,ag aY (AJ _ _ ed)⟩
  ·obtain rfl:k=n:=by omega
   have uK:Hid (jN a b pQ s us ab=true):=by show _=_;rw[<-jv,<-HN.out,List.take_length]
   clear jv;go_wp2;go_ret;exact⟨by rw[uK.out];rfl,ag aY ed⟩
def n7(l:Lv):List Int:= [l.nN,l.h_,l.dA,l.fM,l.state,l.events,l.iB]
theorem vo{w:World}{l:Lv}{p:Pl}:
    Calls Tryz.prog 96 #[fA l p] w fun e w'=>(∃b,e=.returned (.slice (some ⟨b,0,none⟩) 7 7)/\w'.heap[b]?=some (.cells ((n7 l).map (Value.int .i64)).toArray 2 (0,0)))/\Below w.heap.size w w':=by
 obtain⟨nN,h_,dA,fM,state,events,iB,us,ty⟩:=l;obtain⟨pu,cu,pt,ct⟩:=p;simp only[fA,aG];go_enter Tryz.func96,Tryz.ntmps96;go_wp2;go_ret;refine⟨⟨_,rfl, ?_⟩,((Below.refl _ _).alloc (Nat.le_refl _) _).alloc (by simp) _⟩;exact(mJ (w:=w) (.cells #[.int .i64 nN,.int .i64 h_,.int .i64 dA,.int .i64 fM,.int .i64 state,.int .i64 events,.int .i64 iB,.slice pu us.length cu,.slice pt ty.length ct] 47) (.cells #[.int .i64 nN,.int .i64 h_,.int .i64 dA,.int .i64 fM,.int .i64 state,.int .i64 events,.int .i64 iB] 2)).2
theorem vv{O:Nat->Prop}{w:World}{l:Lv}{p:Pl}(h:qV O w l p)(hO:∀k,O k->k<w.heap.size)(hz:zy l)(s:ByteArray):
    Calls Tryz.prog 22 #[fA l p,.string s] w fun e w'=>e=.returned (.int .i64 (pY l s))/\Below w.heap.size w w':=by
 have hb:Below w.heap.size w (w.alloc (.cells (aG l p).toArray 47)):=(Below.refl _ _).alloc (Nat.le_refl _) _;have hf:=ry (h.us.below hO hb) hz.us s;have HB:Hid (Below w.heap.size w (w.alloc (.cells (aG l p).toArray 47))):=hb;unfold pY;generalize fnd l.dP s=o at hf;obtain⟨nN,h_,dA,fM,state,events,iB,us,ty⟩:=l;obtain⟨pu,cu,pt,ct⟩:=p;simp only[fA,aG]at hf hb ⊢;clear h hz hb
 cases o with
 | none=>
  go_enter Tryz.func22,Tryz.ntmps22;go_wp2_with(go_at_call 48;refine hf.mono ?_;rintro e w1 ⟨rfl,rfl⟩);go_ret;exact⟨rfl,HB.out⟩
 | some y=>
  go_enter Tryz.func22,Tryz.ntmps22;go_wp2_with(go_at_call 48;refine hf.mono ?_;rintro e w1 ⟨rfl,rfl⟩);go_ret;exact⟨rfl,HB.out⟩
def kN(s:Int)(x y:Int):Bool:= !(x==y)&&(decide (s<x) || decide (s<y))
def sj(s:Int)(a b:List Int):Bool:= !(a.zip b).any fun q=>kN s q.1 q.2
def GU(a b:Lv)(u:ByteArray):Bool:=sj (pY a u) (n7 a) (n7 b)&&(jN a.dQ b.dQ ⟨#[]⟩ (pY a u) false (a.dQ++b.dQ)&&jN a.dP b.dP u (pY a u) true (a.dP++b.dP))
theorem L6{s:Int}{a b:List Int}{k:Nat}(hk:k<a.length)(hl:a.length=b.length):((a.zip b).take (k+1)).any (fun q=>kN s q.1 q.2)=(((a.zip b).take k).any (fun q=>kN s q.1 q.2) || kN s (a.getD k 0) (b.getD k 0)):=by
 have hz:k<(a.zip b).length:=by rw[List.length_zip];omega
 rw[jZ (z:=(0,0)) hz,List.any_append];simp only[List.any_cons,List.any_nil,Bool.or_false];rw[List.getD_eq_getElem?_getD,List.getElem?_eq_getElem hz,List.getD_eq_getElem?_getD,List.getElem?_eq_getElem hk,List.getD_eq_getElem?_getD,List.getElem?_eq_getElem (by omega:k<b.length)];simp
theorem Tz{w:World}{b:Nat}{l:List Int}(h:w.heap[b]?=some (.cells (l.map (Value.int .i64)).toArray 2 (0,0))){k:Nat}(hk:k<l.length):w.cell? ⟨b,k,none⟩=some (.int .i64 (l.getD k 0)):=by
 refine ai h k _ ?_;rw[List.getElem?_toArray,List.getElem?_map,List.getElem?_eq_getElem hk,List.getD_eq_getElem?_getD,List.getElem?_eq_getElem hk]
 rfl
theorem Ws{O:Nat->Prop}{w:World}{a b:Lv}{pa pb:Pl}(ha:qV O w a pa)(hb:qV O w b pb)(hO:∀k,O k->k<w.heap.size)(uz:zy a)(xC:zy b)(u:ByteArray):
    Calls Tryz.prog 64 #[fA a pa,fA b pb,.string u] w fun e w'=>e=.returned (.bool (GU a b u))/\Below w.heap.size w w':=by
 obtain⟨W0,cO⟩:∃W0,W0=(w.alloc (.cells (aG a pa).toArray 47)).alloc (.cells (aG b pb).toArray 47):=⟨_,rfl⟩;have cK:Below w.heap.size w W0:=by rw[cO];exact((Below.refl _ _).alloc (Nat.le_refl _) _).alloc (by simp) _
 have Zb:w.heap.size+2<=W0.heap.size:=by rw[cO];simp
 have OO:=mJ (w:=w) (.cells (aG a pa).toArray 47) (.cells (aG b pb).toArray 47);rw[<-cO]at OO;have hU:=vv (ha.below hO cK) (fun k hk=>Nat.lt_of_lt_of_le (hO k hk) cK.size) uz u;have oQ:Hid (GU a b u=(sj (pY a u) (n7 a) (n7 b)&&(jN a.dQ b.dQ ⟨#[]⟩ (pY a u) false (a.dQ++b.dQ)&&jN a.dP b.dP u (pY a u) true (a.dP++b.dP)))):=rfl;have HT:Hid (∀X,Below w.heap.size w X->Calls Tryz.prog 97 #[.slice pa.pt a.dQ.length pa.ct,.slice pb.pt b.dQ.length pb.ct,.string ⟨#[]⟩,.int .i64 (pY a u),.bool false] X fun e w'=>e=.returned (.bool (jN a.dQ b.dQ ⟨#[]⟩ (pY a u) false (a.dQ++b.dQ)))/\Below X.heap.size X w'):=fun X hX=>GR (ha.ty.below hO hX) (hb.ty.below hO hX) (fun k hk=>Nat.lt_of_lt_of_le (hO k hk) hX.size) uz.ty xC.ty _ _ _;have HUs:Hid (∀X,Below w.heap.size w X->Calls Tryz.prog 97 #[.slice pa.pu a.dP.length pa.cu,.slice pb.pu b.dP.length pb.cu,.string u,.int .i64 (pY a u),.bool true] X fun e w'=>e=.returned (.bool (jN a.dP b.dP u (pY a u) true (a.dP++b.dP)))/\Below X.heap.size X w'):=fun X hX=>GR (ha.us.below hO hX) (hb.us.below hO hX) (fun k hk=>Nat.lt_of_lt_of_le (hO k hk) hX.size) uz.us xC.us _ _ _;generalize jN a.dQ b.dQ ⟨#[]⟩ (pY a u) false (a.dQ++b.dQ)=OT at oQ HT;generalize jN a.dP b.dP u (pY a u) true (a.dP++b.dP)=OU at oQ HUs;generalize GU a b u=MAY at oQ ⊢;generalize pY a u=s at hU oQ HT HUs;have Xq:Hid (∀X:World,Calls Tryz.prog 96 #[fA a pa] X fun e w'=>(∃b,e=.returned (.slice (some ⟨b,0,none⟩) 7 7)/\w'.heap[b]?=some (.cells ((n7 a).map (Value.int .i64)).toArray 2 (0,0)))/\Below X.heap.size X w'):=fun X=>vo;have Qb:Hid (∀X:World,Calls Tryz.prog 96 #[fA b pb] X fun e w'=>(∃b',e=.returned (.slice (some ⟨b',0,none⟩) 7 7)/\w'.heap[b']?=some (.cells ((n7 b).map (Value.int .i64)).toArray 2 (0,0)))/\Below X.heap.size X w'):=fun X=>vo;have Wu:Hid ((n7 a).length=7/\(n7 b).length=7):=⟨rfl,rfl⟩;have HK:Hid (∀X,Below W0.heap.size W0 X->X.heap[w.heap.size]?=some (.cells (aG a pa).toArray 47 (0,0))/\X.heap[w.heap.size+1]?=some (.cells (aG b pb).toArray 47 (0,0))):=fun X hX=>⟨(hX.block _ (by omega)).trans OO.1,(hX.block _ (by omega)).trans OO.2⟩;generalize n7 a=NA at oQ Xq Wu;generalize n7 b=NB at oQ Qb Wu;obtain⟨nN,h_,dA,fM,state,events,iB,us,ty⟩:=a;obtain⟨pu,cu,pt,ct⟩:=pa;obtain⟨Zc,RD,Dj,Dk,JN,Dl,JO,us',ty'⟩:=b;obtain⟨pu',cu',pt',ct'⟩:=pb;clear ha hb uz xC OO hO;simp only[fA,aG]at cO hU HK Xq Qb HT HUs ⊢;go_enter Tryz.func64,Tryz.ntmps64
 go_upto_region 1 with fail
 rw[<-cO];obtain⟨q0,q1⟩:=HK.out W0 (Below.refl _ _);have c0:=ai q0 0 _ rfl;have c1:=ai q0 1 _ rfl;have c2:=ai q0 2 _ rfl;have c3:=ai q0 3 _ rfl;have c4:=ai q0 4 _ rfl;have c5:=ai q0 5 _ rfl;have c6:=ai q0 6 _ rfl;have c7:=ai q0 7 _ rfl;have c8:=ai q0 8 _ rfl;clear q0 q1 cO
 go_upto_region 2 with(go_at_call 22;refine hU.mono ?_;rintro e W2 ⟨rfl,aY⟩)
 clear c0 c1 c2 c3 c4 c5 c6 c7 c8 hU;have Xk:Hid (∀X,Below W2.heap.size W2 X->X.heap[w.heap.size]?=some (.cells #[.int .i64 nN,.int .i64 h_,.int .i64 dA,.int .i64 fM,.int .i64 state,.int .i64 events,.int .i64 iB,.slice pu us.length cu,.slice pt ty.length ct] 47 (0,0))):=fun X hX=>(HK.out X (ag aY hX)).1;have pq:Hid (∀X,Below W2.heap.size W2 X->X.heap[w.heap.size+1]?=some (.cells #[.int .i64 Zc,.int .i64 RD,.int .i64 Dj,.int .i64 Dk,.int .i64 JN,.int .i64 Dl,.int .i64 JO,.slice pu' us'.length cu',.slice pt' ty'.length ct'] 47 (0,0))):=fun X hX=>(HK.out X (ag aY hX)).2;refine Ch ?_;refine aI (by kernel_rfl) (fun w'=>Below W2.heap.size W2 w') ?_;change wpIn _ _ _ _ _ _ _ _ (World.drew _);have hD:Below W2.heap.size W2 W2.drew:=(Below.refl _ _).drew;refine aC (i:=0) (d:=some 14) rfl (by(intro wq hq;have zz:=Xk.out wq hq;have z0:=ai zz 0 _ rfl;have z1:=ai zz 1 _ rfl;have z2:=ai zz 2 _ rfl;have z3:=ai zz 3 _ rfl;have z4:=ai zz 4 _ rfl;have z5:=ai zz 5 _ rfl;have z6:=ai zz 6 _ rfl;have z7:=ai zz 7 _ rfl;have z8:=ai zz 8 _ rfl;go_simp;first| done| with_reducible rfl)) ?_;refine aC (i:=2) (d:=some 16) rfl (by(intro wq hq;have zz:=pq.out wq hq;have z0:=ai zz 0 _ rfl;have z1:=ai zz 1 _ rfl;have z2:=ai zz 2 _ rfl;have z3:=ai zz 3 _ rfl;have z4:=ai zz 4 _ rfl;have z5:=ai zz 5 _ rfl;have z6:=ai zz 6 _ rfl;have z7:=ai zz 7 _ rfl;have z8:=ai zz 8 _ rfl;go_simp;first| done| with_reducible rfl)) ?_;refine ax (i:=1) hD rfl ?_;intro K hK;go_simp;go_wp2_with(go_at_call 96;refine(Xq.out _).mono ?_;rintro e w3 ⟨⟨b3,rfl,Vl⟩,df⟩);have uL:Below W2.heap.size W2 w3:=ag hD df;refine ax (i:=3) uL rfl ?_;intro K hK;go_simp;go_wp2_with(go_at_call 96;refine(Qb.out _).mono ?_;rintro e w4 ⟨⟨b4,rfl,zO⟩,dF⟩);have RF:Below W2.heap.size W2 w4:=ag uL dF;refine aa (i:=4) (d:=some 8) rfl ?_;refine aa (i:=5) (d:=some 9) rfl ?_;refine aH RF (by kernel_rfl) ?_ _;have zfW:=aP Vl;have zcQ:=(dF.block b3 zfW).trans Vl;have HR3:=(show Hid _ from zcQ);have Hw:=(show Hid _ from zO);have rF:=aP zO;have XT:=aP zcQ;have bX:Hid (Below w.heap.size w w4):=ag cK (ag aY RF);have HB0:Hid (Below W0.heap.size W0 w4):=ag aY RF;clear Vl zcQ zO hD uL df dF zfW Xq Qb Xk pq;go_wp2
 go_loopw [10] (fun i wr=>∃k:Nat,i=.int .i64 k/\k<=7/\Hid (((NA.zip NB).take k).any (fun q=>kN s q.1 q.2)=false)/\Below w4.heap.size w4 wr) (fun i _=>7 - (intOf i).toNat)
 case atStart=>exact⟨0,rfl,by omega,rfl,Below.refl _ _⟩
 case round=>
  obtain⟨k,rfl,hk,PX,ed⟩:=hrel;have AJ:∀(wx:World) (m:Nat),Below w4.heap.size w4 wx->Below w4.heap.size w4 (wx.drewN m):=fun wx m h=>⟨h.os,h.tape,h.output,h.size,h.block⟩
  by_cases mW:k<7
  ·have x3:=Tz ((ed.block b3 XT).trans HR3.out) (k:=k) (by rw[Wu.out.1];exact mW);have x4:=Tz ((ed.block b4 rF).trans Hw.out) (k:=k) (by rw[Wu.out.2];exact mW);have HTk:Hid (((NA.zip NB).take (k+1)).any (fun q=>kN s q.1 q.2)=kN s (NA.getD k 0) (NB.getD k 0)):=by
    show _=_
    rw[L6 (by rw[Wu.out.1];exact mW) (by rw[Wu.out.1,Wu.out.2]),PX.out,Bool.false_or]
   have HEk:Hid (kN s (NA.getD k 0) (NB.getD k 0)=true->sj s NA NB=false):=fun h=>by
    unfold sj;rw[Bool.not_eq_false'];have:=HTk.out;rw[h]at this;obtain⟨x,hx,PZ⟩:=List.any_eq_true.1 this;exact List.any_eq_true.2 ⟨x,List.mem_of_mem_take hx,PZ⟩
   generalize NA.getD k 0=x at x3 HTk HEk;generalize NB.getD k 0=y at x4 HTk HEk;have hl3:b3<wr.heap.size:=Nat.lt_of_lt_of_le XT ed.size;have hl4:b4<wr.heap.size:=Nat.lt_of_lt_of_le rF ed.size
   by_cases yn:x=y
   ·have hbq:(x==y)=true:=by simpa using yn
    have HTf:Hid (kN s x y=false):=by show _=_;simp[kN,yn]
    clear PX;subst yn;go_wp2_with fail;go_quiet (fail);go_wp2_with fail;go_roundw
    case rel=>exact⟨k+1,by simp,by omega,by show _=_;rw[HTk.out,HTf.out],AJ _ _ ed⟩
    case measure=>simp[intOf];omega
   ·have hbq:(x==y)=false:=by simpa using yn
    by_cases hsx:s<x
    ·have HTf:Hid (sj s NA NB=false):=HEk.out (by simp[kN,yn,hsx]);have hdx:decide (x>s)=true:=by simpa using hsx
     clear PX;go_wp2_with fail;go_quiet (fail);go_wp2_with fail;go_ret;exact⟨by rw[oQ.out,HTf.out];rfl,ag bX.out (AJ _ _ ed)⟩
    ·by_cases hsy:s<y
     ·have HTf:Hid (sj s NA NB=false):=HEk.out (by simp[kN,yn,hsy]);clear PX;go_wp2_with fail;go_quiet (fail);go_wp2_with fail;go_ret;exact⟨by rw[oQ.out,HTf.out];rfl,ag bX.out (AJ _ _ ed)⟩
     ·have HTf:Hid (kN s x y=false):=by show _=_;simp[kN,hsx,hsy]
      clear PX;go_wp2_with fail;go_quiet (fail);go_wp2_with fail;go_roundw
      case rel=>exact⟨k+1,by simp,by omega,by show _=_;rw[HTk.out,HTf.out],AJ _ _ ed⟩
      case measure=>simp[intOf];omega
  ·obtain rfl:k=7:=by omega
   have Ug:Hid (sj s NA NB=true):=by
    show _=_
    unfold sj;have:=PX.out;rw[List.take_of_length_le (by rw[List.length_zip,Wu.out.1,Wu.out.2];omega)]at this;rw[this];rfl
   clear PX;obtain⟨e0,e1⟩:=HK.out wr (ag HB0.out ed);have c7:=ai e0 7 _ rfl;have c8:=ai e0 8 _ rfl;have d7:=ai e1 7 _ rfl;have d8:=ai e1 8 _ rfl;have hT:=HT.out wr (ag bX.out ed);clear e0 e1
   cases OT with
   | false=>
    go_wp2_with(go_at_call 97;refine hT.mono ?_;rintro e w6 ⟨rfl,jy⟩);go_ret;exact⟨by rw[oQ.out,Ug.out];rfl,ag bX.out (ag ed jy)⟩
   | true=>
    go_wp2_with(first
     | (have _h:=kZ;go_at_call 97;refine hU2.mono ?_;rintro e w7 ⟨rfl,vI⟩)
     | (go_at_call 97;refine hT.mono ?_;rintro e w6 ⟨rfl,jy⟩
        have kZ:True:=trivial;obtain⟨e0,e1⟩:=HK.out w6 (ag HB0.out (ag ed jy));clear c7 c8 d7 d8;have c7:=ai e0 7 _ rfl;have d7:=ai e1 7 _ rfl;have hU2:=HUs.out w6 (ag bX.out (ag ed jy));clear e0 e1))
    go_ret;exact⟨by rw[oQ.out,Ug.out];rfl,ag bX.out (ag ed (ag jy vI))⟩
theorem TA{O:Nat->Prop}{w:World}{l:Lv}{p:Pl}(h:qV O w l p)(hO:∀k,O k->k<w.heap.size)(hz:zy l)(s:ByteArray)(st:Bool):
    Calls Tryz.prog 63 #[fA l p,.string s,.bool st] w fun e w'=>e=.returned (.int .i64 (pg l s st))/\Below w.heap.size w w':=by
 have hb:Below w.heap.size w (w.alloc (.cells (aG l p).toArray 47)):=(Below.refl _ _).alloc (Nat.le_refl _) _;have hf:=ry (h.ty.below hO hb) hz.ty s;have HB:Hid (Below w.heap.size w (w.alloc (.cells (aG l p).toArray 47))):=hb;unfold pg;generalize fnd l.dQ s=o at hf;obtain⟨nN,h_,dA,fM,state,events,iB,us,ty⟩:=l;obtain⟨pu,cu,pt,ct⟩:=p;simp only[fA,aG]at hf hb ⊢;clear h hz hb
 cases o with
 | none=>
  cases st
  all_goals
   go_enter Tryz.func63,Tryz.ntmps63;go_wp2_with(go_at_call 48;refine hf.mono ?_;rintro e w1 ⟨rfl,rfl⟩);go_ret;exact⟨rfl,HB.out⟩
 | some y=>
  cases st
  all_goals
   go_enter Tryz.func63,Tryz.ntmps63;go_wp2_with(go_at_call 48;refine hf.mono ?_;rintro e w1 ⟨rfl,rfl⟩);go_ret;exact⟨rfl,HB.out⟩
theorem PQ{w:World}(s:ByteArray):
    Calls Tryz.prog 47 #[.string s] w fun e w'=>(∃p,e=.returned (fA (jJ s) p)/\qV (fun b=>w.heap.size<=b/\b<w'.heap.size) w' (jJ s) p)/\Below w.heap.size w w':=by
 go_enter Tryz.func47,Tryz.ntmps47;go_wp2;obtain⟨W,hW⟩:∃W,W=((w.alloc (.cells #[.int .i64 50,.int .i64 50,.int .i64 0,.int .i64 50,.int .i64 0,.int .i64 0,.int .i64 0,.slice (some ⟨w.heap.size+1,0,none⟩) 1 1,.slice none 0 0] 47)).alloc (.cells #[.string s,.int .i64 100] 109)):=⟨_,rfl⟩;have hB:Below w.heap.size w W:=by rw[hW];exact((Below.refl _ _).alloc (Nat.le_refl _) _).alloc (by simp) _
 have OO:=mJ (w:=w) (.cells #[.int .i64 50,.int .i64 50,.int .i64 0,.int .i64 50,.int .i64 0,.int .i64 0,.int .i64 0,.slice (some ⟨w.heap.size+1,0,none⟩) 1 1,.slice none 0 0] 47) (.cells #[.string s,.int .i64 100] 109);rw[<-hW]at OO ⊢;refine bodyPost_ret (gY rfl _ _ _ rfl (iM OO.1)) rfl ?_;have bQ:=aP OO.2;exact⟨⟨⟨some ⟨w.heap.size+1,0,none⟩,1,none,0⟩,rfl,jI (l:= [(s,100)]) ⟨by simp,bQ⟩ OO.2,ib.nil _ _ _ _ fun _=>rfl⟩,hB⟩
open Go.RowKit
def rlevT(l:List Kn):Lv×Bool:=match aW l bF ⟨#[]⟩with
 | some k=>((bY k.2.content).1,decide ((bY k.2.content).2=0))
 | none=>(jJ ((aW l aV ⟨#[]⟩).getD zK).2.ah,true)
def CE(w w':World)(r:Lv×Bool)(x:Ending):Prop:=(∃q,x=.returned (.tuple #[fA r.1 q,.bool r.2])/\qV (fun b=>w.heap.size<=b/\b<w'.heap.size) w' r.1 q)/\Below w.heap.size w w'
theorem Aw(c:J):(bY c).2=0\/ (bY c).2=1:=by rw[<-lU];exact vX _
theorem GV{O:Nat->Prop}{w:World}{p:Option Addr}{c:Nat}{l:List Kn}(h:pM O w p c l)(hO:∀b,O b->b<w.heap.size)(hz:FE l):
    Calls Tryz.prog 20 #[.slice p l.length c] w fun x w'=>CE w w' (rlevT l) x:=by
 obtain⟨W0,cO⟩:∃W0,W0=w.alloc (.cells #[.int .i64 0,.int .i64 0,.int .i64 0,.int .i64 0,.int .i64 0,.int .i64 0,.int .i64 0,.slice none 0 0,.slice none 0 0] 47):=⟨_,rfl⟩;have cK:Below w.heap.size w W0:=by rw[cO];exact(Below.refl _ _).alloc (Nat.le_refl _) _
 have JP:W0.heap[w.heap.size]?=some (.cells #[.int .i64 0,.int .i64 0,.int .i64 0,.int .i64 0,.int .i64 0,.int .i64 0,.int .i64 0,.slice none 0 0,.slice none 0 0] 47 (0,0)):=by rw[cO];exact bz _
 have xB:Hid (w.heap.size+1<=W0.heap.size):=by show _<=_;rw[cO];simp
 have h0:pM O W0 p c l:=h.carry fun k hk=>⟨hk,cK.block k (hO k hk)⟩;have hO0:∀b,O b->b<W0.heap.size:=fun b hb=>Nat.lt_of_lt_of_le (hO b hb) cK.size;have hF:=vZ h0 hO0 hz.len bF ⟨#[]⟩;have HC:Hid (∀X,Below W0.heap.size W0 X->Calls Tryz.prog 21 #[.slice p l.length c,.string aV,.string ⟨#[]⟩] X fun e w'=>(∃q,e=.returned (.tuple #[.agg (az ((aW l aV ⟨#[]⟩).getD zK) q).toArray,.bool (aW l aV ⟨#[]⟩).isSome])/\ji O w' ((aW l aV ⟨#[]⟩).getD zK).2 q)/\Below X.heap.size X w'):=fun X hX=>nR (h0.carry fun k hk=>⟨hk,hX.block k (hO0 k hk)⟩) (fun b hb=>Nat.lt_of_lt_of_le (hO0 b hb) hX.size) hz.len aV ⟨#[]⟩;have Xt:Hid (∀X,Below W0.heap.size W0 X->X.heap[w.heap.size]?=some (.cells #[.int .i64 0,.int .i64 0,.int .i64 0,.int .i64 0,.int .i64 0,.int .i64 0,.int .i64 0,.slice none 0 0,.slice none 0 0] 47 (0,0))):=fun X hX=>(hX.block _ (aP JP)).trans JP;have HSP:Hid (szJ 13 ((aW l bF ⟨#[]⟩).getD zK).2.content=true):=yD hz bF ⟨#[]⟩;unfold rlevT;clear h h0 JP hz;generalize aW l bF ⟨#[]⟩=f at hF HSP
 cases f with
 | none=>
  have Zj:Calls Tryz.prog 21 #[.slice p l.length c,.string bF,.string ⟨#[]⟩] W0 fun e w'=>e=.returned (.tuple #[.agg (az zK Pt.zero).toArray,.bool false])/\Below W0.heap.size W0 w':=hF;clear hF HSP;generalize (aW l aV ⟨#[]⟩).isSome=cb at HC;generalize (aW l aV ⟨#[]⟩).getD zK=cr at HC ⊢;go_enter Tryz.func20,Tryz.ntmps20
  go_upto_region 1 with fail
  rw[<-cO];clear cO
  go_upto_region 5 with(first
   | (go_at_call 21;refine Zj.mono ?_;rintro x w1 ⟨rfl,aL⟩)
   | (refine wpList_store_row rfl 41 _ _ rfl w1.heap.size 41 _ (az zK Pt.zero).toArray rfl rfl (bz _) gV rfl (iW zK Pt.zero) ?_))
  have bM:Below w1.heap.size w1 ((w1.alloc (.cells (az zK Pt.zero).toArray 41)).setRow w1.heap.size (az zK Pt.zero).toArray):=
   ((Below.refl _ _).alloc (Nat.le_refl _) _).trans ((aX _ w1.heap.size _).below (by simp) fun q hq e=>by unfold aJ at e;omega)
  change Code.wp _ _ _ _ ((w1.alloc (.cells (az zK Pt.zero).toArray 41)).setRow w1.heap.size (az zK Pt.zero).toArray);generalize (w1.alloc (.cells (az zK Pt.zero).toArray 41)).setRow w1.heap.size (az zK Pt.zero).toArray=W1 at bM;have tQ:=ag aL bM
  go_upto_region 6 with(first
   | (go_at_call 21;refine(HC.out _ tQ).mono ?_;rintro x w2 ⟨⟨q,rfl,hq⟩,aY⟩)
   | (refine wpList_store_row rfl 41 _ _ rfl w2.heap.size 41 _ (az cr q).toArray rfl rfl (bz _) gV rfl (iW cr q) ?_))
  have XU:Below w2.heap.size w2 ((w2.alloc (.cells (az zK Pt.zero).toArray 41)).setRow w2.heap.size (az cr q).toArray):=
   ((Below.refl _ _).alloc (Nat.le_refl _) _).trans ((aX _ w2.heap.size _).below (by simp) fun q hq e=>by unfold aJ at e;omega)
  have hX:((w2.alloc (.cells (az zK Pt.zero).toArray 41)).setRow w2.heap.size (az cr q).toArray).heap[w2.heap.size]?=some (.cells (az cr q).toArray 41 (0,0)):=setRow_heap _ _ _ _ _ _ (bz _);change Code.wp _ _ _ _ ((w2.alloc (.cells (az zK Pt.zero).toArray 41)).setRow w2.heap.size (az cr q).toArray);generalize (w2.alloc (.cells (az zK Pt.zero).toArray 41)).setRow w2.heap.size (az cr q).toArray=W2 at XU hX;have ko:=ag tQ (ag aY XU);have es:W2.cell? ⟨w2.heap.size,3,none⟩=some (.string cr.2.ah):=ai hX 3 _ rfl;have hS:=PQ (w:=W2) cr.2.ah;have yc:Hid (∀X,Below W2.heap.size W2 X->X.heap[w.heap.size]?=some (.cells #[.int .i64 0,.int .i64 0,.int .i64 0,.int .i64 0,.int .i64 0,.int .i64 0,.int .i64 0,.slice none 0 0,.slice none 0 0] 47 (0,0))):=fun X hX=>Xt.out X (ag ko hX);obtain⟨L,HL⟩:∃L,Hid (jJ cr.2.ah=L):=⟨_,rfl⟩;rw[HL.out]at hS;unfold fA at hS;go_wp2_with(first
   | (go_at_call 47;refine hS.mono ?_;rintro x w3 ⟨⟨r,rfl,hI⟩,df⟩;have hBX:=(show Hid _ from yc.out _ df))
   | (refine wpList_store_row rfl 47 _ _ rfl w.heap.size 47 _ (aG L r).toArray rfl rfl hBX.out iX rfl (pz L r) ?_))
  refine bodyPost_ret (aK rfl _ _ _ rfl (uR (dY (setRow_heap _ _ _ _ _ _ hBX.out)))) rfl ?_
  show CE _ _ (jJ cr.2.ah,true) _
  rw[HL.out];have ny:Below w.heap.size w w3:=ag cK (ag ko df);have RL:=aX w3 w.heap.size (aG L r).toArray;have s1:=xB.out;have s2:=ko.size;refine⟨⟨r,rfl,hI.carry fun b hb=> ?_⟩,ny.trans (RL.below ny.size fun k hk e=>by unfold aJ at e;omega)⟩;exact⟨⟨by have:=hb.1;omega,Nat.lt_of_lt_of_le hb.2 RL.size⟩,RL.block b hb.2 (by unfold aJ;have:=hb.1;omega)⟩
 | some k=>
  have Zj:Calls Tryz.prog 21 #[.slice p l.length c,.string bF,.string ⟨#[]⟩] W0 fun e w'=>(∃q,e=.returned (.tuple #[.agg (az k q).toArray,.bool true])/\ji O w' k.2 q)/\Below W0.heap.size W0 w':=hF;clear hF HC;have HE:Hid ((bY k.2.content).2=0\/ (bY k.2.content).2=1):=Aw _;go_enter Tryz.func20,Tryz.ntmps20
  go_upto_region 1 with fail
  rw[<-cO];clear cO
  go_upto_region 3 with(first
   | (go_at_call 21;refine Zj.mono ?_;rintro x w1 ⟨⟨q,rfl,hq⟩,aL⟩)
   | (refine wpList_store_row rfl 41 _ _ rfl w1.heap.size 41 _ (az k q).toArray rfl rfl (bz _) gV rfl (iW k q) ?_))
  have bM:Below w1.heap.size w1 ((w1.alloc (.cells (az zK Pt.zero).toArray 41)).setRow w1.heap.size (az k q).toArray):=
   ((Below.refl _ _).alloc (Nat.le_refl _) _).trans ((aX _ w1.heap.size _).below (by simp) fun q hq e=>by unfold aJ at e;omega)
  have hX:((w1.alloc (.cells (az zK Pt.zero).toArray 41)).setRow w1.heap.size (az k q).toArray).heap[w1.heap.size]?=some (.cells (az k q).toArray 41 (0,0)):=setRow_heap _ _ _ _ _ _ (bz _);change Code.wp _ _ _ _ ((w1.alloc (.cells (az zK Pt.zero).toArray 41)).setRow w1.heap.size (az k q).toArray);generalize (w1.alloc (.cells (az zK Pt.zero).toArray 41)).setRow w1.heap.size (az k q).toArray=W1 at bM hX;have tQ:=ag aL bM;have HR:Hid (W1.rangeAt w1.heap.size 6 [.int .i64 k.2.content.kind,.int .i64 k.2.content.int,.string k.2.content.text,.slice q.pk k.2.content.keys.length q.ck,.slice q.pl k.2.content.list.length q.cl]):=fC hX 6 rfl;have hE1:ji O W1 k.2 q:=hq.carry fun x hx=>⟨hx,bM.block x (Nat.lt_of_lt_of_le (hO0 x hx) aL.size)⟩;have hP:=Av (O:=O) (w:=W1) (c:=k.2.content) hE1.cont (fun b hb=>Nat.lt_of_lt_of_le (hO0 b hb) tQ.size) HSP.out;have yc:Hid (∀X,Below W1.heap.size W1 X->X.heap[w.heap.size]?=some (.cells #[.int .i64 0,.int .i64 0,.int .i64 0,.int .i64 0,.int .i64 0,.int .i64 0,.int .i64 0,.slice none 0 0,.slice none 0 0] 47 (0,0))):=fun X hX=>Xt.out X (ag tQ hX);clear hX hq hE1 HSP Xt;obtain⟨R,HRR⟩:∃R,Hid (bY k.2.content=R):=⟨_,rfl⟩;rw[HRR.out]at hP HE;obtain⟨L,E⟩:=R;simp only at HE;unfold qF fA at hP;simp only at hP
  go_upto_region 4 with(first
   | (refine wpList_load_mid rfl 25 _ rfl w1.heap.size 6 rfl _ _ HR.out Tryz.underlying25 rfl (by kernel_rfl) ?_)
   | (go_at_call 46;refine hP.mono ?_;rintro x w2 ⟨⟨r,rfl,hI⟩,aY⟩)
   | (refine wpList_store_row rfl 47 _ _ rfl w2.heap.size 47 _ (aG L r).toArray rfl rfl (bz _) iX rfl (pz L r) ?_))
  have XU:Below w2.heap.size w2 ((w2.alloc (.cells #[.int .i64 0,.int .i64 0,.int .i64 0,.int .i64 0,.int .i64 0,.int .i64 0,.int .i64 0,.slice none 0 0,.slice none 0 0] 47)).setRow w2.heap.size (aG L r).toArray):=
   ((Below.refl _ _).alloc (Nat.le_refl _) _).trans ((aX _ w2.heap.size _).below (by simp) fun q hq e=>by unfold aJ at e;omega)
  have hXC:((w2.alloc (.cells #[.int .i64 0,.int .i64 0,.int .i64 0,.int .i64 0,.int .i64 0,.int .i64 0,.int .i64 0,.slice none 0 0,.slice none 0 0] 47)).setRow w2.heap.size (aG L r).toArray).heap[w2.heap.size]?=some (.cells (aG L r).toArray 47 (0,0)):=setRow_heap _ _ _ _ _ _ (bz _);generalize (w2.alloc (.cells #[.int .i64 0,.int .i64 0,.int .i64 0,.int .i64 0,.int .i64 0,.int .i64 0,.int .i64 0,.slice none 0 0,.slice none 0 0] 47)).setRow w2.heap.size (aG L r).toArray=W2 at XU hXC;have Ze:Hid (W2.rangeAt w2.heap.size 0 (aG L r)):=dY hXC;have ko:=ag aY XU;have hBX:=(show Hid _ from yc.out _ ko);clear hXC yc;have fin:∀b:Bool,CE w (W2.setRow w.heap.size (aG L r).toArray) (L,b) (.returned (.tuple #[.agg (aG L r).toArray,.bool b])):=fun b=>by
   have ny:Below w.heap.size w W2:=ag cK (ag tQ ko);have RL:=aX W2 w.heap.size (aG L r).toArray;have s1:=xB.out;have s2:=tQ.size;refine⟨⟨r,rfl,hI.carry fun b hb=> ?_⟩,ny.trans (RL.below ny.size fun k hk e=>by unfold aJ at e;omega)⟩;exact⟨⟨by have:=hb.1;omega,Nat.lt_of_lt_of_le (Nat.lt_of_lt_of_le hb.2 XU.size) RL.size⟩,(RL.block b (Nat.lt_of_lt_of_le hb.2 XU.size) (by unfold aJ;have:=hb.1;omega)).trans (XU.block b hb.2)⟩
  rcases HE.out with rfl| rfl
  ·go_wp2_with(first
     | (refine wpList_load_mid rfl 47 _ rfl w2.heap.size 0 rfl (aG L r) _ Ze.out Tryz.underlying47 rfl iX ?_)
     | (refine wpList_store_row rfl 47 _ _ rfl w.heap.size 47 _ (aG L r).toArray rfl rfl hBX.out iX rfl (pz L r) ?_))
   refine bodyPost_ret (aK rfl _ _ _ rfl (uR (dY (setRow_heap _ _ _ _ _ _ hBX.out)))) rfl ?_
   show CE _ _ ((bY k.2.content).1,decide ((bY k.2.content).2=0)) _
   rw[HRR.out];exact fin true
  ·go_wp2_with(first
     | (refine wpList_load_mid rfl 47 _ rfl w2.heap.size 0 rfl (aG L r) _ Ze.out Tryz.underlying47 rfl iX ?_)
     | (refine wpList_store_row rfl 47 _ _ rfl w.heap.size 47 _ (aG L r).toArray rfl rfl hBX.out iX rfl (pz L r) ?_))
   refine bodyPost_ret (aK rfl _ _ _ rfl (uR (dY (setRow_heap _ _ _ _ _ _ hBX.out)))) rfl ?_
   show CE _ _ ((bY k.2.content).1,decide ((bY k.2.content).2=0)) _
   rw[HRR.out];exact fin false
end Go.Proofs.YtldegjjaknelgaaGreatDoor
