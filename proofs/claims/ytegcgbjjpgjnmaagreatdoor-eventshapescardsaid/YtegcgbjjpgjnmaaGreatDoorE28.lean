/- A part. -/
import Derived.Test.YtegcgbjjpgjnmaaGreatDoorE27
import Derived.Deep.Cut
import Derived.Test.YtegcgbjjpgjnmaaGreatDoorChecked
import Derived.ProofKit
import Derived.SizedLaws
import Derived.SliceStrings
import Derived.Test.YtegcgbjjpgjnmaaGreatDoorTie
import Derived.Test.YtegcgbjjpgjnmaaGreatDoorCards
import Derived.LaidMore
import Derived.OpenShut
import Derived.Stop.Joined
import Derived.Lib.LaidTab
import Derived.Lib.LaidU8T
import Derived.Lay
set_option maxRecDepth 100000
set_option maxHeartbeats 16000000
namespace Go.Proofs.YtegcgbjjpgjnmaaGreatDoor
open Go.RowKit Go.Maps
theorem JL{e:Ev}(h:CG e)(hs:aO e=true):CG (jw e):=
 ⟨h.room,h.aQ,h.ah,h.key,h.hash,MF 12 _ (qw (kV (iY hs).2.2.1).1) h.cont,h.prev,h.DX,h.aC,h.DY,h.sigs,h.A9⟩
theorem Ni{O:Nat->Prop}(e:Ev)(p:Pt)(w:World)(hE:mF O w e p)(hO:∀k,O k->k<w.heap.size)(hf:QU e):
    Calls Tryz.prog 11 #[ed e p] w fun x w'=>x=.returned (.int .i64 (gL e))/\Below w.heap.size w w':=by
 have hz:=hf.J9.sz;have ht:=hf.J9.texts;obtain⟨WB,dw⟩:∃WB,WB=w.alloc (.cells (eP e p).toArray 28):=⟨_,rfl⟩;have cK:Below w.heap.size w WB:=by rw[dw];exact(Below.refl _ _).alloc (Nat.le_refl _) _
 have lX:WB.heap[w.heap.size]?=some (.cells (eP e p).toArray 28 (0,0)):=by rw[dw];exact heap_alloc_new _ _
 have wU:w.heap.size<WB.heap.size:=by rw[dw];simp
 have hF:=Es e p WB (hE.below hO cK) (fun k hk=>Nat.lt_of_lt_of_le (hO k hk) cK.size) hz (by omega) (by omega);have ll:Hid (Below w.heap.size w WB):=cK;have HJ:Hid (aO e=true->∀W,Below WB.heap.size WB W->Calls Tryz.prog 30 #[ed e p] W fun x w'=>(∃kr ir tr pr nr cr qr mr dr,x=.returned (.agg #[.int .i64 kr,.int .i64 ir,.string tr,.slice pr nr cr,.slice qr mr dr])/\Calls Tryz.prog 29 #[.agg #[.int .i64 kr,.int .i64 ir,.string tr,.slice pr nr cr,.slice qr mr dr]] w' fun y w2=>(∃q n c,y=.returned (.tuple #[.slice q n c,.int .i64 (gL e)]))/\Below w'.heap.size w' w2)/\Below W.heap.size W w'):=fun hs W hW=>by
  have hb:=ae cK hW;refine(Ey e p W (hE.below hO hb) (fun k hk=>Nat.lt_of_lt_of_le (hO k hk) hb.size) hz (Nat.le_trans hf.J9.sigs (by decide)) (qw (kV (iY hs).2.2.1).1)).mono ?_;rintro x w' ⟨⟨kr,ir,tr,pr,nr,cr,qr,mr,dr,rfl,hj⟩,zk⟩;refine⟨⟨kr,ir,tr,pr,nr,cr,qr,mr,dr,rfl, ?_⟩,zk⟩;refine(FQ (fun q hq=>hq.elim (fun h=>Nat.lt_of_lt_of_le (hO q h) (ae hb zk).size) fun h=>h.2) (wR (JL hz hs)) (fun _=>by rw[EB hs];exact UG hf hs) hj).mono ?_;rintro y w2 ⟨⟨_,h2,h3⟩,bM⟩;refine⟨?_,bM⟩;have hg:goodJ 12 (dI (jw e))=true:=fC (tq hs);rw[EB hs]at h2 h3;unfold gL;rw[if_pos hs]
  by_cases hl:16384<(uH e).length
  ·rw[if_pos hl];exact⟨_,_,_,h2 hg hl⟩
  ·rw[if_neg hl];obtain⟨q,c,h,_⟩:=h3 hg (by omega);exact⟨_,_,_,h⟩
 have HN:Hid (aO e=false->gL e=50):=fun h=>by unfold gL;rw[if_neg (by rw[h];decide)]
 generalize gL e=n at HJ HN ⊢;generalize hse:aO e=b at hF HJ HN;clear hse hE hO hf hz ht;obtain⟨room,aQ,ah,st,key,⟨k,i,t,ks,l⟩,prev,aC,depth,ts,hash,sigs⟩:=e;obtain⟨pk,ck,pl,cl,pp,cp,pa,ca,ps,cs⟩:=p;simp only[ed,eP,J.kind,J.int,J.text,J.keys,J.list]at dw lX hF HJ ⊢
 cases b with
 | false=>
  have hn:=HN.out rfl;subst hn;go_enter Tryz.func11,Tryz.ntmps11
  go_upto_region 1 with fail
  rw[<-dw];clear dw;go_wp2_with(first
   | (refine df rfl _ rfl rfl lX ?_)
   | (go_at_call 28;refine hF.mono ?_;rintro x w1 ⟨rfl,bI⟩))
  go_ret;exact⟨rfl,ae ll.out bI⟩
 | true=>
  have HJ':Hid _:=HJ.out rfl;clear HJ;go_enter Tryz.func11,Tryz.ntmps11
  go_upto_region 1 with fail
  rw[<-dw];clear dw;go_wp2_with(first
   | (refine df rfl _ rfl rfl lX ?_)
   | (go_at_call 28;refine hF.mono ?_;rintro x w1 ⟨rfl,bI⟩
      have xg:=(bI.block w.heap.size (by omega)).trans lX;have hJ:=HJ'.out w1 bI;clear lX hF)
   | (refine df rfl _ rfl rfl xg ?_)
   | (go_at_call 30;refine hJ.mono ?_;rintro x w2 ⟨⟨kr,ir,tr,pr,nr,cr,qr,mr,dr,rfl,hEn⟩,bM⟩)
   | (go_at_call 29;refine hEn.mono ?_;rintro x w3 ⟨⟨q,m,c,rfl⟩,a_⟩))
  go_ret;exact⟨rfl,ae ll.out (ae bI (ae bM a_))⟩
def nD(e:Ev):J:=if aO e=true then dI (jw e)else J.zero
theorem JM{O:Nat->Prop}(e:Ev)(p:Pt)(w:World)(hE:mF O w e p)(hO:∀k,O k->k<w.heap.size)(hf:QU e):
    Calls Tryz.prog 14 #[ed e p] w fun x w'=>(∃kr ir tr pr nr cr qr mr dr,x=.returned (.agg #[.int .i64 kr,.int .i64 ir,.string tr,.slice pr nr cr,.slice qr mr dr])/\isJ (fun b=>O b\/ fB w w' b) w' (nD e) [.int .i64 kr,.int .i64 ir,.string tr,.slice pr nr cr,.slice qr mr dr])/\Below w.heap.size w w':=by
 have hz:=hf.J9.sz;have ht:=hf.J9.texts;obtain⟨WB,dw⟩:∃WB,WB=(w.alloc (.cells (eP e p).toArray 28)).alloc (.cells #[.int .i64 0,.int .i64 0,.string ⟨#[]⟩,.slice none 0 0,.slice none 0 0] 25):=⟨_,rfl⟩;have cK:Below w.heap.size w WB:=by rw[dw];exact((Below.refl _ _).alloc (Nat.le_refl _) _).alloc (by simp) _
 have lX:WB.heap[w.heap.size]?=some (.cells (eP e p).toArray 28 (0,0)):=by rw[dw];exact jL _ _
 have rP:WB.heap[w.heap.size+1]?=some (.cells #[.int .i64 0,.int .i64 0,.string ⟨#[]⟩,.slice none 0 0,.slice none 0 0] 25 (0,0)):=by rw[dw];exact iq _ _
 have wU:w.heap.size+2<=WB.heap.size:=by rw[dw];simp
 have ll:Hid (Below w.heap.size w WB):=cK;have hF:=Es e p WB (hE.below hO cK) (fun k hk=>Nat.lt_of_lt_of_le (hO k hk) cK.size) hz (by omega) (by omega);have HJ:Hid (aO e=true->∀W,Below WB.heap.size WB W->Calls Tryz.prog 30 #[ed e p] W fun x w'=>(∃kr ir tr pr nr cr qr mr dr,x=.returned (.agg #[.int .i64 kr,.int .i64 ir,.string tr,.slice pr nr cr,.slice qr mr dr])/\isJ (fun b=>O b\/ fB W w' b) w' (dI (jw e)) [.int .i64 kr,.int .i64 ir,.string tr,.slice pr nr cr,.slice qr mr dr])/\Below W.heap.size W w'):=fun hs W hW=>by
  have hb:=ae cK hW;exact Ey e p W (hE.below hO hb) (fun k hk=>Nat.lt_of_lt_of_le (hO k hk) hb.size) hz (Nat.le_trans hf.J9.sigs (by decide)) (qw (kV (iY hs).2.2.1).1)
 have VN:Hid (WB.heap[w.heap.size+1]?=some (.cells #[.int .i64 0,.int .i64 0,.string ⟨#[]⟩,.slice none 0 0,.slice none 0 0] 25 (0,0))):=rP;have HO:Hid (∀k,O k->k<w.heap.size):=hO;have HE1:Hid (aO e=true->nD e=dI (jw e)):=fun h=>by unfold nD;rw[if_pos h]
 have HE2:Hid (aO e=false->nD e=J.zero):=fun h=>by unfold nD;rw[if_neg (by rw[h];decide)]
 generalize nD e=JE at HE1 HE2 ⊢;generalize dI (jw e)=TJ at HJ HE1;generalize hse:aO e=b at hF HJ HE1 HE2;clear hse hE hO hf hz ht cK rP;obtain⟨room,aQ,ah,st,key,⟨k,i,t,ks,l⟩,prev,aC,depth,ts,hash,sigs⟩:=e;obtain⟨pk,ck,pl,cl,pp,cp,pa,ca,ps,cs⟩:=p;simp only[ed,eP,J.kind,J.int,J.text,J.keys,J.list]at dw lX hF HJ ⊢
 cases b with
 | false=>
  have hn:=HE2.out rfl;subst hn;go_enter Tryz.func14,Tryz.ntmps14
  go_upto_region 1 with fail
  rw[<-dw];clear dw;go_wp2_with(first
   | (refine df rfl _ rfl rfl lX ?_)
   | (go_at_call 28;refine hF.mono ?_;rintro x w1 ⟨rfl,bI⟩
      have kg:=(bI.block (w.heap.size+1) (by omega)).trans VN.out;obtain⟨i0,i1,i2,i3,i4⟩:=ai kg;obtain⟨z0,z1,z2,z3,z4⟩:=aF kg))
  have h5:=aK kg (.int .i64 0) (.int .i64 0) (.string ⟨#[]⟩) (.slice none 0 0) (.slice none 0 0);have aX:aj (One (w.heap.size+1)) w1 _:=aJ w1 (w.heap.size+1) (.int .i64 0) (.int .i64 0) (.string ⟨#[]⟩) (.slice none 0 0) (.slice none 0 0);obtain⟨WE,jr⟩:∃WE,WE=bF w1 (w.heap.size+1) (.int .i64 0) (.int .i64 0) (.string ⟨#[]⟩) (.slice none 0 0) (.slice none 0 0):=⟨_,rfl⟩;rw[<-jr]at h5 aX;unfold bF at jr;rw[<-jr];refine bodyPost_ret (dV rfl _ _ _ rfl (nt h5)) rfl ?_;have s1:=bI.size;exact⟨⟨_,_,_,_,_,_,_,_,_,rfl,pQ _ _⟩,(ae ll.out bI).trans (aX.below (by omega) fun q hq=>by unfold One;omega)⟩
 | true=>
  have hn:=HE1.out rfl;subst hn;have HJ':Hid _:=HJ.out rfl;clear HJ HE1 HE2;go_enter Tryz.func14,Tryz.ntmps14
  go_upto_region 1 with fail
  rw[<-dw];clear dw;go_wp2_with(first
   | (refine df rfl _ rfl rfl lX ?_)
   | (go_at_call 28;refine hF.mono ?_;rintro x w1 ⟨rfl,bI⟩
      have xg:=(bI.block w.heap.size (by omega)).trans lX;have hJ:=HJ'.out w1 bI;clear lX hF)
   | (refine df rfl _ rfl rfl xg ?_)
   | (go_at_call 30;refine hJ.mono ?_;rintro x w3 ⟨⟨kr,ir,tr,pr,nr,cr,qr,mr,dr,rfl,rM⟩,a_⟩
      have s1:=bI.size;have s3:=a_.size;have gJ:=(a_.block (w.heap.size+1) (by omega)).trans ((bI.block (w.heap.size+1) (by omega)).trans VN.out);obtain⟨i0,i1,i2,i3,i4⟩:=ai gJ;obtain⟨z0,z1,z2,z3,z4⟩:=aF gJ))
  have h5:=aK gJ (.int .i64 kr) (.int .i64 ir) (.string tr) (.slice pr nr cr) (.slice qr mr dr);have aX:aj (One (w.heap.size+1)) w3 _:=aJ w3 (w.heap.size+1) (.int .i64 kr) (.int .i64 ir) (.string tr) (.slice pr nr cr) (.slice qr mr dr);obtain⟨WE,jr⟩:∃WE,WE=bF w3 (w.heap.size+1) (.int .i64 kr) (.int .i64 ir) (.string tr) (.slice pr nr cr) (.slice qr mr dr):=⟨_,rfl⟩;rw[<-jr]at h5 aX;unfold bF at jr;rw[<-jr];refine bodyPost_ret (dV rfl _ _ _ rfl (nt h5)) rfl ?_;have s5:=aX.size;have b3:Below w.heap.size w w3:=ae ll.out (ae bI a_);refine⟨⟨_,_,_,_,_,_,_,_,_,rfl,rM.carry fun q hq=> ?_⟩,b3.trans (aX.below (by omega) fun q hq=>by unfold One;omega)⟩
  rcases hq with hq| hq
  ·exact⟨.inl hq,aX.block q (by have:=HO.out q hq;omega) (by have:=HO.out q hq;unfold One;omega)⟩
  ·exact⟨.inr ⟨by have:=hq.1;omega,by have:=hq.2;omega⟩,aX.block q hq.2 (by have:=hq.1;unfold One;omega)⟩
theorem JN{O:Nat->Prop}(e:Ev)(p:Pt)(w:World)(hE:mF O w e p)(hO:∀k,O k->k<w.heap.size)(hz:CG e)(hT:kM w):
    Calls Tryz.prog 13 #[ed e p] w fun x w'=>(∃kr ir tr pr nr cr qr mr dr,x=.returned (.agg #[.int .i64 kr,.int .i64 ir,.string tr,.slice pr nr cr,.slice qr mr dr])/\isJ (fun b=>O b\/ fB w w' b) w' (nD e) [.int .i64 kr,.int .i64 ir,.string tr,.slice pr nr cr,.slice qr mr dr])/\Below w.heap.size w w':=by
 cases hs:aO e with
 | true=>
  have h:=M5 e p w hE hO hz hT hs;rw[I_ hs]at h;unfold nD;rw[if_pos hs];exact h
 | false=>
  have hn:nD e=J.zero:=by unfold nD;rw[if_neg (by rw[hs];decide)]
  rw[hn];obtain⟨WB,dw⟩:∃WB,WB=(w.alloc (.cells (eP e p).toArray 28)).alloc (.cells #[.int .i64 0,.int .i64 0,.string ⟨#[]⟩,.slice none 0 0,.slice none 0 0] 25):=⟨_,rfl⟩;have cK:Below w.heap.size w WB:=by rw[dw];exact((Below.refl _ _).alloc (Nat.le_refl _) _).alloc (by simp) _
  have lX:WB.heap[w.heap.size]?=some (.cells (eP e p).toArray 28 (0,0)):=by rw[dw];exact jL _ _
  have rP:WB.heap[w.heap.size+1]?=some (.cells #[.int .i64 0,.int .i64 0,.string ⟨#[]⟩,.slice none 0 0,.slice none 0 0] 25 (0,0)):=by rw[dw];exact iq _ _
  have wU:w.heap.size+2<=WB.heap.size:=by rw[dw];simp
  have ll:Hid (Below w.heap.size w WB):=cK;have hF:=vF e p WB (hE.below hO cK) (fun k hk=>Nat.lt_of_lt_of_le (hO k hk) cK.size) hz (hT.below cK);rw[hs]at hF;have VN:Hid (WB.heap[w.heap.size+1]?=some (.cells #[.int .i64 0,.int .i64 0,.string ⟨#[]⟩,.slice none 0 0,.slice none 0 0] 25 (0,0))):=rP;clear hs hn hE hO hz hT cK rP;obtain⟨room,aQ,ah,st,key,⟨k,i,t,ks,l⟩,prev,aC,depth,ts,hash,sigs⟩:=e;obtain⟨pk,ck,pl,cl,pp,cp,pa,ca,ps,cs⟩:=p;simp only[ed,eP,J.kind,J.int,J.text,J.keys,J.list]at dw lX hF ⊢;go_enter Tryz.func13,Tryz.ntmps13
  go_upto_region 1 with fail
  rw[<-dw];clear dw;go_wp2_with(first
   | (refine df rfl _ rfl rfl lX ?_)
   | (go_at_call 31;refine hF.mono ?_;rintro x w1 ⟨rfl,bI⟩
      have kg:=(bI.block (w.heap.size+1) (by omega)).trans VN.out;obtain⟨i0,i1,i2,i3,i4⟩:=ai kg;obtain⟨z0,z1,z2,z3,z4⟩:=aF kg))
  have h5:=aK kg (.int .i64 0) (.int .i64 0) (.string ⟨#[]⟩) (.slice none 0 0) (.slice none 0 0);have aX:aj (One (w.heap.size+1)) w1 _:=aJ w1 (w.heap.size+1) (.int .i64 0) (.int .i64 0) (.string ⟨#[]⟩) (.slice none 0 0) (.slice none 0 0);obtain⟨WE,jr⟩:∃WE,WE=bF w1 (w.heap.size+1) (.int .i64 0) (.int .i64 0) (.string ⟨#[]⟩) (.slice none 0 0) (.slice none 0 0):=⟨_,rfl⟩;rw[<-jr]at h5 aX;unfold bF at jr;rw[<-jr];refine bodyPost_ret (dV rfl _ _ _ rfl (nt h5)) rfl ?_;have s1:=bI.size;exact⟨⟨_,_,_,_,_,_,_,_,_,rfl,pQ _ _⟩,(ae ll.out bI).trans (aX.below (by omega) fun q hq=>by unfold One;omega)⟩
theorem JO(O:Nat->Prop)(w:World)(k i:Int)(t:ByteArray):isJ O w (.mk k i t [] []) [.int .i64 k,.int .i64 i,.string t,.slice none 0 0,.slice none 0 0]:=by
 unfold isJ;exact⟨none,0,none,0,rfl,jT.nil _ _,Nat.le_refl _,by unfold isJs;trivial⟩
theorem tN(O:Nat->Prop)(w:World)(r t s:ByteArray)(st:Bool)(key:ByteArray)(k i:Int)(x:ByteArray)(d ts:Int)(h:ByteArray):mF O w ⟨r,t,s,st,key,.mk k i x [] [], [], [],d,ts,h, []⟩ Pt.zero:=
 ⟨JO _ _ _ _ _,jT.nil _ _,jT.nil _ _,Aa.nil _ _ _ _⟩
theorem zcm{w:World}{b:Nat}(h:w.heap[b]?=some (.cells #[.string ⟨#[98]⟩,.string QD,.string ⟨#[97]⟩,.string QD] 56 (0,0))):mF (fun q=>q=b) w zG ⟨none,0,none,0,none,0,none,0,some ⟨b,0,none⟩,2⟩:=by
 refine⟨JO _ _ _ _ _,jT.nil _ _,jT.nil _ _,Nat.le_refl _,fun j hj=>⟨b,0,rfl,rfl, ?_⟩⟩
 match j,hj with
 | 0,_=>exact⟨aR (cur:= [_,_,_,_]) h 0 _ rfl,aR (cur:= [_,_,_,_]) h 1 _ rfl⟩
 | 1,_=>exact⟨aR (cur:= [_,_,_,_]) h 2 _ rfl,aR (cur:= [_,_,_,_]) h 3 _ rfl⟩
theorem UI:CG fZ:=um aH (by decide) [] (by decide) (fun x hx=>by cases hx) _ (by kernel_rfl)
theorem zcn:CG FD:=um ⟨#[107]⟩ (by decide) [] (by decide) (fun x hx=>by cases hx) _ (by kernel_rfl)
theorem zco:CG FE:=um aH (by decide) [] (by decide) (fun x hx=>by cases hx) _ (by kernel_rfl)
theorem zcp:CG zG:=um aH (by decide) _ (by decide) (fun x hx=>by
 simp only[List.mem_cons,List.not_mem_nil,or_false]at hx
 rcases hx with rfl| rfl<;>exact⟨by decide,by decide⟩) _ (by kernel_rfl)
theorem zaA:fM (ord (dI fZ))=ord (dI fZ):=by
 have hg:=fC tu;have m_:=gY 12 _ hg;unfold fM;rw[if_pos m_];exact qj 12 _ m_ (nR 12 _ hg)
def zcq(w:World)(p:Option Addr)(n c:Nat):Prop:=n=(uH fZ).length/\Rd w.heap.size w p c (uH fZ)
theorem zcr(w:World)(hT:kM w):Calls Tryz.prog 20 #[.agg #[.string fQ,.string fT,.string cZ,.bool false,.string aH,.int .i64 5,.int .i64 0,.string aH,.slice none 0 0,.slice none 0 0,.slice none 0 0,.slice none 0 0,.int .i64 0,.int .i64 0,.string aH,.slice none 0 0]] w fun x w'=>(∃p n c,x=.returned (.tuple #[.slice p n c,.int .i64 0])/\zcq w' p n c)/\Below w.heap.size w w':=by
 have h:=yM (O:=fun _=>False) fZ Pt.zero w (tN _ _ _ _ _ _ _ _ _ _ _ _ _) (fun _ h=>h.elim) UI hT;simp only[ed,eP,J.kind,J.int,J.text,J.keys,J.list,fZ,Pt.zero,List.length_nil]at h;refine h.mono ?_;rintro x w' ⟨_,_,h3,h4⟩;obtain⟨v,hv,how⟩:=h3 tu Ug;obtain⟨q,c,rfl,hr⟩:=Z_ (fC tu) how;exact⟨⟨q,_,c,hv,rfl,hr⟩,h4⟩
theorem zcs(w:World)(p:Option Addr)(n c:Nat)(hr:zcq w p n c)(hT:kM w):Calls Tryz.prog 21 #[.slice p n c] w fun x w'=>(∃pk ck pl cl pp cp pa ca ps cs,x=.returned (.tuple #[.agg #[.string fQ,.string fT,.string cZ,.bool false,.string aH,.int .i64 5,.int .i64 0,.string aH,.slice pk 0 ck,.slice pl 0 cl,.slice pp 0 cp,.slice pa 0 ca,.int .i64 0,.int .i64 0,.string aH,.slice ps 0 cs],.int .i64 0])/\mF (fB w w') w' fZ ⟨pk,ck,pl,cl,pp,cp,pa,ca,ps,cs⟩)/\Below w.heap.size w w':=by
 obtain⟨rfl,hr⟩:=hr;have h:=MK hr (Nat.le_trans Ug (by decide)) (LY (fC tu) Ug) (A8 12 _ (gY 12 _ (fC tu))) zan hT;rw[zaA,zam]at h;refine h.mono ?_;rintro x w' ⟨⟨pt,rfl,hI⟩,hb⟩;obtain⟨pk,ck,pl,cl,pp,cp,pa,ca,ps,cs⟩:=pt;exact⟨⟨pk,ck,pl,cl,pp,cp,pa,ca,ps,cs,rfl,hI⟩,hb⟩
theorem zct(w:World)(hT:kM w):Calls Tryz.prog 10 #[.agg #[.string fQ,.string fT,.string cZ,.bool false,.string aH,.int .i64 5,.int .i64 0,.string aH,.slice none 0 0,.slice none 0 0,.slice none 0 0,.slice none 0 0,.int .i64 0,.int .i64 0,.string aH,.slice none 0 0]] w fun x w'=>x=.returned (.int .i64 0)/\Below w.heap.size w w':=by
 have h:=jM (O:=fun _=>False) fZ Pt.zero w (tN _ _ _ _ _ _ _ _ _ _ _ _ _) (fun _ h=>h.elim) UI hT;rw[WM]at h;exact h
theorem zcu(w:World)(hT:kM w):Calls Tryz.prog 10 #[.agg #[.string fQ,.string fT,.string cZ,.bool false,.string ⟨#[107]⟩,.int .i64 5,.int .i64 0,.string aH,.slice none 0 0,.slice none 0 0,.slice none 0 0,.slice none 0 0,.int .i64 0,.int .i64 0,.string aH,.slice none 0 0]] w fun x w'=>x=.returned (.int .i64 50)/\Below w.heap.size w w':=by
 have h:=jM (O:=fun _=>False) FD Pt.zero w (tN _ _ _ _ _ _ _ _ _ _ _ _ _) (fun _ h=>h.elim) zcn hT;rw[WN]at h;exact h
theorem zcv(w:World)(hT:kM w):Calls Tryz.prog 10 #[.agg #[.string fQ,.string fT,.string cZ,.bool false,.string aH,.int .i64 0,.int .i64 0,.string aH,.slice none 0 0,.slice none 0 0,.slice none 0 0,.slice none 0 0,.int .i64 0,.int .i64 0,.string aH,.slice none 0 0]] w fun x w'=>x=.returned (.int .i64 50)/\Below w.heap.size w w':=by
 have h:=jM (O:=fun _=>False) FE Pt.zero w (tN _ _ _ _ _ _ _ _ _ _ _ _ _) (fun _ h=>h.elim) zco hT;rw[WQ]at h;exact h
theorem zcw(w:World)(b:Nat)(hT:kM w)(hb:w.heap[b]?=some (.cells #[.string ⟨#[98]⟩,.string QD,.string ⟨#[97]⟩,.string QD] 56 (0,0))):Calls Tryz.prog 10 #[.agg #[.string fQ,.string fT,.string cZ,.bool false,.string aH,.int .i64 5,.int .i64 0,.string aH,.slice none 0 0,.slice none 0 0,.slice none 0 0,.slice none 0 0,.int .i64 0,.int .i64 0,.string aH,.slice (some ⟨b,0,none⟩) 2 2]] w fun x w'=>x=.returned (.int .i64 50)/\Below w.heap.size w w':=by
 have h:=jM (O:=fun q=>q=b) zG ⟨none,0,none,0,none,0,none,0,some ⟨b,0,none⟩,2⟩ w (zcm hb) (fun k hk=>by subst hk;exact(Array.getElem?_eq_some_iff.mp hb).1) zcp hT;rw[WO]at h;exact h
theorem zcx{O:Nat->Prop}(w:World)(pk:Option Addr)(ck:Nat)(pl:Option Addr)(cl:Nat)(pp:Option Addr)(cp:Nat)(pa:Option Addr)(ca:Nat)(ps:Option Addr)(cs:Nat)(hI:mF O w fZ ⟨pk,ck,pl,cl,pp,cp,pa,ca,ps,cs⟩)(hO:∀k,O k->k<w.heap.size):Calls Tryz.prog 19 #[.agg #[.string fQ,.string fT,.string cZ,.bool false,.string aH,.int .i64 5,.int .i64 0,.string aH,.slice none 0 0,.slice none 0 0,.slice none 0 0,.slice none 0 0,.int .i64 0,.int .i64 0,.string aH,.slice none 0 0],.agg #[.string fQ,.string fT,.string cZ,.bool false,.string aH,.int .i64 5,.int .i64 0,.string aH,.slice pk 0 ck,.slice pl 0 cl,.slice pp 0 cp,.slice pa 0 ca,.int .i64 0,.int .i64 0,.string aH,.slice ps 0 cs]] w fun x w'=>x=.returned (.bool true)/\Below w.heap.size w w':=
 Uf fZ Pt.zero ⟨pk,ck,pl,cl,pp,cp,pa,ca,ps,cs⟩ w (tN _ _ _ _ _ _ _ _ _ _ _ _ _) hI hO UI (by kernel_rfl) rfl
section
variable {w : World} {eH : Array Oper} {rest : List Oper} {o : Oper} {a : Act} {Q : Exit -> Act -> World -> Prop} {b : Nat} {t : TypeId} {u0 u1 u2 u3 u4 u5 u6 u7 u8 u9 u10 u11 u12 u13 u14 u15 : Value}
theorem jS(hg:Region.wanted o (yielded eH a.tmps)=true)(m:Operand)(Qq:o.op=Op.load 28 m)(hm:a.eval m=.pointer (some ⟨b,0,none⟩))(h:w.heap[b]?=some (.cells #[u0,u1,u2,u3,u4,u5,u6,u7,u8,u9,u10,u11,u12,u13,u14,u15] t (0,0)))
    (hK:wpList Tryz.prog eH Q rest (a.put o.dst (.agg #[u0,u1,u2,u3,u4,u5,u6,u7,u8,u9,u10,u11,u12,u13,u14,u15])) w):wpList Tryz.prog eH Q (o::rest) a w:=by
 have hl:=FC h;simp only[wpList,hg,if_true];refine Or.inl ?_;unfold Oper.wp;simp[execOp,Qq,hm,hl,Result.andThen];exact hK
end
theorem QX(w:World)(hT:kM w):Calls Tryz.prog 15 #[] w fun x w'=>x=.returned (.bool true)/\Below w.heap.size w w':=by
 have hS:=ML w;have HT:Hid (kM w):=hT;clear hT;simp only[ed,eP,J.kind,J.int,J.text,J.keys,J.list,fZ,Pt.zero,List.length_nil]at hS;go_enter Tryz.func15,Tryz.ntmps15
 go_upto_region 2 with(go_at_call 26;refine hS.mono ?_;rintro x w1 ⟨rfl,bI⟩)
 clear hS;obtain⟨W1,XY⟩:∃W1,W1=w1.alloc (.cells #[.string fQ,.string fT,.string cZ,.bool false,.string aH,.int .i64 5,.int .i64 0,.string aH,.slice none 0 0,.slice none 0 0,.slice none 0 0,.slice none 0 0,.int .i64 0,.int .i64 0,.string aH,.slice none 0 0] 28):=⟨_,rfl⟩;have e1:W1.heap[w1.heap.size]?=some (.cells #[.string fQ,.string fT,.string cZ,.bool false,.string aH,.int .i64 5,.int .i64 0,.string aH,.slice none 0 0,.slice none 0 0,.slice none 0 0,.slice none 0 0,.int .i64 0,.int .i64 0,.string aH,.slice none 0 0] 28 (0,0)):=by rw[XY];exact heap_alloc_new _ _
 have g1:Below w.heap.size w W1:=by rw[XY];exact bI.alloc bI.size _
 have s1:w1.heap.size<W1.heap.size:=by rw[XY];simp
 have s0:=bI.size;rw[<-XY];clear XY bI
 go_upto_region 3 with(refine df rfl _ rfl rfl e1 ?_)
 obtain⟨W2,hW2⟩:∃W2,W2=W1.alloc (.cells #[.string fQ,.string fT,.string cZ,.bool false,.string aH,.int .i64 5,.int .i64 0,.string aH,.slice none 0 0,.slice none 0 0,.slice none 0 0,.slice none 0 0,.int .i64 0,.int .i64 0,.string aH,.slice none 0 0] 28):=⟨_,rfl⟩;have e2:W2.heap[w1.heap.size]?=some (.cells #[.string fQ,.string fT,.string cZ,.bool false,.string aH,.int .i64 5,.int .i64 0,.string aH,.slice none 0 0,.slice none 0 0,.slice none 0 0,.slice none 0 0,.int .i64 0,.int .i64 0,.string aH,.slice none 0 0] 28 (0,0)):=by rw[hW2,Below.heap_alloc _ _ _ s1];exact e1
 have f2:W2.heap[W1.heap.size]?=some (.cells #[.string fQ,.string fT,.string cZ,.bool false,.string aH,.int .i64 5,.int .i64 0,.string aH,.slice none 0 0,.slice none 0 0,.slice none 0 0,.slice none 0 0,.int .i64 0,.int .i64 0,.string aH,.slice none 0 0] 28 (0,0)):=by rw[hW2];exact heap_alloc_new _ _
 have g2:Below w.heap.size w W2:=by rw[hW2];exact g1.alloc g1.size _
 have s2:W1.heap.size<W2.heap.size:=by rw[hW2];simp
 rw[<-hW2];clear hW2 e1;have q4:=az f2 4 _ rfl;have z4:=aU f2 4
 go_upto_region 4 with fail
 clear q4 z4;have K3:aj (One W1.heap.size) W2 (W2.setCell ⟨W1.heap.size,4,none⟩ (.string ⟨#[107]⟩)):=aj.setCell (aj.refl _ _) (fun _=>(rfl:W1.heap.size=W1.heap.size)) _;have f3:(W2.setCell ⟨W1.heap.size,4,none⟩ (.string ⟨#[107]⟩)).heap[W1.heap.size]?=some (.cells #[.string fQ,.string fT,.string cZ,.bool false,.string ⟨#[107]⟩,.int .i64 5,.int .i64 0,.string aH,.slice none 0 0,.slice none 0 0,.slice none 0 0,.slice none 0 0,.int .i64 0,.int .i64 0,.string aH,.slice none 0 0] 28 (0,0)):=by rw[heap_setCell_same _ W1.heap.size 4 _ _ _ f2];rfl
 have e3:=(K3.block w1.heap.size (by omega) (by unfold One;omega)).trans e2;obtain⟨W3,Ob⟩:∃W3,W3=W2.setCell ⟨W1.heap.size,4,none⟩ (.string ⟨#[107]⟩):=⟨_,rfl⟩;rw[<-Ob]at K3 f3 e3 ⊢;have s3:=K3.size;have g3:Below w.heap.size w W3:=g2.trans (K3.below (by omega) fun q hq=>by unfold One;omega);clear Ob f2 e2 K3
 go_upto_region 5 with(refine df rfl _ rfl rfl e3 ?_)
 obtain⟨W4,hW4⟩:∃W4,W4=W3.alloc (.cells #[.string fQ,.string fT,.string cZ,.bool false,.string aH,.int .i64 5,.int .i64 0,.string aH,.slice none 0 0,.slice none 0 0,.slice none 0 0,.slice none 0 0,.int .i64 0,.int .i64 0,.string aH,.slice none 0 0] 28):=⟨_,rfl⟩;have e4:W4.heap[w1.heap.size]?=some (.cells #[.string fQ,.string fT,.string cZ,.bool false,.string aH,.int .i64 5,.int .i64 0,.string aH,.slice none 0 0,.slice none 0 0,.slice none 0 0,.slice none 0 0,.int .i64 0,.int .i64 0,.string aH,.slice none 0 0] 28 (0,0)):=by rw[hW4,Below.heap_alloc _ _ _ (by omega)];exact e3
 have f4:W4.heap[W1.heap.size]?=some (.cells #[.string fQ,.string fT,.string cZ,.bool false,.string ⟨#[107]⟩,.int .i64 5,.int .i64 0,.string aH,.slice none 0 0,.slice none 0 0,.slice none 0 0,.slice none 0 0,.int .i64 0,.int .i64 0,.string aH,.slice none 0 0] 28 (0,0)):=by rw[hW4,Below.heap_alloc _ _ _ (by omega)];exact f3
 have k4:W4.heap[W3.heap.size]?=some (.cells #[.string fQ,.string fT,.string cZ,.bool false,.string aH,.int .i64 5,.int .i64 0,.string aH,.slice none 0 0,.slice none 0 0,.slice none 0 0,.slice none 0 0,.int .i64 0,.int .i64 0,.string aH,.slice none 0 0] 28 (0,0)):=by rw[hW4];exact heap_alloc_new _ _
 have g4:Below w.heap.size w W4:=by rw[hW4];exact g3.alloc g3.size _
 have s4:W3.heap.size<W4.heap.size:=by rw[hW4];simp
 rw[<-hW4];clear hW4 e3 f3;have q5:=az k4 15 _ rfl;have z5:=aU k4 15
 go_upto_region 6 with fail
 clear q5 z5;have K5:aj (One W3.heap.size) W4 (W4.setCell ⟨W3.heap.size,15,none⟩ (.slice (some ⟨W4.heap.size,0,none⟩) 2 2)):=aj.setCell (aj.refl _ _) (fun _=>(rfl:W3.heap.size=W3.heap.size)) _;have k5a:(W4.setCell ⟨W3.heap.size,15,none⟩ (.slice (some ⟨W4.heap.size,0,none⟩) 2 2)).heap[W3.heap.size]?=some (.cells #[.string fQ,.string fT,.string cZ,.bool false,.string aH,.int .i64 5,.int .i64 0,.string aH,.slice none 0 0,.slice none 0 0,.slice none 0 0,.slice none 0 0,.int .i64 0,.int .i64 0,.string aH,.slice (some ⟨W4.heap.size,0,none⟩) 2 2] 28 (0,0)):=by rw[heap_setCell_same _ W3.heap.size 15 _ _ _ k4];rfl
 have z5s:(W4.setCell ⟨W3.heap.size,15,none⟩ (.slice (some ⟨W4.heap.size,0,none⟩) 2 2)).heap.size=W4.heap.size:=by simp
 obtain⟨W5,xi⟩:∃W5,W5=(W4.setCell ⟨W3.heap.size,15,none⟩ (.slice (some ⟨W4.heap.size,0,none⟩) 2 2)).alloc (.cells #[.string ⟨#[98]⟩,.string ⟨#[65,65,65,65,65,65,65,65,65,65,69]⟩,.string ⟨#[97]⟩,.string ⟨#[65,65,65,65,65,65,65,65,65,65,69]⟩] 56):=⟨_,rfl⟩;have Xp:∀q,q<W4.heap.size->q≠W3.heap.size->W5.heap[q]?=W4.heap[q]?:=fun q hq hn=>by rw[xi,Below.heap_alloc _ _ _ (by omega)];exact K5.block q hq hn
 have e5:=(Xp w1.heap.size (by omega) (by omega)).trans e4;have f5:=(Xp W1.heap.size (by omega) (by omega)).trans f4;have k5:W5.heap[W3.heap.size]?=some (.cells #[.string fQ,.string fT,.string cZ,.bool false,.string aH,.int .i64 5,.int .i64 0,.string aH,.slice none 0 0,.slice none 0 0,.slice none 0 0,.slice none 0 0,.int .i64 0,.int .i64 0,.string aH,.slice (some ⟨W4.heap.size,0,none⟩) 2 2] 28 (0,0)):=by rw[xi,Below.heap_alloc _ _ _ (by omega)];exact k5a
 have m5:W5.heap[W4.heap.size]?=some (.cells #[.string ⟨#[98]⟩,.string ⟨#[65,65,65,65,65,65,65,65,65,65,69]⟩,.string ⟨#[97]⟩,.string ⟨#[65,65,65,65,65,65,65,65,65,65,69]⟩] 56 (0,0)):=by
  have hh:=heap_alloc_new (W4.setCell ⟨W3.heap.size,15,none⟩ (.slice (some ⟨W4.heap.size,0,none⟩) 2 2)) (.cells #[.string ⟨#[98]⟩,.string ⟨#[65,65,65,65,65,65,65,65,65,65,69]⟩,.string ⟨#[97]⟩,.string ⟨#[65,65,65,65,65,65,65,65,65,65,69]⟩] 56);rw[z5s]at hh;rw[xi];exact hh
 have s5:W5.heap.size=W4.heap.size+1:=by rw[xi];simp
 have g5:Below w.heap.size w W5:=g4.trans ⟨by rw[xi];rfl,by rw[xi];rfl,by rw[xi];rfl,by omega,fun q hq=>Xp q (by have:=g4.size;omega) (by omega)⟩;have S5:Hid (W5.heap.size=W4.heap.size+1):=s5;have s5a:W4.heap.size<W5.heap.size:=by omega
 rw[<-xi];clear xi k5a z5s K5 e4 f4 k4 Xp s5
 go_upto_region 7 with(refine df rfl _ rfl rfl e5 ?_)
 obtain⟨W6,Xq⟩:∃W6,W6=W5.alloc (.cells #[.string fQ,.string fT,.string cZ,.bool false,.string aH,.int .i64 5,.int .i64 0,.string aH,.slice none 0 0,.slice none 0 0,.slice none 0 0,.slice none 0 0,.int .i64 0,.int .i64 0,.string aH,.slice none 0 0] 28):=⟨_,rfl⟩;have e6:W6.heap[w1.heap.size]?=some (.cells #[.string fQ,.string fT,.string cZ,.bool false,.string aH,.int .i64 5,.int .i64 0,.string aH,.slice none 0 0,.slice none 0 0,.slice none 0 0,.slice none 0 0,.int .i64 0,.int .i64 0,.string aH,.slice none 0 0] 28 (0,0)):=by rw[Xq,Below.heap_alloc _ _ _ (by omega)];exact e5
 have f6:W6.heap[W1.heap.size]?=some (.cells #[.string fQ,.string fT,.string cZ,.bool false,.string ⟨#[107]⟩,.int .i64 5,.int .i64 0,.string aH,.slice none 0 0,.slice none 0 0,.slice none 0 0,.slice none 0 0,.int .i64 0,.int .i64 0,.string aH,.slice none 0 0] 28 (0,0)):=by rw[Xq,Below.heap_alloc _ _ _ (by omega)];exact f5
 have k6:W6.heap[W3.heap.size]?=some (.cells #[.string fQ,.string fT,.string cZ,.bool false,.string aH,.int .i64 5,.int .i64 0,.string aH,.slice none 0 0,.slice none 0 0,.slice none 0 0,.slice none 0 0,.int .i64 0,.int .i64 0,.string aH,.slice (some ⟨W4.heap.size,0,none⟩) 2 2] 28 (0,0)):=by rw[Xq,Below.heap_alloc _ _ _ (by omega)];exact k5
 have m6:=(show W6.heap[W4.heap.size]?=W5.heap[W4.heap.size]? by rw[Xq,Below.heap_alloc _ _ _ (by omega)]).trans m5;have h6:W6.heap[W5.heap.size]?=some (.cells #[.string fQ,.string fT,.string cZ,.bool false,.string aH,.int .i64 5,.int .i64 0,.string aH,.slice none 0 0,.slice none 0 0,.slice none 0 0,.slice none 0 0,.int .i64 0,.int .i64 0,.string aH,.slice none 0 0] 28 (0,0)):=by rw[Xq];exact heap_alloc_new _ _
 have g6:Below w.heap.size w W6:=by rw[Xq];exact g5.alloc g5.size _
 have s6:W5.heap.size<W6.heap.size:=by rw[Xq];simp
 rw[<-Xq];clear Xq e5 f5 k5 m5;have q7:=az h6 5 _ rfl;have z7:=aU h6 5
 go_upto_region 8 with fail
 clear q7 z7;have K7:aj (One W5.heap.size) W6 (W6.setCell ⟨W5.heap.size,5,none⟩ (.int .i64 0)):=aj.setCell (aj.refl _ _) (fun _=>(rfl:W5.heap.size=W5.heap.size)) _;have h7:(W6.setCell ⟨W5.heap.size,5,none⟩ (.int .i64 0)).heap[W5.heap.size]?=some (.cells #[.string fQ,.string fT,.string cZ,.bool false,.string aH,.int .i64 0,.int .i64 0,.string aH,.slice none 0 0,.slice none 0 0,.slice none 0 0,.slice none 0 0,.int .i64 0,.int .i64 0,.string aH,.slice none 0 0] 28 (0,0)):=by rw[heap_setCell_same _ W5.heap.size 5 _ _ _ h6];rfl
 obtain⟨W7,hW7⟩:∃W7,W7=W6.setCell ⟨W5.heap.size,5,none⟩ (.int .i64 0):=⟨_,rfl⟩;rw[<-hW7]at K7 h7 ⊢;have e7:=(K7.block w1.heap.size (by omega) (by unfold One;omega)).trans e6;have f7:=(K7.block W1.heap.size (by omega) (by unfold One;omega)).trans f6;have k7:=(K7.block W3.heap.size (by omega) (by unfold One;omega)).trans k6;have m7:=(K7.block W4.heap.size (by omega) (by unfold One;omega)).trans m6;have s7:=K7.size;have g7:Below w.heap.size w W7:=g6.trans (K7.below (by omega) fun q hq=>by unfold One;have:=g5.size;omega);clear hW7 e6 f6 k6 m6 h6 K7;have G7:Hid (Below w.heap.size w W7):=g7;have T7:Hid (kM W7):=HT.out.below g7;clear g1 g2 g3 g4 g5 g6 g7
 go_upto_region 9 with(first
  | (go_at_call 20;refine(zcr W7 T7.out).mono ?_;rintro x w8 ⟨⟨p8,n8,c8,rfl,hr8⟩,rT⟩)
  | (refine df rfl _ rfl rfl e7 ?_))
 have S8:=rT.size;have e8:=(rT.block w1.heap.size (by omega)).trans e7;have f8:=(rT.block W1.heap.size (by omega)).trans f7;have k8:=(rT.block W3.heap.size (by omega)).trans k7;have m8:=(rT.block W4.heap.size (by omega)).trans m7;have h8:=(rT.block W5.heap.size (by omega)).trans h7;have G8:Hid (Below w.heap.size w w8):=ae G7.out rT;have T8:Hid (kM w8):=HT.out.below G8.out;clear e7 f7 k7 m7 h7 rT T7 G7
 go_upto_region 10 with(go_at_call 21;refine(zcs w8 p8 n8 c8 hr8 T8.out).mono ?_;rintro x w9 ⟨⟨pk,ck,pl,cl,pp,cp,pa,ca,ps,cs,rfl,hI9⟩,X6⟩)
 have S9:=X6.size;obtain⟨wQ,je⟩:∃wQ,wQ=w9.alloc (.cells #[.string fQ,.string fT,.string cZ,.bool false,.string aH,.int .i64 5,.int .i64 0,.string aH,.slice pk 0 ck,.slice pl 0 cl,.slice pp 0 cp,.slice pa 0 ca,.int .i64 0,.int .i64 0,.string aH,.slice ps 0 cs] 28):=⟨_,rfl⟩;have ED:∀q,q<w8.heap.size->wQ.heap[q]?=w8.heap[q]?:=fun q hq=>by rw[je,Below.heap_alloc _ _ _ (by omega)];exact X6.block q hq
 have Oc:=(ED w1.heap.size (by omega)).trans e8;have f10:=(ED W1.heap.size (by omega)).trans f8;have Oh:=(ED W3.heap.size (by omega)).trans k8;have m10:=(ED W4.heap.size (by omega)).trans m8;have h10:=(ED W5.heap.size (by omega)).trans h8;have d10:wQ.heap[w9.heap.size]?=some (.cells #[.string fQ,.string fT,.string cZ,.bool false,.string aH,.int .i64 5,.int .i64 0,.string aH,.slice pk 0 ck,.slice pl 0 cl,.slice pp 0 cp,.slice pa 0 ca,.int .i64 0,.int .i64 0,.string aH,.slice ps 0 cs] 28 (0,0)):=by rw[je];exact heap_alloc_new _ _
 have s10:w9.heap.size<wQ.heap.size:=by rw[je];simp
 have Yi:Below w9.heap.size w9 wQ:=by rw[je];exact(Below.refl _ _).alloc (Nat.le_refl _) _
 have HI:Hid (mF (fB w8 w9) wQ fZ ⟨pk,ck,pl,cl,pp,cp,pa,ca,ps,cs⟩):=hI9.below (fun k hk=>hk.2) Yi;have G10:Hid (Below w.heap.size w wQ):=ae (ae G8.out X6) Yi;have Yb:Hid (kM wQ):=HT.out.below G10.out;rw[<-je];clear je e8 f8 k8 m8 h8 X6 hI9 Yi ED hr8 T8 G8;have S5o:=S5.out;have L1:Hid (w1.heap.size<wQ.heap.size):=(by omega:_<_);have L2:Hid (W1.heap.size<wQ.heap.size):=(by omega:_<_);have L3:Hid (W3.heap.size<wQ.heap.size):=(by omega:_<_);have L4:Hid (W4.heap.size<wQ.heap.size):=(by omega:_<_);have L5:Hid (W5.heap.size<wQ.heap.size):=(by omega:_<_);have L9:Hid (w9.heap.size<wQ.heap.size):=s10;clear S5o s1 s2 s3 s4 s6 s7 S8 S9 s10;go_wp2_with(first
  | (go_at_call 19;refine(zcx w14 pk ck pl cl pp cp pa ca ps cs (HI.out.below (fun k hk=>Nat.lt_trans hk.2 L9.out) B14.out) (fun k hk=>Nat.lt_of_lt_of_le (Nat.lt_trans hk.2 L9.out) B14.out.size)).mono ?_;rintro x w15 ⟨rfl,zeJ⟩)
  | (go_at_call 10;have _x:=UW;refine(zcv w13 (Yb.out.below B13.out)).mono ?_;rintro x w14 ⟨rfl,zcy⟩
     have B14:Hid (Below wQ.heap.size wQ w14):=ae B13.out zcy;have e14:=(B14.out.block w1.heap.size L1.out).trans E10.out;have d14:=(B14.out.block w9.heap.size L9.out).trans WJ.out;clear UW zcy _x)
  | (go_at_call 10;have _x:=Mm;refine(zcw w12 W4.heap.size (Yb.out.below B12.out) ((B12.out.block W4.heap.size L4.out).trans M10.out)).mono ?_;rintro x w13 ⟨rfl,zcz⟩
     have B13:Hid (Below wQ.heap.size wQ w13):=ae B12.out zcz;have UW:=(B13.out.block W5.heap.size L5.out).trans H10.out;clear Mm zcz _x)
  | (go_at_call 10;have _x:=f11;refine(zcu I7 (Yb.out.below B11.out)).mono ?_;rintro x w12 ⟨rfl,zcA⟩
     have B12:Hid (Below wQ.heap.size wQ w12):=ae B11.out zcA;have Mm:=(B12.out.block W3.heap.size L3.out).trans K10.out;clear f11 zcA _x)
  | (go_at_call 10;refine(zct wQ Yb.out).mono ?_;rintro x I7 ⟨rfl,zaB⟩
     have B11:Hid (Below wQ.heap.size wQ I7):=zaB;have f11:=(zaB.block W1.heap.size L2.out).trans f10;have K10:Hid _:=Oh;have M10:Hid _:=m10;have H10:Hid _:=h10;have WJ:Hid _:=d10;have E10:Hid _:=Oc;clear Oc f10 Oh m10 h10 d10 zaB)
  | (refine df rfl _ rfl rfl Oc ?_)
  | (refine jS (by rfl) _ rfl rfl f11 ?_)
  | (refine jS (by rfl) _ rfl rfl Mm ?_)
  | (refine jS (by rfl) _ rfl rfl UW ?_)
  | (refine jS (by rfl) _ rfl rfl e14 ?_)
  | (refine jS (by rfl) _ rfl rfl d14 ?_))
 go_ret;exact⟨rfl,ae G10.out (ae B14.out zeJ)⟩
theorem nL{a:Act}{o:Oper}{m:Operand}{b:Nat}{w:World}{v:Value}(Qq:o.op=Op.load 28 m)(hm:a.eval m=.pointer (some ⟨b,0,none⟩))(hl:(Instr.loadAt 28 (.pointer (some ⟨b,0,none⟩))).run Tryz.prog w=.ok v w):(execOp a.eval o).run Tryz.prog w=.ok (.value v) w:=by
 simp[execOp,Qq,hm,hl]
theorem QY(e:Ev):goodJ 12 (nD e)=true:=by
 unfold nD
 by_cases h:aO e=true
 ·rw[if_pos h];exact fC (tq h)
 ·rw[if_neg h];rfl
theorem Xr{e:Ev}(hz:CG e):szJ 12 (nD e)=true:=by
 unfold nD
 by_cases h:aO e=true
 ·rw[if_pos h];exact wR (JL hz h)
 ·rw[if_neg h];rfl
theorem UJ{O:Nat->Prop}(e:Ev)(p:Pt)(w:World)(hE:mF O w e p)(hO:∀k,O k->k<w.heap.size)(hl:Uy e):
    Calls Tryz.prog 9 #[ed e p] w fun x w'=>(x=.returned (.bool false)\/ (x=.returned (.bool true)/\QU e))/\Below w.heap.size w w':=by
 refine(QV e p w hE hO hl).mono ?_;rintro x w' ⟨⟨b,h,hf⟩,hb⟩;refine⟨?_,hb⟩
 cases b
 ·exact .inl h
 ·exact .inr ⟨h,hf rfl⟩
theorem JP(e:Ev)(p:Pt)(w:World)(hE:mF (fun k=>k<w.heap.size) w e p)(hb:Uy e)(hT:kM w):
    Calls Tryz.prog 3 #[ed e p] w fun x w'=>x=.returned (.bool true)/\Below w.heap.size w w':=by
 obtain⟨a0,a1,a2,b3,a4,n5,n6,a7,p8,n8,c8,p9,n9,c9,ov,oF,gI,oz,oG,kW,mU,oH,jk,oC,oI,kX,hv⟩:=Bn e p;obtain⟨WB,dw⟩:∃WB,WB=w.alloc (.cells #[.string a0,.string a1,.string a2,.bool b3,.string a4,.int .i64 n5,.int .i64 n6,.string a7,.slice p8 n8 c8,.slice p9 n9 c9,.slice ov oF gI,.slice oz oG kW,.int .i64 mU,.int .i64 oH,.string jk,.slice oC oI kX] 28):=⟨_,rfl⟩;have cK:Below w.heap.size w WB:=by rw[dw];exact(Below.refl _ _).alloc (Nat.le_refl _) _
 have lX:WB.heap[w.heap.size]?=some (.cells #[.string a0,.string a1,.string a2,.bool b3,.string a4,.int .i64 n5,.int .i64 n6,.string a7,.slice p8 n8 c8,.slice p9 n9 c9,.slice ov oF gI,.slice oz oG kW,.int .i64 mU,.int .i64 oH,.string jk,.slice oC oI kX] 28 (0,0)):=by rw[dw];exact heap_alloc_new _ _
 have wU:w.heap.size<WB.heap.size:=by rw[dw];simp
 have HI:Hid (∀W,Below w.heap.size w W->mF (fun k=>k<w.heap.size) W e p):=fun W h=>hE.below (fun k hk=>hk) h;have HL:Hid (∀W,Below w.heap.size w W->∀k,k<w.heap.size->k<W.heap.size):=fun W h k hk=>Nat.lt_of_lt_of_le hk h.size;have HT:Hid (∀W,Below w.heap.size w W->kM W):=fun W h=>hT.below h;have ll:Hid (Below w.heap.size w WB):=cK;have zaC:=UJ e p WB (HI.out WB cK) (HL.out WB cK) hb;have HV:Hid (ed e p=.agg #[.string a0,.string a1,.string a2,.bool b3,.string a4,.int .i64 n5,.int .i64 n6,.string a7,.slice p8 n8 c8,.slice p9 n9 c9,.slice ov oF gI,.slice oz oG kW,.int .i64 mU,.int .i64 oH,.string jk,.slice oC oI kX]):=hv;rw[hv]at zaC ⊢;clear hE hb hT hv cK;go_enter Tryz.func3,Tryz.ntmps3
 go_upto_region 1 with fail
 rw[<-dw];clear dw
 go_upto_region 3 with(first
  | (refine df rfl _ rfl rfl lX ?_)
  | (go_at_call 9;refine zaC.mono ?_;rintro x w1 ⟨rfl| ⟨rfl,zaD⟩,bI⟩))
 all_goals (first
  | (go_ret;exact⟨rfl,ae ll.out bI⟩)
  | skip)
 ·have B1:Below w.heap.size w w1:=ae ll.out bI;have xg:=(bI.block w.heap.size wU).trans lX;have s1:w.heap.size<w1.heap.size:=Nat.lt_of_lt_of_le wU bI.size;clear lX zaC wU bI;have hz:=zaD.J9.sz;have LX:Hid (∀wq,Below w1.heap.size w1 wq->(Instr.loadAt 28 (.pointer (some ⟨w.heap.size,0,none⟩))).run Tryz.prog wq=.ok (.agg #[.string a0,.string a1,.string a2,.bool b3,.string a4,.int .i64 n5,.int .i64 n6,.string a7,.slice p8 n8 c8,.slice p9 n9 c9,.slice ov oF gI,.slice oz oG kW,.int .i64 mU,.int .i64 oH,.string jk,.slice oC oI kX]) wq):=fun wq hq=>FC ((hq.block w.heap.size s1).trans xg);have C1:Below w1.heap.size w1 w1.drew:=(Below.refl _ _).drew;have G1:=ae B1 C1;have h1:=jM e p w1.drew (HI.out _ G1) (HL.out _ G1) hz (HT.out _ G1);rw[HV.out]at h1;refine aD (by kernel_rfl) (fun w'=>Below w1.heap.size w1 w') ?_;change wpIn _ _ _ _ _ _ _ _ (World.drew _);refine ay (i:=0) (d:=(some 6)) (v:=.agg #[.string a0,.string a1,.string a2,.bool b3,.string a4,.int .i64 n5,.int .i64 n6,.string a7,.slice p8 n8 c8,.slice p9 n9 c9,.slice ov oF gI,.slice oz oG kW,.int .i64 mU,.int .i64 oH,.string jk,.slice oC oI kX]) (a':= ?as0) rfl rfl (by kernel_rfl) (by kernel_rfl) (by kernel_rfl) (fun _ _ _ h=>h) (Or.inl ⟨by rfl, ?ys0⟩) ?fs0 ?_
  case ys0=>exact fun wq hq=>nL rfl rfl (LX.out wq hq)
  case fs0=>(go_frame;rfl)
  refine ay (i:=2) (d:=(some 8)) (v:=.agg #[.string a0,.string a1,.string a2,.bool b3,.string a4,.int .i64 n5,.int .i64 n6,.string a7,.slice p8 n8 c8,.slice p9 n9 c9,.slice ov oF gI,.slice oz oG kW,.int .i64 mU,.int .i64 oH,.string jk,.slice oC oI kX]) (a':= ?as2) rfl rfl (by kernel_rfl) (by kernel_rfl) (by kernel_rfl) (fun _ _ _ h=>h) (Or.inl ⟨by rfl, ?ys2⟩) ?fs2 ?_
  case ys2=>exact fun wq hq=>nL rfl rfl (LX.out wq hq)
  case fs2=>(go_frame;rfl)
  refine ak (i:=1) C1 rfl ?_;intro K hK;go_simp;go_wp2_with(go_at_call 10;refine h1.mono ?_;rintro x w2 ⟨rfl,bM⟩);have C2:=ae C1 bM;have G2:=ae B1 C2;have h2:=Ni e p w2 (HI.out _ G2) (HL.out _ G2) zaD;rw[HV.out]at h2;refine ak (i:=3) C2 rfl ?_;intro K hK;go_simp;go_wp2_with(go_at_call 11;refine h2.mono ?_;rintro x w3 ⟨rfl,a_⟩);have C3:=ae C2 a_;have G3:=ae B1 C3;have h3:=JN e p w3 (HI.out _ G3) (HL.out _ G3) hz (HT.out _ G3);rw[HV.out]at h3;clear h1 h2;refine aa (i:=4) (d:=some 10) rfl ?_;refine aa (i:=5) (d:=some 11) rfl ?_;refine ay (i:=6) (d:=(some 12)) (v:=.agg #[.string a0,.string a1,.string a2,.bool b3,.string a4,.int .i64 n5,.int .i64 n6,.string a7,.slice p8 n8 c8,.slice p9 n9 c9,.slice ov oF gI,.slice oz oG kW,.int .i64 mU,.int .i64 oH,.string jk,.slice oC oI kX]) (a':= ?as6) rfl rfl (by kernel_rfl) (by kernel_rfl) (by kernel_rfl) (fun _ _ _ h=>h) (Or.inl ⟨by rfl, ?ys6⟩) ?fs6 ?_
  case ys6=>exact fun wq hq=>nL rfl rfl (LX.out wq hq)
  case fs6=>(go_frame;rfl)
  refine ay (i:=8) (d:=(some 14)) (v:=.agg #[.string a0,.string a1,.string a2,.bool b3,.string a4,.int .i64 n5,.int .i64 n6,.string a7,.slice p8 n8 c8,.slice p9 n9 c9,.slice ov oF gI,.slice oz oG kW,.int .i64 mU,.int .i64 oH,.string jk,.slice oC oI kX]) (a':= ?as8) rfl rfl (by kernel_rfl) (by kernel_rfl) (by kernel_rfl) (fun _ _ _ h=>h) (Or.inl ⟨by rfl, ?ys8⟩) ?fs8 ?_
  case ys8=>exact fun wq hq=>nL rfl rfl (LX.out wq hq)
  case fs8=>(go_frame;rfl)
  refine ak (i:=7) C3 rfl ?_;intro K hK;go_simp;go_wp2_with(go_at_call 13;refine h3.mono ?_;rintro x w4 ⟨⟨kr,ir,tr,pr,nr,cr,qr,mr,dr,rfl,hj4⟩,dN⟩);have C4:=ae C3 dN;have G4:=ae B1 C4;have h4:=JM e p w4 (HI.out _ G4) (HL.out _ G4) zaD;rw[HV.out]at h4;refine ak (i:=9) C4 rfl ?_;intro K hK;go_simp;go_wp2_with(go_at_call 14;refine h4.mono ?_;rintro x w5 ⟨⟨ks,is,ts,ps,ns,cs,qs,ms,ds,rfl,F_⟩,nu⟩);have C5:=ae C4 nu;have G5:=ae B1 C5;have l4:=G4.size;have l5:=nu.size;have h5:=Ud 12 w5 (fun b=>b<w5.heap.size) (nD e) (nD e) kr ir tr pr qr nr cr mr dr ks is ts ps qs ns cs ms ds (fun _ h=>h) (QY e) (Xr hz)
   (hj4.carry fun b hb=>by
    have bJ:b<w4.heap.size:=hb.elim (fun h=>by omega) fun h=>h.2;exact⟨by omega,nu.block b bJ⟩)
   (F_.carry fun b hb=>⟨hb.elim (fun h=>by omega) fun h=>h.2,rfl⟩)
  refine ak (i:=10) C5 rfl ?_;intro K hK;go_simp;go_wp2_with(go_at_call 12;refine h5.mono ?_;rintro x w6 ⟨⟨b,rfl,rJ⟩,Bd⟩;obtain rfl:b=true:=rJ.2 rfl);have C6:=ae C5 Bd;have G6:=ae B1 C6;have h6:=QX w6 (HT.out _ G6);clear h3 h4 h5 hj4 F_;refine aa (i:=11) (d:=some 17) rfl ?_;refine aa (i:=12) (d:=some 18) rfl ?_;refine ak (i:=13) C6 rfl ?_;intro K hK;go_simp;go_wp2_with(go_at_call 15;refine h6.mono ?_;rintro x w7 ⟨rfl,Rc⟩);have C7:=ae C6 Rc;refine aa (i:=14) (d:=some 20) rfl ?_;refine ak (i:=15) C7 rfl ?_;intro K hK;go_simp;refine hK _ _ ?_;clear hK K;refine aA C7 (by kernel_rfl) ?_ _;go_wp2;go_ret;exact⟨rfl,ae B1 C7⟩
open Go.ChangeShapes Go.WideShapes Go.ChangeAt Go.RowKit
theorem Nj:Tryz.prog.cellsOf 25=5:=by kernel_rfl
theorem rE:Tryz.prog.cellsOf 9=1:=by kernel_rfl
theorem Xt:Tryz.prog.cellsOf 3=1:=by kernel_rfl
theorem FR:Tryz.prog.cellsOf 2=1:=by kernel_rfl
theorem FT:Tryz.prog.cellsOf 22=1:=by kernel_rfl
theorem Xu:Tryz.prog.cellsOf 23=1:=by kernel_rfl
theorem uw{w:World}{a:Addr}{v:Value}(h:w.cell? a=some v):a.block<w.heap.size:=by
 rcases Nat.lt_or_ge a.block w.heap.size with h'| h'
 ·exact h'
 ·simp[World.cell?,Array.getElem?_eq_none h']at h
theorem EE{w:World}{b o:Nat}{sp:Option Nat}{v:Value}(h:w.cell? ⟨b,o,sp⟩=some v):sp=none:=by
 cases sp with
 | none=>rfl
 | some x=>
  unfold World.cell? at h
  split at h<;>simp at h
theorem OE{O:Nat->Prop}{w:World}{b o:Nat}(hO:O b):∀(l:List J) (n:Nat),(∀i,i<l.length->∃cs,(∀m v,cs[m]?=some v->w.cell? ⟨b,o+(n+i)*5+m,none⟩=some v)/\isJ O w (l.getD i J.zero) cs)->isJs O w (some ⟨b,o,none⟩) n l
 | [],_,_=>by unfold isJs;trivial
 | j::r,n,h=>by
  unfold isJs;obtain⟨cs,h1,h2⟩:=h 0 (by simp);refine⟨⟨b,o,cs,rfl,hO,fun m v hv=> ?_,h2⟩,OE hO r (n+1) fun i hi=> ?_⟩
  ·have:=h1 m v hv;simpa using this
  ·obtain⟨cs,h1,h2⟩:=h (i+1) (by simp;omega);refine⟨cs,fun m v hv=> ?_,h2⟩;have:=h1 m v hv
   rwa [show n+(i+1)=n+1+i by omega]at this
theorem yg{α:Type}{z:α}{P:Nat->α->Prop}:∀n,(∀i,i<n->∃x,P i x)->∃l:List α,l.length=n/\∀i,i<n->P i (l.getD i z)
 | 0,_=>⟨[],rfl,fun i hi=>absurd hi (by omega)⟩
 | n+1,h=>by
  obtain⟨l,hl,hp⟩:=yg (z:=z) n fun i hi=>h i (by omega);obtain⟨x,hx⟩:=h n (by omega);refine⟨l++ [x],by simp[hl],fun i hi=> ?_⟩
  by_cases Q4:i<n
  ·have:(l++ [x]).getD i z=l.getD i z:=by
     rw[List.getD_eq_getElem?_getD,List.getD_eq_getElem?_getD,List.getElem?_append_left (by omega)]
   rw[this];exact hp i Q4
  ·obtain rfl:i=n:=by omega
   have:(l++ [x]).getD i z=x:=by
    rw[List.getD_eq_getElem?_getD,List.getElem?_append_right (by omega),hl];simp
   rw[this];exact hx
theorem Ym{H:Type}{enc:TypeId×Value->H}{W:World}:∀(gD:Nat) (cs:List Value) (x:DataW H×List MemPlace),DataW.trod enc Tryz.prog W 0 (fun _=>true) true gD 25 cs=some x->∃j,isJ (fun b=>b<W.heap.size) W j cs
 | 0,cs,x,h=>by
  obtain⟨_,n,hf,_⟩:=DataW.trod_struct Tryz.underlying25 h;omega
 | gD+1,cs,x,h=>by
  obtain⟨xs,n,hf,_,hl,cB,Dc⟩:=DataW.trod_struct Tryz.underlying25 h;obtain rfl:gD=n:=by omega
  rw[Nj]at hl
  match cs,hl with
  | [c0,c1,c2,c3,c4],_=>
   match xs,cB with
   | [y0,y1,y2,y3,y4],_=>
    have g0:DataW.trod enc Tryz.prog W 0 (fun _=>true) true gD 3 (([c0,c1,c2,c3,c4].drop 0).take (Tryz.prog.cellsOf 3))=some y0:=Dc 0 _ rfl;rw[Xt]at g0;have f0:DataW.trod enc Tryz.prog W 0 (fun _=>true) true gD 3 [c0]=some y0:=g0;have g1:DataW.trod enc Tryz.prog W 0 (fun _=>true) true gD 2 (([c0,c1,c2,c3,c4].drop 1).take (Tryz.prog.cellsOf 2))=some y1:=Dc 1 _ rfl;rw[FR]at g1;have f1:DataW.trod enc Tryz.prog W 0 (fun _=>true) true gD 2 [c1]=some y1:=g1;have g2:DataW.trod enc Tryz.prog W 0 (fun _=>true) true gD 9 (([c0,c1,c2,c3,c4].drop 2).take (Tryz.prog.cellsOf 9))=some y2:=Dc 2 _ rfl;rw[rE]at g2;have f2:DataW.trod enc Tryz.prog W 0 (fun _=>true) true gD 9 [c2]=some y2:=g2;have g3:DataW.trod enc Tryz.prog W 0 (fun _=>true) true gD 22 (([c0,c1,c2,c3,c4].drop 3).take (Tryz.prog.cellsOf 22))=some y3:=Dc 3 _ rfl;rw[FT]at g3;have f3:DataW.trod enc Tryz.prog W 0 (fun _=>true) true gD 22 [c3]=some y3:=g3;have g4:DataW.trod enc Tryz.prog W 0 (fun _=>true) true gD 23 (([c0,c1,c2,c3,c4].drop 4).take (Tryz.prog.cellsOf 23))=some y4:=Dc 4 _ rfl;rw[Xu]at g4;have f4:DataW.trod enc Tryz.prog W 0 (fun _=>true) true gD 23 [c4]=some y4:=g4;obtain⟨k,e0,_,_⟩:=DataW.trod_int Tryz.underlying3 f0;obtain⟨i,e1,_,_⟩:=DataW.trod_int Tryz.underlying2 f1;obtain⟨t,e2,_,_⟩:=DataW.trod_string Tryz.underlying9 f2;simp only[List.cons.injEq,and_true]at e0 e1 e2;subst e0 e1 e2;have zcB:∃pk nk ck ks,c3=.slice pk nk ck/\nk=ks.length/\jT (fun b=>b<W.heap.size) W pk ck ks:=by
     rcases open_strings Tryz.underlying22 Tryz.underlying9 rE f3 with⟨e3,_⟩| ⟨a,len,cap,ss,e3,_,DN,_,Ti,_,gV,_⟩
     ·simp only[List.cons.injEq,and_true]at e3;exact⟨none,0,0, [],e3,rfl,jT.nil _ _⟩
     ·simp only[List.cons.injEq,and_true]at e3;simp only[if_true]at Ti;refine⟨some a,len,cap,ss.take len,e3,by simp;omega,by simp;omega,fun j hj=>⟨a,rfl, ?_, ?_⟩⟩
      ·have zQ:j<len:=by simp at hj;omega
       have:=uw (gV j (by omega))
       rwa [aY]at this
      ·have zQ:j<len:=by simp at hj;omega
       rw[gV j (by omega)]
       congr 2
       rw[List.getD_eq_getElem?_getD,List.getD_eq_getElem?_getD,List.getElem?_take,if_pos zQ,List.getElem?_eq_getElem (by omega)]
       rfl
    have zcC:∃pl nl cl l,c4=.slice pl nl cl/\nl=l.length/\l.length<=cl/\isJs (fun b=>b<W.heap.size) W pl 0 l:=by
     rcases DataW.trod_slice Tryz.underlying23 f4 with⟨e4,_⟩| ⟨a,len,cap,elems,rest,n',hn',e4,_,_,DN,_,hel,EP,_,_⟩
     ·simp only[List.cons.injEq,and_true]at e4;exact⟨none,0,0, [],e4,rfl,Nat.le_refl _,by unfold isJs;trivial⟩
     ·simp only[List.cons.injEq,and_true]at e4;rw[Nj]at EP
      cases len with
      | zero=>exact⟨some a,0,cap, [],e4,rfl,Nat.zero_le _,by unfold isJs;trivial⟩
      | succ len=>
       obtain⟨b,o,sp⟩:=a;have QZ:∀i,i<len+1->∃cs,W.cells? 0 ((⟨b,o,sp⟩:Addr).add (i*5)) 5=some cs/\∃y,DataW.trod enc Tryz.prog W 0 (fun _=>true) true n' 25 cs=some y:=fun i hi=>by
        have h1:=EP i hi;rw[List.getElem?_eq_getElem (by omega),Option.bind_eq_some_iff]at h1;obtain⟨cs,h2,h3⟩:=h1;exact⟨cs,h2,_,h3⟩
       have Rx:sp=none:=by
        obtain⟨cs,h2,_⟩:=QZ 0 (by omega);have h3:=(World.cells?_some h2).2.2 0 (by omega);have h4:(((⟨b,o,sp⟩:Addr).add (0*5)).add 0)=⟨b,o,sp⟩:=by
         unfold Addr.add;simp
        rw[h4]at h3;have zcD:=(World.cells?_some h2).2.1;rw[List.getElem?_eq_getElem (by omega)]at h3;exact EE h3
       subst Rx;have Da:∀m,(⟨b,o,none⟩:Addr).add m=⟨b,o+m,none⟩:=fun m=>by unfold Addr.add;split<;>simp_all
       have UK:∀m m',((⟨b,o+m,none⟩:Addr)).add m'=⟨b,o+m+m',none⟩:=fun m m'=>by unfold Addr.add;split<;>simp_all
       have hb:b<W.heap.size:=by
        obtain⟨cs,h2,_⟩:=QZ 0 (by omega);have:=World.cells?_block h2 (by decide)
        rwa [Da]at this
       obtain⟨l,Ns,OP⟩:=yg (z:=J.zero) (P:=fun i j=>∃cs,(∀m v,cs[m]?=some v->W.cell? ⟨b,o+(0+i)*5+m,none⟩=some v)/\isJ (fun b=>b<W.heap.size) W j cs) (len+1) fun i hi=>by
        obtain⟨cs,h2,y,h3⟩:=QZ i hi;obtain⟨j,hj⟩:=Ym n' cs y h3;refine⟨j,cs,fun m v hv=> ?_,hj⟩;have h5:=(World.cells?_some h2).2.2;have zcD:=(World.cells?_some h2).2.1;have hm:m<5:=by
         have:=(List.getElem?_eq_some_iff.1 hv).1;omega
        have h6:=h5 m hm;rw[Da,UK,hv]at h6;rw[show o+(0+i)*5+m=o+i*5+m by omega];exact h6
       exact⟨some ⟨b,o,none⟩,len+1,cap,l,e4,Ns.symm,by omega,OE (O:=fun b=>b<W.heap.size) hb l 0 fun i hi=>OP i (by omega)⟩
    obtain⟨pk,nk,ck,ks,rfl,rfl,hk⟩:=zcB;obtain⟨pl,nl,cl,l,rfl,rfl,DN,uI⟩:=zcC;exact⟨.mk k i t ks l,by unfold isJ;exact⟨pk,ck,pl,cl,rfl,hk,DN,uI⟩⟩
open Go Go.RowKit
theorem zeK:ownKnob Tryz.prog.godebug=none:=by kernel_rfl
def tO:List (String×DataW Unit):= [("math/bits.deBruijn32tab",Rows.laid_math_bits_deBruijn32tab),("math/bits.deBruijn64tab",Rows.laid_math_bits_deBruijn64tab),("internal/strconv.uint64pow10",Rows.laid_internal_strconv_uint64pow10),("unicode/utf8.acceptRanges",Rows.laid_unicode_utf8_acceptRanges),("unicode/utf8.first",Rows.laid_unicode_utf8_first)]
theorem zeL:Tryz.prog.globalNamed "internal/strconv.uint64pow10" =some 2:=by kernel_rfl
theorem zeM:(Tryz.prog.globals[2]?).map (·.type)=some 176:=by kernel_rfl
theorem UL(os:Os)(args:Array Value):laidMetH Tryz.prog tO ((World.laidAll Tryz.prog os tO).forCall (fun _ _=>0) ⟨#[],args, []⟩).memory:=by
 rw[MakeChecks.laidMetH_plain _ _ _ (by kernel_rfl)];exact laidMet_laidAll _ (by kernel_rfl) (by kernel_rfl)
theorem UM:(Rows.laid_internal_strconv_uint64pow10:DataW Unit)=Lib.tabData .u64 Lib.pow10Tab:=by kernel_rfl
theorem Nk:(Rows.laid_unicode_utf8_first:DataW Unit)=Lib.firstData:=by kernel_rfl
theorem JQ:(Rows.laid_unicode_utf8_acceptRanges:DataW Unit)=Lib.acceptData:=by kernel_rfl
theorem yU{W:World}(h:laidMetH Tryz.prog tO W):laidMet Tryz.prog tO W:=by
 rw[MakeChecks.laidMetH_plain _ _ _ (by kernel_rfl)]at h;exact h
theorem JR{W:World}(h:laidMetH Tryz.prog tO W):Ra W.heap.size W:=by
 refine Lib.tabBelow_of_tabIs ?_;obtain⟨g2,t2,cs2,f2,p2,m_,ht2,eZ,sI⟩:=Lib.laidMet.reads (yU h) (.tail _ (.tail _ (.head _)));obtain rfl:=Option.some.inj (zeL.symm.trans m_);obtain rfl:=Option.some.inj (zeM.symm.trans ht2);rw[UM]at sI;unfold Lib.TabIs;rw[eZ,<-Lib.cells_of_tab Tryz.underlying176 Tryz.underlying150 (by kernel_rfl) (by kernel_rfl) sI]
theorem FU{W:World}(h:laidMetH Tryz.prog tO W):Pb W.heap.size W:=by
 have hL:=yU h;have h1:=Lib.laidMet.reads hL (.tail _ (.tail _ (.tail _ (.tail _ (.head _)))));have h2:=Lib.laidMet.reads hL (.tail _ (.tail _ (.tail _ (.head _))));rw[Nk]at h1;rw[JQ]at h2;have ht:Lib.Utf8Tabs (Tryz.laysValid_ren.g 3) (Tryz.laysValid_ren.g 4) W:=utf8Tabs_of_readsT (U8Types.of196 Tryz.laysValid) ⟨by kernel_rfl,by kernel_rfl,by kernel_rfl,by kernel_rfl,by kernel_rfl,by kernel_rfl,by kernel_rfl⟩ h1 h2;intro W' hb;refine⟨fun c hc=>(hb.cell (p:=⟨_,c,none⟩) (uw (ht.1 c hc))).trans (ht.1 c hc),fun i hi=>⟨(hb.cell (p:=⟨_,2*i,none⟩) (uw (ht.2 i hi).1)).trans (ht.2 i hi).1,(hb.cell (p:=⟨_,2*i+1,none⟩) (uw (ht.2 i hi).2)).trans (ht.2 i hi).2⟩⟩
theorem FV{W:World}(h:laidMetH Tryz.prog tO W):kM W:=⟨JR h,FU h⟩
open Go.ChangeShapes Go.WideShapes Go.ChangeAt Go.RowKit
theorem Xv:Tryz.prog.cellsOf 28=16:=by kernel_rfl
theorem zaE:Tryz.prog.cellsOf 4=1:=by kernel_rfl
theorem Xw:Tryz.prog.cellsOf 26=1:=by kernel_rfl
theorem UN:Tryz.prog.cellsOf 56=2:=by kernel_rfl
section
variable {H : Type} {enc : TypeId × Value -> H} {W : World}
abbrev Wt(d:DataW H)(t:TypeId):Prop:=(d.weights Tryz.prog t).all (· <=reachBytes)=true
theorem nM{ts:List TypeId}{ds:List (DataW H)}(h:(DataW.weightsEach Tryz.prog ts ds).all (· <=reachBytes)=true){j:Nat}{t:TypeId}{d:DataW H}(ht:ts[j]?=some t)(hd:ds[j]?=some d):Wt d t:=
 List.all_eq_true.2 fun n hn=>List.all_eq_true.1 h n (DataW.weights_mem_each ht hd n hn)
theorem UO{e:TypeId}:∀{ds:List (DataW H)},(DataW.weightsAll Tryz.prog e ds).all (· <=reachBytes)=true->∀d∈ds,Wt d e
 | [],_,d,hd=>by cases hd
 | a::r,h,d,hd=>by
  simp only[DataW.weightsAll,List.all_append,Bool.and_eq_true]at h
  rcases List.mem_cons.1 hd with rfl| hd
  ·exact h.1
  ·exact UO h.2 d hd
theorem vL{s:ByteArray}{t:TypeId}(h:Wt (.lit (.string s.data.toList):DataW H) t):s.size<=140737488355328:=by
 have h1:=List.all_eq_true.1 h s.data.toList.length (by simp[DataW.weights]);have h2:s.data.toList.length<=reachBytes:=by simpa using h1
 have h3:=reachBytes_lt;have h4:s.data.toList.length=s.size:=by simp
 omega
theorem UQ{gD:Nat}{c:Value}{y:DataW H×List MemPlace}(h:DataW.trod enc Tryz.prog W 0 (fun _=>true) true gD 22 [c]=some y):∃pk ck ks,c=.slice pk (List.length ks) ck/\jT (fun b=>b<W.heap.size) W pk ck ks:=by
 rcases open_strings Tryz.underlying22 Tryz.underlying9 rE h with⟨e3,_⟩| ⟨a,len,cap,ss,e3,_,DN,_,Ti,_,gV,_⟩
 ·simp only[List.cons.injEq,and_true]at e3;exact⟨none,0, [],e3,jT.nil _ _⟩
 ·simp only[List.cons.injEq,and_true]at e3;simp only[if_true]at Ti;have hl:(ss.take len).length=len:=by simp;omega
  refine⟨some a,cap,ss.take len,by rw[hl];exact e3,by rw[hl];exact DN,fun j hj=>⟨a,rfl, ?_, ?_⟩⟩
  ·have zQ:j<len:=by rw[hl]at hj;exact hj
   have:=uw (gV j (by omega))
   rwa [aY]at this
  ·have zQ:j<len:=by rw[hl]at hj;exact hj
   rw[gV j (by omega)]
   congr 2
   rw[List.getD_eq_getElem?_getD,List.getD_eq_getElem?_getD,List.getElem?_take,if_pos zQ,List.getElem?_eq_getElem (by omega)]
   rfl
theorem zcE{gD:Nat}{c:Value}{y:DataW H×List MemPlace}(h:DataW.trod enc Tryz.prog W 0 (fun _=>true) true gD 26 [c]=some y)(hw:Wt y.1 26):∃p k l,c=.slice p (List.length l) k/\Aa (fun b=>b<W.heap.size) W p k l/\∀x∈l,x.1.size<=140737488355328/\x.2.size<=140737488355328:=by
 rcases DataW.trod_slice Tryz.underlying26 h with⟨e4,_⟩| ⟨a,len,cap,elems,rest,n',hn',e4,hy,_,DN,_,hel,EP,_,_⟩
 ·simp only[List.cons.injEq,and_true]at e4;exact⟨none,0, [],e4,Aa.nil _ _ _ _,fun x hx=>by cases hx⟩
 ·simp only[List.cons.injEq,and_true]at e4;rw[UN]at EP;have hwe:∀d∈elems.map (·.1),Wt d 56:=by
   rw[hy]at hw;have hw':((((elems.map (·.1)).length+(rest.map (·.1)).length)*Tryz.prog.bytesOf 56)::(DataW.weightsAll Tryz.prog 56 (elems.map (·.1))++DataW.weightsAll Tryz.prog 56 (rest.map (·.1)))).all (· <=reachBytes)=true:=by
    have e:DataW.weights Tryz.prog 26 (.slice (elems.map (·.1)) (rest.map (·.1)))=(((elems.map (·.1)).length+(rest.map (·.1)).length)*Tryz.prog.bytesOf 56)::(DataW.weightsAll Tryz.prog 56 (elems.map (·.1))++DataW.weightsAll Tryz.prog 56 (rest.map (·.1))):=by
     simp only[DataW.weights,Tryz.underlying26]
    rw[<-e];exact hw
   simp only[List.all_cons,List.all_append,Bool.and_eq_true]at hw';exact UO hw'.2.1
  cases len with
  | zero=>exact⟨some a,cap, [],e4,Aa.nil _ _ _ _,fun x hx=>by cases hx⟩
  | succ len=>
   obtain⟨b,o,sp⟩:=a;have QZ:∀i,i<len+1->∃u v,W.cell? ((⟨b,o,sp⟩:Addr).add (i*2))=some (.string u)/\W.cell? (((⟨b,o,sp⟩:Addr).add (i*2)).add 1)=some (.string v)/\u.size<=140737488355328/\v.size<=140737488355328:=fun i hi=>by
    have h1:=EP i hi;rw[List.getElem?_eq_getElem (by omega),Option.bind_eq_some_iff]at h1;obtain⟨cs,h2,h3⟩:=h1;have hwi:=hwe (elems[i]'(by omega)).1 (List.mem_map_of_mem (List.getElem_mem _));obtain⟨xs,n,_,hx,hl,cB,Dc⟩:=DataW.trod_struct Tryz.underlying56 h3;rw[UN]at hl;rw[hx]at hwi;have zcF:(DataW.weightsEach Tryz.prog [9,9] (xs.map (·.1))).all (· <=reachBytes)=true:=by
     have e:DataW.weights Tryz.prog 56 (.agg (xs.map (·.1)))=DataW.weightsEach Tryz.prog [9,9] (xs.map (·.1)):=by
      simp only[DataW.weights,Tryz.underlying56]
      rfl
     rw[<-e];exact hwi
    obtain⟨c0,c1,rfl⟩:∃c0 c1,cs= [c0,c1]:=by
     match cs,hl with
     | [c0,c1],_=>exact⟨c0,c1,rfl⟩
    obtain⟨y0,y1,rfl⟩:∃y0 y1,xs= [y0,y1]:=by
     match xs,cB with
     | [y0,y1],_=>exact⟨y0,y1,rfl⟩
    ·· have g0:DataW.trod enc Tryz.prog W 0 (fun _=>true) true n 9 (([c0,c1].drop 0).take (Tryz.prog.cellsOf 9))=some y0:=Dc 0 _ rfl
       have g1:DataW.trod enc Tryz.prog W 0 (fun _=>true) true n 9 (([c0,c1].drop 1).take (Tryz.prog.cellsOf 9))=some y1:=Dc 1 _ rfl;rw[rE]at g0 g1;obtain⟨u,e0,x0,_⟩:=DataW.trod_string Tryz.underlying9 (show DataW.trod enc Tryz.prog W 0 (fun _=>true) true n 9 [c0]=some y0 from g0);obtain⟨v,e1,x1,_⟩:=DataW.trod_string Tryz.underlying9 (show DataW.trod enc Tryz.prog W 0 (fun _=>true) true n 9 [c1]=some y1 from g1);simp only[List.cons.injEq,and_true]at e0 e1;subst e0 e1;have h5:=(World.cells?_some h2).2.2;have a0:=h5 0 (by decide);have a1:=h5 1 (by decide);have ez:((⟨b,o,sp⟩:Addr).add (i*2)).add 0=(⟨b,o,sp⟩:Addr).add (i*2):=by unfold Addr.add;simp
       rw[ez]at a0;have z0:=nM zcF (j:=0) rfl rfl;have z1:=nM zcF (j:=1) rfl rfl;rw[x0]at z0;rw[x1]at z1;exact⟨u,v,a0,a1,vL z0,vL z1⟩
   have Rx:sp=none:=by
    obtain⟨u,v,h1,_⟩:=QZ 0 (by omega);have h4:(⟨b,o,sp⟩:Addr).add (0*2)=⟨b,o,sp⟩:=by unfold Addr.add;simp
    rw[h4]at h1;exact EE h1
   subst Rx;have Da:∀m,(⟨b,o,none⟩:Addr).add m=⟨b,o+m,none⟩:=fun m=>by unfold Addr.add;split<;>simp_all
   have UK:∀m m',((⟨b,o+m,none⟩:Addr)).add m'=⟨b,o+m+m',none⟩:=fun m m'=>by unfold Addr.add;split<;>simp_all
   obtain⟨l,Ns,OP⟩:=yg (z:=(aH,aH)) (P:=fun i (x:ByteArray×ByteArray)=>W.cell? ⟨b,o+i*2,none⟩=some (.string x.1)/\W.cell? ⟨b,o+i*2+1,none⟩=some (.string x.2)/\x.1.size<=140737488355328/\x.2.size<=140737488355328) (len+1) fun i hi=>by
    obtain⟨u,v,h1,h2,h3,h4⟩:=QZ i hi;rw[Da]at h1;rw[Da,UK]at h2;exact⟨(u,v),h1,h2,h3,h4⟩
   refine⟨some ⟨b,o,none⟩,cap,l,by rw[Ns];exact e4,⟨by omega,fun j hj=>⟨b,o,rfl, ?_,(OP j (by omega)).1,(OP j (by omega)).2.1⟩⟩,fun x hx=> ?_⟩
   ·exact uw (OP j (by omega)).1
   ·obtain⟨y,hy,rfl⟩:=List.getElem_of_mem hx;have:=OP y (by omega);rw[List.getD_eq_getElem?_getD,List.getElem?_eq_getElem hy]at this;exact this.2.2
theorem zcG:∀(gD:Nat) (cs:List Value) (x:DataW H×List MemPlace),DataW.trod enc Tryz.prog W 0 (fun _=>true) true gD 28 cs=some x->Wt x.1 28->∃e p,cs=eP e p/\mF (fun b=>b<W.heap.size) W e p/\Uy e:=by
 intro gD cs x h hw0;obtain⟨xs,gD,_,hx,hl,cB,Dc⟩:=DataW.trod_struct Tryz.underlying28 h;rw[Xv]at hl;have hw:(DataW.weightsEach Tryz.prog [9,9,9,4,9,25,22,22,2,2,9,26] (xs.map (·.1))).all (· <=reachBytes)=true:=by
  have e:DataW.weights Tryz.prog 28 (.agg (xs.map (·.1)))=DataW.weightsEach Tryz.prog [9,9,9,4,9,25,22,22,2,2,9,26] (xs.map (·.1)):=by
   simp only[DataW.weights,Tryz.underlying28]
   rfl
  rw[<-e];rw[hx]at hw0;exact hw0
 clear hx hw0 h
 match cs,hl with
 | [c0,c1,c2,c3,c4,c5,c6,c7,c8,c9,gI,kW,EM,mO,J2,kX],_=>
  match xs,cB with
  | [y0,y1,y2,y3,y4,y5,y6,y7,y8,y9,y10,y11],_=>
   have g0:DataW.trod enc Tryz.prog W 0 (fun _=>true) true gD 9 (([c0,c1,c2,c3,c4,c5,c6,c7,c8,c9,gI,kW,EM,mO,J2,kX].drop 0).take (Tryz.prog.cellsOf 9))=some y0:=Dc 0 _ rfl;rw[rE]at g0;have f0:DataW.trod enc Tryz.prog W 0 (fun _=>true) true gD 9 [c0]=some y0:=g0;have g1:DataW.trod enc Tryz.prog W 0 (fun _=>true) true gD 9 (([c0,c1,c2,c3,c4,c5,c6,c7,c8,c9,gI,kW,EM,mO,J2,kX].drop 1).take (Tryz.prog.cellsOf 9))=some y1:=Dc 1 _ rfl;rw[rE]at g1;have f1:DataW.trod enc Tryz.prog W 0 (fun _=>true) true gD 9 [c1]=some y1:=g1;have g2:DataW.trod enc Tryz.prog W 0 (fun _=>true) true gD 9 (([c0,c1,c2,c3,c4,c5,c6,c7,c8,c9,gI,kW,EM,mO,J2,kX].drop 2).take (Tryz.prog.cellsOf 9))=some y2:=Dc 2 _ rfl;rw[rE]at g2;have f2:DataW.trod enc Tryz.prog W 0 (fun _=>true) true gD 9 [c2]=some y2:=g2;have g3:DataW.trod enc Tryz.prog W 0 (fun _=>true) true gD 4 (([c0,c1,c2,c3,c4,c5,c6,c7,c8,c9,gI,kW,EM,mO,J2,kX].drop 3).take (Tryz.prog.cellsOf 4))=some y3:=Dc 3 _ rfl;rw[zaE]at g3;have f3:DataW.trod enc Tryz.prog W 0 (fun _=>true) true gD 4 [c3]=some y3:=g3;have g4:DataW.trod enc Tryz.prog W 0 (fun _=>true) true gD 9 (([c0,c1,c2,c3,c4,c5,c6,c7,c8,c9,gI,kW,EM,mO,J2,kX].drop 4).take (Tryz.prog.cellsOf 9))=some y4:=Dc 4 _ rfl;rw[rE]at g4;have f4:DataW.trod enc Tryz.prog W 0 (fun _=>true) true gD 9 [c4]=some y4:=g4;have g5:DataW.trod enc Tryz.prog W 0 (fun _=>true) true gD 25 (([c0,c1,c2,c3,c4,c5,c6,c7,c8,c9,gI,kW,EM,mO,J2,kX].drop 5).take (Tryz.prog.cellsOf 25))=some y5:=Dc 5 _ rfl;rw[Nj]at g5;have f5:DataW.trod enc Tryz.prog W 0 (fun _=>true) true gD 25 [c5,c6,c7,c8,c9]=some y5:=g5;have g6:DataW.trod enc Tryz.prog W 0 (fun _=>true) true gD 22 (([c0,c1,c2,c3,c4,c5,c6,c7,c8,c9,gI,kW,EM,mO,J2,kX].drop 10).take (Tryz.prog.cellsOf 22))=some y6:=Dc 6 _ rfl;rw[FT]at g6;have f6:DataW.trod enc Tryz.prog W 0 (fun _=>true) true gD 22 [gI]=some y6:=g6;have g7:DataW.trod enc Tryz.prog W 0 (fun _=>true) true gD 22 (([c0,c1,c2,c3,c4,c5,c6,c7,c8,c9,gI,kW,EM,mO,J2,kX].drop 11).take (Tryz.prog.cellsOf 22))=some y7:=Dc 7 _ rfl;rw[FT]at g7;have f7:DataW.trod enc Tryz.prog W 0 (fun _=>true) true gD 22 [kW]=some y7:=g7;have g8:DataW.trod enc Tryz.prog W 0 (fun _=>true) true gD 2 (([c0,c1,c2,c3,c4,c5,c6,c7,c8,c9,gI,kW,EM,mO,J2,kX].drop 12).take (Tryz.prog.cellsOf 2))=some y8:=Dc 8 _ rfl;rw[FR]at g8;have f8:DataW.trod enc Tryz.prog W 0 (fun _=>true) true gD 2 [EM]=some y8:=g8;have g9:DataW.trod enc Tryz.prog W 0 (fun _=>true) true gD 2 (([c0,c1,c2,c3,c4,c5,c6,c7,c8,c9,gI,kW,EM,mO,J2,kX].drop 13).take (Tryz.prog.cellsOf 2))=some y9:=Dc 9 _ rfl;rw[FR]at g9;have f9:DataW.trod enc Tryz.prog W 0 (fun _=>true) true gD 2 [mO]=some y9:=g9;have Q0:DataW.trod enc Tryz.prog W 0 (fun _=>true) true gD 9 (([c0,c1,c2,c3,c4,c5,c6,c7,c8,c9,gI,kW,EM,mO,J2,kX].drop 14).take (Tryz.prog.cellsOf 9))=some y10:=Dc 10 _ rfl;rw[rE]at Q0;have f10:DataW.trod enc Tryz.prog W 0 (fun _=>true) true gD 9 [J2]=some y10:=Q0;have g11:DataW.trod enc Tryz.prog W 0 (fun _=>true) true gD 26 (([c0,c1,c2,c3,c4,c5,c6,c7,c8,c9,gI,kW,EM,mO,J2,kX].drop 15).take (Tryz.prog.cellsOf 26))=some y11:=Dc 11 _ rfl;rw[Xw]at g11;have f11:DataW.trod enc Tryz.prog W 0 (fun _=>true) true gD 26 [kX]=some y11:=g11;obtain⟨room,e0,x0,_⟩:=DataW.trod_string Tryz.underlying9 f0;obtain⟨aQ,e1,x1,_⟩:=DataW.trod_string Tryz.underlying9 f1;obtain⟨ah,e2,x2,_⟩:=DataW.trod_string Tryz.underlying9 f2;obtain⟨st,e3,x3⟩:=DataW.trod_bool Tryz.underlying4 f3;obtain⟨key,e4,x4,_⟩:=DataW.trod_string Tryz.underlying9 f4;obtain⟨cont,hj⟩:=Ym gD _ _ f5;obtain⟨k,i,t,pk,nk,ck,pl,nl,cl,e5⟩:=dD hj;rw[e5]at hj;obtain⟨q1,q2,q3,q4,q5,_⟩:=dt hj;obtain⟨zcH,zcI,prev,e6,zcJ⟩:=UQ f6;obtain⟨zcK,zcL,aC,e7,zcM⟩:=UQ f7;obtain⟨depth,e8,_,_⟩:=DataW.trod_int Tryz.underlying2 f8;obtain⟨ts,e9,_,_⟩:=DataW.trod_int Tryz.underlying2 f9;obtain⟨hash,Oc,FL,_⟩:=DataW.trod_string Tryz.underlying9 f10;obtain⟨zcN,zcO,sigs,P_,zcP,zaF⟩:=zcE f11 (nM hw (j:=11) rfl rfl);simp only[List.cons.injEq,and_true]at e0 e1 e2 e3 e4 e5 e8 e9 Oc;obtain⟨w0,w1,w2,w3,w4⟩:=e5;subst e0 e1 e2 e3 e4 e6 e7 e8 e9 Oc P_ w0 w1 w2 w3 w4;have z0:room.size<=140737488355328:=by
    have h:=nM hw (j:=0) rfl rfl;rw[x0]at h;exact vL h
   have z1:aQ.size<=140737488355328:=by
    have h:=nM hw (j:=1) rfl rfl;rw[x1]at h;exact vL h
   have z2:ah.size<=140737488355328:=by
    have h:=nM hw (j:=2) rfl rfl;rw[x2]at h;exact vL h
   have z4:key.size<=140737488355328:=by
    have h:=nM hw (j:=4) rfl rfl;rw[x4]at h;exact vL h
   have z10:hash.size<=140737488355328:=by
    have h:=nM hw (j:=10) rfl rfl;rw[FL]at h;exact vL h
   subst q4 q5;refine⟨⟨room,aQ,ah,st,key,cont,prev,aC,depth,ts,hash,sigs⟩,⟨pk,ck,pl,cl,zcH,zcI,zcK,zcL,zcN,zcO⟩, ?_,⟨?_,zcJ,zcM,zcP⟩,⟨z0,z1,z2,z4,z10,zaF⟩⟩
   ·unfold eP;simp only[q1,q2,q3]
   ·unfold pO;simp only[q1,q2,q3];exact hj
end
end Go.Proofs.YtegcgbjjpgjnmaaGreatDoor
