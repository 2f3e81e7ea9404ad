/- A part. -/
import Derived.Test.YtldegjjaknelgaaGreatDoorAR24
set_option maxRecDepth 100000
set_option maxHeartbeats 64000000
namespace Go.Proofs.YtldegjjaknelgaaGreatDoor
open Go.RowKit
structure QW(O:Nat->Prop)(c:J)(ks:List ByteArray)(W3:World)(cb N0 k:Nat)(pk:Option Addr)(nk ck:Nat)(pl:Option Addr)(nl cl:Nat)(wr:World):Prop where
 nL:wr.heap[cb]?=some (.cells #[.int .i64 5,.int .i64 0,.string ⟨#[]⟩,.slice pk nk ck,.slice pl nl cl] 25 (0,0))
 isj:isJ (fun b=>O b\/ (N0<=b/\b<wr.heap.size)) wr (gI (ks.take k) c) [.int .i64 5,.int .i64 0,.string ⟨#[]⟩,.slice pk nk ck,.slice pl nl cl]
 pkn:pk=none->ck=0
 pln:pl=none->cl=0
 nkl:nk<=k
 nll:nl<=k
 fA:av (aQ cb) W3 wr
theorem NI{c:J}{ks:List ByteArray}{k:Nat}(hk:k<ks.length):gI (ks.take (k+1)) c=match dL c (ks.getD k aN)with| none=>gI (ks.take k) c| some v=>.mk 5 0 aN ((gI (ks.take k) c).keys++ [ks.getD k aN]) ((gI (ks.take k) c).list++ [v]):=by
 unfold gI;rw[List.take_succ_eq_append_getElem hk,List.filter_append,List.filterMap_append,List.getD_eq_getElem?_getD,List.getElem?_eq_getElem hk];dsimp only[Option.getD_some]
 cases hg:dL c ks[k]with
 | none=>simp[hg]
 | some v=>simp[hg,J.keys,J.list]
theorem pz{w:World}{b t o n:Nat}{cs:List Value}(h:w.heap[b]?=some (.cells cs.toArray t (0,0)))(hn:o+n<=cs.length):w.there b o n:=fun j hj=>by
 refine⟨?_,ou h _⟩;have bH:o+j<cs.toArray.size:=by simp;omega
 rw[ay h (o+j) _ (Array.getElem?_eq_getElem bH)]
 rfl
theorem pE(k i:Int)(t:ByteArray)(p:Option Addr)(n c:Nat)(q:Option Addr)(m d:Nat):(#[.int .i64 k,.int .i64 i,.string t,.slice p n c,.slice q m d]:Array Value).all (·.oneCell')=true:=all_oneCell_toArray (cs:= [.int .i64 k,.int .i64 i,.string t,.slice p n c,.slice q m d]) fun v hv=>by
 simp only[List.mem_cons,List.not_mem_nil,or_false]at hv
 rcases hv with rfl| rfl| rfl| rfl| rfl<;>rfl
theorem t_{w:World}{b t:Nat}{cs vs:List Value}(h:w.heap[b]?=some (.cells cs.toArray t (0,0)))(hl:cs.length=vs.length):(w.setCells b 0 vs).heap[b]?=some (.cells vs.toArray t (0,0)):=by
 have:=kD b t vs [] cs [] w (by simpa using h) hl;simpa using this
theorem wG{O:Nat->Prop}{w:World}{e:Ev}{p:Pt}(h:iL O w e p)(hO:∀b,O b->b<w.heap.size)(hz:xe e)(hr:e.room.size<=1000000)(hu:e.ag.size<=1000000)(hs:aG e=true):
    Calls Tryz.prog 17 #[dZ e p] w fun x w'=>(∃q,x=.returned (dZ (cB e) q)/\iL (fun b=>O b\/ (w.heap.size<=b/\b<w'.heap.size)) w' (cB e) q)/\Below w.heap.size w w':=by
 obtain⟨W0,fw⟩:∃W0,W0=(w.alloc (.cells (aB e p).toArray 28)).alloc (.cells (aB Ev.zero Pt.zero).toArray 28):=⟨_,rfl⟩;have dS:Below w.heap.size w W0:=by rw[fw];exact((Below.refl _ _).alloc (Nat.le_refl _) _).alloc (by simp) _
 have hs0:W0.heap.size=w.heap.size+2:=by rw[fw];simp
 have r9:W0.heap[w.heap.size]?=some (.cells (aB e p).toArray 28 (0,0)):=by
  rw[fw];exact(((Below.refl _ (w.alloc (.cells (aB e p).toArray 28))).alloc (Nat.le_refl _) _).block _ (by simp)).trans (bR _)
 have hXR:W0.heap[w.heap.size+1]?=some (.cells (aB Ev.zero Pt.zero).toArray 28 (0,0)):=by
  rw[fw,show w.heap.size+1=(w.alloc (.cells (aB e p).toArray 28)).heap.size by simp];exact bR _
 have hV:=kC h hO dS r9;have HV:Hid (∀X,Below W0.heap.size W0 X->kZ X w.heap.size e p):=fun X hX=>hV.below hX;have Ug:Hid (∀X,Below W0.heap.size W0 X->(Instr.loadAt 28 (.pointer (some ⟨w.heap.size,0,none⟩))).run Tryz.prog X=.ok (.agg (aB e p).toArray) X):=fun X hX=>run_loadAt_mid X w.heap.size 0 28 (aB e p) _ (HV.out X hX).iW Tryz.underlying28 rfl eQ;have Uh:=vD e p W0 hV.ev (fun _ h=>h) hz hr hu;rw[hs]at Uh;have HKY:Hid (∀X,Calls Tryz.prog 42 #[.string e.aK] X fun x w'=>(∃q c,x=.returned (.slice q (dF e.aK).length c)/\ig (fun b=>X.heap.size<=b/\b<w'.heap.size) w' q c (dF e.aK))/\Below X.heap.size X w'):=fun X=>JS e.aK X;have AJ:Hid (szJ 12 e.content=true):=hz.cont;have HCE:Hid (isJ O w e.content [.int .i64 e.content.kind,.int .i64 e.content.int,.string e.content.text,.slice p.pk e.content.keys.length p.ck,.slice p.pl e.content.list.length p.cl]):=h.cont;have HPV:Hid (ig O w p.pp p.cp e.prev):=h.prev;have HAU:Hid (ig O w p.pa p.ca e.aA):=h.aA;have HSG:Hid (Dv O w p.ps p.cs e.sigs):=h.sigs;have HRE:Hid (cB e={e with content:=Co (gI (dF e.aK) e.content)}):=by show _=_;unfold cB;rw[if_pos hs]
 have NR:Hid ((dF e.aK).length<=9/\∀k∈dF e.aK,k.size<=100):=zb e.aK;have hB0:Below W0.heap.size W0 W0:=Below.refl _ _;clear h hz hV;unfold dZ at Uh ⊢;generalize qf:dF e.aK=ks at HKY HRE NR;clear qf;go_enter Tryz.func17,Tryz.ntmps17
 go_upto_region 1 with fail
 change Code.wp _ _ _ _ ((w.alloc (.cells (aB e p).toArray 28)).alloc (.cells (aB Ev.zero Pt.zero).toArray 28));rw[<-fw];clear fw
 go_upto_region 3 with(first
  | (refine bP (by kernel_rfl) 28 _ rfl w.heap.size 0 rfl (aB e p) (Ug.out _ hB0) ?_)
  | (go_at_call 16;refine Uh.mono ?_;rintro x w1 ⟨rfl,aP⟩))
 have et:=(HV.out _ aP).aK
 go_upto_region 5 with(go_at_call 42;refine(HKY.out _).mono ?_;rintro x w2 ⟨⟨kq,kc,rfl,hkr⟩,aT⟩)
 obtain⟨W3,vZ⟩:∃W3,W3=w2.alloc (.cells #[.int .i64 5,.int .i64 0,.string ⟨#[]⟩,.slice none 0 0,.slice none 0 0] 25):=⟨_,rfl⟩;rw[<-vZ];have dA:Below w2.heap.size w2 W3:=by rw[vZ];exact(Below.refl _ _).alloc (Nat.le_refl _) _
 have Yj:W3.heap[w2.heap.size]?=some (.cells #[.int .i64 5,.int .i64 0,.string ⟨#[]⟩,.slice none 0 0,.slice none 0 0] 25 (0,0)):=by rw[vZ];exact bR _
 have hs3:W3.heap.size=w2.heap.size+1:=by rw[vZ];simp
 have jm:=ah aP aT;have kW:=ah jm dA;have PK:w.heap.size+2<=w2.heap.size:=by rw[<-hs0];exact jm.size
 obtain⟨cb,ze⟩:∃cb,cb=w2.heap.size:=⟨_,rfl⟩;rw[<-ze]at Yj hs3 PK;have HKP:Hid (∀X,av (aQ cb) W3 X->kZ X w.heap.size e p/\X.heap[w.heap.size+1]?=some (.cells (aB Ev.zero Pt.zero).toArray 28 (0,0))/\ig (· <cb) X kq kc ks/\Below w.heap.size w X):=fun X hX=>by
  have zj8:=kW;have hV3:=HV.out W3 kW;have k1:∀b,b<w.heap.size->X.heap[b]?=W3.heap[b]?:=fun b hb=>hX.block b (by omega) (fun h=>by have:b=cb:=h;omega);refine⟨⟨(hX.block _ (by omega) (fun h=>by have:w.heap.size=cb:=h;omega)).trans hV3.nL, ?_⟩, ?_, ?_, ?_⟩
  ·have FQ:Below w.heap.size w X:=⟨hX.os.trans (ah dS kW).os,hX.tape.trans (ah dS kW).tape,hX.output.trans (ah dS kW).output,Nat.le_trans (ah dS kW).size hX.size,fun b hb=>(k1 b hb).trans ((ah dS kW).block b hb)⟩;exact⟨HCE.out.carry fun b hb=>⟨Nat.lt_of_lt_of_le (hO b hb) FQ.size,FQ.block b (hO b hb)⟩,HPV.out.carry fun b hb=>⟨Nat.lt_of_lt_of_le (hO b hb) FQ.size,FQ.block b (hO b hb)⟩,HAU.out.carry fun b hb=>⟨Nat.lt_of_lt_of_le (hO b hb) FQ.size,FQ.block b (hO b hb)⟩,HSG.out.carry fun b hb=>⟨Nat.lt_of_lt_of_le (hO b hb) FQ.size,FQ.block b (hO b hb)⟩⟩
  ·exact(hX.block _ (by omega) (fun h=>by have:w.heap.size+1=cb:=h;omega)).trans ((kW.block _ (aO hXR)).trans hXR)
  ·exact hkr.carry fun b hb=>⟨by have:=hb.2;omega,(hX.block b (by have:=hb.2;omega) (fun h=>by have:b=cb:=h;have:=hb.2;omega)).trans (dA.block b hb.2)⟩
  ·exact⟨hX.os.trans (ah dS kW).os,hX.tape.trans (ah dS kW).tape,hX.output.trans (ah dS kW).output,Nat.le_trans (ah dS kW).size hX.size,fun b hb=>(k1 b hb).trans ((ah dS kW).block b hb)⟩
 rw[show(Value.pointer (some ⟨w2.heap.size,0,none⟩))=.pointer (some ⟨cb,0,none⟩) by rw[ze]];have Mh:ks.length<=kc:=hkr.1;have F9:ks.length<=9:=NR.out.1;have HI0:Hid (QW O e.content ks W3 cb W3.heap.size 0 none 0 0 none 0 0 W3):=⟨Yj,(show isJ _ _ (J.mk 5 0 aN [] []) _ from by unfold isJ;exact⟨none,0,none,0,rfl,ig.nil _ _,Nat.le_refl _,by unfold isJs;trivial⟩),fun _=>rfl,fun _=>rfl,Nat.le_refl _,Nat.le_refl _,av.refl _ _⟩;clear hkr aP aT dA jm r9 hXR Yj vZ ze et HV Ug HKY;go_wp2
 go_loopw [5] (fun i wr=>∃k pk nk ck pl nl cl,k<=ks.length/\i=.int .i64 (k:Nat)/\Hid (QW O e.content ks W3 cb W3.heap.size k pk nk ck pl nl cl wr)) (fun i _=>ks.length - (intOf i).toNat)
 case atStart=>exact⟨0,none,0,0,none,0,0,Nat.zero_le _,rfl,HI0⟩
 case round=>
  obtain⟨k,pk,nk,ck,pl,nl,cl,hk,rfl,Ef⟩:=hrel
  by_cases bH:k<ks.length
  ·have Ob:(k:Int)<(ks.length:Int):=by omega
   obtain⟨hV,_,hkr,bX⟩:=HKP.out wr Ef.out.fA;obtain⟨a,rfl,jH,rW⟩:=hkr.2 k bH;have HX:Hid (∀X,Below wr.heap.size wr X->kZ X w.heap.size e p/\X.cell? (a.add k)=some (.string (ks.getD k aN))/\X.cell? ⟨cb,0,none⟩=some (.int .i64 5)):=fun X hX=>⟨hV.below hX,(World.cell?_of_block (a:=a.add k) (hX.block _ (by rw[show(a.add k).block=a.block by obtain⟨ab,ao,zds⟩:=a;unfold Addr.add;split<;>rfl];have:=Ef.out.fA.size;omega))).trans rW,(World.cell?_of_block (a:=⟨cb,0,none⟩) (hX.block _ (aO Ef.out.nL))).trans (ay Ef.out.nL 0 _ rfl)⟩;have Tf:=(show Hid _ from NI (c:=e.content) bH);have RJ:Hid (∀X,Below wr.heap.size wr X->Calls Tryz.prog 43 #[.agg #[.int .i64 e.content.kind,.int .i64 e.content.int,.string e.content.text,.slice p.pk e.content.keys.length p.ck,.slice p.pl e.content.list.length p.cl],.string (ks.getD k aN)] X fun x w'=>Io O w' (dL e.content (ks.getD k aN)) x/\Below X.heap.size X w'):=fun X hX=>SF (O:=O) (HCE.out.carry fun b hb=>⟨hb,(hX.block b (Nat.lt_of_lt_of_le (hO b hb) bX.size)).trans (bX.block b (hO b hb))⟩) (fun b hb=>Nat.lt_of_lt_of_le (hO b hb) (ah bX hX).size) (o5 AJ.out) (ks.getD k aN);have Wo:Hid ((ks.getD k aN).size<=100):=NR.out.2 _ (by rw[List.getD_eq_getElem?_getD,List.getElem?_eq_getElem bH];exact List.getElem_mem bH);generalize ks.getD k aN=key at HX Tf RJ Wo;generalize hgt:dL e.content key=gt at RJ Tf;clear hV hkr rW hgt
   cases gt with
   | none=>
    have HG:Hid (∀X,Below wr.heap.size wr X->Calls Tryz.prog 43 #[.agg #[.int .i64 e.content.kind,.int .i64 e.content.int,.string e.content.text,.slice p.pk e.content.keys.length p.ck,.slice p.pl e.content.list.length p.cl],.string key] X fun x w'=>x=.returned (.tuple #[.agg #[.int .i64 0,.int .i64 0,.string ⟨#[]⟩,.slice none 0 0,.slice none 0 0],.bool false])/\Below X.heap.size X w'):=RJ;have Vj:Hid (∀X,Below wr.heap.size wr X->QW O e.content ks W3 cb W3.heap.size (k+1) pk nk ck pl nl cl X):=fun X hX=>by
     have r:=Ef.out;refine⟨(hX.block _ (aO r.nL)).trans r.nL, ?_,r.pkn,r.pln,Nat.le_succ_of_le r.nkl,Nat.le_succ_of_le r.nll,r.fA.then (av.aW hX)⟩;rw[Tf.out];exact r.isj.carry fun b hb=>by
      have bH:b<wr.heap.size:=hb.elim (fun h=>Nat.lt_of_lt_of_le (hO b h) bX.size) (fun h=>h.2);exact⟨hb.elim .inl (fun h=>.inr ⟨h.1,Nat.lt_of_lt_of_le h.2 hX.size⟩),hX.block b bH⟩
    clear RJ Tf
    go_upto_region 8 with fail
    refine aF (by kernel_rfl) (fun w'=>Below wr.heap.size wr w') ?_;change wpIn _ _ _ _ _ _ _ _ (World.drew _);have hD:Below wr.heap.size wr wr.drew:=(Below.refl _ _).drew;refine aa (i:=0) (d:=some 23) rfl ?_;refine ae (i:=1) (d:=(some 24)) (v:=(.agg #[.int .i64 e.content.kind,.int .i64 e.content.int,.string e.content.text,.slice p.pk e.content.keys.length p.ck,.slice p.pl e.content.list.length p.cl])) (a':= ?aqn1) rfl rfl (by kernel_rfl) (by kernel_rfl) (by kernel_rfl) (fun _ _ _ h=>h) (Or.inl ⟨by rfl, ?yqn1⟩) ?fqn1 ?_
    case yqn1=>exact fun wq hq=>b_ rfl rfl ((HX.out wq hq).1.Yd)
    case fqn1=>(go_frame;rfl)
    refine aa (i:=2) (d:=some 25) rfl ?_;refine aa (i:=3) (d:=some 26) rfl ?_;refine aa (i:=4) (d:=some 27) rfl ?_;refine az (i:=5) (d:=some 28) rfl (by(intro wq hq;have zf:=(HX.out wq hq).2.1;go_simp;first| done| with_reducible rfl)) ?_;refine bY (i:=6) (j:=10) hD (by kernel_rfl) rfl rfl (by rfl) (by rfl) ?_ ?_
    ·intro K hK;go_simp;go_wp2_with(go_at_call 43;refine(HG.out _ hD).mono ?_;rintro x w5 ⟨rfl,iJ⟩);have oC:=ah hD iJ;refine aa (i:=7) (d:=some 22) rfl ?_;refine aa (i:=8) (d:=some 30) rfl ?_;refine aa (i:=9) (d:=some 31) rfl ?_;refine ak (i:=10) oC rfl ?_;intro K hK;go_simp;go_wp2;have Bi:Below wr.heap.size wr _:=oC.alloc oC.size (.cells #[.int .i64 0,.int .i64 0,.string ⟨#[]⟩,.slice none 0 0,.slice none 0 0] 25);refine ak (i:=11) Bi rfl ?_;intro K hK;go_simp;go_wp2;have hD7:Below wr.heap.size wr _:=oC.alloc oC.size (.cells #[.int .i64 0,.int .i64 0,.string ⟨#[]⟩,.slice none 0 0,.slice none 0 0] 25);refine aa (i:=12) (d:=some 7) rfl ?_;refine aD hD7 (by kernel_rfl) ?_ _;go_wp2;go_roundw
     case rel=>exact⟨k+1,pk,nk,ck,pl,nl,cl,bH,by go_num,Vj.out _ hD7⟩
     case measure=>simp[intOf];omega
    ·intro K hK;go_simp;go_wp2;have Fp:Below wr.heap.size wr _:=((Below.refl _ wr).alloc (Nat.le_refl _) (.cells #[.int .i64 0,.int .i64 0,.string ⟨#[]⟩,.slice none 0 0,.slice none 0 0] 25)).drew;have QF:(wr.alloc (.cells #[.int .i64 0,.int .i64 0,.string ⟨#[]⟩,.slice none 0 0,.slice none 0 0] 25)).drew.heap[wr.heap.size]?=some (.cells #[.int .i64 0,.int .i64 0,.string ⟨#[]⟩,.slice none 0 0,.slice none 0 0] 25 (0,0)):=bR (w:=wr) _;generalize (wr.alloc (.cells #[.int .i64 0,.int .i64 0,.string ⟨#[]⟩,.slice none 0 0,.slice none 0 0] 25)).drew=w4 at Fp QF ⊢;refine ak (i:=6) Fp rfl ?_;intro K hK;go_simp;go_wp2_with(go_at_call 43;refine(HG.out _ Fp).mono ?_;rintro x w5 ⟨rfl,iJ⟩);have oC:=ah Fp iJ;have TV:=(iJ.block _ (aO QF)).trans QF;refine aa (i:=7) (d:=some 22) rfl ?_;refine aa (i:=8) (d:=some 30) rfl ?_;refine aa (i:=9) (d:=some 31) rfl ?_;refine ak (i:=11) oC rfl ?_;intro K hK;refine wp_store_mid 25 _ _ rfl wr.heap.size 0 #[.int .i64 0,.int .i64 0,.string ⟨#[]⟩,.slice none 0 0,.slice none 0 0] rfl rfl (pz TV (by show 0+5<=5;decide)) jT (pE _ _ _ _ _ _ _ _ _) (hK _ _ ?_);have hX6:(w5.setCells wr.heap.size 0 [.int .i64 0,.int .i64 0,.string ⟨#[]⟩,.slice none 0 0,.slice none 0 0]).heap[wr.heap.size]?=some (.cells #[.int .i64 0,.int .i64 0,.string ⟨#[]⟩,.slice none 0 0,.slice none 0 0] 25 (0,0)):=t_ TV rfl;have Pw:av (aQ wr.heap.size) w5 (w5.setCells wr.heap.size 0 [.int .i64 0,.int .i64 0,.string ⟨#[]⟩,.slice none 0 0,.slice none 0 0]):=fu _ _ _ _;have Bi:Below wr.heap.size wr (w5.setCells wr.heap.size 0 [.int .i64 0,.int .i64 0,.string ⟨#[]⟩,.slice none 0 0,.slice none 0 0]):=oC.trans (Pw.below oC.size fun q hq h=>by have:q=wr.heap.size:=h;omega);change wpIn _ _ _ _ _ _ _ _ (w5.setCells wr.heap.size 0 [.int .i64 0,.int .i64 0,.string ⟨#[]⟩,.slice none 0 0,.slice none 0 0]);generalize w5.setCells wr.heap.size 0 [.int .i64 0,.int .i64 0,.string ⟨#[]⟩,.slice none 0 0,.slice none 0 0]=w6 at hX6 Pw Bi ⊢;refine aa (i:=12) (d:=some 7) rfl ?_;refine aD Bi (by kernel_rfl) ?_ _;go_wp2;go_roundw
     case rel=>exact⟨k+1,pk,nk,ck,pl,nl,cl,bH,by go_num,Vj.out _ Bi⟩
     case measure=>simp[intOf];omega
   | some v=>
    have HG:Hid (∀X,Below wr.heap.size wr X->Calls Tryz.prog 43 #[.agg #[.int .i64 e.content.kind,.int .i64 e.content.int,.string e.content.text,.slice p.pk e.content.keys.length p.ck,.slice p.pl e.content.list.length p.cl],.string key] X fun x w'=>(∃vk vi vt vpk vnk vck vpl vnl vcl,x=.returned (.tuple #[.agg #[.int .i64 vk,.int .i64 vi,.string vt,.slice vpk vnk vck,.slice vpl vnl vcl],.bool true])/\isJ O w' v [.int .i64 vk,.int .i64 vi,.string vt,.slice vpk vnk vck,.slice vpl vnl vcl])/\Below X.heap.size X w'):=RJ;clear RJ
    go_upto_region 8 with fail
    refine aF (by kernel_rfl) (fun w'=>Below wr.heap.size wr w') ?_;change wpIn _ _ _ _ _ _ _ _ (World.drew _);have hD:Below wr.heap.size wr wr.drew:=(Below.refl _ _).drew;refine aa (i:=0) (d:=some 23) rfl ?_;refine ae (i:=1) (d:=(some 24)) (v:=(.agg #[.int .i64 e.content.kind,.int .i64 e.content.int,.string e.content.text,.slice p.pk e.content.keys.length p.ck,.slice p.pl e.content.list.length p.cl])) (a':= ?aqs1) rfl rfl (by kernel_rfl) (by kernel_rfl) (by kernel_rfl) (fun _ _ _ h=>h) (Or.inl ⟨by rfl, ?yqs1⟩) ?fqs1 ?_
    case yqs1=>exact fun wq hq=>b_ rfl rfl ((HX.out wq hq).1.Yd)
    case fqs1=>(go_frame;rfl)
    refine aa (i:=2) (d:=some 25) rfl ?_;refine aa (i:=3) (d:=some 26) rfl ?_;refine aa (i:=4) (d:=some 27) rfl ?_;refine az (i:=5) (d:=some 28) rfl (by(intro wq hq;have zf:=(HX.out wq hq).2.1;go_simp;first| done| with_reducible rfl)) ?_;refine bY (i:=6) (j:=10) hD (by kernel_rfl) rfl rfl (by rfl) (by rfl) ?_ ?_
    ·intro K hK;go_simp;go_wp2_with(go_at_call 43;refine(HG.out _ hD).mono ?_;rintro x w5 ⟨⟨vk,vi,vt,vpk,vnk,vck,vpl,vnl,vcl,rfl,hjv⟩,iJ⟩);have oC:=ah hD iJ;refine aa (i:=7) (d:=some 22) rfl ?_;refine aa (i:=8) (d:=some 30) rfl ?_;refine aa (i:=9) (d:=some 31) rfl ?_;refine ak (i:=10) oC rfl ?_;intro K hK;go_simp;go_wp2;have Bi:Below wr.heap.size wr _:=oC.alloc oC.size (.cells #[.int .i64 0,.int .i64 0,.string ⟨#[]⟩,.slice none 0 0,.slice none 0 0] 25);refine ak (i:=11) Bi rfl ?_;intro K hK;go_simp;go_wp2;have hD7:Below wr.heap.size wr _:=oC.alloc oC.size (.cells #[.int .i64 vk,.int .i64 vi,.string vt,.slice vpk vnk vck,.slice vpl vnl vcl] 25);refine aa (i:=12) (d:=some 7) rfl ?_;refine aD hD7 (by kernel_rfl) ?_ _;have Ui:Hid ((w5.alloc (.cells #[.int .i64 vk,.int .i64 vi,.string vt,.slice vpk vnk vck,.slice vpl vnl vcl] 25)).heap[w5.heap.size]?=some (.cells #[.int .i64 vk,.int .i64 vi,.string vt,.slice vpk vnk vck,.slice vpl vnl vcl] 25 (0,0))):=(bR _);have HJV:Hid (isJ O (w5.alloc (.cells #[.int .i64 vk,.int .i64 vi,.string vt,.slice vpk vnk vck,.slice vpl vnl vcl] 25)) v [.int .i64 vk,.int .i64 vi,.string vt,.slice vpk vnk vck,.slice vpl vnl vcl]):=hjv.carry fun b hb=>⟨hb,((Below.refl _ w5).alloc (Nat.le_refl _) _).block b (Nat.lt_of_lt_of_le (hO b hb) (Nat.le_trans bX.size oC.size))⟩;have C8:Hid (Below wr.heap.size wr (w5.alloc (.cells #[.int .i64 vk,.int .i64 vi,.string vt,.slice vpk vnk vck,.slice vpl vnl vcl] 25))):=hD7;obtain⟨b6,jP⟩:∃b6,b6=w5.heap.size:=⟨_,rfl⟩;have zhS:wr.heap.size<=b6:=by rw[jP];exact oC.size
     rw[<-jP]at Ui ⊢;generalize (w5.alloc (.cells #[.int .i64 vk,.int .i64 vi,.string vt,.slice vpk vnk vck,.slice vpl vnl vcl] 25))=W6 at Ui HJV C8 ⊢;have hc6:=C8.out.size;have Kl:=Ef.out.nL;have hq3:=Ef.out.fA.size;have NU:Hid (∀X,av (aQ cb) W6 X->X.rangeAt b6 0 [.int .i64 vk,.int .i64 vi,.string vt,.slice vpk vnk vck,.slice vpl vnl vcl]/\X.cell? (a.add k)=some (.string key)):=fun X hX=>by
      have rW:=(HX.out W6 C8.out).2.1;have ebl:(a.add k).block=a.block:=by obtain⟨ab,ao,zds⟩:=a;unfold Addr.add;split<;>rfl
      exact⟨eD ((hX.block _ (aO Ui.out) (fun h=>by have:b6=cb:=h;omega)).trans Ui.out),(hX.cell (p:=a.add k) (by rw[ebl];omega) (fun h=>by have:(a.add k).block=cb:=h;rw[ebl]at this;omega)).trans rW⟩
     have PN:Hid (∀X,Below W6.heap.size W6 X->X.heap[cb]?=some (.cells #[.int .i64 5,.int .i64 0,.string ⟨#[]⟩,.slice pk nk ck,.slice pl nl cl] 25 (0,0))):=fun X hX=>((ah C8.out hX).block _ (aO Kl)).trans Kl;have zaE:Hid (∀X,Below W6.heap.size W6 X->Calls Tryz.prog 44 #[.agg #[.int .i64 5,.int .i64 0,.string ⟨#[]⟩,.slice pk nk ck,.slice pl nl cl],.string key,.agg #[.int .i64 vk,.int .i64 vi,.string vt,.slice vpk vnk vck,.slice vpl vnl vcl]] X fun x w'=>(∃b1 c1 b2 c2,x=.returned (.agg #[.int .i64 5,.int .i64 0,.string ⟨#[]⟩,.slice (some ⟨b1,0,none⟩) (nk+1) c1,.slice (some ⟨b2,0,none⟩) (nl+1) c2])/\isJ (fun b=>(O b\/ (W3.heap.size<=b/\b<W6.heap.size))\/ qx X w' b) w' (.mk 5 0 aN ((gI (ks.take k) e.content).keys++ [key]) ((gI (ks.take k) e.content).list++ [v])) [.int .i64 5,.int .i64 0,.string ⟨#[]⟩,.slice (some ⟨b1,0,none⟩) (nk+1) c1,.slice (some ⟨b2,0,none⟩) (nl+1) c2])/\Below X.heap.size X w'):=fun X hX=>by
      have r:=Ef.out;have h1:=r.nkl;have h2:=r.nll;have FQ:=ah C8.out hX;exact yP (O:=fun b=>O b\/ (W3.heap.size<=b/\b<W6.heap.size)) key (fun b hb=>hb.elim (fun h=>Nat.lt_of_lt_of_le (hO b h) (ah bX FQ).size) (fun h=>Nat.lt_of_lt_of_le h.2 hX.size)) (r.isj.carry fun b hb=>⟨hb.elim .inl (fun h=>.inr ⟨h.1,Nat.lt_of_lt_of_le h.2 hc6⟩),FQ.block b (hb.elim (fun h=>Nat.lt_of_lt_of_le (hO b h) bX.size) (fun h=>h.2))⟩) (HJV.out.carry fun b hb=>⟨.inl hb,hX.block b (Nat.lt_of_lt_of_le (hO b hb) (Nat.le_trans bX.size hc6))⟩) r.pkn r.pln (by omega) (by omega)
     clear jP Kl
     go_upto_region 10 with fail
     refine aF (by kernel_rfl) (fun w'=>av (aQ cb) W6 w') ?_;change wpIn _ _ _ _ _ _ _ _ (World.drew _);have hE:Below W6.heap.size W6 W6.drew:=(Below.refl _ _).drew;refine aa (i:=1) (d:=some 34) rfl ?_;refine aa (i:=2) (d:=some 35) rfl ?_;refine aa (i:=3) (d:=some 36) rfl ?_;refine az (i:=4) (d:=some 37) rfl (by(intro wq hq;have zf:=(NU.out wq hq).2;go_simp;first| done| with_reducible rfl)) ?_;refine ae (i:=5) (d:=(some 38)) (v:=(.agg #[.int .i64 vk,.int .i64 vi,.string vt,.slice vpk vnk vck,.slice vpl vnl vcl])) (a':= ?aqscp5) rfl rfl (by kernel_rfl) (by kernel_rfl) (by kernel_rfl) (fun _ _ _ h=>h) (Or.inl ⟨by rfl, ?yqscp5⟩) ?fqscp5 ?_
     case yqscp5=>exact fun wq hq=>b_ rfl rfl (run_loadAt_mid wq b6 0 25 [.int .i64 vk,.int .i64 vi,.string vt,.slice vpk vnk vck,.slice vpl vnl vcl] _ (NU.out wq hq).1 Tryz.underlying25 rfl jT)
     case fqscp5=>(go_frame;rfl)
     refine ak (i:=0) (av.aW hE) rfl ?_;intro K hK;refine wp_load_mid 25 _ rfl cb 0 rfl [.int .i64 5,.int .i64 0,.string ⟨#[]⟩,.slice pk nk ck,.slice pl nl cl] _ (eD (PN.out _ hE)) Tryz.underlying25 rfl jT (hK _ _ ?_);refine ak (i:=6) (av.aW hE) rfl ?_;intro K hK;go_simp;go_wp2_with(go_at_call 44;refine(zaE.out _ hE).mono ?_;rintro x w8 ⟨⟨b1,c1,b2,c2,rfl,hj8⟩,pn⟩);have QX:=ah hE pn;have Vk:=PN.out w8 QX;refine ak (i:=7) (av.aW QX) rfl ?_;intro K hK;refine wp_store_mid 25 _ _ rfl cb 0 #[.int .i64 5,.int .i64 0,.string ⟨#[]⟩,.slice (some ⟨b1,0,none⟩) (nk+1) c1,.slice (some ⟨b2,0,none⟩) (nl+1) c2] rfl rfl (pz Vk (by show 0+5<=5;decide)) jT (pE _ _ _ _ _ _ _ _ _) (hK _ _ ?_);have hX9:(w8.setCells cb 0 [.int .i64 5,.int .i64 0,.string ⟨#[]⟩,.slice (some ⟨b1,0,none⟩) (nk+1) c1,.slice (some ⟨b2,0,none⟩) (nl+1) c2]).heap[cb]?=some (.cells #[.int .i64 5,.int .i64 0,.string ⟨#[]⟩,.slice (some ⟨b1,0,none⟩) (nk+1) c1,.slice (some ⟨b2,0,none⟩) (nl+1) c2] 25 (0,0)):=t_ Vk rfl;have F9:av (aQ cb) w8 (w8.setCells cb 0 [.int .i64 5,.int .i64 0,.string ⟨#[]⟩,.slice (some ⟨b1,0,none⟩) (nk+1) c1,.slice (some ⟨b2,0,none⟩) (nl+1) c2]):=fu _ _ _ _;change wpIn _ _ _ _ _ _ _ _ (w8.setCells cb 0 [.int .i64 5,.int .i64 0,.string ⟨#[]⟩,.slice (some ⟨b1,0,none⟩) (nk+1) c1,.slice (some ⟨b2,0,none⟩) (nl+1) c2]);generalize w8.setCells cb 0 [.int .i64 5,.int .i64 0,.string ⟨#[]⟩,.slice (some ⟨b1,0,none⟩) (nk+1) c1,.slice (some ⟨b2,0,none⟩) (nl+1) c2]=w9 at hX9 F9 ⊢;have zaH:Hid (QW O e.content ks W3 cb W3.heap.size (k+1) (some ⟨b1,0,none⟩) (nk+1) c1 (some ⟨b2,0,none⟩) (nl+1) c2 w9):=by
      have r:=Ef.out;have q1:=bX.size;have q2:=QX.size;have q3:=F9.size;have q4:=r.fA.size;have q5:(World.drew W6).heap.size=W6.heap.size:=rfl;refine⟨hX9, ?_,(fun h=>by cases h),(fun h=>by cases h),Nat.succ_le_succ r.nkl,Nat.succ_le_succ r.nll,(r.fA.then (av.aW (ah C8.out QX))).then F9⟩;rw[Tf.out];exact hj8.carry fun b hb=>by
       have sN:b≠cb:=fun h=>by
        rcases hb with(hb| hb)| hb
        ·have:=hO b hb;omega
        ·have:=hb.1;omega
        ·have:=hb.1;rw[q5]at this;omega
       have zaI:b<w8.heap.size:=by
        rcases hb with(hb| hb)| hb
        ·have:=hO b hb;omega
        ·have:=hb.2;omega
        ·exact hb.2
       refine⟨?_,F9.block b zaI sN⟩
       rcases hb with(hb| hb)| hb
       ·exact .inl hb
       ·exact .inr ⟨hb.1,by omega⟩
       ·have:=hb.1;rw[q5]at this;exact .inr ⟨by omega,by omega⟩
     refine aD ((av.aW QX).then F9) (by kernel_rfl) ?_ _;go_wp2;go_roundw
     case rel=>exact⟨k+1,some ⟨b1,0,none⟩,nk+1,c1,some ⟨b2,0,none⟩,nl+1,c2,bH,by go_num,zaH⟩
     case measure=>simp[intOf];omega
    ·intro K hK;go_simp;go_wp2;have Fp:Below wr.heap.size wr _:=((Below.refl _ wr).alloc (Nat.le_refl _) (.cells #[.int .i64 0,.int .i64 0,.string ⟨#[]⟩,.slice none 0 0,.slice none 0 0] 25)).drew;have QF:(wr.alloc (.cells #[.int .i64 0,.int .i64 0,.string ⟨#[]⟩,.slice none 0 0,.slice none 0 0] 25)).drew.heap[wr.heap.size]?=some (.cells #[.int .i64 0,.int .i64 0,.string ⟨#[]⟩,.slice none 0 0,.slice none 0 0] 25 (0,0)):=bR (w:=wr) _;generalize (wr.alloc (.cells #[.int .i64 0,.int .i64 0,.string ⟨#[]⟩,.slice none 0 0,.slice none 0 0] 25)).drew=w4 at Fp QF ⊢;refine ak (i:=6) Fp rfl ?_;intro K hK;go_simp;go_wp2_with(go_at_call 43;refine(HG.out _ Fp).mono ?_;rintro x w5 ⟨⟨vk,vi,vt,vpk,vnk,vck,vpl,vnl,vcl,rfl,hjv⟩,iJ⟩);have oC:=ah Fp iJ;have TV:=(iJ.block _ (aO QF)).trans QF;refine aa (i:=7) (d:=some 22) rfl ?_;refine aa (i:=8) (d:=some 30) rfl ?_;refine aa (i:=9) (d:=some 31) rfl ?_;refine ak (i:=11) oC rfl ?_;intro K hK;refine wp_store_mid 25 _ _ rfl wr.heap.size 0 #[.int .i64 vk,.int .i64 vi,.string vt,.slice vpk vnk vck,.slice vpl vnl vcl] rfl rfl (pz TV (by show 0+5<=5;decide)) jT (pE _ _ _ _ _ _ _ _ _) (hK _ _ ?_);have hX6:(w5.setCells wr.heap.size 0 [.int .i64 vk,.int .i64 vi,.string vt,.slice vpk vnk vck,.slice vpl vnl vcl]).heap[wr.heap.size]?=some (.cells #[.int .i64 vk,.int .i64 vi,.string vt,.slice vpk vnk vck,.slice vpl vnl vcl] 25 (0,0)):=t_ TV rfl;have Pw:av (aQ wr.heap.size) w5 (w5.setCells wr.heap.size 0 [.int .i64 vk,.int .i64 vi,.string vt,.slice vpk vnk vck,.slice vpl vnl vcl]):=fu _ _ _ _;have Bi:Below wr.heap.size wr (w5.setCells wr.heap.size 0 [.int .i64 vk,.int .i64 vi,.string vt,.slice vpk vnk vck,.slice vpl vnl vcl]):=oC.trans (Pw.below oC.size fun q hq h=>by have:q=wr.heap.size:=h;omega);change wpIn _ _ _ _ _ _ _ _ (w5.setCells wr.heap.size 0 [.int .i64 vk,.int .i64 vi,.string vt,.slice vpk vnk vck,.slice vpl vnl vcl]);generalize w5.setCells wr.heap.size 0 [.int .i64 vk,.int .i64 vi,.string vt,.slice vpk vnk vck,.slice vpl vnl vcl]=w6 at hX6 Pw Bi ⊢;refine aa (i:=12) (d:=some 7) rfl ?_;refine aD Bi (by kernel_rfl) ?_ _;have Ui:Hid (w6.heap[wr.heap.size]?=some (.cells #[.int .i64 vk,.int .i64 vi,.string vt,.slice vpk vnk vck,.slice vpl vnl vcl] 25 (0,0))):=hX6;have HJV:Hid (isJ O w6 v [.int .i64 vk,.int .i64 vi,.string vt,.slice vpk vnk vck,.slice vpl vnl vcl]):=hjv.carry fun b hb=>⟨hb,Pw.block b (Nat.lt_of_lt_of_le (hO b hb) (Nat.le_trans bX.size oC.size)) (fun h=>by have:b=wr.heap.size:=h;have:=hO b hb;have:=bX.size;omega)⟩;have C8:Hid (Below wr.heap.size wr w6):=Bi;obtain⟨b6,jP⟩:∃b6,b6=wr.heap.size:=⟨_,rfl⟩;have zhS:wr.heap.size<=b6:=by rw[jP];exact(Nat.le_refl _)
     rw[<-jP]at Ui ⊢;generalize w6=W6 at Ui HJV C8 ⊢;have hc6:=C8.out.size;have Kl:=Ef.out.nL;have hq3:=Ef.out.fA.size;have NU:Hid (∀X,av (aQ cb) W6 X->X.rangeAt b6 0 [.int .i64 vk,.int .i64 vi,.string vt,.slice vpk vnk vck,.slice vpl vnl vcl]/\X.cell? (a.add k)=some (.string key)):=fun X hX=>by
      have rW:=(HX.out W6 C8.out).2.1;have ebl:(a.add k).block=a.block:=by obtain⟨ab,ao,zds⟩:=a;unfold Addr.add;split<;>rfl
      exact⟨eD ((hX.block _ (aO Ui.out) (fun h=>by have:b6=cb:=h;omega)).trans Ui.out),(hX.cell (p:=a.add k) (by rw[ebl];omega) (fun h=>by have:(a.add k).block=cb:=h;rw[ebl]at this;omega)).trans rW⟩
     have PN:Hid (∀X,Below W6.heap.size W6 X->X.heap[cb]?=some (.cells #[.int .i64 5,.int .i64 0,.string ⟨#[]⟩,.slice pk nk ck,.slice pl nl cl] 25 (0,0))):=fun X hX=>((ah C8.out hX).block _ (aO Kl)).trans Kl;have zaE:Hid (∀X,Below W6.heap.size W6 X->Calls Tryz.prog 44 #[.agg #[.int .i64 5,.int .i64 0,.string ⟨#[]⟩,.slice pk nk ck,.slice pl nl cl],.string key,.agg #[.int .i64 vk,.int .i64 vi,.string vt,.slice vpk vnk vck,.slice vpl vnl vcl]] X fun x w'=>(∃b1 c1 b2 c2,x=.returned (.agg #[.int .i64 5,.int .i64 0,.string ⟨#[]⟩,.slice (some ⟨b1,0,none⟩) (nk+1) c1,.slice (some ⟨b2,0,none⟩) (nl+1) c2])/\isJ (fun b=>(O b\/ (W3.heap.size<=b/\b<W6.heap.size))\/ qx X w' b) w' (.mk 5 0 aN ((gI (ks.take k) e.content).keys++ [key]) ((gI (ks.take k) e.content).list++ [v])) [.int .i64 5,.int .i64 0,.string ⟨#[]⟩,.slice (some ⟨b1,0,none⟩) (nk+1) c1,.slice (some ⟨b2,0,none⟩) (nl+1) c2])/\Below X.heap.size X w'):=fun X hX=>by
      have r:=Ef.out;have h1:=r.nkl;have h2:=r.nll;have FQ:=ah C8.out hX;exact yP (O:=fun b=>O b\/ (W3.heap.size<=b/\b<W6.heap.size)) key (fun b hb=>hb.elim (fun h=>Nat.lt_of_lt_of_le (hO b h) (ah bX FQ).size) (fun h=>Nat.lt_of_lt_of_le h.2 hX.size)) (r.isj.carry fun b hb=>⟨hb.elim .inl (fun h=>.inr ⟨h.1,Nat.lt_of_lt_of_le h.2 hc6⟩),FQ.block b (hb.elim (fun h=>Nat.lt_of_lt_of_le (hO b h) bX.size) (fun h=>h.2))⟩) (HJV.out.carry fun b hb=>⟨.inl hb,hX.block b (Nat.lt_of_lt_of_le (hO b hb) (Nat.le_trans bX.size hc6))⟩) r.pkn r.pln (by omega) (by omega)
     clear jP Kl
     go_upto_region 10 with fail
     refine aF (by kernel_rfl) (fun w'=>av (aQ cb) W6 w') ?_;change wpIn _ _ _ _ _ _ _ _ (World.drew _);have hE:Below W6.heap.size W6 W6.drew:=(Below.refl _ _).drew;refine aa (i:=1) (d:=some 34) rfl ?_;refine aa (i:=2) (d:=some 35) rfl ?_;refine aa (i:=3) (d:=some 36) rfl ?_;refine az (i:=4) (d:=some 37) rfl (by(intro wq hq;have zf:=(NU.out wq hq).2;go_simp;first| done| with_reducible rfl)) ?_;refine ae (i:=5) (d:=(some 38)) (v:=(.agg #[.int .i64 vk,.int .i64 vi,.string vt,.slice vpk vnk vck,.slice vpl vnl vcl])) (a':= ?aqsap5) rfl rfl (by kernel_rfl) (by kernel_rfl) (by kernel_rfl) (fun _ _ _ h=>h) (Or.inl ⟨by rfl, ?yqsap5⟩) ?fqsap5 ?_
     case yqsap5=>exact fun wq hq=>b_ rfl rfl (run_loadAt_mid wq b6 0 25 [.int .i64 vk,.int .i64 vi,.string vt,.slice vpk vnk vck,.slice vpl vnl vcl] _ (NU.out wq hq).1 Tryz.underlying25 rfl jT)
     case fqsap5=>(go_frame;rfl)
     refine ak (i:=0) (av.aW hE) rfl ?_;intro K hK;refine wp_load_mid 25 _ rfl cb 0 rfl [.int .i64 5,.int .i64 0,.string ⟨#[]⟩,.slice pk nk ck,.slice pl nl cl] _ (eD (PN.out _ hE)) Tryz.underlying25 rfl jT (hK _ _ ?_);refine ak (i:=6) (av.aW hE) rfl ?_;intro K hK;go_simp;go_wp2_with(go_at_call 44;refine(zaE.out _ hE).mono ?_;rintro x w8 ⟨⟨b1,c1,b2,c2,rfl,hj8⟩,pn⟩);have QX:=ah hE pn;have Vk:=PN.out w8 QX;refine ak (i:=7) (av.aW QX) rfl ?_;intro K hK;refine wp_store_mid 25 _ _ rfl cb 0 #[.int .i64 5,.int .i64 0,.string ⟨#[]⟩,.slice (some ⟨b1,0,none⟩) (nk+1) c1,.slice (some ⟨b2,0,none⟩) (nl+1) c2] rfl rfl (pz Vk (by show 0+5<=5;decide)) jT (pE _ _ _ _ _ _ _ _ _) (hK _ _ ?_);have hX9:(w8.setCells cb 0 [.int .i64 5,.int .i64 0,.string ⟨#[]⟩,.slice (some ⟨b1,0,none⟩) (nk+1) c1,.slice (some ⟨b2,0,none⟩) (nl+1) c2]).heap[cb]?=some (.cells #[.int .i64 5,.int .i64 0,.string ⟨#[]⟩,.slice (some ⟨b1,0,none⟩) (nk+1) c1,.slice (some ⟨b2,0,none⟩) (nl+1) c2] 25 (0,0)):=t_ Vk rfl;have F9:av (aQ cb) w8 (w8.setCells cb 0 [.int .i64 5,.int .i64 0,.string ⟨#[]⟩,.slice (some ⟨b1,0,none⟩) (nk+1) c1,.slice (some ⟨b2,0,none⟩) (nl+1) c2]):=fu _ _ _ _;change wpIn _ _ _ _ _ _ _ _ (w8.setCells cb 0 [.int .i64 5,.int .i64 0,.string ⟨#[]⟩,.slice (some ⟨b1,0,none⟩) (nk+1) c1,.slice (some ⟨b2,0,none⟩) (nl+1) c2]);generalize w8.setCells cb 0 [.int .i64 5,.int .i64 0,.string ⟨#[]⟩,.slice (some ⟨b1,0,none⟩) (nk+1) c1,.slice (some ⟨b2,0,none⟩) (nl+1) c2]=w9 at hX9 F9 ⊢;have zaH:Hid (QW O e.content ks W3 cb W3.heap.size (k+1) (some ⟨b1,0,none⟩) (nk+1) c1 (some ⟨b2,0,none⟩) (nl+1) c2 w9):=by
      have r:=Ef.out;have q1:=bX.size;have q2:=QX.size;have q3:=F9.size;have q4:=r.fA.size;have q5:(World.drew W6).heap.size=W6.heap.size:=rfl;refine⟨hX9, ?_,(fun h=>by cases h),(fun h=>by cases h),Nat.succ_le_succ r.nkl,Nat.succ_le_succ r.nll,(r.fA.then (av.aW (ah C8.out QX))).then F9⟩;rw[Tf.out];exact hj8.carry fun b hb=>by
       have sN:b≠cb:=fun h=>by
        rcases hb with(hb| hb)| hb
        ·have:=hO b hb;omega
        ·have:=hb.1;omega
        ·have:=hb.1;rw[q5]at this;omega
       have zaI:b<w8.heap.size:=by
        rcases hb with(hb| hb)| hb
        ·have:=hO b hb;omega
        ·have:=hb.2;omega
        ·exact hb.2
       refine⟨?_,F9.block b zaI sN⟩
       rcases hb with(hb| hb)| hb
       ·exact .inl hb
       ·exact .inr ⟨hb.1,by omega⟩
       ·have:=hb.1;rw[q5]at this;exact .inr ⟨by omega,by omega⟩
     refine aD ((av.aW QX).then F9) (by kernel_rfl) ?_ _;go_wp2;go_roundw
     case rel=>exact⟨k+1,some ⟨b1,0,none⟩,nk+1,c1,some ⟨b2,0,none⟩,nl+1,c2,bH,by go_num,zaH⟩
     case measure=>simp[intOf];omega
  ·obtain rfl:k=ks.length:=by omega
   obtain⟨hV,hXR,_,bX⟩:=HKP.out wr Ef.out.fA;have r:=Ef.out;have zaL:=r.isj;rw[List.take_length]at zaL;have zdt:szJ 12 (gI ks e.content)=true:=CK (d:=11) AJ.out (by omega) (fun k hk=>Nat.le_trans (NR.out.2 k hk) (by decide));have hOr:=Jr (w:=wr) (O:=fun b=>O b\/ (W3.heap.size<=b/\b<wr.heap.size)) (fun x hx=>hx.elim (fun h=>Nat.lt_of_lt_of_le (hO x h) bX.size) (fun h=>h.2)) zdt zaL;have C7:=(show Hid (wr.rangeAt cb 0 [.int .i64 5,.int .i64 0,.string ⟨#[]⟩,.slice pk nk ck,.slice pl nl cl])from eD r.nL);have hXE:=hV.nL;have F4:W3.heap.size<=wr.heap.size:=r.fA.size;clear r zdt zaL;obtain⟨j,hj⟩:∃j,Co (gI ks e.content)=j:=⟨_,rfl⟩;rw[hj]at hOr HRE;clear hj;obtain⟨jk,ji,jt,jks,jl⟩:=j
   go_upto_region 11 with fail
   go_upto_region 12 with(first
    | (refine wpList_load_mid rfl 25 _ rfl cb 0 rfl [.int .i64 5,.int .i64 0,.string ⟨#[]⟩,.slice pk nk ck,.slice pl nl cl] _ C7.out Tryz.underlying25 rfl jT ?_)
    | (go_at_call 45;refine hOr.mono ?_;rintro x w7 ⟨⟨kr,ir,tr,pr,nr,cr,qr,mr,dr,rfl,Aq⟩,uV⟩;have hX7:=(uV.block _ (aO hXE)).trans hXE)
    | (refine oD rfl 25 _ _ rfl w.heap.size 5 #[.int .i64 kr,.int .i64 ir,.string tr,.slice pr nr cr,.slice qr mr dr] rfl rfl (pz hX7 (by show 5+5<=16;decide)) jT (pE _ _ _ _ _ _ _ _ _) _ rfl ?_))
   obtain⟨rfl,rfl,rfl,rfl,rfl,hkk,su,l9⟩:=eP Aq;obtain⟨W8,hW8⟩:∃W8,W8=w7.setCells w.heap.size 5 [.int .i64 kr,.int .i64 ir,.string tr,.slice pr jks.length cr,.slice qr jl.length dr]:=⟨_,rfl⟩;change Code.wp _ _ _ _ (w7.setCells w.heap.size 5 [.int .i64 kr,.int .i64 ir,.string tr,.slice pr jks.length cr,.slice qr jl.length dr]);rw[<-hW8];obtain⟨e2,he2⟩:∃e2:Ev,e2={e with content:=.mk kr ir tr jks jl}:=⟨_,rfl⟩;obtain⟨p2,lQ⟩:∃p2:Pt,p2={p with pk:=pr,ck:=cr,pl:=qr,cl:=dr}:=⟨_,rfl⟩;have Vk:W8.heap[w.heap.size]?=some (.cells (aB e2 p2).toArray 28 (0,0)):=by
    rw[hW8,he2,lQ];exact kD w.heap.size 28 [.int .i64 kr,.int .i64 ir,.string tr,.slice pr jks.length cr,.slice qr jl.length dr] [.string e.room,.string e.aK,.string e.ag,.bool e.st,.string e.key] [.int .i64 e.content.kind,.int .i64 e.content.int,.string e.content.text,.slice p.pk e.content.keys.length p.ck,.slice p.pl e.content.list.length p.cl] [.slice p.pp e.prev.length p.cp,.slice p.pa e.aA.length p.ca,.int .i64 e.depth,.int .i64 e.ts,.string e.hash,.slice p.ps e.sigs.length p.cs] w7 hX7 rfl
   have MH:av (aQ w.heap.size) w7 W8:=by rw[hW8];exact fu _ _ _ _
   have zdu:W8.heap[w.heap.size+1]?=some (.cells (aB Ev.zero Pt.zero).toArray 28 (0,0)):=(MH.block _ (by have:=uV.size;omega) (fun h=>by have:w.heap.size+1=w.heap.size:=h;omega)).trans ((uV.block _ (aO hXR)).trans hXR);have rM:Below w.heap.size w w7:=ah bX uV;have pn:Below w.heap.size w W8:=⟨MH.os.trans rM.os,MH.tape.trans rM.tape,MH.output.trans rM.output,Nat.le_trans rM.size MH.size,fun b hb=>(MH.block b (Nat.lt_of_lt_of_le hb rM.size) (fun h=>by have:b=w.heap.size:=h;omega)).trans (rM.block b hb)⟩;have yV:Hid (∀X,av (aQ (w.heap.size+1)) W8 X->iL (fun b=>O b\/ (w.heap.size<=b/\b<X.heap.size)) X e2 p2/\Below w.heap.size w X):=fun X hX=>by
    have zkb:=MH.size;have zkc:=hX.size;have hs7:=uV.size;have FQ:Below w.heap.size w X:=⟨hX.os.trans pn.os,hX.tape.trans pn.tape,hX.output.trans pn.output,Nat.le_trans pn.size hX.size,fun b hb=>(hX.block b (Nat.lt_of_lt_of_le hb pn.size) (fun h=>by have:b=w.heap.size+1:=h;omega)).trans (pn.block b hb)⟩;have hc:∀b,O b->(O b\/ (w.heap.size<=b/\b<X.heap.size))/\X.heap[b]?=w.heap[b]?:=fun b hb=>⟨.inl hb,FQ.block b (hO b hb)⟩;refine⟨?_,FQ⟩;rw[he2,lQ];refine⟨?_,HPV.out.carry hc,HAU.out.carry hc,HSG.out.carry hc⟩;exact Aq.carry fun b hb=>by
     rcases hb with(hb| hb)| hb
     ·exact⟨.inl hb,((hX.block b (Nat.lt_of_lt_of_le (hO b hb) pn.size) (fun h=>by have:b=w.heap.size+1:=h;have:=hO b hb;omega)).trans (MH.block b (Nat.lt_of_lt_of_le (hO b hb) rM.size) (fun h=>by have:b=w.heap.size:=h;have:=hO b hb;omega)))⟩
     ·exact⟨.inr ⟨by omega,by omega⟩,((hX.block b (by omega) (fun h=>by have:b=w.heap.size+1:=h;omega)).trans (MH.block b (by omega) (fun h=>by have:b=w.heap.size:=h;omega)))⟩
     ·exact⟨.inr ⟨by omega,by omega⟩,((hX.block b (by omega) (fun h=>by have:b=w.heap.size+1:=h;omega)).trans (MH.block b (by omega) (fun h=>by have:b=w.heap.size:=h;omega)))⟩
   have HRD:Hid (cB e=e2):=by show _=_;rw[HRE.out,he2]
   have HR8:=(show Hid (W8.rangeAt w.heap.size 0 (aB e2 p2))from eD Vk);clear Aq hkk su l9 Vk hX7 hXE hW8 he2 lQ C7 hOr;go_wp2_with(first
    | (refine wpList_load_mid rfl 28 _ rfl w.heap.size 0 rfl (aB e2 p2) _ HR8.out Tryz.underlying28 rfl eQ ?_)
    | (refine wpList_store_row rfl 28 _ _ rfl (w.heap.size+1) 28 _ (aB e2 p2).toArray rfl rfl zdu eQ rfl (AY _ _) ?_))
   refine bodyPost_ret (gz rfl _ _ _ rfl (Fa (eD (setRow_heap _ _ _ _ _ _ zdu)))) rfl ?_;obtain⟨h1,h2⟩:=yV.out _ (cz W8 (w.heap.size+1) (aB e2 p2).toArray);rw[HRD.out];exact⟨⟨p2,rfl,h1⟩,h2⟩
abbrev Kp:=Kn×Pt
abbrev zKp:Kp:=(zK,Pt.zero)
def flatK(l:List Kp):List Value:=l.flatMap fun x=>aI x.1 x.2
theorem CL(l m:List Kp):flatK (l++m)=flatK l++flatK m:=by simp[flatK]
theorem Bn:∀(l:List Kp) (j n:Nat) (v:Value),j<l.length->(aI (l.getD j zKp).1 (l.getD j zKp).2)[n]?=some v->(flatK l)[j*17+n]?=some v
 | [],j,n,v,h,_=>by simp at h
 | a::t,0,n,v,_,hv=>by
  have hn:n<17:=by
   have:=(List.getElem?_eq_some_iff.1 hv).1;exact this
  have Ws:(aI a.1 a.2)[n]?=some v:=hv;rw[flatK,List.flatMap_cons,Nat.zero_mul,Nat.zero_add,List.getElem?_append_left hn];exact Ws
 | a::t,j+1,n,v,h,hv=>by
  have hl:(aI a.1 a.2).length=17:=rfl;rw[flatK,List.flatMap_cons,List.getElem?_append_right (by rw[hl];omega),hl,show(j+1)*17+n - 17=j*17+n by omega];exact Bn t j n v (by simpa using h) (by simpa using hv)
theorem JV{O:Nat->Prop}{w:World}{dM:Nat}{v:Value}{L:List Kp}(h:w.ownsRow dM 41 17 v L.length (flatK L))(hE:∀x∈L,iL O w x.1.2 x.2)(hO:∀b,dM<=b->b<w.heap.size->O b):∃q c,v=.slice q (L.map Prod.fst).length c/\rZ O w q c (L.map Prod.fst):=by
 obtain⟨_,⟨rfl,h0⟩| ⟨g,cap,cur,rfl,hb,hg,hn,_,hc,ht⟩⟩:=h
 ·obtain rfl:L= []:=List.eq_nil_of_length_eq_zero h0;exact⟨none,0,rfl,rZ.nil _ _ _ _⟩
 ·have dP:(L.map Prod.fst).length=L.length:=List.length_map ..;refine⟨_,_,by rw[dP],by rw[dP];exact hn,fun j hj=> ?_⟩;rw[dP]at hj;have oP:(L.map Prod.fst).getD j zK=(L.getD j zKp).1:=by
   rw[List.getD_eq_getElem?_getD,List.getD_eq_getElem?_getD,List.getElem?_map]
   cases L[j]?<;>rfl
  rw[oP];refine⟨g,0,(L.getD j zKp).2,rfl,hO g hb (aO hg),fun n u hu=> ?_,hE _ ?_⟩
  ·have zkd:n<17:=(List.getElem?_eq_some_iff.1 hu).1;have g1:=Bn L j n u hj hu;rw[<-ht,List.getElem?_take,if_pos (by omega)]at g1;rw[Nat.zero_add];exact ay hg (j*17+n) _ (by simpa using g1)
  ·rw[List.getD_eq_getElem?_getD,List.getElem?_eq_getElem hj];exact List.getElem_mem hj
theorem zaM:(Tryz.prog.info? 41).map (fun i=>(i.size,i.bytes,i.zero))=some (17,272,some (.agg (aI zK Pt.zero).toArray)):=by kernel_rfl
theorem zaN(k:Kn)(p:Pt):∀u∈aI k p,u.oneCell'=true:=by
 intro u hu;simp only[aI,aB,List.mem_cons,List.not_mem_nil,or_false]at hu
 rcases hu with rfl| rfl| rfl| rfl| rfl| rfl| rfl| rfl| rfl| rfl| rfl| rfl| rfl| rfl| rfl| rfl| rfl<;>rfl
theorem FR{w w':World}{dM e size n:Nat}{v:Value}{xs:List Value}(h:w.ownsRow dM e size v n xs)(hb:Below w.heap.size w w'):w'.ownsRow dM e size v n xs:=by
 obtain⟨h1,⟨h2,h3⟩| ⟨g,cap,cur,h2,h3,h4,h5⟩⟩:=h
 ·exact⟨h1,.inl ⟨h2,h3⟩⟩
 ·exact⟨h1,.inr ⟨g,cap,cur,h2,h3,(hb.block g (aO h4)).trans h4,h5⟩⟩
section
variable {op : Oper} {a : Act} {w : World} {K : Act -> World -> Prop} {Q : Exit -> Act -> World -> Prop}
theorem JW(x y:Operand)(ho:op.op=.build 41 #[(0,x),(1,y)])(s:ByteArray)(e:Ev)(p:Pt)(hx:a.eval x=.string s)(hy:a.eval y=dZ e p)
    (h:∀M:List Value,Hid (M=aI (s,e) p)->K (a.put op.dst (.agg M.toArray)) w):op.wp Tryz.prog a w K Q:=by
 unfold Oper.wp;simp[execOp,ho,hx,hy,yX];exact h _ rfl
theorem QY(x:Operand)(ho:op.op=.buildSlice 29 1 #[(0,x)])(k:Kn)(q:Pt)(M:List Value)(hM:M=aI k q)(hx:a.eval x=.agg M.toArray)
    (h:K (a.put op.dst (.slice (some ⟨w.heap.size,0,none⟩) 1 1)) (w.alloc (.cells M.toArray 41))):op.wp Tryz.prog a w K Q:=by
 subst hM;have NM:a.eval x=lV k q:=hx;unfold Oper.wp;simp[execOp,ho,NM,Fx];exact h
theorem zZ(s x:Operand)(ho:op.op=.call {callee:=.builtin .append,args:=#[s,x],argTypes:=#[29,29]})
    (dM:Nat) (v:Value) (L:List Kp) (hs:a.eval s=v) (aL:w.ownsRow dM 41 17 v L.length (flatK L)) (g c:Nat) (y:Kp) (M:List Value) (hM:M=aI y.1 y.2) (hx:a.eval x=.slice (some ⟨g,0,none⟩) 1 c) (hg:w.heap[g]?=some (.cells M.toArray 41 (0,0)))
    (dP:L.length<=100000) (jW:dM<=w.heap.size)
    (h:∀v' w',w'.ownsRow dM 41 17 v' (L++ [y]).length (flatK (L++ [y]))->w.grownBy w' v.ownBlock->(v'.ownBlock=v.ownBlock\/ v'.ownBlock=some w.heap.size)->K (a.put op.dst v') w'):op.wp Tryz.prog a w K Q:=by
 subst hM;obtain⟨i,hi,hi2⟩:=Option.map_eq_some_iff.1 zaM;simp only[Prod.mk.injEq]at hi2;obtain⟨oN,oI,rV⟩:=hi2;obtain⟨v',w',hr,h2,h3,h4,h5⟩:=run_append_own_at (P:=Tryz.prog) w dM 29 op.type 41 i _ 17 272 Tryz.underlying29 hi rV oN oI rfl (by decide) v L.length (flatK L) aL ⟨g,0,none⟩ 1 c (aI y.1 y.2) rfl (fun j u hu=>by
  have ea:(⟨g,0,none⟩:Addr).add j=⟨g,j,none⟩:=by unfold Addr.add;split<;>simp_all
  rw[ea];exact ay hg j u (by simpa using hu)) (zaN _ _) (by unfold maxLen;omega) (by omega) jW
 unfold Oper.wp execOp;simp only[ho,resolve,invoke,builtin,Sem.run_bind,Sem.run_pure,Result.andThen_ok,List.map_toArray,List.map_cons,List.map_nil,hs,hx,hr];exact h v' w' (by rw[List.length_append,CL];simpa [flatK]using h2) h3 h5
end
theorem Uj{e:Ev}(h:aG e=true)(hz:xe e):xe (cB e):=by
 obtain⟨hc,hg⟩:=dK h;have hk:=zb e.aK;have hs:szJ 12 (ord (gI (dF e.aK) e.content))=true:=wZ 12 _ (jD 11 _ hg) (CK (d:=11) hz.cont (Nat.le_trans hk.1 (by decide)) fun k pO=>Nat.le_trans (hk.2 k pO) (by decide));rw[hc];exact⟨hz.room,hz.aK,hz.ag,hz.key,hz.hash,hs,hz.prev,hz.En,hz.aA,hz.Eo,hz.sigs,hz.AX⟩
theorem Uk{l:List Kn}(h:∀k∈l,aG k.2=true)(hz:IJ l):IJ (l.map jA):=by
 refine⟨by rw[List.length_map];exact hz.len,fun k hk=> ?_,fun k hk=> ?_⟩
 ·obtain⟨x,hx,rfl⟩:=List.mem_map.1 hk;obtain⟨hc,hg⟩:=dK (h x hx);have hl:=zb x.2.aK
  show szJ 13 (cB x.2).content=true
  rw[hc];exact wZ 13 _ (jD 12 _ (jD 11 _ hg)) (CK (d:=12) (hz.cont x hx) (Nat.le_trans hl.1 (by decide)) fun k pO=>Nat.le_trans (hl.2 k pO) (by decide))
 ·obtain⟨x,hx,rfl⟩:=List.mem_map.1 hk;obtain⟨hc,_⟩:=dK (h x hx)
  show(cB x.2).ag.size<=_
  rw[hc];exact hz.snd x hx
def zdv(A B:Nat)(v:Value)(X:World)(b:Nat):Prop:=b<A\/ (B<=b/\b<X.heap.size/\v.ownBlock≠some b)
theorem wT{O:Nat->Prop}{w:World}{e:Ev}{p:Pt}{ps:Option Addr}{cs:Nat}{l:List Kn}(h:iL O w e p)(ny:rZ O w ps cs l)(hO:∀b,O b->b<w.heap.size)(hz:yZ e)(hk:∀k∈l,yZ k.2)(hT:uW w):
    Calls Tryz.prog 6 #[dZ e p,.slice ps l.length cs] w fun x w'=>x=.returned (.bool true)/\Below w.heap.size w w':=by
 obtain⟨W0,fw⟩:∃W0,W0=w.alloc (.cells (aB e p).toArray 28):=⟨_,rfl⟩;have dS:Below w.heap.size w W0:=by rw[fw];exact(Below.refl _ _).alloc (Nat.le_refl _) _
 have r9:W0.heap[w.heap.size]?=some (.cells (aB e p).toArray 28 (0,0)):=by rw[fw];exact bR _
 have hV:=kC h hO dS r9;have HV:Hid (∀X,Below W0.heap.size W0 X->kZ X w.heap.size e p):=fun X hX=>hV.below hX;have Bv:Hid (∀X,Below W0.heap.size W0 X->rZ (· <X.heap.size) X ps cs l):=fun X hX=>ny.carry fun k hk=>⟨Nat.lt_of_lt_of_le (hO k hk) (ah dS hX).size,(ah dS hX).block k (hO k hk)⟩;have HSW:Hid (rZ (· <w.heap.size) w ps cs l):=ny.carry fun k hk=>⟨hO k hk,rfl⟩;have Ug:Hid (∀X,Below W0.heap.size W0 X->(Instr.loadAt 28 (.pointer (some ⟨w.heap.size,0,none⟩))).run Tryz.prog X=.ok (.agg (aB e p).toArray) X):=fun X hX=>run_loadAt_mid X w.heap.size 0 28 (aB e p) _ (HV.out X hX).iW Tryz.underlying28 rfl eQ;have FP:=FO e p W0 hV.ev (fun _ h=>h) hz;have HK:Hid (∀X,Below W0.heap.size W0 X->Calls Tryz.prog 10 #[.slice ps l.length cs] X fun x w'=>QS X w' l x):=fun X hX=>NC (Bv.out X hX) (fun _ h=>h) hk;have HFI:Hid (∀X,Below W0.heap.size W0 X->CE e->Calls Tryz.prog 16 #[.agg (aB e p).toArray] X fun x w'=>x=.returned (.bool (aG e))/\Below X.heap.size X w'):=fun X hX h1=>vD e p X (HV.out X hX).ev (fun _ h=>h) h1.sz (by have:=h1.texts;omega) (by have:=h1.texts;omega);have HJ:Hid (∀X q0 e0,Below W0.heap.size W0 X->iL (· <X.heap.size) X e0 q0->xe e0->∀(q:Option Addr) (c:Nat) (m:List Kn),rZ (· <X.heap.size) X q c m->IJ m->Calls Tryz.prog 11 #[dZ e0 q0,.slice q m.length c] X fun x w'=>x=.returned (.int .i64 (gQ e0 m))/\Below X.heap.size X w'):=fun X q0 e0 hX hi hs q c m hr PK=>nu hi hr (fun _ h=>h) hs PK (hT.below (ah dS hX));have Vl:Hid (∀X,Below W0.heap.size W0 X->Calls Tryz.prog 13 #[] X fun x w'=>x=.returned (.bool true)/\Below X.heap.size X w'):=fun X hX=>FI X (hT.below (ah dS hX));have hB0:Below W0.heap.size W0 W0:=Below.refl _ _;clear h ny hV r9 hz hk hT;unfold dZ at FP ⊢;generalize hsh:aG e=sh at HFI;obtain⟨n,hn⟩:∃n,l.length=n:=⟨_,rfl⟩;have HN:Hid (l.length=n):=hn;rw[hn]at HK ⊢;clear hn
 cases sh with
 | false=>
  go_enter Tryz.func6,Tryz.ntmps6
  go_upto_region 1 with fail
  rw[<-fw];clear fw;go_wp2_with(first
   | (go_at_call 9;refine FP.mono ?_;rintro x w1 ⟨⟨b1,rfl,hf1⟩,AL⟩;cases b1;have UN:=AL;clear AL)
   | (go_at_call 10;refine(HK.out _ AL).mono ?_;rintro x w2 ⟨⟨b2,rfl,hf2⟩,aT⟩;have jm:=ah AL aT;clear aT;cases b2;have PM:=jm;clear jm)
   | (go_at_call 16;refine(HFI.out _ jm (hf1 (by trivial))).mono ?_;rintro x w3 ⟨rfl,dA⟩;have kW:=ah jm dA;clear dA)
   | (refine bP (by kernel_rfl) 28 _ rfl w.heap.size 0 rfl (aB e p) (Ug.out _ jm) ?_)
   | (refine bP (by kernel_rfl) 28 _ rfl w.heap.size 0 rfl (aB e p) (Ug.out _ hB0) ?_)
   | (go_at_call 13;refine(Vl.out _ kW).mono ?_;rintro x w9 ⟨rfl,ry⟩;have Fq:=ah kW ry)
   | (go_at_call 13;refine(Vl.out _ PM).mono ?_;rintro x w9 ⟨rfl,ry⟩;have Fq:=ah PM ry)
   | (go_at_call 13;refine(Vl.out _ UN).mono ?_;rintro x w9 ⟨rfl,ry⟩;have Fq:=ah UN ry))
  all_goals (go_ret;exact⟨rfl,ah dS Fq⟩)
 | true=>
  go_enter Tryz.func6,Tryz.ntmps6
  go_upto_region 1 with fail
  rw[<-fw];clear fw
  go_upto_region 5 with(first
   | (go_at_call 9;refine FP.mono ?_;rintro x w1 ⟨⟨b1,rfl,hf1⟩,AL⟩;cases b1;have UN:=AL;clear AL)
   | (go_at_call 10;refine(HK.out _ AL).mono ?_;rintro x w2 ⟨⟨b2,rfl,hf2⟩,aT⟩;have jm:=ah AL aT;clear aT;cases b2;have PM:=jm;clear jm)
   | (go_at_call 16;refine(HFI.out _ jm (hf1 (by trivial))).mono ?_;rintro x w3 ⟨rfl,dA⟩;have kW:=ah jm dA;clear dA)
   | (refine bP (by kernel_rfl) 28 _ rfl w.heap.size 0 rfl (aB e p) (Ug.out _ jm) ?_)
   | (refine bP (by kernel_rfl) 28 _ rfl w.heap.size 0 rfl (aB e p) (Ug.out _ hB0) ?_)
   | (go_at_call 13;refine(Vl.out _ PM).mono ?_;rintro x w9 ⟨rfl,ry⟩;have Fq:=ah PM ry)
   | (go_at_call 13;refine(Vl.out _ UN).mono ?_;rintro x w9 ⟨rfl,ry⟩;have Fq:=ah UN ry))
  iterate 2
   ·go_ret;exact⟨rfl,ah dS Fq⟩
  ·skip
   have HFE:Hid (CE e):=hf1 (by trivial);have HFK:Hid (T_ l):=hf2 (by trivial);have zke:n<=20:=by rw[<-HN.out];exact HFK.out.len
   have Mh:n<=cs:=by rw[<-HN.out];exact(Bv.out _ kW).1
   have HSE:Hid (aG e=true):=hsh;have qi:Below w.heap.size w w3:=ah dS kW;clear hf1 hf2 HK FP HFI hsh
   go_loopw [5,6] (fun v i wr=>∃k:Nat,∃L:List Kp,k<=n/\i=.int .i64 k/\Hid (wr.ownsRow w3.heap.size 41 17 v L.length (flatK L))/\Hid (L.map Prod.fst=(l.take k).map jA)/\Hid (∀x∈L,iL (zdv w.heap.size w3.heap.size v wr) wr x.1.2 x.2)/\Hid (∀x∈l.take k,aG x.2=true)/\Below w3.heap.size w3 wr) (fun _ i _=>n - (intOf i).toNat)
   case atStart=>exact⟨0, [],Nat.zero_le _,rfl,World.ownsRow_nil _ _ _ _,rfl,fun x hx=>absurd hx (by simp),fun x hx=>absurd hx (by simp),Below.refl _ _⟩
   case round=>
    obtain⟨k,L,hk,rfl,HOW,F_,HEL,HSH,bX⟩:=hrel
    by_cases bH:k<n
    ·have Ob:(k:Int)<(n:Int):=by omega
     have fG:k<l.length:=by rw[HN.out];exact bH
     have hxm:l.getD k zK∈l:=Ep fG;have HTK:Hid (l.take (k+1)=l.take k++ [l.getD k zK]):=by show _=_;rw[List.take_succ_eq_append_getElem fG,List.getD_eq_getElem?_getD,List.getElem?_eq_getElem fG];rfl
     have Vm:Hid (CE (l.getD k zK).2):=HFK.out.evs _ hxm;have hLL:L.length=k:=by
      have h1:L.length=(L.map Prod.fst).length:=(List.length_map ..).symm;rw[h1,F_.out,List.length_map,List.length_take];omega
     obtain⟨b,o,q,rfl,mG,bA,hE⟩:=HSW.out.2 k fG;generalize l.getD k zK=x at bA hE HTK Vm;clear hxm fG;have Mw:Hid (∀X,Below w.heap.size w X->X.rangeAt b (o+k*17) (aI x q)):=fun X hX m v hv=>(hX.cell (p:=⟨b,o+k*17+m,none⟩) mG).trans (bA m v hv);have oV:Hid (∀X,Below w.heap.size w X->X.rangeAt b (o+k*17+1) (aB x.2 q)):=fun X hX m v hv=>by
      rw[show o+k*17+1+m=o+k*17+(m+1) by omega];exact Mw.out X hX (m+1) v hv
     have Wl:Hid (∀X,Below w.heap.size w X->X.cell? ⟨b,o+k*17,none⟩=some (.string x.1)):=fun X hX=>Mw.out X hX 0 _ rfl;have HEX:Hid (iL (· <w.heap.size) w x.2 q):=hE;have Iz:Hid (∀X,Below w3.heap.size w3 X->Below w.heap.size w X):=fun X hX=>ah qi hX;clear bA hE;have zaO:=Iz.out wr bX;have C7:=(show Hid (wr.rangeAt b (o+k*17+1) (aB x.2 q))from oV.out wr zaO);have Uh:=vD x.2 q wr (HEX.out.carry fun y hy=>⟨Nat.lt_of_lt_of_le hy zaO.size,zaO.block y hy⟩) (fun _ h=>h) Vm.out.sz (by have:=Vm.out.texts;omega) (by have:=Vm.out.texts;omega);generalize hsx:aG x.2=sx at Uh;unfold dZ at Uh
     cases sx with
     | false=>
      go_wp2_with(first
       | (refine wpList_load_mid rfl 28 _ rfl b (o+k*17+1) rfl (aB x.2 q) _ C7.out Tryz.underlying28 rfl eQ ?_)
       | (go_at_call 16;refine Uh.mono ?_;rintro y w4 ⟨rfl,dB⟩)
       | (go_at_call 13;refine(Vl.out _ (ah kW (ah bX dB))).mono ?_;rintro y w9 ⟨rfl,ry⟩))
      go_ret;exact⟨rfl,ah dS (ah (ah kW (ah bX dB)) ry)⟩
     | true=>
      go_upto_region 9 with(first
       | (refine wpList_load_mid rfl 28 _ rfl b (o+k*17+1) rfl (aB x.2 q) _ C7.out Tryz.underlying28 rfl eQ ?_)
       | (go_at_call 16;refine Uh.mono ?_;rintro y w4 ⟨rfl,dB⟩))
      have rY:Below w3.heap.size w3 w4:=ah bX dB;have HSX:Hid (aG x.2=true):=hsx;have HRX:Hid (∀X,Below w3.heap.size w3 X->Calls Tryz.prog 17 #[.agg (aB x.2 q).toArray] X fun y w'=>(∃q2,y=.returned (dZ (cB x.2) q2)/\iL (fun b=>b<w.heap.size\/ (X.heap.size<=b/\b<w'.heap.size)) w' (cB x.2) q2)/\Below X.heap.size X w'):=fun X hX=>wG (O:=(· <w.heap.size)) (HEX.out.carry fun y hy=>⟨hy,(Iz.out X hX).block y hy⟩) (fun y hy=>Nat.lt_of_lt_of_le hy (Iz.out X hX).size) Vm.out.sz (by have:=Vm.out.texts;omega) (by have:=Vm.out.texts;omega) HSX.out;clear Uh C7 hsx HEX Vm;refine aF (by kernel_rfl) (fun w'=>Below w3.heap.size w3 w') ?_;change wpIn _ _ _ _ _ _ _ _ (World.drew _);have hD:Below w3.heap.size w3 w4.drew:=rY.drew;refine aa (i:=0) (d:=some 35) rfl ?_;refine aa (i:=1) (d:=some 36) rfl ?_;refine aa (i:=2) (d:=some 37) rfl ?_;refine aa (i:=3) (d:=some 38) rfl ?_;refine aa (i:=4) (d:=some 39) rfl ?_;refine az (i:=5) (d:=some 40) rfl (by(intro wq hq;have zf:=Wl.out wq (Iz.out wq hq);go_simp;first| done| with_reducible rfl)) ?_;refine aa (i:=6) (d:=some 41) rfl ?_;refine aa (i:=7) (d:=some 42) rfl ?_;refine aa (i:=8) (d:=some 43) rfl ?_;refine aa (i:=9) (d:=some 44) rfl ?_;refine ae (i:=10) (d:=(some 45)) (v:=(.agg (aB x.2 q).toArray)) (a':= ?aqn10) rfl rfl (by kernel_rfl) (by kernel_rfl) (by kernel_rfl) (fun _ _ _ h=>h) (Or.inl ⟨by rfl, ?yqn10⟩) ?fqn10 ?_
      case yqn10=>exact fun wq hq=>b_ rfl rfl (run_loadAt_mid wq b (o+k*17+1) 28 (aB x.2 q) _ (oV.out wq (Iz.out wq hq)) Tryz.underlying28 rfl eQ)
      case fqn10=>(go_frame;rfl)
      refine ak (i:=11) hD rfl ?_;intro K hK;go_simp;go_wp2_with(go_at_call 17;refine(HRX.out _ hD).mono ?_;rintro y w5 ⟨⟨q2,rfl,Uy⟩,jB⟩);have oC:Below w3.heap.size w3 w5:=ah hD jB;have HE5:Hid (iL (fun b=>b<w.heap.size\/ (w4.heap.size<=b/\b<w5.heap.size)) w5 (cB x.2) q2):=Uy;clear Uy;refine ak (i:=12) oC rfl ?_;intro K hK;refine JW _ _ rfl x.1 (cB x.2) q2 rfl rfl fun M HM=>hK _ _ ?_;refine ak (i:=13) oC rfl ?_;intro K hK;refine QY _ rfl (x.1,cB x.2) q2 M HM.out rfl (hK _ _ ?_);have Bi:Below w3.heap.size w3 (w5.alloc (.cells M.toArray 41)):=oC.alloc oC.size _;have O6:=dB.size;have hs5:w4.heap.size<=w5.heap.size:=jB.size;have zdx:Hid (w5.ownsRow w3.heap.size 41 17 _ L.length (flatK L)):=FR (FR HOW.out (dB.drew)) jB;refine ak (i:=14) Bi rfl ?_;intro K hK;refine zZ _ _ rfl w3.heap.size _ L rfl (zdx.out.alloc _) w5.heap.size 1 ((x.1,cB x.2),q2) M HM.out rfl (bR _) (by omega) (by simp;exact Nat.le_trans oC.size (Nat.le_succ _)) fun v9 W9 Rw N7 hv9=>hK _ _ ?_;have KJ:Below w3.heap.size w3 W9:=Bi.trans (iH N7 Bi.size fun y hy=>(zdx.out.lt y hy).1);have yt:∀y,Value.ownBlock _=some y->y<wr.heap.size:=fun y hy=>(HOW.out.lt y hy).2;have QZ:Hid (∀y,y<w5.heap.size->Value.ownBlock _≠some y->W9.heap[y]?=w5.heap[y]?):=fun y hy sN=>(N7.block y (by simp;omega) (fun h=>sN h.symm)).trans (((Below.refl _ w5).alloc (Nat.le_refl _) _).block y hy);have HO9:Hid (W9.ownsRow w3.heap.size 41 17 v9 (L++ [((x.1,cB x.2),q2)]).length (flatK (L++ [((x.1,cB x.2),q2)]))):=Rw;have hs9:w5.heap.size+1<=W9.heap.size:=by have:=N7.size;simpa using this
      have zhV:Hid (∀y∈L++ [((x.1,cB x.2),q2)],iL (zdv w.heap.size w3.heap.size v9 W9) W9 y.1.2 y.2):=fun y hy=>by
       have hs3:=qi.size;have NT:=bX.size
       rcases List.mem_append.1 hy with hy| hy
       ·refine(HEL.out y hy).carry fun c hc=> ?_
        rcases hc with hc| ⟨h1,h2,h3⟩
        ·exact⟨.inl hc,(KJ.block c (by omega)).trans (bX.block c (by omega)).symm⟩
        ·refine⟨.inr ⟨h1,by omega, ?_⟩,(QZ.out c (by omega) h3).trans ((jB.block c (by show c<w4.heap.size;omega)).trans (dB.block c h2))⟩
         rcases hv9 with h| h
         ·rw[h];exact h3
         ·rw[h];intro he;have:=Option.some.inj he;simp at this;omega
       ·rw[List.mem_singleton.1 hy];refine HE5.out.carry fun c hc=> ?_
        rcases hc with hc| ⟨h1,h2⟩
        ·exact⟨.inl hc,(KJ.block c (by omega)).trans ((oC.block c (by omega)).symm)⟩
        ·have sN:∀z,z<wr.heap.size->c≠z:=fun z hz=>by omega
         refine⟨.inr ⟨by omega,by omega, ?_⟩,QZ.out c h2 (fun h=>sN c (yt c h) rfl)⟩
         rcases hv9 with h| h
         ·rw[h];exact fun he=>sN c (yt c he) rfl
         ·rw[h];intro he;have:=Option.some.inj he;simp at this;omega
      have zhW:Hid ((L++ [((x.1,cB x.2),q2)]).map Prod.fst=(l.take (k+1)).map jA):=by show _=_;rw[HTK.out,List.map_append,List.map_append,F_.out];rfl
      have zhX:Hid (∀y∈l.take (k+1),aG y.2=true):=fun y hy=>by
       rw[HTK.out]at hy
       rcases List.mem_append.1 hy with hy| hy
       ·exact HSH.out y hy
       ·rw[List.mem_singleton.1 hy];exact HSX.out
      clear HEL F_ HSH QZ yt Rw N7 hv9;refine aa (i:=15) (d:=some 5) rfl ?_;refine aD KJ (by kernel_rfl) ?_ _;go_wp2;go_roundw
      case rel=>exact⟨k+1,_,bH,by go_num,HO9,zhW,zhV,zhX,KJ⟩
      case measure=>simp[intOf];omega
    ·obtain rfl:k=n:=by omega
     have zaP:Hid (∀x∈l,aG x.2=true):=by
      have:=HSH.out;rw[List.take_of_length_le (by rw[HN.out];exact Nat.le_refl _)]at this;exact this
     have zdy:Hid (L.map Prod.fst=l.map jA):=by show _=_;rw[F_.out,List.take_of_length_le (by rw[HN.out];exact Nat.le_refl _)]
     have hRd:=JV (O:=(· <wr.heap.size)) HOW.out (fun y hy=>(HEL.out y hy).carry fun b hb=>⟨hb.elim (fun h=>Nat.lt_of_lt_of_le h (ah qi bX).size) (fun h=>h.2.1),rfl⟩) (fun b _ hb=>hb);rw[zdy.out]at hRd;obtain⟨qq,qc,rfl,hRd⟩:=hRd;have p_:=ah kW bX;have zhY:Hid (∀X,Below wr.heap.size wr X->Calls Tryz.prog 17 #[.agg (aB e p).toArray] X fun y w'=>(∃q2,y=.returned (dZ (cB e) q2)/\iL (· <w'.heap.size) w' (cB e) q2)/\Below X.heap.size X w'):=fun X hX=>(wG (HV.out X (ah p_ hX)).ev (fun _ h=>h) HFE.out.sz (by have:=HFE.out.texts;omega) (by have:=HFE.out.texts;omega) HSE.out).mono fun y w' ⟨⟨q2,hy,hi⟩,hb⟩=>⟨⟨q2,hy,hi.carry fun b aT=>⟨aT.elim (fun h=>Nat.lt_of_lt_of_le h hb.size) (fun h=>h.2),rfl⟩⟩,hb⟩;have WO:Hid (∀X q0,Below wr.heap.size wr X->iL (· <X.heap.size) X (cB e) q0->Calls Tryz.prog 11 #[dZ (cB e) q0,.slice qq (l.map jA).length qc] X fun x w'=>x=.returned (.int .i64 (gQ e l))/\Below X.heap.size X w'):=fun X q0 hb hi=>by
      have:=HJ.out X q0 (cB e) (ah p_ hb) hi (Uj HSE.out HFE.out.sz) qq qc _ (hRd.carry fun b aT=>⟨Nat.lt_of_lt_of_le aT hb.size,hb.block b aT⟩) (Uk zaP.out HFK.out.sz);rw[NF HSE.out zaP.out]at this;exact this
     have HJ2:Hid (∀X,Below wr.heap.size wr X->Calls Tryz.prog 11 #[.agg (aB e p).toArray,.slice ps k cs] X fun x w'=>x=.returned (.int .i64 (gQ e l))/\Below X.heap.size X w'):=fun X hb=>by
      have:=HJ.out X p e (ah p_ hb) (HV.out X (ah p_ hb)).ev HFE.out.sz ps cs _ (Bv.out X (ah p_ hb)) HFK.out.sz;rw[HN.out]at this;exact this
     have HLX:Hid (∀X,Below wr.heap.size wr X->(Instr.loadAt 28 (.pointer (some ⟨w.heap.size,0,none⟩))).run Tryz.prog X=.ok (.agg (aB e p).toArray) X):=fun X hb=>Ug.out X (ah p_ hb);have HAV:Hid (∀X,Below wr.heap.size wr X->Calls Tryz.prog 13 #[] X fun x w'=>x=.returned (.bool true)/\Below X.heap.size X w'):=fun X hb=>Vl.out X (ah p_ hb);have fQ:Hid (∀X,Below wr.heap.size wr X->Below w.heap.size w X):=fun X hb=>ah dS (ah p_ hb);clear HJ hRd F_ zdy HOW HEL Bv HSW HV Ug Vl HFE HFK zaP HSH HSE;generalize gQ e l=jt at WO HJ2;generalize (l.map jA).length=ln at WO ⊢;have hjj:(jt==jt)=true:=beq_self_eq_true _
     go_upto_region 10 with fail
     refine aF (by kernel_rfl) (fun w'=>Below wr.heap.size wr w') ?_;change wpIn _ _ _ _ _ _ _ _ (World.drew _);have hD:Below wr.heap.size wr wr.drew:=(Below.refl _ _).drew;refine ae (i:=0) (d:=(some 50)) (v:=(.agg (aB e p).toArray)) (a':= ?aqe0) rfl rfl (by kernel_rfl) (by kernel_rfl) (by kernel_rfl) (fun _ _ _ h=>h) (Or.inl ⟨by rfl, ?yqe0⟩) ?fqe0 ?_
     case yqe0=>exact fun wq hq=>b_ rfl rfl (HLX.out wq hq)
     case fqe0=>(go_frame;rfl)
     refine aa (i:=2) (d:=some 52) rfl ?_;refine ae (i:=4) (d:=(some 54)) (v:=(.agg (aB e p).toArray)) (a':= ?aqe4) rfl rfl (by kernel_rfl) (by kernel_rfl) (by kernel_rfl) (fun _ _ _ h=>h) (Or.inl ⟨by rfl, ?yqe4⟩) ?fqe4 ?_
     case yqe4=>exact fun wq hq=>b_ rfl rfl (HLX.out wq hq)
     case fqe4=>(go_frame;rfl)
     refine aa (i:=5) (d:=some 55) rfl ?_;refine ak (i:=1) hD rfl ?_;intro K hK;go_simp;go_wp2_with(go_at_call 17;refine(zhY.out _ hD).mono ?_;rintro x w6 ⟨⟨q6,rfl,hE6⟩,rJ⟩);have gJ:Below wr.heap.size wr w6:=ah hD rJ;refine ak (i:=3) gJ rfl ?_;intro K hK;go_simp;go_wp2_with(go_at_call 11;refine(WO.out _ q6 gJ hE6).mono ?_;rintro x w7 ⟨rfl,rM⟩);have zaQ:Below wr.heap.size wr w7:=ah gJ rM;refine ak (i:=6) zaQ rfl ?_;intro K hK;go_simp;go_wp2_with(go_at_call 11;refine(HJ2.out _ zaQ).mono ?_;rintro x w8 ⟨rfl,pn⟩);have Q0:Below wr.heap.size wr w8:=ah zaQ pn;refine aa (i:=7) (d:=some 57) rfl ?_;refine aa (i:=8) (d:=some 58) rfl ?_;refine ak (i:=9) Q0 rfl ?_;intro K hK;go_simp;go_wp2_with(go_at_call 13;refine(HAV.out _ Q0).mono ?_;rintro x w9 ⟨rfl,zh3⟩);have Q3:Below wr.heap.size wr w9:=ah Q0 zh3;refine aa (i:=10) (d:=some 60) rfl ?_;refine aa (i:=11) (d:=some 4) rfl ?_;refine aD Q3 (by kernel_rfl) ?_ _;go_wp2;go_ret;exact⟨rfl,fQ.out _ Q3⟩
end Go.Proofs.YtldegjjaknelgaaGreatDoor
