/- A part. -/
import Derived.Test.YtldegjjaknelgaaGreatDoorAR19
set_option maxRecDepth 100000
set_option maxHeartbeats 64000000
namespace Go.Proofs.YtldegjjaknelgaaGreatDoor
open Go.RowKit
def U7(O:Nat->Prop)(w':World):Option Kn->Ending->Prop
 | some k,e=>∃q,e=.returned (.tuple #[lV k q,.bool true])/\iL O w' k.2 q
 | none,e=>e=.returned (.tuple #[lV zK Pt.zero,.bool false])
theorem uq{l:List Kn}{kind key:ByteArray}{k:Nat}(h:bO (l.take k) kind key=none)(hk:k<l.length)(he:yn kind key (l.getD k zK)=false):bO (l.take (k+1)) kind key=none:=by
 unfold bO at h ⊢;rw[mK (z:=zK) hk,List.find?_append,h,List.find?_cons,he]
 rfl
theorem xE{l:List Kn}{kind key:ByteArray}{k:Nat}(h:bO (l.take k) kind key=none)(hk:k<l.length)(he:yn kind key (l.getD k zK)=true):bO l kind key=some (l.getD k zK):=by
 unfold bO at h ⊢
 conv=>lhs;rw[Aw (z:=zK) hk,List.find?_append,h,List.find?_cons,he]
 rfl
theorem Qu{O:Nat->Prop}{w:World}{p:Option Addr}{c:Nat}{l:List Kn}(h:rZ O w p c l)(hO:∀b,O b->b<w.heap.size)(hz:l.length<=100000)(kind key:ByteArray):
    Calls Tryz.prog 81 #[.slice p l.length c,.string kind,.string key] w fun e w'=>U7 O w' (bO l kind key) e/\Below w.heap.size w w':=by
 obtain⟨W0,fw⟩:∃W0,W0=w.alloc (.cells (aI zK Pt.zero).toArray 41):=⟨_,rfl⟩;have dS:Below w.heap.size w W0:=by rw[fw];exact(Below.refl _ _).alloc (Nat.le_refl _) _
 have HR:Hid (W0.heap[w.heap.size]?=some (.cells (aI zK Pt.zero).toArray 41 (0,0))):=by show _=_;rw[fw];exact bR _
 have Wi:Hid (∀cs:Array Value,Below w.heap.size w (W0.setRow w.heap.size cs)):=fun cs=>dS.trans ((cz W0 w.heap.size cs).below dS.size fun q hq e=>by unfold aQ at e;omega);obtain⟨n,hn⟩:∃n,l.length=n:=⟨_,rfl⟩;have HN:Hid (l.length=n):=hn;have hc:=h.1;rw[hn]at hz hc ⊢;clear hn;go_enter Tryz.func81,Tryz.ntmps81
 go_upto_region 1 with fail
 change Code.wp _ _ _ _ (w.alloc (.cells (aI zK Pt.zero).toArray 41));rw[<-fw];clear fw;go_wp2
 go_loop [12] (fun i=>∃k:Nat,i=.int .i64 k/\k<=n/\Hid (bO (l.take k) kind key=none)) (fun i=>n - (intOf i).toNat)
 case atStart=>exact⟨0,rfl,Nat.zero_le _,rfl⟩
 case round=>
  obtain⟨k,rfl,hk,HF⟩:=hrel
  by_cases bH:k<n
  ·have Ob:(k:Int)<(n:Int):=by omega
   have fG:k<l.length:=by rw[HN.out];exact bH
   obtain⟨b,o,q,rfl,mG,bA,hE⟩:=h.2 k fG;have OU:=hO b mG;have HM:Hid (yn kind key (l.getD k zK)=false->bO (l.take (k+1)) kind key=none):=uq HF.out fG;have HH:Hid (yn kind key (l.getD k zK)=true->bO l kind key=some (l.getD k zK)):=xE HF.out fG;generalize l.getD k zK=x at bA hE HM HH;have cc:∀m v,(aI x q)[m]?=some v->W0.cell? ⟨b,o+k*17+m,none⟩=some v:=fun m v hv=>(dS.cell (p:=⟨b,o+k*17+m,none⟩) OU).trans (bA m v hv);have Mw:Hid (W0.rangeAt b (o+k*17) (aI x q)):=cc;have d2:W0.cell? ⟨b,o+k*17+2,none⟩=some (.string x.2.aK):=cc 2 _ rfl;have d4:W0.cell? ⟨b,o+k*17+4,none⟩=some (.bool x.2.st):=cc 4 _ rfl;have d5:W0.cell? ⟨b,o+k*17+5,none⟩=some (.string x.2.key):=cc 5 _ rfl;clear bA cc;simp only[yn]at HM HH;have HX:Hid (∀e w',e=Ending.returned (.tuple #[lV x q,.bool true])->Below w.heap.size w w'->bO l kind key=some x->U7 O w' (bO l kind key) e/\Below w.heap.size w w'):=fun e w' he hb hf=>⟨by rw[hf];exact⟨q,he,hE.carry fun y hy=>⟨hy,hb.block y (hO y hy)⟩⟩,hb⟩;clear hE;generalize x.2.st=st at d4 HM HH;generalize x.2.aK=aK at d2 HM HH;generalize x.2.key=ke at d5 HM HH
   cases st with
   | false=>
    have HMM:=(show Hid _ from HM.out (by simp));go_wp2
    go_round
    case rel=>exact⟨k+1,by go_num,bH,HMM⟩
    case measure=>simp[intOf];omega
   | true=>
    cases h1:(aK.toList==kind.toList)with
    | false=>
     have HMM:=(show Hid _ from HM.out (by simp[h1]));go_wp2
     go_round
     case rel=>exact⟨k+1,by go_num,bH,HMM⟩
     case measure=>simp[intOf];omega
    | true=>
     cases h2:(ke.toList==key.toList)with
     | false=>
      have HMM:=(show Hid _ from HM.out (by simp[h1,h2]));go_wp2
      go_round
      case rel=>exact⟨k+1,by go_num,bH,HMM⟩
      case measure=>simp[intOf];omega
     | true=>
      have HHH:=(show Hid _ from HH.out (by simp[h1,h2]));clear HM HH;go_wp2_with(first
       | (refine wpList_load_mid rfl 41 _ rfl b (o+k*17) rfl (aI x q) _ Mw.out Tryz.underlying41 rfl qA ?_)
       | (refine wpList_store_row rfl 41 _ _ rfl w.heap.size 41 _ (aI x q).toArray rfl rfl HR.out qA rfl (yo x q) ?_))
      refine bodyPost_ret (bL rfl _ _ _ rfl (Er (eD (setRow_heap _ _ _ _ _ _ HR.out)))) rfl ?_;exact HX.out _ _ rfl (Wi.out _) HHH.out
  ·obtain rfl:k=n:=by omega
   have Nr:Hid (bO l kind key=none):=by
    have:=HF.out;rw[List.take_of_length_le (by rw[HN.out];omega)]at this;exact this
   go_wp2_with(refine wpList_store_row rfl 41 _ _ rfl w.heap.size 41 _ (aI zK Pt.zero).toArray rfl rfl HR.out qA rfl (yo zK Pt.zero) ?_);refine bodyPost_ret (bL rfl _ _ _ rfl (Er (eD (setRow_heap _ _ _ _ _ _ HR.out)))) rfl ?_;refine⟨?_,Wi.out _⟩;rw[Nr.out]
   rfl
theorem Tk(d:Nat):szJ d J.zero=true:=by
 cases d with
 | zero=>unfold szJ;rfl
 | succ d=>unfold szJ;rfl
theorem Tm{l:List Kn}(hz:IJ l)(kind key:ByteArray):szJ 13 ((bO l kind key).getD zK).2.content=true:=by
 cases h:bO l kind key with
 | none=>exact Tk 13
 | some k=>exact hz.cont k (List.mem_of_find?_eq_some h)
theorem Ff{O:Nat->Prop}{w:World}{p:Option Addr}{c:Nat}{l:List Kn}(h:rZ O w p c l)(hO:∀b,O b->b<w.heap.size)(hz:l.length<=100000)(kind key:ByteArray):
    Calls Tryz.prog 81 #[.slice p l.length c,.string kind,.string key] w fun e w'=>(∃q,e=.returned (.tuple #[lV ((bO l kind key).getD zK) q,.bool (bO l kind key).isSome])/\iL O w' ((bO l kind key).getD zK).2 q)/\Below w.heap.size w w':=by
 refine(Qu h hO hz kind key).mono fun e w' hh=> ?_;generalize bO l kind key=o at hh
 cases o with
 | none=>exact⟨⟨Pt.zero,hh.1,Ox _ _⟩,hh.2⟩
 | some k=>
  obtain⟨⟨q,he,hi⟩,hb⟩:=hh;exact⟨⟨q,he,hi⟩,hb⟩
theorem yR{O:Nat->Prop}{w:World}{p:Option Addr}{c:Nat}{l:List Kn}(h:rZ O w p c l)(hO:∀b,O b->b<w.heap.size)(hz:IJ l)(kind key under:ByteArray):
    Calls Tryz.prog 123 #[.slice p l.length c,.string kind,.string key,.string under] w fun e w'=>e=.returned (.string (iT l kind key under))/\Below w.heap.size w w':=by
 have hF:=Ff h hO hz.len kind key;have AJ:Hid (szJ 13 ((bO l kind key).getD zK).2.content=true):=Tm hz kind key;have HT:Hid (iT l kind key under=eB ((bO l kind key).getD zK).2.content under):=rfl;clear h hz;generalize (bO l kind key).isSome=bo at hF;generalize (bO l kind key).getD zK=k at hF AJ HT;go_enter Tryz.func123,Tryz.ntmps123
 go_upto_region 2 with(first
  | (go_at_call 81;refine hF.mono ?_;rintro e w1 ⟨⟨q,rfl,hq⟩,aP⟩;unfold lV)
  | (refine wpList_store_row rfl 41 _ _ rfl w1.heap.size 41 _ (aI k q).toArray rfl rfl (bR _) qA rfl (yo k q) ?_))
 have bS:Below w1.heap.size w1 ((w1.alloc (.cells (aI zK Pt.zero).toArray 41)).setRow w1.heap.size (aI k q).toArray):=
  ((Below.refl _ _).alloc (Nat.le_refl _) _).trans ((cz _ w1.heap.size _).below (by simp) fun q hq e=>by unfold aQ at e;omega)
 have hX:((w1.alloc (.cells (aI zK Pt.zero).toArray 41)).setRow w1.heap.size (aI k q).toArray).heap[w1.heap.size]?=some (.cells (aI k q).toArray 41 (0,0)):=setRow_heap _ _ _ _ _ _ (bR _);change Code.wp _ _ _ _ ((w1.alloc (.cells (aI zK Pt.zero).toArray 41)).setRow w1.heap.size (aI k q).toArray);generalize (w1.alloc (.cells (aI zK Pt.zero).toArray 41)).setRow w1.heap.size (aI k q).toArray=W1 at bS hX;have HR:Hid (W1.rangeAt w1.heap.size 6 [.int .i64 k.2.content.kind,.int .i64 k.2.content.int,.string k.2.content.text,.slice q.pk k.2.content.keys.length q.ck,.slice q.pl k.2.content.list.length q.cl]):=jw hX 6 rfl;have NY:=p9 (O:=O) (w:=W1) (j:=k.2.content) (hq.cont.carry fun x hx=>⟨hx,bS.block x (Nat.lt_of_lt_of_le (hO x hx) aP.size)⟩) (fun b hb=>Nat.lt_of_lt_of_le (hO b hb) (Nat.le_trans aP.size bS.size)) (o5 AJ.out) under;clear hF hX hq;go_wp2_with(first
  | (refine wpList_load_mid rfl 25 _ rfl w1.heap.size 6 rfl _ _ HR.out Tryz.underlying25 rfl (by kernel_rfl) ?_)
  | (go_at_call 31;refine NY.mono ?_;rintro e w2 ⟨rfl,aT⟩))
 go_ret;exact⟨by rw[HT.out];rfl,ah aP (ah bS aT)⟩
open Go.RowKit Go.Maps Go.Shelf
theorem Cr{β:Type}{S:Nat->Prop}{B:Nat}{w₀:World}(hB:w₀.heap.size<=B):OwnFrom B (fun(_:β) W=>av S w₀ W):=
 fun _ _ _ _ hs hg hr=>⟨hg.os.trans hs.os,hg.tape.trans hs.tape,hg.output.trans hs.output,Nat.le_trans hs.size hg.size,fun k hk hS=>(hg.block k (Nat.lt_of_lt_of_le hk hs.size) (fun e=>by have:=(hr k e.symm).1;omega)).trans (hs.block k hk hS)⟩
theorem jU{B:Nat}{W W':World}(h:Below W.heap.size W W'):KeepsFrom B W W':=⟨h.size,fun k _ _ hk _=>(h.block k (aO hk)).trans hk⟩
theorem Fg(f:iZ->Bool)(l:List iZ)(x:iZ):(l++ [x]).any f=(l.any f || f x):=by rw[List.any_append];simp
theorem Tn{f:iZ->Bool}{a b:List iZ}(h:a<+:b)(ha:a.any f=true):b.any f=true:=by
 obtain⟨t,rfl⟩:=h;rw[List.any_append,ha];rfl
def Tp(f:iZ->Bool)(R:Nat)(x:iZ)(W:World):Exit->Act->World->Prop
 | .normal,_,W'=>f x=false/\Below W.heap.size W W'
 | .ret,_,W'=>f x=true/\∃W4,Below W.heap.size W W4/\W'=W4.setCell ⟨R,0,none⟩ (.bool false)
 | _,_,_=>False
theorem Jt{n:Nat}(h1:2<=n){g:Operand}{sp sb:Tmp}{assign body:Code}{Q:Exit->Act->World->Prop}{a:Act}{w:World}{B1 B2 R:Nat}(f:iZ->Bool)
    (hg:a.eval g=.func (.func 150) #[] #[.pointer (some ⟨B1,0,none⟩),.pointer (some ⟨B2,0,none⟩)])
    {O:Nat->Prop} {xa xb:jY} {p q:Option Addr} {c d:Nat} (ha:je O w p c xa) (hb:je O w q d xb) (hO:∀k,O k->k<w.heap.size) (DV:zk xa) (Iq:zk xb)
    (wL:w.cell? ⟨B1,0,none⟩=some (.slice p xa.length c)) (mE:w.cell? ⟨B2,0,none⟩=some (.slice q xb.length d)) (AL:B1<w.heap.size) (jm:B2<w.heap.size)
    (hR:w.heap[R]?=some (.cells #[.bool false] 4 (0,0)))
    (Tq:∀(l:Nat) (x:iZ) (W:World) (K:Act->World->Prop),K {tmps:=(a.tmps.setIfInBounds sp (ky x)).setIfInBounds sb (.pointer (some ⟨W.heap.size,0,none⟩)),defers:= []} (W.alloc (.cells (fJ x).toArray 143))→
     assign.wpIn (Fence.wide.inRound l) (n - 1 - 1) Tryz.prog (Exit.then K (fun _ _ _=>False)) {tmps:=a.tmps.setIfInBounds sp (ky x),defers:= []} W)
    (zcy:∀(l:Nat) (x:iZ) (W:World) (Bx:Nat),Below w.heap.size w W->W.heap[Bx]?=some (.cells (fJ x).toArray 143 (0,0))->w.heap.size<=Bx→
     body.wpIn (Fence.wide.inRound l) (n - 1 - 1) Tryz.prog (Tp f R x W) {tmps:=(a.tmps.setIfInBounds sp (ky x)).setIfInBounds sb (.pointer (some ⟨Bx,0,none⟩)),defers:= []} W)
    (zcz:∀(D:Nat) (W:World),w.heap.size<=D->quiet f xa xb=true->Below w.heap.size w W->W.heap[D]?=some (.deferred (some []))->Q .normal {a with defers:={target:=.collected D,args:=#[]}::a.defers} W)
    (zcA:∀(D:Nat) (W:World),w.heap.size<=D->quiet f xa xb=false->av (aQ R) w W->W.cell? ⟨R,0,none⟩=some (.bool false)->W.heap[D]?=some (.deferred (some []))->Q .ret {a with defers:={target:=.collected D,args:=#[]}::a.defers} W):
    (Code.rangeFunc g #[sp] assign body).wp Tryz.prog Q a w:=by
 refine(wpIn_wide (n:=n)).1 ?_;refine wpIn_rangeFunc_ownH rfl (by omega) (gf:=150) (lb:=#[.pointer (some ⟨B1,0,none⟩),.pointer (some ⟨B2,0,none⟩)]) hg trivial (enters_of Tryz.func150 (by kernel_rfl) rfl)
  (Eh (n - 1) B1 B2 (by omega) ha hb hO DV Iq wL mE AL jm) Lay.trans (fun W l o o' _ h hc hw=>Lay.putObj W l o o' h hc hw) (Below.refl _ _) (fun _=>rfl)
  (fun pre W=>(pre.any f=false)/\Below w.heap.size w W)
  (fun cd pre W=>(cd=.ret/\pre.any f=true/\W.cell? ⟨R,0,none⟩=some (.bool false))/\av (aQ R) w W)
  (OwnFrom.and (ownFrom_pure _ (fun pre:List iZ=>pre.any f=false)) (ownFrom_below (Nat.le_refl _) (Nat.le_refl _)))
  (fun cd=>OwnFrom.and (Own.from (fun s A B row hs hg hr=>⟨hs.1,hs.2.1,cell_kept hs.2.2 hg hr⟩) _) (Cr (Nat.le_refl _)))
  ⟨rfl,Below.refl _ _⟩
  (fun x a' W=>∃Bx,w.heap.size<=Bx/\W.heap[Bx]?=some (.cells (fJ x).toArray 143 (0,0))/\a'={tmps:=(a.tmps.setIfInBounds sp (ky x)).setIfInBounds sb (.pointer (some ⟨Bx,0,none⟩)),defers:= []})
  ?hAx ?assign ?body ?done ?stop
 case hAx=>
  rintro x a' s A B row ⟨Bx,hB,hh,e⟩ hg hr;refine⟨Bx,hB, ?_,e⟩;exact(hg.block Bx (aO hh) (fun er=>by
   obtain⟨_,o,ho,hc⟩:=hr Bx er.symm;rw[hh]at ho
   cases ho
   cases hc)).trans hh
 case assign=>
  rintro l pre x W K ⟨hp,hB⟩ hK;have LG:Below W.heap.size W (W.alloc (.cells (fJ x).toArray 143)):=(Below.refl _ _).alloc (Nat.le_refl _) _;have zcB:(Array.foldl (fun(t:Array Value) (y:Tmp×Value)=>match y with| (p,v)=>t.setIfInBounds p v) a.tmps (#[sp].zip #[ky x]))=a.tmps.setIfInBounds sp (ky x):=by simp
  rw[zcB];exact Tq l x W K (hK _ _ (jU LG) (Lay.aW LG) ⟨hp,ah hB LG⟩ ⟨W.heap.size,hB.size,bR _,rfl⟩)
 case body=>
  rintro l pre x a' W _ _ ⟨hp,hB⟩ ⟨Bx,hBx,hh,rfl⟩ _;refine wpIn_mono (zcy l x W Bx hB hh hBx) ?_;intro e a2 W2 h
  cases e with
  | normal=>
   obtain⟨hf,aT⟩:=h;exact⟨jU aT,Lay.aW aT,by rw[Fg,hp,hf];rfl,ah hB aT⟩
  | ret=>
   obtain⟨hf,W4,dB,rfl⟩:=h;refine⟨(jU dB).trans ((KeepsOthers.setCell _ _ _).from _),⟨rfl,by rw[Fg,hf,Bool.or_true], ?_⟩, ?_⟩
   ·have hR4:=((ah hB dB).block R (aO hR)).trans hR;exact World.cell?_setCell_same' _ _ _ (by rw[ay hR4 0 _ rfl];rfl)
   ·exact av.setCell (S:=aQ R) (p:=⟨R,0,none⟩) (av.aW (ah hB dB)) (fun _=>(rfl:R=R)) _
  | exit id=>exact h.elim
  | goto t=>exact h.elim
  | panic ch=>exact h.elim
  | outgrown=>exact h.elim
 case done=>
  rintro D ys W hD rfl ⟨hp,hB⟩ hK;exact zcz D W hD (by unfold quiet;rw[hp];rfl) hB hK
 case stop=>
  rintro D cd pre W hD zfk ⟨⟨rfl,hp,Dq⟩,hk⟩ hK;refine wpIn_wide.2 ?_;exact wp_ret (zcA D W hD (by unfold quiet;rw[Tn zfk hp];rfl) hk Dq hK)
section
attribute [local go_sem] Oper.semAt_some
theorem Fh(l:Lv):zk (nums l):=by
 refine⟨by simp[nums],fun p hp=> ?_⟩;simp only[nums,List.mem_cons,List.not_mem_nil,or_false]at hp
 rcases hp with rfl| rfl| rfl| rfl| rfl| rfl| rfl<;>simp[ByteArray.size]
theorem tT{w:World}(o1 o2:Obj):((w.alloc o1).alloc o2).heap[w.heap.size]?=some o1/\((w.alloc o1).alloc o2).heap[w.heap.size+1]?=some o2:=by
 refine⟨(Below.heap_alloc _ _ _ (by simp)).trans (bR _), ?_⟩;have:=bR (w:=w.alloc o1) o2;rw[World.size_alloc]at this;exact this
theorem Ns{P:Program}{c:Code}{K:Act->World->Prop}{Q:Exit->Act->World->Prop}{a:Act}{w:World}(h:c.wp P (Exit.then K (fun _ _ _=>False)) a w):c.wp P (Exit.then K Q) a w:=
 wp_mono h fun e _ _ h=>by cases e<;>first| exact h| exact h.elim
theorem iV{fn:Func}{tmps:Array Value}{rt:Tmp}{R:Nat}{v:Bool}{w:World}(hf:fn.results=#[.cell rt 4])(ht:tmps.getD rt undef=.pointer (some ⟨R,0,none⟩)):
    ∀(Ds:List Nat) (W:World),Ds.Nodup->(∀D∈Ds,W.heap[D]?=some (.deferred (some [])))->(∀D∈Ds,w.heap.size<=D)->W.cell? ⟨R,0,none⟩=some (.bool v)->Below w.heap.size w W→
     LeavesInM Fence.wide 4 Tryz.prog fn tmps (fun e w'=>e=.returned (.bool v)/\Below w.heap.size w w') (Ds.map fun D=>{target:=.collected D,args:=#[]}) .returning W
 | [],W,_,_,_,hc,hB=>by
  refine⟨.bool v,gz hf tmps Tryz.prog W ht ?_,rfl,hB⟩;simp[loadVar,go_sem,hc]
 | D::r,W,hn,hK,hD,hc,hB=>by
  have hKD:=hK D (by simp);rw[List.nodup_cons]at hn;refine⟨by simp,.inl ⟨D,W.putObj D (.deferred none),rfl,run_takeDeferred hKD, ?_⟩⟩;refine iV hf ht r _ hn.2 (fun D' h'=>(World.putObj_heap_other (fun e=>hn.1 (by first| (rw[e];exact h')| (rw[<-e];exact h')))).trans (hK D' (by simp[h']))) (fun D' h'=>hD D' (by simp[h'])) ?_ ?_
  ·exact cell_kept hc (grownBy_putObj' _ D (.deferred none)) (fun r e=>by cases e;exact⟨_,hKD,rfl⟩)
  ·exact hB.trans (belowK_b (w:=w) (Nat.le_refl _) W D _ _ (hD D (by simp)) hKD rfl rfl)
theorem X8{O:Nat->Prop}{w:World}{a b:Lv}{pa pb:Pl}(ha:BK O w a pa)(hb:BK O w b pb)(hO:∀k,O k->k<w.heap.size)(DV:O_ a)(Iq:O_ b)(u:ByteArray):
    Calls Tryz.prog 94 #[jc a pa,jc b pb,.string u] w fun e w'=>e=.returned (.bool (Ea a b u))/\Below w.heap.size w w':=by
 refine callsIn_wide.1 (callsIn_of_wp_marks (n:=4) Tryz.func94 rfl trivial (wpIn_wide.2 ?_) rfl);obtain⟨W0,fw⟩:∃W0,W0=(((w.alloc (.cells (aY a pa).toArray 47)).alloc (.cells (aY b pb).toArray 47)).alloc (.cells #[.string u] 9)).alloc (.cells #[.bool false] 4):=⟨_,rfl⟩;have dS:Below w.heap.size w W0:=by rw[fw];exact((((Below.refl _ _).alloc (Nat.le_refl _) _).alloc (by simp) _).alloc (by simp;omega) _).alloc (by simp;omega) _
 have hs0:W0.heap.size=w.heap.size+4:=by rw[fw];simp
 have k23:=tT (w:=(w.alloc (.cells (aY a pa).toArray 47)).alloc (.cells (aY b pb).toArray 47)) (.cells #[.string u] 9) (.cells #[.bool false] 4);have k01:=tT (w:=w) (.cells (aY a pa).toArray 47) (.cells (aY b pb).toArray 47);rw[<-fw]at k23;simp only[World.size_alloc]at k23;have k0:W0.heap[w.heap.size]?=some (.cells (aY a pa).toArray 47 (0,0)):=by
  rw[fw,Below.heap_alloc _ _ _ (by simp only[World.size_alloc];omega),Below.heap_alloc _ _ _ (by simp only[World.size_alloc];omega)];exact k01.1
 have k1:W0.heap[w.heap.size+1]?=some (.cells (aY b pb).toArray 47 (0,0)):=by
  rw[fw,Below.heap_alloc _ _ _ (by simp only[World.size_alloc];omega),Below.heap_alloc _ _ _ (by simp only[World.size_alloc];omega)];exact k01.2
 obtain⟨k2,k3⟩:=k23;have hU:=BL (ha.below hO dS) (fun k hk=>Nat.lt_of_lt_of_le (hO k hk) dS.size) DV u;have Fj:Hid (Ea a b u=(quiet (iZ.iR (O8 a u)) (nums a) (nums b)&&(quiet (iZ.iR (O8 a u)) a.lT b.lT&&quiet (iZ.bad u (O8 a u)) a.lS b.lS))):=rfl;generalize Ea a b u=MAY at Fj ⊢;generalize O8 a u=s at hU Fj;have HN1:Hid (∀X:World,Calls Tryz.prog 125 #[jc a pa] X fun e w'=>(∃b,e=.returned (.slice (some ⟨b,0,none⟩) 7 7)/\X.heap.size<=b/\b<w'.heap.size/\je (fun k=>k=b) w' (some ⟨b,0,none⟩) 7 (nums a))/\Below X.heap.size X w'):=fun X=>x_;have HN2:Hid (∀X:World,Calls Tryz.prog 125 #[jc b pb] X fun e w'=>(∃b',e=.returned (.slice (some ⟨b',0,none⟩) 7 7)/\X.heap.size<=b'/\b'<w'.heap.size/\je (fun k=>k=b') w' (some ⟨b',0,none⟩) 7 (nums b))/\Below X.heap.size X w'):=fun X=>x_;have HSN:Hid (zk (nums a)/\zk (nums b)/\(nums a).length=7/\(nums b).length=7):=⟨Fh a,Fh b,rfl,rfl⟩;have PO:Hid (BK O w a pa/\BK O w b pb/\O_ a/\O_ b):=⟨ha,hb,DV,Iq⟩;have HK:Hid (W0.heap[w.heap.size]?=some (.cells (aY a pa).toArray 47 (0,0))/\W0.heap[w.heap.size+1]?=some (.cells (aY b pb).toArray 47 (0,0))/\W0.heap[w.heap.size+2]?=some (.cells #[.string u] 9 (0,0))/\W0.heap[w.heap.size+3]?=some (.cells #[.bool false] 4 (0,0))):=⟨k0,k1,k2,k3⟩;generalize nums a=NA at Fj HN1 HSN;generalize nums b=NB at Fj HN2 HSN;obtain⟨wN,kX,gN,kQ,state,events,mM,us,ty⟩:=a;obtain⟨pu,cu,pt,ct⟩:=pa;obtain⟨zfl,zcC,Tt,Tu,X9,Tv,X_,us',ty'⟩:=b;obtain⟨pu',cu',pt',ct'⟩:=pb;clear ha hb DV Iq k0 k1 k2 k3 k01;simp only[jc,aY]at fw hU HK HN1 HN2 ⊢;simp only[Tryz.ntmps94,List.size_toArray,List.length_cons,List.length_nil,Nat.reduceAdd,Nat.reduceSub,Array.replicate_succ,Array.replicate_zero,List.push_toArray,List.append_toArray,List.nil_append,List.cons_append]
 go_upto_region 1 with fail
 rw[<-fw];obtain⟨q0,q1,q2,q3⟩:=HK.out;have c0:=ay q0 0 _ rfl;have c1:=ay q0 1 _ rfl;have c2:=ay q0 2 _ rfl;have c3:=ay q0 3 _ rfl;have c4:=ay q0 4 _ rfl;have c5:=ay q0 5 _ rfl;have c6:=ay q0 6 _ rfl;have c7:=ay q0 7 _ rfl;have c8:=ay q0 8 _ rfl;have d0:=ay q2 0 _ rfl;clear q0 q1 q2 q3 fw
 go_upto_region 2 with(go_at_call 90;refine hU.mono ?_;rintro e w1 ⟨rfl,aP⟩)
 clear c0 c1 c2 c3 c4 c5 c6 c7 c8 d0 hU;obtain⟨W2,Rj⟩:∃W2,W2=w1.alloc (.cells #[.int .i64 s] 2):=⟨_,rfl⟩;rw[<-Rj];have aT:Below W0.heap.size W0 W2:=by rw[Rj];exact ah aP ((Below.refl _ _).alloc (Nat.le_refl _) _)
 have k7:W2.heap[w1.heap.size]?=some (.cells #[.int .i64 s] 2 (0,0)):=by rw[Rj];exact bR _
 have PK:=aT.size;have Wp:=aP.size;have hs7:=aO k7;have Wl:Hid (∀X,Below W2.heap.size W2 X->X.heap[w.heap.size]?=some (.cells #[.int .i64 wN,.int .i64 kX,.int .i64 gN,.int .i64 kQ,.int .i64 state,.int .i64 events,.int .i64 mM,.slice pu us.length cu,.slice pt ty.length ct] 47 (0,0))):=fun X hX=>((hX.block _ (by omega)).trans (aT.block _ (by omega))).trans HK.out.1;have oV:Hid (∀X,Below W2.heap.size W2 X->X.heap[w.heap.size+1]?=some (.cells #[.int .i64 zfl,.int .i64 zcC,.int .i64 Tt,.int .i64 Tu,.int .i64 X9,.int .i64 Tv,.int .i64 X_,.slice pu' us'.length cu',.slice pt' ty'.length ct'] 47 (0,0))):=fun X hX=>((hX.block _ (by omega)).trans (aT.block _ (by omega))).trans HK.out.2.1;have xX:Hid (∀X,Below W2.heap.size W2 X->X.heap[w.heap.size+1+1]?=some (.cells #[.string u] 9 (0,0))):=fun X hX=>((hX.block _ (by omega)).trans (aT.block _ (by omega))).trans HK.out.2.2.1;have Tw:Hid (∀X,Below W2.heap.size W2 X->X.heap[w.heap.size+1+1+1]?=some (.cells #[.bool false] 4 (0,0))):=fun X hX=>((hX.block _ (by omega)).trans (aT.block _ (by omega))).trans HK.out.2.2.2;have HC7:Hid (∀X,Below W2.heap.size W2 X->X.heap[w1.heap.size]?=some (.cells #[.int .i64 s] 2 (0,0))):=fun X hX=>(hX.block _ hs7).trans k7;have fQ:Hid (Below w.heap.size w W2):=ah dS aT;clear Rj k7 HK;refine Ns ?_;refine aF (by kernel_rfl) (fun w'=>Below W2.heap.size W2 w') ?_;change wpIn _ _ _ _ _ _ _ _ (World.drew _);have hD:Below W2.heap.size W2 W2.drew:=(Below.refl _ _).drew;refine az (i:=0) (d:=some 14) rfl (by(intro wq hq;have zz:=Wl.out wq hq;have z0:=ay zz 0 _ rfl;have z1:=ay zz 1 _ rfl;have z2:=ay zz 2 _ rfl;have z3:=ay zz 3 _ rfl;have z4:=ay zz 4 _ rfl;have z5:=ay zz 5 _ rfl;have z6:=ay zz 6 _ rfl;have z7:=ay zz 7 _ rfl;have z8:=ay zz 8 _ rfl;go_simp;first| done| with_reducible rfl)) ?_;refine az (i:=2) (d:=some 16) rfl (by(intro wq hq;have zz:=oV.out wq hq;have z0:=ay zz 0 _ rfl;have z1:=ay zz 1 _ rfl;have z2:=ay zz 2 _ rfl;have z3:=ay zz 3 _ rfl;have z4:=ay zz 4 _ rfl;have z5:=ay zz 5 _ rfl;have z6:=ay zz 6 _ rfl;have z7:=ay zz 7 _ rfl;have z8:=ay zz 8 _ rfl;go_simp;first| done| with_reducible rfl)) ?_;refine ak (i:=1) hD rfl ?_;intro K hK;go_simp;go_wp2_with(go_at_call 125;refine(HN1.out _).mono ?_;rintro e w3 ⟨⟨b3,rfl,hg3,hl3,hr3⟩,dA⟩);have Wm:Below W2.heap.size W2 w3:=ah hD dA;refine ak (i:=3) Wm rfl ?_;intro K hK;go_simp;go_wp2_with(go_at_call 125;refine(HN2.out _).mono ?_;rintro e w4 ⟨⟨b4,rfl,nN,hl4,BP⟩,dB⟩);have Fp:Below W2.heap.size W2 w4:=ah Wm dB;refine ak (i:=4) Fp rfl ?_;intro K hK;go_simp;go_wp2_with(go_at_call 124;refine(qY _ _ _ _ _ _).mono ?_;rintro e w5 ⟨rfl,xU⟩;have HW5:=(show Hid _ from xU);clear xU);have xU:=HW5.out;have jB:Below w4.heap.size w4 w5:=by rw[xU];exact((Below.refl _ _).alloc (Nat.le_refl _) _).alloc (by simp) _
 have oC:Below W2.heap.size W2 w5:=ah Fp jB;refine aD oC (by kernel_rfl) ?_ _;have k45:=tT (w:=w4) (.cells #[.slice (some ⟨b3,0,none⟩) 7 7] 45) (.cells #[.slice (some ⟨b4,0,none⟩) 7 7] 45);rw[<-xU]at k45;have hs5:w5.heap.size=w4.heap.size+2:=by rw[xU];simp
 have Vy:Hid (je (fun k=>k<w5.heap.size) w5 (some ⟨b3,0,none⟩) 7 NA):=hr3.carry fun k hk=>⟨by have:=dB.size;omega,(jB.block k (by have:=dB.size;omega)).trans (dB.block k (by omega))⟩;have HR2:Hid (je (fun k=>k<w5.heap.size) w5 (some ⟨b4,0,none⟩) 7 NB):=BP.carry fun k hk=>⟨by omega,jB.block k (by omega)⟩;clear hr3 BP dA dB jB xU;have wL:w5.cell? ⟨w4.heap.size,0,none⟩=some (.slice (some ⟨b3,0,none⟩) NA.length 7):=by rw[HSN.out.2.2.1];exact ay k45.1 0 _ rfl
 have mE:w5.cell? ⟨w4.heap.size+1,0,none⟩=some (.slice (some ⟨b4,0,none⟩) NB.length 7):=by rw[HSN.out.2.2.2];exact ay k45.2 0 _ rfl
 have HRB:Hid (w5.heap[w.heap.size+1+1+1]?=some (.cells #[.bool false] 4 (0,0))):=Tw.out w5 oC;have Rq:Below w.heap.size w w5:=ah fQ.out oC;clear k45;go_wp2;refine Jt (n:=4) (sb:=8) (by omega) (iZ.iR s) rfl Vy.out HR2.out (fun _ h=>h) HSN.out.1 HSN.out.2.1 wL mE (by omega) (by omega) HRB.out ?assign ?body ?done ?stop
 case assign=>
  intro l x W K hK;obtain⟨xn,xo,xx⟩:=x;simp only[ky,fJ]at hK ⊢
  gi_wp2
  exact hK
 case body=>
  intro l x W Bx hB hh hBx;have hW:Below W2.heap.size W2 W:=ah oC hB;have jH:=yc (w:=W) x s;have vW:Hid (∀X,Below W.heap.size W X->X.heap[w.heap.size+1+1+1]?=some (.cells #[.bool false] 4 (0,0))):=fun X hX=>Tw.out X (ah hW hX);have y7:=ay (HC7.out W hW) 0 _ rfl
  cases hv:iZ.iR s x with
  | false=>
   have HV:Hid (iZ.iR s x=false):=hv;rw[hv]at jH;obtain⟨xn,xo,xx⟩:=x;simp only[ky,fJ]at hh jH HV ⊢;have x0:=ay hh 0 _ rfl;have x1:=ay hh 1 _ rfl;have x2:=ay hh 2 _ rfl;have x3:=ay hh 3 _ rfl;have x4:=ay hh 4 _ rfl;clear hh hv
   gi_wp2_with (refine⟨trivial, ?_⟩;gi_at_call 126;refine(CallsIn.inRound l (callsIn_wide.2 jH)).mono ?_;rintro e w6 ⟨rfl,jP⟩)
   exact⟨HV.out,jP⟩
  | true=>
   have HV:Hid (iZ.iR s x=true):=hv;rw[hv]at jH;obtain⟨xn,xo,xx⟩:=x;simp only[ky,fJ]at hh jH HV ⊢;have x0:=ay hh 0 _ rfl;have x1:=ay hh 1 _ rfl;have x2:=ay hh 2 _ rfl;have x3:=ay hh 3 _ rfl;have x4:=ay hh 4 _ rfl;clear hh hv
   gi_wp2_with (refine⟨trivial, ?_⟩;gi_at_call 126;refine(CallsIn.inRound l (callsIn_wide.2 jH)).mono ?_;rintro e w6 ⟨rfl,jP⟩;have r6:=vW.out w6 jP;have r0:=ay r6 0 _ rfl;have rz:=ou r6 0)
   exact⟨HV.out,w6,jP,rfl⟩
 case stop=>
  intro D W hD hq hk hc hK;go_wp2;have HM:Hid (MAY=false):=by show _=_;rw[Fj.out,hq];rfl
  rw[HM.out];refine iV rfl rfl [D] W (by simp) (fun x hx=> ?_) (fun x hx=> ?_) hc (Rq.trans (hk.below Rq.size fun k Sd e=>by unfold aQ at e;omega))
  ·simp at hx;subst hx;exact hK
  ·simp at hx;subst hx;have:=Rq.size;omega
 case done=>
  intro D1 W gJ hq1 AL hK1;have hW:Below W2.heap.size W2 W:=ah oC AL;have HQ1:Hid (quiet (iZ.iR s) NA NB=true):=hq1;have zfm:Below w.heap.size w W:=ah Rq AL;obtain⟨t8,t8'⟩:W.cell? ⟨w.heap.size,8,none⟩=some (.slice pt ty.length ct)/\W.cell? ⟨w.heap.size+1,8,none⟩=some (.slice pt' ty'.length ct'):=⟨ay (Wl.out W hW) 8 _ rfl,ay (oV.out W hW) 8 _ rfl⟩;have hsW:=AL.size;have hsD:=aO hK1;clear wL mE Vy HR2 HRB hq1;go_wp2_with(go_at_call 124;refine(qY _ _ _ _ _ _).mono ?_;rintro e w8 ⟨rfl,hw8⟩;have HW8:=(show Hid _ from hw8);clear hw8);have Tx:=tT (w:=W) (.cells #[.slice pt ty.length ct] 45) (.cells #[.slice pt' ty'.length ct'] 45);have wM:Below W.heap.size W w8:=by rw[HW8.out];exact((Below.refl _ _).alloc (Nat.le_refl _) _).alloc (by simp) _
  have hs8:w8.heap.size=W.heap.size+2:=by rw[HW8.out];simp
  rw[<-HW8.out]at Tx;have Rs:Below W2.heap.size W2 w8:=ah hW wM;have hB8:Below w.heap.size w w8:=ah zfm wM;have zcD:w8.heap[D1]?=some (.deferred (some [])):=(wM.block D1 hsD).trans hK1;have wL:=ay Tx.1 0 _ rfl;have mE:=ay Tx.2 0 _ rfl;have zcE:Hid (w8.heap[D1]?=some (.deferred (some []))):=zcD;clear t8 t8' Tx hK1 zcD;refine Jt (n:=4) (sb:=9) (by omega) (iZ.iR s) rfl (PO.out.1.ty.below hO hB8) (PO.out.2.1.ty.below hO hB8) (fun k hk=>Nat.lt_of_lt_of_le (hO k hk) hB8.size) PO.out.2.2.1.ty PO.out.2.2.2.ty wL mE (by omega) (by omega) (Tw.out w8 Rs) ?assign ?body ?done ?stop
  case assign=>
   intro l x W K hK;obtain⟨xn,xo,xx⟩:=x;simp only[ky,fJ]at hK ⊢
   gi_wp2
   exact hK
  case body=>
   intro l x W Bx hB hh hBx;have hW:Below W2.heap.size W2 W:=ah Rs hB;have jH:=yc (w:=W) x s;have vW:Hid (∀X,Below W.heap.size W X->X.heap[w.heap.size+1+1+1]?=some (.cells #[.bool false] 4 (0,0))):=fun X hX=>Tw.out X (ah hW hX);have y7:=ay (HC7.out W hW) 0 _ rfl
   cases hv:iZ.iR s x with
   | false=>
    have HV:Hid (iZ.iR s x=false):=hv;rw[hv]at jH;obtain⟨xn,xo,xx⟩:=x;simp only[ky,fJ]at hh jH HV ⊢;have x0:=ay hh 0 _ rfl;have x1:=ay hh 1 _ rfl;have x2:=ay hh 2 _ rfl;have x3:=ay hh 3 _ rfl;have x4:=ay hh 4 _ rfl;clear hh hv
    gi_wp2_with (refine⟨trivial, ?_⟩;gi_at_call 126;refine(CallsIn.inRound l (callsIn_wide.2 jH)).mono ?_;rintro e w6 ⟨rfl,jP⟩)
    exact⟨HV.out,jP⟩
   | true=>
    have HV:Hid (iZ.iR s x=true):=hv;rw[hv]at jH;obtain⟨xn,xo,xx⟩:=x;simp only[ky,fJ]at hh jH HV ⊢;have x0:=ay hh 0 _ rfl;have x1:=ay hh 1 _ rfl;have x2:=ay hh 2 _ rfl;have x3:=ay hh 3 _ rfl;have x4:=ay hh 4 _ rfl;clear hh hv
    gi_wp2_with (refine⟨trivial, ?_⟩;gi_at_call 126;refine(CallsIn.inRound l (callsIn_wide.2 jH)).mono ?_;rintro e w6 ⟨rfl,jP⟩;have r6:=vW.out w6 jP;have r0:=ay r6 0 _ rfl;have rz:=ou r6 0)
    exact⟨HV.out,w6,jP,rfl⟩
  case stop=>
   intro D W hD hq hk hc hK;go_wp2;have HM:Hid (MAY=false):=by show _=_;rw[Fj.out,HQ1.out,hq];rfl
   rw[HM.out];refine iV rfl rfl [D,D1] W (by simp;omega) (fun x hx=> ?_) (fun x hx=> ?_) hc (hB8.trans (hk.below hB8.size fun k Sd e=>by unfold aQ at e;omega))
   ·simp at hx
    rcases hx with rfl| rfl
    ·exact hK
    ·exact(hk.block _ (by omega) (by have:=oC.size;unfold aQ;omega)).trans zcE.out
   ·simp at hx;have:=Rq.size
    rcases hx with rfl| rfl<;>omega
  case done=>
   intro D2 W' hD2 UF jm VM;have Rt:Below W2.heap.size W2 W':=ah Rs jm;have HQ2:Hid (quiet (iZ.iR s) ty ty'=true):=UF;have zfn:Below w.heap.size w W':=ah hB8 jm;obtain⟨t7,t7'⟩:W'.cell? ⟨w.heap.size,7,none⟩=some (.slice pu us.length cu)/\W'.cell? ⟨w.heap.size+1,7,none⟩=some (.slice pu' us'.length cu'):=⟨ay (Wl.out W' Rt) 7 _ rfl,ay (oV.out W' Rt) 7 _ rfl⟩;have zjZ:=jm.size;have zfo:=aO VM;clear wL mE UF;go_wp2_with(go_at_call 124;refine(qY _ _ _ _ _ _).mono ?_;rintro e w9 ⟨rfl,wE⟩;have HW9:=(show Hid _ from wE);clear wE);have Tx:=tT (w:=W') (.cells #[.slice pu us.length cu] 45) (.cells #[.slice pu' us'.length cu'] 45);have ry:Below W'.heap.size W' w9:=by rw[HW9.out];exact((Below.refl _ _).alloc (Nat.le_refl _) _).alloc (by simp) _
   have hs9:w9.heap.size=W'.heap.size+2:=by rw[HW9.out];simp
   rw[<-HW9.out]at Tx;have KJ:Below W2.heap.size W2 w9:=ah Rt ry;have Fq:Below w.heap.size w w9:=ah zfn ry;have Ty:Hid (w9.heap[D1]?=some (.deferred (some []))/\w9.heap[D2]?=some (.deferred (some []))):=⟨(ry.block D1 (by omega)).trans ((jm.block D1 (by omega)).trans zcE.out),(ry.block D2 zfo).trans VM⟩;have wL:=ay Tx.1 0 _ rfl;have mE:=ay Tx.2 0 _ rfl;clear t7 t7' Tx VM;refine Jt (n:=4) (sb:=10) (by omega) (iZ.bad u s) rfl (PO.out.1.us.below hO Fq) (PO.out.2.1.us.below hO Fq) (fun k hk=>Nat.lt_of_lt_of_le (hO k hk) Fq.size) PO.out.2.2.1.us PO.out.2.2.2.us wL mE (by omega) (by omega) (Tw.out w9 KJ) ?assign ?body ?done ?stop
   case assign=>
    intro l x W K hK;obtain⟨xn,xo,xx⟩:=x;simp only[ky,fJ]at hK ⊢
    gi_wp2
    exact hK
   case body=>
    intro l x W Bx hB hh hBx;have hW:Below W2.heap.size W2 W:=ah KJ hB;have jH:=yc (w:=W) x s;have vW:Hid (∀X,Below W.heap.size W X->X.heap[w.heap.size+1+1+1]?=some (.cells #[.bool false] 4 (0,0))/\X.heap[w1.heap.size]?=some (.cells #[.int .i64 s] 2 (0,0))/\X.heap[w.heap.size+1+1]?=some (.cells #[.string u] 9 (0,0))/\X.heap[Bx]?=some (.cells (fJ x).toArray 143 (0,0))):=fun X hX=>⟨Tw.out X (ah hW hX),HC7.out X (ah hW hX),xX.out X (ah hW hX),(hX.block Bx (aO hh)).trans hh⟩;have y7:=ay (HC7.out W hW) 0 _ rfl;have yS:Hid (iZ.bad u s x=(iZ.iR s x || (!(x.name.toList==u.toList)&&least s x.F8))):=rfl
    cases hv:iZ.iR s x with
    | true=>
     have HV:Hid (iZ.bad u s x=true):=by show _=_;rw[yS.out,hv];rfl
     rw[hv]at jH;clear hv yS;obtain⟨xn,xo,xx⟩:=x;simp only[ky,fJ]at hh jH vW ⊢;have x0:=ay hh 0 _ rfl;have x1:=ay hh 1 _ rfl;have x2:=ay hh 2 _ rfl;have x3:=ay hh 3 _ rfl;have x4:=ay hh 4 _ rfl;clear hh
     gi_wp2_with (refine⟨trivial, ?_⟩;gi_at_call 126;refine(CallsIn.inRound l (callsIn_wide.2 jH)).mono ?_;rintro e w6 ⟨rfl,jP⟩;obtain⟨r6,s6,u6,x6⟩:=vW.out w6 jP;have r0:=ay r6 0 _ rfl;have rz:=ou r6 0;have s0:=ay s6 0 _ rfl;have u0:=ay u6 0 _ rfl;have f0:=ay x6 0 _ rfl;have f1:=ay x6 1 _ rfl;have f2:=ay x6 2 _ rfl)
     exact⟨HV.out,w6,jP,rfl⟩
    | false=>
     rw[hv]at jH yS;clear hv;obtain⟨xn,xo,xx⟩:=x
     cases hn:(xn.toList==u.toList)with
     | true=>
      have HV:Hid (iZ.bad u s ⟨xn,xo,xx⟩=false):=by show _=_;rw[yS.out];simp[hn]
      clear yS;simp only[ky,fJ]at hh jH vW ⊢;have x0:=ay hh 0 _ rfl;have x1:=ay hh 1 _ rfl;have x2:=ay hh 2 _ rfl;have x3:=ay hh 3 _ rfl;have x4:=ay hh 4 _ rfl;clear hh
      gi_wp2_with (refine⟨trivial, ?_⟩;gi_at_call 126;refine(CallsIn.inRound l (callsIn_wide.2 jH)).mono ?_;rintro e w6 ⟨rfl,jP⟩;obtain⟨r6,s6,u6,x6⟩:=vW.out w6 jP;have r0:=ay r6 0 _ rfl;have rz:=ou r6 0;have s0:=ay s6 0 _ rfl;have u0:=ay u6 0 _ rfl;have f0:=ay x6 0 _ rfl;have f1:=ay x6 1 _ rfl;have f2:=ay x6 2 _ rfl)
      exact⟨HV.out,jP⟩
     | false=>
      cases xo with
      | none=>
       have HV:Hid (iZ.bad u s ⟨xn,none,xx⟩=false):=by show _=_;rw[yS.out];simp[least]
       clear yS;simp only[ky,fJ]at hh jH vW ⊢;have x0:=ay hh 0 _ rfl;have x1:=ay hh 1 _ rfl;have x2:=ay hh 2 _ rfl;have x3:=ay hh 3 _ rfl;have x4:=ay hh 4 _ rfl;clear hh
       gi_wp2_with (refine⟨trivial, ?_⟩;gi_at_call 126;refine(CallsIn.inRound l (callsIn_wide.2 jH)).mono ?_;rintro e w6 ⟨rfl,jP⟩;obtain⟨r6,s6,u6,x6⟩:=vW.out w6 jP;have r0:=ay r6 0 _ rfl;have rz:=ou r6 0;have s0:=ay s6 0 _ rfl;have u0:=ay u6 0 _ rfl;have f0:=ay x6 0 _ rfl;have f1:=ay x6 1 _ rfl;have f2:=ay x6 2 _ rfl)
       exact⟨HV.out,jP⟩
      | some y=>
       by_cases hy:s<=y
       ·have HV:Hid (iZ.bad u s ⟨xn,some y,xx⟩=true):=by show _=_;rw[yS.out];simp[least,hn,hy]
        clear yS;simp only[ky,fJ]at hh jH vW ⊢;have x0:=ay hh 0 _ rfl;have x1:=ay hh 1 _ rfl;have x2:=ay hh 2 _ rfl;have x3:=ay hh 3 _ rfl;have x4:=ay hh 4 _ rfl;clear hh
        gi_wp2_with (refine⟨trivial, ?_⟩;gi_at_call 126;refine(CallsIn.inRound l (callsIn_wide.2 jH)).mono ?_;rintro e w6 ⟨rfl,jP⟩;obtain⟨r6,s6,u6,x6⟩:=vW.out w6 jP;have r0:=ay r6 0 _ rfl;have rz:=ou r6 0;have s0:=ay s6 0 _ rfl;have u0:=ay u6 0 _ rfl;have f0:=ay x6 0 _ rfl;have f1:=ay x6 1 _ rfl;have f2:=ay x6 2 _ rfl)
        exact⟨HV.out,w6,jP,rfl⟩
       ·have HV:Hid (iZ.bad u s ⟨xn,some y,xx⟩=false):=by show _=_;rw[yS.out];simp[least,hn,hy]
        clear yS;simp only[ky,fJ]at hh jH vW ⊢;have x0:=ay hh 0 _ rfl;have x1:=ay hh 1 _ rfl;have x2:=ay hh 2 _ rfl;have x3:=ay hh 3 _ rfl;have x4:=ay hh 4 _ rfl;clear hh
        gi_wp2_with (refine⟨trivial, ?_⟩;gi_at_call 126;refine(CallsIn.inRound l (callsIn_wide.2 jH)).mono ?_;rintro e w6 ⟨rfl,jP⟩;obtain⟨r6,s6,u6,x6⟩:=vW.out w6 jP;have r0:=ay r6 0 _ rfl;have rz:=ou r6 0;have s0:=ay s6 0 _ rfl;have u0:=ay u6 0 _ rfl;have f0:=ay x6 0 _ rfl;have f1:=ay x6 1 _ rfl;have f2:=ay x6 2 _ rfl)
        exact⟨HV.out,jP⟩
   case stop=>
    intro D W hD hq hk hc hK;go_wp2;have HM:Hid (MAY=false):=by show _=_;rw[Fj.out,HQ1.out,HQ2.out,hq];rfl
    rw[HM.out];refine iV rfl rfl [D,D2,D1] W (by simp;omega) (fun x hx=> ?_) (fun x hx=> ?_) hc (Fq.trans (hk.below Fq.size fun k Sd e=>by unfold aQ at e;omega))
    ·simp at hx
     rcases hx with rfl| rfl| rfl
     ·exact hK
     ·exact(hk.block _ (by omega) (by have:=oC.size;unfold aQ;omega)).trans Ty.out.2
     ·exact(hk.block _ (by omega) (by have:=oC.size;unfold aQ;omega)).trans Ty.out.1
    ·simp at hx;have:=Rq.size
     rcases hx with rfl| rfl| rfl<;>omega
   case done=>
    intro D3 W3 zj0 hq3 kW hK3;have vZ:Below W2.heap.size W2 W3:=ah KJ kW;have HM:Hid (MAY=true):=by show _=_;rw[Fj.out,HQ1.out,HQ2.out,hq3];rfl
    have zfp:Below w.heap.size w W3:=ah Fq kW;have r0:=ay (Tw.out W3 vZ) 0 _ rfl;have rz:=ou (Tw.out W3 vZ) 0;have HRC:Hid (W3.heap[w.heap.size+1+1+1]?=some (.cells #[.bool false] 4 (0,0))):=Tw.out W3 vZ;have HK3:Hid (W3.heap[D3]?=some (.deferred (some []))/\W3.heap[D2]?=some (.deferred (some []))/\W3.heap[D1]?=some (.deferred (some []))):=⟨hK3,(kW.block _ (by omega)).trans Ty.out.2,(kW.block _ (by omega)).trans Ty.out.1⟩;clear hK3 hq3 wL mE;go_wp2;rw[HM.out];have qf:=KeepsOthers.setCell W3 ⟨w.heap.size+1+1+1,0,none⟩ (.bool true);refine iV rfl rfl [D3,D2,D1] _ (by simp;omega) (fun x hx=> ?_) (fun x hx=> ?_) (World.cell?_setCell_same' _ _ _ (by rw[ay HRC.out 0 _ rfl];rfl)) (zfp.setCell (p:=⟨w.heap.size+1+1+1,0,none⟩) (by simp;omega) _)
    ·simp at hx
     rcases hx with rfl| rfl| rfl
     ·exact qf.same _ _ HK3.out.1 rfl
     ·exact qf.same _ _ HK3.out.2.1 rfl
     ·exact qf.same _ _ HK3.out.2.2 rfl
    ·simp at hx;have:=Rq.size
     rcases hx with rfl| rfl| rfl<;>omega
end
open Go.RowKit
theorem Ju(w:World)(n:Nat):Below w.heap.size w (w.drewN n):=⟨rfl,rfl,rfl,Nat.le_refl _,fun _ _=>rfl⟩
theorem b_{a:Act}{o:Oper}{m:Operand}{T:TypeId}{ad:Addr}{w:World}{v:Value}(hop:o.op=Op.load T m)(hm:a.eval m=.pointer (some ad))(hl:(Instr.loadAt T (.pointer (some ad))).run Tryz.prog w=.ok v w):(execOp a.eval o).run Tryz.prog w=.ok (.value v) w:=by
 simp[execOp,hop,hm,hl]
theorem ni:jf.toList= [106,111,105,110]:=by rw[Lib.toList_data]
theorem lK:kz.toList= [105,110,118,105,116,101]:=by rw[Lib.toList_data]
theorem Jv:II.toList= [108,101,97,118,101]:=by rw[Lib.toList_data]
theorem yT:wP.toList= [98,97,110]:=by rw[Lib.toList_data]
theorem Fs:BS.toList= [112,117,98,108,105,99]:=by rw[Lib.toList_data]
theorem iF:aU.toList= [109,46,114,111,111,109,46,109,101,109,98,101,114]:=by rw[Lib.toList_data]
theorem iG:bC.toList= [109,46,114,111,111,109,46,99,114,101,97,116,101]:=by rw[Lib.toList_data]
theorem kU:bK.toList= [109,46,114,111,111,109,46,112,111,119,101,114,95,108,101,118,101,108,115]:=by rw[Lib.toList_data]
theorem KL:(⟨#[]⟩:ByteArray).toList= []:=by rw[Lib.toList_data]
section
variable {w : World} {hb : Nat} {h : Hr} {p : Ph}
theorem iK.Ya(x:iK w hb h p):w.rangeAt hb 34 (aY h.l p.l):=jw x.nL 34 rfl
theorem iK.iW(x:iK w hb h p):w.rangeAt hb 0 (aB h.e p.e):=jw x.nL 0 rfl
theorem iK.vv(x:iK w hb h p):w.rangeAt hb 5 [.int .i64 h.e.content.kind,.int .i64 h.e.content.int,.string h.e.content.text,.slice p.e.pk h.e.content.keys.length p.e.ck,.slice p.e.pl h.e.content.list.length p.e.cl]:=jw x.nL 5 rfl
theorem iK.Qv(x:iK w hb h p):(Instr.loadAt 47 (.pointer (some ⟨hb,34,none⟩))).run Tryz.prog w=.ok (jc h.l p.l) w:=run_loadAt_mid w hb 34 47 (aY h.l p.l) _ x.Ya Tryz.underlying47 rfl tC
theorem Fu(x:iK w hb h p)(hz:NV h)(u:ByteArray):Calls Tryz.prog 89 #[.pointer (some ⟨hb,0,none⟩),.string u] w fun e w'=>e=.returned (.string (tq h.st u))/\Below w.heap.size w w':=by
 have hT:=yR x.st (fun _ h=>h) hz.st aU u dt;have HT:Hid (tq h.st u=iT h.st aU u dt):=rfl;have hs:=x.state;clear x;go_enter Tryz.func89,Tryz.ntmps89;go_wp2_with(go_at_call 123;refine hT.mono ?_;rintro e w1 ⟨rfl,aP⟩);go_ret;exact⟨by rw[HT.out];rfl,aP⟩
theorem rF(x:iK w hb h p)(hz:NV h):Calls Tryz.prog 55 #[.pointer (some ⟨hb,0,none⟩)] w fun e w'=>e=.returned (.bool h.gD)/\Below w.heap.size w w':=by
 have hM:=Fu x hz h.e.ag;have HT:Hid (h.gD=eX (tq h.st h.e.ag) jf):=rfl;have hs:=x.ag;clear x;generalize tq h.st h.e.ag=m at hM HT;go_enter Tryz.func55,Tryz.ntmps55;go_wp2_with(go_at_call 89;refine hM.mono ?_;rintro e w1 ⟨rfl,aP⟩);go_ret;exact⟨by rw[HT.out];unfold eX;rw[ni];rfl,aP⟩
theorem rG(x:iK w hb h p)(hz:NV h):Calls Tryz.prog 86 #[.pointer (some ⟨hb,0,none⟩)] w fun e w'=>e=.returned (.string h.target)/\Below w.heap.size w w':=by
 have hM:=Fu x hz h.e.key;have HT:Hid (h.target=tq h.st h.e.key):=rfl;have hs:=x.key;clear x;go_enter Tryz.func86,Tryz.ntmps86;go_wp2_with(go_at_call 89;refine hM.mono ?_;rintro e w1 ⟨rfl,aP⟩);go_ret;exact⟨by rw[HT.out];rfl,aP⟩
theorem Cs(x:iK w hb h p):Calls Tryz.prog 59 #[.pointer (some ⟨hb,0,none⟩)] w fun e w'=>e=.returned (.bool h.own)/\Below w.heap.size w w':=by
 have HT:Hid (h.own=eX h.e.key h.e.ag):=rfl;have hk:=x.key;have hs:=x.ag;clear x;go_enter Tryz.func59,Tryz.ntmps59;go_wp2;go_quiet (fail);go_wp2;go_ret;exact⟨by rw[HT.out];rfl,Ju _ _⟩
theorem vw(x:iK w hb h p)(hz:NV h):Calls Tryz.prog 56 #[.pointer (some ⟨hb,0,none⟩)] w fun e w'=>e=.returned (.int .i64 h.s)/\Below w.heap.size w w':=by
 have HX:Hid (∀X,Below w.heap.size w X->iK X hb h p):=fun X hX=>x.below hX;have HU:Hid (∀X,Below w.heap.size w X->Calls Tryz.prog 90 #[jc h.l p.l,.string h.e.ag] X fun e w'=>e=.returned (.int .i64 h.s)/\Below X.heap.size X w'):=fun X hX=>BL (HX.out X hX).lv (fun _ h=>h) hz.l h.e.ag;clear x;obtain⟨W,hW⟩:∃W,W=w:=⟨_,rfl⟩;go_enter Tryz.func56,Tryz.ntmps56
 go_upto_region 1 with fail
 subst hW;refine aF (by kernel_rfl) (fun w'=>Below W.heap.size W w') ?_;change wpIn _ _ _ _ _ _ _ _ (World.drew _);have hD:Below W.heap.size W W.drew:=(Below.refl _ _).drew;refine aa (i:=0) (d:=some 3) rfl ?_;refine aa (i:=1) (d:=some 4) rfl ?_;refine aa (i:=2) (d:=some 5) rfl ?_;refine ae (i:=3) (d:=(some 6)) (v:=(jc h.l p.l)) (a':= ?aqr3) rfl rfl (by kernel_rfl) (by kernel_rfl) (by kernel_rfl) (fun _ _ _ h=>h) (Or.inl ⟨by rfl, ?yqr3⟩) ?fqr3 ?_
 case yqr3=>exact fun wq hq=>b_ rfl rfl ((HX.out wq hq).Qv)
 case fqr3=>(go_frame;rfl)
 refine aa (i:=4) (d:=some 7) rfl ?_;refine aa (i:=5) (d:=some 8) rfl ?_;refine aa (i:=6) (d:=some 9) rfl ?_;refine aa (i:=7) (d:=some 10) rfl ?_;refine az (i:=8) (d:=some 11) rfl (by(intro wq hq;have zf:=(HX.out wq hq).ag;go_simp;first| done| with_reducible rfl)) ?_;refine ak (i:=9) hD rfl ?_;intro K hK;go_simp;go_wp2_with(go_at_call 90;refine(HU.out _ hD).mono ?_;rintro e w1 ⟨rfl,Jw⟩);have KJ:Below W.heap.size W w1:=ah hD Jw;refine aa (i:=10) (d:=some 2) rfl ?_;refine aD KJ (by kernel_rfl) ?_ _;go_wp2;go_ret;exact⟨rfl,KJ⟩
theorem Bg(x:iK w hb h p)(hz:NV h):Calls Tryz.prog 88 #[.pointer (some ⟨hb,0,none⟩)] w fun e w'=>e=.returned (.int .i64 h.t)/\Below w.heap.size w w':=by
 have HX:Hid (∀X,Below w.heap.size w X->iK X hb h p):=fun X hX=>x.below hX;have HU:Hid (∀X,Below w.heap.size w X->Calls Tryz.prog 90 #[jc h.l p.l,.string h.e.key] X fun e w'=>e=.returned (.int .i64 h.t)/\Below X.heap.size X w'):=fun X hX=>BL (HX.out X hX).lv (fun _ h=>h) hz.l h.e.key;clear x;obtain⟨W,hW⟩:∃W,W=w:=⟨_,rfl⟩;go_enter Tryz.func88,Tryz.ntmps88
 go_upto_region 1 with fail
 subst hW;refine aF (by kernel_rfl) (fun w'=>Below W.heap.size W w') ?_;change wpIn _ _ _ _ _ _ _ _ (World.drew _);have hD:Below W.heap.size W W.drew:=(Below.refl _ _).drew;refine aa (i:=0) (d:=some 3) rfl ?_;refine aa (i:=1) (d:=some 4) rfl ?_;refine aa (i:=2) (d:=some 5) rfl ?_;refine ae (i:=3) (d:=(some 6)) (v:=(jc h.l p.l)) (a':= ?aqr3) rfl rfl (by kernel_rfl) (by kernel_rfl) (by kernel_rfl) (fun _ _ _ h=>h) (Or.inl ⟨by rfl, ?yqr3⟩) ?fqr3 ?_
 case yqr3=>exact fun wq hq=>b_ rfl rfl ((HX.out wq hq).Qv)
 case fqr3=>(go_frame;rfl)
 refine aa (i:=4) (d:=some 7) rfl ?_;refine aa (i:=5) (d:=some 8) rfl ?_;refine aa (i:=6) (d:=some 9) rfl ?_;refine aa (i:=7) (d:=some 10) rfl ?_;refine az (i:=8) (d:=some 11) rfl (by(intro wq hq;have zf:=(HX.out wq hq).key;go_simp;first| done| with_reducible rfl)) ?_;refine ak (i:=9) hD rfl ?_;intro K hK;go_simp;go_wp2_with(go_at_call 90;refine(HU.out _ hD).mono ?_;rintro e w1 ⟨rfl,Jw⟩);have KJ:Below W.heap.size W w1:=ah hD Jw;refine aa (i:=10) (d:=some 2) rfl ?_;refine aD KJ (by kernel_rfl) ?_ _;go_wp2;go_ret;exact⟨rfl,KJ⟩
end
abbrev fO(b:Bool):Ending:=.panicked [{v:=.iface 84 (.agg #[.bool b]),recovered:=false}]
theorem yU(b:Bool)(w:World):Calls Tryz.prog 50 #[.bool b] w fun e w'=>e=fO b/\w'=w:=by
 go_enter Tryz.func50,Tryz.ntmps50;go_wp2;exact⟨rfl,rfl,rfl⟩
theorem Tz(w:World):Calls Tryz.prog 54 #[.bool false] w fun e w'=>e=.returned (.tuple #[])/\w'=w:=by
 go_enter Tryz.func54,Tryz.ntmps54;go_wp2
 go_end0
 exact⟨rfl,rfl⟩
theorem Qw(w:World):Calls Tryz.prog 54 #[.bool true] w fun e w'=>e=fO false/\w'=w:=by
 go_enter Tryz.func54,Tryz.ntmps54;go_wp2_with(go_at_call 50;refine(yU false _).mono ?_;rintro e w1 ⟨rfl,rfl⟩);exact⟨rfl,rfl,rfl⟩
theorem Qx(w:World):Calls Tryz.prog 93 #[.bool false] w fun e w'=>e=.returned (.tuple #[])/\w'=w:=by
 go_enter Tryz.func93,Tryz.ntmps93;go_wp2
 go_end0
 exact⟨rfl,rfl⟩
theorem Nt(w:World):Calls Tryz.prog 93 #[.bool true] w fun e w'=>e=fO true/\w'=w:=by
 go_enter Tryz.func93,Tryz.ntmps93;go_wp2_with(go_at_call 50;refine(yU true _).mono ?_;rintro e w1 ⟨rfl,rfl⟩);exact⟨rfl,rfl,rfl⟩
theorem Fv(b:Bool)(w:World):Calls Tryz.prog 26 #[.iface 84 (.agg #[.bool b])] w fun e w'=>e=.returned (.int .i64 (if b=true then 0 else 110))/\Below w.heap.size w w':=by
 have hta:∀(b:Bool) (w:World),(Instr.typeAssert (.iface 84 (.agg #[.bool b])) 20 84 true).run Tryz.prog w=.ok (.tuple #[.agg #[.bool b],.bool true]) w:=fun _ _=>by kernel_rfl
 cases b
 ·go_enter Tryz.func26,Tryz.ntmps26;go_wp2;go_ret;exact⟨rfl,(Below.refl _ _).alloc (Nat.le_refl _) _⟩
 ·go_enter Tryz.func26,Tryz.ntmps26;go_wp2;go_ret;exact⟨rfl,(Below.refl _ _).alloc (Nat.le_refl _) _⟩
def NoP:Bool->Ending->Prop
 | true,e=>e=fO false
 | false,e=>e=.returned (.tuple #[])
def zfr:Bool->Ending->Prop
 | true,e=>e=fO true
 | false,e=>e=.returned (.tuple #[])
theorem bB(b:Bool)(w:World):Calls Tryz.prog 54 #[.bool b] w fun e w'=>NoP b e/\w=w':=by
 cases b
 ·exact(Tz w).mono fun _ _ h=>⟨h.1,h.2.symm⟩
 ·exact(Qw w).mono fun _ _ h=>⟨h.1,h.2.symm⟩
theorem fP(b:Bool)(w:World):Calls Tryz.prog 93 #[.bool b] w fun e w'=>zfr b e/\w=w':=by
 cases b
 ·exact(Qx w).mono fun _ _ h=>⟨h.1,h.2.symm⟩
 ·exact(Nt w).mono fun _ _ h=>⟨h.1,h.2.symm⟩
theorem dE(b:Bool)(w:World):Calls Tryz.prog 50 #[.bool b] w fun e w'=>e=fO b/\w=w':=(yU b w).mono fun _ _ h=>⟨h.1,h.2.symm⟩
structure kZ(w:World)(eb:Nat)(e:Ev)(p:Pt):Prop where
 nL:w.heap[eb]?=some (.cells (aB e p).toArray 28 (0,0))
 ev:iL (· <w.heap.size) w e p
section
variable {w : World} {eb : Nat} {e : Ev} {p : Pt}
theorem kZ.below{w':World}(x:kZ w eb e p)(b:Below w.heap.size w w'):kZ w' eb e p:=⟨(b.block eb (aO x.nL)).trans x.nL,x.ev.carry fun k hk=>⟨Nat.lt_of_lt_of_le hk b.size,b.block k hk⟩⟩
theorem kZ.room(x:kZ w eb e p):w.cell? ⟨eb,0,none⟩=some (.string e.room):=ay x.nL 0 _ rfl
theorem kZ.aK(x:kZ w eb e p):w.cell? ⟨eb,1,none⟩=some (.string e.aK):=ay x.nL 1 _ rfl
theorem kZ.ag(x:kZ w eb e p):w.cell? ⟨eb,2,none⟩=some (.string e.ag):=ay x.nL 2 _ rfl
theorem kZ.tu(x:kZ w eb e p):w.cell? ⟨eb,3,none⟩=some (.bool e.st):=ay x.nL 3 _ rfl
theorem kZ.key(x:kZ w eb e p):w.cell? ⟨eb,4,none⟩=some (.string e.key):=ay x.nL 4 _ rfl
theorem kZ.prev(x:kZ w eb e p):w.cell? ⟨eb,10,none⟩=some (.slice p.pp e.prev.length p.cp):=ay x.nL 10 _ rfl
theorem kZ.Qy(x:kZ w eb e p):w.cell? ⟨eb,11,none⟩=some (.slice p.pa e.aA.length p.ca):=ay x.nL 11 _ rfl
theorem kZ.vv(x:kZ w eb e p):w.rangeAt eb 5 [.int .i64 e.content.kind,.int .i64 e.content.int,.string e.content.text,.slice p.pk e.content.keys.length p.ck,.slice p.pl e.content.list.length p.cl]:=jw x.nL 5 rfl
theorem kZ.iW(x:kZ w eb e p):w.rangeAt eb 0 (aB e p):=jw x.nL 0 rfl
theorem kZ.Yd(x:kZ w eb e p):(Instr.loadAt 25 (.pointer (some ⟨eb,5,none⟩))).run Tryz.prog w=.ok (.agg #[.int .i64 e.content.kind,.int .i64 e.content.int,.string e.content.text,.slice p.pk e.content.keys.length p.ck,.slice p.pl e.content.list.length p.cl]) w:=run_loadAt_mid w eb 5 25 [.int .i64 e.content.kind,.int .i64 e.content.int,.string e.content.text,.slice p.pk e.content.keys.length p.ck,.slice p.pl e.content.list.length p.cl] _ x.vv Tryz.underlying25 rfl (by kernel_rfl)
end
theorem kC{O:Nat->Prop}{w:World}{e:Ev}{p:Pt}(h:iL O w e p)(hO:∀b,O b->b<w.heap.size){W:World}(hb:Below w.heap.size w W)(hX:W.heap[w.heap.size]?=some (.cells (aB e p).toArray 28 (0,0))):kZ W w.heap.size e p:=
 ⟨hX,h.carry fun k hk=>⟨Nat.lt_of_lt_of_le (hO k hk) hb.size,hb.block k (hO k hk)⟩⟩
def Ye(w w':World)(r:Lv×Int)(x:Ending):Prop:=((r.2=0/\∃q,x=.returned (jc r.1 q)/\BK (fun b=>w.heap.size<=b/\b<w'.heap.size) w' r.1 q)\/ (r.2=1/\x=fO false))/\Below w.heap.size w w'
theorem Fw(l:Lv)(p:Pl):(aY l p).toArray.all (·.oneCell')=true:=all_oneCell_toArray fun v hv=>by
 simp only[aY,List.mem_cons,List.not_mem_nil,or_false]at hv
 rcases hv with rfl| rfl| rfl| rfl| rfl| rfl| rfl| rfl| rfl<;>rfl
theorem Qz{w:World}{b o:Nat}{l:Lv}{p:Pl}(h:w.rangeAt b o (aY l p)):(loadVar 47 ⟨b,o,none⟩).run Tryz.prog w=.ok (jc l p) w:=run_loadVar_mid w b o 47 (aY l p) _ h Tryz.underlying47 rfl tC
theorem tV{O:Nat->Prop}{w:World}{e:Ev}{p:Pt}(h:iL O w e p)(hO:∀b,O b->b<w.heap.size)(hz:szJ 12 e.content=true):
    Calls Tryz.prog 83 #[dZ e p] w fun x w'=>Ye w w' (bQ (eU e.content)) x:=by
 obtain⟨W0,fw⟩:∃W0,W0=(w.alloc (.cells (aB e p).toArray 28)).alloc (.cells #[.int .i64 0,.int .i64 0,.int .i64 0,.int .i64 0,.int .i64 0,.int .i64 0,.int .i64 0,.slice none 0 0,.slice none 0 0] 47):=⟨_,rfl⟩;have dS:Below w.heap.size w W0:=by rw[fw];exact((Below.refl _ _).alloc (Nat.le_refl _) _).alloc (by simp) _
 have r9:W0.heap[w.heap.size]?=some (.cells (aB e p).toArray 28 (0,0)):=by rw[fw,Below.heap_alloc _ _ _ (by simp)];exact bR _
 have Yf:W0.heap[w.heap.size+1]?=some (.cells #[.int .i64 0,.int .i64 0,.int .i64 0,.int .i64 0,.int .i64 0,.int .i64 0,.int .i64 0,.slice none 0 0,.slice none 0 0] 47 (0,0)):=by
  rw[fw];have:=bR (w:=w.alloc (.cells (aB e p).toArray 28)) (.cells #[.int .i64 0,.int .i64 0,.int .i64 0,.int .i64 0,.int .i64 0,.int .i64 0,.int .i64 0,.slice none 0 0,.slice none 0 0] 47);rw[World.size_alloc]at this;exact this
 have hV:=kC h hO dS r9;have HR:Hid (W0.rangeAt w.heap.size 5 [.int .i64 e.content.kind,.int .i64 e.content.int,.string e.content.text,.slice p.pk e.content.keys.length p.ck,.slice p.pl e.content.list.length p.cl]):=hV.vv;have hP:=MF (O:=(· <W0.heap.size)) (w:=W0) (c:=e.content) hV.ev.cont (fun _ h=>h) hz;have HRB:Hid (∀X,Below W0.heap.size W0 X->X.heap[w.heap.size+1]?=some (.cells #[.int .i64 0,.int .i64 0,.int .i64 0,.int .i64 0,.int .i64 0,.int .i64 0,.int .i64 0,.slice none 0 0,.slice none 0 0] 47 (0,0))):=fun X hX=>(hX.block _ (aO Yf)).trans Yf;have AJ:Hid (w.heap.size+2<=W0.heap.size):=by show _<=_;rw[fw];simp
 have HE:Hid ((bQ (eU e.content)).2=0\/ (bQ (eU e.content)).2=1):=AV _;generalize bQ (eU e.content)=R at hP HE;obtain⟨L,E⟩:=R;simp only at hP HE;clear h hV Yf r9;unfold dZ
 rcases HE.out with rfl| rfl
 ·go_enter Tryz.func83,Tryz.ntmps83
  go_upto_region 1 with fail
  rw[<-fw];clear fw
  go_upto_region 2 with(first
   | (refine wpList_load_mid rfl 25 _ rfl w.heap.size 5 rfl _ _ HR.out Tryz.underlying25 rfl (by kernel_rfl) ?_)
   | (go_at_call 120;refine hP.mono ?_;rintro x w1 ⟨⟨q,rfl,hI⟩,aP⟩)
   | (refine wpList_store_row rfl 47 _ _ rfl w1.heap.size 47 _ (aY L q).toArray rfl rfl (bR _) tC rfl (Fw L q) ?_))
  have bS:Below w1.heap.size w1 ((w1.alloc (.cells #[.int .i64 0,.int .i64 0,.int .i64 0,.int .i64 0,.int .i64 0,.int .i64 0,.int .i64 0,.slice none 0 0,.slice none 0 0] 47)).setRow w1.heap.size (aY L q).toArray):=
   ((Below.refl _ _).alloc (Nat.le_refl _) _).trans ((cz _ w1.heap.size _).below (by simp) fun q hq e=>by unfold aQ at e;omega)
  have NZ:((w1.alloc (.cells #[.int .i64 0,.int .i64 0,.int .i64 0,.int .i64 0,.int .i64 0,.int .i64 0,.int .i64 0,.slice none 0 0,.slice none 0 0] 47)).setRow w1.heap.size (aY L q).toArray).heap[w1.heap.size]?=some (.cells (aY L q).toArray 47 (0,0)):=setRow_heap _ _ _ _ _ _ (bR _);generalize (w1.alloc (.cells #[.int .i64 0,.int .i64 0,.int .i64 0,.int .i64 0,.int .i64 0,.int .i64 0,.int .i64 0,.slice none 0 0,.slice none 0 0] 47)).setRow w1.heap.size (aY L q).toArray=W1 at bS NZ;have HRA:Hid (W1.rangeAt w1.heap.size 0 (aY L q)):=eD NZ;have HB:=HRB.out W1 (ah aP bS);have HBH:=(show Hid _ from HB);clear HB NZ;go_wp2_with(first
   | (go_at_call 54;refine(bB _ _).mono ?_;rintro e wn ⟨he,rfl⟩;replace he:e=_:=he;subst he)
   | (refine wpList_load_mid rfl 47 _ rfl w1.heap.size 0 rfl (aY L q) _ HRA.out Tryz.underlying47 rfl tC ?_)
   | (refine wpList_store_row rfl 47 _ _ rfl (w.heap.size+1) 47 _ (aY L q).toArray rfl rfl HBH.out tC rfl (Fw L q) ?_))
  refine bodyPost_ret (gz rfl _ _ _ rfl (Qz (eD (setRow_heap _ _ _ _ _ _ HBH.out)))) rfl ?_;have vV:Below w.heap.size w W1:=ah dS (ah aP bS);have hkk:=cz W1 (w.heap.size+1) (aY L q).toArray;refine⟨.inl ⟨rfl,q,rfl,hI.carry fun b hb=> ?_⟩,vV.trans (hkk.below vV.size fun k hk e=>by unfold aQ at e;omega)⟩;have s1:=AJ.out;have s2:=aP.size;exact⟨⟨by have:=hb.1;omega,Nat.lt_of_lt_of_le (Nat.lt_of_lt_of_le hb.2 bS.size) hkk.size⟩,(hkk.block b (Nat.lt_of_lt_of_le hb.2 bS.size) (by unfold aQ;have:=hb.1;omega)).trans (bS.block b hb.2)⟩
 ·go_enter Tryz.func83,Tryz.ntmps83
  go_upto_region 1 with fail
  rw[<-fw];clear fw;go_wp2_with(first
   | (refine wpList_load_mid rfl 25 _ rfl w.heap.size 5 rfl _ _ HR.out Tryz.underlying25 rfl (by kernel_rfl) ?_)
   | (go_at_call 120;refine hP.mono ?_;rintro x w1 ⟨⟨q,rfl,hI⟩,aP⟩)
   | (refine wpList_store_row rfl 47 _ _ rfl w1.heap.size 47 _ (aY L q).toArray rfl rfl (bR _) tC rfl (Fw L q) ?_)
   | (go_at_call 54;refine(bB _ _).mono ?_;rintro e wn ⟨he,rfl⟩;replace he:e=_:=he;subst he))
  refine⟨rfl,.inr ⟨rfl,rfl⟩,ah dS (ah aP ?_)⟩;exact((Below.refl _ _).alloc (Nat.le_refl _) _).trans ((cz _ w1.heap.size _).below (by simp) fun q hq e=>by unfold aQ at e;omega)
end Go.Proofs.YtldegjjaknelgaaGreatDoor
