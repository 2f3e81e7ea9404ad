/- A part. -/
import Derived.Test.YtldkblgclochjaaGreatDoorE24
set_option maxRecDepth 100000
set_option maxHeartbeats 16000000
namespace Go.Proofs.YtldkblgclochjaaGreatDoor
open Go.RowKit Go.Maps
def Ow(O:Nat->Prop)(w:World)(b3:Nat)(W:World)(b:Nat):Prop:=O b\/ (w.heap.size+2<=b/\b<W.heap.size/\b≠b3)
structure JI(O:Nat->Prop)(w:World)(box:Obj)(b3:Nat)(ks:List ByteArray)(js:List J)(m q1 c1 q2 c2:Nat)(W:World):Prop where
 few:m<=100000
 low:w.heap.size+2<=b3
 lt:b3<W.heap.size
 box:W.heap[w.heap.size]?=some box
 res:W.heap[w.heap.size+1]?=some (.cells #[.int .i64 0,.int .i64 0,.string ⟨#[]⟩,.slice none 0 0,.slice none 0 0] 25 (0,0))
 obj:W.heap[b3]?=some (.cells #[.int .i64 5,.int .i64 0,.string ⟨#[]⟩,.slice (some ⟨q1,0,none⟩) m c1,.slice (some ⟨q2,0,none⟩) m c2] 25 (0,0))
 isj:isJ (Ow O w b3 W) W (.mk 5 0 aH ks js) [.int .i64 5,.int .i64 0,.string ⟨#[]⟩,.slice (some ⟨q1,0,none⟩) m c1,.slice (some ⟨q2,0,none⟩) m c2]
 below:Below w.heap.size w W
theorem JI.more{O:Nat->Prop}{w:World}{box:Obj}{b3:Nat}{ks:List ByteArray}{js:List J}{m f c1 j c2:Nat}{W W':World}(u:∀k,O k->k<w.heap.size)(h:JI O w box b3 ks js m f c1 j c2 W)(d:Below W.heap.size W W'):JI O w box b3 ks js m f c1 j c2 W':=by
 have h1:=h.low;have h2:=h.lt;have h3:=d.size;refine⟨h.few,h1,by omega,(d.block _ (by omega)).trans h.box,(d.block _ (by omega)).trans h.res,(d.block _ h2).trans h.obj,h.isj.carry fun q c=> ?_,ae h.below d⟩
 rcases c with c| c
 ·exact⟨.inl c,d.block q (by have:=u q c;omega)⟩
 ·exact⟨.inr ⟨c.1,by omega,c.2.2⟩,d.block q c.2.1⟩
theorem JI.put{O:Nat->Prop}{w:World}{box:Obj}{b3:Nat}{ks:List ByteArray}{js:List J}{m z c1 A c2:Nat}{W f:World}{v:J}{vk F:Int}{E:ByteArray}{H I:Option Addr}{S T U N:Nat}(u:∀k,O k->k<w.heap.size)(h:JI O w box b3 ks js m z c1 A c2 W)(d:Below W.heap.size W f)(hm:m<1000)
    (Y:isJ (fun b=>O b\/ gH W f b) f v [.int .i64 vk,.int .i64 F,.string E,.slice H S T,.slice I U N]) (key:ByteArray):
    Calls Tryz.prog 50 #[.agg #[.int .i64 5,.int .i64 0,.string ⟨#[]⟩,.slice (some ⟨z,0,none⟩) m c1,.slice (some ⟨A,0,none⟩) m c2],.string key,.agg #[.int .i64 vk,.int .i64 F,.string E,.slice H S T,.slice I U N]] f fun x j=>∃b1 d1 b2 d2,x=.returned (.agg #[.int .i64 5,.int .i64 0,.string ⟨#[]⟩,.slice (some ⟨b1,0,none⟩) (m+1) d1,.slice (some ⟨b2,0,none⟩) (m+1) d2])/\j.heap[b3]?=some (.cells #[.int .i64 5,.int .i64 0,.string ⟨#[]⟩,.slice (some ⟨z,0,none⟩) m c1,.slice (some ⟨A,0,none⟩) m c2] 25 (0,0))/\j.heap[w.heap.size]?=some box∧
     JI O w box b3 (ks++ [key]) (js++ [v]) (m+1) b1 d1 b2 d2 (di j b3 (.int .i64 5) (.int .i64 0) (.string ⟨#[]⟩) (.slice (some ⟨b1,0,none⟩) (m+1) d1) (.slice (some ⟨b2,0,none⟩) (m+1) d2)):=by
 have h3:=h.more u d;have Z:=h3.low;have l2:=h3.lt;have l3:=h.lt;have Qe:=h3.below.size;refine(yE (O:=Ow O w b3 f) key (fun b d=> ?_) h3.isj (Y.carry fun q c=> ?_) (fun e=>by cases e) (fun e=>by cases e) (by omega) (by omega)).mono ?_
 ·rcases d with d| d
  ·have:=u b d;omega
  ·exact d.2.1
 ·rcases c with c| c
  ·exact⟨.inl c,rfl⟩
  ·exact⟨.inr ⟨by have:=c.1;omega,c.2,by have:=c.1;omega⟩,rfl⟩
 ·rintro x j ⟨⟨b1,d1,b2,d2,rfl,X⟩,G⟩;have h4:=h3.more u G;have s4:=G.size;have K:=aI j b3 (.int .i64 5) (.int .i64 0) (.string ⟨#[]⟩) (.slice (some ⟨b1,0,none⟩) (m+1) d1) (.slice (some ⟨b2,0,none⟩) (m+1) d2);have h5:=aK h4.obj (.int .i64 5) (.int .i64 0) (.string ⟨#[]⟩) (.slice (some ⟨b1,0,none⟩) (m+1) d1) (.slice (some ⟨b2,0,none⟩) (m+1) d2);have sK:=K.size;have l4:=h4.lt;refine⟨b1,d1,b2,d2,rfl,h4.obj,h4.box,by omega,Z,by omega,(K.block _ (by omega) (by unfold One;omega)).trans h4.box,(K.block _ (by omega) (by unfold One;omega)).trans h4.res,h5,X.carry fun q c=> ?_,h4.below.trans (K.below (by omega) fun q c=>by unfold One;omega)⟩
  rcases c with(c| c)| c
  ·have:=u q c;exact⟨.inl c,K.block q (by omega) (by unfold One;omega)⟩
  ·have V:=c.1;have e2:=c.2.1;have e3:=c.2.2;exact⟨.inr ⟨V,by omega,e3⟩,K.block q (by omega) (by unfold One;omega)⟩
  ·have V:=c.1;have e2:=c.2;exact⟨.inr ⟨by omega,by omega,by omega⟩,K.block q (by omega) (by unfold One;omega)⟩
theorem JI.last{O:Nat->Prop}{w:World}{box:Obj}{b3:Nat}{ks:List ByteArray}{js:List J}{m z c1 U c2:Nat}{W j:World}{v:J}{vk E:Int}{A:ByteArray}{G H:Option Addr}{N S T I:Nat}(u:∀k,O k->k<w.heap.size)(h:JI O w box b3 ks js m z c1 U c2 W)(f:Below W.heap.size W j)(hm:m<1000)
    (X:isJ (fun b=>O b\/ gH W j b) j v [.int .i64 vk,.int .i64 E,.string A,.slice G N S,.slice H T I]) (key:ByteArray):
    Calls Tryz.prog 50 #[.agg #[.int .i64 5,.int .i64 0,.string ⟨#[]⟩,.slice (some ⟨z,0,none⟩) m c1,.slice (some ⟨U,0,none⟩) m c2],.string key,.agg #[.int .i64 vk,.int .i64 E,.string A,.slice G N S,.slice H T I]] j fun x d=>∃b1 d1 b2 d2,x=.returned (.agg #[.int .i64 5,.int .i64 0,.string ⟨#[]⟩,.slice (some ⟨b1,0,none⟩) (m+1) d1,.slice (some ⟨b2,0,none⟩) (m+1) d2])/\d.heap[w.heap.size+1]?=some (.cells #[.int .i64 0,.int .i64 0,.string ⟨#[]⟩,.slice none 0 0,.slice none 0 0] 25 (0,0))/\d.heap[w.heap.size]?=some box∧
     (di d (w.heap.size+1) (.int .i64 5) (.int .i64 0) (.string ⟨#[]⟩) (.slice (some ⟨b1,0,none⟩) (m+1) d1) (.slice (some ⟨b2,0,none⟩) (m+1) d2)).heap[w.heap.size]?=some box∧
     (di d (w.heap.size+1) (.int .i64 5) (.int .i64 0) (.string ⟨#[]⟩) (.slice (some ⟨b1,0,none⟩) (m+1) d1) (.slice (some ⟨b2,0,none⟩) (m+1) d2)).heap[w.heap.size+1]?=some (.cells #[.int .i64 5,.int .i64 0,.string ⟨#[]⟩,.slice (some ⟨b1,0,none⟩) (m+1) d1,.slice (some ⟨b2,0,none⟩) (m+1) d2] 25 (0,0))∧
     isJ (fun b=>O b\/ gH w (di d (w.heap.size+1) (.int .i64 5) (.int .i64 0) (.string ⟨#[]⟩) (.slice (some ⟨b1,0,none⟩) (m+1) d1) (.slice (some ⟨b2,0,none⟩) (m+1) d2)) b) (di d (w.heap.size+1) (.int .i64 5) (.int .i64 0) (.string ⟨#[]⟩) (.slice (some ⟨b1,0,none⟩) (m+1) d1) (.slice (some ⟨b2,0,none⟩) (m+1) d2)) (.mk 5 0 aH (ks++ [key]) (js++ [v])) [.int .i64 5,.int .i64 0,.string ⟨#[]⟩,.slice (some ⟨b1,0,none⟩) (m+1) d1,.slice (some ⟨b2,0,none⟩) (m+1) d2]∧
     Below w.heap.size w (di d (w.heap.size+1) (.int .i64 5) (.int .i64 0) (.string ⟨#[]⟩) (.slice (some ⟨b1,0,none⟩) (m+1) d1) (.slice (some ⟨b2,0,none⟩) (m+1) d2)):=by
 have h3:=h.more u f;have l1:=h3.low;have l2:=h3.lt;have l3:=h.lt;have Qe:=h3.below.size;refine(yE (O:=Ow O w b3 j) key (fun b f=> ?_) h3.isj (X.carry fun q c=> ?_) (fun e=>by cases e) (fun e=>by cases e) (by omega) (by omega)).mono ?_
 ·rcases f with f| f
  ·have:=u b f;omega
  ·exact f.2.1
 ·rcases c with c| c
  ·exact⟨.inl c,rfl⟩
  ·exact⟨.inr ⟨by have:=c.1;omega,c.2,by have:=c.1;omega⟩,rfl⟩
 ·rintro x d ⟨⟨b1,d1,b2,d2,rfl,V⟩,F⟩;have h4:=h3.more u F;have s4:=F.size;have K:=aI d (w.heap.size+1) (.int .i64 5) (.int .i64 0) (.string ⟨#[]⟩) (.slice (some ⟨b1,0,none⟩) (m+1) d1) (.slice (some ⟨b2,0,none⟩) (m+1) d2);have h5:=aK h4.res (.int .i64 5) (.int .i64 0) (.string ⟨#[]⟩) (.slice (some ⟨b1,0,none⟩) (m+1) d1) (.slice (some ⟨b2,0,none⟩) (m+1) d2);have sK:=K.size;have l4:=h4.lt;refine⟨b1,d1,b2,d2,rfl,h4.res,h4.box,(K.block _ (by omega) (by unfold One;omega)).trans h4.box,h5,V.carry fun q c=> ?_,h4.below.trans (K.below (by omega) fun q c=>by unfold One;omega)⟩
  rcases c with(c| c)| c
  ·have:=u q c;exact⟨.inl c,K.block q (by omega) (by unfold One;omega)⟩
  ·have Y:=c.1;have Z:=c.2.1;exact⟨.inr ⟨by omega,by omega⟩,K.block q (by omega) (by unfold One;omega)⟩
  ·have Y:=c.1;have Z:=c.2;exact⟨.inr ⟨by omega,by omega⟩,K.block q (by omega) (by unfold One;omega)⟩
structure JT(b4:Nat)(ks:List ByteArray)(js:List J)(m:Nat)(p1:Option Addr)(c1:Nat)(p2:Option Addr)(c2:Nat)(W:World):Prop where
 lt:b4<W.heap.size
 n1:p1=none->c1=0
 n2:p2=none->c2=0
 obj:W.heap[b4]?=some (.cells #[.int .i64 5,.int .i64 0,.string ⟨#[]⟩,.slice p1 m c1,.slice p2 m c2] 25 (0,0))
 isj:isJ (fun b=>b4<b/\b<W.heap.size) W (.mk 5 0 aH ks js) [.int .i64 5,.int .i64 0,.string ⟨#[]⟩,.slice p1 m c1,.slice p2 m c2]
theorem JT.start(W:World):JT W.heap.size [] [] 0 none 0 none 0 (W.alloc (.cells #[.int .i64 5,.int .i64 0,.string ⟨#[]⟩,.slice none 0 0,.slice none 0 0] 25)):=
 ⟨by simp,fun _=>rfl,fun _=>rfl,heap_alloc_new _ _,by unfold isJ;exact⟨none,0,none,0,rfl,j5.nil _ _,Nat.le_refl _,by unfold isJs;trivial⟩⟩
theorem JT.more{b4:Nat}{ks:List ByteArray}{js:List J}{m:Nat}{f:Option Addr}{c1:Nat}{j:Option Addr}{c2:Nat}{W W':World}(h:JT b4 ks js m f c1 j c2 W)(d:Below W.heap.size W W'):JT b4 ks js m f c1 j c2 W':=by
 have h3:=d.size;have h2:=h.lt;exact⟨by omega,h.n1,h.n2,(d.block _ h2).trans h.obj,h.isj.carry fun q c=>⟨⟨c.1,by have:=c.2;omega⟩,d.block q c.2⟩⟩
theorem JT.put{b4:Nat}{ks:List ByteArray}{js:List J}{m:Nat}{k:Option Addr}{c1:Nat}{u:Option Addr}{c2:Nat}{f:World}(h:JT b4 ks js m k c1 u c2 f)(N:m<100000)(key tok:ByteArray):
    Calls Tryz.prog 50 #[.agg #[.int .i64 5,.int .i64 0,.string ⟨#[]⟩,.slice k m c1,.slice u m c2],.string key,.agg #[.int .i64 3,.int .i64 0,.string tok,.slice none 0 0,.slice none 0 0]] f fun x d=>∃b1 d1 b2 d2,x=.returned (.agg #[.int .i64 5,.int .i64 0,.string ⟨#[]⟩,.slice (some ⟨b1,0,none⟩) (m+1) d1,.slice (some ⟨b2,0,none⟩) (m+1) d2])/\Below f.heap.size f d∧
     JT b4 (ks++ [key]) (js++ [aR tok]) (m+1) (some ⟨b1,0,none⟩) d1 (some ⟨b2,0,none⟩) d2 (di d b4 (.int .i64 5) (.int .i64 0) (.string ⟨#[]⟩) (.slice (some ⟨b1,0,none⟩) (m+1) d1) (.slice (some ⟨b2,0,none⟩) (m+1) d2))∧
     ag (One b4) d (di d b4 (.int .i64 5) (.int .i64 0) (.string ⟨#[]⟩) (.slice (some ⟨b1,0,none⟩) (m+1) d1) (.slice (some ⟨b2,0,none⟩) (m+1) d2)):=by
 refine(yE (O:=fun b=>b4<b/\b<f.heap.size) key (fun b A=>A.2) h.isj (cu _ _ tok) h.n1 h.n2 (by omega) (by omega)).mono ?_;rintro x d ⟨⟨b1,d1,b2,d2,rfl,E⟩,j⟩;have h4:=h.more j;have G:=j.size;have K:=aI d b4 (.int .i64 5) (.int .i64 0) (.string ⟨#[]⟩) (.slice (some ⟨b1,0,none⟩) (m+1) d1) (.slice (some ⟨b2,0,none⟩) (m+1) d2);have h5:=aK h4.obj (.int .i64 5) (.int .i64 0) (.string ⟨#[]⟩) (.slice (some ⟨b1,0,none⟩) (m+1) d1) (.slice (some ⟨b2,0,none⟩) (m+1) d2);have S:=K.size;have I:=h4.lt;have H:=h.lt;refine⟨b1,d1,b2,d2,rfl,j,⟨by omega,(fun e=>by cases e),(fun e=>by cases e),h5,E.carry fun q c=> ?_⟩,K⟩
 rcases c with c| c
 ·have z:=c.1;have F:=c.2;exact⟨⟨z,by omega⟩,K.block q (by omega) (by unfold One;omega)⟩
 ·have z:=c.1;have F:=c.2;exact⟨⟨by omega,by omega⟩,K.block q (by omega) (by unfold One;omega)⟩
theorem JI.start{O:Nat->Prop}{w WB W2:World}{box:Obj}{key:ByteArray}{v:J}{b1 c1 b2 c2:Nat}(m:∀k,O k->k<w.heap.size)(h:Below w.heap.size w WB)(E:WB.heap.size=w.heap.size+2)(x:WB.heap[w.heap.size]?=some box)(j:WB.heap[w.heap.size+1]?=some (.cells #[.int .i64 0,.int .i64 0,.string ⟨#[]⟩,.slice none 0 0,.slice none 0 0] 25 (0,0)))(f:Below WB.heap.size WB W2)
    (u:isJ (fun b=>O b\/ gH WB W2 b) W2 (.mk 5 0 aH [key] [v]) [.int .i64 5,.int .i64 0,.string ⟨#[]⟩,.slice (some ⟨b1,0,none⟩) 1 c1,.slice (some ⟨b2,0,none⟩) 1 c2]):
    JI O w box W2.heap.size [key] [v] 1 b1 c1 b2 c2 (W2.alloc (.cells #[.int .i64 5,.int .i64 0,.string ⟨#[]⟩,.slice (some ⟨b1,0,none⟩) 1 c1,.slice (some ⟨b2,0,none⟩) 1 c2] 25)):=by
 have F:=f.size;have d:Below W2.heap.size W2 (W2.alloc (.cells #[.int .i64 5,.int .i64 0,.string ⟨#[]⟩,.slice (some ⟨b1,0,none⟩) 1 c1,.slice (some ⟨b2,0,none⟩) 1 c2] 25)):=(Below.refl _ _).alloc (Nat.le_refl _) _;refine⟨by omega,by omega,by simp,(d.block _ (by omega)).trans ((f.block _ (by omega)).trans x),(d.block _ (by omega)).trans ((f.block _ (by omega)).trans j),heap_alloc_new _ _,u.carry fun q c=> ?_,ae h (ae f d)⟩
 rcases c with c| c
 ·have:=m q c;exact⟨.inl c,d.block q (by omega)⟩
 ·have A:=c.1;have z:=c.2;exact⟨.inr ⟨by omega,by simp;omega,by omega⟩,d.block q z⟩
theorem Ll{O:Nat->Prop}(room aU ai key:ByteArray)(k i:Int)(t:ByteArray)(nk nl np na:Nat)(depth ts:Int)(hash:ByteArray)(U:Nat)(pk:Option Addr)(ck:Nat)(pl:Option Addr)(cl:Nat)(pp:Option Addr)(cp:Nat)(pa:Option Addr)(ca:Nat)(ps:Option Addr)(cs:Nat)(w:World)(oc jp ja:J)(sigs:List (ByteArray×ByteArray))(st:Bool)(us:List ByteArray)(vs:List J)(um:Nat)(hum:um<=5)(HU:Hid (us=bif st then [dG,aS,dw,ed,kK]else [dG,aS,dw,ed]))(HV:Hid (vs=bif st then [ja,oc,kg depth,aR hash,aR key]else [ja,oc,kg depth,aR hash]))(HM:Hid (um=bif st then 5 else 4))(HRS:Hid (FK O w ps cs sigs))(HNS:Hid (sigs.length=U))(WI:U<=90000)(Qg:U<=cs)
    (E:Hid (∀k,O k->k<w.heap.size))
    (HA:Hid (∀W,Below w.heap.size w W->Calls Tryz.prog 51 #[.slice pa na ca] W fun x w'=>(∃pl nl cl,x=.returned (.agg #[.int .i64 4,.int .i64 0,.string aH,.slice none 0 0,.slice pl nl cl])/\isJ (gH W w') w' ja [.int .i64 4,.int .i64 0,.string aH,.slice none 0 0,.slice pl nl cl])/\Below W.heap.size W w'))
    (HF2:Hid (∀W,Below w.heap.size w W->Calls Tryz.prog 18 #[.agg #[.int .i64 k,.int .i64 i,.string t,.slice pk nk ck,.slice pl nl cl]] W fun x w'=>(∃kr ir tr pr nr cr qr mr dr,x=.returned (.agg #[.int .i64 kr,.int .i64 ir,.string tr,.slice pr nr cr,.slice qr mr dr])/\isJ (fun b=>O b\/ gH W w' b) w' oc [.int .i64 kr,.int .i64 ir,.string tr,.slice pr nr cr,.slice qr mr dr])/\Below W.heap.size W w'))
    (HF7:Hid (∀W,Below w.heap.size w W->Calls Tryz.prog 51 #[.slice pp np cp] W fun x w'=>(∃pl nl cl,x=.returned (.agg #[.int .i64 4,.int .i64 0,.string aH,.slice none 0 0,.slice pl nl cl])/\isJ (gH W w') w' jp [.int .i64 4,.int .i64 0,.string aH,.slice none 0 0,.slice pl nl cl])/\Below W.heap.size W w')):
    Calls Tryz.prog 22 #[.agg #[.string room,.string aU,.string ai,.bool st,.string key,.int .i64 k,.int .i64 i,.string t,.slice pk nk ck,.slice pl nl cl,.slice pp np cp,.slice pa na ca,.int .i64 depth,.int .i64 ts,.string hash,.slice ps U cs]] w fun x w'=>(∃kr ir tr pr nr cr qr mr dr,x=.returned (.agg #[.int .i64 kr,.int .i64 ir,.string tr,.slice pr nr cr,.slice qr mr dr])/\isJ (fun b=>O b\/ gH w w' b) w' (.mk 5 0 aH (us++ [dL]++ [eu]++ [bN]++ [dV]++ [qQ]++ [fE]) (vs++ [jp]++ [aR room]++ [aR ai]++ [fH sigs]++ [kg ts]++ [aR aU])) [.int .i64 kr,.int .i64 ir,.string tr,.slice pr nr cr,.slice qr mr dr])/\Below w.heap.size w w':=by
 have zgL:Hid (∀W,Below w.heap.size w W->Calls Tryz.prog 52 #[.int .i64 ts] W fun x w'=>x=.returned (.agg #[.int .i64 2,.int .i64 ts,.string ⟨#[]⟩,.slice none 0 0,.slice none 0 0])/\Below W.heap.size W w'):=fun W _=>KY ts W;have zgM:Hid (∀W,Below w.heap.size w W->Calls Tryz.prog 53 #[.string aU] W fun x w'=>x=.returned (.agg #[.int .i64 3,.int .i64 0,.string aU,.slice none 0 0,.slice none 0 0])/\Below W.heap.size W w'):=fun W _=>oO aU W;have HF3:Hid (∀W,Below w.heap.size w W->Calls Tryz.prog 52 #[.int .i64 depth] W fun x w'=>x=.returned (.agg #[.int .i64 2,.int .i64 depth,.string ⟨#[]⟩,.slice none 0 0,.slice none 0 0])/\Below W.heap.size W w'):=fun W _=>KY depth W;have HF4:Hid (∀W,Below w.heap.size w W->Calls Tryz.prog 53 #[.string hash] W fun x w'=>x=.returned (.agg #[.int .i64 3,.int .i64 0,.string hash,.slice none 0 0,.slice none 0 0])/\Below W.heap.size W w'):=fun W _=>oO hash W;have HF6:Hid (∀W,Below w.heap.size w W->Calls Tryz.prog 53 #[.string key] W fun x w'=>x=.returned (.agg #[.int .i64 3,.int .i64 0,.string key,.slice none 0 0,.slice none 0 0])/\Below W.heap.size W w'):=fun W _=>oO key W;have HF8:Hid (∀W,Below w.heap.size w W->Calls Tryz.prog 53 #[.string room] W fun x w'=>x=.returned (.agg #[.int .i64 3,.int .i64 0,.string room,.slice none 0 0,.slice none 0 0])/\Below W.heap.size W w'):=fun W _=>oO room W;have HF9:Hid (∀W,Below w.heap.size w W->Calls Tryz.prog 53 #[.string ai] W fun x w'=>x=.returned (.agg #[.int .i64 3,.int .i64 0,.string ai,.slice none 0 0,.slice none 0 0])/\Below W.heap.size W w'):=fun W _=>oO ai W;obtain⟨WB,eY⟩:∃WB,WB=(w.alloc (.cells #[.string room,.string aU,.string ai,.bool st,.string key,.int .i64 k,.int .i64 i,.string t,.slice pk nk ck,.slice pl nl cl,.slice pp np cp,.slice pa na ca,.int .i64 depth,.int .i64 ts,.string hash,.slice ps U cs] 29)).alloc (.cells #[.int .i64 0,.int .i64 0,.string ⟨#[]⟩,.slice none 0 0,.slice none 0 0] 25):=⟨_,rfl⟩;have dK:Below w.heap.size w WB:=by rw[eY];exact((Below.refl _ _).alloc (Nat.le_refl _) _).alloc (by simp) _
 have pW:WB.heap[w.heap.size]?=some (.cells #[.string room,.string aU,.string ai,.bool st,.string key,.int .i64 k,.int .i64 i,.string t,.slice pk nk ck,.slice pl nl cl,.slice pp np cp,.slice pa na ca,.int .i64 depth,.int .i64 ts,.string hash,.slice ps U cs] 29 (0,0)):=by rw[eY];exact kV _ _
 have zV:WB.heap[w.heap.size+1]?=some (.cells #[.int .i64 0,.int .i64 0,.string ⟨#[]⟩,.slice none 0 0,.slice none 0 0] 25 (0,0)):=by rw[eY];exact jm _ _
 have EP:WB.heap.size=w.heap.size+2:=by rw[eY];simp
 have xB:=az pW 11 _ rfl;have hA:=HA.out WB dK;go_enter Tryz.func22,Tryz.ntmps22
 go_upto_region 1 with fail
 rw[<-eY];clear eY
 go_upto_region 2 with(first
  | (go_at_call 51;refine hA.mono ?_;rintro x w1 ⟨⟨pl1,nl1,cl1,rfl,QT⟩,bK⟩
     have hP:=yE (w:=w1) (O:=fun b=>O b\/ gH WB w1 b) (j:=.mk 5 0 aH [] []) (v:=ja) dG (fun b hb=>hb.elim (fun h=>by have:=E.out b h;have:=bK.size;omega) fun h=>h.2) (k:=5) (i:=0) (t:=⟨#[]⟩) (pk:=none) (pl:=none) (nk:=0) (ck:=0) (nl:=0) (cl:=0) (by unfold isJ;exact⟨none,0,none,0,rfl,j5.nil _ _,Nat.le_refl _,by unfold isJs;trivial⟩) (sM QT) (fun _=>rfl) (fun _=>rfl) (by omega) (by omega))
  | (go_at_call 50;refine hP.mono ?_;rintro x w2 ⟨⟨b1,c1,b2,c2,rfl,Ff⟩,bO⟩))
 have A:∃y1 y2 y3 y4,JI O w (.cells #[.string room,.string aU,.string ai,.bool st,.string key,.int .i64 k,.int .i64 i,.string t,.slice pk nk ck,.slice pl nl cl,.slice pp np cp,.slice pa na ca,.int .i64 depth,.int .i64 ts,.string hash,.slice ps U cs] 29 (0,0)) w2.heap.size [dG] [ja] 1 y1 y2 y3 y4 (w2.alloc (.cells #[.int .i64 5,.int .i64 0,.string ⟨#[]⟩,.slice (some ⟨b1,0,none⟩) 1 c1,.slice (some ⟨b2,0,none⟩) 1 c2] 25)):=⟨b1,c1,b2,c2,JI.start E.out dK EP pW zV (ae bK bO) (Ff.carry fun q H=>⟨H.elim (fun h=>h.elim .inl fun h=>.inr ⟨h.1,by have:=h.2;have:=bO.size;omega⟩) fun h=>.inr ⟨by have:=h.1;have:=bK.size;omega,h.2⟩,rfl⟩)⟩;generalize w2.alloc (.cells #[.int .i64 5,.int .i64 0,.string ⟨#[]⟩,.slice (some ⟨b1,0,none⟩) 1 c1,.slice (some ⟨b2,0,none⟩) 1 c2] 25)=W at A ⊢;generalize w2.heap.size=b3 at A ⊢;clear Ff bO hP QT bK hA xB pW zV EP dK w2 w1 WB
 go_cut [] (fun wx=>∃S c1 T c2,JI O w (.cells #[.string room,.string aU,.string ai,.bool st,.string key,.int .i64 k,.int .i64 i,.string t,.slice pk nk ck,.slice pl nl cl,.slice pp np cp,.slice pa na ca,.int .i64 depth,.int .i64 ts,.string hash,.slice ps U cs] 29 (0,0)) b3 [dG,aS] [ja,oc] 2 S c1 T c2 wx)
 case first=>
  obtain⟨S,c1,T,c2,A⟩:=A;have f:=A.more E.out (Below.refl _ _).drew;have Z:=HF2.out _ f.below;clear A;refine aD (by kernel_rfl) (fun X=>X.heap[w.heap.size]?=some (.cells #[.string room,.string aU,.string ai,.bool st,.string key,.int .i64 k,.int .i64 i,.string t,.slice pk nk ck,.slice pl nl cl,.slice pp np cp,.slice pa na ca,.int .i64 depth,.int .i64 ts,.string hash,.slice ps U cs] 29 (0,0))) ?_;change wpIn _ _ _ _ _ _ _ _ (World.drew _);refine aa (i:=1) (d:=some 12) rfl ?_;refine aC (i:=2) (d:=some 13) rfl (by(intro wq H;have q5:=az H 5 _ rfl;have q6:=az H 6 _ rfl;have q7:=az H 7 _ rfl;have q8:=az H 8 _ rfl;have q9:=az H 9 _ rfl;go_simp;first| done| with_reducible rfl)) ?_;refine bR (i:=0) (j:=3) f.box (by kernel_rfl) rfl rfl (by rfl) (by rfl) ?_ ?_
  ·intro K c;obtain⟨c0,V,Y,c3,c4⟩:=aj f.obj;go_simp;refine c _ _ ?_;clear c K;refine av (i:=3) f.box rfl ?_;intro K c;go_simp;go_wp2_with(go_at_call 18;refine Z.mono ?_;rintro x w3 ⟨⟨kr,ir,tr,pr,nr,cr,qr,mr,dr,rfl,z_⟩,m⟩);refine av (i:=4) ((m.block _ (by have:=f.low;have:=f.lt;omega)).trans f.box) rfl ?_;intro K c;go_simp;go_wp2_with(go_at_call 50;refine(f.put E.out m (by omega) z_ _).mono ?_;rintro x w4 ⟨b1,d1,b2,d2,rfl,z,I,u⟩);obtain⟨i0,F,i2,i3,i4⟩:=aj z;obtain⟨z0,G,z2,z3,z4⟩:=aN z;unfold di at u;refine av (i:=5) I rfl ?_;intro K c;go_simp;refine c _ _ ?_;clear c K i0 F i2 i3 i4 z0 G z2 z3 z4;refine aB u.box (by kernel_rfl) ?_ _;go_wp2
   go_meet
   case rel=>exact⟨_,_,_,_,u⟩
  ·intro K c;go_simp;go_wp2_with(go_at_call 18;refine Z.mono ?_;rintro x w3 ⟨⟨kr,ir,tr,pr,nr,cr,qr,mr,dr,rfl,z_⟩,m⟩);have h3:=(f.more E.out m).obj;obtain⟨c0,V,Y,c3,c4⟩:=aj h3;refine av (i:=0) ((m.block _ (by have:=f.low;have:=f.lt;omega)).trans f.box) rfl ?_;intro K c;go_simp;refine c _ _ ?_;clear c K c0 V Y c3 c4 h3;refine av (i:=4) ((m.block _ (by have:=f.low;have:=f.lt;omega)).trans f.box) rfl ?_;intro K c;go_simp;go_wp2_with(go_at_call 50;refine(f.put E.out m (by omega) z_ _).mono ?_;rintro x w4 ⟨b1,d1,b2,d2,rfl,z,I,u⟩);obtain⟨i0,F,i2,i3,i4⟩:=aj z;obtain⟨z0,G,z2,z3,z4⟩:=aN z;unfold di at u;refine av (i:=5) I rfl ?_;intro K c;go_simp;refine c _ _ ?_;clear c K i0 F i2 i3 i4 z0 G z2 z3 z4;refine aB u.box (by kernel_rfl) ?_ _;go_wp2
   go_meet
   case rel=>exact⟨_,_,_,_,u⟩
 case rest=>
 have A:=hcut;clear hcut
 go_upto_region 3 with fail
 go_cut [] (fun wx=>∃S c1 T c2,JI O w (.cells #[.string room,.string aU,.string ai,.bool st,.string key,.int .i64 k,.int .i64 i,.string t,.slice pk nk ck,.slice pl nl cl,.slice pp np cp,.slice pa na ca,.int .i64 depth,.int .i64 ts,.string hash,.slice ps U cs] 29 (0,0)) b3 [dG,aS,dw] [ja,oc,kg depth] 3 S c1 T c2 wx)
 case first=>
  obtain⟨S,c1,T,c2,A⟩:=A;have f:=A.more E.out (Below.refl _ _).drew;have Z:=HF3.out _ f.below;clear A;refine aD (by kernel_rfl) (fun X=>X.heap[w.heap.size]?=some (.cells #[.string room,.string aU,.string ai,.bool st,.string key,.int .i64 k,.int .i64 i,.string t,.slice pk nk ck,.slice pl nl cl,.slice pp np cp,.slice pa na ca,.int .i64 depth,.int .i64 ts,.string hash,.slice ps U cs] 29 (0,0))) ?_;change wpIn _ _ _ _ _ _ _ _ (World.drew _);refine aa (i:=1) (d:=some 17) rfl ?_;refine aC (i:=2) (d:=some 18) rfl (by(intro wq H;have q12:=az H 12 _ rfl;go_simp;first| done| with_reducible rfl)) ?_;refine bR (i:=0) (j:=3) f.box (by kernel_rfl) rfl rfl (by rfl) (by rfl) ?_ ?_
  ·intro K c;obtain⟨c0,V,Y,c3,c4⟩:=aj f.obj;go_simp;refine c _ _ ?_;clear c K;refine av (i:=3) f.box rfl ?_;intro K c;go_simp;go_wp2_with(go_at_call 52;refine Z.mono ?_;rintro x w3 ⟨rfl,m⟩);refine av (i:=4) ((m.block _ (by have:=f.low;have:=f.lt;omega)).trans f.box) rfl ?_;intro K c;go_simp;go_wp2_with(go_at_call 50;refine(f.put E.out m (by omega) (pG _ _ depth) _).mono ?_;rintro x w4 ⟨b1,d1,b2,d2,rfl,z,I,u⟩);obtain⟨i0,F,i2,i3,i4⟩:=aj z;obtain⟨z0,G,z2,z3,z4⟩:=aN z;unfold di at u;refine av (i:=5) I rfl ?_;intro K c;go_simp;refine c _ _ ?_;clear c K i0 F i2 i3 i4 z0 G z2 z3 z4;refine aB u.box (by kernel_rfl) ?_ _;go_wp2
   go_meet
   case rel=>exact⟨_,_,_,_,u⟩
  ·intro K c;go_simp;go_wp2_with(go_at_call 52;refine Z.mono ?_;rintro x w3 ⟨rfl,m⟩);have h3:=(f.more E.out m).obj;obtain⟨c0,V,Y,c3,c4⟩:=aj h3;refine av (i:=0) ((m.block _ (by have:=f.low;have:=f.lt;omega)).trans f.box) rfl ?_;intro K c;go_simp;refine c _ _ ?_;clear c K c0 V Y c3 c4 h3;refine av (i:=4) ((m.block _ (by have:=f.low;have:=f.lt;omega)).trans f.box) rfl ?_;intro K c;go_simp;go_wp2_with(go_at_call 50;refine(f.put E.out m (by omega) (pG _ _ depth) _).mono ?_;rintro x w4 ⟨b1,d1,b2,d2,rfl,z,I,u⟩);obtain⟨i0,F,i2,i3,i4⟩:=aj z;obtain⟨z0,G,z2,z3,z4⟩:=aN z;unfold di at u;refine av (i:=5) I rfl ?_;intro K c;go_simp;refine c _ _ ?_;clear c K i0 F i2 i3 i4 z0 G z2 z3 z4;refine aB u.box (by kernel_rfl) ?_ _;go_wp2
   go_meet
   case rel=>exact⟨_,_,_,_,u⟩
 case rest=>
 have A:=hcut;clear hcut
 go_upto_region 4 with fail
 go_cut [] (fun wx=>∃S c1 T c2,JI O w (.cells #[.string room,.string aU,.string ai,.bool st,.string key,.int .i64 k,.int .i64 i,.string t,.slice pk nk ck,.slice pl nl cl,.slice pp np cp,.slice pa na ca,.int .i64 depth,.int .i64 ts,.string hash,.slice ps U cs] 29 (0,0)) b3 [dG,aS,dw,ed] [ja,oc,kg depth,aR hash] 4 S c1 T c2 wx)
 case first=>
  obtain⟨S,c1,T,c2,A⟩:=A;have f:=A.more E.out (Below.refl _ _).drew;have Z:=HF4.out _ f.below;clear A;refine aD (by kernel_rfl) (fun X=>X.heap[w.heap.size]?=some (.cells #[.string room,.string aU,.string ai,.bool st,.string key,.int .i64 k,.int .i64 i,.string t,.slice pk nk ck,.slice pl nl cl,.slice pp np cp,.slice pa na ca,.int .i64 depth,.int .i64 ts,.string hash,.slice ps U cs] 29 (0,0))) ?_;change wpIn _ _ _ _ _ _ _ _ (World.drew _);refine aa (i:=1) (d:=some 22) rfl ?_;refine aC (i:=2) (d:=some 23) rfl (by(intro wq H;have q14:=az H 14 _ rfl;go_simp;first| done| with_reducible rfl)) ?_;refine bR (i:=0) (j:=3) f.box (by kernel_rfl) rfl rfl (by rfl) (by rfl) ?_ ?_
  ·intro K c;obtain⟨c0,V,Y,c3,c4⟩:=aj f.obj;go_simp;refine c _ _ ?_;clear c K;refine av (i:=3) f.box rfl ?_;intro K c;go_simp;go_wp2_with(go_at_call 53;refine Z.mono ?_;rintro x w3 ⟨rfl,m⟩);refine av (i:=4) ((m.block _ (by have:=f.low;have:=f.lt;omega)).trans f.box) rfl ?_;intro K c;go_simp;go_wp2_with(go_at_call 50;refine(f.put E.out m (by omega) (cu _ _ hash) _).mono ?_;rintro x w4 ⟨b1,d1,b2,d2,rfl,z,I,u⟩);obtain⟨i0,F,i2,i3,i4⟩:=aj z;obtain⟨z0,G,z2,z3,z4⟩:=aN z;unfold di at u;refine av (i:=5) I rfl ?_;intro K c;go_simp;refine c _ _ ?_;clear c K i0 F i2 i3 i4 z0 G z2 z3 z4;refine aB u.box (by kernel_rfl) ?_ _;go_wp2
   go_meet
   case rel=>exact⟨_,_,_,_,u⟩
  ·intro K c;go_simp;go_wp2_with(go_at_call 53;refine Z.mono ?_;rintro x w3 ⟨rfl,m⟩);have h3:=(f.more E.out m).obj;obtain⟨c0,V,Y,c3,c4⟩:=aj h3;refine av (i:=0) ((m.block _ (by have:=f.low;have:=f.lt;omega)).trans f.box) rfl ?_;intro K c;go_simp;refine c _ _ ?_;clear c K c0 V Y c3 c4 h3;refine av (i:=4) ((m.block _ (by have:=f.low;have:=f.lt;omega)).trans f.box) rfl ?_;intro K c;go_simp;go_wp2_with(go_at_call 50;refine(f.put E.out m (by omega) (cu _ _ hash) _).mono ?_;rintro x w4 ⟨b1,d1,b2,d2,rfl,z,I,u⟩);obtain⟨i0,F,i2,i3,i4⟩:=aj z;obtain⟨z0,G,z2,z3,z4⟩:=aN z;unfold di at u;refine av (i:=5) I rfl ?_;intro K c;go_simp;refine c _ _ ?_;clear c K i0 F i2 i3 i4 z0 G z2 z3 z4;refine aB u.box (by kernel_rfl) ?_ _;go_wp2
   go_meet
   case rel=>exact⟨_,_,_,_,u⟩
 case rest=>
 have A:=hcut;clear hcut
 go_upto_region 5 with fail
 go_cut [27]from 26 to 26 (fun v wx=>v=.bool st/\∃S c1 T c2,JI O w (.cells #[.string room,.string aU,.string ai,.bool st,.string key,.int .i64 k,.int .i64 i,.string t,.slice pk nk ck,.slice pl nl cl,.slice pp np cp,.slice pa na ca,.int .i64 depth,.int .i64 ts,.string hash,.slice ps U cs] 29 (0,0)) b3 [dG,aS,dw,ed] [ja,oc,kg depth,aR hash] 4 S c1 T c2 wx)
 case first=>
  obtain⟨S,c1,T,c2,A⟩:=A;have s3:=az A.box 3 _ rfl;go_wp2
  go_meet
  case rel=>exact⟨rfl,_,_,_,_,A⟩
 case rest=>
 obtain⟨rfl,A⟩:=hcut;rename_i hk;refine hk _ _ ?_;clear hk
 go_cut []from 28 to 32 (fun wx=>∃S c1 T c2,JI O w (.cells #[.string room,.string aU,.string ai,.bool st,.string key,.int .i64 k,.int .i64 i,.string t,.slice pk nk ck,.slice pl nl cl,.slice pp np cp,.slice pa na ca,.int .i64 depth,.int .i64 ts,.string hash,.slice ps U cs] 29 (0,0)) b3 us vs um S c1 T c2 wx)
 case first=>
  cases st with
  | false=>
   go_wp2
   go_meet
   case rel=>rw[HU.out,HV.out,HM.out];exact A
  | true=>
   go_upto_region 6 with fail
   obtain⟨S,c1,T,c2,A⟩:=A;have f:=A.more E.out (Below.refl _ _).drew;have Z:=HF6.out _ f.below;clear A;refine aD (by kernel_rfl) (fun X=>X.heap[w.heap.size]?=some (.cells #[.string room,.string aU,.string ai,.bool true,.string key,.int .i64 k,.int .i64 i,.string t,.slice pk nk ck,.slice pl nl cl,.slice pp np cp,.slice pa na ca,.int .i64 depth,.int .i64 ts,.string hash,.slice ps U cs] 29 (0,0))) ?_;change wpIn _ _ _ _ _ _ _ _ (World.drew _);refine aa (i:=1) (d:=some 29) rfl ?_;refine aC (i:=2) (d:=some 30) rfl (by(intro wq H;have q4:=az H 4 _ rfl;go_simp;first| done| with_reducible rfl)) ?_;refine bR (i:=0) (j:=3) f.box (by kernel_rfl) rfl rfl (by rfl) (by rfl) ?_ ?_
   ·intro K c;obtain⟨c0,V,Y,c3,c4⟩:=aj f.obj;go_simp;refine c _ _ ?_;clear c K;refine av (i:=3) f.box rfl ?_;intro K c;go_simp;go_wp2_with(go_at_call 53;refine Z.mono ?_;rintro x w3 ⟨rfl,m⟩);refine av (i:=4) ((m.block _ (by have:=f.low;have:=f.lt;omega)).trans f.box) rfl ?_;intro K c;go_simp;go_wp2_with(go_at_call 50;refine(f.put E.out m (by omega) (cu _ _ key) _).mono ?_;rintro x w4 ⟨b1,d1,b2,d2,rfl,z,I,u⟩);obtain⟨i0,F,i2,i3,i4⟩:=aj z;obtain⟨z0,G,z2,z3,z4⟩:=aN z;unfold di at u;refine av (i:=5) I rfl ?_;intro K c;go_simp;refine c _ _ ?_;clear c K i0 F i2 i3 i4 z0 G z2 z3 z4;refine aB u.box (by kernel_rfl) ?_ _;go_wp2
    go_meet
    case rel=>rw[HU.out,HV.out,HM.out];exact⟨_,_,_,_,u⟩
   ·intro K c;go_simp;go_wp2_with(go_at_call 53;refine Z.mono ?_;rintro x w3 ⟨rfl,m⟩);have h3:=(f.more E.out m).obj;obtain⟨c0,V,Y,c3,c4⟩:=aj h3;refine av (i:=0) ((m.block _ (by have:=f.low;have:=f.lt;omega)).trans f.box) rfl ?_;intro K c;go_simp;refine c _ _ ?_;clear c K c0 V Y c3 c4 h3;refine av (i:=4) ((m.block _ (by have:=f.low;have:=f.lt;omega)).trans f.box) rfl ?_;intro K c;go_simp;go_wp2_with(go_at_call 50;refine(f.put E.out m (by omega) (cu _ _ key) _).mono ?_;rintro x w4 ⟨b1,d1,b2,d2,rfl,z,I,u⟩);obtain⟨i0,F,i2,i3,i4⟩:=aj z;obtain⟨z0,G,z2,z3,z4⟩:=aN z;unfold di at u;refine av (i:=5) I rfl ?_;intro K c;go_simp;refine c _ _ ?_;clear c K i0 F i2 i3 i4 z0 G z2 z3 z4;refine aB u.box (by kernel_rfl) ?_ _;go_wp2
    go_meet
    case rel=>rw[HU.out,HV.out,HM.out];exact⟨_,_,_,_,u⟩
 case rest=>
 have A:=hcut;clear hcut
 go_upto_region 7 with fail
 go_cut [] (fun wx=>∃S c1 T c2,JI O w (.cells #[.string room,.string aU,.string ai,.bool st,.string key,.int .i64 k,.int .i64 i,.string t,.slice pk nk ck,.slice pl nl cl,.slice pp np cp,.slice pa na ca,.int .i64 depth,.int .i64 ts,.string hash,.slice ps U cs] 29 (0,0)) b3 (us++ [dL]) (vs++ [jp]) (um+1) S c1 T c2 wx)
 case first=>
  obtain⟨S,c1,T,c2,A⟩:=A;have f:=A.more E.out (Below.refl _ _).drew;have Z:=HF7.out _ f.below;clear A;refine aD (by kernel_rfl) (fun X=>X.heap[w.heap.size]?=some (.cells #[.string room,.string aU,.string ai,.bool st,.string key,.int .i64 k,.int .i64 i,.string t,.slice pk nk ck,.slice pl nl cl,.slice pp np cp,.slice pa na ca,.int .i64 depth,.int .i64 ts,.string hash,.slice ps U cs] 29 (0,0))) ?_;change wpIn _ _ _ _ _ _ _ _ (World.drew _);refine aa (i:=1) (d:=some 34) rfl ?_;refine aC (i:=2) (d:=some 35) rfl (by(intro wq H;have wS:=az H 10 _ rfl;go_simp;first| done| with_reducible rfl)) ?_;refine bR (i:=0) (j:=3) f.box (by kernel_rfl) rfl rfl (by rfl) (by rfl) ?_ ?_
  ·intro K c;obtain⟨c0,V,Y,c3,c4⟩:=aj f.obj;go_simp;refine c _ _ ?_;clear c K;refine av (i:=3) f.box rfl ?_;intro K c;go_simp;go_wp2_with(go_at_call 51;refine Z.mono ?_;rintro x w3 ⟨⟨pl3,nl3,cl3,rfl,z_⟩,m⟩);refine av (i:=4) ((m.block _ (by have:=f.low;have:=f.lt;omega)).trans f.box) rfl ?_;intro K c;go_simp;go_wp2_with(go_at_call 50;refine(f.put E.out m (by omega) (sM z_) _).mono ?_;rintro x w4 ⟨b1,d1,b2,d2,rfl,z,I,u⟩);obtain⟨i0,F,i2,i3,i4⟩:=aj z;obtain⟨z0,G,z2,z3,z4⟩:=aN z;unfold di at u;refine av (i:=5) I rfl ?_;intro K c;go_simp;refine c _ _ ?_;clear c K i0 F i2 i3 i4 z0 G z2 z3 z4;refine aB u.box (by kernel_rfl) ?_ _;go_wp2
   go_meet
   case rel=>exact⟨_,_,_,_,u⟩
  ·intro K c;go_simp;go_wp2_with(go_at_call 51;refine Z.mono ?_;rintro x w3 ⟨⟨pl3,nl3,cl3,rfl,z_⟩,m⟩);have h3:=(f.more E.out m).obj;obtain⟨c0,V,Y,c3,c4⟩:=aj h3;refine av (i:=0) ((m.block _ (by have:=f.low;have:=f.lt;omega)).trans f.box) rfl ?_;intro K c;go_simp;refine c _ _ ?_;clear c K c0 V Y c3 c4 h3;refine av (i:=4) ((m.block _ (by have:=f.low;have:=f.lt;omega)).trans f.box) rfl ?_;intro K c;go_simp;go_wp2_with(go_at_call 50;refine(f.put E.out m (by omega) (sM z_) _).mono ?_;rintro x w4 ⟨b1,d1,b2,d2,rfl,z,I,u⟩);obtain⟨i0,F,i2,i3,i4⟩:=aj z;obtain⟨z0,G,z2,z3,z4⟩:=aN z;unfold di at u;refine av (i:=5) I rfl ?_;intro K c;go_simp;refine c _ _ ?_;clear c K i0 F i2 i3 i4 z0 G z2 z3 z4;refine aB u.box (by kernel_rfl) ?_ _;go_wp2
   go_meet
   case rel=>exact⟨_,_,_,_,u⟩
 case rest=>
 have A:=hcut;clear hcut
 go_upto_region 8 with fail
 go_cut [] (fun wx=>∃S c1 T c2,JI O w (.cells #[.string room,.string aU,.string ai,.bool st,.string key,.int .i64 k,.int .i64 i,.string t,.slice pk nk ck,.slice pl nl cl,.slice pp np cp,.slice pa na ca,.int .i64 depth,.int .i64 ts,.string hash,.slice ps U cs] 29 (0,0)) b3 (us++ [dL]++ [eu]) (vs++ [jp]++ [aR room]) (um+2) S c1 T c2 wx)
 case first=>
  obtain⟨S,c1,T,c2,A⟩:=A;have f:=A.more E.out (Below.refl _ _).drew;have Z:=HF8.out _ f.below;clear A;refine aD (by kernel_rfl) (fun X=>X.heap[w.heap.size]?=some (.cells #[.string room,.string aU,.string ai,.bool st,.string key,.int .i64 k,.int .i64 i,.string t,.slice pk nk ck,.slice pl nl cl,.slice pp np cp,.slice pa na ca,.int .i64 depth,.int .i64 ts,.string hash,.slice ps U cs] 29 (0,0))) ?_;change wpIn _ _ _ _ _ _ _ _ (World.drew _);refine aa (i:=1) (d:=some 39) rfl ?_;refine aC (i:=2) (d:=some 40) rfl (by(intro wq H;have q0:=az H 0 _ rfl;go_simp;first| done| with_reducible rfl)) ?_;refine bR (i:=0) (j:=3) f.box (by kernel_rfl) rfl rfl (by rfl) (by rfl) ?_ ?_
  ·intro K c;obtain⟨c0,V,Y,c3,c4⟩:=aj f.obj;go_simp;refine c _ _ ?_;clear c K;refine av (i:=3) f.box rfl ?_;intro K c;go_simp;go_wp2_with(go_at_call 53;refine Z.mono ?_;rintro x w3 ⟨rfl,m⟩);refine av (i:=4) ((m.block _ (by have:=f.low;have:=f.lt;omega)).trans f.box) rfl ?_;intro K c;go_simp;go_wp2_with(go_at_call 50;refine(f.put E.out m (by omega) (cu _ _ room) _).mono ?_;rintro x w4 ⟨b1,d1,b2,d2,rfl,z,I,u⟩);obtain⟨i0,F,i2,i3,i4⟩:=aj z;obtain⟨z0,G,z2,z3,z4⟩:=aN z;unfold di at u;refine av (i:=5) I rfl ?_;intro K c;go_simp;refine c _ _ ?_;clear c K i0 F i2 i3 i4 z0 G z2 z3 z4;refine aB u.box (by kernel_rfl) ?_ _;go_wp2
   go_meet
   case rel=>exact⟨_,_,_,_,u⟩
  ·intro K c;go_simp;go_wp2_with(go_at_call 53;refine Z.mono ?_;rintro x w3 ⟨rfl,m⟩);have h3:=(f.more E.out m).obj;obtain⟨c0,V,Y,c3,c4⟩:=aj h3;refine av (i:=0) ((m.block _ (by have:=f.low;have:=f.lt;omega)).trans f.box) rfl ?_;intro K c;go_simp;refine c _ _ ?_;clear c K c0 V Y c3 c4 h3;refine av (i:=4) ((m.block _ (by have:=f.low;have:=f.lt;omega)).trans f.box) rfl ?_;intro K c;go_simp;go_wp2_with(go_at_call 50;refine(f.put E.out m (by omega) (cu _ _ room) _).mono ?_;rintro x w4 ⟨b1,d1,b2,d2,rfl,z,I,u⟩);obtain⟨i0,F,i2,i3,i4⟩:=aj z;obtain⟨z0,G,z2,z3,z4⟩:=aN z;unfold di at u;refine av (i:=5) I rfl ?_;intro K c;go_simp;refine c _ _ ?_;clear c K i0 F i2 i3 i4 z0 G z2 z3 z4;refine aB u.box (by kernel_rfl) ?_ _;go_wp2
   go_meet
   case rel=>exact⟨_,_,_,_,u⟩
 case rest=>
 have A:=hcut;clear hcut
 go_upto_region 9 with fail
 go_cut [] (fun wx=>∃S c1 T c2,JI O w (.cells #[.string room,.string aU,.string ai,.bool st,.string key,.int .i64 k,.int .i64 i,.string t,.slice pk nk ck,.slice pl nl cl,.slice pp np cp,.slice pa na ca,.int .i64 depth,.int .i64 ts,.string hash,.slice ps U cs] 29 (0,0)) b3 (us++ [dL]++ [eu]++ [bN]) (vs++ [jp]++ [aR room]++ [aR ai]) (um+3) S c1 T c2 wx)
 case first=>
  obtain⟨S,c1,T,c2,A⟩:=A;have f:=A.more E.out (Below.refl _ _).drew;have Z:=HF9.out _ f.below;clear A;refine aD (by kernel_rfl) (fun X=>X.heap[w.heap.size]?=some (.cells #[.string room,.string aU,.string ai,.bool st,.string key,.int .i64 k,.int .i64 i,.string t,.slice pk nk ck,.slice pl nl cl,.slice pp np cp,.slice pa na ca,.int .i64 depth,.int .i64 ts,.string hash,.slice ps U cs] 29 (0,0))) ?_;change wpIn _ _ _ _ _ _ _ _ (World.drew _);refine aa (i:=1) (d:=some 44) rfl ?_;refine aC (i:=2) (d:=some 45) rfl (by(intro wq H;have T:=az H 2 _ rfl;go_simp;first| done| with_reducible rfl)) ?_;refine bR (i:=0) (j:=3) f.box (by kernel_rfl) rfl rfl (by rfl) (by rfl) ?_ ?_
  ·intro K c;obtain⟨c0,V,Y,c3,c4⟩:=aj f.obj;go_simp;refine c _ _ ?_;clear c K;refine av (i:=3) f.box rfl ?_;intro K c;go_simp;go_wp2_with(go_at_call 53;refine Z.mono ?_;rintro x w3 ⟨rfl,m⟩);refine av (i:=4) ((m.block _ (by have:=f.low;have:=f.lt;omega)).trans f.box) rfl ?_;intro K c;go_simp;go_wp2_with(go_at_call 50;refine(f.put E.out m (by omega) (cu _ _ ai) _).mono ?_;rintro x w4 ⟨b1,d1,b2,d2,rfl,z,I,u⟩);obtain⟨i0,F,i2,i3,i4⟩:=aj z;obtain⟨z0,G,z2,z3,z4⟩:=aN z;unfold di at u;refine av (i:=5) I rfl ?_;intro K c;go_simp;refine c _ _ ?_;clear c K i0 F i2 i3 i4 z0 G z2 z3 z4;refine aB u.box (by kernel_rfl) ?_ _;go_wp2
   go_meet
   case rel=>exact⟨_,_,_,_,u⟩
  ·intro K c;go_simp;go_wp2_with(go_at_call 53;refine Z.mono ?_;rintro x w3 ⟨rfl,m⟩);have h3:=(f.more E.out m).obj;obtain⟨c0,V,Y,c3,c4⟩:=aj h3;refine av (i:=0) ((m.block _ (by have:=f.low;have:=f.lt;omega)).trans f.box) rfl ?_;intro K c;go_simp;refine c _ _ ?_;clear c K c0 V Y c3 c4 h3;refine av (i:=4) ((m.block _ (by have:=f.low;have:=f.lt;omega)).trans f.box) rfl ?_;intro K c;go_simp;go_wp2_with(go_at_call 50;refine(f.put E.out m (by omega) (cu _ _ ai) _).mono ?_;rintro x w4 ⟨b1,d1,b2,d2,rfl,z,I,u⟩);obtain⟨i0,F,i2,i3,i4⟩:=aj z;obtain⟨z0,G,z2,z3,z4⟩:=aN z;unfold di at u;refine av (i:=5) I rfl ?_;intro K c;go_simp;refine c _ _ ?_;clear c K i0 F i2 i3 i4 z0 G z2 z3 z4;refine aB u.box (by kernel_rfl) ?_ _;go_wp2
   go_meet
   case rel=>exact⟨_,_,_,_,u⟩
 case rest=>
 have A:=hcut;clear hcut;obtain⟨S,c1,T,c2,A⟩:=A;have HJ:Hid (JI O w (.cells #[.string room,.string aU,.string ai,.bool st,.string key,.int .i64 k,.int .i64 i,.string t,.slice pk nk ck,.slice pl nl cl,.slice pp np cp,.slice pa na ca,.int .i64 depth,.int .i64 ts,.string hash,.slice ps U cs] 29 (0,0)) b3 (us++ [dL]++ [eu]++ [bN]) (vs++ [jp]++ [aR room]++ [aR ai]) (um+3) S c1 T c2 wc):=A;have IP:Hid (JT wc.heap.size [] [] 0 none 0 none 0 (wc.alloc (.cells #[.int .i64 5,.int .i64 0,.string ⟨#[]⟩,.slice none 0 0,.slice none 0 0] 25))):=JT.start wc;have HBS:Hid (Below wc.heap.size wc (wc.alloc (.cells #[.int .i64 5,.int .i64 0,.string ⟨#[]⟩,.slice none 0 0,.slice none 0 0] 25))):=(Below.refl _ _).alloc (Nat.le_refl _) _;clear A;go_wp2
 go_loopw [5] (fun i wr=>∃(N:Nat) (p1:Option Addr) (e1:Nat) (p2:Option Addr) (e2:Nat),i=.int .i64 N/\N<=U/\JT wc.heap.size ((sigs.take N).map (·.1)) ((sigs.take N).map fun s=>aR s.2) N p1 e1 p2 e2 wr/\Below wc.heap.size wc wr) (fun i _=>U - (intOf i).toNat)
 case atStart=>exact⟨0,none,0,none,0,rfl,Nat.zero_le _,IP.out,HBS.out⟩
 case round=>
  clear IP HBS;obtain⟨N,p1,e1,p2,e2,rfl,hk,hT,hb⟩:=hrel;have s15:=az (HJ.out.more E.out hb).box 15 _ rfl
  by_cases bQ:N<U
  ·have hki:(N:Int)<(U:Int):=by omega
   have gZ:N<sigs.length:=by rw[HNS.out];exact bQ
   obtain⟨sb,so,hps,hOs,Qx,YP⟩:=HRS.out.2 N gZ;subst hps;have HT1:Hid ((sigs.take (N+1)).map (·.1)=(sigs.take N).map (·.1)++ [(sigs.getD N (aH,aH)).1]):=by
    show _=_
    rw[vQ sigs N (aH,aH) gZ,List.map_append];rfl
   have HT2:Hid (((sigs.take (N+1)).map fun s=>aR s.2)=((sigs.take N).map fun s=>aR s.2)++ [aR (sigs.getD N (aH,aH)).2]):=by
    show _=_
    rw[vQ sigs N (aH,aH) gZ,List.map_append];rfl
   have zD:Hid (∀X,Below wc.heap.size wc X->X.heap[w.heap.size]?=some (.cells #[.string room,.string aU,.string ai,.bool st,.string key,.int .i64 k,.int .i64 i,.string t,.slice pk nk ck,.slice pl nl cl,.slice pp np cp,.slice pa na ca,.int .i64 depth,.int .i64 ts,.string hash,.slice (some ⟨sb,so,none⟩) U cs] 29 (0,0))/\X.cell? ⟨sb,so+N*2,none⟩=some (.string (sigs.getD N (aH,aH)).1)/\X.cell? ⟨sb,so+N*2+1,none⟩=some (.string (sigs.getD N (aH,aH)).2)):=fun X hX=>by
    have H:=(ae HJ.out.below hX).block sb (E.out _ hOs);exact⟨(HJ.out.more E.out hX).box,(World.cell?_of_block (a:=⟨sb,so+N*2,none⟩) H).trans Qx,(World.cell?_of_block (a:=⟨sb,so+N*2+1,none⟩) H).trans YP⟩
   clear Qx YP gZ;generalize (sigs.getD N (aH,aH)).1=su at HT1 zD;generalize (sigs.getD N (aH,aH)).2=sv at HT2 zD;have hTd:=hT.more (Below.refl _ _).drew;have gd:Below wc.heap.size wc wr.drew:=hb.drew;have Z:=oO sv wr.drew;clear hT;go_wp2;refine aD (by kernel_rfl) (fun X=>X.heap[w.heap.size]?=some (.cells #[.string room,.string aU,.string ai,.bool st,.string key,.int .i64 k,.int .i64 i,.string t,.slice pk nk ck,.slice pl nl cl,.slice pp np cp,.slice pa na ca,.int .i64 depth,.int .i64 ts,.string hash,.slice (some ⟨sb,so,none⟩) U cs] 29 (0,0))/\X.cell? ⟨sb,so+N*2,none⟩=some (.string su)/\X.cell? ⟨sb,so+N*2+1,none⟩=some (.string sv)) ?_;change wpIn _ _ _ _ _ _ _ _ (World.drew _);refine aa (i:=1) (d:=some 57) rfl ?_;refine aC (i:=2) (d:=some 58) rfl (by(intro wq H;obtain⟨Zr,hq1,Zy⟩:=H;have q15:=az Zr 15 _ rfl;go_simp;first| done| with_reducible rfl)) ?_;refine aa (i:=3) (d:=some 59) rfl ?_;refine aa (i:=4) (d:=some 60) rfl ?_;refine aa (i:=5) (d:=some 61) rfl ?_;refine aC (i:=6) (d:=some 62) rfl (by(intro wq H;obtain⟨Zr,hq1,Zy⟩:=H;have q15:=az Zr 15 _ rfl;go_simp;first| done| with_reducible rfl)) ?_;refine aa (i:=7) (d:=some 63) rfl ?_;refine aC (i:=8) (d:=some 64) rfl (by(intro wq H;obtain⟨Zr,hq1,Zy⟩:=H;have q15:=az Zr 15 _ rfl;go_simp;first| done| with_reducible rfl)) ?_;refine aa (i:=9) (d:=some 65) rfl ?_;refine aa (i:=10) (d:=some 66) rfl ?_;refine aa (i:=11) (d:=some 67) rfl ?_;refine aC (i:=12) (d:=some 68) rfl (by(intro wq H;obtain⟨Zr,hq1,Zy⟩:=H;have q15:=az Zr 15 _ rfl;go_simp;first| done| with_reducible rfl)) ?_;refine bR (i:=0) (j:=13) (zD.out _ gd) (by kernel_rfl) rfl rfl (by rfl) (by rfl) ?_ ?_
   ·intro K c;obtain⟨c0,V,Y,c3,c4⟩:=aj hTd.obj;go_simp;refine c _ _ ?_;clear c K;refine av (i:=13) (zD.out _ gd) rfl ?_;intro K c;go_simp;go_wp2_with(go_at_call 53;refine Z.mono ?_;rintro x w3 ⟨rfl,m⟩);have g3:=ae gd m;refine av (i:=14) (zD.out w3 g3) rfl ?_;intro K c;go_simp;go_wp2_with(go_at_call 50;refine((hTd.more m).put (by omega) su sv).mono ?_;rintro x w4 ⟨b1,d1,b2,d2,rfl,eQ,hT5,hK5⟩);have z:=((hTd.more m).more eQ).obj;obtain⟨i0,F,i2,i3,i4⟩:=aj z;obtain⟨z0,G,z2,z3,z4⟩:=aN z;have g4:=ae g3 eQ;have g5:=g4.trans (hK5.below (by have:=g4.size;omega) fun q H=>by unfold One;omega);unfold di at hT5 g5;refine av (i:=15) (zD.out w4 g4) rfl ?_;intro K c;go_simp;refine c _ _ ?_;clear c K i0 F i2 i3 i4 z0 G z2 z3 z4;refine aB (zD.out _ g5) (by kernel_rfl) ?_ _;go_wp2;go_roundw
    case rel=>exact⟨N+1,_,_,_,_,by go_num,bQ,by rw[HT1.out,HT2.out];exact hT5,g5⟩
    case measure=>simp[intOf];omega
   ·intro K c;go_simp;go_wp2_with(go_at_call 53;refine Z.mono ?_;rintro x w3 ⟨rfl,m⟩);have g3:=ae gd m;have h3:=(hTd.more m).obj;obtain⟨c0,V,Y,c3,c4⟩:=aj h3;refine av (i:=0) (zD.out _ g3) rfl ?_;intro K c;go_simp;refine c _ _ ?_;clear c K c0 V Y c3 c4 h3;refine av (i:=14) (zD.out w3 g3) rfl ?_;intro K c;go_simp;go_wp2_with(go_at_call 50;refine((hTd.more m).put (by omega) su sv).mono ?_;rintro x w4 ⟨b1,d1,b2,d2,rfl,eQ,hT5,hK5⟩);have z:=((hTd.more m).more eQ).obj;obtain⟨i0,F,i2,i3,i4⟩:=aj z;obtain⟨z0,G,z2,z3,z4⟩:=aN z;have g4:=ae g3 eQ;have g5:=g4.trans (hK5.below (by have:=g4.size;omega) fun q H=>by unfold One;omega);unfold di at hT5 g5;refine av (i:=15) (zD.out w4 g4) rfl ?_;intro K c;go_simp;refine c _ _ ?_;clear c K i0 F i2 i3 i4 z0 G z2 z3 z4;refine aB (zD.out _ g5) (by kernel_rfl) ?_ _;go_wp2;go_roundw
    case rel=>exact⟨N+1,_,_,_,_,by go_num,bQ,by rw[HT1.out,HT2.out];exact hT5,g5⟩
    case measure=>simp[intOf];omega
  ·obtain rfl:N=U:=by omega
   rw[List.take_of_length_le (by rw[HNS.out];omega)]at hT;have HT:Hid (JT wc.heap.size (sigs.map (·.1)) (sigs.map fun s=>aR s.2) N p1 e1 p2 e2 wr):=hT;have hJr:=HJ.out.more E.out hb;obtain⟨j0,j1,j2,j3,j4⟩:=aj hJr.obj;obtain⟨l0,l1,l2,l3,l4⟩:=aj hT.obj;have hP:=HJ.out.put E.out hb (by omega) (v:=fH sigs) (hT.isj.carry fun q H=>⟨.inr ⟨by have:=H.1;omega,H.2⟩,rfl⟩) dV;clear hT hJr
   go_upto_region 16 with(go_at_call 50;refine hP.mono ?_;rintro x w4 ⟨b1,d1,b2,d2,rfl,z,I,u⟩;obtain⟨i0,F,i2,i3,i4⟩:=aj z;obtain⟨z0,G,z2,z3,z4⟩:=aN z;unfold di at u;clear j0 j1 j2 j3 j4 l0 l1 l2 l3 l4)
   have A:∃S c1 T c2,JI O w (.cells #[.string room,.string aU,.string ai,.bool st,.string key,.int .i64 k,.int .i64 i,.string t,.slice pk nk ck,.slice pl nl cl,.slice pp np cp,.slice pa na ca,.int .i64 depth,.int .i64 ts,.string hash,.slice ps N cs] 29 (0,0)) b3 (us++ [dL]++ [eu]++ [bN]++ [dV]) (vs++ [jp]++ [aR room]++ [aR ai]++ [fH sigs]) (um+4) S c1 T c2 _:=⟨_,_,_,_,u⟩;clear i0 F i2 i3 i4 z0 G z2 z3 z4 u hP z I s15
   go_cut [] (fun wx=>∃S c1 T c2,JI O w (.cells #[.string room,.string aU,.string ai,.bool st,.string key,.int .i64 k,.int .i64 i,.string t,.slice pk nk ck,.slice pl nl cl,.slice pp np cp,.slice pa na ca,.int .i64 depth,.int .i64 ts,.string hash,.slice ps N cs] 29 (0,0)) b3 (us++ [dL]++ [eu]++ [bN]++ [dV]++ [qQ]) (vs++ [jp]++ [aR room]++ [aR ai]++ [fH sigs]++ [kg ts]) (um+5) S c1 T c2 wx)
   case first=>
    obtain⟨S,c1,T,c2,A⟩:=A;have f:=A.more E.out (Below.refl _ _).drew;have Z:=zgL.out _ f.below;clear A;refine aD (by kernel_rfl) (fun X=>X.heap[w.heap.size]?=some (.cells #[.string room,.string aU,.string ai,.bool st,.string key,.int .i64 k,.int .i64 i,.string t,.slice pk nk ck,.slice pl nl cl,.slice pp np cp,.slice pa na ca,.int .i64 depth,.int .i64 ts,.string hash,.slice ps N cs] 29 (0,0))) ?_;change wpIn _ _ _ _ _ _ _ _ (World.drew _);refine aa (i:=1) (d:=some 75) rfl ?_;refine aC (i:=2) (d:=some 76) rfl (by(intro wq H;have yD:=az H 13 _ rfl;go_simp;first| done| with_reducible rfl)) ?_;refine bR (i:=0) (j:=3) f.box (by kernel_rfl) rfl rfl (by rfl) (by rfl) ?_ ?_
    ·intro K c;obtain⟨c0,V,Y,c3,c4⟩:=aj f.obj;go_simp;refine c _ _ ?_;clear c K;refine av (i:=3) f.box rfl ?_;intro K c;go_simp;go_wp2_with(go_at_call 52;refine Z.mono ?_;rintro x w3 ⟨rfl,m⟩);refine av (i:=4) ((m.block _ (by have:=f.low;have:=f.lt;omega)).trans f.box) rfl ?_;intro K c;go_simp;go_wp2_with(go_at_call 50;refine(f.put E.out m (by omega) (pG _ _ ts) _).mono ?_;rintro x w4 ⟨b1,d1,b2,d2,rfl,z,I,u⟩);obtain⟨i0,F,i2,i3,i4⟩:=aj z;obtain⟨z0,G,z2,z3,z4⟩:=aN z;unfold di at u;refine av (i:=5) I rfl ?_;intro K c;go_simp;refine c _ _ ?_;clear c K i0 F i2 i3 i4 z0 G z2 z3 z4;refine aB u.box (by kernel_rfl) ?_ _;go_wp2
     go_meet
     case rel=>exact⟨_,_,_,_,u⟩
    ·intro K c;go_simp;go_wp2_with(go_at_call 52;refine Z.mono ?_;rintro x w3 ⟨rfl,m⟩);have h3:=(f.more E.out m).obj;obtain⟨c0,V,Y,c3,c4⟩:=aj h3;refine av (i:=0) ((m.block _ (by have:=f.low;have:=f.lt;omega)).trans f.box) rfl ?_;intro K c;go_simp;refine c _ _ ?_;clear c K c0 V Y c3 c4 h3;refine av (i:=4) ((m.block _ (by have:=f.low;have:=f.lt;omega)).trans f.box) rfl ?_;intro K c;go_simp;go_wp2_with(go_at_call 50;refine(f.put E.out m (by omega) (pG _ _ ts) _).mono ?_;rintro x w4 ⟨b1,d1,b2,d2,rfl,z,I,u⟩);obtain⟨i0,F,i2,i3,i4⟩:=aj z;obtain⟨z0,G,z2,z3,z4⟩:=aN z;unfold di at u;refine av (i:=5) I rfl ?_;intro K c;go_simp;refine c _ _ ?_;clear c K i0 F i2 i3 i4 z0 G z2 z3 z4;refine aB u.box (by kernel_rfl) ?_ _;go_wp2
     go_meet
     case rel=>exact⟨_,_,_,_,u⟩
   case rest=>
   have A:=hcut;clear hcut
   go_upto_region 17 with fail
   obtain⟨S,c1,T,c2,A⟩:=A;have f:=A.more E.out (Below.refl _ _).drew;have Z:=zgM.out _ f.below;clear A;refine aD (by kernel_rfl) (fun X=>X.heap[w.heap.size]?=some (.cells #[.string room,.string aU,.string ai,.bool st,.string key,.int .i64 k,.int .i64 i,.string t,.slice pk nk ck,.slice pl nl cl,.slice pp np cp,.slice pa na ca,.int .i64 depth,.int .i64 ts,.string hash,.slice ps N cs] 29 (0,0))) ?_;change wpIn _ _ _ _ _ _ _ _ (World.drew _);refine aa (i:=1) (d:=some 80) rfl ?_;refine aC (i:=2) (d:=some 81) rfl (by(intro wq H;have S:=az H 1 _ rfl;go_simp;first| done| with_reducible rfl)) ?_;refine bR (i:=0) (j:=3) f.box (by kernel_rfl) rfl rfl (by rfl) (by rfl) ?_ ?_
   ·intro K c;obtain⟨c0,V,Y,c3,c4⟩:=aj f.obj;go_simp;refine c _ _ ?_;clear c K;refine av (i:=3) f.box rfl ?_;intro K c;go_simp;go_wp2_with(go_at_call 53;refine Z.mono ?_;rintro x w3 ⟨rfl,m⟩);refine av (i:=4) ((m.block _ (by have:=f.low;have:=f.lt;omega)).trans f.box) rfl ?_;intro K c;go_simp;go_wp2_with(go_at_call 50;refine(f.last E.out m (by omega) (cu _ _ aU) _).mono ?_;rintro x w4 ⟨b1,d1,b2,d2,rfl,z,I,YO,h5,ZZ,oP⟩);obtain⟨i0,F,i2,i3,i4⟩:=aj z;obtain⟨z0,G,z2,z3,z4⟩:=aN z;unfold di at YO h5 ZZ oP;refine av (i:=5) I rfl ?_;intro K c;go_simp;refine c _ _ ?_;clear c K i0 F i2 i3 i4 z0 G z2 z3 z4;refine aB YO (by kernel_rfl) ?_ _;go_wp2;refine bodyPost_ret (jo rfl _ _ _ rfl (zC h5)) rfl ?_;exact⟨⟨_,_,_,_,_,_,_,_,_,rfl,ZZ⟩,oP⟩
   ·intro K c;go_simp;go_wp2_with(go_at_call 53;refine Z.mono ?_;rintro x w3 ⟨rfl,m⟩);have h3:=(f.more E.out m).obj;obtain⟨c0,V,Y,c3,c4⟩:=aj h3;refine av (i:=0) ((m.block _ (by have:=f.low;have:=f.lt;omega)).trans f.box) rfl ?_;intro K c;go_simp;refine c _ _ ?_;clear c K c0 V Y c3 c4 h3;refine av (i:=4) ((m.block _ (by have:=f.low;have:=f.lt;omega)).trans f.box) rfl ?_;intro K c;go_simp;go_wp2_with(go_at_call 50;refine(f.last E.out m (by omega) (cu _ _ aU) _).mono ?_;rintro x w4 ⟨b1,d1,b2,d2,rfl,z,I,YO,h5,ZZ,oP⟩);obtain⟨i0,F,i2,i3,i4⟩:=aj z;obtain⟨z0,G,z2,z3,z4⟩:=aN z;unfold di at YO h5 ZZ oP;refine av (i:=5) I rfl ?_;intro K c;go_simp;refine c _ _ ?_;clear c K i0 F i2 i3 i4 z0 G z2 z3 z4;refine aB YO (by kernel_rfl) ?_ _;go_wp2;refine bodyPost_ret (jo rfl _ _ _ rfl (zC h5)) rfl ?_;exact⟨⟨_,_,_,_,_,_,_,_,_,rfl,ZZ⟩,oP⟩
theorem Gi{O:Nat->Prop}(e:Ev)(p:Pt)(w:World)(d:mY O w e p)(f:∀k,O k->k<w.heap.size)(K:Ee e)(X:e.sigs.length<=90000)(Y:goodJ 12 e.content=true):
    Calls Tryz.prog 22 #[fA e p] w fun x w'=>(∃z H E j G u m F A,x=.returned (.agg #[.int .i64 z,.int .i64 H,.string E,.slice j G u,.slice m F A])/\isJ (fun b=>O b\/ gH w w' b) w' (dW (gJ e)) [.int .i64 z,.int .i64 H,.string E,.slice j G u,.slice m F A])/\Below w.heap.size w w':=by
 have N:KW e.content=ord e.content:=by unfold KW;rw[if_pos Y]
 have S:∀W,Below w.heap.size w W->∀k,O k->k<W.heap.size:=fun W c k hk=>Nat.lt_of_lt_of_le (f k hk) c.size;have T:Hid (∀W,Below w.heap.size w W->Calls Tryz.prog 51 #[.slice p.pa e.aA.length p.ca] W fun x w'=>(∃pl nl cl,x=.returned (.agg #[.int .i64 4,.int .i64 0,.string aH,.slice none 0 0,.slice pl nl cl])/\isJ (gH W w') w' (dH e.aA) [.int .i64 4,.int .i64 0,.string aH,.slice none 0 0,.slice pl nl cl])/\Below W.heap.size W w'):=fun W c=>Gd (d.below f c).aA (S W c) K.aA;have U:Hid (∀W,Below w.heap.size w W->Calls Tryz.prog 51 #[.slice p.pp e.prev.length p.cp] W fun x w'=>(∃pl nl cl,x=.returned (.agg #[.int .i64 4,.int .i64 0,.string aH,.slice none 0 0,.slice pl nl cl])/\isJ (gH W w') w' (dH e.prev) [.int .i64 4,.int .i64 0,.string aH,.slice none 0 0,.slice pl nl cl])/\Below W.heap.size W w'):=fun W c=>Gd (d.below f c).prev (S W c) K.prev;have V:Hid (∀W,Below w.heap.size w W->Calls Tryz.prog 18 #[.agg #[.int .i64 e.content.kind,.int .i64 e.content.int,.string e.content.text,.slice p.pk e.content.keys.length p.ck,.slice p.pl e.content.list.length p.cl]] W fun x w'=>(∃z H E j G u m F A,x=.returned (.agg #[.int .i64 z,.int .i64 H,.string E,.slice j G u,.slice m F A])/\isJ (fun b=>O b\/ gH W w' b) w' (ord e.content) [.int .i64 z,.int .i64 H,.string E,.slice j G u,.slice m F A])/\Below W.heap.size W w'):=fun W c=>by
  have h:=DD (w:=W) (fun x Z=>S W c x Z) K.cont (d.below f c).cont;rw[N]at h;exact h
 cases hs:e.st with
 | true=>
  have h:=Ll e.room e.aU e.ai e.key e.content.kind e.content.int e.content.text e.content.keys.length e.content.list.length e.prev.length e.aA.length e.depth e.ts e.hash e.sigs.length p.pk p.ck p.pl p.cl p.pp p.cp p.pa p.ca p.ps p.cs w (ord e.content) (dH e.prev) (dH e.aA) e.sigs true [dG,aS,dw,ed,kK] [dH e.aA,ord e.content,kg e.depth,aR e.hash,aR e.key] 5 (by decide) rfl rfl rfl d.sigs rfl X d.sigs.1 f T V U;have I:dW (gJ e)=.mk 5 0 aH [dG,aS,dw,ed,kK,dL,eu,bN,dV,qQ,fE] [dH e.aA,ord e.content,kg e.depth,aR e.hash,aR e.key,dH e.prev,aR e.room,aR e.ai,fH e.sigs,kg e.ts,aR e.aU]:=by
   unfold dW gW gJ;simp only[hs]
   rfl
  rw[I];unfold fA iN;rw[hs];exact h
 | false=>
  have h:=Ll e.room e.aU e.ai e.key e.content.kind e.content.int e.content.text e.content.keys.length e.content.list.length e.prev.length e.aA.length e.depth e.ts e.hash e.sigs.length p.pk p.ck p.pl p.cl p.pp p.cp p.pa p.ca p.ps p.cs w (ord e.content) (dH e.prev) (dH e.aA) e.sigs false [dG,aS,dw,ed] [dH e.aA,ord e.content,kg e.depth,aR e.hash] 4 (by decide) rfl rfl rfl d.sigs rfl X d.sigs.1 f T V U;have I:dW (gJ e)=.mk 5 0 aH [dG,aS,dw,ed,dL,eu,bN,dV,qQ,fE] [dH e.aA,ord e.content,kg e.depth,aR e.hash,dH e.prev,aR e.room,aR e.ai,fH e.sigs,kg e.ts,aR e.aU]:=by
   unfold dW gW gJ;simp only[hs]
   rfl
  rw[I];unfold fA iN;rw[hs];exact h
open Go.RowKit
def smallJ:Nat->J->Bool
 | 0,_=>true
 | d+1,.mk _ _ t ks l=>decide (t.size<=2000)&&(decide (ks.length<=200)&&(ks.all (fun k=>decide (k.size<=2000))&&(decide (l.length<=2000)&&l.all (smallJ d))))
def uf:Nat->J->Nat
 | 0,_=>0
 | d+1,.mk _ _ _ _ l=>1+(l.map (uf d)).sum
end Go.Proofs.YtldkblgclochjaaGreatDoor
