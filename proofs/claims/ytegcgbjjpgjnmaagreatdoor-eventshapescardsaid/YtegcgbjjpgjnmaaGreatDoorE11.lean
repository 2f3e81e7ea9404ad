/- A part. -/
import Derived.Test.YtegcgbjjpgjnmaaGreatDoorE10
import Derived.Lib.AppendStr
set_option maxRecDepth 100000
set_option maxHeartbeats 16000000
namespace Go.Proofs.YtegcgbjjpgjnmaaGreatDoor
open Go.RowKit
section
variable {w w3 W5 : World} {R q : Nat} {s : ByteArray} {e l : Int} {o : Obj}
theorem Ht(eY:aj (One R) (w.alloc o) w3)(aX:aj (One w.heap.size) w3 W5):aj (One R) w W5:=
 (((aj.refl (One R) w).alloc o).then eY).trans aX fun i hi h=>by unfold One at h;omega
theorem sP(eY:aj (One R) (w.alloc o) w3)(gJ:eQ w3 R s q e l)(aX:aj (One w.heap.size) w3 W5)(hR:R<w.heap.size):oJ w W5 R s q:=
 ⟨⟨e,l,gJ.bf aX (fun h=>by unfold One at h;omega)⟩,Ht eY aX⟩
theorem kH{la:Nat}(eY:aj (One R) (w.alloc o) w3)(gJ:eQ w3 R s q e la)(aX:aj (One w.heap.size) w3 W5)(hR:R<w.heap.size):yt w W5 R s e la:=
 ⟨⟨q,gJ.bf aX (fun h=>by unfold One at h;omega)⟩,Ht eY aX⟩
theorem NN{j:J}{cs:List Value}(hj:isJ (fB (w.alloc o) w3) w3 j cs)(aX:aj (One w.heap.size) w3 W5):isJ (fB w W5) W5 j cs:=by
 have hs:=aX.size;refine hj.carry fun k hk=> ?_;have h1:=hk.1;have h2:=hk.2;simp at h1;exact⟨⟨by omega,by omega⟩,aX.block k h2 (by unfold One;omega)⟩
end
theorem KV:Reads 0:=by
 intro w R p s e l deep hr hs hp kT;have UW:deep=13:=by omega
 clear kT;subst UW;have fI:=hs;unfold short at fI;have hR:=hr.lt;have uM:eQ (w.alloc zJ) R s p e l:=hr.bf (S:=fun _=>False) ((aj.refl _ _).alloc _) (fun h=>h);have c1:=uM.c1;have pk:=dL uM;have bg:=Ag (ag (ints s) p) (w.alloc zJ)
 cases hb:nU (ag (ints s) p)with
 | true=>
  have HX:Hid (value (ints s) 0 p=.bad 12 p):=by unfold value;rw[if_pos hb];rfl
  rw[hb]at bg;unfold zJ at c1 pk bg;go_enter Tryz.func115,Tryz.ntmps115;go_wp2_with(first
   | (go_at_call 138;refine pk.mono ?_;rintro x w' ⟨rfl,rfl⟩)
   | (go_at_call 139;refine bg.mono ?_;rintro x w' ⟨rfl,rfl⟩)
   | (go_at_call 116;refine(gu uM 12 (p:Int)).mono ?_;rintro x w3 ⟨rfl,gJ,eY⟩
      have bn:=bR eY hR;obtain⟨i0,i1,i2,i3,i4⟩:=ai bn;obtain⟨z0,z1,z2,z3,z4⟩:=aF bn))
  have h5:=aK bn (.int .i64 0) (.int .i64 0) (.string ⟨#[]⟩) (.slice none 0 0) (.slice none 0 0);have aX:aj (One w.heap.size) w3 _:=aJ w3 w.heap.size (.int .i64 0) (.int .i64 0) (.string ⟨#[]⟩) (.slice none 0 0) (.slice none 0 0);unfold bF at h5 aX;obtain⟨k0,k1,k2,k3,k4⟩:=ai h5;refine bodyPost_ret (v:=.tuple #[.agg #[.int .i64 0,.int .i64 0,.string ⟨#[]⟩,.slice none 0 0,.slice none 0 0],.bool false]) (by simp[results,Tryz.results115,go_sem,k0,k1,k2,k3,k4]) rfl ?_;rw[HX.out];exact⟨⟨0,0,aH,rfl⟩,kH eY gJ aX hR⟩
 | false=>
  have HX:Hid (value (ints s) 0 p=.bad 11 p):=by unfold value;rw[if_neg (by simp[hb])];rfl
  rw[hb]at bg;unfold zJ at c1 pk bg;go_enter Tryz.func115,Tryz.ntmps115;go_wp2_with(first
   | (go_at_call 138;refine pk.mono ?_;rintro x w' ⟨rfl,rfl⟩)
   | (go_at_call 139;refine bg.mono ?_;rintro x w' ⟨rfl,rfl⟩)
   | (go_at_call 116;refine(gu uM 11 (p:Int)).mono ?_;rintro x w3 ⟨rfl,gJ,eY⟩
      have bn:=bR eY hR;obtain⟨i0,i1,i2,i3,i4⟩:=ai bn;obtain⟨z0,z1,z2,z3,z4⟩:=aF bn))
  have h5:=aK bn (.int .i64 0) (.int .i64 0) (.string ⟨#[]⟩) (.slice none 0 0) (.slice none 0 0);have aX:aj (One w.heap.size) w3 _:=aJ w3 w.heap.size (.int .i64 0) (.int .i64 0) (.string ⟨#[]⟩) (.slice none 0 0) (.slice none 0 0);unfold bF at h5 aX;obtain⟨k0,k1,k2,k3,k4⟩:=ai h5;refine bodyPost_ret (v:=.tuple #[.agg #[.int .i64 0,.int .i64 0,.string ⟨#[]⟩,.slice none 0 0,.slice none 0 0],.bool false]) (by simp[results,Tryz.results115,go_sem,k0,k1,k2,k3,k4]) rfl ?_;rw[HX.out];exact⟨⟨0,0,aH,rfl⟩,kH eY gJ aX hR⟩
theorem KW{d:Nat}(V:Reads d)(hd:d+1<=12):Reads (d+1):=by
 intro w R p s e l deep hr hs hp kT;have Cm:0<=deep:=by omega
 have qB:deep<=12:=by omega
 have HD:Hid (deep=12 - (d:Int)):=by show deep=_;omega
 clear kT;have fI:=hs;unfold short at fI;have hR:=hr.lt;have uM:eQ (w.alloc zJ) R s p e l:=hr.bf (S:=fun _=>False) ((aj.refl _ _).alloc _) (fun h=>h);have c1:=uM.c1;have pk:=dL uM;have bg:=Ag (ag (ints s) p) (w.alloc zJ)
 cases hb:nU (ag (ints s) p)with
 | false=>
  have HX:Hid (value (ints s) (d+1) p=.bad 11 p):=by unfold value;rw[if_neg (by simp[hb])];rfl
  rw[hb]at bg;unfold zJ at c1 pk bg;go_enter Tryz.func115,Tryz.ntmps115;go_wp2_with(first
   | (go_at_call 138;refine pk.mono ?_;rintro x w' ⟨rfl,rfl⟩)
   | (go_at_call 139;refine bg.mono ?_;rintro x w' ⟨rfl,rfl⟩)
   | (go_at_call 116;refine(gu uM 11 (p:Int)).mono ?_;rintro x w3 ⟨rfl,gJ,eY⟩
      have bn:=bR eY hR;obtain⟨i0,i1,i2,i3,i4⟩:=ai bn;obtain⟨z0,z1,z2,z3,z4⟩:=aF bn))
  have h5:=aK bn (.int .i64 0) (.int .i64 0) (.string ⟨#[]⟩) (.slice none 0 0) (.slice none 0 0);have aX:aj (One w.heap.size) w3 _:=aJ w3 w.heap.size (.int .i64 0) (.int .i64 0) (.string ⟨#[]⟩) (.slice none 0 0) (.slice none 0 0);unfold bF at h5 aX;obtain⟨k0,k1,k2,k3,k4⟩:=ai h5;refine bodyPost_ret (v:=.tuple #[.agg #[.int .i64 0,.int .i64 0,.string ⟨#[]⟩,.slice none 0 0,.slice none 0 0],.bool false]) (by simp[results,Tryz.results115,go_sem,k0,k1,k2,k3,k4]) rfl ?_;rw[HX.out];exact⟨⟨0,0,aH,rfl⟩,kH eY gJ aX hR⟩
 | true=>
  rw[hb]at bg;have bJ:p<s.size:=by
   have:=bq (t:=ints s) (p:=p) (by intro h;rw[h]at hb;exact absurd hb (by decide));rw[ax]at this;exact this
  by_cases vN:ag (ints s) p=110
  ·skip
   rw[vN]at pk bg;have ct:Calls Tryz.prog 140 #[.pointer (some ⟨R,0,none⟩),.string ⟨#[110,117,108,108]⟩] (w.alloc zJ) fun x w'=>wu (w.alloc zJ) w' R s (word (ints s) [110,117,108,108] p) x:=Ah uM (by omega) ⟨#[110,117,108,108]⟩ (by decide)
   cases hv:word (ints s) [110,117,108,108] p with
   | bad er la=>
    have HX:Hid (value (ints s) (d+1) p=.bad er la):=by unfold value;rw[if_pos hb,if_pos vN,hv];rfl
    rw[hv]at ct;unfold zJ at c1 pk bg ct;go_enter Tryz.func115,Tryz.ntmps115;go_wp2_with(first
     | (go_at_call 138;refine pk.mono ?_;rintro x w' ⟨rfl,rfl⟩)
     | (go_at_call 139;refine bg.mono ?_;rintro x w' ⟨rfl,rfl⟩)
     | (go_at_call 140;refine ct.mono ?_;rintro x w3 ⟨rfl,⟨⟨q3,gJ⟩,eY⟩⟩
        have bn:=bR eY hR;obtain⟨i0,i1,i2,i3,i4⟩:=ai bn;obtain⟨z0,z1,z2,z3,z4⟩:=aF bn))
    have h5:=aK bn (.int .i64 0) (.int .i64 0) (.string ⟨#[]⟩) (.slice none 0 0) (.slice none 0 0);have aX:aj (One w.heap.size) w3 _:=aJ w3 w.heap.size (.int .i64 0) (.int .i64 0) (.string ⟨#[]⟩) (.slice none 0 0) (.slice none 0 0);unfold bF at h5 aX;obtain⟨k0,k1,k2,k3,k4⟩:=ai h5;refine bodyPost_ret (v:=.tuple #[.agg #[.int .i64 0,.int .i64 0,.string ⟨#[]⟩,.slice none 0 0,.slice none 0 0],.bool false]) (by simp[results,Tryz.results115,go_sem,k0,k1,k2,k3,k4]) rfl ?_;rw[HX.out];exact⟨⟨0,0,aH,rfl⟩,kH eY gJ aX hR⟩
   | ok u qv=>
    have HX:Hid (value (ints s) (d+1) p=.ok (.mk 0 0 aH [] []) qv):=by unfold value;rw[if_pos hb,if_pos vN,hv];rfl
    rw[hv]at ct;unfold zJ at c1 pk bg ct;go_enter Tryz.func115,Tryz.ntmps115;go_wp2_with(first
     | (go_at_call 138;refine pk.mono ?_;rintro x w' ⟨rfl,rfl⟩)
     | (go_at_call 139;refine bg.mono ?_;rintro x w' ⟨rfl,rfl⟩)
     | (go_at_call 140;refine ct.mono ?_;rintro x w3 ⟨rfl,⟨⟨e3,l3,gJ⟩,eY⟩⟩
        have bn:=bR eY hR;obtain⟨i0,i1,i2,i3,i4⟩:=ai bn;obtain⟨z0,z1,z2,z3,z4⟩:=aF bn))
    have h5:=aK bn (.int .i64 0) (.int .i64 0) (.string ⟨#[]⟩) (.slice none 0 0) (.slice none 0 0);have aX:aj (One w.heap.size) w3 _:=aJ w3 w.heap.size (.int .i64 0) (.int .i64 0) (.string ⟨#[]⟩) (.slice none 0 0) (.slice none 0 0);unfold bF at h5 aX;obtain⟨k0,k1,k2,k3,k4⟩:=ai h5;refine bodyPost_ret (v:=.tuple #[.agg #[.int .i64 0,.int .i64 0,.string ⟨#[]⟩,.slice none 0 0,.slice none 0 0],.bool true]) (by simp[results,Tryz.results115,go_sem,k0,k1,k2,k3,k4]) rfl ?_;rw[HX.out];exact⟨⟨_,_,_,_,_,_,_,_,_,rfl,mP _ _ 0 0 aH⟩,sP eY gJ aX hR⟩
  by_cases yh:ag (ints s) p=116
  ·skip
   rw[yh]at pk bg;have ct:Calls Tryz.prog 140 #[.pointer (some ⟨R,0,none⟩),.string ⟨#[116,114,117,101]⟩] (w.alloc zJ) fun x w'=>wu (w.alloc zJ) w' R s (word (ints s) [116,114,117,101] p) x:=Ah uM (by omega) ⟨#[116,114,117,101]⟩ (by decide)
   cases hv:word (ints s) [116,114,117,101] p with
   | bad er la=>
    have HX:Hid (value (ints s) (d+1) p=.bad er la):=by unfold value;rw[if_pos hb,if_neg vN,if_pos yh,hv];rfl
    rw[hv]at ct;unfold zJ at c1 pk bg ct;go_enter Tryz.func115,Tryz.ntmps115;go_wp2_with(first
     | (go_at_call 138;refine pk.mono ?_;rintro x w' ⟨rfl,rfl⟩)
     | (go_at_call 139;refine bg.mono ?_;rintro x w' ⟨rfl,rfl⟩)
     | (go_at_call 140;refine ct.mono ?_;rintro x w3 ⟨rfl,⟨⟨q3,gJ⟩,eY⟩⟩
        have bn:=bR eY hR;obtain⟨i0,i1,i2,i3,i4⟩:=ai bn;obtain⟨z0,z1,z2,z3,z4⟩:=aF bn))
    have h5:=aK bn (.int .i64 1) (.int .i64 1) (.string ⟨#[]⟩) (.slice none 0 0) (.slice none 0 0);have aX:aj (One w.heap.size) w3 _:=aJ w3 w.heap.size (.int .i64 1) (.int .i64 1) (.string ⟨#[]⟩) (.slice none 0 0) (.slice none 0 0);unfold bF at h5 aX;obtain⟨k0,k1,k2,k3,k4⟩:=ai h5;refine bodyPost_ret (v:=.tuple #[.agg #[.int .i64 1,.int .i64 1,.string ⟨#[]⟩,.slice none 0 0,.slice none 0 0],.bool false]) (by simp[results,Tryz.results115,go_sem,k0,k1,k2,k3,k4]) rfl ?_;rw[HX.out];exact⟨⟨1,1,aH,rfl⟩,kH eY gJ aX hR⟩
   | ok u qv=>
    have HX:Hid (value (ints s) (d+1) p=.ok (.mk 1 1 aH [] []) qv):=by unfold value;rw[if_pos hb,if_neg vN,if_pos yh,hv];rfl
    rw[hv]at ct;unfold zJ at c1 pk bg ct;go_enter Tryz.func115,Tryz.ntmps115;go_wp2_with(first
     | (go_at_call 138;refine pk.mono ?_;rintro x w' ⟨rfl,rfl⟩)
     | (go_at_call 139;refine bg.mono ?_;rintro x w' ⟨rfl,rfl⟩)
     | (go_at_call 140;refine ct.mono ?_;rintro x w3 ⟨rfl,⟨⟨e3,l3,gJ⟩,eY⟩⟩
        have bn:=bR eY hR;obtain⟨i0,i1,i2,i3,i4⟩:=ai bn;obtain⟨z0,z1,z2,z3,z4⟩:=aF bn))
    have h5:=aK bn (.int .i64 1) (.int .i64 1) (.string ⟨#[]⟩) (.slice none 0 0) (.slice none 0 0);have aX:aj (One w.heap.size) w3 _:=aJ w3 w.heap.size (.int .i64 1) (.int .i64 1) (.string ⟨#[]⟩) (.slice none 0 0) (.slice none 0 0);unfold bF at h5 aX;obtain⟨k0,k1,k2,k3,k4⟩:=ai h5;refine bodyPost_ret (v:=.tuple #[.agg #[.int .i64 1,.int .i64 1,.string ⟨#[]⟩,.slice none 0 0,.slice none 0 0],.bool true]) (by simp[results,Tryz.results115,go_sem,k0,k1,k2,k3,k4]) rfl ?_;rw[HX.out];exact⟨⟨_,_,_,_,_,_,_,_,_,rfl,mP _ _ 1 1 aH⟩,sP eY gJ aX hR⟩
  by_cases BS:ag (ints s) p=102
  ·skip
   rw[BS]at pk bg;have ct:Calls Tryz.prog 140 #[.pointer (some ⟨R,0,none⟩),.string ⟨#[102,97,108,115,101]⟩] (w.alloc zJ) fun x w'=>wu (w.alloc zJ) w' R s (word (ints s) [102,97,108,115,101] p) x:=Ah uM (by omega) ⟨#[102,97,108,115,101]⟩ (by decide)
   cases hv:word (ints s) [102,97,108,115,101] p with
   | bad er la=>
    have HX:Hid (value (ints s) (d+1) p=.bad er la):=by unfold value;rw[if_pos hb,if_neg vN,if_neg yh,if_pos BS,hv];rfl
    rw[hv]at ct;unfold zJ at c1 pk bg ct;go_enter Tryz.func115,Tryz.ntmps115;go_wp2_with(first
     | (go_at_call 138;refine pk.mono ?_;rintro x w' ⟨rfl,rfl⟩)
     | (go_at_call 139;refine bg.mono ?_;rintro x w' ⟨rfl,rfl⟩)
     | (go_at_call 140;refine ct.mono ?_;rintro x w3 ⟨rfl,⟨⟨q3,gJ⟩,eY⟩⟩
        have bn:=bR eY hR;obtain⟨i0,i1,i2,i3,i4⟩:=ai bn;obtain⟨z0,z1,z2,z3,z4⟩:=aF bn))
    have h5:=aK bn (.int .i64 1) (.int .i64 0) (.string ⟨#[]⟩) (.slice none 0 0) (.slice none 0 0);have aX:aj (One w.heap.size) w3 _:=aJ w3 w.heap.size (.int .i64 1) (.int .i64 0) (.string ⟨#[]⟩) (.slice none 0 0) (.slice none 0 0);unfold bF at h5 aX;obtain⟨k0,k1,k2,k3,k4⟩:=ai h5;refine bodyPost_ret (v:=.tuple #[.agg #[.int .i64 1,.int .i64 0,.string ⟨#[]⟩,.slice none 0 0,.slice none 0 0],.bool false]) (by simp[results,Tryz.results115,go_sem,k0,k1,k2,k3,k4]) rfl ?_;rw[HX.out];exact⟨⟨1,0,aH,rfl⟩,kH eY gJ aX hR⟩
   | ok u qv=>
    have HX:Hid (value (ints s) (d+1) p=.ok (.mk 1 0 aH [] []) qv):=by unfold value;rw[if_pos hb,if_neg vN,if_neg yh,if_pos BS,hv];rfl
    rw[hv]at ct;unfold zJ at c1 pk bg ct;go_enter Tryz.func115,Tryz.ntmps115;go_wp2_with(first
     | (go_at_call 138;refine pk.mono ?_;rintro x w' ⟨rfl,rfl⟩)
     | (go_at_call 139;refine bg.mono ?_;rintro x w' ⟨rfl,rfl⟩)
     | (go_at_call 140;refine ct.mono ?_;rintro x w3 ⟨rfl,⟨⟨e3,l3,gJ⟩,eY⟩⟩
        have bn:=bR eY hR;obtain⟨i0,i1,i2,i3,i4⟩:=ai bn;obtain⟨z0,z1,z2,z3,z4⟩:=aF bn))
    have h5:=aK bn (.int .i64 1) (.int .i64 0) (.string ⟨#[]⟩) (.slice none 0 0) (.slice none 0 0);have aX:aj (One w.heap.size) w3 _:=aJ w3 w.heap.size (.int .i64 1) (.int .i64 0) (.string ⟨#[]⟩) (.slice none 0 0) (.slice none 0 0);unfold bF at h5 aX;obtain⟨k0,k1,k2,k3,k4⟩:=ai h5;refine bodyPost_ret (v:=.tuple #[.agg #[.int .i64 1,.int .i64 0,.string ⟨#[]⟩,.slice none 0 0,.slice none 0 0],.bool true]) (by simp[results,Tryz.results115,go_sem,k0,k1,k2,k3,k4]) rfl ?_;rw[HX.out];exact⟨⟨_,_,_,_,_,_,_,_,_,rfl,mP _ _ 1 0 aH⟩,sP eY gJ aX hR⟩
  by_cases Xy:ag (ints s) p=34
  ·skip
   rw[Xy]at pk bg;have ct:=Av uM hs bJ
   cases hv:quoted (ints s) p with
   | bad er la=>
    have HX:Hid (value (ints s) (d+1) p=.bad er la):=by unfold value;rw[if_pos hb,if_neg vN,if_neg yh,if_neg BS,if_pos Xy,hv];rfl
    rw[hv]at ct;unfold zJ at c1 pk bg ct;go_enter Tryz.func115,Tryz.ntmps115;go_wp2_with(first
     | (go_at_call 138;refine pk.mono ?_;rintro x w' ⟨rfl,rfl⟩)
     | (go_at_call 139;refine bg.mono ?_;rintro x w' ⟨rfl,rfl⟩)
     | (go_at_call 141;refine ct.mono ?_;rintro x w3 ⟨rfl,⟨⟨q3,gJ⟩,eY⟩⟩
        unfold aH;have bn:=bR eY hR;obtain⟨i0,i1,i2,i3,i4⟩:=ai bn;obtain⟨z0,z1,z2,z3,z4⟩:=aF bn))
    have h5:=aK bn (.int .i64 3) (.int .i64 0) (.string ⟨#[]⟩) (.slice none 0 0) (.slice none 0 0);have aX:aj (One w.heap.size) w3 _:=aJ w3 w.heap.size (.int .i64 3) (.int .i64 0) (.string ⟨#[]⟩) (.slice none 0 0) (.slice none 0 0);unfold bF at h5 aX;obtain⟨k0,k1,k2,k3,k4⟩:=ai h5;refine bodyPost_ret (v:=.tuple #[.agg #[.int .i64 3,.int .i64 0,.string ⟨#[]⟩,.slice none 0 0,.slice none 0 0],.bool false]) (by simp[results,Tryz.results115,go_sem,k0,k1,k2,k3,k4]) rfl ?_;rw[HX.out];exact⟨⟨3,0,aH,rfl⟩,kH eY gJ aX hR⟩
   | ok cq qv=>
    have HX:Hid (value (ints s) (d+1) p=.ok (.mk 3 0 (strOfNums cq) [] []) qv):=by unfold value;rw[if_pos hb,if_neg vN,if_neg yh,if_neg BS,if_pos Xy,hv];rfl
    rw[hv]at ct;unfold zJ at c1 pk bg ct;go_enter Tryz.func115,Tryz.ntmps115;go_wp2_with(first
     | (go_at_call 138;refine pk.mono ?_;rintro x w' ⟨rfl,rfl⟩)
     | (go_at_call 139;refine bg.mono ?_;rintro x w' ⟨rfl,rfl⟩)
     | (go_at_call 141;refine ct.mono ?_;rintro x w3 ⟨rfl,⟨⟨e3,l3,gJ⟩,eY⟩⟩
        have bn:=bR eY hR;obtain⟨i0,i1,i2,i3,i4⟩:=ai bn;obtain⟨z0,z1,z2,z3,z4⟩:=aF bn))
    have h5:=aK bn (.int .i64 3) (.int .i64 0) (.string (strOfNums cq)) (.slice none 0 0) (.slice none 0 0);have aX:aj (One w.heap.size) w3 _:=aJ w3 w.heap.size (.int .i64 3) (.int .i64 0) (.string (strOfNums cq)) (.slice none 0 0) (.slice none 0 0);unfold bF at h5 aX;obtain⟨k0,k1,k2,k3,k4⟩:=ai h5;refine bodyPost_ret (v:=.tuple #[.agg #[.int .i64 3,.int .i64 0,.string (strOfNums cq),.slice none 0 0,.slice none 0 0],.bool true]) (by simp[results,Tryz.results115,go_sem,k0,k1,k2,k3,k4]) rfl ?_;rw[HX.out];exact⟨⟨_,_,_,_,_,_,_,_,_,rfl,mP _ _ 3 0 (strOfNums cq)⟩,sP eY gJ aX hR⟩
  by_cases ZP:ag (ints s) p=91
  ·skip
   rw[ZP]at pk bg;have ct:=Sg V uM hs bJ HD.out (by omega)
   cases hv:lu (ints s) (value (ints s) d) p with
   | bad er la=>
    have HX:Hid (value (ints s) (d+1) p=.bad er la):=by unfold value;rw[if_pos hb,if_neg vN,if_neg yh,if_neg BS,if_neg Xy,if_pos ZP,hv];rfl
    rw[hv]at ct;unfold zJ at c1 pk bg ct;go_enter Tryz.func115,Tryz.ntmps115;go_wp2_with(first
     | (go_at_call 138;refine pk.mono ?_;rintro x w' ⟨rfl,rfl⟩)
     | (go_at_call 139;refine bg.mono ?_;rintro x w' ⟨rfl,rfl⟩)
     | (go_at_call 142;refine ct.mono ?_;rintro x w3 ⟨⟨kv,iv,tv,rfl⟩,⟨q3,gJ⟩,eY⟩
        unfold flat;have bn:=bR eY hR;obtain⟨i0,i1,i2,i3,i4⟩:=ai bn;obtain⟨z0,z1,z2,z3,z4⟩:=aF bn))
    have h5:=aK bn (.int .i64 kv) (.int .i64 iv) (.string tv) (.slice none 0 0) (.slice none 0 0);have aX:aj (One w.heap.size) w3 _:=aJ w3 w.heap.size (.int .i64 kv) (.int .i64 iv) (.string tv) (.slice none 0 0) (.slice none 0 0);unfold bF at h5 aX;obtain⟨k0,k1,k2,k3,k4⟩:=ai h5;refine bodyPost_ret (v:=.tuple #[.agg #[.int .i64 kv,.int .i64 iv,.string tv,.slice none 0 0,.slice none 0 0],.bool false]) (by simp[results,Tryz.results115,go_sem,k0,k1,k2,k3,k4]) rfl ?_;rw[HX.out];exact⟨⟨kv,iv,tv,rfl⟩,kH eY gJ aX hR⟩
   | ok jv qv=>
    have HX:Hid (value (ints s) (d+1) p=.ok jv qv):=by unfold value;rw[if_pos hb,if_neg vN,if_neg yh,if_neg BS,if_neg Xy,if_pos ZP,hv];rfl
    rw[hv]at ct;unfold zJ at c1 pk bg ct;go_enter Tryz.func115,Tryz.ntmps115;go_wp2_with(first
     | (go_at_call 138;refine pk.mono ?_;rintro x w' ⟨rfl,rfl⟩)
     | (go_at_call 139;refine bg.mono ?_;rintro x w' ⟨rfl,rfl⟩)
     | (go_at_call 142;refine ct.mono ?_;rintro x w3 ⟨⟨kv,iv,tv,Cb,nk,ck,pl,nl,cl,rfl,hj⟩,⟨e3,l3,gJ⟩,eY⟩
        have bn:=bR eY hR;obtain⟨i0,i1,i2,i3,i4⟩:=ai bn;obtain⟨z0,z1,z2,z3,z4⟩:=aF bn))
    have h5:=aK bn (.int .i64 kv) (.int .i64 iv) (.string tv) (.slice Cb nk ck) (.slice pl nl cl);have aX:aj (One w.heap.size) w3 _:=aJ w3 w.heap.size (.int .i64 kv) (.int .i64 iv) (.string tv) (.slice Cb nk ck) (.slice pl nl cl);unfold bF at h5 aX;obtain⟨k0,k1,k2,k3,k4⟩:=ai h5;refine bodyPost_ret (v:=.tuple #[.agg #[.int .i64 kv,.int .i64 iv,.string tv,.slice Cb nk ck,.slice pl nl cl],.bool true]) (by simp[results,Tryz.results115,go_sem,k0,k1,k2,k3,k4]) rfl ?_;rw[HX.out];exact⟨⟨_,_,_,_,_,_,_,_,_,rfl,NN hj aX⟩,sP eY gJ aX hR⟩
  by_cases UT:ag (ints s) p=123
  ·skip
   rw[UT]at pk bg;have ct:=Pz V uM hs bJ HD.out (by omega)
   cases hv:iG (ints s) (value (ints s) d) p with
   | bad er la=>
    have HX:Hid (value (ints s) (d+1) p=.bad er la):=by unfold value;rw[if_pos hb,if_neg vN,if_neg yh,if_neg BS,if_neg Xy,if_neg ZP,if_pos UT,hv];rfl
    rw[hv]at ct;unfold zJ at c1 pk bg ct;go_enter Tryz.func115,Tryz.ntmps115;go_wp2_with(first
     | (go_at_call 138;refine pk.mono ?_;rintro x w' ⟨rfl,rfl⟩)
     | (go_at_call 139;refine bg.mono ?_;rintro x w' ⟨rfl,rfl⟩)
     | (go_at_call 143;refine ct.mono ?_;rintro x w3 ⟨⟨kv,iv,tv,rfl⟩,⟨q3,gJ⟩,eY⟩
        unfold flat;have bn:=bR eY hR;obtain⟨i0,i1,i2,i3,i4⟩:=ai bn;obtain⟨z0,z1,z2,z3,z4⟩:=aF bn))
    have h5:=aK bn (.int .i64 kv) (.int .i64 iv) (.string tv) (.slice none 0 0) (.slice none 0 0);have aX:aj (One w.heap.size) w3 _:=aJ w3 w.heap.size (.int .i64 kv) (.int .i64 iv) (.string tv) (.slice none 0 0) (.slice none 0 0);unfold bF at h5 aX;obtain⟨k0,k1,k2,k3,k4⟩:=ai h5;refine bodyPost_ret (v:=.tuple #[.agg #[.int .i64 kv,.int .i64 iv,.string tv,.slice none 0 0,.slice none 0 0],.bool false]) (by simp[results,Tryz.results115,go_sem,k0,k1,k2,k3,k4]) rfl ?_;rw[HX.out];exact⟨⟨kv,iv,tv,rfl⟩,kH eY gJ aX hR⟩
   | ok jv qv=>
    have HX:Hid (value (ints s) (d+1) p=.ok jv qv):=by unfold value;rw[if_pos hb,if_neg vN,if_neg yh,if_neg BS,if_neg Xy,if_neg ZP,if_pos UT,hv];rfl
    rw[hv]at ct;unfold zJ at c1 pk bg ct;go_enter Tryz.func115,Tryz.ntmps115;go_wp2_with(first
     | (go_at_call 138;refine pk.mono ?_;rintro x w' ⟨rfl,rfl⟩)
     | (go_at_call 139;refine bg.mono ?_;rintro x w' ⟨rfl,rfl⟩)
     | (go_at_call 143;refine ct.mono ?_;rintro x w3 ⟨⟨kv,iv,tv,Cb,nk,ck,pl,nl,cl,rfl,hj⟩,⟨e3,l3,gJ⟩,eY⟩
        have bn:=bR eY hR;obtain⟨i0,i1,i2,i3,i4⟩:=ai bn;obtain⟨z0,z1,z2,z3,z4⟩:=aF bn))
    have h5:=aK bn (.int .i64 kv) (.int .i64 iv) (.string tv) (.slice Cb nk ck) (.slice pl nl cl);have aX:aj (One w.heap.size) w3 _:=aJ w3 w.heap.size (.int .i64 kv) (.int .i64 iv) (.string tv) (.slice Cb nk ck) (.slice pl nl cl);unfold bF at h5 aX;obtain⟨k0,k1,k2,k3,k4⟩:=ai h5;refine bodyPost_ret (v:=.tuple #[.agg #[.int .i64 kv,.int .i64 iv,.string tv,.slice Cb nk ck,.slice pl nl cl],.bool true]) (by simp[results,Tryz.results115,go_sem,k0,k1,k2,k3,k4]) rfl ?_;rw[HX.out];exact⟨⟨_,_,_,_,_,_,_,_,_,rfl,NN hj aX⟩,sP eY gJ aX hR⟩
  have ct:=kK uM hs hp
  cases hv:number (ints s) p with
  | bad er la=>
   have HX:Hid (value (ints s) (d+1) p=.bad er la):=by unfold value;rw[if_pos hb,if_neg vN,if_neg yh,if_neg BS,if_neg Xy,if_neg ZP,if_neg UT,hv];rfl
   rw[hv]at ct;unfold zJ at c1 pk bg ct;go_enter Tryz.func115,Tryz.ntmps115;go_wp2_with(first
    | (go_at_call 138;refine pk.mono ?_;rintro x w' ⟨rfl,rfl⟩)
    | (go_at_call 139;refine bg.mono ?_;rintro x w' ⟨rfl,rfl⟩)
    | (go_at_call 144;refine ct.mono ?_;rintro x w3 ⟨⟨kv,iv,tv,rfl⟩,⟨q3,gJ⟩,eY⟩
       unfold flat;have bn:=bR eY hR;obtain⟨i0,i1,i2,i3,i4⟩:=ai bn;obtain⟨z0,z1,z2,z3,z4⟩:=aF bn))
   have h5:=aK bn (.int .i64 kv) (.int .i64 iv) (.string tv) (.slice none 0 0) (.slice none 0 0);have aX:aj (One w.heap.size) w3 _:=aJ w3 w.heap.size (.int .i64 kv) (.int .i64 iv) (.string tv) (.slice none 0 0) (.slice none 0 0);unfold bF at h5 aX;obtain⟨k0,k1,k2,k3,k4⟩:=ai h5;refine bodyPost_ret (v:=.tuple #[.agg #[.int .i64 kv,.int .i64 iv,.string tv,.slice none 0 0,.slice none 0 0],.bool false]) (by simp[results,Tryz.results115,go_sem,k0,k1,k2,k3,k4]) rfl ?_;rw[HX.out];exact⟨⟨kv,iv,tv,rfl⟩,kH eY gJ aX hR⟩
  | ok jv qv=>
   have HX:Hid (value (ints s) (d+1) p=.ok jv qv):=by unfold value;rw[if_pos hb,if_neg vN,if_neg yh,if_neg BS,if_neg Xy,if_neg ZP,if_neg UT,hv];rfl
   rw[hv]at ct;unfold zJ at c1 pk bg ct;go_enter Tryz.func115,Tryz.ntmps115;go_wp2_with(first
    | (go_at_call 138;refine pk.mono ?_;rintro x w' ⟨rfl,rfl⟩)
    | (go_at_call 139;refine bg.mono ?_;rintro x w' ⟨rfl,rfl⟩)
    | (go_at_call 144;refine ct.mono ?_;rintro x w3 ⟨⟨kv,iv,tv,Cb,nk,ck,pl,nl,cl,rfl,hj⟩,⟨e3,l3,gJ⟩,eY⟩
       have bn:=bR eY hR;obtain⟨i0,i1,i2,i3,i4⟩:=ai bn;obtain⟨z0,z1,z2,z3,z4⟩:=aF bn))
   have h5:=aK bn (.int .i64 kv) (.int .i64 iv) (.string tv) (.slice Cb nk ck) (.slice pl nl cl);have aX:aj (One w.heap.size) w3 _:=aJ w3 w.heap.size (.int .i64 kv) (.int .i64 iv) (.string tv) (.slice Cb nk ck) (.slice pl nl cl);unfold bF at h5 aX;obtain⟨k0,k1,k2,k3,k4⟩:=ai h5;refine bodyPost_ret (v:=.tuple #[.agg #[.int .i64 kv,.int .i64 iv,.string tv,.slice Cb nk ck,.slice pl nl cl],.bool true]) (by simp[results,Tryz.results115,go_sem,k0,k1,k2,k3,k4]) rfl ?_;rw[HX.out];exact⟨⟨_,_,_,_,_,_,_,_,_,rfl,NN hj aX⟩,sP eY gJ aX hR⟩
theorem reads:∀d,d<=12->Reads d
 | 0,_=>KV
 | d+1,h=>KW (reads d (by omega)) h
theorem SN{w w2 w3 w5:World}{R:Nat}{j:J}{cs:List Value}{o:Obj}(h2:w.heap.size<=w2.heap.size)(hR:R<w2.heap.size)(hj:isJ (fB w2 w3) w3 j cs)(qX:aj (One R) (w3.alloc o) w5):isJ (fB w w5) w5 j cs:=by
 have hs:=qX.size;simp at hs;refine hj.carry fun k hk=> ?_;have h1:=hk.1;have h3:=hk.2;exact⟨⟨by omega,by omega⟩,by rw[qX.block k (by simp;omega) (by unfold One;omega),Below.heap_alloc _ _ _ h3]⟩
theorem PC{w:World}{R:Nat}{s:ByteArray}{e l:Int}(hr:eQ w R s 0 e l)(hs:short s):
    Calls Tryz.prog 80 #[.pointer (some ⟨R,0,none⟩)] w fun x w'=>wy w w' R s (whole (ints s)) x:=by
 have fI:=hs;unfold short at fI;have hR:=hr.lt;have uM:eQ (w.alloc zJ) R s 0 e l:=hr.bf (S:=fun _=>False) ((aj.refl _ _).alloc _) (fun h=>h);have bI:=fu (t:=ints s) (p:=0) (by simp);rw[ax]at bI;have mZ:=pW (ints s) 12 (aG (ints s) 0) (by rw[ax];exact bI);have hV:=fun(wv:World) (e l:Int) (h:eQ wv R s (aG (ints s) 0) e l)=>reads 12 (Nat.le_refl _) wv R (aG (ints s) 0) s e l 1 h hs bI rfl;unfold zJ at uM
 cases hv:value (ints s) 12 (aG (ints s) 0)with
 | bad er la=>
  have HX:Hid (whole (ints s)=.bad er la):=by unfold whole;rw[hv];rfl
  rw[hv]at hV;go_enter Tryz.func80,Tryz.ntmps80;go_wp2_with(first
   | (go_at_call 114;refine(bC uM hs (Nat.zero_le _)).mono ?_;rintro x w2 ⟨rfl,⟨⟨e2,l2,qR⟩,iX⟩⟩)
   | (go_at_call 115;refine(hV _ _ _ qR).mono ?_;rintro x w3 ⟨⟨kv,iv,tv,rfl⟩,⟨q3,gJ⟩,eY⟩
      unfold flat;have KX:eQ (w3.alloc (.cells #[.int .i64 kv,.int .i64 iv,.string tv,.slice none 0 0,.slice none 0 0] 25)) R s q3 er la:=gJ.bf (S:=fun _=>False) ((aj.refl _ _).alloc _) (fun h=>h);have se:aj (One R) (w.alloc zJ) (w3.alloc (.cells #[.int .i64 kv,.int .i64 iv,.string tv,.slice none 0 0,.slice none 0 0] 25)):=(iX.then eY).alloc _;have bn:=bR se hR;obtain⟨i0,i1,i2,i3,i4⟩:=ai bn;obtain⟨z0,z1,z2,z3,z4⟩:=aF bn))
  have h5:=aK bn (.int .i64 0) (.int .i64 0) (.string ⟨#[]⟩) (.slice none 0 0) (.slice none 0 0);have aX:aj (One w.heap.size) (w3.alloc (.cells #[.int .i64 kv,.int .i64 iv,.string tv,.slice none 0 0,.slice none 0 0] 25)) _:=aJ (w3.alloc (.cells #[.int .i64 kv,.int .i64 iv,.string tv,.slice none 0 0,.slice none 0 0] 25)) w.heap.size (.int .i64 0) (.int .i64 0) (.string ⟨#[]⟩) (.slice none 0 0) (.slice none 0 0);unfold bF at h5 aX;obtain⟨k0,k1,k2,k3,k4⟩:=ai h5;refine bodyPost_ret (v:=.tuple #[.agg #[.int .i64 0,.int .i64 0,.string ⟨#[]⟩,.slice none 0 0,.slice none 0 0],.bool false]) (by simp[results,Tryz.results80,go_sem,k0,k1,k2,k3,k4]) rfl ?_;rw[HX.out];exact⟨⟨0,0,aH,rfl⟩,kH se KX aX hR⟩
 | ok jv qv=>
  rw[hv]at hV mZ;have hqv:qv<=s.size:=by have:=mZ.2;rw[ax]at this;exact this
  clear mZ
  by_cases ht:aG (ints s) qv<s.size
  ·have HX:Hid (whole (ints s)=.bad 16 (aG (ints s) qv)):=by unfold whole;rw[hv];show(if _ then _ else _)=_;rw[ax,if_pos ht]
   go_enter Tryz.func80,Tryz.ntmps80;go_wp2_with(first
    | (go_at_call 114;refine(bC KX hs hqv).mono ?_;rintro x w5 ⟨rfl,⟨⟨e5,l5,Dy⟩,qX⟩⟩
       have c0:=Dy.c0;have c1:=Dy.c1)
    | (go_at_call 114;refine(bC uM hs (Nat.zero_le _)).mono ?_;rintro x w2 ⟨rfl,⟨⟨e2,l2,qR⟩,iX⟩⟩)
    | (go_at_call 115;refine(hV _ _ _ qR).mono ?_;rintro x w3 ⟨⟨kv,iv,tv,pk,nk,ck,pl,nl,cl,rfl,hj⟩,⟨e3,l3,gJ⟩,eY⟩
       have KX:eQ (w3.alloc (.cells #[.int .i64 kv,.int .i64 iv,.string tv,.slice pk nk ck,.slice pl nl cl] 25)) R s qv e3 l3:=gJ.bf (S:=fun _=>False) ((aj.refl _ _).alloc _) (fun h=>h)))
   go_quiet (fail);have zd3:eQ (w5.drewN nq) R s (aG (ints s) qv) e5 l5:=Dy;go_wp2_with(first
    | (go_at_call 116;refine(gu zd3 16 (aG (ints s) qv:Nat)).mono ?_;rintro x w6 ⟨rfl,rR,o7⟩
       have se:aj (One R) (w.alloc zJ) w6:=(((iX.then eY).alloc (.cells #[.int .i64 kv,.int .i64 iv,.string tv,.slice pk nk ck,.slice pl nl cl] 25)).then (qX.drewN nq)).then o7;have bn:=bR se hR;obtain⟨i0,i1,i2,i3,i4⟩:=ai bn;obtain⟨z0,z1,z2,z3,z4⟩:=aF bn))
   have h5:=aK bn (.int .i64 0) (.int .i64 0) (.string ⟨#[]⟩) (.slice none 0 0) (.slice none 0 0);have aX:aj (One w.heap.size) w6 _:=aJ w6 w.heap.size (.int .i64 0) (.int .i64 0) (.string ⟨#[]⟩) (.slice none 0 0) (.slice none 0 0);unfold bF at h5 aX;obtain⟨k0,k1,k2,k3,k4⟩:=ai h5;refine bodyPost_ret (v:=.tuple #[.agg #[.int .i64 0,.int .i64 0,.string ⟨#[]⟩,.slice none 0 0,.slice none 0 0],.bool false]) (by simp[results,Tryz.results80,go_sem,k0,k1,k2,k3,k4]) rfl ?_;rw[HX.out];exact⟨⟨0,0,aH,rfl⟩,kH se rR aX hR⟩
  ·have HX:Hid (whole (ints s)=.ok jv (aG (ints s) qv)):=by unfold whole;rw[hv];show(if _ then _ else _)=_;rw[ax,if_neg ht]
   go_enter Tryz.func80,Tryz.ntmps80;go_wp2_with(first
    | (go_at_call 114;refine(bC KX hs hqv).mono ?_;rintro x w5 ⟨rfl,⟨⟨e5,l5,Dy⟩,qX⟩⟩
       have c0:=Dy.c0;have c1:=Dy.c1)
    | (go_at_call 114;refine(bC uM hs (Nat.zero_le _)).mono ?_;rintro x w2 ⟨rfl,⟨⟨e2,l2,qR⟩,iX⟩⟩)
    | (go_at_call 115;refine(hV _ _ _ qR).mono ?_;rintro x w3 ⟨⟨kv,iv,tv,pk,nk,ck,pl,nl,cl,rfl,hj⟩,⟨e3,l3,gJ⟩,eY⟩
       have KX:eQ (w3.alloc (.cells #[.int .i64 kv,.int .i64 iv,.string tv,.slice pk nk ck,.slice pl nl cl] 25)) R s qv e3 l3:=gJ.bf (S:=fun _=>False) ((aj.refl _ _).alloc _) (fun h=>h)))
   go_quiet (fail);have qX:=qX.drewN nq;have Dy:eQ (w5.drewN nq) R s (aG (ints s) qv) e5 l5:=Dy;have se:aj (One R) (w.alloc zJ) (w5.drewN nq):=((iX.then eY).alloc (.cells #[.int .i64 kv,.int .i64 iv,.string tv,.slice pk nk ck,.slice pl nl cl] 25)).then qX;have hvb:(w5.drewN nq).heap[w3.heap.size]?=some (.cells #[.int .i64 kv,.int .i64 iv,.string tv,.slice pk nk ck,.slice pl nl cl] 25 (0,0)):=bR qX (by have:=iX.size;have:=eY.size;simp at*;omega);obtain⟨j0,j1,j2,j3,j4⟩:=ai hvb;have bn:=bR se hR;obtain⟨i0,i1,i2,i3,i4⟩:=ai bn;obtain⟨z0,z1,z2,z3,z4⟩:=aF bn;go_wp2;have h5:=aK bn (.int .i64 kv) (.int .i64 iv) (.string tv) (.slice pk nk ck) (.slice pl nl cl);have aX:aj (One w.heap.size) (w5.drewN nq) _:=aJ (w5.drewN nq) w.heap.size (.int .i64 kv) (.int .i64 iv) (.string tv) (.slice pk nk ck) (.slice pl nl cl);unfold bF at h5 aX;obtain⟨k0,k1,k2,k3,k4⟩:=ai h5;refine bodyPost_ret (v:=.tuple #[.agg #[.int .i64 kv,.int .i64 iv,.string tv,.slice pk nk ck,.slice pl nl cl],.bool true]) (by simp[results,Tryz.results80,go_sem,k0,k1,k2,k3,k4]) rfl ?_;rw[HX.out];exact⟨⟨_,_,_,_,_,_,_,_,_,rfl,NN (SN iX.size (by have:=iX.size;simp at this;omega) hj qX) aX⟩,sP se Dy aX hR⟩
def SQ(s:ByteArray)(i:Nat):Bool:=decide (ag (ints s) i=239/\ag (ints s) (i+1)=191/\ag (ints s) (i+2)=189)
theorem KY{l:List UInt8}{n:Nat}(h:n+3<=l.length):(l.drop n).take 3= [l[n],l[n+1],l[n+2]]:=by
 rw[List.drop_eq_getElem_cons (by omega),List.drop_eq_getElem_cons (i:=n+1) (by omega),List.drop_eq_getElem_cons (i:=n+2) (by omega)]
 rfl
theorem EZ(a:UInt8)(n:Nat)(hn:n<256):((a.toNat:Int)=(n:Int))↔a=UInt8.ofNat n:=by
 constructor
 ·intro h
  apply UInt8.toNat_inj.1
  have:a.toNat=n:=by omega
  rw[this];simp;omega
 ·intro h;subst h;simp;omega
theorem ZQ(s:ByteArray)(i:Nat):decide ((s.data.toList.drop i).take 3= [239,191,189])=SQ s i:=by
 unfold SQ;rw[decide_eq_decide];have hl:s.data.toList.length=s.size:=by simp
 by_cases h:i+3<=s.size
 ·rw[KY (by omega),zt s i (by omega),zt s (i+1) (by omega),zt s (i+2) (by omega)];have e1:=EZ s[i] 239 (by omega);have e2:=EZ s[i+1] 191 (by omega);have e3:=EZ s[i+2] 189 (by omega);have g:∀k (hk:k<s.size),s.data.toList[k]'(by omega)=s[k]:=fun k hk=>by simp[ByteArray.getElem_eq_getElem_data]
  rw[g i (by omega),g (i+1) (by omega),g (i+2) (by omega)];simp only[List.cons.injEq,and_true];exact and_congr e1.symm (and_congr e2.symm e3.symm)
 ·constructor
  ·intro h';have:=congrArg List.length h';simp at this;omega
  ·intro h';have:=lS s (i+2) (by omega);omega
theorem SS(s:ByteArray)(i:Nat):(((s.extract i s.size).extract 0 3).toList== [239,191,189])=SQ s i:=by
 rw[<-ZQ,Lib.toList_data,ByteArray.data_extract,Array.toList_extract,ByteArray.data_extract,Array.toList_extract];simp only[List.extract_eq_take_drop,List.drop_zero,Nat.sub_zero];have:(s.data.toList.drop i).take (s.size - i)=s.data.toList.drop i:=List.take_of_length_le (by simp);rw[this,Bool.eq_iff_iff];simp only[beq_iff_eq,decide_eq_true_eq]
theorem SV(s:ByteArray)(i:Nat)(w:World)(hi:i<=s.size)(hs:s.size<=1000000000):
    Calls Tryz.prog 137 #[.string (s.extract i s.size),.string ⟨#[239,191,189]⟩] w fun e w'=>e=.returned (.bool (SQ s i))/\w=w':=by
 have h1:=SS s i;have hu:(s.extract i s.size).size=s.size - i:=by simp
 by_cases h:i+3<=s.size
 ·obtain⟨u,hu'⟩:∃u,s.extract i s.size=u:=⟨_,rfl⟩;rw[hu']at h1 hu ⊢;have hu1:3<=u.size:=by omega
  have hu2:u.size<=1000000000:=by omega
  clear hu hu'
  cases hb:SQ s i
  all_goals
   rw[hb]at h1;go_enter Tryz.func137,Tryz.ntmps137;go_wp2;go_ret;exact⟨rfl,rfl⟩
 ·have hF:SQ s i=false:=by
    unfold SQ
    apply decide_eq_false
    intro h';have:=lS s (i+2) (by omega);omega
  rw[hF];obtain⟨u,hu'⟩:∃u,s.extract i s.size=u:=⟨_,rfl⟩;rw[hu']at h1 hu ⊢;have hu1:u.size<3:=by omega
  clear hu hu' h1;go_enter Tryz.func137,Tryz.ntmps137;go_wp2;go_ret;exact⟨rfl,rfl⟩
theorem AL(s:ByteArray)(i:Nat)(w:World)(hi:i<=s.size)(hs:s.size<=1000000000):
    Calls Tryz.prog 113 #[.string (s.extract i s.size),.string ⟨#[239,191,189]⟩] w fun e w'=>e=.returned (.bool (SQ s i))/\w=w':=by
 go_enter Tryz.func113,Tryz.ntmps113;go_wp2_with(go_at_call 137;refine(SV s i _ hi hs).mono ?_;rintro x w' ⟨rfl,rfl⟩);go_ret;exact⟨rfl,rfl⟩
def PD(r:Option Nat)(x:Ending):Prop:=match r with
 | none=>x=.returned (.tuple #[.int .i64 0,.bool false])
 | some p=>x=.returned (.tuple #[.int .i64 p,.bool true])
theorem DI(s:ByteArray)(w:World)(hs:s.size<=1000000000):
    Calls Tryz.prog 79 #[.string s] w fun x w'=>PD (gU (ints s)) x/\∃pos,w'=w.iter s pos:=by
 go_enter Tryz.func79,Tryz.ntmps79;go_wp2
 go_loopw [4] (fun _ wr=>∃(pos m:Nat),wr=w.iter s pos/\strayL (ints s) m pos=gU (ints s)/\s.size<=pos+m) (fun _ wr=>s.size - wr.iterPos w.heap.size)
 case atStart=>exact⟨0,s.size,rfl,by unfold gU;rw[ax],by omega⟩
 case round=>
  obtain⟨pos,m,rfl,hc,hb⟩:=hrel;have HC:Hid (strayL (ints s) m pos=gU (ints s)):=hc;clear hc
  by_cases hp:pos<s.size
  ·have GQ:∀ty,(Instr.next (.pointer (some ⟨w.heap.size,0,none⟩)) true ty).run Tryz.prog (w.iter s pos)=_:=fun ty=>run_next_any w s pos ty hp;have rX:=si s pos;obtain⟨m,rfl⟩:∃m',m=m'+1:=⟨m - 1,by omega⟩;unfold strayL at HC;rw[ax,if_pos hp]at HC
   by_cases h0:(bL (ints s) pos).2=0
   ·rw[if_pos h0]at HC rX;have hF:SQ s pos=false:=by
     unfold SQ
     apply decide_eq_false
     rintro⟨a,b,c⟩;rw[xq _ _ a b c]at h0
     cases h0
    have pf:=fun w'=>AL s pos w' (by omega) hs;rw[hF]at pf;rw[rX]at GQ;go_wp2_with(go_at_call 113;refine(pf _).mono ?_;rintro x w' ⟨rfl,rfl⟩);go_ret2;rw[<-HC.out];exact⟨rfl,_,rfl⟩
   ·rw[if_neg h0]at HC rX;have F5:=zL (ints s) pos
    by_cases hr:(bL (ints s) pos).1=65533
    ·have hF:SQ s pos=true:=decide_eq_true (Np (ints s) pos (jV s) h0 hr);have pf:=fun w'=>AL s pos w' (by omega) hs;rw[hF]at pf;rw[hr]at rX;rw[rX]at GQ;obtain⟨wd,XT⟩:∃wd,(bL (ints s) pos).2=wd:=⟨_,rfl⟩;rw[XT]at GQ HC h0 F5;clear rX XT;go_wp2_with(go_at_call 113;refine(pf _).mono ?_;rintro x w' ⟨rfl,rfl⟩);go_roundw
     case rel=>exact⟨pos+wd,m,rfl,HC.out,by omega⟩
     case measure=>simp;omega
    ·obtain⟨c,hcn⟩:∃c,(bL (ints s) pos).1.toNat=c:=⟨_,rfl⟩;have GI:(c:Int)≠65533:=by omega
     rw[hcn]at rX;rw[rX]at GQ;obtain⟨wd,XT⟩:∃wd,(bL (ints s) pos).2=wd:=⟨_,rfl⟩;rw[XT]at GQ HC h0 F5;clear rX XT hcn;go_wp2;go_roundw
     case rel=>exact⟨pos+wd,m,rfl,HC.out,by omega⟩
     case measure=>simp;omega
  ·have GQ:∀ty,(Instr.next (.pointer (some ⟨w.heap.size,0,none⟩)) true ty).run Tryz.prog (w.iter s pos)=_:=fun ty=>run_next_end w s pos ty hp;go_wp2;go_ret2;have hn:strayL (ints s) m pos=none:=by
    cases m with
    | zero=>rfl
    | succ m=>unfold strayL;rw[ax,if_neg hp]
   rw[<-HC.out,hn];exact⟨rfl,_,rfl⟩
def decode(t:List Int):Res J:=if 16384<t.length then .bad 13 16384 else match gU t with
 | some p=>.bad 10 p
 | none=>whole t
def VT(w w':World)(r:Res J)(x:Ending):Prop:=match r with
 | .ok j _=>(∃k i t pk nk ck pl nl cl,x=.returned (.tuple #[.agg #[.int .i64 k,.int .i64 i,.string t,.slice pk nk ck,.slice pl nl cl],.int .i64 0,.int .i64 0])/\isJ (fB w w') w' j [.int .i64 k,.int .i64 i,.string t,.slice pk nk ck,.slice pl nl cl])/\Below w.heap.size w w'
 | .bad e l=>x=.returned (.tuple #[.agg (flat 0 0 aH),.int .i64 e,.int .i64 l])/\Below w.heap.size w w'
theorem PE{B:Nat}{w:World}{p:Option Addr}{c:Nat}{rs:List Int}(h:Rd B w p c rs):
    (convert 40 9 (.slice p rs.length c)).run Tryz.prog w=.ok (.string (strOfNums rs)) w:=by
 cases p with
 | none=>
  have h0:rs= []:=by
   cases rs with
   | nil=>rfl
   | cons x r=>obtain⟨a,ha,_⟩:=h.2.2 0 (by simp);cases ha
  subst h0;exact run_convert_bytes_nil w 40 5 Tryz.underlying40 Tryz.underlying5 0 c 9 Tryz.underlying9
 | some a=>
  have:=run_convert_bytes_back (P:=Tryz.prog) w 40 9 5 a c (rs.map fun n=>UInt8.ofNat n.toNat) Tryz.underlying40 Tryz.underlying5 Tryz.underlying9 (fun j hj=>by
   have zQ:j<rs.length:=by simpa using hj
   obtain⟨a',ha,_,hc⟩:=h.2.2 j zQ
   cases ha
   rw[hc,List.getElem_map];have hb:=h.2.1 rs[j] (List.getElem_mem zQ);have hx:rs[j].toNat<256:=by omega
   rw[UInt8.toNat_ofNat_of_lt' hx,List.getD_eq_getElem?_getD,List.getElem?_eq_getElem zQ]
   congr 2
   simp;omega)
  rw[List.length_map]at this;exact this
theorem Kn{w:World}{B:Nat}{v:Value}{L:List Int}(h:w.ownsRow B 5 1 v L.length (L.map (Value.int .u8)))(hL:∀x∈L,0<=x/\x<=255):∃q cq,v=.slice q L.length cq/\Rd w.heap.size w q cq L:=by
 rcases h.2 with⟨rfl,hn⟩| ⟨g,cap,cur,rfl,hg,xn,h1,h2,h3,h4⟩
 ·obtain rfl:L= []:=List.eq_nil_of_length_eq_zero hn;exact⟨none,0,rfl,Nat.le_refl _,hL,fun j hj=>by simp at hj⟩
 ·refine⟨_,cap,rfl,h1,hL,fun j hj=>⟨_,rfl,(Array.getElem?_eq_some_iff.1 xn).1, ?_⟩⟩;have e:(⟨g,0,none⟩:Addr).add j=⟨g,j,none⟩:=by unfold Addr.add;split<;>simp_all
  rw[e,h.cellAt j (by omega),List.getElem?_map,List.getElem?_eq_getElem hj,List.getD_eq_getElem?_getD,List.getElem?_eq_getElem hj]
  rfl
theorem xG{w w3 W5:World}{o o':Obj}{R:Nat}(hR:R=w.heap.size+1)(hk:aj (One R) ((w.alloc o).alloc o') w3)(aX:aj (One w.heap.size) w3 W5):Below w.heap.size w W5:=by
 subst hR;have k1:aj (fun _=>False) w ((w.alloc o).alloc o'):=((aj.refl _ _).alloc _).alloc _;have k2:=k1.trans hk (S:=fun _=>False) fun i hi h=>by unfold One at h;omega
 have k3:=k2.trans aX (S:=fun _=>False) fun i hi h=>by unfold One at h;omega
 exact k3.below (Nat.le_refl _) fun _ _ h=>h
theorem E5{w w3:World}{o':Obj}{cs:Array Value}(hk:aj (One (w.heap.size+1)) ((w.alloc (.cells cs 25)).alloc o') w3):w3.heap[w.heap.size]?=some (.cells cs 25 (0,0)):=by
 rw[hk.block w.heap.size (by simp;omega) (fun h=>by unfold One at h;omega),Below.heap_alloc _ _ _ (by simp)];exact heap_alloc_new _ _
theorem VU(w:World)(s:ByteArray)(pos:Nat):eQ (((w.alloc zJ).alloc (.cells #[.string s,.int .i64 0,.int .i64 0,.int .i64 0] 95)).iter s pos) (w.heap.size+1) s 0 0 0:=by
 unfold eQ World.iter;rw[Below.heap_alloc _ _ _ (by simp)];have:=heap_alloc_new (w.alloc zJ) (.cells #[.string s,.int .i64 0,.int .i64 0,.int .i64 0] 95);rw[show(w.alloc zJ).heap.size=w.heap.size+1 by simp]at this;exact this
theorem za6{w w1 w3 W5:World}{o2:Obj}{j:J}{cs:List Value}(hj:isJ (fB w1 w3) w3 j cs)(aX:aj (One w.heap.size) (w3.alloc o2) W5)(h1:w.heap.size<w1.heap.size):isJ (fB w W5) W5 j cs:=by
 have hs:=aX.size;simp at hs;refine hj.carry fun k hk=> ?_;have g1:=hk.1;have g2:=hk.2;exact⟨⟨by omega,by omega⟩,by rw[aX.block k (by simp;omega) (by unfold One;omega),Below.heap_alloc _ _ _ g2]⟩
theorem KZ{w:World}{p:Option Addr}{c:Nat}{rs:List Int}(l_:Rd w.heap.size w p c rs)(hn:rs.length<=1000000):
    Calls Tryz.prog 40 #[.slice p rs.length c] w fun x w'=>VT w w' (decode rs) x:=by
 obtain⟨n,hln⟩:∃n,rs.length=n:=⟨_,rfl⟩
 by_cases kU:16384<n
 ·have HX:Hid (decode rs=.bad 13 16384):=by unfold decode;rw[hln,if_pos kU];rfl
  rw[hln];have XU:=heap_alloc_new w zJ;unfold zJ at XU;have bn:(w.alloc (.cells #[.int .i64 0,.int .i64 0,.string ⟨#[]⟩,.slice none 0 0,.slice none 0 0] 25)).heap[w.heap.size]?=some (.cells #[.int .i64 0,.int .i64 0,.string ⟨#[]⟩,.slice none 0 0,.slice none 0 0] 25 (0,0)):=XU;go_enter Tryz.func40,Tryz.ntmps40;go_wp2;obtain⟨k0,k1,k2,k3,k4⟩:=ai bn;refine bodyPost_ret (v:=.tuple #[.agg #[.int .i64 0,.int .i64 0,.string ⟨#[]⟩,.slice none 0 0,.slice none 0 0],.int .i64 13,.int .i64 16384]) (by simp[results,Tryz.results40,go_sem,k0,k1,k2,k3,k4]) rfl ?_;rw[HX.out];exact⟨rfl,(Below.refl _ _).alloc (Nat.le_refl _) _⟩
 ·have hcv:(convert 40 9 (.slice p n c)).run Tryz.prog (w.alloc zJ)=.ok (.string (strOfNums rs)) (w.alloc zJ):=by
    rw[<-hln];exact PE (B:=w.heap.size) ⟨l_.1,l_.2.1,fun j hj=>by
     obtain⟨a,ha,hB,hc⟩:=l_.2.2 j hj;exact⟨a,ha,hB,(World.cell?_of_block (by rw[aY];exact Below.heap_alloc _ _ _ hB)).trans hc⟩⟩
  have zcS:ints (strOfNums rs)=rs:=vU rs l_.2.1;have zd4:(strOfNums rs).size=n:=by rw[fF];exact hln
  have F6:Hid (decode rs=match gU (ints (strOfNums rs))with| some p=>.bad 10 p| none=>whole (ints (strOfNums rs))):=by unfold decode;rw[hln,if_neg kU,zcS];rfl
  rw[hln];obtain⟨s,hs'⟩:∃s,strOfNums rs=s:=⟨_,rfl⟩;rw[hs']at hcv F6 zd4;clear hs' zcS;have hs:short s:=by unfold short;omega
  have sa:=fun w'=>DI s w' (by omega);have kg:=VU w s;unfold zJ at hcv kg
  cases lV:gU (ints s)with
  | some at1=>
   have HX:Hid (decode rs=.bad 10 at1):=by rw[F6.out,lV];rfl
   rw[lV]at sa;clear F6;go_enter Tryz.func40,Tryz.ntmps40;go_wp2_with(first
    | (go_at_call 79;refine(sa _).mono ?_;rintro x w1 ⟨rfl,pos,rfl⟩
       have se:aj (One (w.heap.size+1)) ((w.alloc (.cells #[.int .i64 0,.int .i64 0,.string ⟨#[]⟩,.slice none 0 0,.slice none 0 0] 25)).alloc (.cells #[.string s,.int .i64 0,.int .i64 0,.int .i64 0] 95)) (((w.alloc (.cells #[.int .i64 0,.int .i64 0,.string ⟨#[]⟩,.slice none 0 0,.slice none 0 0] 25)).alloc (.cells #[.string s,.int .i64 0,.int .i64 0,.int .i64 0] 95)).iter s pos):=(aj.refl _ _).alloc _;have bn:=E5 se;obtain⟨i0,i1,i2,i3,i4⟩:=ai bn;obtain⟨z0,z1,z2,z3,z4⟩:=aF bn))
   have h5:=aK bn (.int .i64 0) (.int .i64 0) (.string ⟨#[]⟩) (.slice none 0 0) (.slice none 0 0);have aX:aj (One w.heap.size) (((w.alloc (.cells #[.int .i64 0,.int .i64 0,.string ⟨#[]⟩,.slice none 0 0,.slice none 0 0] 25)).alloc (.cells #[.string s,.int .i64 0,.int .i64 0,.int .i64 0] 95)).iter s pos) _:=aJ (((w.alloc (.cells #[.int .i64 0,.int .i64 0,.string ⟨#[]⟩,.slice none 0 0,.slice none 0 0] 25)).alloc (.cells #[.string s,.int .i64 0,.int .i64 0,.int .i64 0] 95)).iter s pos) w.heap.size (.int .i64 0) (.int .i64 0) (.string ⟨#[]⟩) (.slice none 0 0) (.slice none 0 0);unfold bF at h5 aX;obtain⟨k0,k1,k2,k3,k4⟩:=ai h5;refine bodyPost_ret (v:=.tuple #[.agg #[.int .i64 0,.int .i64 0,.string ⟨#[]⟩,.slice none 0 0,.slice none 0 0],.int .i64 10,.int .i64 at1]) (by simp[results,Tryz.results40,go_sem,k0,k1,k2,k3,k4]) rfl ?_;rw[HX.out];exact⟨rfl,xG rfl se aX⟩
  | none=>
   rw[lV]at sa;have F6:Hid (decode rs=whole (ints s)):=by rw[F6.out,lV];rfl
   have hW:=fun pos=>PC (kg pos) hs
   cases hv:whole (ints s)with
   | bad er la=>
    have HX:Hid (decode rs=.bad er la):=by rw[F6.out,hv];rfl
    rw[hv]at hW;clear F6;go_enter Tryz.func40,Tryz.ntmps40;go_wp2_with(first
     | (go_at_call 79;refine(sa _).mono ?_;rintro x w1 ⟨rfl,pos,rfl⟩)
     | (go_at_call 80;refine(hW _).mono ?_;rintro x w3 ⟨⟨kv,iv,tv,rfl⟩,⟨q3,gJ⟩,eY⟩
        unfold flat;have se:aj (One (w.heap.size+1)) ((w.alloc (.cells #[.int .i64 0,.int .i64 0,.string ⟨#[]⟩,.slice none 0 0,.slice none 0 0] 25)).alloc (.cells #[.string s,.int .i64 0,.int .i64 0,.int .i64 0] 95)) (w3.alloc (.cells #[.int .i64 kv,.int .i64 iv,.string tv,.slice none 0 0,.slice none 0 0] 25)):=(((aj.refl _ _).alloc _).then eY).alloc _;have KX:eQ (w3.alloc (.cells #[.int .i64 kv,.int .i64 iv,.string tv,.slice none 0 0,.slice none 0 0] 25)) (w.heap.size+1) s q3 er la:=gJ.bf (S:=fun _=>False) ((aj.refl _ _).alloc _) (fun h=>h);have bn:=E5 se))
    refine aD (by kernel_rfl) (fun w'=>eQ w' (w.heap.size+1) s q3 er la) ?_;change wpIn _ _ _ _ _ _ _ _ (World.drew _);have fE:eQ (w3.alloc (.cells #[.int .i64 kv,.int .i64 iv,.string tv,.slice none 0 0,.slice none 0 0] 25)).drew (w.heap.size+1) s q3 er la:=KX;have se:=se.drew;have bn:(w3.alloc (.cells #[.int .i64 kv,.int .i64 iv,.string tv,.slice none 0 0,.slice none 0 0] 25)).drew.heap[w.heap.size]?=some (.cells #[.int .i64 0,.int .i64 0,.string ⟨#[]⟩,.slice none 0 0,.slice none 0 0] 25 (0,0)):=bn;generalize (w3.alloc (.cells #[.int .i64 kv,.int .i64 iv,.string tv,.slice none 0 0,.slice none 0 0] 25)).drew=W0 at fE se bn ⊢;obtain⟨i0,i1,i2,i3,i4⟩:=ai bn;obtain⟨z0,z1,z2,z3,z4⟩:=aF bn;refine aB (i:=0) (d:=some 32) rfl (by(intro wq hq;have q2:=eQ.c2 hq;have q3:=eQ.c3 hq;go_simp;first| done| with_reducible rfl)) ?_;refine aB (i:=1) (d:=some 33) rfl (by(intro wq hq;have q2:=eQ.c2 hq;have q3:=eQ.c3 hq;go_simp;first| done| with_reducible rfl)) ?_;refine aB (i:=2) (d:=some 34) rfl (by(intro wq hq;have q2:=eQ.c2 hq;have q3:=eQ.c3 hq;go_simp;first| done| with_reducible rfl)) ?_;refine aB (i:=3) (d:=some 35) rfl (by(intro wq hq;have q2:=eQ.c2 hq;have q3:=eQ.c3 hq;go_simp;first| done| with_reducible rfl)) ?_;refine aB (i:=4) (d:=some 36) rfl (by(intro wq hq;have q2:=eQ.c2 hq;have q3:=eQ.c3 hq;go_simp;first| done| with_reducible rfl)) ?_;refine ak (i:=5) fE rfl ?_;intro K hK;go_simp;refine hK _ _ ?_;clear hK K;have HK6:aj (One w.heap.size) W0 _:=aJ W0 w.heap.size (.int .i64 0) (.int .i64 0) (.string ⟨#[]⟩) (.slice none 0 0) (.slice none 0 0);have h_:=fE.bf HK6 (by unfold One;omega);unfold bF at h_ HK6;refine aa (i:=6) (d:=some 3) rfl ?_;refine aa (i:=7) (d:=some 4) rfl ?_;refine aA h_ (by kernel_rfl) ?_ _;go_wp2;have h5:=aK bn (.int .i64 0) (.int .i64 0) (.string ⟨#[]⟩) (.slice none 0 0) (.slice none 0 0);have aX:aj (One w.heap.size) W0 _:=aJ W0 w.heap.size (.int .i64 0) (.int .i64 0) (.string ⟨#[]⟩) (.slice none 0 0) (.slice none 0 0);unfold bF at h5 aX;obtain⟨k0,k1,k2,k3,k4⟩:=ai h5;refine bodyPost_ret (v:=.tuple #[.agg #[.int .i64 0,.int .i64 0,.string ⟨#[]⟩,.slice none 0 0,.slice none 0 0],.int .i64 er,.int .i64 la]) (by simp[results,Tryz.results40,go_sem,k0,k1,k2,k3,k4]) rfl ?_;rw[HX.out];exact⟨rfl,xG rfl se aX⟩
   | ok jv qv=>
    have HX:Hid (decode rs=.ok jv qv):=by rw[F6.out,hv];rfl
    rw[hv]at hW;clear F6;go_enter Tryz.func40,Tryz.ntmps40;go_wp2_with(first
     | (go_at_call 79;refine(sa _).mono ?_;rintro x w1 ⟨rfl,pos,rfl⟩)
     | (go_at_call 80;refine(hW _).mono ?_;rintro x w3 ⟨⟨kv,iv,tv,pk,nk,ck,pl,nl,cl,rfl,hj⟩,⟨e3,l3,gJ⟩,eY⟩
        have se:aj (One (w.heap.size+1)) ((w.alloc (.cells #[.int .i64 0,.int .i64 0,.string ⟨#[]⟩,.slice none 0 0,.slice none 0 0] 25)).alloc (.cells #[.string s,.int .i64 0,.int .i64 0,.int .i64 0] 95)) (w3.alloc (.cells #[.int .i64 kv,.int .i64 iv,.string tv,.slice pk nk ck,.slice pl nl cl] 25)):=(((aj.refl _ _).alloc _).then eY).alloc _;have hvb:(w3.alloc (.cells #[.int .i64 kv,.int .i64 iv,.string tv,.slice pk nk ck,.slice pl nl cl] 25)).heap[w3.heap.size]?=some (.cells #[.int .i64 kv,.int .i64 iv,.string tv,.slice pk nk ck,.slice pl nl cl] 25 (0,0)):=heap_alloc_new _ _;have bn:=E5 se;obtain⟨i0,i1,i2,i3,i4⟩:=ai bn;obtain⟨z0,z1,z2,z3,z4⟩:=aF bn))
    have h5:=aK bn (.int .i64 kv) (.int .i64 iv) (.string tv) (.slice pk nk ck) (.slice pl nl cl);have aX:aj (One w.heap.size) (w3.alloc (.cells #[.int .i64 kv,.int .i64 iv,.string tv,.slice pk nk ck,.slice pl nl cl] 25)) _:=aJ (w3.alloc (.cells #[.int .i64 kv,.int .i64 iv,.string tv,.slice pk nk ck,.slice pl nl cl] 25)) w.heap.size (.int .i64 kv) (.int .i64 iv) (.string tv) (.slice pk nk ck) (.slice pl nl cl);unfold bF at h5 aX;obtain⟨k0,k1,k2,k3,k4⟩:=ai h5;refine bodyPost_ret (v:=.tuple #[.agg #[.int .i64 kv,.int .i64 iv,.string tv,.slice pk nk ck,.slice pl nl cl],.int .i64 0,.int .i64 0]) (by simp[results,Tryz.results40,go_sem,k0,k1,k2,k3,k4]) rfl ?_;rw[HX.out];exact⟨⟨_,_,_,_,_,_,_,_,_,rfl,za6 hj aX (by simp[World.iter];omega)⟩,xG rfl se aX⟩
structure NB(B K:Nat)(w w':World):Prop where
 os:w'.os=w.os
 tape:w'.tape=w.tape
 output:w'.output=w.output
 size:w.heap.size<=w'.heap.size
 block:∀k,k<w.heap.size->k≠K->(k<B\/ ∀cur fr,w.heap[k]?≠some (.cells cur 5 fr))->w'.heap[k]?=w.heap[k]?
theorem NB.refl(B K:Nat)(w:World):NB B K w w:=⟨rfl,rfl,rfl,Nat.le_refl _,fun _ _ _ _=>rfl⟩
theorem NB.trans{B K:Nat}{a b c:World}(h:NB B K a b)(g:NB B K b c):NB B K a c:=
 ⟨g.os.trans h.os,g.tape.trans h.tape,g.output.trans h.output,Nat.le_trans h.size g.size,fun k hk hn hs=>by
  have e:=h.block k hk hn hs;exact(g.block k (Nat.lt_of_lt_of_le hk h.size) hn (hs.imp id fun h' cur fr=>by rw[e];exact h' cur fr)).trans e⟩
theorem NB.alloc{B K:Nat}{a b:World}(h:NB B K a b)(o:Obj):NB B K a (b.alloc o):=
 h.trans ⟨rfl,rfl,rfl,by simp,fun k hk _ _=>Below.heap_alloc _ _ _ hk⟩
theorem NB.bf{B K:Nat}{a b:World}(h:aj (One K) a b):NB B K a b:=⟨h.os,h.tape,h.output,h.size,fun k hk hn _=>h.block k hk hn⟩
theorem NB.below{B K:Nat}{a b:World}(h:NB B K a b)(hK:K<=B)(hB:K<=a.heap.size):Below K a b:=⟨h.os,h.tape,h.output,h.size,fun k hk=>h.block k (by omega) (by omega) (.inl (by omega))⟩
structure Cc(w:World)(B K:Nat)(out:List Int):Prop where
 row:∃v,w.heap[K]?=some (.cells #[v] 92 (0,0))/\w.ownsRow B 5 1 v out.length (out.map (Value.int .u8))
 lt:K<B
 size:B<=w.heap.size
theorem DJ{w:World}{B n:Nat}{v:Value}{xs:List Value}(h:w.ownsRow B 5 1 v n xs):∀k,v.ownBlock=some k->B<=k/\∃cur fr,w.heap[k]?=some (.cells cur 5 fr):=by
 intro k hk
 rcases h.2 with⟨rfl,_⟩| ⟨g,cap,cur,rfl,hg,xn,_⟩
 ·cases hk
 ·cases hk;exact⟨hg,cur,_,xn⟩
theorem Cc.alloc{w:World}{B K:Nat}{out:List Int}(h:Cc w B K out)(o:Obj):Cc (w.alloc o) B K out:=by
 obtain⟨v,h1,h2⟩:=h.row;have:=h.lt;have:=h.size;exact⟨⟨v,by rw[Below.heap_alloc _ _ _ (by omega)];exact h1,h2.alloc o⟩,h.lt,by simp;omega⟩
theorem E8{w:World}{K:Nat}{v:Value}{t:TypeId}(h:w.heap[K]?=some (.cells #[v] t (0,0))):w.cell? ⟨K,0,none⟩=some v:=aR (cur:= [_]) h 0 _ rfl
def iJ(w w':World)(B K:Nat)(out s:List Int)(x:Ending):Prop:=x=.returned (.tuple #[])/\(∃vD,Ga out s vD/\vD.length<=20000/\Cc w' B K vD)/\NB B K w w'
theorem AO{w:World}{B K:Nat}{out:List Int}(h:Cc w B K out):
    Calls Tryz.prog 78 #[.pointer (some ⟨K,0,none⟩)] w fun x w'=>x=.returned (.bool (decide (16384<out.length)))/\w=w':=by
 obtain⟨v,h1,h2⟩:=h.row;obtain⟨q,c,rfl,_⟩:∃q c,v=.slice q out.length c/\True:=by
  rcases h2.2 with⟨rfl,hn⟩| ⟨g,cap,cur,rfl,_⟩
  ·exact⟨none,0,by rw[hn],trivial⟩
  ·exact⟨_,_,rfl,trivial⟩
 have c0:=E8 h1;obtain⟨n,hn⟩:∃n,out.length=n:=⟨_,rfl⟩;rw[hn]at c0 ⊢;go_enter Tryz.func78,Tryz.ntmps78;go_wp2;go_ret;refine⟨av ?_,rfl⟩;rw[decide_eq_decide];omega
theorem Cx(s:ByteArray):Lib.strCells s=(ints s).map (Value.int .u8):=by
 unfold Lib.strCells ints;simp
theorem jW{w:World}{B K:Nat}{out:List Int}(h:Cc w B K out)(ho:out.length<=20000)(s:ByteArray)(hs:s.size<=100):
    Calls Tryz.prog 107 #[.pointer (some ⟨K,0,none⟩),.string s] w fun x w'=>iJ w w' B K out (ints s) x:=by
 have hl:=AO h;have hP:=Ga.one out (ints s)
 by_cases kU:16384<out.length
 ·rw[decide_eq_true kU]at hl;rw[if_pos kU]at hP;go_enter Tryz.func107,Tryz.ntmps107;go_wp2_with(go_at_call 78;refine hl.mono ?_;rintro x w' ⟨rfl,rfl⟩)
  go_end0
  exact⟨rfl,⟨out,hP,ho,h⟩,NB.refl _ _ _⟩
 ·rw[decide_eq_false kU]at hl;rw[if_neg kU]at hP;obtain⟨v,h1,h2⟩:=h.row;have c0:=E8 h1;have hB:=h.size;have bJ:=h.lt;obtain⟨i0,hi,vZ,yo,zq⟩:=info_parts Tryz.Gn;go_enter Tryz.func107,Tryz.ntmps107;go_wp2_with(first
   | (go_at_call 78;refine hl.mono ?_;rintro x w' ⟨rfl,rfl⟩)
   | (at_builtin;refine Lib.wpList_append_own_string _ rfl _ _ 40 9 rfl B 5 i0 Tryz.underlying40 Tryz.underlying9 hi vZ yo zq _ _ _ rfl h2 s rfl ?c3 ?c4 ?c5 ?_
      case c3=>unfold maxLen;omega
      case c4=>omega
      case c5=>exact hB
      intro v' w2 aT hg _;have o6:=DJ h2;have hK2:w2.heap[K]?=some (.cells #[v] 92 (0,0)):=by
       rw[hg.block K (by omega) (fun e=>by have:=(o6 K e.symm).1;omega)];exact h1
      have d0:=E8 hK2;have z0:w2.frozen? ⟨K,0,none⟩=false:=frozen_of_row w2 K 0 _ _ hK2;obtain⟨q5,n5,c5,vC⟩:=fH aT;subst vC))
  go_end0
  have K3:aj (One K) w2 (w2.setCell ⟨K,0,none⟩ (.slice q5 n5 c5)):=aj.setCell (aj.refl _ _) (fun _=>(rfl:K=K)) _;refine⟨rfl,⟨out++ints s,hP,by rw[List.length_append,ax];omega,⟨⟨_,by rw[heap_setCell_same _ K 0 _ _ _ hK2];rfl, ?_⟩,bJ, ?_⟩⟩, ?_⟩
  ·rw[List.length_append,ax,List.map_append,<-Cx];exact bz aT K3 fun k e=>by have:=(DJ aT k e).1;unfold One;omega
  ·have:=hg.size;simp;omega
  ·refine NB.trans (b:=w2) ⟨hg.os,hg.tape,hg.output,hg.size,fun k hk hn hs'=>hg.block k hk fun e=> ?_⟩ (NB.bf K3);obtain⟨e1,cur,fr,e2⟩:=o6 k e.symm
   rcases hs' with h'| h'
   ·omega
   ·exact h' cur fr e2
theorem DK{w:World}{B K:Nat}{out:List Int}(hw:Cc w B K out)(ho:out.length<=20000)(i:Nat)(hi:i<=1000000):
    Calls Tryz.prog 136 #[.pointer (some ⟨K,0,none⟩),.int .i64 i] w fun x w'=>iJ w w' B K out (if i=0 then []else [44]) x:=by
 by_cases h0:i=0
 ·subst h0;go_enter Tryz.func136,Tryz.ntmps136;go_wp2
  go_end0
  exact⟨rfl,⟨out,Ga.nil _,ho,hw⟩,NB.refl _ _ _⟩
 ·have hp:0<i:=by omega
  have Hu:=jW hw ho ⟨#[44]⟩ (by decide);rw[if_neg h0];go_enter Tryz.func136,Tryz.ntmps136;go_wp2_with(go_at_call 107;refine Hu.mono ?_;rintro x w2 ⟨rfl,rZ⟩)
  go_end0
  exact⟨rfl,rZ⟩
end Go.Proofs.YtegcgbjjpgjnmaaGreatDoor
