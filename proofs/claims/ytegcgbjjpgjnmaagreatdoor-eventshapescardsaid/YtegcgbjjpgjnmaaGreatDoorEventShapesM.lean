/-
  EventShapes: whatever event there is, if it is small, its shape and its JSON are as the document says; and chapter 5's examples hold.
-/
import Derived.Test.YtegcgbjjpgjnmaaGreatDoorE28
set_option maxRecDepth 100000
set_option maxHeartbeats 16000000
namespace Go.Proofs.YtegcgbjjpgjnmaaGreatDoor
open Go.ChangeShapes Go.WideShapes Go.ChangeAt Go.RowKit
theorem zaG{H:Type}{enc:TypeId×Value->H}{W:World}{base:Nat}{v:Value}{d:DataW H}{p0:List MemPlace}(Xx:Value.okWide Tryz.prog W .any base 28 v)
    (h0:DataW.Trod enc Tryz.prog W 0 (fun _=>true) true 28 v d p0) (hw:Wt d 28):∃e p,v=ed e p/\mF (fun b=>b<W.heap.size) W e p/\Uy e:=by
 obtain⟨cs,rfl,_⟩:=okWide_struct Tryz.underlying28 Xx;obtain⟨gD,hf⟩:=h0;have hf':DataW.trod enc Tryz.prog W 0 (fun _=>true) true gD 28 cs.toList=some (d,p0):=by simpa [Value.cells]using hf
 obtain⟨e,p,Gr,hI,hB⟩:=zcG gD cs.toList _ hf' hw;refine⟨e,p, ?_,hI,hB⟩;unfold ed;rw[<-Gr]
theorem UR:laidOutB Tryz.prog=true:=by kernel_rfl
theorem vM(os:Os)(FX:os.Started)(H:Type)(enc:TypeId×Value->H):
    ReturnsInHanded {} Tryz.checked os 3 .any (fun w args=>(Rows.eventShapesSpec.pre enc Tryz.prog Tryz.f3 [] false w args/\laidMetH Tryz.prog tO w)/\sizedMet enc Tryz.prog Tryz.f3 (OpenSpec.ofChange Rows.eventShapesSpec) false w args)
     (Rows.eventShapesSpec.post enc Tryz.prog Tryz.f3 false true false false):=by
 refine returnsInHanded_of_change_and (C:=Tryz.checked) (X:=fun w _=>laidMetH Tryz.prog tO w) (fun _ _ _ hh h=>h.of_heap hh) zeK FX (by kernel_rfl) Tryz.func3
  (ChangeSpec.witness_shaped (enc:=enc) (C:=Tryz.checked) (os:=os) (X:=fun w _=>laidMetH Tryz.prog tO w) false (World.laidAll Tryz.prog os tO) #[.agg #[.string ⟨#[]⟩,.string ⟨#[]⟩,.string ⟨#[]⟩,.bool false,.string ⟨#[]⟩,.int .i64 0,.int .i64 0,.string ⟨#[]⟩,.slice none 0 0,.slice none 0 0,.slice none 0 0,.slice none 0 0,.int .i64 0,.int .i64 0,.string ⟨#[]⟩,.slice none 0 0]] 8 (World.laidAll_os _ _ _) (World.shaped_of_ZipB (by kernel_rfl) (by kernel_rfl)) (by kernel_rfl) (by kernel_rfl) (by kernel_rfl) (UL os _)) ?_
 intro W base args ds gs before Yn hW _ zcQ hL _;have fI:(DataW.weightsEach Tryz.prog (Tryz.f3.params.toList++Rows.eventShapesSpec.plain.varTypes Tryz.prog) (ds++gs)).all (· <=reachBytes)=true:=zcQ;clear zcQ;have Xx:∀(j:Nat) t v,Tryz.f3.params[j]?=some t->args[j]?=some v->Value.okWide Tryz.prog W .any base t v:=Yn;have hW':=hW;obtain⟨p,q,hA0,hV,rfl,_,_⟩:=hW;have hA:DataW.TrodAll enc Tryz.prog W 0 (fun _=>true) true Tryz.f3.params.toList args.toList ds p:=hA0;rw[Tryz.params3]at hA Xx fI;obtain⟨v0,d0,rfl,rfl,h0⟩:=trodAll_one hA;obtain⟨rfl,rfl⟩:=trodVars_none hV;clear hA0 Yn;simp only[List.append_nil]at hW';have bJ:∀x∈p,x.block<W.heap.size:=fun x hx=>by simpa using hW'.lt x hx
 obtain⟨e,pt,rfl,hI,hB⟩:=zaG (Xx 0 28 v0 rfl rfl) h0 (nM fI (j:=0) rfl rfl);have zcR:∀(W':World),Below W.heap.size W W'->DataW.Trod enc Tryz.prog W' 0 (fun b=>decide (b<W.heap.size)) true 28 (ed e pt) d0 p:=
  fun W' hn=>Below.trod UR (by kernel_rfl) (of_decide_eq_true (by kernel_rfl)) h0 hn bJ
 refine(JP e pt W hI hB (FV hL)).mono fun x W' ⟨he,GQ⟩=> ?_;subst he;exact⟨_,rfl,_,_,_, [],p, [],hW',trodAll_mk1 (shut_bool Tryz.underlying4 true),trodAll_mk1 (zcR _ GQ),rfl,GQ.frame _,fun h=>by cases h⟩
theorem xe:Rows.EventShapesSaid:=
 OpenClaim.holds_of_wide 3 Tryz.f3 rfl rfl rfl rfl rfl rfl rfl ⟨rfl,rfl,rfl,rfl,rfl⟩ rfl rfl rfl rfl rfl (by kernel_rfl) Tryz.func3 (by kernel_rfl)
  (of_decide_eq_true (by kernel_rfl)) (by unfold Func.isWrapper;first| (rw[if_pos (by decide+kernel)];kernel_rfl)| (rw[if_neg (by decide+kernel)];exact⟨rfl,rfl⟩))
  (fun os FX H enc _=>vM os FX H enc)
theorem eventShapes_card:Rows.EventShapesCardSaid:=
 Claim7.holds_tied_plain_at .later [] _ _ _ _
  xe (fun _ h=>by cases h) (by kernel_rfl) (fun _ h=>by cases h) eventShapes_row_tie rfl ⟨rfl,rfl⟩ (by kernel_rfl) rfl
  (fun f fn hf hfn=>by
   obtain rfl:f=3:=Option.some.inj ((show Tryz.prog.funcNamed "agora/agoralaw05.EventShapes" =some 3 by kernel_rfl).symm.trans hf) |>.symm;obtain rfl:fn=Tryz.f3:=(Option.some.inj (Tryz.func3.symm.trans hfn)).symm;exact⟨by kernel_rfl,fun j t ht=>by
    rw[Tryz.params3]at ht;have hm:t∈ [28]:=by simpa using Array.mem_of_getElem? ht
    have eO:([28].all fun u=> !Tryz.prog.wantsStandIn u)=true:=by kernel_rfl
    exact(show Tryz.prog.wantsStandIn t=false by simpa using List.all_eq_true.1 eO t hm)⟩)
  (by kernel_rfl)
end Go.Proofs.YtegcgbjjpgjnmaaGreatDoor
